package gate

import (
	"bytes"
	"encoding/hex"
	"fmt"
	"math"
	"math/rand"
	"reflect"
	"slices"
	"testing"

	"gangplank/api"
	"gangplank/ip4"
	"gangplank/ip6"
	"gangplank/pick"
	"gangplank/plain"
	"gangplank/proxy"
	"gangplank/seg"
)

const (
	near   = 0x0a000001
	first  = 0x0a000101 // the servers
	second = 0x0a000102
	far    = 0xc0000201 // a four that stands in the prefix
)

var (
	vip    = api.Six{0x2001, 0xdb8, 0, 0, 0, 0, 0, 1}
	client = api.Six{0x2001, 0xdb8, 0, 0, 0, 0, 0, 2}
	other  = api.Six{0x2001, 0xdb8, 0, 0, 0, 0, 0, 3}
	prefix = api.Six{0x64, 0xff9b}
	inside = api.Six{0x64, 0xff9b, 0, 0, 0, 0, 0xc000, 0x201}
)

// outside are numbers that no port, tick, seed or four is.
var outside = []int{-1, 1 << 32, 1<<32 + 80, 1 << 40, 1<<40 + 1, math.MinInt, math.MaxInt}

func config() api.Config {
	return api.Config{
		VIP: vip, Door: 80, Prefix: prefix, Len: 96, Near: near, Seed: 7, Blocks: 2, Inject: true,
		Backs: []api.Back{
			{ID: 1, Addr: first, Door: 8080, Weight: 1, Up: true},
			{ID: 2, Addr: second, Door: 8081, Weight: 1, Up: true},
		},
	}
}

func create(t *testing.T, c api.Config) *Gate {
	t.Helper()
	g, err := New(c)
	if g == nil || err != nil {
		t.Fatalf("New(%v): got %v, %v", c, g, err)
	}
	return g
}

// packet6 has a segment in it, of right checks.
func packet6(t *testing.T, src, dst api.Six, hop int, s api.Seg) []byte {
	t.Helper()
	over, err := seg.Over6(src, dst, s.Kind, sizeOf(s))
	if err != nil {
		t.Fatal(err)
	}
	body, err := seg.Encode(s, over)
	if err != nil {
		t.Fatal(err)
	}
	return raw6(t, api.Pack6{Src: src, Dst: dst, Hop: hop, Kind: s.Kind, Body: body})
}

// packet4 has a segment in it, of right checks.
func packet4(t *testing.T, src, dst, ttl int, s api.Seg) []byte {
	t.Helper()
	over, err := seg.Over4(src, dst, s.Kind, sizeOf(s))
	if err != nil {
		t.Fatal(err)
	}
	body, err := seg.Encode(s, over)
	if err != nil {
		t.Fatal(err)
	}
	return raw4(t, api.Pack4{Src: src, Dst: dst, TTL: ttl, Kind: s.Kind, ID: 4321, Body: body})
}

func sizeOf(s api.Seg) int {
	return map[int]int{6: 20, 17: 8}[s.Kind] + len(s.Data)
}

func raw6(t *testing.T, p api.Pack6) []byte {
	t.Helper()
	b, err := ip6.Encode(p)
	if err != nil {
		t.Fatal(err)
	}
	return b
}

func raw4(t *testing.T, p api.Pack4) []byte {
	t.Helper()
	b, err := ip4.Encode(p)
	if err != nil {
		t.Fatal(err)
	}
	return b
}

// read4 what went on to a server: all of it must be as it is written.
func read4(t *testing.T, b []byte) (api.Pack4, api.Seg) {
	t.Helper()
	p, err := ip4.Decode(b)
	if err != nil {
		t.Fatalf("what goes on: %v: %x", err, b)
	}
	over, err := seg.Over4(p.Src, p.Dst, p.Kind, len(p.Body))
	if err != nil {
		t.Fatal(err)
	}
	s, err := seg.Decode(p.Kind, p.Body, over)
	if err != nil {
		t.Fatalf("what goes on: %v: %x", err, b)
	}
	return p, s
}

// read6 what went on to a client: all of it must be as it is written.
func read6(t *testing.T, b []byte) (api.Pack6, api.Seg) {
	t.Helper()
	p, err := ip6.Decode(b)
	if err != nil {
		t.Fatalf("what goes on: %v: %x", err, b)
	}
	over, err := seg.Over6(p.Src, p.Dst, p.Kind, len(p.Body))
	if err != nil {
		t.Fatal(err)
	}
	s, err := seg.Decode(p.Kind, p.Body, over)
	if err != nil {
		t.Fatalf("what goes on: %v: %x", err, b)
	}
	return p, s
}

func same(a, b api.Seg) bool {
	return a.Kind == b.Kind && a.From == b.From && a.To == b.To && a.Seq == b.Seq && a.Ack == b.Ack &&
		a.Flags == b.Flags && a.Window == b.Window && bytes.Equal(a.Data, b.Data)
}

// expectUp: a client's packet, of Hop 64, goes on so.
func expectUp(t *testing.T, g *Gate, src, dst api.Six, s api.Seg, to int, want api.Seg) {
	t.Helper()
	b, err := g.In6(packet6(t, src, dst, 64, s))
	if err != nil {
		t.Fatalf("In6 of %v from %v to %v: %v", s, src, dst, err)
	}
	p, got := read4(t, b)
	if p.Src != near || p.Dst != to || p.TTL != 63 || p.ID != 0 || !same(got, want) {
		t.Fatalf("In6 of %v from %v to %v: got %v with %v; want %v to %x", s, src, dst, p, got, want, to)
	}
}

// expectDown: a server's packet, of TTL 64, goes on so.
func expectDown(t *testing.T, g *Gate, src int, s api.Seg, from, to api.Six, want api.Seg) {
	t.Helper()
	b, err := g.In4(packet4(t, src, near, 64, s))
	if err != nil {
		t.Fatalf("In4 of %v from %x: %v", s, src, err)
	}
	p, got := read6(t, b)
	if p.Src != from || p.Dst != to || p.Hop != 63 || !same(got, want) {
		t.Fatalf("In4 of %v from %x: got %v with %v; want %v from %v to %v", s, src, p, got, want, from, to)
	}
}

// refuse6: what is not taken is not answered, and changes no bind.
func refuse6(t *testing.T, g *Gate, b []byte, wrong api.Errno) {
	t.Helper()
	was := g.Binds()
	got, err := g.In6(b)
	if len(got) != 0 || plain.Told(err) != wrong {
		t.Fatalf("In6 of %x: got %x, %v; want %v alone", b, got, err, wrong)
	}
	expectBinds(t, g, was...)
}

func refuse4(t *testing.T, g *Gate, b []byte, wrong api.Errno) {
	t.Helper()
	was := g.Binds()
	got, err := g.In4(b)
	if len(got) != 0 || plain.Told(err) != wrong {
		t.Fatalf("In4 of %x: got %x, %v; want %v alone", b, got, err, wrong)
	}
	expectBinds(t, g, was...)
}

func expectBinds(t *testing.T, g *Gate, want ...api.Bind) {
	t.Helper()
	if got := g.Binds(); !slices.Equal(got, want) {
		t.Fatalf("Binds: got %v, want %v", got, want)
	}
}

func tick(t *testing.T, g *Gate, n int) {
	t.Helper()
	was := g.Now()
	if err := g.Tick(n); err != nil || g.Now() != was+n {
		t.Fatalf("Tick(%d) at %d: got %v, and Now is %d", n, was, err, g.Now())
	}
}

func bytesOf(t *testing.T, text string) []byte {
	t.Helper()
	b, err := hex.DecodeString(text)
	if err != nil {
		t.Fatal(err)
	}
	return b
}

func udp(from, to int, data string) api.Seg {
	return api.Seg{Kind: 17, From: from, To: to, Data: []byte(data)}
}

func tcp(from, to, seq, ack, flags int, data string) api.Seg {
	return api.Seg{Kind: 6, From: from, To: to, Seq: seq, Ack: ack, Flags: flags, Window: 500, Data: []byte(data)}
}

func ofLength(n int) string {
	b := make([]byte, n)
	for i := range b {
		b[i] = byte('A' + i%50)
	}
	return string(b)
}

// headOf a flow of TCP to the VIP, told anew here.
func headOf(src api.Six, port int) string {
	b := []byte("\r\n\r\n\x00\r\nQUIT\n\x21\x21\x00\x24")
	for _, x := range append(src[:], vip[:]...) {
		b = append(b, byte(x>>8), byte(x))
	}
	return string(append(b, byte(port>>8), byte(port), 0, 80))
}

// row is a packet that comes, and the one that goes on, every byte written out.
type row struct {
	in, out string
	up      bool
}

func expectRows(t *testing.T, rows []row) {
	t.Helper()
	g := create(t, config())
	for i, r := range rows {
		way := g.In4
		if r.up {
			way = g.In6
		}
		got, err := way(bytesOf(t, r.in))
		if hex.EncodeToString(got) != r.out || err != nil {
			t.Fatalf("row %d: got %x, %v; want %s", i, got, err, r.out)
		}
	}
}

func TestUDPByteByByte(t *testing.T) {
	expectRows(t, []row{
		{
			"60000000000a114020010db800000000000000000000000220010db800000000000000000000000100070050000a3ba56869",
			"4500001e000040003f1126ce0a0000010a00010104001f90000a5edf6869",
			true,
		},
		{
			"4500001f0000400009115ccd0a0001010a0000011f900400000bdae0796573",
			"60000000000b110820010db800000000000000000000000120010db800000000000000000000000200500007000bb7a6796573",
			false,
		},
	})
}

// TestAFourByteByByte: Hop 2 is just enough.
func TestAFourByteByByte(t *testing.T) {
	expectRows(t, []row{
		{
			"600000000014060220010db80000000000000000000000020064ff9b0000000000000000c0000201" +
				"9c4001bb000000050000000050020009221d0000",
			"45000028000040000106adce0a000001c0000201040001bb000000050000000050020009de170000",
			true,
		},
		{
			"4500002800004000ff06afcdc00002010a00000101bb04000000004d0000000650120008ddba0000",
			"60000000001406fe0064ff9b0000000000000000c000020120010db8000000000000000000000002" +
				"01bb9c400000004d000000065012000821c00000",
			false,
		},
	})
}

func TestTCPByteByByte(t *testing.T) {
	expectRows(t, []row{
		{
			"600000000014064020010db800000000000000000000000220010db8000000000000000000000001" +
				"9c400050000003e700000000500201f4b2020000",
			"45000028000040003f0626cf0a0000010a00010104001f90000003b300000000500201f471aa0000",
			true,
		},
		{
			"4500002800004000400625cf0a0001010a0000011f9004000000004d000003b45012025870e80000",
			"600000000014063f20010db800000000000000000000000120010db8000000000000000000000002" +
				"00509c400000004d000003e850120258b1400000",
			false,
		},
		{
			"600000000019064020010db800000000000000000000000220010db8000000000000000000000001" +
				"9c400050000003e80000004e501801f5c9ae0000626f647921",
			"45000061000040003f0626960a0000010a00010104001f90000003b40000004e501801f5a2110000" +
				"0d0a0d0a000d0a515549540a2121002420010db800000000000000000000000220010db8000000000000000000000001" +
				"9c400050626f647921",
			true,
		},
		{
			"4500002a00004000400625cd0a0001010a0000011f9004000000004e000003ed50100259084c00006861",
			"600000000016063f20010db800000000000000000000000120010db8000000000000000000000002" +
				"00509c400000004e000003ed5010025948d800006861",
			false,
		},
		{
			"600000000019064020010db800000000000000000000000220010db8000000000000000000000001" +
				"9c400050000003e800000050501801f5c9ac0000626f647921",
			"4500002d000040003f0626ca0a0000010a00010104001f90000003e800000050501801f589200000626f647921",
			true,
		},
	})
}

// fault is one thing that is wrong in a config.
type fault struct {
	name  string
	wrong api.Errno
	lay   func(*api.Config)
}

// faults in the order in which they are told.
func faults() []fault {
	return []fault{
		{"VIP", api.ErrRange, func(c *api.Config) { c.VIP[7] = 65536 }},
		{"Door", api.ErrRange, func(c *api.Config) { c.Door = 65536 }},
		{"Prefix's number", api.ErrRange, func(c *api.Config) { c.Prefix[0] = -1 }},
		{"Len", api.ErrRange, func(c *api.Config) { c.Len = 33 }},
		{"Prefix's shape", api.ErrShape, func(c *api.Config) { c.Prefix[6] = 1 }},
		{"Near", api.ErrRange, func(c *api.Config) { c.Near = -1 }},
		{"Seed", api.ErrRange, func(c *api.Config) { c.Seed = 1 << 31 }},
		{"Blocks", api.ErrRange, func(c *api.Config) { c.Blocks = 0 }},
		{"a server that clashes", api.ErrClash, func(c *api.Config) { c.Backs[1].ID = 1 }},
		{"VIP in Prefix", api.ErrShape, func(c *api.Config) { c.VIP[0], c.VIP[1] = c.Prefix[0], c.Prefix[1] }},
	}
}

func refuseConfig(t *testing.T, name string, c api.Config, wrong api.Errno) {
	t.Helper()
	if err := Check(c); plain.Told(err) != wrong {
		t.Errorf("Check, %s: got %v, want %v", name, err, wrong)
	}
	if g, err := New(c); g != nil || plain.Told(err) != wrong {
		t.Errorf("New, %s: got %v, %v; want %v alone", name, g, err, wrong)
	}
}

func expectConfig(t *testing.T, name string, c api.Config) {
	t.Helper()
	if err := Check(c); err != nil {
		t.Errorf("Check, %s: %v", name, err)
	}
	g, err := New(c)
	if g == nil || err != nil {
		t.Errorf("New, %s: got %v, %v", name, g, err)
		return
	}
	if g.Now() != 0 || len(g.Binds()) != 0 {
		t.Errorf("New, %s: Now is %d, Binds are %v", name, g.Now(), g.Binds())
	}
}

func TestConfigsThatAreWrong(t *testing.T) {
	expectConfig(t, "nothing is wrong", config())
	list := faults()
	for i, a := range list {
		c := config()
		a.lay(&c)
		refuseConfig(t, a.name, c, a.wrong)
		for _, b := range list[i+1:] {
			c := config()
			// The one of a later place is laid first, as it may be made of what another changes.
			b.lay(&c)
			a.lay(&c)
			refuseConfig(t, a.name+" and "+b.name, c, a.wrong)
		}
	}
}

func TestEdgesOfAConfig(t *testing.T) {
	number := []struct {
		name        string
		at          func(*api.Config) *int
		least, most int
	}{
		{"VIP", func(c *api.Config) *int { return &c.VIP[3] }, 0, 65535},
		{"Door", func(c *api.Config) *int { return &c.Door }, 0, 65535},
		{"Near", func(c *api.Config) *int { return &c.Near }, 0, 1<<32 - 1},
		{"Seed", func(c *api.Config) *int { return &c.Seed }, 0, 1<<31 - 1},
		{"Blocks", func(c *api.Config) *int { return &c.Blocks }, 1, 16},
		{"Addr", func(c *api.Config) *int { return &c.Backs[1].Addr }, 0, 1<<32 - 1},
		{"Weight", func(c *api.Config) *int { return &c.Backs[0].Weight }, 0, 10},
	}
	for _, n := range number {
		for _, x := range []int{n.least, n.least + 1, n.most - 1, n.most} {
			c := config()
			*n.at(&c) = x
			expectConfig(t, fmt.Sprint(n.name, " ", x), c)
		}
		wrong := append([]int{n.least - 1, n.most + 1, n.most + 1<<32, 1<<33 + n.least, -n.most}, math.MinInt, math.MaxInt)
		for _, x := range wrong {
			c := config()
			*n.at(&c) = x
			refuseConfig(t, fmt.Sprint(n.name, " ", x), c, api.ErrRange)
		}
	}
	for _, n := range []int{32, 40, 48, 56, 64, 96} {
		c := config()
		c.Len = n
		expectConfig(t, fmt.Sprint("Len ", n), c)
	}
	for _, n := range append([]int{0, 8, 31, 33, 72, 80, 88, 95, 97, 104, 128, 256 + 96}, outside...) {
		c := config()
		c.Len = n
		refuseConfig(t, fmt.Sprint("Len ", n), c, api.ErrRange)
	}
}

func TestServersOfAConfig(t *testing.T) {
	for n := range 11 {
		c := config()
		c.Backs = nil
		for i := range n {
			c.Backs = append(c.Backs, api.Back{ID: i})
		}
		if n <= 8 {
			expectConfig(t, fmt.Sprint(n, " servers"), c)
		} else {
			refuseConfig(t, fmt.Sprint(n, " servers"), c, api.ErrFull)
		}
	}
}

// TestVIPInPrefix: by the first Len bits, and no other.
func TestVIPInPrefix(t *testing.T) {
	for _, n := range []int{32, 40, 48, 56, 64, 96} {
		for bit := range 128 {
			c := config()
			c.Len = n
			c.VIP = prefix
			c.VIP[bit/16] ^= 1 << (15 - bit%16)
			name := fmt.Sprintf("Len %d, but for bit %d", n, bit)
			if bit < n {
				expectConfig(t, name, c)
			} else {
				refuseConfig(t, name, c, api.ErrShape)
			}
		}
	}
}

func TestAConfigIsNotKept(t *testing.T) {
	c := config()
	backs := append(c.Backs, api.Back{ID: 9, Door: 9})
	c.Backs = backs[:2]
	g := create(t, c)
	for range 2 {
		if err := g.Probe(1, false); err != nil {
			t.Fatal(err)
		}
		if err := g.Drain(2, true); err != nil {
			t.Fatal(err)
		}
	}
	want := append(config().Backs, api.Back{ID: 9, Door: 9})
	if !slices.Equal(backs, want) {
		t.Fatalf("the servers that were handed in: got %v, want %v", backs, want)
	}
	g = create(t, c)
	clear(c.Backs)
	expectUp(t, g, client, vip, udp(7, 80, "hi"), first, udp(1024, 8080, "hi"))
}

func TestGatesAreApart(t *testing.T) {
	c := config()
	a, b := create(t, c), create(t, c)
	if err := a.Probe(1, false); err != nil {
		t.Fatal(err)
	}
	tick(t, a, 5)
	expectUp(t, a, client, vip, udp(7, 80, ""), second, udp(1024, 8081, ""))
	expectUp(t, b, client, vip, udp(7, 80, ""), first, udp(1024, 8080, ""))
	if b.Now() != 0 {
		t.Fatalf("Now of the other: %d", b.Now())
	}
}

func TestTick(t *testing.T) {
	g := create(t, config())
	expectUp(t, g, client, vip, udp(7, 80, ""), first, udp(1024, 8080, ""))
	was := g.Binds()
	for _, n := range append([]int{1001, 1002, 2000, 65536, -1000}, outside...) {
		if err := g.Tick(n); plain.Told(err) != api.ErrRange || g.Now() != 0 {
			t.Fatalf("Tick(%d): got %v, Now %d; want ErrRange", n, err, g.Now())
		}
		expectBinds(t, g, was...)
	}
	for _, n := range []int{0, 1, 0, 28} {
		tick(t, g, n)
		expectBinds(t, g, was...)
	}
	tick(t, g, 1)
	expectBinds(t, g)
	tick(t, g, 999)
	tick(t, g, 1000)
	if g.Now() != 2029 {
		t.Fatalf("Now: got %d, want 2029", g.Now())
	}
}

func TestTheLastTick(t *testing.T) {
	g := create(t, config())
	g.now = api.MaxTick - 1500
	tick(t, g, 1000)
	expectUp(t, g, client, vip, udp(7, 80, ""), first, udp(1024, 8080, ""))
	was := g.Binds()
	for _, n := range []int{501, 502, 1000} {
		if err := g.Tick(n); plain.Told(err) != api.ErrRange || g.Now() != 1<<40-500 {
			t.Fatalf("Tick(%d): got %v, Now %d; want ErrRange", n, err, g.Now())
		}
		expectBinds(t, g, was...)
	}
	tick(t, g, 500)
	expectBinds(t, g)
	tick(t, g, 0)
	expectUp(t, g, client, vip, udp(7, 80, ""), first, udp(1024, 8080, ""))
	if err := g.Tick(1); plain.Told(err) != api.ErrRange || g.Now() != 1<<40 {
		t.Fatalf("Tick(1): got %v, Now %d; want ErrRange", err, g.Now())
	}
}

func TestNoSuchServer(t *testing.T) {
	c := config()
	c.Backs = c.Backs[:1]
	g := create(t, c)
	for _, id := range append([]int{0, 2, 3, 65535, 65536 + 1, 1<<32 + 1}, outside...) {
		for _, to := range []bool{true, false} {
			if err := g.Probe(id, to); plain.Told(err) != api.ErrNone {
				t.Errorf("Probe(%d, %v): got %v, want ErrNone", id, to, err)
			}
			if err := g.Drain(id, to); plain.Told(err) != api.ErrNone {
				t.Errorf("Drain(%d, %v): got %v, want ErrNone", id, to, err)
			}
		}
	}
	expectUp(t, g, client, vip, udp(7, 80, ""), first, udp(1024, 8080, ""))
	c.Backs = nil
	g = create(t, c)
	if err := g.Probe(0, true); plain.Told(err) != api.ErrNone {
		t.Errorf("Probe where there is no server: got %v, want ErrNone", err)
	}
	refuse6(t, g, packet6(t, client, vip, 64, udp(7, 80, "")), api.ErrNone)
}

// TestWhoTalksStays: a server that fails, or is drained, is given no new flow, but keeps its own.
func TestWhoTalksStays(t *testing.T) {
	ways := []struct {
		name    string
		off, on func(*Gate, int) error
	}{
		{
			"Probe",
			func(g *Gate, id int) error { return g.Probe(id, false) },
			func(g *Gate, id int) error { return g.Probe(id, true) },
		},
		{
			"Drain",
			func(g *Gate, id int) error { return g.Drain(id, true) },
			func(g *Gate, id int) error { return g.Drain(id, false) },
		},
	}
	must := func(err error) {
		t.Helper()
		if err != nil {
			t.Fatal(err)
		}
	}
	for _, w := range ways {
		g := create(t, config())
		expectUp(t, g, client, vip, udp(1, 80, "a"), first, udp(1024, 8080, "a"))
		must(w.off(g, 1))
		expectUp(t, g, client, vip, udp(2, 80, "b"), second, udp(1025, 8081, "b"))
		expectUp(t, g, client, vip, udp(1, 80, "c"), first, udp(1024, 8080, "c"))
		must(w.off(g, 2))
		refuse6(t, g, packet6(t, client, vip, 64, udp(3, 80, "d")), api.ErrNone)
		expectUp(t, g, client, vip, udp(2, 80, "e"), second, udp(1025, 8081, "e"))
		expectUp(t, g, client, inside, udp(3, 80, "f"), far, udp(1026, 80, "f"))
		must(w.on(g, 1))
		expectUp(t, g, client, vip, udp(3, 80, "g"), first, udp(1027, 8080, "g"))
		expectUp(t, g, client, vip, udp(2, 80, "h"), second, udp(1025, 8081, "h"))
	}
}

// TestTheServerIsTheOnePicked: by the seed, and the flow as it came.
func TestTheServerIsTheOnePicked(t *testing.T) {
	r := rand.New(rand.NewSource(5))
	seen := map[int]int{}
	for range 400 {
		c := config()
		c.Seed = r.Intn(1 << 31)
		c.Door = r.Intn(65536)
		c.Backs = nil
		for i := range 8 {
			c.Backs = append(c.Backs, api.Back{
				ID: r.Intn(8000) + 8000*i, Addr: first + i, Door: r.Intn(65536), Weight: r.Intn(11), Up: r.Intn(4) > 0, Drain: r.Intn(4) == 0,
			})
		}
		src := api.Six{r.Intn(65536), r.Intn(65536), 0, 0, 0, 0, 0, r.Intn(65536)}
		f := api.Flow{Kind: 17, Client: src, Port: r.Intn(65536), Dst: vip, Door: c.Door}
		want, err := pick.Pick(c.Seed, f, c.Backs)
		g := create(t, c)
		if err != nil {
			refuse6(t, g, packet6(t, src, vip, 64, udp(f.Port, c.Door, "x")), api.ErrNone)
			continue
		}
		expectUp(t, g, src, vip, udp(f.Port, c.Door, "x"), want.Addr, udp(1024, want.Door, "x"))
		expectBinds(t, g, api.Bind{Flow: f, Near: 1024, Back: want.Addr, Far: want.Door})
		seen[want.Addr]++
	}
	if len(seen) < 5 {
		t.Errorf("only so many servers were picked: %v", seen)
	}
}

// TestTheSeedCounts: few seeds lead a flow elsewhere than others do, so one that does is looked for.
func TestTheSeedCounts(t *testing.T) {
	c := config()
	c.Backs[1].ID = 65535
	f := api.Flow{Kind: 17, Client: client, Port: 7, Dst: vip, Door: 80}
	seen := map[int]int{}
	for c.Seed = 0; c.Seed < 1000000 && len(seen) < 2; c.Seed++ {
		want, err := pick.Pick(c.Seed, f, c.Backs)
		if err != nil {
			t.Fatal(err)
		}
		if seen[want.ID]++; seen[want.ID] == 1 {
			expectUp(t, create(t, c), client, vip, udp(7, 80, "x"), want.Addr, udp(1024, want.Door, "x"))
		}
	}
	if len(seen) < 2 {
		t.Errorf("every seed leads to the same server: %v", seen)
	}
}

// spoilt: the last byte is another one.
func spoilt(b []byte) []byte {
	b = bytes.Clone(b)
	b[len(b)-1] ^= 1
	return b
}

// TestOrderOfErrors6: each row has all that is wrong in those behind it, too.
func TestOrderOfErrors6(t *testing.T) {
	g := create(t, config())
	nowhere := api.Six{1}
	dead := packet6(t, client, nowhere, 1, tcp(1, 80, 0, 0, 2, "x"))
	refuse6(t, g, nil, api.ErrSyntax)
	refuse6(t, g, []byte{}, api.ErrSyntax)
	refuse6(t, g, append([]byte{97}, raw6(t, api.Pack6{Src: client, Dst: nowhere, Kind: 58})[1:]...), api.ErrSyntax)
	refuse6(t, g, raw6(t, api.Pack6{Src: client, Dst: nowhere, Kind: 58, Body: []byte{1}}), api.ErrShape)
	refuse6(t, g, raw6(t, api.Pack6{Src: client, Dst: nowhere, Kind: 6, Body: []byte{1}}), api.ErrSyntax)
	refuse6(t, g, spoilt(dead), api.ErrSum)
	refuse6(t, g, dead, api.ErrDead)
	refuse6(t, g, packet6(t, client, nowhere, 2, tcp(1, 80, 0, 0, 2, "x")), api.ErrNone)
	refuse6(t, g, packet6(t, client, vip, 2, tcp(1, 81, 0, 0, 18, "x")), api.ErrNone)
	refuse6(t, g, packet6(t, client, vip, 2, tcp(1, 80, 0, 0, 18, "x")), api.ErrShape)
	for id := range 2 {
		if err := g.Probe(id+1, false); err != nil {
			t.Fatal(err)
		}
	}
	refuse6(t, g, packet6(t, client, vip, 2, tcp(1, 80, 0, 0, 18, "")), api.ErrState)
	for i := range 16 {
		expectUp(t, g, other, inside, udp(i, 80, ""), far, udp(1024+i, 80, ""))
	}
	refuse6(t, g, packet6(t, client, vip, 2, tcp(1, 80, 0, 0, 2, "")), api.ErrNone)
	refuse6(t, g, packet6(t, client, inside, 2, tcp(1, 80, 0, 0, 18, "")), api.ErrState)
	refuse6(t, g, packet6(t, client, inside, 2, tcp(1, 80, 0, 0, 2, "")), api.ErrFull)
	if err := g.Probe(1, true); err != nil {
		t.Fatal(err)
	}
	refuse6(t, g, packet6(t, client, vip, 2, tcp(1, 80, 0, 0, 2, "")), api.ErrFull)
}

// TestOrderOfErrors4: each row has all that is wrong in those behind it, too.
func TestOrderOfErrors4(t *testing.T) {
	g := create(t, config())
	refuse4(t, g, nil, api.ErrSyntax)
	refuse4(t, g, []byte{}, api.ErrSyntax)
	strange := raw4(t, api.Pack4{Src: first, Dst: near, Kind: 1, Body: []byte{1}})
	refuse4(t, g, append([]byte{70}, strange[1:]...), api.ErrSyntax)
	summed := bytes.Clone(strange)
	summed[11] ^= 1
	refuse4(t, g, summed, api.ErrSum)
	refuse4(t, g, strange, api.ErrShape)
	refuse4(t, g, raw4(t, api.Pack4{Src: first, Dst: near, Kind: 17, Body: []byte{1}}), api.ErrSyntax)
	for ttl := range 2 {
		b := packet4(t, first, near, ttl, udp(8080, 1024, "x"))
		refuse4(t, g, spoilt(b), api.ErrSum)
		refuse4(t, g, b, api.ErrDead)
	}
	refuse4(t, g, packet4(t, first, near, 2, udp(8080, 1024, "x")), api.ErrNone)
}

// TestEveryKind: packets of no other kind go on, whatever they hold.
func TestEveryKind(t *testing.T) {
	g := create(t, config())
	for kind := range 256 {
		if kind == 6 || kind == 17 {
			continue
		}
		for _, n := range []int{0, 8, 20, 320} {
			refuse6(t, g, raw6(t, api.Pack6{Src: client, Dst: vip, Hop: 9, Kind: kind, Body: make([]byte, n)}), api.ErrShape)
			refuse4(t, g, raw4(t, api.Pack4{Src: first, Dst: near, TTL: 9, Kind: kind, Body: make([]byte, n)}), api.ErrShape)
		}
	}
}

// TestEveryByteIsHeldAgainstTheChecks: what is spoilt on its way does not go on.
func TestEveryByteIsHeldAgainstTheChecks(t *testing.T) {
	g := create(t, config())
	up := packet6(t, client, vip, 64, udp(7, 80, "hi"))
	expectUp(t, g, client, vip, udp(7, 80, "hi"), first, udp(1024, 8080, "hi"))
	for i := range up {
		if i == 7 { // Hop is in no sum
			continue
		}
		b := bytes.Clone(up)
		b[i] ^= 4
		if got, err := g.In6(b); got != nil || err == nil {
			t.Errorf("In6, with byte %d spoilt: got %x, %v", i, got, err)
		}
	}
	down := packet4(t, first, near, 64, udp(8080, 1024, "hi"))
	for i := range down {
		b := bytes.Clone(down)
		b[i] ^= 4
		if got, err := g.In4(b); got != nil || err == nil {
			t.Errorf("In4, with byte %d spoilt: got %x, %v", i, got, err)
		}
	}
}

// TestSteps: every one that may be left, there and back.
func TestSteps(t *testing.T) {
	g := create(t, config())
	for n := range 256 {
		up := packet6(t, client, vip, n, udp(7, 80, "hi"))
		down := packet4(t, first, near, n, udp(8080, 1024, "hi"))
		if n < 2 {
			refuse6(t, g, up, api.ErrDead)
			refuse4(t, g, down, api.ErrDead)
			continue
		}
		b, err := g.In6(up)
		if err != nil {
			t.Fatalf("Hop %d: %v", n, err)
		}
		if p, _ := read4(t, b); p.TTL != n-1 || p.ID != 0 {
			t.Fatalf("Hop %d: got %v", n, p)
		}
		b, err = g.In4(down)
		if err != nil {
			t.Fatalf("TTL %d: %v", n, err)
		}
		if p, _ := read6(t, b); p.Hop != n-1 {
			t.Fatalf("TTL %d: got %v", n, p)
		}
	}
}

// TestWhereNothingIs: beside VIP's Door, and beside what has a four in it.
func TestWhereNothingIs(t *testing.T) {
	g := create(t, config())
	for _, door := range []int{0, 79, 81, 8080, 65535} {
		refuse6(t, g, packet6(t, client, vip, 64, udp(7, door, "")), api.ErrNone)
		refuse6(t, g, packet6(t, client, vip, 64, tcp(7, door, 0, 0, 2, "")), api.ErrNone)
	}
	for bit := range 128 {
		near := vip
		near[bit/16] ^= 1 << (15 - bit%16)
		refuse6(t, g, packet6(t, client, near, 64, udp(7, 80, "")), api.ErrNone)
	}
	for bit := range 96 {
		beside := inside
		beside[bit/16] ^= 1 << (15 - bit%16)
		refuse6(t, g, packet6(t, client, beside, 64, udp(7, 80, "")), api.ErrNone)
	}
	expectBinds(t, g)
}

// TestFoursInEveryPrefix: bytes of a four are where chapter 3 has them; where there is another byte there is no four.
func TestFoursInEveryPrefix(t *testing.T) {
	rows := []struct {
		n     int
		to    api.Six
		wrong []int // bits that must not be set
	}{
		{32, api.Six{0x64, 0xff9b, 0xc000, 0x201}, []int{64, 71, 72, 127}},
		{40, api.Six{0x64, 0xff9b, 0x00c0, 0x0002, 0x0001}, []int{64, 71, 80, 127}},
		{48, api.Six{0x64, 0xff9b, 0, 0xc000, 0x0002, 0x0100}, []int{64, 71, 88, 127}},
		{56, api.Six{0x64, 0xff9b, 0, 0x00c0, 0x0000, 0x0201}, []int{64, 71, 96, 127}},
		{64, api.Six{0x64, 0xff9b, 0, 0, 0x00c0, 0x0002, 0x0100}, []int{64, 71, 104, 127}},
		{96, inside, []int{64, 71, 95}},
	}
	for _, r := range rows {
		c := config()
		c.Len = r.n
		g := create(t, c)
		for _, bit := range r.wrong {
			to := r.to
			to[bit/16] |= 1 << (15 - bit%16)
			refuse6(t, g, packet6(t, client, to, 64, udp(7, 53, "")), api.ErrNone)
		}
		expectUp(t, g, client, r.to, udp(7, 53, "q"), far, udp(1024, 53, "q"))
		expectDown(t, g, far, udp(53, 1024, "a"), r.to, client, udp(53, 7, "a"))
	}
}

// TestAFourMayBeAny: the least and the greatest, and doors so too, VIP's among them.
func TestAFourMayBeAny(t *testing.T) {
	g := create(t, config())
	at := 1024
	for _, four := range []int{0, near, 1<<32 - 1} {
		for _, door := range []int{0, 80, 65535} {
			to := prefix
			to[6], to[7] = four>>16, four&65535
			expectUp(t, g, client, to, udp(65535, door, "q"), four, udp(at, door, "q"))
			expectDown(t, g, four, udp(door, at, "a"), to, client, udp(door, 65535, "a"))
			at++
		}
	}
}

// TestWhatBegins: of TCP no flags but SYN without ACK.
func TestWhatBegins(t *testing.T) {
	for flags := range 32 {
		begins := flags&2 != 0 && flags&16 == 0
		for _, inject := range []bool{false, true} {
			for _, dst := range []api.Six{vip, inside} {
				c := config()
				c.Inject = inject
				g := create(t, c)
				b := packet6(t, client, dst, 64, tcp(7, 80, 5, 6, flags, ""))
				if !begins {
					refuse6(t, g, b, api.ErrState)
					continue
				}
				if _, err := g.In6(b); err != nil || len(g.Binds()) != 1 {
					t.Fatalf("flags %d: got %v, binds %v", flags, err, g.Binds())
				}
			}
		}
	}
}

// TestWhatGoesOnThen: where there is a bind every flag goes on, and comes back.
func TestWhatGoesOnThen(t *testing.T) {
	c := config()
	c.Inject = false
	g := create(t, c)
	for i, dst := range []api.Six{vip, inside} {
		to, door, at := []int{first, far}[i], []int{8080, 80}[i], 1024+i
		expectUp(t, g, client, dst, tcp(7, 80, 5, 6, 2, "with data"), to, tcp(at, door, 5, 6, 2, "with data"))
		for flags := range 32 {
			expectUp(t, g, client, dst, tcp(7, 80, 5, 6, flags, "x"), to, tcp(at, door, 5, 6, flags, "x"))
			expectDown(t, g, to, tcp(door, at, 3, 4, flags, "y"), dst, client, tcp(80, 7, 3, 4, flags, "y"))
		}
	}
}

// TestFlowsAreApart: each of its five things makes another one, with a port of its own.
func TestFlowsAreApart(t *testing.T) {
	c := config()
	c.Inject = false
	c.Blocks = 16
	g := create(t, c)
	begin := func(kind, from, to int) api.Seg {
		if kind == 17 {
			return udp(from, to, "x")
		}
		return tcp(from, to, 1, 0, 2, "x")
	}
	elsewhere := inside
	elsewhere[7]++
	want := []api.Bind{
		{Flow: api.Flow{Kind: 17, Client: client, Port: 7, Dst: inside, Door: 80}, Near: 1024, Back: far, Far: 80},
		{Flow: api.Flow{Kind: 6, Client: client, Port: 7, Dst: inside, Door: 80}, Near: 1025, Back: far, Far: 80},
		{Flow: api.Flow{Kind: 17, Client: client, Port: 8, Dst: inside, Door: 80}, Near: 1026, Back: far, Far: 80},
		{Flow: api.Flow{Kind: 17, Client: client, Port: 7, Dst: inside, Door: 81}, Near: 1027, Back: far, Far: 81},
		{Flow: api.Flow{Kind: 17, Client: client, Port: 7, Dst: elsewhere, Door: 80}, Near: 1028, Back: far + 1, Far: 80},
		{Flow: api.Flow{Kind: 17, Client: client, Port: 7, Dst: vip, Door: 80}, Near: 1029, Back: first, Far: 8080},
		{Flow: api.Flow{Kind: 17, Client: other, Port: 7, Dst: inside, Door: 80}, Near: 1032, Back: far, Far: 80},
	}
	for range 2 {
		for _, b := range want {
			expectUp(t, g, b.Client, b.Dst, begin(b.Kind, b.Port, b.Door), b.Back, begin(b.Kind, b.Near, b.Far))
		}
		expectBinds(t, g, want...)
	}
	for _, b := range want {
		expectDown(t, g, b.Back, begin(b.Kind, b.Far, b.Near), b.Dst, b.Client, begin(b.Kind, b.Door, b.Port))
	}
}

func TestWhoIsNotAsked(t *testing.T) {
	g := create(t, config())
	expectUp(t, g, client, vip, udp(7, 80, ""), first, udp(1024, 8080, ""))
	tick(t, g, 3)
	wrong := []struct {
		src, dst int
		s        api.Seg
	}{
		{first, near + 1, udp(8080, 1024, "")},
		{first, first, udp(8080, 1024, "")},
		{first, 0, udp(8080, 1024, "")},
		{first, near, tcp(8080, 1024, 0, 0, 16, "")},
		{first, near, udp(8080, 1025, "")},
		{first, near, udp(8080, 1023, "")},
		{first, near, udp(8080, 0, "")},
		{first, near, udp(8080, 65535, "")},
		{first, near, udp(8081, 1024, "")},
		{first, near, udp(80, 1024, "")},
		{second, near, udp(8080, 1024, "")},
		{near, near, udp(8080, 1024, "")},
	}
	for _, w := range wrong {
		refuse4(t, g, packet4(t, w.src, w.dst, 64, w.s), api.ErrNone)
	}
	expectDown(t, g, first, udp(8080, 1024, ""), vip, client, udp(80, 7, ""))
}

// TestLife: of what is used, there or back, just as long; what is refused uses nothing.
func TestLife(t *testing.T) {
	g := create(t, config())
	flow := api.Flow{Kind: 17, Client: client, Port: 7, Dst: vip, Door: 80}
	stream := api.Flow{Kind: 6, Client: client, Port: 7, Dst: inside, Door: 80}
	a := api.Bind{Flow: flow, Near: 1024, Back: first, Far: 8080}
	b := api.Bind{Flow: stream, Near: 1025, Back: far, Far: 80}
	expectUp(t, g, client, vip, udp(7, 80, ""), first, udp(1024, 8080, ""))
	expectUp(t, g, client, inside, tcp(7, 80, 1, 0, 2, ""), far, tcp(1025, 80, 1, 0, 2, ""))
	expectBinds(t, g, a, b)
	tick(t, g, 29)
	expectUp(t, g, client, vip, udp(7, 80, ""), first, udp(1024, 8080, ""))
	a.Last = 29
	expectBinds(t, g, a, b)
	tick(t, g, 29)
	expectDown(t, g, first, udp(8080, 1024, ""), vip, client, udp(80, 7, ""))
	a.Last = 58
	expectBinds(t, g, a, b)
	tick(t, g, 29)
	refuse6(t, g, spoilt(packet6(t, client, vip, 64, udp(7, 80, ""))), api.ErrSum)
	refuse6(t, g, packet6(t, client, vip, 1, udp(7, 80, "")), api.ErrDead)
	refuse4(t, g, packet4(t, first, near, 1, udp(8080, 1024, "")), api.ErrDead)
	refuse4(t, g, packet4(t, second, near, 64, udp(8080, 1024, "")), api.ErrNone)
	expectBinds(t, g, a, b)
	tick(t, g, 1)
	expectBinds(t, g, b)
	refuse4(t, g, packet4(t, first, near, 64, udp(8080, 1024, "")), api.ErrNone)
	tick(t, g, 11)
	expectDown(t, g, far, tcp(80, 1025, 1, 2, 18, ""), inside, client, tcp(80, 7, 1, 2, 18, ""))
	b.Last = 99
	expectBinds(t, g, b)
	tick(t, g, 99)
	expectBinds(t, g, b)
	tick(t, g, 1)
	expectBinds(t, g)
	refuse6(t, g, packet6(t, client, inside, 64, tcp(7, 80, 2, 2, 16, "")), api.ErrState)
	refuse4(t, g, packet4(t, far, near, 64, tcp(80, 1025, 1, 2, 16, "")), api.ErrNone)
}

// TestManyTicksAtOnce: what goes is asked of the tick that is reached.
func TestManyTicksAtOnce(t *testing.T) {
	g := create(t, config())
	expectUp(t, g, client, inside, tcp(7, 80, 1, 0, 2, ""), far, tcp(1024, 80, 1, 0, 2, ""))
	expectUp(t, g, client, inside, udp(7, 80, ""), far, udp(1025, 80, ""))
	was := g.Binds()
	tick(t, g, 99)
	expectBinds(t, g, was[0])
	tick(t, g, 1000)
	expectBinds(t, g)
}

// TestTheHeadGoesAheadUntilItIsHeard, and the client is told of its own bytes alone.
func TestTheHeadGoesAheadUntilItIsHeard(t *testing.T) {
	g := create(t, config())
	head := headOf(client, 7)
	for range 2 {
		expectUp(t, g, client, vip, tcp(7, 80, 20, 0, 2, ""), first, tcp(1024, 8080, 1<<32-32, 0, 2, ""))
		expectDown(t, g, first, tcp(8080, 1024, 5, 1<<32-31, 18, ""), vip, client, tcp(80, 7, 5, 21, 18, ""))
		expectUp(t, g, client, vip, tcp(7, 80, 21, 6, 16, "body"), first, tcp(1024, 8080, 1<<32-31, 6, 16, head+"body"))
		expectUp(t, g, client, vip, tcp(7, 80, 25, 6, 16, "more"), first, tcp(1024, 8080, 25, 6, 16, "more"))
		expectDown(t, g, first, tcp(8080, 1024, 6, 20, 16, "ha"), vip, client, tcp(80, 7, 6, 21, 16, "ha"))
	}
	expectDown(t, g, first, tcp(8080, 1024, 6, 21, 16, ""), vip, client, tcp(80, 7, 6, 21, 16, ""))
	expectUp(t, g, client, vip, tcp(7, 80, 21, 6, 16, "body"), first, tcp(1024, 8080, 21, 6, 16, "body"))
	expectUp(t, g, client, vip, tcp(7, 80, 99, 6, 2, ""), first, tcp(1024, 8080, 47, 6, 2, ""))
	expectUp(t, g, client, vip, tcp(7, 80, 100, 6, 16, "anew"), first, tcp(1024, 8080, 48, 6, 16, head+"anew"))
}

// TestWhoIsTold: nobody but a server of VIP, by TCP, where Inject is.
func TestWhoIsTold(t *testing.T) {
	for _, inject := range []bool{false, true} {
		c := config()
		c.Inject = inject
		g := create(t, c)
		if !inject {
			expectUp(t, g, client, vip, tcp(7, 80, 20, 0, 2, "data"), first, tcp(1024, 8080, 20, 0, 2, "data"))
			expectUp(t, g, client, vip, tcp(7, 80, 21, 6, 16, "x"), first, tcp(1024, 8080, 21, 6, 16, "x"))
			expectDown(t, g, first, tcp(8080, 1024, 5, 3, 18, ""), vip, client, tcp(80, 7, 5, 3, 18, ""))
		} else {
			refuse6(t, g, packet6(t, client, vip, 64, tcp(7, 80, 20, 0, 2, "data")), api.ErrShape)
			expectUp(t, g, client, vip, tcp(7, 80, 20, 0, 2, ""), first, tcp(1024, 8080, 1<<32-32, 0, 2, ""))
		}
		expectUp(t, g, client, inside, tcp(7, 80, 20, 0, 2, "data"), far, tcp(1025, 80, 20, 0, 2, "data"))
		expectUp(t, g, client, inside, tcp(7, 80, 21, 6, 16, "x"), far, tcp(1025, 80, 21, 6, 16, "x"))
		expectDown(t, g, far, tcp(80, 1025, 5, 3, 18, ""), inside, client, tcp(80, 7, 5, 3, 18, ""))
		expectUp(t, g, client, vip, udp(7, 80, "data"), first, udp(1026, 8080, "data"))
		expectDown(t, g, first, udp(8080, 1026, "data"), vip, client, udp(80, 7, "data"))
	}
}

// TestSYNWithData of a flow that has a bind: it is refused ahead of being used.
func TestSYNWithData(t *testing.T) {
	g := create(t, config())
	expectUp(t, g, client, vip, tcp(7, 80, 20, 0, 2, ""), first, tcp(1024, 8080, 1<<32-32, 0, 2, ""))
	tick(t, g, 5)
	for flags := range 32 {
		if flags&2 != 0 {
			refuse6(t, g, packet6(t, client, vip, 64, tcp(7, 80, 90, 0, flags, "x")), api.ErrShape)
		}
	}
	// What was refused began nothing.
	expectUp(t, g, client, vip, tcp(7, 80, 21, 0, 16, "a"), first, tcp(1024, 8080, 1<<32-31, 0, 16, headOf(client, 7)+"a"))
}

// TestNoRoomForTheHead: the bind stays, and is used.
func TestNoRoomForTheHead(t *testing.T) {
	g := create(t, config())
	head := headOf(client, 7)
	most := 300 - len(head)
	expectUp(t, g, client, vip, tcp(7, 80, 20, 0, 2, ""), first, tcp(1024, 8080, 1<<32-32, 0, 2, ""))
	tick(t, g, 5)
	for _, n := range []int{most + 1, 299, 300} {
		got, err := g.In6(packet6(t, client, vip, 64, tcp(7, 80, 21, 0, 16, ofLength(n))))
		if got != nil || plain.Told(err) != api.ErrFull {
			t.Fatalf("%d bytes: got %x, %v; want ErrFull alone", n, got, err)
		}
		flow := api.Flow{Kind: 6, Client: client, Port: 7, Dst: vip, Door: 80}
		expectBinds(t, g, api.Bind{Flow: flow, Near: 1024, Back: first, Far: 8080, Last: 5})
	}
	expectUp(t, g, client, vip, tcp(7, 80, 21, 0, 16, ofLength(most)), first, tcp(1024, 8080, 1<<32-31, 0, 16, head+ofLength(most)))
	expectUp(t, g, client, vip, tcp(7, 80, 22, 0, 16, ofLength(300)), first, tcp(1024, 8080, 22, 0, 16, ofLength(300)))
}

func TestDataOfEveryLength(t *testing.T) {
	g := create(t, config())
	expectUp(t, g, client, inside, tcp(7, 80, 20, 0, 2, ""), far, tcp(1024, 80, 20, 0, 2, ""))
	for n := range 301 {
		data := ofLength(n)
		expectUp(t, g, client, inside, tcp(7, 80, 20, 0, 16, data), far, tcp(1024, 80, 20, 0, 16, data))
		expectDown(t, g, far, tcp(80, 1024, 20, 0, 16, data), inside, client, tcp(80, 7, 20, 0, 16, data))
		expectUp(t, g, client, vip, udp(7, 80, data), first, udp(1025, 8080, data))
		expectDown(t, g, first, udp(8080, 1025, data), vip, client, udp(80, 7, data))
	}
	// A body may have 320 bytes, of which a segment of UDP has at most 308.
	refuse6(t, g, raw6(t, api.Pack6{Src: client, Dst: vip, Hop: 9, Kind: 17, Body: make([]byte, 309)}), api.ErrSyntax)
	refuse4(t, g, raw4(t, api.Pack4{Src: first, Dst: near, TTL: 9, Kind: 17, Body: make([]byte, 309)}), api.ErrSyntax)
}

// TestABindTakesItsStreamWithIt: a flow that comes again, from the same number on, is told anew.
func TestABindTakesItsStreamWithIt(t *testing.T) {
	g := create(t, config())
	head := headOf(client, 7)
	for range 3 {
		expectUp(t, g, client, vip, tcp(7, 80, 20, 0, 2, ""), first, tcp(1024, 8080, 1<<32-32, 0, 2, ""))
		expectUp(t, g, client, vip, tcp(7, 80, 21, 0, 16, "a"), first, tcp(1024, 8080, 1<<32-31, 0, 16, head+"a"))
		expectDown(t, g, first, tcp(8080, 1024, 5, 22, 16, ""), vip, client, tcp(80, 7, 5, 22, 16, ""))
		expectUp(t, g, client, vip, tcp(7, 80, 21, 0, 16, "a"), first, tcp(1024, 8080, 21, 0, 16, "a"))
		tick(t, g, 100)
		expectBinds(t, g)
		if len(g.streams) != 0 {
			t.Fatalf("streams are left: %v", g.streams)
		}
	}
	// The port goes to flows of other kinds, which have no stream, or one of their own.
	expectUp(t, g, client, inside, tcp(7, 80, 20, 0, 2, ""), far, tcp(1024, 80, 20, 0, 2, ""))
	expectDown(t, g, far, tcp(80, 1024, 5, 3, 16, ""), inside, client, tcp(80, 7, 5, 3, 16, ""))
	tick(t, g, 100)
	expectUp(t, g, other, vip, tcp(9, 80, 20, 0, 2, ""), first, tcp(1024, 8080, 1<<32-32, 0, 2, ""))
	expectUp(t, g, other, vip, tcp(9, 80, 21, 0, 16, "b"), first, tcp(1024, 8080, 1<<32-31, 0, 16, headOf(other, 9)+"b"))
}

// TestStreamsAreApart: what one server heard another did not.
func TestStreamsAreApart(t *testing.T) {
	g := create(t, config())
	for i := range 3 {
		expectUp(t, g, client, vip, tcp(i, 80, 20, 0, 2, ""), first, tcp(1024+i, 8080, 1<<32-32, 0, 2, ""))
	}
	expectDown(t, g, first, tcp(8080, 1025, 5, 21, 16, ""), vip, client, tcp(80, 1, 5, 21, 16, ""))
	expectUp(t, g, client, vip, tcp(0, 80, 21, 0, 16, "a"), first, tcp(1024, 8080, 1<<32-31, 0, 16, headOf(client, 0)+"a"))
	expectUp(t, g, client, vip, tcp(1, 80, 21, 0, 16, "a"), first, tcp(1025, 8080, 21, 0, 16, "a"))
	expectUp(t, g, client, vip, tcp(2, 80, 21, 0, 16, "a"), first, tcp(1026, 8080, 1<<32-31, 0, 16, headOf(client, 2)+"a"))
}

func TestPortsAreFew(t *testing.T) {
	c := config()
	c.Blocks = 1
	g := create(t, c)
	for i := range 8 {
		expectUp(t, g, client, vip, udp(i, 80, ""), first, udp(1024+i, 8080, ""))
	}
	refuse6(t, g, packet6(t, client, vip, 64, udp(8, 80, "")), api.ErrFull)
	refuse6(t, g, packet6(t, other, inside, 64, tcp(8, 80, 0, 0, 2, "")), api.ErrFull)
	refuse6(t, g, packet6(t, other, vip, 64, tcp(8, 80, 0, 0, 2, "")), api.ErrFull)
	expectUp(t, g, client, vip, udp(3, 80, ""), first, udp(1027, 8080, ""))
	tick(t, g, 30)
	expectBinds(t, g)
	expectUp(t, g, other, vip, udp(8, 80, ""), first, udp(1024, 8080, ""))
}

func TestNothingIsWrittenOrShared(t *testing.T) {
	g := create(t, config())
	up := []api.Seg{tcp(7, 80, 20, 0, 2, ""), tcp(7, 80, 21, 0, 16, "body"), tcp(7, 80, 25, 0, 16, "more"), udp(7, 80, "x")}
	for _, s := range up {
		b := packet6(t, client, vip, 64, s)
		whole := append(bytes.Clone(b), 1, 2, 3)
		was := bytes.Clone(whole)
		got, err := g.In6(whole[:len(b)])
		if err != nil {
			t.Fatal(err)
		}
		fill(got)
		if !bytes.Equal(whole, was) {
			t.Fatalf("In6 of %v has written into what it was given", s)
		}
		again, err := g.In6(b)
		fill(b)
		if p, q := read4(t, again); err != nil || p.Src != near || q.Kind != s.Kind {
			t.Fatalf("In6 of %v: %v", s, err)
		}
	}
	for _, s := range []api.Seg{tcp(8080, 1024, 20, 25, 16, "body"), udp(8080, 1025, "x")} {
		b := packet4(t, first, near, 64, s)
		whole := append(bytes.Clone(b), 1, 2, 3)
		was := bytes.Clone(whole)
		got, err := g.In4(whole[:len(b)])
		if err != nil {
			t.Fatal(err)
		}
		fill(got)
		if !bytes.Equal(whole, was) {
			t.Fatalf("In4 of %v has written into what it was given", s)
		}
	}
	list := g.Binds()
	was := slices.Clone(list)
	clear(list)
	expectBinds(t, g, was...)
}

// TestClose6: a packet as it is written out elsewhere; what is wrong is told in order, the segment first.
func TestClose6(t *testing.T) {
	for _, s := range []api.Seg{udp(7, 80, ""), udp(0, 65535, "x"), tcp(7, 80, 1<<32-1, 5, 31, ofLength(300)), udp(7, 80, ofLength(300))} {
		for _, hop := range []int{0, 1, 64, 255} {
			want := packet6(t, client, vip, hop, s)
			got, err := Close6(client, vip, hop, s)
			if err != nil || !bytes.Equal(got, want) {
				t.Fatalf("Close6 of %v: got %x, %v; want %x", s, got, err, want)
			}
			fill(got)
			if again, _ := Close6(client, vip, hop, s); !bytes.Equal(again, want) {
				t.Fatalf("Close6 of %v: what came out is kept", s)
			}
		}
	}
	wrong := api.Six{7: 65536}
	refuse := func(src, dst api.Six, hop int, s api.Seg, want api.Errno) {
		t.Helper()
		if got, err := Close6(src, dst, hop, s); got != nil || plain.Told(err) != want {
			t.Errorf("Close6 of %v: got %x, %v; want %v alone", s, got, err, want)
		}
	}
	for _, s := range []api.Seg{{}, {Kind: 58}, udp(65536, 80, ""), udp(7, -1, ofLength(301)), tcp(7, 80, 1<<32, 0, 2, "")} {
		refuse(client, vip, 64, s, api.ErrRange)
	}
	refuse(wrong, wrong, -1, udp(7, 80, ofLength(301)), api.ErrFull)
	refuse(client, vip, 64, udp(7, 80, ofLength(313)), api.ErrFull)
	refuse(client, vip, 64, api.Seg{Kind: api.UDP, Seq: 1}, api.ErrShape)
	refuse(wrong, vip, 64, udp(7, 80, ""), api.ErrRange)
	refuse(client, wrong, 64, udp(7, 80, ""), api.ErrRange)
	for _, hop := range append([]int{256}, outside...) {
		refuse(client, vip, hop, udp(7, 80, ""), api.ErrRange)
	}
}

func fill(b []byte) {
	b = b[:cap(b)]
	for i := range b {
		b[i] = 255
	}
}

// TestATalk: bytes that are lost, and come again, there and back, until all is told: the server sees the head and
// then the client's stream, and the client is told of what it sent alone.
func TestATalk(t *testing.T) {
	for seed := range 60 {
		talk(t, rand.New(rand.NewSource(int64(seed))))
	}
}

func talk(t *testing.T, r *rand.Rand) {
	t.Helper()
	g := create(t, config())
	seq := r.Intn(1 << 32)
	text := ofLength(600)
	server := &listener{}
	told, lost := 0, r.Intn(6)
	for step := range 2000 {
		s := tcp(7, 80, (seq+1+told)%(1<<32), 0, 16, text[told:min(told+100, len(text))])
		if step == 0 || !server.begun {
			s = tcp(7, 80, seq, 0, 2, "")
		}
		b, err := g.In6(packet6(t, client, vip, 64, s))
		if err != nil {
			t.Fatal(err)
		}
		if r.Intn(10) < lost {
			continue
		}
		_, went := read4(t, b)
		ack := server.hear(went)
		b, err = g.In4(packet4(t, first, near, 64, tcp(8080, 1024, 0, ack, 16, "")))
		if err != nil {
			t.Fatal(err)
		}
		if r.Intn(10) < lost {
			continue
		}
		_, back := read6(t, b)
		told = (back.Ack - seq - 1 + 1<<33) % (1 << 32)
		if told > len(text) {
			t.Fatalf("the client is told of %d bytes, and has sent %d", told, len(text))
		}
		if told == len(text) {
			break
		}
	}
	f, n, err := proxy.Decode([]byte(server.text))
	want := api.Flow{Kind: 6, Client: client, Port: 7, Dst: vip, Door: 80}
	if err != nil || f != want || server.text[n:] != text || told != len(text) {
		t.Fatalf("the server has heard %q, the client is told of %d bytes", server.text, told)
	}
}

// listener is a server that takes bytes in order, and tells which comes next.
type listener struct {
	begun bool
	next  int
	text  string
}

func (l *listener) hear(s api.Seg) int {
	if s.Flags&2 != 0 {
		if !l.begun {
			l.begun, l.next = true, (s.Seq+1)%(1<<32)
		}
		return l.next
	}
	if l.begun && s.Seq == l.next {
		l.text += string(s.Data)
		l.next = (l.next + len(s.Data)) % (1 << 32)
	}
	return l.next
}

// model tells anew what a gate answers to packets that are right, by lists alone.
type model struct {
	c     api.Config
	now   int
	binds []api.Bind
}

func (m *model) find(f api.Flow) *api.Bind {
	for i := range m.binds {
		if m.binds[i].Flow == f {
			return &m.binds[i]
		}
	}
	return nil
}

func (m *model) up(f api.Flow, flags int) (api.Bind, api.Errno) {
	if b := m.find(f); b != nil {
		b.Last = m.now
		return *b, api.OK
	}
	if f.Kind == 6 && (flags&2 == 0 || flags&16 != 0) {
		return api.Bind{}, api.ErrState
	}
	b := api.Bind{Flow: f, Back: f.Dst[6]<<16 | f.Dst[7], Far: f.Door, Last: m.now}
	if f.Dst == m.c.VIP {
		s, err := pick.Pick(m.c.Seed, f, m.c.Backs)
		if err != nil {
			return api.Bind{}, plain.Told(err)
		}
		b.Back, b.Far = s.Addr, s.Door
	}
	b.Near = m.room(f.Client)
	if b.Near == 0 {
		return api.Bind{}, api.ErrFull
	}
	m.binds = append(m.binds, b)
	return b, api.OK
}

// room: the least port of a block of who's own, or else of nobody's.
func (m *model) room(who api.Six) int {
	nobodys := 0
	for k := range m.c.Blocks {
		owner, taken, free := who, 0, 0
		for i := range 8 {
			port := 1024 + 8*k + i
			at := slices.IndexFunc(m.binds, func(b api.Bind) bool { return b.Near == port })
			if at >= 0 {
				owner = m.binds[at].Client
				taken++
			} else if free == 0 {
				free = port
			}
		}
		if taken > 0 && owner == who && free > 0 {
			return free
		}
		if taken == 0 && nobodys == 0 {
			nobodys = free
		}
	}
	return nobodys
}

func (m *model) tick(n int) {
	m.now += n
	m.binds = slices.DeleteFunc(m.binds, func(b api.Bind) bool {
		return m.now-b.Last >= map[int]int{6: 100, 17: 30}[b.Kind]
	})
}

func (m *model) sorted() []api.Bind {
	list := slices.Clone(m.binds)
	slices.SortFunc(list, func(a, b api.Bind) int { return a.Near - b.Near })
	return list
}

// TestAgainstAModel: many clients, servers that come and go, and ticks.
func TestAgainstAModel(t *testing.T) {
	for seed := range 40 {
		r := rand.New(rand.NewSource(int64(seed)))
		c := config()
		c.Inject = false
		c.Blocks = 1 + r.Intn(4)
		c.Seed = r.Intn(1 << 31)
		c.Backs[0].Weight, c.Backs[1].Weight = r.Intn(3), r.Intn(3)
		g := create(t, c)
		m := &model{c: c}
		m.c.Backs = slices.Clone(c.Backs)
		for range 300 {
			step(t, r, g, m)
			expectBinds(t, g, m.sorted()...)
			if g.Now() != m.now {
				t.Fatalf("Now: got %d, want %d", g.Now(), m.now)
			}
		}
	}
}

func step(t *testing.T, r *rand.Rand, g *Gate, m *model) {
	t.Helper()
	switch r.Intn(8) {
	case 0:
		n := r.Intn(25)
		tick(t, g, n)
		m.tick(n)
	case 1:
		i, up := r.Intn(2), r.Intn(3) > 0
		m.c.Backs[i].Up = up
		if err := g.Probe(i+1, up); err != nil {
			t.Fatal(err)
		}
	case 2:
		i, drain := r.Intn(2), r.Intn(3) == 0
		m.c.Backs[i].Drain = drain
		if err := g.Drain(i+1, drain); err != nil {
			t.Fatal(err)
		}
	case 3, 4:
		stepDown(t, r, g, m)
	default:
		stepUp(t, r, g, m)
	}
}

func stepUp(t *testing.T, r *rand.Rand, g *Gate, m *model) {
	t.Helper()
	f := api.Flow{Kind: 6, Client: client, Port: r.Intn(6), Dst: inside, Door: 80}
	f.Client[7] += r.Intn(4)
	s := tcp(f.Port, 80, r.Intn(1<<32), r.Intn(1<<32), []int{2, 2, 16, 18, 24, 4}[r.Intn(6)], ofLength(r.Intn(301)))
	if r.Intn(2) == 0 {
		f.Kind = 17
		s = udp(f.Port, 80, ofLength(r.Intn(301)))
	}
	if r.Intn(2) == 0 {
		f.Dst = vip
	}
	want, wrong := m.up(f, s.Flags)
	if wrong != api.OK {
		refuse6(t, g, packet6(t, f.Client, f.Dst, 64, s), wrong)
		return
	}
	on := s
	on.From, on.To = want.Near, want.Far
	expectUp(t, g, f.Client, f.Dst, s, want.Back, on)
}

func stepDown(t *testing.T, r *rand.Rand, g *Gate, m *model) {
	t.Helper()
	if len(m.binds) == 0 {
		return
	}
	b := &m.binds[r.Intn(len(m.binds))]
	s := udp(b.Far, b.Near, ofLength(r.Intn(301)))
	if b.Kind == 6 {
		s = tcp(b.Far, b.Near, r.Intn(1<<32), r.Intn(1<<32), r.Intn(32), ofLength(r.Intn(301)))
	}
	back := s
	back.From, back.To = b.Door, b.Port
	expectDown(t, g, b.Back, s, b.Dst, b.Client, back)
	b.Last = m.now
}

// TestTheSameCallsAnswerTheSame, whatever else was asked.
func TestTheSameCallsAnswerTheSame(t *testing.T) {
	var all [3][]string
	for i := range all {
		r := rand.New(rand.NewSource(8))
		g := create(t, config())
		for range 400 {
			s := tcp(r.Intn(5), 80, r.Intn(3), r.Intn(3), []int{2, 16}[r.Intn(2)], "")
			src := client
			src[7] += r.Intn(3)
			b, err := g.In6(packet6(t, src, vip, 64, s))
			all[i] = append(all[i], fmt.Sprintf("%x %v", b, err))
			if i > 0 {
				g.Binds()
				g.Now()
			}
			if err := g.Tick(r.Intn(9)); err != nil {
				t.Fatal(err)
			}
		}
		all[i] = append(all[i], fmt.Sprint(g.Binds()))
	}
	if !reflect.DeepEqual(all[0], all[1]) || !reflect.DeepEqual(all[0], all[2]) {
		t.Error("the same calls were answered otherwise")
	}
}

// FuzzGate: whatever bytes come, what goes on is a packet, a step further, and what is refused is answered by an error.
func FuzzGate(f *testing.F) {
	f.Add([]byte{}, []byte{}, uint8(0), false)
	up, _ := hex.DecodeString("60000000000a114020010db800000000000000000000000220010db800000000000000000000000100070050000a3ba56869")
	down, _ := hex.DecodeString("4500001f0000400009115ccd0a0001010a0000011f900400000bdae0796573")
	f.Add(up, down, uint8(3), true)
	f.Fuzz(func(t *testing.T, up, down []byte, n uint8, inject bool) {
		c := config()
		c.Inject = inject
		g := create(t, c)
		for range 2 {
			if b, err := g.In6(up); err == nil {
				was, _ := read6(t, up)
				p, s := read4(t, b)
				if p.TTL != was.Hop-1 || p.Src != near || s.From != 1024 || len(g.Binds()) != 1 {
					t.Fatalf("In6 of %x: got %v, %v", up, p, s)
				}
			} else if b != nil || plain.Told(err) <= api.OK || len(g.Binds()) > 1 {
				t.Fatalf("In6 of %x: got %x, %v", up, b, err)
			}
			if b, err := g.In4(down); err == nil {
				was, _ := read4(t, down)
				p, _ := read6(t, b)
				if p.Hop != was.TTL-1 || p.Dst != g.Binds()[0].Client {
					t.Fatalf("In4 of %x: got %v", down, p)
				}
			} else if b != nil || plain.Told(err) <= api.OK {
				t.Fatalf("In4 of %x: got %x, %v", down, b, err)
			}
			tick(t, g, int(n))
		}
	})
}
