package bind

import (
	"math"
	"slices"
	"testing"

	"gangplank/api"
	"gangplank/plain"
)

const (
	tick = 1 << 40   // the last one
	four = 1<<32 - 1 // the greatest one
)

var (
	ann  = api.Six{0x2001, 0xdb8, 7: 1}
	ben  = api.Six{0x2001, 0xdb8, 7: 2}
	high = api.Six{65535, 65535, 65535, 65535, 65535, 65535, 65535, 65535}
	zero = api.Six{}
	vip  = api.Six{0x64, 0xff9b, 7: 9}
)

// tcp and udp are flows of a client that differ by its port.
func tcp(client api.Six, port int) api.Flow {
	return api.Flow{Kind: 6, Client: client, Port: port, Dst: vip, Door: 80}
}

func udp(client api.Six, port int) api.Flow {
	return api.Flow{Kind: 17, Client: client, Port: port, Dst: vip, Door: 53}
}

// outside gives numbers that are not from 0 to top.
func outside(top int) []int {
	return []int{-1, top + 1, -2, -top, top + 2, 1<<41 + 1, math.MinInt, math.MinInt + 1, math.MinInt + top, math.MaxInt}
}

func noKinds() []int {
	return []int{0, 1, 5, 7, 16, 18, 58, -6, -17, 256 + 6, 256 + 17, 1<<32 + 6, math.MinInt, math.MaxInt}
}

// noFlows are good but for one number.
func noFlows() []api.Flow {
	var list []api.Flow
	for _, good := range []api.Flow{tcp(ann, 1), udp(ann, 1)} {
		for _, x := range noKinds() {
			f := good
			f.Kind = x
			list = append(list, f)
		}
		for _, x := range outside(65535) {
			f, g := good, good
			f.Port, g.Door = x, x
			list = append(list, f, g)
			for i := range 8 {
				f, g := good, good
				f.Client[i], g.Dst[i] = x, x
				list = append(list, f, g)
			}
		}
	}
	return list
}

func made(t *testing.T, blocks int) *Table {
	t.Helper()
	b, err := New(blocks)
	if err != nil || b == nil {
		t.Fatalf("New(%d): got %v, %v", blocks, b, err)
	}
	return b
}

func expectMake(t *testing.T, b *Table, f api.Flow, back, far, now, near int) api.Bind {
	t.Helper()
	want := api.Bind{Flow: f, Near: near, Back: back, Far: far, Last: now}
	if got, err := b.Make(f, back, far, now); err != nil || got != want {
		t.Fatalf("Make(%v, %d, %d, %d): got %v, %v, want %v", f, back, far, now, got, err, want)
	}
	expectBind(t, b, want)
	return want
}

func refuseMake(t *testing.T, b *Table, f api.Flow, back, far, now int, want api.Errno) {
	t.Helper()
	before := told(b)
	if got, err := b.Make(f, back, far, now); got != (api.Bind{}) || plain.Told(err) != want {
		t.Fatalf("Make(%v, %d, %d, %d): got %v, %v, want %v", f, back, far, now, got, err, want)
	}
	expectSame(t, b, before)
}

// expectBind: by its flow, and by its port.
func expectBind(t *testing.T, b *Table, want api.Bind) {
	t.Helper()
	if got, err := b.Find(want.Flow); err != nil || got != want {
		t.Fatalf("Find(%v): got %v, %v, want %v", want.Flow, got, err, want)
	}
	if got, err := b.Near(want.Kind, want.Near); err != nil || got != want {
		t.Fatalf("Near(%d, %d): got %v, %v, want %v", want.Kind, want.Near, got, err, want)
	}
}

func expectNoBind(t *testing.T, b *Table, f api.Flow) {
	t.Helper()
	if got, err := b.Find(f); got != (api.Bind{}) || plain.Told(err) != api.ErrNone {
		t.Fatalf("Find(%v): got %v, %v, want ErrNone", f, got, err)
	}
}

func expectNoPort(t *testing.T, b *Table, kind, near int) {
	t.Helper()
	if got, err := b.Near(kind, near); got != (api.Bind{}) || plain.Told(err) != api.ErrNone {
		t.Fatalf("Near(%d, %d): got %v, %v, want ErrNone", kind, near, got, err)
	}
}

func expectUse(t *testing.T, b *Table, near, now int) {
	t.Helper()
	if err := b.Use(near, now); err != nil {
		t.Fatalf("Use(%d, %d): got %v", near, now, err)
	}
}

func refuseUse(t *testing.T, b *Table, near, now int, want api.Errno) {
	t.Helper()
	before := told(b)
	if err := b.Use(near, now); plain.Told(err) != want {
		t.Fatalf("Use(%d, %d): got %v, want %v", near, now, err, want)
	}
	expectSame(t, b, before)
}

func expectExpire(t *testing.T, b *Table, now int, want ...api.Bind) {
	t.Helper()
	got, err := b.Expire(now)
	if err != nil || !slices.Equal(got, want) {
		t.Fatalf("Expire(%d): got %v, %v, want %v", now, got, err, want)
	}
	for _, x := range want {
		expectNoBind(t, b, x.Flow)
		expectNoPort(t, b, x.Kind, x.Near)
		refuseUse(t, b, x.Near, now, api.ErrNone)
	}
}

func expectAll(t *testing.T, b *Table, want ...api.Bind) {
	t.Helper()
	if got := b.All(); !slices.Equal(got, want) {
		t.Fatalf("All: got %v, want %v", got, want)
	}
}

// told is all that can be asked of a table without a flow.
func told(b *Table) []api.Bind {
	list := b.All()
	for near := 1020; near < 1160; near++ {
		for _, kind := range []int{6, 17} {
			// An error's bind is empty, so that it can stand for it.
			x, _ := b.Near(kind, near)
			list = append(list, x)
		}
	}
	return list
}

func expectSame(t *testing.T, b *Table, before []api.Bind) {
	t.Helper()
	if after := told(b); !slices.Equal(after, before) {
		t.Fatalf("it was %v and is %v", before, after)
	}
}

func TestCheck(t *testing.T) {
	for _, kind := range []int{6, 17} {
		for _, client := range []api.Six{zero, ann, high} {
			for _, dst := range []api.Six{zero, vip, high, client} {
				for _, port := range []int{0, 1, 1024, 65534, 65535} {
					for _, door := range []int{0, 80, 65535} {
						f := api.Flow{Kind: kind, Client: client, Port: port, Dst: dst, Door: door}
						if err := Check(f); err != nil {
							t.Fatalf("Check(%v): got %v", f, err)
						}
					}
				}
			}
		}
	}
	if err := Check(api.Flow{}); plain.Told(err) != api.ErrRange {
		t.Errorf("Check of nothing: got %v", err)
	}
}

func TestNoFlows(t *testing.T) {
	b := made(t, 1)
	for _, f := range noFlows() {
		if err := Check(f); plain.Told(err) != api.ErrRange {
			t.Fatalf("Check(%v): got %v, want ErrRange", f, err)
		}
		if got, err := b.Find(f); got != (api.Bind{}) || plain.Told(err) != api.ErrRange {
			t.Fatalf("Find(%v): got %v, %v, want ErrRange", f, got, err)
		}
		refuseMake(t, b, f, 1, 1, 1, api.ErrRange)
	}
	expectAll(t, b)
	// No port has been lost by any of them.
	for port := range 8 {
		expectMake(t, b, tcp(ann, port), 1, 1, 1, 1024+port)
	}
}

func TestNewOfEveryNumberOfBlocks(t *testing.T) {
	for blocks := 1; blocks <= 16; blocks++ {
		b := made(t, blocks)
		expectAll(t, b)
		expectExpire(t, b, tick)
		for port := range 8 * blocks {
			expectMake(t, b, udp(ann, port), port, 53, 7, 1024+port)
		}
		if n := len(b.All()); n != 8*blocks {
			t.Fatalf("All of %d blocks: %d binds", blocks, n)
		}
		refuseMake(t, b, udp(ann, 60000), 1, 53, 7, api.ErrFull)
		refuseMake(t, b, udp(ben, 60000), 1, 53, 7, api.ErrFull)
	}
}

func TestNewRefuses(t *testing.T) {
	for _, blocks := range []int{0, -1, 17, 18, -16, 1 << 32, 1<<32 + 1, math.MinInt, math.MaxInt} {
		if b, err := New(blocks); b != nil || plain.Told(err) != api.ErrRange {
			t.Errorf("New(%d): got %v, %v, want nil, ErrRange", blocks, b, err)
		}
	}
}

func TestMakeAtTheEdges(t *testing.T) {
	b := made(t, 16)
	port := 0
	for _, back := range []int{0, 1, 1 << 31, four} {
		for _, far := range []int{0, 8080, 65535} {
			for _, now := range []int{0, 1, tick - 1, tick} {
				expectMake(t, b, tcp(ann, port), back, far, now, 1024+port)
				port++
			}
		}
	}
}

func TestMakeRefuses(t *testing.T) {
	b := made(t, 1)
	for _, x := range outside(four) {
		refuseMake(t, b, tcp(ann, 1), x, 80, 0, api.ErrRange)
	}
	for _, x := range outside(65535) {
		refuseMake(t, b, tcp(ann, 1), 5, x, 0, api.ErrRange)
	}
	for _, x := range outside(tick) {
		refuseMake(t, b, tcp(ann, 1), 5, 80, x, api.ErrRange)
	}
	expectNoBind(t, b, tcp(ann, 1))
	expectMake(t, b, tcp(ann, 1), 5, 80, 0, 1024)
}

// TestMakeTellsTheFirstError: ErrRange, then ErrClash, then ErrFull.
func TestMakeTellsTheFirstError(t *testing.T) {
	b := made(t, 1)
	f := tcp(ann, 0)
	want := expectMake(t, b, f, 5, 80, 3, 1024)
	for range 2 {
		for _, x := range outside(four) {
			refuseMake(t, b, f, x, 80, 3, api.ErrRange)
		}
		for _, x := range outside(65535) {
			refuseMake(t, b, f, 5, x, 3, api.ErrRange)
		}
		for _, x := range outside(tick) {
			refuseMake(t, b, f, 5, 80, x, api.ErrRange)
		}
		// Whatever else is asked for: the flow has one, and that stays as it is.
		refuseMake(t, b, f, 5, 80, 3, api.ErrClash)
		refuseMake(t, b, f, 6, 81, 4, api.ErrClash)
		refuseMake(t, b, f, 6, 81, 2, api.ErrClash)
		expectBind(t, b, want)
		// The second time round all is taken.
		for port := len(b.All()); port < 8; port++ {
			expectMake(t, b, tcp(ann, port), 5, 80, 3, 1024+port)
		}
	}
	for _, f := range noFlows() {
		refuseMake(t, b, f, 5, 80, 3, api.ErrRange)
	}
	refuseMake(t, b, tcp(ann, 8), -1, 80, 3, api.ErrRange)
	refuseMake(t, b, tcp(ann, 8), 5, 65536, 3, api.ErrRange)
	refuseMake(t, b, tcp(ann, 8), 5, 80, tick+1, api.ErrRange)
	refuseMake(t, b, tcp(ann, 8), 5, 80, 3, api.ErrFull)
	expectNoBind(t, b, tcp(ann, 8))
}

// TestFlowsThatAreAlike: two that differ in one number have a bind each.
func TestFlowsThatAreAlike(t *testing.T) {
	f := tcp(ann, 1000)
	others := make([]api.Flow, 3)
	for i := range others {
		others[i] = f
	}
	others[0].Kind = 17
	others[1].Port++
	others[2].Door++
	for i := range 8 {
		g := f
		g.Dst[i] ^= 1
		others = append(others, g)
	}
	b := made(t, 16)
	first := expectMake(t, b, f, 5, 80, 0, 1024)
	for i, g := range others {
		expectNoBind(t, b, g)
		expectMake(t, b, g, 6, 81, 1, 1025+i)
	}
	// Another client has a block of its own.
	for i := range 8 {
		g := f
		g.Client[i] ^= 1
		expectNoBind(t, b, g)
		expectMake(t, b, g, 7, 82, 2, 1040+8*i)
	}
	expectBind(t, b, first)
}

func TestEachClientHasItsBlocks(t *testing.T) {
	b := made(t, 3)
	expectMake(t, b, tcp(ann, 1), 5, 80, 0, 1024)
	expectMake(t, b, tcp(ben, 1), 5, 80, 0, 1032)
	expectMake(t, b, udp(ann, 1), 5, 80, 0, 1025)
	expectMake(t, b, udp(ben, 1), 5, 80, 0, 1033)
	expectMake(t, b, tcp(zero, 1), 5, 80, 0, 1040)
	refuseMake(t, b, tcp(high, 1), 5, 80, 0, api.ErrFull)
	for port := 1026; port <= 1031; port++ {
		expectMake(t, b, tcp(ann, port), 5, 80, 0, port)
	}
	refuseMake(t, b, tcp(ann, 9), 5, 80, 0, api.ErrFull)
	expectMake(t, b, tcp(ben, 9), 5, 80, 0, 1034)
}

// TestNearIsOfTheKind: at a port is one bind, of one kind.
func TestNearIsOfTheKind(t *testing.T) {
	b := made(t, 2)
	one := expectMake(t, b, tcp(ann, 1), 5, 80, 0, 1024)
	two := expectMake(t, b, udp(ann, 1), 5, 53, 0, 1025)
	expectNoPort(t, b, 17, 1024)
	expectNoPort(t, b, 6, 1025)
	for _, kind := range noKinds() {
		for _, near := range []int{1023, 1024, 1025, 1026} {
			expectNoPort(t, b, kind, near)
		}
	}
	for _, kind := range []int{6, 17} {
		for _, near := range append(outside(65535), 0, 1, 1023, 1026, 1032, 1039, 1040, 65535, 1<<32+1024) {
			expectNoPort(t, b, kind, near)
		}
	}
	expectBind(t, b, one)
	expectBind(t, b, two)
}

func TestUse(t *testing.T) {
	b := made(t, 1)
	x := expectMake(t, b, tcp(ann, 1), 5, 80, 10, 1024)
	y := expectMake(t, b, udp(ann, 1), 6, 53, 20, 1025)
	for _, now := range []int{10, 11, 11, 500, tick - 1, tick, tick} {
		expectUse(t, b, 1024, now)
		x.Last = now
		expectBind(t, b, x)
		expectBind(t, b, y)
		expectAll(t, b, x, y)
	}
	expectUse(t, b, 1025, 21)
	y.Last = 21
	expectAll(t, b, x, y)
}

// TestUseTellsTheFirstError: ErrNone, then ErrRange, then ErrState.
func TestUseTellsTheFirstError(t *testing.T) {
	b := made(t, 1)
	x := expectMake(t, b, tcp(ann, 1), 5, 80, 10, 1024)
	for _, near := range append(outside(65535), 0, 1, 1023, 1025, 1032, 65535, 1<<32+1024) {
		for _, now := range append(outside(tick), 0, 9, 10, tick) {
			refuseUse(t, b, near, now, api.ErrNone)
		}
	}
	for _, now := range outside(tick) {
		refuseUse(t, b, 1024, now, api.ErrRange)
	}
	for _, now := range []int{0, 1, 8, 9} {
		refuseUse(t, b, 1024, now, api.ErrState)
	}
	expectBind(t, b, x)
	expectUse(t, b, 1024, 12)
	refuseUse(t, b, 1024, 11, api.ErrState)
}

func TestAllIsByPort(t *testing.T) {
	b := made(t, 3)
	// The order of making, of the flows and of the ticks is another one.
	b1 := expectMake(t, b, tcp(high, 9), 5, 80, 50, 1024)
	b4 := expectMake(t, b, udp(ben, 8), 4, 80, 40, 1032)
	b2 := expectMake(t, b, udp(high, 7), 3, 80, 30, 1025)
	b6 := expectMake(t, b, tcp(zero, 6), 2, 80, 20, 1040)
	b5 := expectMake(t, b, tcp(ben, 5), 1, 80, 10, 1033)
	b3 := expectMake(t, b, tcp(high, 4), 0, 80, 0, 1026)
	for range 50 {
		expectAll(t, b, b1, b2, b3, b4, b5, b6)
	}
}

func TestExpireAtTheEdges(t *testing.T) {
	for _, start := range []int{0, 1, 1000, tick - 100} {
		b := made(t, 1)
		x := expectMake(t, b, tcp(ann, 1), 5, 80, start, 1024)
		y := expectMake(t, b, udp(ann, 1), 6, 53, start, 1025)
		for _, now := range []int{0, start, start + 1, start + 29} {
			expectExpire(t, b, now)
		}
		expectAll(t, b, x, y)
		expectExpire(t, b, start+30, y)
		expectAll(t, b, x)
		for _, now := range []int{start + 30, start + 31, start + 99} {
			expectExpire(t, b, now)
		}
		expectAll(t, b, x)
		expectExpire(t, b, start+100, x)
		expectAll(t, b)
		expectExpire(t, b, start+100)
		expectExpire(t, b, tick)
	}
}

// TestWhoTalksStays: the ticks are counted from the last use.
func TestWhoTalksStays(t *testing.T) {
	b := made(t, 1)
	x := expectMake(t, b, tcp(ann, 1), 5, 80, 0, 1024)
	y := expectMake(t, b, udp(ann, 1), 6, 53, 0, 1025)
	for now := 29; now < 300; now += 29 {
		expectUse(t, b, 1025, now)
		if now <= 87 {
			expectUse(t, b, 1024, now)
			x.Last = now
		}
		y.Last = now
		if now == 203 {
			expectExpire(t, b, now, x)
			continue
		}
		expectExpire(t, b, now)
	}
	expectAll(t, b, y)
	expectExpire(t, b, tick, y)
}

// TestExpireIsByPort: of several that go at once, whichever was used first.
func TestExpireIsByPort(t *testing.T) {
	for range 20 {
		b := made(t, 3)
		b1 := expectMake(t, b, tcp(high, 9), 5, 80, 50, 1024)
		b4 := expectMake(t, b, udp(ben, 8), 4, 80, 120, 1032)
		b2 := expectMake(t, b, udp(high, 7), 3, 80, 30, 1025)
		b6 := expectMake(t, b, tcp(zero, 6), 2, 80, 20, 1040)
		b5 := expectMake(t, b, tcp(ben, 5), 1, 80, 51, 1033)
		b3 := expectMake(t, b, tcp(high, 4), 0, 80, 0, 1026)
		expectExpire(t, b, 149, b2, b3, b6)
		expectExpire(t, b, 151, b1, b4, b5)
	}
}

func TestExpireRefuses(t *testing.T) {
	b := made(t, 1)
	x := expectMake(t, b, udp(ann, 1), 5, 53, 0, 1024)
	for _, now := range outside(tick) {
		if got, err := b.Expire(now); len(got) != 0 || plain.Told(err) != api.ErrRange {
			t.Fatalf("Expire(%d): got %v, %v, want ErrRange", now, got, err)
		}
		expectAll(t, b, x)
		expectBind(t, b, x)
	}
}

// TestPortsAreGivenBack: to the same client, and, with the last one of a block, to any.
func TestPortsAreGivenBack(t *testing.T) {
	b := made(t, 2)
	var stay, gone []api.Bind
	for port := range 8 {
		f := tcp(ann, port)
		if port%3 == 1 {
			f.Kind = 17
			gone = append(gone, expectMake(t, b, f, 5, 80, 0, 1024+port))
			continue
		}
		stay = append(stay, expectMake(t, b, f, 5, 80, 0, 1024+port))
	}
	expectMake(t, b, tcp(ben, 1), 5, 80, 0, 1032)
	expectUse(t, b, 1032, 60)
	refuseMake(t, b, tcp(high, 1), 5, 80, 0, api.ErrFull)
	expectExpire(t, b, 30, gone...)
	refuseMake(t, b, tcp(high, 1), 5, 80, 0, api.ErrFull)
	for _, near := range []int{1025, 1028, 1031} {
		stay = append(stay, expectMake(t, b, tcp(ann, near), 5, 80, 0, near))
	}
	refuseMake(t, b, tcp(ann, 9), 5, 80, 0, api.ErrFull)
	slices.SortFunc(stay, func(x, y api.Bind) int { return x.Near - y.Near })
	expectExpire(t, b, 100, stay...)
	expectMake(t, b, tcp(high, 1), 5, 80, 100, 1024)
	refuseMake(t, b, tcp(ann, 1), 5, 80, 100, api.ErrFull)
	expectExpire(t, b, 160, api.Bind{Flow: tcp(ben, 1), Near: 1032, Back: 5, Far: 80, Last: 60})
	expectMake(t, b, tcp(ann, 1), 5, 80, 160, 1032)
}

// TestAFlowComesAgain: what it had is not kept; a tick that is earlier is none of another's.
func TestAFlowComesAgain(t *testing.T) {
	b := made(t, 1)
	x := expectMake(t, b, udp(ann, 1), 5, 53, 70, 1024)
	y := expectMake(t, b, udp(ann, 2), 5, 53, 80, 1025)
	expectExpire(t, b, 100, x)
	z := expectMake(t, b, udp(ann, 1), 6, 54, 3, 1024)
	expectAll(t, b, z, y)
	expectUse(t, b, 1024, 4)
	z.Last = 4
	expectBind(t, b, z)
	expectExpire(t, b, 33)
	expectExpire(t, b, 34, z)
	expectAll(t, b, y)
}

func TestListsAreFresh(t *testing.T) {
	b := made(t, 1)
	x := expectMake(t, b, tcp(ann, 1), 5, 80, 0, 1024)
	y := expectMake(t, b, tcp(ann, 2), 5, 80, 0, 1025)
	first, second := b.All(), b.All()
	clear(first)
	_ = append(first[:0], api.Bind{Near: 9}, api.Bind{Near: 8})
	if !slices.Equal(second, []api.Bind{x, y}) {
		t.Errorf("the second list is %v", second)
	}
	expectAll(t, b, x, y)
	gone, err := b.Expire(100)
	if err != nil || !slices.Equal(gone, second) {
		t.Fatalf("Expire: got %v, %v", gone, err)
	}
	clear(gone)
	expectAll(t, b)
	if !slices.Equal(second, []api.Bind{x, y}) {
		t.Errorf("the list of before is %v", second)
	}
}

// TestOneIsNotTheOther: two of New share nothing.
func TestOneIsNotTheOther(t *testing.T) {
	b, c := made(t, 1), made(t, 1)
	x := expectMake(t, b, udp(ann, 1), 5, 80, 0, 1024)
	expectAll(t, c)
	expectNoBind(t, c, x.Flow)
	expectNoPort(t, c, 17, 1024)
	y := expectMake(t, c, udp(ben, 1), 6, 81, 1, 1024)
	expectExpire(t, c, 31, y)
	expectAll(t, b, x)
}

// TestAskingChangesNothing: however often it is asked.
func TestAskingChangesNothing(t *testing.T) {
	b := made(t, 1)
	x := expectMake(t, b, udp(ann, 1), 5, 80, 0, 1024)
	for range 100 {
		expectBind(t, b, x)
		expectNoBind(t, b, udp(ann, 2))
		expectNoPort(t, b, 6, 1024)
		expectNoPort(t, b, 17, 1025)
		expectAll(t, b, x)
		expectExpire(t, b, 29)
	}
	expectExpire(t, b, 30, x)
}

// model has binds in a list, in no order, and works all else out of it.
type model struct {
	blocks int
	list   []api.Bind
}

func (m *model) at(near int) int {
	return slices.IndexFunc(m.list, func(x api.Bind) bool { return x.Near == near })
}

// owner of a block: nobody where it has no bind.
func (m *model) owner(k int) (api.Six, bool) {
	for _, x := range m.list {
		if (x.Near-1024)/8 == k {
			return x.Client, true
		}
	}
	return api.Six{}, false
}

// room is the port that a client is given next; 0: none.
func (m *model) room(client api.Six) int {
	for near := 1024; near < 1024+8*m.blocks; near++ {
		if who, some := m.owner((near - 1024) / 8); some && who == client && m.at(near) < 0 {
			return near
		}
	}
	for k := range m.blocks {
		if _, some := m.owner(k); !some {
			return 1024 + 8*k
		}
	}
	return 0
}

func (m *model) make(t *testing.T, b *Table, f api.Flow, now int) {
	t.Helper()
	clash := slices.ContainsFunc(m.list, func(x api.Bind) bool { return x.Flow == f })
	near := m.room(f.Client)
	switch {
	case clash:
		refuseMake(t, b, f, now, 80, now, api.ErrClash)
	case near == 0:
		refuseMake(t, b, f, now, 80, now, api.ErrFull)
	default:
		m.list = append(m.list, expectMake(t, b, f, now, 80, now, near))
	}
}

func (m *model) use(t *testing.T, b *Table, near, now int) {
	t.Helper()
	i := m.at(near)
	switch {
	case i < 0:
		refuseUse(t, b, near, now, api.ErrNone)
	case now < m.list[i].Last:
		refuseUse(t, b, near, now, api.ErrState)
	default:
		expectUse(t, b, near, now)
		m.list[i].Last = now
	}
}

func (m *model) expire(t *testing.T, b *Table, now int) {
	t.Helper()
	var stay, gone []api.Bind
	for _, x := range m.list {
		if x.Kind == 6 && now-x.Last >= 100 || x.Kind == 17 && now-x.Last >= 30 {
			gone = append(gone, x)
		} else {
			stay = append(stay, x)
		}
	}
	m.list = stay
	slices.SortFunc(gone, func(x, y api.Bind) int { return x.Near - y.Near })
	expectExpire(t, b, now, gone...)
}

// hold: the binds are the model's.
func (m *model) hold(t *testing.T, b *Table) {
	t.Helper()
	for _, x := range m.list {
		expectBind(t, b, x)
	}
	all := slices.Clone(m.list)
	slices.SortFunc(all, func(x, y api.Bind) int { return x.Near - y.Near })
	expectAll(t, b, all...)
	for near := 1016; near < 1160; near++ {
		i := m.at(near)
		for _, kind := range []int{6, 17} {
			if i < 0 || m.list[i].Kind != kind {
				expectNoPort(t, b, kind, near)
			}
		}
	}
}

// walk: three bytes are one call, on the table and on the model, at a tick that goes on, but not always.
func walk(t *testing.T, blocks int, calls []byte) {
	t.Helper()
	b := made(t, blocks)
	m := &model{blocks: blocks}
	clients := []api.Six{zero, ann, ben, high, {7: 1}}
	now := 0
	for ; len(calls) >= 3; calls = calls[3:] {
		what, which, step := calls[0], int(calls[1]), int(calls[2])
		now = max(now+step%16-4, 0)
		switch {
		case what < 128:
			f := tcp(clients[which%5], which/10)
			if which%2 == 0 {
				f = udp(clients[which%5], which/10)
			}
			m.make(t, b, f, now)
		case what < 224:
			m.use(t, b, 1020+which%140, now)
		default:
			m.expire(t, b, now)
		}
		m.hold(t, b)
	}
}

func TestLongWalks(t *testing.T) {
	for blocks := 1; blocks <= 16; blocks++ {
		x := uint32(blocks)
		calls := make([]byte, 900)
		for i := range calls {
			x = x*1664525 + 1013904223
			calls[i] = byte(x >> 24)
			// At first nothing goes, so that much is taken once.
			if i < 450 && i%3 == 0 {
				calls[i] &= 127
			}
		}
		walk(t, blocks, calls)
	}
}

func FuzzWalk(f *testing.F) {
	f.Add(2, []byte{0, 1, 5, 0, 2, 5, 200, 4, 5, 255, 0, 15})
	f.Add(16, []byte{0, 0, 0, 0, 0, 0, 0, 10, 15, 255, 0, 15, 255, 0, 15, 255, 0, 15})
	f.Fuzz(func(t *testing.T, blocks int, calls []byte) {
		if blocks < 1 || blocks > 16 {
			if b, err := New(blocks); b != nil || plain.Told(err) != api.ErrRange {
				t.Fatalf("New(%d): got %v, %v, want nil, ErrRange", blocks, b, err)
			}
			return
		}
		walk(t, blocks, calls[:min(len(calls), 600)])
	})
}

// FuzzNumbers: whatever the numbers are, every call ends, and what is refused changes nothing.
func FuzzNumbers(f *testing.F) {
	f.Add(6, 1, 2, 3, 4, 5, 6, 7, 1024)
	f.Add(17, 65535, 65535, 65535, 65535, four, 65535, tick, 1025)
	f.Add(0, -1, math.MinInt, math.MaxInt, 65536, -1, -1, -1, -1)
	f.Fuzz(func(t *testing.T, kind, client, port, dst, door, back, far, now, near int) {
		b := made(t, 1)
		first := expectMake(t, b, tcp(ann, 1), 1, 1, 1, 1024)
		flow := api.Flow{Kind: kind, Client: api.Six{3: client}, Port: port, Dst: api.Six{5: dst}, Door: door}
		good := kind == 6 || kind == 17
		for _, x := range []int{client, port, dst, door} {
			good = good && x >= 0 && x <= 65535
		}
		if err := Check(flow); good != (err == nil) || !good && plain.Told(err) != api.ErrRange {
			t.Fatalf("Check(%v): got %v", flow, err)
		}
		timely := now >= 0 && now <= tick
		if !good || back < 0 || back > four || far < 0 || far > 65535 || !timely {
			refuseMake(t, b, flow, back, far, now, api.ErrRange)
		} else {
			refuseMake(t, b, flow, back, far, now, api.ErrFull)
		}
		switch {
		case near != 1024:
			refuseUse(t, b, near, now, api.ErrNone)
			expectNoPort(t, b, kind, near)
		case !timely:
			refuseUse(t, b, near, now, api.ErrRange)
		case now < 1:
			refuseUse(t, b, near, now, api.ErrState)
		default:
			expectUse(t, b, near, now)
			first.Last = now
		}
		expectBind(t, b, first)
	})
}
