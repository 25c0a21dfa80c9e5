package ip6

import (
	"bytes"
	"math"
	"testing"

	"gangplank/api"
	"gangplank/plain"
)

// row is a packet and its bytes, all written out.
type row struct {
	p api.Pack6
	b []byte
}

func rows() []row {
	const most = 65535
	all := api.Six{most, most, most, most, most, most, most, most}
	return []row{
		{api.Pack6{}, append([]byte{96}, make([]byte, 39)...)},
		{
			api.Pack6{Hop: 9, Kind: 17, Body: []byte{7}},
			append(append([]byte{96, 0, 0, 0, 0, 1, 17, 9}, make([]byte, 32)...), 7),
		},
		{
			api.Pack6{
				Src: api.Six{0x0102, 0x0304, 0x0506, 0x0708, 0x090a, 0x0b0c, 0x0d0e, 0x0f10},
				Dst: api.Six{0x1112, 0x1314, 0x1516, 0x1718, 0x191a, 0x1b1c, 0x1d1e, 0x1f20},
				Hop: 64, Kind: 6, Body: []byte{96, 0, 0, 0},
			},
			[]byte{
				96, 0, 0, 0, 0, 4, 6, 64,
				1, 2, 3, 4, 5, 6, 7, 8, 9, 10, 11, 12, 13, 14, 15, 16,
				17, 18, 19, 20, 21, 22, 23, 24, 25, 26, 27, 28, 29, 30, 31, 32,
				96, 0, 0, 0,
			},
		},
		{
			api.Pack6{Src: all, Dst: all, Hop: 255, Kind: 255, Body: make([]byte, api.MaxBody)},
			append(append([]byte{96, 0, 0, 0, 1, 64, 255, 255}, bytes.Repeat([]byte{255}, 32)...), make([]byte, 320)...),
		},
		{
			api.Pack6{Src: api.Six{0x2001, 0xdb8, 7: 1}, Dst: api.Six{0x64, 0xff9b, 6: 0xc000, 7: 0x201}, Hop: 1, Body: make([]byte, 256)},
			append([]byte{
				96, 0, 0, 0, 1, 0, 0, 1,
				0x20, 0x01, 0x0d, 0xb8, 0, 0, 0, 0, 0, 0, 0, 0, 0, 0, 0, 1,
				0, 0x64, 0xff, 0x9b, 0, 0, 0, 0, 0, 0, 0, 0, 192, 0, 2, 1,
			}, make([]byte, 256)...),
		},
	}
}

// body gives n bytes that differ from their neighbours.
func body(n int) []byte {
	b := make([]byte, n)
	for i := range b {
		b[i] = byte(7*i + 3)
	}
	return b
}

// example is a packet of which no two numbers are the same.
func example() api.Pack6 {
	return api.Pack6{
		Src: api.Six{1, 2, 3, 4, 5, 6, 7, 8}, Dst: api.Six{9, 10, 11, 12, 13, 14, 15, 16},
		Hop: 17, Kind: 18, Body: []byte{19, 20},
	}
}

func same(p, q api.Pack6) bool {
	return p.Src == q.Src && p.Dst == q.Dst && p.Hop == q.Hop && p.Kind == q.Kind && bytes.Equal(p.Body, q.Body)
}

func expectBytes(t *testing.T, p api.Pack6, want []byte, wrong api.Errno) {
	t.Helper()
	got, err := Encode(p)
	if !bytes.Equal(got, want) || plain.Told(err) != wrong {
		t.Errorf("Encode(%v): got %v, %v; want %v, %v", p, got, err, want, wrong)
	}
}

func expectPacket(t *testing.T, b []byte, want api.Pack6, wrong api.Errno) {
	t.Helper()
	got, err := Decode(b)
	if !same(got, want) || plain.Told(err) != wrong {
		t.Errorf("Decode(%v): got %v, %v; want %v, %v", b, got, err, want, wrong)
	}
}

// refused tells that Check and Encode both answer the error, and no byte.
func refused(t *testing.T, p api.Pack6, wrong api.Errno) {
	t.Helper()
	if err := Check(p); plain.Told(err) != wrong {
		t.Errorf("Check(%v): got %v, want %v", p, err, wrong)
	}
	expectBytes(t, p, nil, wrong)
}

// place is where a number stands in a packet and, high byte first, in its bytes.
type place struct {
	name   string
	number func(*api.Pack6) *int
	at     int
	size   int
}

func places() []place {
	list := []place{
		{"Kind", func(p *api.Pack6) *int { return &p.Kind }, 6, 1},
		{"Hop", func(p *api.Pack6) *int { return &p.Hop }, 7, 1},
	}
	for i := range 8 {
		list = append(list,
			place{"Src", func(p *api.Pack6) *int { return &p.Src[i] }, 8 + 2*i, 2},
			place{"Dst", func(p *api.Pack6) *int { return &p.Dst[i] }, 24 + 2*i, 2})
	}
	return list
}

func (e place) most() int {
	return 1<<(8*e.size) - 1
}

func TestRows(t *testing.T) {
	for _, r := range rows() {
		if err := Check(r.p); err != nil {
			t.Errorf("Check(%v): %v", r.p, err)
		}
		expectBytes(t, r.p, r.b, api.OK)
		expectPacket(t, r.b, r.p, api.OK)
	}
}

func TestEveryNumberStandsInItsPlace(t *testing.T) {
	plainly, err := Encode(example())
	if err != nil {
		t.Fatal(err)
	}
	for _, e := range places() {
		for x := range e.most() + 1 {
			p := example()
			*e.number(&p) = x
			want := bytes.Clone(plainly)
			want[e.at+e.size-1] = byte(x)
			if e.size == 2 {
				want[e.at] = byte(x >> 8)
			}
			if err := Check(p); err != nil {
				t.Fatalf("Check(%v): %v", p, err)
			}
			expectBytes(t, p, want, api.OK)
			expectPacket(t, want, p, api.OK)
			if t.Failed() {
				t.Fatalf("%s at %d", e.name, e.at)
			}
		}
	}
}

func TestNumbersOutside(t *testing.T) {
	for _, e := range places() {
		for _, x := range []int{-1, e.most() + 1, -e.most(), e.most() + 1<<32, 1 << 40, math.MinInt, math.MaxInt} {
			for _, r := range rows() {
				*e.number(&r.p) = x
				refused(t, r.p, api.ErrRange)
			}
		}
	}
}

func TestBodies(t *testing.T) {
	for n := range api.MaxBody + 1 {
		p := example()
		p.Body = body(n)
		b, err := Encode(p)
		if err != nil || len(b) != 40+n || int(b[4])<<8+int(b[5]) != n || !bytes.Equal(b[40:], p.Body) {
			t.Errorf("Encode of %d: got %v, %v", n, b, err)
			continue
		}
		expectPacket(t, b, p, api.OK)
	}
}

func TestNoBodyIsAnEmptyOne(t *testing.T) {
	p := example()
	p.Body = nil
	none, err := Encode(p)
	if err != nil {
		t.Fatal(err)
	}
	p.Body = []byte{}
	expectBytes(t, p, none, api.OK)
}

func TestBodyTooLong(t *testing.T) {
	for _, n := range []int{api.MaxBody + 1, api.MaxBody + 2, 512, 65535, 65536, 65536 + 5, 100000} {
		refused(t, api.Pack6{Body: body(n)}, api.ErrFull)
		for _, e := range places() {
			p := api.Pack6{Body: body(n)}
			*e.number(&p) = -1
			refused(t, p, api.ErrRange)
		}
		long := append([]byte{96, 0, 0, 0, byte(n >> 8), byte(n)}, make([]byte, 34)...)
		expectPacket(t, append(long, body(n)...), api.Pack6{}, api.ErrSyntax)
	}
}

func TestDecodeOfTooFewOrTooMany(t *testing.T) {
	for _, r := range rows() {
		for n := range r.b {
			expectPacket(t, r.b[:n], api.Pack6{}, api.ErrSyntax)
		}
		for n := 1; n <= 300; n++ {
			expectPacket(t, append(bytes.Clone(r.b), make([]byte, n)...), api.Pack6{}, api.ErrSyntax)
		}
	}
	expectPacket(t, nil, api.Pack6{}, api.ErrSyntax)
	expectPacket(t, []byte{}, api.Pack6{}, api.ErrSyntax)
}

// The first six bytes are the same in every packet of so many bytes; any other byte may be any.
func TestDecodeSeesEveryByte(t *testing.T) {
	for _, r := range rows() {
		for at := range r.b {
			for x := range 256 {
				b := bytes.Clone(r.b)
				b[at] = byte(x)
				if at < 6 && b[at] != r.b[at] {
					expectPacket(t, b, api.Pack6{}, api.ErrSyntax)
					continue
				}
				p, err := Decode(b)
				if err != nil {
					t.Fatalf("Decode(%v): %v", b, err)
				}
				if same(p, r.p) != bytes.Equal(b, r.b) {
					t.Fatalf("Decode(%v): got %v, as of %v", b, p, r.b)
				}
				expectBytes(t, p, b, api.OK)
			}
		}
	}
}

func TestEveryOtherLength(t *testing.T) {
	for _, r := range rows() {
		b := bytes.Clone(r.b)
		for n := range 65536 {
			b[4], b[5] = byte(n>>8), byte(n)
			if n == len(r.p.Body) {
				expectPacket(t, b, r.p, api.OK)
				continue
			}
			expectPacket(t, b, api.Pack6{}, api.ErrSyntax)
		}
	}
}

func TestNothingIsWrittenOrShared(t *testing.T) {
	space := body(40)
	p := example()
	p.Body = space[4:9]
	b, err := Encode(p)
	if err != nil || !bytes.Equal(space, body(40)) {
		t.Fatalf("Encode wrote: %v, %v", space, err)
	}
	b[40] ^= 255
	if !bytes.Equal(space, body(40)) {
		t.Error("Encode shares its argument's body")
	}
	b[40] ^= 255
	given := append(bytes.Clone(b), 1, 2, 3)
	kept := bytes.Clone(given)
	q, err := Decode(given[:len(b)])
	if err != nil || !bytes.Equal(given, kept) {
		t.Fatalf("Decode wrote: %v, %v", given, err)
	}
	_ = append(q.Body, 9)
	q.Body[0] ^= 255
	if !bytes.Equal(given, kept) {
		t.Error("Decode shares its argument")
	}
}

func TestAnswersAreFresh(t *testing.T) {
	one, _ := Encode(example())
	two, _ := Encode(example())
	first, _ := Decode(one)
	second, _ := Decode(one)
	clear(one)
	clear(first.Body)
	expectPacket(t, two, example(), api.OK)
	if !same(second, example()) {
		t.Error("two answers of Decode share memory")
	}
}

func FuzzDecode(f *testing.F) {
	for _, r := range rows() {
		f.Add(r.b)
	}
	f.Fuzz(func(t *testing.T, b []byte) {
		p, err := Decode(b)
		if err != nil {
			expectPacket(t, b, api.Pack6{}, api.ErrSyntax)
			return
		}
		expectBytes(t, p, b, api.OK)
	})
}
