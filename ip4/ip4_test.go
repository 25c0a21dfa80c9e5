package ip4

import (
	"bytes"
	"fmt"
	"math"
	"testing"

	"gangplank/api"
	"gangplank/plain"
)

// row is a packet and its bytes, all written out.
type row struct {
	p api.Pack4
	b []byte
}

func rows() []row {
	return []row{
		{api.Pack4{}, []byte{69, 0, 0, 20, 0, 0, 64, 0, 0, 0, 0x7a, 0xeb, 0, 0, 0, 0, 0, 0, 0, 0}},
		{
			api.Pack4{Src: 1, Dst: 2, TTL: 9, Kind: 17, Body: []byte{7}},
			[]byte{69, 0, 0, 21, 0, 0, 64, 0, 9, 17, 113, 214, 0, 0, 0, 1, 0, 0, 0, 2, 7},
		},
		{
			api.Pack4{Src: 0xc0a80001, Dst: 0xc0a800c7, TTL: 64, Kind: 17, Body: make([]byte, 95)},
			append([]byte{69, 0, 0, 115, 0, 0, 64, 0, 64, 17, 0xb8, 0x61, 192, 168, 0, 1, 192, 168, 0, 199}, make([]byte, 95)...),
		},
		{
			api.Pack4{Src: 1<<32 - 1, Dst: 1<<32 - 1, TTL: 255, Kind: 255, ID: 65535, Body: []byte{0, 255}},
			[]byte{69, 0, 0, 22, 255, 255, 64, 0, 255, 255, 0x7a, 0xe9, 255, 255, 255, 255, 255, 255, 255, 255, 0, 255},
		},
		{
			api.Pack4{Src: 0x01020304, Dst: 0x05060708, TTL: 9, Kind: 10, ID: 0x0b0c, Body: []byte{69, 0, 0, 0}},
			[]byte{69, 0, 0, 24, 11, 12, 64, 0, 9, 10, 0x56, 0xbd, 1, 2, 3, 4, 5, 6, 7, 8, 69, 0, 0, 0},
		},
		{
			// All but the check adds up to 65535, so that the check is 0.
			api.Pack4{ID: 0x7aeb},
			[]byte{69, 0, 0, 20, 0x7a, 0xeb, 64, 0, 0, 0, 0, 0, 0, 0, 0, 0, 0, 0, 0, 0},
		},
	}
}

// body gives n bytes that differ from their neighbours.
func body(n int) []byte {
	b := make([]byte, n)
	for i := range b {
		b[i] = byte(7*i + 3)
	}
	return b
}

func same(p, q api.Pack4) bool {
	return p.Src == q.Src && p.Dst == q.Dst && p.TTL == q.TTL && p.Kind == q.Kind && p.ID == q.ID && bytes.Equal(p.Body, q.Body)
}

func expectBytes(t *testing.T, p api.Pack4, want []byte, wrong api.Errno) {
	t.Helper()
	got, err := Encode(p)
	if !bytes.Equal(got, want) || plain.Told(err) != wrong {
		t.Errorf("Encode(%v): got %v, %v; want %v, %v", p, got, err, want, wrong)
	}
}

func expectPacket(t *testing.T, b []byte, want api.Pack4, wrong api.Errno) {
	t.Helper()
	got, err := Decode(b)
	if !same(got, want) || plain.Told(err) != wrong {
		t.Errorf("Decode(%v): got %v, %v; want %v, %v", b, got, err, want, wrong)
	}
}

// refused tells that Check and Encode both answer the error, and no byte.
func refused(t *testing.T, p api.Pack4, wrong api.Errno) {
	t.Helper()
	if err := Check(p); plain.Told(err) != wrong {
		t.Errorf("Check(%v): got %v, want %v", p, err, wrong)
	}
	expectBytes(t, p, nil, wrong)
}

// checked gives the bytes with a check that goes with them, whatever else is wrong.
func checked(b []byte) []byte {
	b = bytes.Clone(b)
	b[10], b[11] = 0, 0
	total := 0
	for i := 0; i < 20; i += 2 {
		total += int(b[i])<<8 + int(b[i+1])
	}
	check := 65535 - total%65535
	if total%65535 == 0 {
		check = 0
	}
	b[10], b[11] = byte(check>>8), byte(check)
	return b
}

// ends are places of numbers in a packet, with the greatest that may stand there.
var ends = []struct {
	name  string
	place func(*api.Pack4) *int
	most  int
}{
	{"Src", func(p *api.Pack4) *int { return &p.Src }, 1<<32 - 1},
	{"Dst", func(p *api.Pack4) *int { return &p.Dst }, 1<<32 - 1},
	{"TTL", func(p *api.Pack4) *int { return &p.TTL }, 255},
	{"Kind", func(p *api.Pack4) *int { return &p.Kind }, 255},
	{"ID", func(p *api.Pack4) *int { return &p.ID }, 65535},
}

func TestRows(t *testing.T) {
	for _, r := range rows() {
		if err := Check(r.p); err != nil {
			t.Errorf("Check(%v): %v", r.p, err)
		}
		expectBytes(t, r.p, r.b, api.OK)
		expectPacket(t, r.b, r.p, api.OK)
	}
}

func TestEveryBitOfEveryNumber(t *testing.T) {
	for _, e := range ends {
		for n := e.most; n > 0; n >>= 1 {
			for _, x := range []int{n, n + 1 - (n+1)/2, e.most - n, 0} {
				p := api.Pack4{Src: 3, Dst: 4, TTL: 5, Kind: 6, ID: 7, Body: []byte{8}}
				*e.place(&p) = x
				b, err := Encode(p)
				if err != nil || !bytes.Equal(b, checked(b)) {
					t.Errorf("%s %d: got %v, %v", e.name, x, b, err)
					continue
				}
				expectPacket(t, b, p, api.OK)
			}
		}
	}
}

func TestNumbersOutside(t *testing.T) {
	for _, e := range ends {
		for _, x := range []int{-1, e.most + 1, -e.most, e.most + 1<<32, 1 << 40, math.MinInt, math.MaxInt} {
			for _, r := range rows() {
				*e.place(&r.p) = x
				refused(t, r.p, api.ErrRange)
			}
		}
	}
}

func TestBodies(t *testing.T) {
	for n := range api.MaxBody + 1 {
		p := api.Pack4{Src: 1, Dst: 2, TTL: 3, Kind: 4, ID: 5, Body: body(n)}
		b, err := Encode(p)
		if err != nil || len(b) != 20+n || int(b[2])<<8+int(b[3]) != 20+n || !bytes.Equal(b[20:], p.Body) || !bytes.Equal(b, checked(b)) {
			t.Errorf("Encode of %d: got %v, %v", n, b, err)
			continue
		}
		expectPacket(t, b, p, api.OK)
	}
}

func TestBodyTooLong(t *testing.T) {
	for _, n := range []int{api.MaxBody + 1, api.MaxBody + 2, 65535 - 20, 65536, 100000} {
		refused(t, api.Pack4{Body: body(n)}, api.ErrFull)
		refused(t, api.Pack4{ID: -1, Body: body(n)}, api.ErrRange)
		all := 20 + n
		long := append([]byte{69, 0, byte(all >> 8), byte(all), 0, 0, 64, 0, 0, 0, 0, 0, 0, 0, 0, 0, 0, 0, 0, 0}, body(n)...)
		expectPacket(t, checked(long), api.Pack4{}, api.ErrSyntax)
	}
}

func TestDecodeOfTooFewOrTooMany(t *testing.T) {
	for _, r := range rows() {
		for n := range r.b {
			expectPacket(t, r.b[:n], api.Pack4{}, api.ErrSyntax)
			if n >= 20 {
				expectPacket(t, checked(r.b[:n]), api.Pack4{}, api.ErrSyntax)
			}
		}
		expectPacket(t, append(bytes.Clone(r.b), 0), api.Pack4{}, api.ErrSyntax)
	}
	expectPacket(t, nil, api.Pack4{}, api.ErrSyntax)
	expectPacket(t, []byte{}, api.Pack4{}, api.ErrSyntax)
}

// settled tells whether the byte at a place is the same in every packet of so many bytes.
func settled(place int) bool {
	return place < 4 || place == 6 || place == 7
}

func TestDecodeSeesEveryBit(t *testing.T) {
	for _, r := range rows() {
		for i := range 8 * len(r.b) {
			b := bytes.Clone(r.b)
			b[i/8] ^= 128 >> (i % 8)
			wrong := api.ErrSum
			if settled(i / 8) {
				wrong = api.ErrSyntax
				expectPacket(t, checked(b), api.Pack4{}, api.ErrSyntax)
			}
			if i >= 8*20 {
				want := r.p
				want.Body = b[20:]
				expectPacket(t, b, want, api.OK)
				continue
			}
			expectPacket(t, b, api.Pack4{}, wrong)
		}
	}
}

func TestEveryOtherCheck(t *testing.T) {
	for _, r := range rows() {
		b := bytes.Clone(r.b)
		right := int(b[10])<<8 + int(b[11])
		for check := range 65536 {
			b[10], b[11] = byte(check>>8), byte(check)
			_, err := Decode(b)
			if (check == right) != (err == nil) || err != nil && plain.Told(err) != api.ErrSum {
				t.Fatalf("Decode(%v): got %v", b, err)
			}
		}
	}
}

func TestSyntaxIsToldAheadOfTheCheck(t *testing.T) {
	for _, r := range rows() {
		for _, place := range []int{0, 1, 2, 3, 6, 7} {
			for x := range 256 {
				b := bytes.Clone(r.b)
				if b[place] == byte(x) {
					continue
				}
				b[place] = byte(x)
				b[11]++
				expectPacket(t, b, api.Pack4{}, api.ErrSyntax)
				expectPacket(t, checked(b), api.Pack4{}, api.ErrSyntax)
			}
		}
	}
}

func TestNothingIsWrittenOrShared(t *testing.T) {
	space := body(40)
	p := api.Pack4{Src: 1, Body: space[4:9]}
	b, err := Encode(p)
	if err != nil || !bytes.Equal(space, body(40)) {
		t.Fatalf("Encode wrote: %v, %v", space, err)
	}
	b[20] ^= 255
	if !bytes.Equal(space, body(40)) {
		t.Error("Encode shares its argument's body")
	}
	b[20] ^= 255
	given := append(bytes.Clone(b), 1, 2, 3)
	kept := bytes.Clone(given)
	q, err := Decode(given[:len(b)])
	if err != nil || !bytes.Equal(given, kept) {
		t.Fatalf("Decode wrote: %v, %v", given, err)
	}
	_ = append(q.Body, 9)
	q.Body[0] ^= 255
	if !bytes.Equal(given, kept) {
		t.Error("Decode shares its argument")
	}
}

func FuzzDecode(f *testing.F) {
	for _, r := range rows() {
		f.Add(r.b)
	}
	f.Fuzz(func(t *testing.T, b []byte) {
		p, err := Decode(b)
		if err != nil {
			expectPacket(t, b, api.Pack4{}, plain.Told(err))
			return
		}
		again, err := Encode(p)
		if err != nil || !bytes.Equal(again, b) {
			t.Errorf("%s: got %v, %v", fmt.Sprint(b), again, err)
		}
	})
}
