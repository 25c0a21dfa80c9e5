package proxy

import (
	"bytes"
	"math"
	"testing"

	"gangplank/api"
	"gangplank/plain"
)

const (
	all  = 52 // bytes of a head
	most = 65535
)

// row is a flow and its head, all written out.
type row struct {
	f api.Flow
	b []byte
}

func rows() []row {
	high := api.Six{most, most, most, most, most, most, most, most}
	return []row{
		{
			api.Flow{Kind: 6},
			append([]byte{13, 10, 13, 10, 0, 13, 10, 81, 85, 73, 84, 10, 33, 33, 0, 36}, make([]byte, 36)...),
		},
		{
			api.Flow{Kind: 17},
			append([]byte{13, 10, 13, 10, 0, 13, 10, 81, 85, 73, 84, 10, 33, 34, 0, 36}, make([]byte, 36)...),
		},
		{
			api.Flow{
				Kind:   6,
				Client: api.Six{0x0102, 0x0304, 0x0506, 0x0708, 0x090a, 0x0b0c, 0x0d0e, 0x0f10}, Port: 0x2122,
				Dst: api.Six{0x1112, 0x1314, 0x1516, 0x1718, 0x191a, 0x1b1c, 0x1d1e, 0x1f20}, Door: 0x2324,
			},
			[]byte{
				13, 10, 13, 10, 0, 13, 10, 81, 85, 73, 84, 10, 33, 33, 0, 36,
				1, 2, 3, 4, 5, 6, 7, 8, 9, 10, 11, 12, 13, 14, 15, 16,
				17, 18, 19, 20, 21, 22, 23, 24, 25, 26, 27, 28, 29, 30, 31, 32,
				33, 34, 35, 36,
			},
		},
		{
			api.Flow{
				Kind:   17,
				Client: api.Six{0x2001, 0xdb8, 7: 5}, Port: 40000,
				Dst: api.Six{0x2001, 0xdb8, 7: 1}, Door: 80,
			},
			[]byte{
				13, 10, 13, 10, 0, 13, 10, 81, 85, 73, 84, 10, 33, 34, 0, 36,
				0x20, 0x01, 0x0d, 0xb8, 0, 0, 0, 0, 0, 0, 0, 0, 0, 0, 0, 5,
				0x20, 0x01, 0x0d, 0xb8, 0, 0, 0, 0, 0, 0, 0, 0, 0, 0, 0, 1,
				156, 64, 0, 80,
			},
		},
		{
			api.Flow{Kind: 17, Client: high, Port: most, Dst: high, Door: most},
			append(
				[]byte{13, 10, 13, 10, 0, 13, 10, 81, 85, 73, 84, 10, 33, 34, 0, 36},
				bytes.Repeat([]byte{255}, 36)...),
		},
	}
}

func expectBytes(t *testing.T, f api.Flow, want []byte, wrong api.Errno) {
	t.Helper()
	got, err := Encode(f)
	if !bytes.Equal(got, want) || plain.Told(err) != wrong {
		t.Fatalf("Encode(%v): got %v, %v; want %v, %v", f, got, err, want, wrong)
	}
}

func expectFlow(t *testing.T, b []byte, want api.Flow) {
	t.Helper()
	got, n, err := Decode(b)
	if got != want || n != all || err != nil {
		t.Fatalf("Decode(%v): got %v, %d, %v; want %v, %d", b, got, n, err, want, all)
	}
}

func refuseBytes(t *testing.T, b []byte) {
	t.Helper()
	got, n, err := Decode(b)
	if got != (api.Flow{}) || n != 0 || plain.Told(err) != api.ErrSyntax {
		t.Fatalf("Decode(%v): got %v, %d, %v; want ErrSyntax alone", b, got, n, err)
	}
}

// place is where a number stands in a flow and, high byte first, in its head.
type place struct {
	number func(*api.Flow) *int
	at     int
}

func places() []place {
	list := []place{
		{func(f *api.Flow) *int { return &f.Port }, 48},
		{func(f *api.Flow) *int { return &f.Door }, 50},
	}
	for i := range 8 {
		list = append(list,
			place{func(f *api.Flow) *int { return &f.Client[i] }, 16 + 2*i},
			place{func(f *api.Flow) *int { return &f.Dst[i] }, 32 + 2*i})
	}
	return list
}

func TestRows(t *testing.T) {
	for _, r := range rows() {
		expectBytes(t, r.f, r.b, api.OK)
		expectFlow(t, r.b, r.f)
	}
}

func TestEveryNumberStandsInItsPlace(t *testing.T) {
	for _, r := range rows() {
		for _, e := range places() {
			f, b := r.f, bytes.Clone(r.b)
			for x := range most + 1 {
				*e.number(&f) = x
				b[e.at], b[e.at+1] = byte(x>>8), byte(x)
				expectBytes(t, f, b, api.OK)
				expectFlow(t, b, f)
			}
		}
	}
}

func TestNumbersOutside(t *testing.T) {
	for _, r := range rows() {
		for _, e := range places() {
			for _, x := range []int{-1, most + 1, -most, most + 2, 1 << 32, 1<<32 + 80, math.MinInt, math.MaxInt} {
				f := r.f
				*e.number(&f) = x
				expectBytes(t, f, nil, api.ErrRange)
			}
		}
	}
}

func TestNoKind(t *testing.T) {
	others := []int{-1, -6, -17, 256 + 6, 256 + 17, 1<<32 + 6, 1<<32 + 17, math.MinInt, math.MaxInt}
	for kind := range 256 {
		if kind != 6 && kind != 17 {
			others = append(others, kind)
		}
	}
	for _, r := range rows() {
		for _, kind := range others {
			f := r.f
			f.Kind = kind
			expectBytes(t, f, nil, api.ErrRange)
		}
	}
	expectBytes(t, api.Flow{}, nil, api.ErrRange)
}

// The first sixteen bytes are the same in every head, but for the kind's; any other byte may be any.
func TestDecodeSeesEveryByte(t *testing.T) {
	for _, r := range rows() {
		for at := range r.b {
			for x := range 256 {
				b := bytes.Clone(r.b)
				b[at] = byte(x)
				if at < 16 && b[at] != r.b[at] && !(at == 13 && (x == 33 || x == 34)) {
					refuseBytes(t, b)
					continue
				}
				f, n, err := Decode(b)
				if n != all || err != nil || (f == r.f) != bytes.Equal(b, r.b) {
					t.Fatalf("Decode(%v): got %v, %d, %v, as of %v", b, f, n, err, r.b)
				}
				expectBytes(t, f, b, api.OK)
			}
		}
	}
}

func TestDecodeOfTheOtherKind(t *testing.T) {
	for _, r := range rows() {
		f, b := r.f, bytes.Clone(r.b)
		f.Kind = 6 + 17 - f.Kind
		b[13] = 33 + 34 - b[13]
		expectFlow(t, b, f)
	}
}

// Every other length, and the bytes to go with it: there is one form of a head alone.
func TestDecodeOfEveryOtherLength(t *testing.T) {
	for _, r := range rows() {
		b := append(bytes.Clone(r.b), make([]byte, 300)...)
		for n := range most + 1 {
			b[14], b[15] = byte(n>>8), byte(n)
			if n == 36 {
				expectFlow(t, b, r.f)
				continue
			}
			refuseBytes(t, b)
			refuseBytes(t, b[:16+min(n, 320)])
		}
	}
}

func TestDecodeOfTooFew(t *testing.T) {
	refuseBytes(t, nil)
	refuseBytes(t, []byte{})
	for _, r := range rows() {
		for n := range r.b {
			refuseBytes(t, r.b[:n:n])
			// What lies behind a list's length is not read.
			refuseBytes(t, r.b[:n])
		}
	}
}

// TestDecodeOfMore: whatever stands behind a head is not looked at, nor counted.
func TestDecodeOfMore(t *testing.T) {
	for _, r := range rows() {
		for n := range 300 {
			expectFlow(t, append(bytes.Clone(r.b), bytes.Repeat([]byte{byte(n)}, n)...), r.f)
		}
		for _, next := range rows() {
			expectFlow(t, append(bytes.Clone(r.b), next.b...), r.f)
		}
		expectFlow(t, append(bytes.Clone(r.b), make([]byte, 100000)...), r.f)
	}
}

// TestDecodeOfAHeadThatStandsBehind: bytes must begin with it.
func TestDecodeOfAHeadThatStandsBehind(t *testing.T) {
	for _, r := range rows() {
		for n := 1; n < 100; n++ {
			refuseBytes(t, append(make([]byte, n), r.b...))
			refuseBytes(t, append(bytes.Repeat([]byte("\r\n"), n), r.b...))
		}
		for n := 1; n < all; n++ {
			refuseBytes(t, append(bytes.Clone(r.b[n:]), r.b...))
		}
	}
}

func TestNothingIsWritten(t *testing.T) {
	for _, r := range rows() {
		given := append(bytes.Clone(r.b), 1, 2, 3)
		kept := bytes.Clone(given)
		expectFlow(t, given[:all], r.f)
		refuseBytes(t, given[:all-1])
		refuseBytes(t, given[1:])
		if !bytes.Equal(given, kept) {
			t.Fatalf("Decode wrote: it was %v and is %v", kept, given)
		}
	}
}

func TestAnswersAreFresh(t *testing.T) {
	for _, r := range rows() {
		one, err := Encode(r.f)
		if err != nil {
			t.Fatal(err)
		}
		two, err := Encode(r.f)
		if err != nil {
			t.Fatal(err)
		}
		clear(one[:cap(one)])
		if !bytes.Equal(two, r.b) {
			t.Fatal("two answers of Encode share memory")
		}
		expectBytes(t, r.f, r.b, api.OK)
		expectFlow(t, r.b, r.f)
	}
}

func FuzzDecode(f *testing.F) {
	for _, r := range rows() {
		f.Add(r.b)
		f.Add(append(bytes.Clone(r.b), 7))
	}
	f.Fuzz(func(t *testing.T, b []byte) {
		flow, n, err := Decode(b)
		if err != nil {
			refuseBytes(t, b)
			return
		}
		if n != all {
			t.Fatalf("Decode(%v): %d bytes", b, n)
		}
		expectBytes(t, flow, b[:n], api.OK)
	})
}
