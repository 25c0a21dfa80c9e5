package seg

import (
	"bytes"
	"fmt"
	"math"
	"testing"

	"gangplank/api"
	"gangplank/plain"
)

// row is a segment, what stands over it, and its bytes, all written out.
type row struct {
	s    api.Seg
	over int
	b    []byte
}

func rows() []row {
	return []row{
		{api.Seg{Kind: api.UDP, From: 1, To: 2}, 0, []byte{0, 1, 0, 2, 0, 8, 255, 244}},
		{api.Seg{Kind: api.UDP, From: 1, To: 2}, 65535, []byte{0, 1, 0, 2, 0, 8, 255, 244}},
		{api.Seg{Kind: api.UDP}, 0, []byte{0, 0, 0, 0, 0, 8, 255, 247}},
		{
			api.Seg{Kind: api.UDP, From: 65535, To: 65535, Data: []byte{255}}, 65535,
			[]byte{255, 255, 255, 255, 0, 9, 0, 246, 255},
		},
		{
			api.Seg{Kind: api.UDP, From: 0x1234, To: 0x5678, Data: []byte{9, 10, 11}}, 0x9abc,
			[]byte{18, 52, 86, 120, 0, 11, 232, 129, 9, 10, 11},
		},
		// All but the check adds up to 65535, so that it would be 0.
		{api.Seg{Kind: api.UDP, To: 65527}, 0, []byte{0, 0, 255, 247, 0, 8, 255, 255}},
		{api.Seg{Kind: api.UDP, From: 1, To: 2}, 65524, []byte{0, 1, 0, 2, 0, 8, 255, 255}},
		{api.Seg{Kind: api.TCP}, 0, []byte{0, 0, 0, 0, 0, 0, 0, 0, 0, 0, 0, 0, 80, 0, 0, 0, 175, 255, 0, 0}},
		{
			api.Seg{Kind: api.TCP, From: 65535, To: 65535, Seq: 1<<32 - 1, Ack: 1<<32 - 1, Flags: 31, Window: 65535, Data: []byte{0, 255}}, 65535,
			[]byte{255, 255, 255, 255, 255, 255, 255, 255, 255, 255, 255, 255, 80, 31, 255, 255, 174, 225, 0, 0, 0, 255},
		},
		{
			api.Seg{Kind: api.TCP, From: 0x0102, To: 0x0304, Seq: 0x05060708, Ack: 0x090a0b0c, Flags: api.SYN | api.ACK, Window: 0x0d0e, Data: []byte{15, 16, 17}}, 0x1213,
			[]byte{1, 2, 3, 4, 5, 6, 7, 8, 9, 10, 11, 12, 80, 18, 13, 14, 76, 146, 0, 0, 15, 16, 17},
		},
		{
			api.Seg{Kind: api.TCP, From: 1024, To: 80, Flags: api.SYN}, 0,
			[]byte{4, 0, 0, 80, 0, 0, 0, 0, 0, 0, 0, 0, 80, 2, 0, 0, 171, 173, 0, 0},
		},
		// Of TCP it is 0 where it would be.
		{api.Seg{Kind: api.TCP, Window: 0xafff}, 0, []byte{0, 0, 0, 0, 0, 0, 0, 0, 0, 0, 0, 0, 80, 0, 175, 255, 0, 0, 0, 0}},
		{api.Seg{Kind: api.TCP}, 0xafff, []byte{0, 0, 0, 0, 0, 0, 0, 0, 0, 0, 0, 0, 80, 0, 0, 0, 0, 0, 0, 0}},
	}
}

var kinds = []int{api.TCP, api.UDP}

// wrongKinds are no kinds of segments.
var wrongKinds = []int{-1, 0, 1, 5, 7, 16, 18, 23, 255, 256 + api.TCP, 1<<32 + api.UDP, -api.TCP, -api.UDP, math.MinInt, math.MaxInt}

// overs are what may stand over a segment.
var overs = []int{0, 1, 255, 256, 4660, 32768, 65534, 65535}

// wrongOvers are beside them.
var wrongOvers = []int{-1, 65536, -65535, 1 << 32, math.MinInt, math.MaxInt}

// headOf and checkPlace are told anew here, by numbers.
func headOf(kind int) int {
	return map[int]int{api.TCP: 20, api.UDP: 8}[kind]
}

func checkPlace(kind int) int {
	return map[int]int{api.TCP: 16, api.UDP: 6}[kind]
}

// data gives n bytes that differ from their neighbours.
func data(n int) []byte {
	b := make([]byte, n)
	for i := range b {
		b[i] = byte(7*i + 3)
	}
	return b
}

// example is a segment of which no two numbers are the same.
func example(kind int) api.Seg {
	s := api.Seg{Kind: kind, From: 1, To: 2, Data: []byte{7, 8}}
	if kind == api.TCP {
		s.Seq, s.Ack, s.Flags, s.Window = 3, 4, 5, 9
	}
	return s
}

func same(s, q api.Seg) bool {
	return s.Kind == q.Kind && s.From == q.From && s.To == q.To && s.Seq == q.Seq && s.Ack == q.Ack &&
		s.Flags == q.Flags && s.Window == q.Window && bytes.Equal(s.Data, q.Data)
}

func expect(t *testing.T, name string, got int, err error, want int, wrong api.Errno) {
	t.Helper()
	if got != want || plain.Told(err) != wrong {
		t.Errorf("%s: got %d, %v; want %d, %v", name, got, err, want, wrong)
	}
}

func expectBytes(t *testing.T, s api.Seg, over int, want []byte, wrong api.Errno) {
	t.Helper()
	got, err := Encode(s, over)
	if !bytes.Equal(got, want) || plain.Told(err) != wrong {
		t.Errorf("Encode(%v, %d): got %v, %v; want %v, %v", s, over, got, err, want, wrong)
	}
}

func expectSeg(t *testing.T, kind int, b []byte, over int, want api.Seg, wrong api.Errno) {
	t.Helper()
	got, err := Decode(kind, b, over)
	if !same(got, want) || plain.Told(err) != wrong {
		t.Errorf("Decode(%d, %v, %d): got %v, %v; want %v, %v", kind, b, over, got, err, want, wrong)
	}
}

// refused tells that Check, Size and Encode all answer the error, and no byte, whatever stands over.
func refused(t *testing.T, s api.Seg, wrong api.Errno) {
	t.Helper()
	if err := Check(s); plain.Told(err) != wrong {
		t.Errorf("Check(%v): got %v, want %v", s, err, wrong)
	}
	n, err := Size(s)
	expect(t, fmt.Sprintf("Size(%v)", s), n, err, 0, wrong)
	for _, over := range []int{0, 65535, -1, 65536} {
		expectBytes(t, s, over, nil, wrong)
	}
}

// checked gives the bytes with a check that goes with them, whatever else is wrong.
func checked(kind int, b []byte, over int) []byte {
	b = bytes.Clone(b)
	at := checkPlace(kind)
	b[at], b[at+1] = 0, 0
	total := over
	for i, x := range b {
		if i%2 == 0 {
			total += 256 * int(x)
		} else {
			total += int(x)
		}
	}
	// A number above 0 keeps its rest by 65535, told from 1 to 65535.
	check := 65535
	if total > 0 {
		check = 65534 - (total-1)%65535
	}
	if check == 0 && kind == api.UDP {
		check = 65535
	}
	b[at], b[at+1] = byte(check>>8), byte(check)
	return b
}

// place is where a number stands in a segment and, high byte first, in its bytes.
type place struct {
	name   string
	number func(*api.Seg) *int
	at     int
	size   int
	most   int
}

// ports stand in every segment.
func ports() []place {
	return []place{
		{"From", func(s *api.Seg) *int { return &s.From }, 0, 2, 65535},
		{"To", func(s *api.Seg) *int { return &s.To }, 2, 2, 65535},
	}
}

// ofTCP stand in a segment of TCP alone.
func ofTCP() []place {
	return []place{
		{"Seq", func(s *api.Seg) *int { return &s.Seq }, 4, 4, 1<<32 - 1},
		{"Ack", func(s *api.Seg) *int { return &s.Ack }, 8, 4, 1<<32 - 1},
		{"Flags", func(s *api.Seg) *int { return &s.Flags }, 13, 1, 31},
		{"Window", func(s *api.Seg) *int { return &s.Window }, 14, 2, 65535},
	}
}

func places(kind int) []place {
	if kind == api.TCP {
		return append(ports(), ofTCP()...)
	}
	return ports()
}

func (e place) outside() []int {
	return []int{-1, e.most + 1, -e.most, e.most + 1<<32, 1 << 40, math.MinInt, math.MaxInt}
}

func TestRows(t *testing.T) {
	for _, r := range rows() {
		n, err := Size(r.s)
		expect(t, fmt.Sprintf("Size(%v)", r.s), n, err, len(r.b), api.OK)
		if err := Check(r.s); err != nil {
			t.Errorf("Check(%v): %v", r.s, err)
		}
		expectBytes(t, r.s, r.over, r.b, api.OK)
		expectSeg(t, r.s.Kind, r.b, r.over, r.s, api.OK)
	}
}

func TestEveryNumberStandsInItsPlace(t *testing.T) {
	for _, kind := range kinds {
		plainly, err := Encode(example(kind), 77)
		if err != nil {
			t.Fatal(err)
		}
		for _, e := range places(kind) {
			step := e.most/65536 + 1
			for x := 0; x <= e.most; x += step {
				for _, n := range []int{x, e.most - x} {
					s := example(kind)
					*e.number(&s) = n
					want := bytes.Clone(plainly)
					for i := range e.size {
						want[e.at+i] = byte(n >> (8 * (e.size - 1 - i)))
					}
					want = checked(kind, want, 77)
					expectBytes(t, s, 77, want, api.OK)
					expectSeg(t, kind, want, 77, s, api.OK)
					if t.Failed() {
						t.Fatalf("%s %d", e.name, n)
					}
				}
			}
		}
	}
}

func TestNumbersOutside(t *testing.T) {
	for _, r := range rows() {
		for _, e := range places(r.s.Kind) {
			for _, x := range e.outside() {
				s := r.s
				*e.number(&s) = x
				refused(t, s, api.ErrRange)
				s.Data = data(api.MaxData + 1)
				refused(t, s, api.ErrRange)
			}
		}
	}
}

func TestNoKind(t *testing.T) {
	for _, r := range rows() {
		for _, kind := range wrongKinds {
			s := r.s
			s.Kind = kind
			refused(t, s, api.ErrRange)
			s.Data = data(api.MaxData + 1)
			refused(t, s, api.ErrRange)
			expectSeg(t, kind, r.b, r.over, api.Seg{}, api.ErrRange)
			expectSeg(t, kind, nil, r.over, api.Seg{}, api.ErrRange)
			expectSeg(t, kind, r.b, -1, api.Seg{}, api.ErrRange)
		}
	}
	for kind := range 256 {
		err := Check(api.Seg{Kind: kind})
		if (err == nil) != (kind == 6 || kind == 17) || err != nil && plain.Told(err) != api.ErrRange {
			t.Errorf("Check of kind %d: %v", kind, err)
		}
	}
}

func TestWhatUDPHasNot(t *testing.T) {
	for _, e := range ofTCP() {
		for _, x := range append(e.outside(), 1, 2, 16, e.most) {
			s := api.Seg{Kind: api.UDP, From: 1, To: 2, Data: []byte{3}}
			*e.number(&s) = x
			refused(t, s, api.ErrShape)
			s.Data = data(api.MaxData + 1)
			refused(t, s, api.ErrShape)
			for _, p := range ports() {
				bad := s
				*p.number(&bad) = 65536
				refused(t, bad, api.ErrRange)
			}
		}
	}
}

func TestData(t *testing.T) {
	for _, kind := range kinds {
		for n := range api.MaxData + 1 {
			s := example(kind)
			s.Data = data(n)
			if err := Check(s); err != nil {
				t.Fatalf("Check of %d: %v", n, err)
			}
			b, err := Encode(s, n)
			if err != nil || len(b) != headOf(kind)+n || !bytes.Equal(b[headOf(kind):], s.Data) || !bytes.Equal(b, checked(kind, b, n)) {
				t.Errorf("Encode of %d: got %v, %v", n, b, err)
				continue
			}
			if kind == api.UDP && int(b[4])<<8+int(b[5]) != 8+n {
				t.Errorf("Encode of %d: length %v", n, b[4:6])
			}
			expectSeg(t, kind, b, n, s, api.OK)
		}
	}
}

func TestNoDataIsEmptyData(t *testing.T) {
	for _, kind := range kinds {
		s := example(kind)
		s.Data = nil
		none, err := Encode(s, 5)
		if err != nil {
			t.Fatal(err)
		}
		s.Data = []byte{}
		expectBytes(t, s, 5, none, api.OK)
	}
}

func TestDataTooLong(t *testing.T) {
	for _, kind := range kinds {
		for _, n := range []int{api.MaxData + 1, api.MaxData + 2, api.MaxBody, api.MaxBody + 1, api.MaxBytes, api.MaxBytes + 1, 65536, 65536 + 2, 100000} {
			s := example(kind)
			b, err := Encode(s, 0)
			if err != nil {
				t.Fatal(err)
			}
			s.Data = data(n)
			refused(t, s, api.ErrFull)
			long := append(b[:headOf(kind):headOf(kind)], s.Data...)
			if kind == api.UDP {
				long[4], long[5] = byte((8+n)>>8), byte(8+n)
			}
			expectSeg(t, kind, checked(kind, long, 0), 0, api.Seg{}, api.ErrSyntax)
			expectSeg(t, kind, checked(kind, long, 0), 65536, api.Seg{}, api.ErrRange)
		}
	}
}

func TestEveryOver(t *testing.T) {
	for _, r := range rows() {
		for over := range 65536 {
			b, err := Encode(r.s, over)
			if err != nil || !bytes.Equal(b, checked(r.s.Kind, r.b, over)) {
				t.Fatalf("Encode(%v, %d): got %v, %v", r.s, over, b, err)
			}
			expectSeg(t, r.s.Kind, b, over, r.s, api.OK)
			// 0 and 65535 add the same to a sum that is not 0.
			if over%65535 == r.over%65535 {
				continue
			}
			expectSeg(t, r.s.Kind, b, r.over, api.Seg{}, api.ErrSum)
		}
	}
}

func TestWrongOver(t *testing.T) {
	for _, r := range rows() {
		for _, over := range wrongOvers {
			expectBytes(t, r.s, over, nil, api.ErrRange)
			expectSeg(t, r.s.Kind, r.b, over, api.Seg{}, api.ErrRange)
			expectSeg(t, r.s.Kind, nil, over, api.Seg{}, api.ErrRange)
		}
	}
}

func TestDecodeOfTooFewOrTooMany(t *testing.T) {
	for _, kind := range kinds {
		expectSeg(t, kind, nil, 0, api.Seg{}, api.ErrSyntax)
		expectSeg(t, kind, []byte{}, 0, api.Seg{}, api.ErrSyntax)
	}
	for _, r := range rows() {
		kind := r.s.Kind
		for n := range headOf(kind) {
			expectSeg(t, kind, r.b[:n], r.over, api.Seg{}, api.ErrSyntax)
		}
		if kind == api.TCP {
			continue
		}
		// How many bytes there are in all stands in UDP alone.
		for n := headOf(kind); n < len(r.b); n++ {
			expectSeg(t, kind, r.b[:n], r.over, api.Seg{}, api.ErrSyntax)
			expectSeg(t, kind, checked(kind, r.b[:n], r.over), r.over, api.Seg{}, api.ErrSyntax)
		}
		more := append(bytes.Clone(r.b), 0)
		expectSeg(t, kind, more, r.over, api.Seg{}, api.ErrSyntax)
		expectSeg(t, kind, checked(kind, more, r.over), r.over, api.Seg{}, api.ErrSyntax)
	}
}

func TestEveryOtherLength(t *testing.T) {
	for _, r := range rows() {
		if r.s.Kind == api.TCP {
			continue
		}
		b := bytes.Clone(r.b)
		for n := range 65536 {
			b[4], b[5] = byte(n>>8), byte(n)
			want, wrong := api.Seg{}, api.ErrSyntax
			if n == len(b) {
				want, wrong = r.s, api.OK
			}
			expectSeg(t, api.UDP, checked(api.UDP, b, r.over), r.over, want, wrong)
		}
	}
}

// may tells whether a byte may stand at a place of a segment of so many bytes.
func may(kind, at int, x, was byte) bool {
	if kind == api.UDP {
		return at != 4 && at != 5 || x == was
	}
	switch at {
	case 12, 18, 19:
		return x == was
	case 13:
		return x < 32
	}
	return true
}

func TestDecodeSeesEveryByte(t *testing.T) {
	for _, r := range rows() {
		kind, from := r.s.Kind, checkPlace(r.s.Kind)
		for at := range r.b {
			for x := range 256 {
				b := bytes.Clone(r.b)
				b[at] = byte(x)
				if bytes.Equal(b, r.b) {
					continue
				}
				anew := checked(kind, b, r.over)
				if !may(kind, at, byte(x), r.b[at]) {
					expectSeg(t, kind, b, r.over, api.Seg{}, api.ErrSyntax)
					expectSeg(t, kind, anew, r.over, api.Seg{}, api.ErrSyntax)
					continue
				}
				// A number that adds the same, as 0 and 65535 do, leaves the check right.
				if at == from || at == from+1 || !bytes.Equal(b, anew) {
					expectSeg(t, kind, b, r.over, api.Seg{}, api.ErrSum)
				}
				s, err := Decode(kind, anew, r.over)
				if err != nil || same(s, r.s) != bytes.Equal(anew, r.b) {
					t.Fatalf("Decode(%d, %v, %d): got %v, %v", kind, anew, r.over, s, err)
				}
				expectBytes(t, s, r.over, anew, api.OK)
			}
		}
	}
}

func TestEveryOtherCheck(t *testing.T) {
	for _, r := range rows() {
		b := bytes.Clone(r.b)
		at := checkPlace(r.s.Kind)
		right := int(b[at])<<8 + int(b[at+1])
		for check := range 65536 {
			b[at], b[at+1] = byte(check>>8), byte(check)
			want, wrong := api.Seg{}, api.ErrSum
			if check == right {
				want, wrong = r.s, api.OK
			}
			expectSeg(t, r.s.Kind, b, r.over, want, wrong)
		}
	}
}

func TestBytesOfTheOtherKind(t *testing.T) {
	for _, r := range rows() {
		expectSeg(t, api.TCP+api.UDP-r.s.Kind, r.b, r.over, api.Seg{}, api.ErrSyntax)
	}
}

func TestOver4(t *testing.T) {
	cases := []struct{ src, dst, kind, n, want int }{
		{0, 0, 0, 0, 0},
		{1, 2, 17, 8, 28},
		{0xc0a80001, 0xc0a800c7, 17, 95, 33417},
		{0x01020304, 0x05060708, 6, 20, 4142},
		{1<<32 - 1, 1<<32 - 1, 255, 320, 575},
		{1 << 16, 0, 0, 0, 1},
		{0, 1 << 16, 0, 0, 1},
		{1 << 24, 0, 0, 0, 256},
		{0, 1 << 31, 0, 0, 32768},
		{0, 0, 255, 0, 255},
		{0, 0, 0, 320, 320},
		{1<<32 - 1, 0, 0, 0, 65535},
		{65535, 0, 1, 0, 1},
	}
	for _, c := range cases {
		got, err := Over4(c.src, c.dst, c.kind, c.n)
		expect(t, fmt.Sprint("Over4 of ", c), got, err, c.want, api.OK)
	}
}

func TestOver4Outside(t *testing.T) {
	for _, x := range []int{-1, 1 << 32, 1<<32 + 1, -1 << 32, 1 << 40, math.MinInt, math.MaxInt} {
		got, err := Over4(x, 2, 17, 8)
		expect(t, fmt.Sprint("Over4 from ", x), got, err, 0, api.ErrRange)
		got, err = Over4(1, x, 17, 8)
		expect(t, fmt.Sprint("Over4 to ", x), got, err, 0, api.ErrRange)
		got, err = Over4(x, x, x, x)
		expect(t, fmt.Sprint("Over4 all ", x), got, err, 0, api.ErrRange)
	}
}

func TestOver6(t *testing.T) {
	rising := api.Six{0x0102, 0x0304, 0x0506, 0x0708, 0x090a, 0x0b0c, 0x0d0e, 0x0f10}
	higher := api.Six{0x1112, 0x1314, 0x1516, 0x1718, 0x191a, 0x1b1c, 0x1d1e, 0x1f20}
	all := api.Six{65535, 65535, 65535, 65535, 65535, 65535, 65535, 65535}
	cases := []struct {
		src, dst      api.Six
		kind, n, want int
	}{
		{api.Six{}, api.Six{}, 0, 0, 0},
		{rising, higher, 6, 256, 535},
		{all, all, 255, 320, 575},
		{all, api.Six{}, 0, 0, 65535},
		{api.Six{}, api.Six{}, 17, 8, 25},
	}
	for _, c := range cases {
		got, err := Over6(c.src, c.dst, c.kind, c.n)
		expect(t, fmt.Sprint("Over6 of ", c), got, err, c.want, api.OK)
	}
	for i := range 8 {
		for x := 0; x < 65536; x += 257 {
			var a api.Six
			a[i] = x
			want := (x+25-1)%65535 + 1
			got, err := Over6(a, api.Six{}, 17, 8)
			expect(t, "Over6 from", got, err, want, api.OK)
			got, err = Over6(api.Six{}, a, 17, 8)
			expect(t, "Over6 to", got, err, want, api.OK)
		}
	}
}

func TestOver6Outside(t *testing.T) {
	for i := range 8 {
		for _, x := range []int{-1, 65536, -65535, 1 << 32, math.MinInt, math.MaxInt} {
			var a api.Six
			a[i] = x
			got, err := Over6(a, api.Six{}, 17, 8)
			expect(t, fmt.Sprint("Over6 from ", a), got, err, 0, api.ErrRange)
			got, err = Over6(api.Six{}, a, 17, 8)
			expect(t, fmt.Sprint("Over6 to ", a), got, err, 0, api.ErrRange)
		}
	}
}

func TestOverKindAndLength(t *testing.T) {
	for x := -700; x <= 700; x++ {
		kind, wrongKind := 0, api.ErrRange
		if x >= 0 && x <= 255 {
			kind, wrongKind = x+1, api.OK
		}
		n, wrongN := 0, api.ErrRange
		if x >= 0 && x <= 320 {
			n, wrongN = x+1, api.OK
		}
		expectOvers(t, x, 0, kind, wrongKind)
		expectOvers(t, 0, x, n, wrongN)
	}
	for _, x := range []int{1 << 16, 1 << 32, 1<<32 + 6, math.MinInt, math.MaxInt} {
		expectOvers(t, x, 0, 0, api.ErrRange)
		expectOvers(t, 0, x, 0, api.ErrRange)
		expectOvers(t, x, x, 0, api.ErrRange)
	}
}

// expectOvers asks both, from the address 1 to the address 0.
func expectOvers(t *testing.T, kind, n, want int, wrong api.Errno) {
	t.Helper()
	got, err := Over4(1, 0, kind, n)
	expect(t, fmt.Sprintf("Over4 of %d, %d", kind, n), got, err, want, wrong)
	got, err = Over6(api.Six{7: 1}, api.Six{}, kind, n)
	expect(t, fmt.Sprintf("Over6 of %d, %d", kind, n), got, err, want, wrong)
}

// A whole packet that is summed with what stands over it, its check too, is 65535.
func TestTheCheckGoesWithWhatStandsOver(t *testing.T) {
	for _, kind := range kinds {
		s := example(kind)
		s.Data = data(13)
		n := headOf(kind) + 13
		for _, over := range overs {
			b, err := Encode(s, over)
			if err != nil {
				t.Fatal(err)
			}
			total := over
			for i, x := range b {
				total += int(x) << (8 - 8*(i%2))
			}
			if total%65535 != 0 {
				t.Errorf("Encode(%v, %d): %v adds up to %d", s, over, b, total)
			}
		}
		four, err := Over4(0x0a000001, 0x0a000101, kind, n)
		if err != nil {
			t.Fatal(err)
		}
		six, err := Over6(api.Six{0x2001, 0xdb8, 7: 5}, api.Six{0x2001, 0xdb8, 7: 1}, kind, n)
		if err != nil {
			t.Fatal(err)
		}
		b, err := Encode(s, four)
		if err != nil {
			t.Fatal(err)
		}
		expectSeg(t, kind, b, four, s, api.OK)
		expectSeg(t, kind, b, six, api.Seg{}, api.ErrSum)
	}
}

func TestNothingIsWrittenOrShared(t *testing.T) {
	for _, kind := range kinds {
		space := data(40)
		s := example(kind)
		s.Data = space[4:9]
		b, err := Encode(s, 3)
		if err != nil || !bytes.Equal(space, data(40)) {
			t.Fatalf("Encode wrote: %v, %v", space, err)
		}
		given := append(bytes.Clone(b), 1, 2, 3)
		clear(b)
		if !bytes.Equal(space, data(40)) {
			t.Error("Encode shares its argument's data")
		}
		kept := bytes.Clone(given)
		q, err := Decode(kind, given[:len(b)], 3)
		if err != nil || !bytes.Equal(given, kept) {
			t.Fatalf("Decode wrote: %v, %v", given, err)
		}
		_ = append(q.Data, 9)
		clear(q.Data)
		if !bytes.Equal(given, kept) {
			t.Error("Decode shares its argument")
		}
	}
}

func TestAnswersAreFresh(t *testing.T) {
	for _, kind := range kinds {
		one, _ := Encode(example(kind), 9)
		two, _ := Encode(example(kind), 9)
		first, _ := Decode(kind, one, 9)
		second, _ := Decode(kind, one, 9)
		clear(one)
		clear(first.Data)
		expectSeg(t, kind, two, 9, example(kind), api.OK)
		if !same(second, example(kind)) {
			t.Error("two answers of Decode share memory")
		}
	}
}

func FuzzDecode(f *testing.F) {
	for _, r := range rows() {
		f.Add(r.s.Kind, r.b, r.over)
	}
	f.Fuzz(func(t *testing.T, kind int, b []byte, over int) {
		s, err := Decode(kind, b, over)
		if err != nil {
			expectSeg(t, kind, b, over, api.Seg{}, plain.Told(err))
			return
		}
		if err := Check(s); err != nil {
			t.Errorf("Check(%v): %v", s, err)
		}
		expectBytes(t, s, over, b, api.OK)
	})
}
