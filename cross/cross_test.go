package cross

import (
	"bytes"
	"fmt"
	"math"
	"testing"

	"gangplank/api"
	"gangplank/plain"
)

// row is one segment over two sixes and over two fours, all written out.
type row struct {
	name       string
	kind       int
	src6, dst6 api.Six
	src4, dst4 int
	body6      []byte
	body4      []byte
}

func rows() []row {
	client := api.Six{0x2001, 0xdb8, 7: 5}
	server := api.Six{0x2001, 0xdb8, 0xff, 6: 0xc000, 7: 0x201}
	all := api.Six{65535, 65535, 65535, 65535, 65535, 65535, 65535, 65535}
	return []row{
		{
			"TCP", api.TCP, client, server, 0x0a000001, 0xc0000201,
			[]byte{156, 64, 0, 80, 1, 2, 3, 4, 5, 6, 7, 8, 80, 24, 16, 0, 208, 171, 0, 0, 1, 2, 3},
			[]byte{156, 64, 0, 80, 1, 2, 3, 4, 5, 6, 7, 8, 80, 24, 16, 0, 35, 33, 0, 0, 1, 2, 3},
		},
		{
			"UDP", api.UDP, client, server, 0x0a000001, 0xc0000201,
			[]byte{0, 53, 20, 233, 0, 10, 205, 67, 255, 0},
			[]byte{0, 53, 20, 233, 0, 10, 31, 185, 255, 0},
		},
		{
			"the document's", api.UDP, api.Six{1}, api.Six{2}, 5, 6,
			[]byte{0, 1, 0, 2, 0, 8, 255, 216},
			[]byte{0, 1, 0, 2, 0, 8, 255, 208},
		},
		{
			"the lowest to the highest", api.UDP, api.Six{}, all, 0, 1<<32 - 1,
			[]byte{0, 0, 0, 0, 0, 8, 255, 222},
			[]byte{0, 0, 0, 0, 0, 8, 255, 222},
		},
		// Of UDP a check that would be 0 is 65535, on the one side and on the other.
		{
			"UDP's 65535 over sixes", api.UDP, api.Six{}, api.Six{}, 1, 2,
			[]byte{0, 0, 255, 222, 0, 8, 255, 255},
			[]byte{0, 0, 255, 222, 0, 8, 255, 252},
		},
		{
			"UDP's 65535 over fours", api.UDP, api.Six{}, api.Six{}, 1, 2,
			[]byte{0, 0, 255, 219, 0, 8, 0, 3},
			[]byte{0, 0, 255, 219, 0, 8, 255, 255},
		},
		{
			"TCP's 0 over sixes", api.TCP, api.Six{}, api.Six{}, 1, 2,
			[]byte{0, 0, 0, 0, 0, 0, 0, 0, 0, 0, 0, 0, 80, 0, 175, 229, 0, 0, 0, 0},
			[]byte{0, 0, 0, 0, 0, 0, 0, 0, 0, 0, 0, 0, 80, 0, 175, 229, 255, 252, 0, 0},
		},
		{
			"TCP's 0 over fours", api.TCP, api.Six{}, api.Six{}, 1, 2,
			[]byte{0, 0, 0, 0, 0, 0, 0, 0, 0, 0, 0, 0, 80, 0, 175, 226, 0, 3, 0, 0},
			[]byte{0, 0, 0, 0, 0, 0, 0, 0, 0, 0, 0, 0, 80, 0, 175, 226, 0, 0, 0, 0},
		},
	}
}

func (r row) six(hop int) api.Pack6 {
	return api.Pack6{Src: r.src6, Dst: r.dst6, Hop: hop, Kind: r.kind, Body: bytes.Clone(r.body6)}
}

func (r row) four(ttl int) api.Pack4 {
	return api.Pack4{Src: r.src4, Dst: r.dst4, TTL: ttl, Kind: r.kind, Body: bytes.Clone(r.body4)}
}

// noFours are beside the numbers that fours are.
var noFours = []int{-1, 1 << 32, 1<<32 + 5, -1 << 32, math.MinInt, math.MaxInt}

// outside gives numbers that are not from 0 to most.
func outside(most int) []int {
	return []int{-1, most + 1, -most, 1 << 32, math.MinInt, math.MaxInt}
}

// noSixes have one wrong number, each in another place.
func noSixes() []api.Six {
	var list []api.Six
	for i := range 8 {
		for _, x := range outside(65535) {
			a := api.Six{0x2001, 0xdb8, 7: 1}
			a[i] = x
			list = append(list, a)
		}
	}
	return list
}

// data gives n bytes that differ from their neighbours.
func data(n int) []byte {
	b := make([]byte, n)
	for i := range b {
		b[i] = byte(7*i + 3)
	}
	return b
}

func checkAt(kind int) int {
	return map[int]int{api.TCP: 16, api.UDP: 6}[kind]
}

// plainBody has n bytes of data, and no check.
func plainBody(kind, n int) []byte {
	if kind == api.TCP {
		return append([]byte{1, 2, 3, 4, 5, 6, 7, 8, 9, 10, 11, 12, 80, 24, 13, 14, 0, 0, 0, 0}, data(n)...)
	}
	all := 8 + n
	return append([]byte{1, 2, 3, 4, byte(all >> 8), byte(all), 0, 0}, data(n)...)
}

func total(b []byte) int {
	sum := 0
	for i, x := range b {
		sum += int(x) << (8 - 8*(i%2))
	}
	return sum
}

// checked gives the body with the check that goes with it under the addresses, whatever else is wrong.
func checked(kind int, b []byte, addresses int) []byte {
	b = bytes.Clone(b)
	at := checkAt(kind)
	b[at], b[at+1] = 0, 0
	sum := addresses + kind + len(b) + total(b)
	// A number above 0 keeps its rest by 65535, told from 1 to 65535.
	check := 65534 - (sum-1)%65535
	if check == 0 && kind == api.UDP {
		check = 65535
	}
	b[at], b[at+1] = byte(check>>8), byte(check)
	return b
}

func sumSixes(a, b api.Six) int {
	sum := 0
	for i := range a {
		sum += a[i] + b[i]
	}
	return sum
}

func sumFours(a, b int) int {
	return a>>16 + a&65535 + b>>16 + b&65535
}

func expect4(t *testing.T, p api.Pack6, src, dst int, want api.Pack4, wrong api.Errno) {
	t.Helper()
	got, err := To4(p, src, dst)
	if !same4(got, want) || plain.Told(err) != wrong {
		t.Errorf("To4(%v, %d, %d): got %v, %v; want %v, %v", p, src, dst, got, err, want, wrong)
	}
}

func expect6(t *testing.T, p api.Pack4, src, dst api.Six, want api.Pack6, wrong api.Errno) {
	t.Helper()
	got, err := To6(p, src, dst)
	if !same6(got, want) || plain.Told(err) != wrong {
		t.Errorf("To6(%v, %v, %v): got %v, %v; want %v, %v", p, src, dst, got, err, want, wrong)
	}
}

func refuse4(t *testing.T, p api.Pack6, src, dst int, wrong api.Errno) {
	t.Helper()
	expect4(t, p, src, dst, api.Pack4{}, wrong)
}

func refuse6(t *testing.T, p api.Pack4, src, dst api.Six, wrong api.Errno) {
	t.Helper()
	expect6(t, p, src, dst, api.Pack6{}, wrong)
}

func same4(p, q api.Pack4) bool {
	return p.Src == q.Src && p.Dst == q.Dst && p.TTL == q.TTL && p.Kind == q.Kind && p.ID == q.ID && bytes.Equal(p.Body, q.Body)
}

func same6(p, q api.Pack6) bool {
	return p.Src == q.Src && p.Dst == q.Dst && p.Hop == q.Hop && p.Kind == q.Kind && bytes.Equal(p.Body, q.Body)
}

func TestRows(t *testing.T) {
	for _, r := range rows() {
		t.Run(r.name, func(t *testing.T) {
			expect4(t, r.six(64), r.src4, r.dst4, r.four(63), api.OK)
			expect6(t, r.four(64), r.src6, r.dst6, r.six(63), api.OK)
		})
	}
}

// The rows of the tests below are made by checked: it must tell what is written out.
func TestCheckedTellsTheRows(t *testing.T) {
	for _, r := range rows() {
		six := checked(r.kind, r.body4, sumSixes(r.src6, r.dst6))
		four := checked(r.kind, r.body6, sumFours(r.src4, r.dst4))
		if !bytes.Equal(six, r.body6) || !bytes.Equal(four, r.body4) {
			t.Errorf("%s: %v, %v", r.name, six, four)
		}
	}
}

func TestEveryHop(t *testing.T) {
	for _, r := range rows() {
		for hop := range 256 {
			if hop < 2 {
				refuse4(t, r.six(hop), r.src4, r.dst4, api.ErrDead)
				refuse6(t, r.four(hop), r.src6, r.dst6, api.ErrDead)
				continue
			}
			expect4(t, r.six(hop), r.src4, r.dst4, r.four(hop-1), api.OK)
			expect6(t, r.four(hop), r.src6, r.dst6, r.six(hop-1), api.OK)
		}
	}
}

func TestEveryID(t *testing.T) {
	r := rows()[0]
	for id := range 65536 {
		p := r.four(9)
		p.ID = id
		expect6(t, p, r.src6, r.dst6, r.six(8), api.OK)
	}
}

func TestThereAndBack(t *testing.T) {
	for _, r := range rows() {
		for hop := 3; hop < 256; hop++ {
			four, err := To4(r.six(hop), r.src4, r.dst4)
			if err != nil {
				t.Fatal(err)
			}
			expect6(t, four, r.src6, r.dst6, r.six(hop-2), api.OK)
			six, err := To6(r.four(hop), r.src6, r.dst6)
			if err != nil {
				t.Fatal(err)
			}
			expect4(t, six, r.src4, r.dst4, r.four(hop-2), api.OK)
		}
		four, err := To4(r.six(2), r.src4, r.dst4)
		if err != nil {
			t.Fatal(err)
		}
		refuse6(t, four, r.src6, r.dst6, api.ErrDead)
		six, err := To6(r.four(2), r.src6, r.dst6)
		if err != nil {
			t.Fatal(err)
		}
		refuse4(t, six, r.src4, r.dst4, api.ErrDead)
	}
}

// There and back, a packet of fours has the ID that To4 tells.
func TestAnIDIsNotKept(t *testing.T) {
	r := rows()[0]
	p := r.four(9)
	p.ID = 77
	six, err := To6(p, r.src6, r.dst6)
	if err != nil {
		t.Fatal(err)
	}
	expect4(t, six, r.src4, r.dst4, r.four(7), api.OK)
}

// ofData is a row with n bytes of data, under addresses that hang on n.
func ofData(kind, n int) row {
	r := row{
		name: fmt.Sprint(kind, " of ", n), kind: kind,
		src6: api.Six{0x2001, n, 7: 65535 - n}, dst6: api.Six{3: 0xffff, 6: 256 * n % 65536},
		src4: 0xc0a80000 + n, dst4: 0x0a010203 * (n%20 + 1),
	}
	r.body6 = checked(kind, plainBody(kind, n), sumSixes(r.src6, r.dst6))
	r.body4 = checked(kind, plainBody(kind, n), sumFours(r.src4, r.dst4))
	return r
}

func TestEveryLengthOfData(t *testing.T) {
	for _, kind := range []int{api.TCP, api.UDP} {
		for n := range api.MaxData + 1 {
			r := ofData(kind, n)
			expect4(t, r.six(255), r.src4, r.dst4, r.four(254), api.OK)
			expect6(t, r.four(255), r.src6, r.dst6, r.six(254), api.OK)
		}
	}
}

func TestNothingButTheCheckChanges(t *testing.T) {
	for _, kind := range []int{api.TCP, api.UDP} {
		at := checkAt(kind)
		for n := range api.MaxData + 1 {
			r := ofData(kind, n)
			p, err := To4(r.six(3), r.src4, r.dst4)
			if err != nil {
				t.Fatal(err)
			}
			want := bytes.Clone(r.body6)
			copy(want[at:at+2], p.Body[at:])
			if !bytes.Equal(p.Body, want) {
				t.Errorf("%s: got %v, want %v", r.name, p.Body, want)
			}
		}
	}
}

// Of UDP a body may have too much data for a segment, and not yet for a packet.
func TestTooMuchData(t *testing.T) {
	for _, kind := range []int{api.TCP, api.UDP} {
		for n := api.MaxData + 1; n <= api.MaxBody+2; n++ {
			wrong := api.ErrSyntax
			if len(plainBody(kind, n)) > api.MaxBody {
				wrong = api.ErrFull
			}
			r := ofData(kind, n)
			refuse4(t, r.six(64), r.src4, r.dst4, wrong)
			refuse6(t, r.four(64), r.src6, r.dst6, wrong)
		}
	}
}

func TestEveryKind(t *testing.T) {
	for _, r := range rows() {
		for kind := range 256 {
			p, q := r.six(64), r.four(64)
			p.Kind, q.Kind = kind, kind
			switch kind {
			case r.kind:
				continue
			case api.TCP, api.UDP:
				refuse4(t, p, r.src4, r.dst4, api.ErrSyntax)
				refuse6(t, q, r.src6, r.dst6, api.ErrSyntax)
			default:
				refuse4(t, p, r.src4, r.dst4, api.ErrShape)
				refuse6(t, q, r.src6, r.dst6, api.ErrShape)
				p.Body, q.Body = nil, nil
				refuse4(t, p, r.src4, r.dst4, api.ErrShape)
				refuse6(t, q, r.src6, r.dst6, api.ErrShape)
			}
		}
	}
}

func TestNumbersOutside(t *testing.T) {
	for _, r := range rows() {
		for _, x := range outside(255) {
			p := r.six(x)
			refuse4(t, p, r.src4, r.dst4, api.ErrRange)
			p = r.six(64)
			p.Kind = x
			refuse4(t, p, r.src4, r.dst4, api.ErrRange)
			q := r.four(x)
			refuse6(t, q, r.src6, r.dst6, api.ErrRange)
			q = r.four(64)
			q.Kind = x
			refuse6(t, q, r.src6, r.dst6, api.ErrRange)
		}
		for _, x := range outside(65535) {
			q := r.four(64)
			q.ID = x
			refuse6(t, q, r.src6, r.dst6, api.ErrRange)
		}
	}
}

func TestAddressesOfThePacket(t *testing.T) {
	for _, r := range rows() {
		for _, a := range noSixes() {
			p := r.six(64)
			p.Src = a
			refuse4(t, p, r.src4, r.dst4, api.ErrRange)
			p = r.six(64)
			p.Dst = a
			refuse4(t, p, r.src4, r.dst4, api.ErrRange)
		}
		for _, a := range noFours {
			q := r.four(64)
			q.Src = a
			refuse6(t, q, r.src6, r.dst6, api.ErrRange)
			q = r.four(64)
			q.Dst = a
			refuse6(t, q, r.src6, r.dst6, api.ErrRange)
		}
	}
}

func TestAddressesToGoOnWith(t *testing.T) {
	for _, r := range rows() {
		for _, a := range noFours {
			refuse4(t, r.six(64), a, r.dst4, api.ErrRange)
			refuse4(t, r.six(64), r.src4, a, api.ErrRange)
			refuse4(t, r.six(64), a, a, api.ErrRange)
		}
		for _, a := range noSixes() {
			refuse6(t, r.four(64), a, r.dst6, api.ErrRange)
			refuse6(t, r.four(64), r.src6, a, api.ErrRange)
			refuse6(t, r.four(64), a, a, api.ErrRange)
		}
	}
}

func TestEveryOtherCheck(t *testing.T) {
	for _, r := range rows() {
		p, q := r.six(64), r.four(64)
		at := checkAt(r.kind)
		for check := range 65536 {
			high, low := byte(check>>8), byte(check)
			p.Body[at], p.Body[at+1] = high, low
			q.Body[at], q.Body[at+1] = high, low
			if !bytes.Equal(p.Body, r.body6) {
				refuse4(t, p, r.src4, r.dst4, api.ErrSum)
			}
			if !bytes.Equal(q.Body, r.body4) {
				refuse6(t, q, r.src6, r.dst6, api.ErrSum)
			}
		}
	}
}

// A body is asked under the addresses of its packet, not under those it goes on with.
func TestABodyOfOtherAddresses(t *testing.T) {
	for _, r := range rows() {
		if bytes.Equal(r.body4, r.body6) {
			continue
		}
		p, q := r.six(64), r.four(64)
		p.Body, q.Body = q.Body, p.Body
		refuse4(t, p, r.src4, r.dst4, api.ErrSum)
		refuse6(t, q, r.src6, r.dst6, api.ErrSum)
	}
}

// fixed tells where bytes stand that are the same in every segment of a kind and a length.
func fixed(kind int) []int {
	if kind == api.TCP {
		return []int{12, 18, 19}
	}
	return []int{4, 5}
}

func TestBytesThatMayNotDiffer(t *testing.T) {
	for _, r := range rows() {
		for _, at := range fixed(r.kind) {
			for x := 1; x < 256; x++ {
				p, q := r.six(64), r.four(64)
				p.Body[at] ^= byte(x)
				q.Body[at] ^= byte(x)
				refuse4(t, p, r.src4, r.dst4, api.ErrSyntax)
				refuse6(t, q, r.src6, r.dst6, api.ErrSyntax)
				p.Body = checked(r.kind, p.Body, sumSixes(r.src6, r.dst6))
				q.Body = checked(r.kind, q.Body, sumFours(r.src4, r.dst4))
				refuse4(t, p, r.src4, r.dst4, api.ErrSyntax)
				refuse6(t, q, r.src6, r.dst6, api.ErrSyntax)
			}
		}
	}
}

func TestTooShort(t *testing.T) {
	for _, r := range rows() {
		for n := range checkAt(r.kind) + 2 {
			p, q := r.six(64), r.four(64)
			p.Body, q.Body = p.Body[:n], q.Body[:n]
			refuse4(t, p, r.src4, r.dst4, api.ErrSyntax)
			refuse6(t, q, r.src6, r.dst6, api.ErrSyntax)
		}
		p, q := r.six(64), r.four(64)
		p.Body, q.Body = nil, nil
		refuse4(t, p, r.src4, r.dst4, api.ErrSyntax)
		refuse6(t, q, r.src6, r.dst6, api.ErrSyntax)
	}
}

// Each fault is told ahead of all that the document names behind it.
func TestWhichErrorIsFirst(t *testing.T) {
	none := api.Six{65536}
	long := make([]byte, api.MaxBody+1)
	cases := []struct {
		wrong          api.Errno
		hop, kind      int
		body           []byte
		badSrc, badDst bool
	}{
		{api.ErrRange, 256, 0, long, true, true},
		{api.ErrRange, 0, 256, long, true, true},
		{api.ErrFull, 0, 0, long, true, true},
		{api.ErrFull, 0, 0, long, true, false},
		{api.ErrRange, 0, 0, nil, true, false},
		{api.ErrRange, 0, 0, nil, false, true},
		{api.ErrRange, 0, api.UDP, nil, false, true},
		{api.ErrShape, 0, 0, nil, false, false},
		{api.ErrShape, 1, 255, nil, false, false},
		{api.ErrSyntax, 0, api.UDP, nil, false, false},
		{api.ErrSyntax, 1, api.TCP, nil, false, false},
		{api.ErrSum, 0, api.UDP, []byte{0, 0, 0, 0, 0, 8, 1, 1}, false, false},
		{api.ErrSum, 1, api.TCP, []byte{0, 0, 0, 0, 0, 0, 0, 0, 0, 0, 0, 0, 80, 0, 0, 0, 1, 1, 0, 0}, false, false},
		{api.ErrDead, 1, api.UDP, []byte{0, 0, 0, 0, 0, 8, 255, 222}, false, false},
		{api.ErrDead, 0, api.UDP, []byte{0, 0, 0, 0, 0, 8, 255, 222}, false, false},
	}
	for _, c := range cases {
		src4, dst4, src6, dst6 := 0, 0, api.Six{}, api.Six{}
		if c.badSrc {
			src4, src6 = -1, none
		}
		if c.badDst {
			dst4, dst6 = -1, none
		}
		refuse4(t, api.Pack6{Hop: c.hop, Kind: c.kind, Body: c.body}, src4, dst4, c.wrong)
		refuse6(t, api.Pack4{TTL: c.hop, Kind: c.kind, Body: c.body}, src6, dst6, c.wrong)
	}
}

func TestNothingIsWrittenOrShared(t *testing.T) {
	for _, r := range rows() {
		space6 := append(bytes.Clone(r.body6), 1, 2, 3)
		space4 := append(bytes.Clone(r.body4), 1, 2, 3)
		kept6, kept4 := bytes.Clone(space6), bytes.Clone(space4)
		p, q := r.six(64), r.four(64)
		p.Body, q.Body = space6[:len(r.body6)], space4[:len(r.body4)]
		four, err := To4(p, r.src4, r.dst4)
		if err != nil {
			t.Fatal(err)
		}
		six, err := To6(q, r.src6, r.dst6)
		if err != nil {
			t.Fatal(err)
		}
		_, _ = append(four.Body, 9), append(six.Body, 9)
		clear(four.Body)
		clear(six.Body)
		if !bytes.Equal(space6, kept6) || !bytes.Equal(space4, kept4) {
			t.Errorf("%s: what was handed in is %v, %v", r.name, space6, space4)
		}
		expect4(t, p, r.src4, r.dst4, r.four(63), api.OK)
		expect6(t, q, r.src6, r.dst6, r.six(63), api.OK)
	}
}

func TestNothingComesWithAnError(t *testing.T) {
	for _, r := range rows() {
		p, q := r.six(1), r.four(1)
		four, err := To4(p, r.src4, r.dst4)
		if err == nil || four.Body != nil {
			t.Errorf("%s: To4 told %v, %v", r.name, four, err)
		}
		six, err := To6(q, r.src6, r.dst6)
		if err == nil || six.Body != nil {
			t.Errorf("%s: To6 told %v, %v", r.name, six, err)
		}
	}
}

func FuzzTo4(f *testing.F) {
	for _, r := range rows() {
		f.Add(r.src6[0], r.dst6[7], 64, r.kind, r.body6, r.src4, r.dst4)
	}
	f.Fuzz(func(t *testing.T, src, dst, hop, kind int, body []byte, src4, dst4 int) {
		p := api.Pack6{Src: api.Six{src}, Dst: api.Six{7: dst}, Hop: hop, Kind: kind, Body: body}
		if at := checkAt(kind); at > 0 && len(body) > at+1 {
			p.Body = checked(kind, body, src+dst)
		}
		four, err := To4(p, src4, dst4)
		if err != nil {
			refuse4(t, p, src4, dst4, plain.Told(err))
			return
		}
		if hop == 2 {
			refuse6(t, four, p.Src, p.Dst, api.ErrDead)
			return
		}
		back := p
		back.Hop -= 2
		expect6(t, four, p.Src, p.Dst, back, api.OK)
	})
}
