package embed

import (
	"fmt"
	"math"
	"slices"
	"testing"

	"gangplank/api"
	"gangplank/plain"
)

// layouts tells, for each prefix, which byte of a six is what: p of the prefix, 1 to 4 of the four, 0 neither.
var layouts = []struct {
	n    int
	text string
}{
	{32, "pppp123400000000"},
	{40, "ppppp12304000000"},
	{48, "pppppp1203400000"},
	{56, "ppppppp102340000"},
	{64, "pppppppp01234000"},
	{96, "pppppppp0ppp1234"},
}

// wrongBits are numbers of bits that no prefix has.
var wrongBits = []int{-1, 0, 1, 8, 16, 24, 31, 33, 39, 41, 47, 49, 55, 57, 63, 65, 72, 80, 88, 95, 97, 104, 128, 129, -32, -96, 1<<32 + 32, math.MinInt, math.MaxInt, math.MinInt + 64}

// fours are such, with their least and their greatest.
var fours = []int{0, 1, 255, 256, 65535, 65536, 1 << 24, 167772161, 0x01020304, 0x80000000, 0x7fffffff, 0xfefdfcfb, 1<<32 - 2, 1<<32 - 1}

// noFours are numbers beside them.
var noFours = []int{-1, 1 << 32, 1<<32 + 1, -1 << 32, 1 << 40, math.MinInt, math.MaxInt}

// outside are numbers that no six has.
var outside = []int{-1, 65536, -65535, 1 << 32, math.MinInt, math.MaxInt}

func expect[T comparable](t *testing.T, name string, got T, err error, want T, wrong api.Errno) {
	t.Helper()
	if got != want || plain.Told(err) != wrong {
		t.Errorf("%s: got %v, %v; want %v, %v", name, got, err, want, wrong)
	}
}

func expectCheck(t *testing.T, p api.Six, n int, wrong api.Errno) {
	t.Helper()
	if err := Check(p, n); plain.Told(err) != wrong {
		t.Errorf("Check(%v, %d): got %v, want %v", p, n, err, wrong)
	}
}

// laid fills a layout: fill gives each byte of the prefix, by its place.
func laid(layout string, four int, fill func(int) int) api.Six {
	var a api.Six
	for i, c := range layout {
		x := 0
		switch {
		case c == 'p':
			x = fill(i)
		case c != '0':
			x = four >> (8 * ('4' - c)) & 255
		}
		a[i/2] = a[i/2]<<8 | x
	}
	return a
}

// fills are bytes for a prefix, by their places.
var fills = []func(int) int{
	func(int) int { return 0 },
	func(int) int { return 255 },
	func(i int) int { return 17*i + 1 },
	func(i int) int { return 128 >> (i % 8) },
}

// flipped gives the six with bit i another one.
func flipped(a api.Six, i int) api.Six {
	a[i/16] ^= 1 << (15 - i%16)
	return a
}

// spoiled gives the six with one of its numbers outside.
func spoiled(a api.Six, i, bad int) api.Six {
	a[i] = bad
	return a
}

func TestExamples(t *testing.T) {
	cases := []struct {
		p, a    api.Six
		n, four int
	}{
		{api.Six{100, 65435}, api.Six{100, 65435, 0, 0, 0, 0, 2560, 1}, 96, 167772161},
		{api.Six{0x2001, 0xdb8}, api.Six{0x2001, 0xdb8, 0xc000, 0x221}, 32, 0xc0000221},
		{api.Six{0x2001, 0xdb8, 0x100}, api.Six{0x2001, 0xdb8, 0x1c0, 0x2, 0x21}, 40, 0xc0000221},
		{api.Six{0x2001, 0xdb8, 0x122}, api.Six{0x2001, 0xdb8, 0x122, 0xc000, 0x2, 0x2100}, 48, 0xc0000221},
		{api.Six{0x2001, 0xdb8, 0x122, 0x300}, api.Six{0x2001, 0xdb8, 0x122, 0x3c0, 0, 0x221}, 56, 0xc0000221},
		{api.Six{0x2001, 0xdb8, 0x122, 0x344}, api.Six{0x2001, 0xdb8, 0x122, 0x344, 0xc0, 0x2, 0x2100}, 64, 0xc0000221},
		{api.Six{0x2001, 0xdb8, 0x122, 0x344}, api.Six{0x2001, 0xdb8, 0x122, 0x344, 0, 0, 0xc000, 0x221}, 96, 0xc0000221},
		{api.Six{0x2001, 0xdb8, 0x122, 0x344, 0xff, 0xffff}, api.Six{0x2001, 0xdb8, 0x122, 0x344, 0xff, 0xffff, 0xc000, 0x221}, 96, 0xc0000221},
	}
	for _, c := range cases {
		expectCheck(t, c.p, c.n, api.OK)
		a, err := Into(c.p, c.n, c.four)
		expect(t, fmt.Sprint("Into of ", c.n), a, err, c.a, api.OK)
		four, err := Out(c.a, c.n)
		expect(t, fmt.Sprint("Out of ", c.n), four, err, c.four, api.OK)
	}
}

func TestThereAndBack(t *testing.T) {
	for _, l := range layouts {
		for _, fill := range fills {
			p := laid(l.text, 0, fill)
			expectCheck(t, p, l.n, api.OK)
			for _, x := range fours {
				want := laid(l.text, x, fill)
				a, err := Into(p, l.n, x)
				expect(t, fmt.Sprint("Into of ", l.n), a, err, want, api.OK)
				four, err := Out(want, l.n)
				expect(t, fmt.Sprint("Out of ", l.n), four, err, x, api.OK)
			}
		}
	}
}

func TestEveryBitOfAFour(t *testing.T) {
	for _, l := range layouts {
		for i := range 32 {
			want := laid(l.text, 1<<i, fills[2])
			a, err := Into(laid(l.text, 0, fills[2]), l.n, 1<<i)
			expect(t, "Into", a, err, want, api.OK)
			four, err := Out(want, l.n)
			expect(t, "Out", four, err, 1<<i, api.OK)
		}
	}
}

func TestCheckSeesEveryBit(t *testing.T) {
	for _, l := range layouts {
		for _, fill := range fills {
			p := laid(l.text, 0, fill)
			for i := range 128 {
				wrong := api.ErrShape
				if l.text[i/8] == 'p' {
					wrong = api.OK
				}
				expectCheck(t, flipped(p, i), l.n, wrong)
				got, err := Into(flipped(p, i), l.n, 0)
				want := api.Six{}
				if wrong == api.OK {
					want = flipped(p, i)
				}
				expect(t, "Into with a bit flipped", got, err, want, wrong)
			}
		}
	}
}

func TestOutSeesEveryBit(t *testing.T) {
	for _, l := range layouts {
		for _, fill := range fills {
			for _, x := range fours {
				a := laid(l.text, x, fill)
				for i := range 128 {
					want, wrong := x, api.OK
					switch c := l.text[i/8]; {
					case c == '0':
						want, wrong = 0, api.ErrShape
					case c != 'p':
						want ^= 1 << (8*int('4'-c) + 7 - i%8)
					}
					got, err := Out(flipped(a, i), l.n)
					expect(t, fmt.Sprint("Out with bit flipped ", i), got, err, want, wrong)
				}
			}
		}
	}
}

func TestWrongBits(t *testing.T) {
	for _, p := range []api.Six{{}, {100, 65435}, {1, 2, 3, 4, 5, 6, 7, 8}, {65535, 65535, 65535, 65535, 65535, 65535, 65535, 65535}} {
		for _, n := range wrongBits {
			expectCheck(t, p, n, api.ErrRange)
			a, err := Into(p, n, 1)
			expect(t, fmt.Sprint("Into of ", n), a, err, api.Six{}, api.ErrRange)
			four, err := Out(p, n)
			expect(t, fmt.Sprint("Out of ", n), four, err, 0, api.ErrRange)
		}
	}
}

func TestNoOtherBits(t *testing.T) {
	known := []int{32, 40, 48, 56, 64, 96}
	for n := -300; n <= 300; n++ {
		wrong := api.ErrRange
		if slices.Contains(known, n) {
			wrong = api.OK
		}
		expectCheck(t, api.Six{}, n, wrong)
		a, err := Into(api.Six{}, n, 0)
		expect(t, fmt.Sprint("Into of ", n), a, err, api.Six{}, wrong)
		four, err := Out(api.Six{}, n)
		expect(t, fmt.Sprint("Out of ", n), four, err, 0, wrong)
	}
}

func TestOutside(t *testing.T) {
	for i := range 8 {
		for _, bad := range outside {
			for _, n := range []int{32, 40, 48, 56, 64, 96, 33, -1} {
				// The ninth byte and the last are set too: the six is looked at ahead of its shape.
				a := spoiled(api.Six{1, 0, 0, 0, 256, 0, 0, 1}, i, bad)
				expectCheck(t, a, n, api.ErrRange)
				got, err := Into(a, n, 1)
				expect(t, "Into outside", got, err, api.Six{}, api.ErrRange)
				four, err := Out(a, n)
				expect(t, "Out outside", four, err, 0, api.ErrRange)
			}
		}
	}
}

func TestNoFour(t *testing.T) {
	for _, l := range layouts {
		p := laid(l.text, 0, fills[1])
		for _, bad := range noFours {
			got, err := Into(p, l.n, bad)
			expect(t, "Into of no four", got, err, api.Six{}, api.ErrRange)
			// The prefix is looked at ahead of the four.
			got, err = Into(flipped(p, 127), l.n, bad)
			expect(t, "Into of no four and no prefix", got, err, api.Six{}, api.ErrShape)
			got, err = Into(flipped(p, 64), l.n, bad)
			expect(t, "Into of no four and the ninth byte", got, err, api.Six{}, api.ErrShape)
		}
	}
}

func TestPlacesEndWhenAsked(t *testing.T) {
	for _, l := range layouts {
		for stop := range 4 {
			seen := 0
			for i, place := range places(l.n) {
				if l.text[place] != byte('1'+i) {
					t.Errorf("byte %d behind %d bits: place %d", i, l.n, place)
				}
				seen++
				if i == stop {
					break
				}
			}
			if seen != stop+1 {
				t.Errorf("behind %d bits: %d places ahead of stop %d", l.n, seen, stop)
			}
		}
	}
}
