package sum

import (
	"bytes"
	"math"
	"testing"

	"gangplank/api"
	"gangplank/plain"
)

// outside are numbers that no call takes.
var outside = []int{-1, 65536, -65535, 131071, math.MinInt, math.MaxInt, math.MinInt + 1, 1 << 32}

// inside are numbers at and about the edges, and some between.
var inside = []int{0, 1, 2, 255, 256, 257, 4660, 32767, 32768, 43981, 65279, 65280, 65533, 65534, 65535}

func expect(t *testing.T, name string, got int, err error, want int, wrong api.Errno) {
	t.Helper()
	if got != want || plain.Told(err) != wrong {
		t.Errorf("%s: got %d, %v; want %d, %v", name, got, err, want, wrong)
	}
}

// repeat gives n bytes, all of them x.
func repeat(x byte, n int) []byte { return bytes.Repeat([]byte{x}, n) }

// folded works a sum out another way: a number above 0 keeps its rest by 65535, told from 1 to 65535.
func folded(total int) int {
	if total == 0 {
		return 0
	}
	return (total-1)%65535 + 1
}

func TestOf(t *testing.T) {
	cases := []struct {
		name string
		b    []byte
		want int
	}{
		{"nil", nil, 0},
		{"no bytes", []byte{}, 0},
		{"one byte", []byte{1}, 256},
		{"one greatest byte", []byte{255}, 65280},
		{"two bytes", []byte{1, 2}, 258},
		{"three bytes", []byte{1, 2, 3}, 1026},
		{"four bytes", []byte{1, 2, 3, 4}, 1030},
		{"zeros", []byte{0, 0, 0, 0, 0}, 0},
		{"65535 is not folded", []byte{255, 255}, 65535},
		{"65535 of two", []byte{255, 254, 0, 1}, 65535},
		{"65536 is folded", []byte{255, 255, 0, 1}, 1},
		{"the chapter's", []byte{255, 255, 0, 2}, 2},
		{"twice 65535", []byte{255, 255, 255, 255}, 65535},
		{"folded with an odd one", []byte{255, 255, 1}, 256},
		{"a header", []byte{0x45, 0, 0, 0x73, 0, 0, 0x40, 0, 0x40, 0x11, 0, 0, 0xc0, 0xa8, 0, 1, 0xc0, 0xa8, 0, 0xc7}, 0x479e},
	}
	for _, c := range cases {
		got, err := Of(c.b)
		expect(t, "Of "+c.name, got, err, c.want, api.OK)
	}
}

func TestOfFoldsTillNothingIsAbove(t *testing.T) {
	// 0x2ffff once folded is 0x10001, and 0x1ffff is 0x10000: both are above 65535 still.
	got, err := Of([]byte{255, 255, 255, 255, 255, 254, 0, 3})
	expect(t, "Of 0x2ffff", got, err, 2, api.OK)
	got, err = Of([]byte{255, 255, 255, 255, 0, 1})
	expect(t, "Of 0x1ffff", got, err, 1, api.OK)
}

func TestOfLengths(t *testing.T) {
	for n := 0; n <= api.MaxBytes; n++ {
		b, total := make([]byte, n), 0
		for i := range b {
			b[i] = byte(i*89 + n*7 + 131)
			if i%2 == 0 {
				total += 256 * int(b[i])
			} else {
				total += int(b[i])
			}
		}
		got, err := Of(b)
		expect(t, "Of by length", got, err, folded(total), api.OK)
	}
}

func TestOfMaxBytes(t *testing.T) {
	got, err := Of(repeat(255, 2000))
	expect(t, "Of MaxBytes", got, err, 65535, api.OK)
	got, err = Of(repeat(255, 1999))
	expect(t, "Of one less", got, err, folded(999*65535+65280), api.OK)
	got, err = Of(repeat(255, 2001))
	expect(t, "Of one more", got, err, 0, api.ErrFull)
	got, err = Of(repeat(0, 2001))
	expect(t, "Of one more, zeros", got, err, 0, api.ErrFull)
	got, err = Of(repeat(1, 100000))
	expect(t, "Of many more", got, err, 0, api.ErrFull)
}

func TestOfLeavesItsBytesAlone(t *testing.T) {
	whole := []byte{1, 2, 3, 255, 255}
	kept := bytes.Clone(whole)
	got, err := Of(whole[:3])
	expect(t, "Of a piece", got, err, 1026, api.OK)
	if !bytes.Equal(whole, kept) {
		t.Errorf("Of wrote into its bytes: %v", whole)
	}
	got, err = Of(whole[1:4:4])
	expect(t, "Of a middle piece", got, err, folded(515+65280), api.OK)
}

func TestAdd(t *testing.T) {
	cases := []struct{ a, b, want int }{
		{0, 0, 0},
		{0, 1, 1},
		{1, 2, 3},
		{0, 65535, 65535},
		{65535, 0, 65535},
		{65534, 1, 65535},
		{32768, 32767, 65535},
		{32768, 32768, 1},
		{65535, 1, 1},
		{1, 65535, 1},
		{65535, 65534, 65534},
		{65535, 65535, 65535},
	}
	for _, c := range cases {
		got, err := Add(c.a, c.b)
		expect(t, "Add", got, err, c.want, api.OK)
	}
	for _, a := range inside {
		for b := 0; b <= 65535; b++ {
			got, err := Add(a, b)
			if got != folded(a+b) || err != nil {
				t.Fatalf("Add(%d, %d): got %d, %v", a, b, got, err)
			}
		}
	}
}

func TestAddOutside(t *testing.T) {
	for _, bad := range outside {
		for _, good := range inside {
			got, err := Add(bad, good)
			expect(t, "Add first outside", got, err, 0, api.ErrRange)
			got, err = Add(good, bad)
			expect(t, "Add second outside", got, err, 0, api.ErrRange)
		}
		for _, other := range outside {
			got, err := Add(bad, other)
			expect(t, "Add both outside", got, err, 0, api.ErrRange)
		}
	}
}

func TestNot(t *testing.T) {
	for a := 0; a <= 65535; a++ {
		got, err := Not(a)
		expect(t, "Not", got, err, 65535-a, api.OK)
	}
	for _, bad := range outside {
		got, err := Not(bad)
		expect(t, "Not outside", got, err, 0, api.ErrRange)
	}
}

func TestAddAndNotOfASum(t *testing.T) {
	for _, a := range inside {
		n, _ := Not(a)
		got, err := Add(a, n)
		expect(t, "a number with its Not", got, err, 65535, api.OK)
	}
}

func TestSwap(t *testing.T) {
	cases := []struct{ check, before, after, want int }{
		{65535, 0, 1, 65534},
		{65535, 0, 0, 0},
		{0, 0, 0, 0},
		{0, 65535, 65535, 0},
		{0, 65535, 0, 0},
		{65535, 65535, 0, 65535},
		{65534, 1, 0, 0},
		{65534, 1, 2, 65533},
		{0xdd2f, 0x5555, 0x3285, 0},
		{0xb861, 0x4011, 0x3f11, 0xb961},
	}
	for _, c := range cases {
		got, err := Swap(c.check, c.before, c.after)
		expect(t, "Swap", got, err, c.want, api.OK)
	}
}

func TestSwapIsItsRule(t *testing.T) {
	for _, check := range inside {
		for _, before := range inside {
			for _, after := range inside {
				got, err := Swap(check, before, after)
				want := 65535 - folded(folded(65535-check+65535-before)+after)
				expect(t, "Swap by its rule", got, err, want, api.OK)
			}
		}
	}
}

func TestSwapTellsTheNewCheck(t *testing.T) {
	// Other numbers above 0 stand beside the one that is swapped: of nothing but zeros Of tells 0, while Swap's rule tells the check of 65535.
	for _, before := range inside {
		for _, after := range inside {
			old, _ := Of([]byte{18, 52, byte(before >> 8), byte(before), 171})
			anew, _ := Of([]byte{18, 52, byte(after >> 8), byte(after), 171})
			check, _ := Not(old)
			want, _ := Not(anew)
			got, err := Swap(check, before, after)
			expect(t, "Swap against Of", got, err, want, api.OK)
		}
	}
}

func TestSwapOutside(t *testing.T) {
	for _, bad := range outside {
		for _, good := range inside {
			got, err := Swap(bad, good, good)
			expect(t, "Swap check outside", got, err, 0, api.ErrRange)
			got, err = Swap(good, bad, good)
			expect(t, "Swap before outside", got, err, 0, api.ErrRange)
			got, err = Swap(good, good, bad)
			expect(t, "Swap after outside", got, err, 0, api.ErrRange)
		}
		got, err := Swap(bad, bad, bad)
		expect(t, "Swap all outside", got, err, 0, api.ErrRange)
	}
}
