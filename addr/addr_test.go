package addr

import (
	"bytes"
	"fmt"
	"math"
	"strings"
	"testing"

	"gangplank/api"
	"gangplank/plain"
)

// outside are numbers that no six has.
var outside = []int{-1, 65536, -65535, 131071, 1 << 32, math.MinInt, math.MaxInt}

// printed are sixes with their texts.
var printed = []struct {
	a    api.Six
	text string
}{
	{api.Six{}, "::"},
	{api.Six{0, 0, 0, 0, 0, 0, 0, 1}, "::1"},
	{api.Six{1}, "1::"},
	{api.Six{1, 0, 0, 0, 0, 0, 0, 1}, "1::1"},
	{api.Six{8193, 3512, 0, 0, 1, 0, 0, 1}, "2001:db8::1:0:0:1"},
	{api.Six{8193, 3512, 0, 0, 0, 0, 0, 1}, "2001:db8::1"},
	{api.Six{100, 65435}, "64:ff9b::"},
	{api.Six{1, 2, 3, 4, 5, 6, 7, 8}, "1:2:3:4:5:6:7:8"},
	{api.Six{0, 2, 3, 4, 5, 6, 7, 8}, "0:2:3:4:5:6:7:8"},
	{api.Six{1, 2, 3, 4, 5, 6, 7, 0}, "1:2:3:4:5:6:7:0"},
	{api.Six{1, 2, 3, 0, 5, 6, 7, 8}, "1:2:3:0:5:6:7:8"},
	{api.Six{0, 2, 0, 4, 0, 6, 0, 8}, "0:2:0:4:0:6:0:8"},
	{api.Six{0, 0, 3, 4, 5, 6, 7, 8}, "::3:4:5:6:7:8"},
	{api.Six{1, 2, 3, 4, 5, 6, 0, 0}, "1:2:3:4:5:6::"},
	{api.Six{1, 2, 3, 0, 0, 6, 7, 8}, "1:2:3::6:7:8"},
	{api.Six{0, 0, 1, 0, 0, 1, 0, 0}, "::1:0:0:1:0:0"},
	{api.Six{0, 0, 1, 0, 0, 0, 1, 1}, "0:0:1::1:1"},
	{api.Six{1, 0, 0, 1, 1, 0, 0, 0}, "1:0:0:1:1::"},
	{api.Six{0, 0, 0, 1, 0, 0, 0, 0}, "0:0:0:1::"},
	{api.Six{0, 0, 0, 0, 1, 0, 0, 0}, "::1:0:0:0"},
	{api.Six{0, 1, 0, 0, 0, 0, 0, 0}, "0:1::"},
	{api.Six{0, 0, 0, 0, 0, 0, 1, 0}, "::1:0"},
	{api.Six{0, 0, 0, 0, 0, 65535, 2560, 1}, "::ffff:a00:1"},
	{api.Six{9, 10, 15, 16, 255, 256, 4095, 4096}, "9:a:f:10:ff:100:fff:1000"},
	{api.Six{65535, 65535, 65535, 65535, 65535, 65535, 65535, 65535}, "ffff:ffff:ffff:ffff:ffff:ffff:ffff:ffff"},
	{api.Six{0x1234, 0x5678, 0x9abc, 0xdef0, 0xfedc, 0xba98, 0x7654, 0x3210}, "1234:5678:9abc:def0:fedc:ba98:7654:3210"},
}

func expect[T comparable](t *testing.T, name string, got T, err error, want T, wrong api.Errno) {
	t.Helper()
	if got != want || plain.Told(err) != wrong {
		t.Errorf("%s: got %v, %v; want %v, %v", name, got, err, want, wrong)
	}
}

// patterns gives a six for each choice of which of its numbers are 0.
func patterns() []api.Six {
	var list []api.Six
	for chosen := range 256 {
		var a api.Six
		for i := range a {
			if chosen>>i&1 == 1 {
				a[i] = 4097*i + 1
			}
		}
		list = append(list, a)
	}
	return list
}

// writtenOut finds the text another way: it tries each run there could be, the longest ahead, the first ahead.
func writtenOut(a api.Six) string {
	text := func(list []int) string {
		return strings.ReplaceAll(strings.Trim(fmt.Sprintf("%x", list), "[]"), " ", ":")
	}
	for length := 8; length >= 2; length-- {
		for from := 0; from+length <= 8; from++ {
			if strings.Trim(text(a[from:from+length]), "0:") == "" {
				return text(a[:from]) + "::" + text(a[from+length:])
			}
		}
	}
	return text(a[:])
}

// spoiled gives the six with one of its numbers outside.
func spoiled(a api.Six, i, bad int) api.Six {
	a[i] = bad
	return a
}

func TestCheck(t *testing.T) {
	for _, c := range printed {
		if err := Check(c.a); err != nil {
			t.Errorf("Check of %v: %v", c.a, err)
		}
		for i := range c.a {
			for _, bad := range outside {
				if err := Check(spoiled(c.a, i, bad)); plain.Told(err) != api.ErrRange {
					t.Errorf("Check with %d at %d: %v", bad, i, err)
				}
			}
		}
	}
}

func TestPrint(t *testing.T) {
	for _, c := range printed {
		got, err := Print(c.a)
		expect(t, "Print", got, err, c.text, api.OK)
	}
	for _, a := range patterns() {
		got, err := Print(a)
		expect(t, "Print by pattern", got, err, writtenOut(a), api.OK)
	}
}

func TestPrintOutside(t *testing.T) {
	for i := range 8 {
		for _, bad := range outside {
			got, err := Print(spoiled(api.Six{}, i, bad))
			expect(t, "Print outside", got, err, "", api.ErrRange)
		}
	}
}

func TestParse(t *testing.T) {
	for _, c := range printed {
		got, err := Parse(c.text)
		expect(t, "Parse "+c.text, got, err, c.a, api.OK)
	}
	for _, a := range patterns() {
		text, _ := Print(a)
		got, err := Parse(text)
		expect(t, "Parse "+text, got, err, a, api.OK)
	}
}

func TestParseEveryNumber(t *testing.T) {
	for x := 0; x <= 65535; x++ {
		a := api.Six{1, 2, 3, x, 5, 6, 7, 8}
		text := fmt.Sprintf("1:2:3:%x:5:6:7:8", x)
		got, err := Parse(text)
		expect(t, "Parse "+text, got, err, a, api.OK)
	}
}

func TestParseWrong(t *testing.T) {
	for _, text := range []string{
		"", ":", ":::", "::::", "1", "1:", ":1", "1:2", " ", "::\n", "\n::", " ::", ":: ", "::\x00", "é::", "::１",
		"2001:db8:0:0:0:0:0:1", "0:0:0:0:0:0:0:0", "0::", "::0", "0::0", "::0:1", "1:0::", "1::0:1", "1:0::1",
		"1:2:3::5:6:7:8", "1:2:3:4:5:6:7::", "::2:3:4:5:6:7:8", "1:2:3:4:5:6:7:8::", "::1:2:3:4:5:6:7:8", "1:2:3:4::5:6:7:8", "::1:2:3:4:5:6:7:8:9", "1:2:3:4:5:6:7:8:9::", "::1:2:3:4:5:6:7:8:9:a:b:c:d:e:f:1:2:3",
		"1:2:3:4:5:6:7", "1:2:3:4:5:6:7:", ":2:3:4:5:6:7:8", "1:2:3:4:5:6:7:8:9", "1:2:3:4:5:6:7:8:", ":1:2:3:4:5:6:7:8",
		"1::2::3", "::1::", "1:::2", "::1:", ":1::", "1::2:", ":1::2", "::1:2:3:4::",
		"2001:db8:0:0:1::1", "2001:db8::1::1", "1:0:0:0:2::3", "1::2:0:0:0:3", "0:0:0:0:1::", "1:0:0:2::0:3", "::1:0:0:0:0",
		"2001:DB8::1", "::A", "::fF", "::01", "::001", "::0001", "::00001", "::0a", "00::", "01::", "::10000", "::fffff", "::12345",
		"::g", "::-1", "::+1", "::0x1", "::1_0", "::_1", "::1.5", "::10.0.0.1", "::ffff:10.0.0.1", "::1%a", "[::1]", "::1/64", "::1 ", "fe80::1%1",
		"ffff:ffff:ffff:ffff:ffff:ffff:ffff:ffff0", "ffff:ffff:ffff:ffff:ffff:ffff:ffff:fffff", "10.0.0.1",
		"\xff", "::\xff", "1\x00:2:3:4:5:6:7:8",
		strings.Repeat(":", 39), strings.Repeat("0", 39), strings.Repeat(":", 100000), "::" + strings.Repeat("0", 100000) + "1", "::1" + strings.Repeat(" ", 40),
	} {
		got, err := Parse(text)
		expect(t, fmt.Sprintf("Parse %.60q", text), got, err, api.Six{}, api.ErrSyntax)
	}
}

// near gives texts that are a byte away from one: with a byte less, another one, one more.
func near(text, marks string) []string {
	var list []string
	for i := range len(text) + 1 {
		for _, m := range []byte(marks) {
			list = append(list, text[:i]+string(m)+text[i:])
			if i < len(text) {
				list = append(list, text[:i]+string(m)+text[i+1:])
			}
		}
		if i < len(text) {
			list = append(list, text[:i]+text[i+1:])
		}
	}
	return list
}

func TestParseTakesNothingButWhatPrintWrites(t *testing.T) {
	taken := 0
	for _, c := range printed {
		for _, text := range near(c.text, "012f:gA. +-") {
			a, err := Parse(text)
			if err != nil {
				expect(t, "Parse "+text, a, err, api.Six{}, api.ErrSyntax)
				continue
			}
			taken++
			if writtenOut(a) != text {
				t.Errorf("Parse took %q, whose six is written %q", text, writtenOut(a))
			}
		}
	}
	if taken == 0 {
		t.Error("no text a byte away was taken")
	}
}

// printed4 are fours with their texts.
var printed4 = []struct {
	a    int
	text string
}{
	{0, "0.0.0.0"},
	{1, "0.0.0.1"},
	{255, "0.0.0.255"},
	{256, "0.0.1.0"},
	{65535, "0.0.255.255"},
	{65536, "0.1.0.0"},
	{1 << 24, "1.0.0.0"},
	{167772161, "10.0.0.1"},
	{0x01020304, "1.2.3.4"},
	{0x090a6364, "9.10.99.100"},
	{1<<31 - 1, "127.255.255.255"},
	{1 << 31, "128.0.0.0"},
	{0xc0a80001, "192.168.0.1"},
	{1<<32 - 2, "255.255.255.254"},
	{1<<32 - 1, "255.255.255.255"},
}

func TestPrint4AndParse4(t *testing.T) {
	for _, c := range printed4 {
		if err := Check4(c.a); err != nil {
			t.Errorf("Check4 of %d: %v", c.a, err)
		}
		text, err := Print4(c.a)
		expect(t, "Print4", text, err, c.text, api.OK)
		got, err := Parse4(c.text)
		expect(t, "Parse4 "+c.text, got, err, c.a, api.OK)
	}
	for i := range 4 {
		for x := range 256 {
			a := x<<(8*i) | 0x01020304&^(255<<(8*i))
			want := fmt.Sprintf("%d.%d.%d.%d", a>>24, a>>16&255, a>>8&255, a&255)
			text, err := Print4(a)
			expect(t, "Print4", text, err, want, api.OK)
			got, err := Parse4(want)
			expect(t, "Parse4 "+want, got, err, a, api.OK)
		}
	}
}

func TestPrint4Outside(t *testing.T) {
	for _, bad := range []int{-1, 1 << 32, 1<<32 + 1, -1 << 32, 1 << 40, math.MinInt, math.MaxInt} {
		got, err := Print4(bad)
		expect(t, "Print4 outside", got, err, "", api.ErrRange)
		if err := Check4(bad); plain.Told(err) != api.ErrRange {
			t.Errorf("Check4 of %d: %v", bad, err)
		}
	}
}

func TestParse4Wrong(t *testing.T) {
	for _, text := range []string{
		"", ".", "...", "0", "1.2", "1.2.3", "1.2.3.", ".1.2.3", "1..2.3", "1.2.3.4.", ".1.2.3.4", "1.2.3.4.5", "1.2..3.4",
		"10.0.0.01", "010.0.0.1", "10.00.0.1", "10.0.000.1", "00.0.0.0", "0.0.0.00",
		"256.0.0.0", "0.256.0.0", "0.0.256.0", "0.0.0.256", "0.0.0.999", "0.0.0.1000", "1.2.3.65536", "300.1.1.1", "255.255.255.256",
		"-1.0.0.0", "+1.0.0.0", "1.0.0.-0", "1.0.0.+0", "1.2.3.a", "1.2.3.0x4", "1.2.3.1_0", "1,2,3,4", "1:2:3:4", "::",
		" 1.2.3.4", "1.2.3.4 ", "1. 2.3.4", "1.2.3.4\n", "1.2.3.4\x00", "\xff.2.3.4", "1.2.3.４", "167772161",
		"255.255.255.2555", strings.Repeat(".", 15), strings.Repeat("1", 15), strings.Repeat(".", 100000), "1.2.3." + strings.Repeat("0", 100000) + "4",
	} {
		got, err := Parse4(text)
		expect(t, fmt.Sprintf("Parse4 %.60q", text), got, err, 0, api.ErrSyntax)
	}
}

func TestParse4TakesNothingButWhatPrint4Writes(t *testing.T) {
	for _, c := range printed4 {
		for _, text := range near(c.text, "01256.a: +-") {
			a, err := Parse4(text)
			if err != nil {
				expect(t, "Parse4 "+text, a, err, 0, api.ErrSyntax)
				continue
			}
			want := fmt.Sprintf("%d.%d.%d.%d", a>>24, a>>16&255, a>>8&255, a&255)
			if want != text {
				t.Errorf("Parse4 took %q, whose four is written %q", text, want)
			}
		}
	}
}

// bitsOf a six, one character each.
func bitsOf(a api.Six) string {
	var text strings.Builder
	for _, x := range a {
		fmt.Fprintf(&text, "%016b", x)
	}
	return text.String()
}

// flipped gives the six with its bit i another one.
func flipped(a api.Six, i int) api.Six {
	a[i/16] ^= 1 << (15 - i%16)
	return a
}

func TestIn(t *testing.T) {
	cases := []struct {
		a, p api.Six
		n    int
		want bool
	}{
		{api.Six{1, 2}, api.Six{1}, 16, true},
		{api.Six{1, 2}, api.Six{1}, 30, true},
		{api.Six{1, 2}, api.Six{1}, 31, false},
		{api.Six{1, 2}, api.Six{1}, 32, false},
		{api.Six{32768}, api.Six{}, 0, true},
		{api.Six{32768}, api.Six{}, 1, false},
		{api.Six{32767}, api.Six{}, 1, true},
		{api.Six{32767}, api.Six{}, 2, false},
		{api.Six{7: 1}, api.Six{}, 127, true},
		{api.Six{7: 1}, api.Six{}, 128, false},
		{api.Six{}, api.Six{7: 1}, 127, true},
		{api.Six{}, api.Six{7: 1}, 128, false},
		{api.Six{100, 65435, 0, 0, 0, 0, 2560, 1}, api.Six{100, 65435}, 96, true},
		{api.Six{100, 65435, 0, 0, 0, 1, 2560, 1}, api.Six{100, 65435}, 96, false},
	}
	for _, c := range cases {
		got, err := In(c.a, c.p, c.n)
		expect(t, fmt.Sprint("In ", c.a, c.p, c.n), got, err, c.want, api.OK)
	}
	for _, c := range printed {
		for n := 0; n <= 128; n++ {
			got, err := In(c.a, c.a, n)
			expect(t, "In of itself", got, err, true, api.OK)
			for _, other := range printed {
				want := bitsOf(c.a)[:n] == bitsOf(other.a)[:n]
				got, err := In(c.a, other.a, n)
				expect(t, "In of another", got, err, want, api.OK)
			}
		}
	}
}

func TestInSeesEveryBit(t *testing.T) {
	for _, a := range []api.Six{{}, {0x1234, 0x5678, 0x9abc, 0xdef0, 0xfedc, 0xba98, 0x7654, 0x3210}} {
		for i := range 128 {
			for n := 0; n <= 128; n++ {
				got, err := In(a, flipped(a, i), n)
				expect(t, "In with a bit flipped", got, err, i >= n, api.OK)
			}
		}
	}
}

func TestInOutside(t *testing.T) {
	good := api.Six{1, 2}
	for _, n := range []int{-1, 129, 1 << 32, math.MinInt, math.MaxInt} {
		got, err := In(good, good, n)
		expect(t, "In of bits outside", got, err, false, api.ErrRange)
	}
	for i := range 8 {
		for _, bad := range outside {
			for _, n := range []int{-1, 0, 16, 128, 129} {
				got, err := In(spoiled(good, i, bad), good, n)
				expect(t, "In of the first outside", got, err, false, api.ErrRange)
				got, err = In(good, spoiled(good, i, bad), n)
				expect(t, "In of the second outside", got, err, false, api.ErrRange)
				got, err = In(spoiled(good, i, bad), spoiled(good, i, bad), n)
				expect(t, "In of both outside", got, err, false, api.ErrRange)
			}
		}
	}
}

func TestBytes(t *testing.T) {
	got, err := Bytes(api.Six{8193, 3512, 0, 255, 256, 65280, 65535, 1})
	want := []byte{32, 1, 13, 184, 0, 0, 0, 255, 1, 0, 255, 0, 255, 255, 0, 1}
	if !bytes.Equal(got, want) || err != nil {
		t.Errorf("Bytes: got %v, %v; want %v", got, err, want)
	}
	for _, c := range printed {
		got, err := Bytes(c.a)
		text := ""
		for _, x := range got {
			text += fmt.Sprintf("%08b", x)
		}
		expect(t, "Bytes", text, err, bitsOf(c.a), api.OK)
	}
}

func TestBytesAreFresh(t *testing.T) {
	one, _ := Bytes(api.Six{1})
	two, _ := Bytes(api.Six{1})
	one[0], one[15] = 9, 9
	if two[0] != 0 || two[15] != 0 {
		t.Error("two answers of Bytes share memory")
	}
}

func TestBytesOutside(t *testing.T) {
	for i := range 8 {
		for _, bad := range outside {
			got, err := Bytes(spoiled(api.Six{1, 2, 3, 4, 5, 6, 7, 8}, i, bad))
			expect(t, "Bytes outside", len(got), err, 0, api.ErrRange)
		}
	}
}
