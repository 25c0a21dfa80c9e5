package run

import (
	"encoding/hex"
	"fmt"
	"math/rand"
	"regexp"
	"strconv"
	"strings"
	"testing"

	"gangplank/addr"
	"gangplank/api"
	"gangplank/embed"
	"gangplank/gate"
	"gangplank/ip4"
	"gangplank/plain"
	"gangplank/seg"
)

const (
	vip    = "2001:db8::1"
	client = "2001:db8::2"
)

// row is a line, and its answer.
type row struct{ line, answer string }

// expectRows of one session: all of them, and the first ones alone (Z2), with an end of the last line and without.
func expectRows(t *testing.T, rows ...row) {
	t.Helper()
	text, want := "", ""
	for i, r := range rows {
		text += r.line
		want += r.answer + "\n"
		if r.line != "" {
			expectRun(t, text, want)
		}
		text += "\n"
		expectRun(t, text, want)
		if t.Failed() {
			t.Fatalf("at row %d: %q", i, r.line)
		}
	}
}

func expectRun(t *testing.T, text, want string) {
	t.Helper()
	if got := Run(text); got != want {
		t.Errorf("Run(%q): got %q, want %q", text, got, want)
	}
}

// answers to lines.
func answers(t *testing.T, lines ...string) []string {
	t.Helper()
	list := strings.Split(Run(strings.Join(lines, "\n")+"\n"), "\n")
	if len(list) != len(lines)+1 || list[len(lines)] != "" {
		t.Fatalf("lines %q: got answers %q", lines, list)
	}
	return list[:len(lines)]
}

// read4 what went on to a server: all of it must be as it is written.
func read4(t *testing.T, answer string) (api.Pack4, api.Seg) {
	t.Helper()
	b, err := hex.DecodeString(answer)
	if err != nil {
		t.Fatalf("no packet: %q", answer)
	}
	p, err := ip4.Decode(b)
	if err != nil {
		t.Fatalf("%v: %q", err, answer)
	}
	over, err := seg.Over4(p.Src, p.Dst, p.Kind, len(p.Body))
	if err != nil {
		t.Fatal(err)
	}
	s, err := seg.Decode(p.Kind, p.Body, over)
	if err != nil {
		t.Fatalf("%v: %q", err, answer)
	}
	return p, s
}

// packet6 of a client, of right checks, as a word.
func packet6(t *testing.T, dst string, hop int, s api.Seg) string {
	t.Helper()
	from, err := addr.Parse(client)
	if err != nil {
		t.Fatal(err)
	}
	to, err := addr.Parse(dst)
	if err != nil {
		t.Fatal(err)
	}
	b, err := gate.Close6(from, to, hop, s)
	if err != nil {
		t.Fatal(err)
	}
	return hex.EncodeToString(b)
}

// The rows of the next tests were worked out apart from the program.

func TestSayByteByByte(t *testing.T) {
	expectRows(t,
		row{"say 2001:db8::2 5000 hello", "45000021000040003f1126cb0a0000010a00010104001f90000d837068656c6c6f"},
		row{"say 2001:db8::2 117 -", "4500001d000040003f1126ce0a0000010a00010204011f9000099a482d"},
		row{"say 2001:db8::2 5000 hello", "45000021000040003f1126cb0a0000010a00010104001f90000d837068656c6c6f"},
		row{"binds", "1024 1025"},
		row{
			"four 4500002112344000401113970a0001010a0000011f900400000d7966776f726c64",
			"60000000000d113f20010db800000000000000000000000120010db800000000000000000000000200501388000d42ab776f726c64",
		},
		row{
			"four 4500001c00004000021163cf0a0001020a0000011f9004010008c74a",
			"600000000008110120010db800000000000000000000000120010db8000000000000000000000002005000750008a3a4",
		},
		row{"four 4500001c00004000401125cf0a0001020a0000011f9004000008c74b", "ErrNone"},
	)
}

func TestCallByteByByte(t *testing.T) {
	expectRows(t,
		row{"call 2001:db8::2 5000 192.0.2.1 443", "45000028000040003f066fce0a000001c0000201040001bb000000000000000050020000de250000"},
		row{"call :: 0 255.255.255.255 65535", "45000028000040003f0631d00a000001ffffffff0408ffff000000000000000050020000a1da0000"},
		row{"call 2001:db8::2 5000 0.0.0.0 0", "45000028000040003f0631d00a0000010000000004010000000000000000000050020000a1e10000"},
		row{"binds", "1024 1025 1032"},
		row{
			"four 450000280000400040066ecec00002010a00000101bb0400000000070000000150120200dc0d0000",
			"600000000014063f0064ff9b0000000000000000c000020120010db800000000000000000000000201bb1388000000070000000150120200a8cb0000",
		},
	)
}

// TestATalkByteByByte: the gate of a session is one that Injects.
func TestATalkByteByByte(t *testing.T) {
	first := "six 600000000017064020010db800000000000000000000000220010db800000000000000000000000113880050000003e90000004e501802009f000000474554"
	expectRows(t,
		row{
			"six 600000000014064020010db800000000000000000000000220010db800000000000000000000000113880050000003e800000000500202003aae0000",
			"45000028000040003f0626cf0a0000010a00010104001f90000003b40000000050020200719d0000",
		},
		row{
			"four 4500002800004000400625cf0a0001010a0000011f9004000000004d000003b550120200713f0000",
			"600000000014063f20010db800000000000000000000000120010db8000000000000000000000002005013880000004d000003e9501202003a500000",
		},
		row{first, "4500005f000040003f0626980a0000010a00010104001f90000003b50000004e50180200776300000d0a0d0a000d0a515549540a2121002420010db800000000000000000000000220010db800000000000000000000000113880050474554"},
		row{
			"four 4500002800004000400625cf0a0001010a0000011f9004000000004e000003ec5010020071090000",
			"600000000014063f20010db800000000000000000000000120010db8000000000000000000000002005013880000004e000003ec501002003a4e0000",
		},
		row{first, "4500002b000040003f0626cc0a0000010a00010104001f90000003e90000004e50180200d5bb0000474554"},
	)
}

func TestTooLong(t *testing.T) {
	most := api.MaxRun
	expectRun(t, strings.Repeat("\n", most), strings.Repeat("bad\n", most))
	expectRun(t, strings.Repeat("\n", most+1), "too long\n")
	expectRun(t, strings.Repeat("x", most), "bad\n")
	expectRun(t, strings.Repeat("x", most+1), "too long\n")
	expectRun(t, strings.Repeat("binds\n", most/6), strings.Repeat("-\n", most/6))
	expectRun(t, strings.Repeat("binds\n", most/6)+"x", "too long\n")
	expectRun(t, strings.Repeat("binds\n", most/6)+"\n", "too long\n")
	expectRun(t, strings.Repeat("x", 1<<20), "too long\n")
	// A text is as long as it has bytes, not runes.
	expectRun(t, strings.Repeat("\u00e9", most/2), "bad\n")
	expectRun(t, strings.Repeat("\u00e9", most/2)+"x", "too long\n")
}

func TestTheLongestLines(t *testing.T) {
	say := "say ::1 1 "
	expectRun(t, say+strings.Repeat("x", api.MaxRun-len(say)), "ErrFull\n")
	six := "six "
	expectRun(t, six+strings.Repeat("0", api.MaxRun-len(six)), "ErrSyntax\n")
	expectRun(t, "four "+strings.Repeat("0", api.MaxRun-len(six)-1), "bad\n")
}

func TestLinesAreCut(t *testing.T) {
	expectRun(t, "", "")
	expectRun(t, "\n", "bad\n")
	expectRun(t, "\n\n", "bad\nbad\n")
	expectRun(t, "binds", "-\n")
	expectRun(t, "binds\n", "-\n")
	expectRun(t, "binds\n\n", "-\nbad\n")
	expectRun(t, "\nbinds", "bad\n-\n")
	expectRun(t, "\n\nbinds\n\nbinds", "bad\nbad\n-\nbad\n-\n")
	expectRun(t, "binds\r\nbinds\r\n", "bad\nbad\n")
	expectRun(t, "binds\x00binds", "bad\n")
	expectRun(t, " ", "bad\n")
	expectRun(t, " \n ", "bad\nbad\n")
}

// right lines, one of each row of the table.
var right = []string{
	"six -", "four -", "say ::1 5 x", "call ::1 5 1.2.3.4 6", "tick 1", "up 1", "down 1", "drain 1", "binds", "in ::1",
}

func TestLinesThatAreRight(t *testing.T) {
	for _, line := range right {
		if got := answers(t, line)[0]; got == bad {
			t.Errorf("%q is answered %q", line, got)
		}
	}
}

// refuse a line: it is answered so, and does nothing, as all that comes behind it is answered as without it.
func refuse(t *testing.T, line string) {
	t.Helper()
	behind := []string{"binds", "say ::1 117 x", "say ::2 117 y", "tick 29", "binds", "call ::1 6 1.2.3.4 6", "binds", "tick 1", "binds"}
	want := append([]string{"bad"}, answers(t, behind...)...)
	got := answers(t, append([]string{line}, behind...)...)
	if strings.Join(got, "\n") != strings.Join(want, "\n") {
		t.Errorf("%q: got %q, want %q", line, got, want)
	}
}

func TestWordsTooManyOrTooFew(t *testing.T) {
	for _, line := range right {
		refuse(t, line+" ")
		refuse(t, " "+line)
		refuse(t, line+" x")
		refuse(t, line+" 1")
		refuse(t, line+" -")
		refuse(t, "x "+line)
		refuse(t, line+" "+line)
		refuse(t, strings.ToUpper(line))
		if !strings.HasPrefix(line, "say ") { // whose text they may be in
			refuse(t, line+"\r")
			refuse(t, line+"\x00")
		}
		words := strings.Split(line, " ")
		for i := range words {
			without := append(append([]string(nil), words[:i]...), words[i+1:]...)
			refuse(t, strings.Join(without, " "))
			words[i] += " "
			refuse(t, strings.Join(words, " "))
			words[i] = strings.TrimSpace(words[i])
		}
		if strings.Contains(line, " ") {
			refuse(t, strings.Replace(line, " ", "\t", 1))
			refuse(t, strings.Replace(line, " ", "", 1))
			refuse(t, strings.Replace(line, " ", "\u00a0", 1))
		}
	}
}

func TestOtherLines(t *testing.T) {
	for _, line := range []string{
		"fly", "bind", "bindss", "Binds", "sixth -", "fours -", "undrain 1", "now", "bad", "ok", "too long", "-", "\xff", "in", "say", "call", "tick", "0",
	} {
		refuse(t, line)
	}
}

// TestEmptyWords: a blank with nothing beside it is not between two words.
func TestEmptyWords(t *testing.T) {
	for _, line := range []string{"six ", "four ", "say ::1 1 ", "say ::1  x", "say  1 x", "tick ", "in ", "call ::1 1  1", " binds"} {
		refuse(t, line)
	}
}

// notNumbers can't be read; "1" beside them could.
var notNumbers = []string{
	"00", "01", "007", "-1", "-0", "+1", "+0", "1.", "1.0", "1e1", "0x1", "1_0", "a", "-", "--1", "1,", "\u0661", "1000000000", "0000000001", "9999999999",
	"18446744073709551617", "-000000001", "1\r", "\x00", "NaN",
}

func TestNumbersThatAreNone(t *testing.T) {
	for _, word := range notNumbers {
		for _, form := range []string{
			"tick %s", "up %s", "down %s", "drain %s", "say ::1 %s x", "call ::1 %s 1.2.3.4 5", "call ::1 5 1.2.3.4 %s",
		} {
			refuse(t, fmt.Sprintf(form, word))
		}
	}
}

func TestEveryByteAsANumber(t *testing.T) {
	for x := range 256 {
		if x == '\n' {
			continue
		}
		want := bad
		if x >= '0' && x <= '9' {
			want = "ok"
		}
		expectRun(t, "tick "+string([]byte{byte(x)}), want+"\n")
		if x == '0' {
			want = bad
		}
		expectRun(t, "tick "+string([]byte{byte(x), '1'}), want+"\n")
	}
}

func TestTicks(t *testing.T) {
	for word, want := range map[string]string{
		"0": "ok", "1": "ok", "9": "ok", "10": "ok", "999": "ok", "1000": "ok", "1001": "ErrRange", "10000": "ErrRange", "999999999": "ErrRange",
	} {
		expectRun(t, "tick "+word+"\n", want+"\n")
	}
}

func TestServersThatAreNone(t *testing.T) {
	for _, verb := range []string{"up", "down", "drain"} {
		for id, want := range map[string]string{"0": "ErrNone", "1": "ok", "2": "ok", "3": "ErrNone", "65537": "ErrNone", "999999999": "ErrNone"} {
			expectRun(t, verb+" "+id, want+"\n")
		}
	}
}

// expectPort: of a line with a port in it, what each number is answered.
func expectPort(t *testing.T, form string) {
	t.Helper()
	for _, n := range []int{0, 1, 79, 80, 1024, 65534, 65535} {
		p, _ := read4(t, answers(t, fmt.Sprintf(form, n))[0])
		if p.Src != 10<<24|1 || p.TTL != 63 || p.ID != 0 {
			t.Errorf("%s, with %d: got %v", form, n, p)
		}
	}
	for _, n := range []int{65536, 65537, 65536 + 80, 100000, 999999999} {
		expectRows(t, row{fmt.Sprintf(form, n), "ErrRange"}, row{"binds", "-"})
	}
}

func TestPortsThatAreNone(t *testing.T) {
	expectPort(t, "say ::1 %d x")
	expectPort(t, "call ::1 %d 1.2.3.4 5")
	expectPort(t, "call ::1 5 1.2.3.4 %d")
}

func TestTextOfEveryLength(t *testing.T) {
	for n := 1; n <= api.MaxData; n++ {
		text := strings.Repeat("abcdefg", 50)[:n]
		p, s := read4(t, answers(t, "say ::1 7 "+text)[0])
		if string(s.Data) != text || p.Kind != api.UDP || s.From != 1024 || s.To != 8080 {
			t.Errorf("of length %d: got %v, %v", n, p, s)
		}
	}
	// Also where the packet, and not the text alone, would be too long.
	for _, n := range []int{301, 302, 311, 312, 313, 320, 321, 1000, 2000, 2980} {
		expectRows(t, row{"say ::1 7 " + strings.Repeat("x", n), "ErrFull"}, row{"binds", "-"})
	}
	expectRun(t, "say ::1 65536 "+strings.Repeat("x", 301), "ErrRange\n")
}

func TestTextOfEveryByte(t *testing.T) {
	for x := range 256 {
		if x == '\n' || x == ' ' {
			continue
		}
		text := string([]byte{byte(x)})
		_, s := read4(t, answers(t, "say ::1 7 "+text)[0])
		if string(s.Data) != text {
			t.Errorf("byte %d: got %q", x, s.Data)
		}
	}
}

// isDigit of bytes that are written.
func isDigit(x int) bool {
	return x >= '0' && x <= '9' || x >= 'a' && x <= 'f'
}

func TestEveryPairOfDigits(t *testing.T) {
	for high := range 256 {
		var lines []string
		var want strings.Builder
		for low := range 256 {
			if high == '\n' || low == '\n' {
				continue
			}
			lines = append(lines, "six "+string([]byte{byte(high), byte(low)}))
			if isDigit(high) && isDigit(low) {
				want.WriteString("ErrSyntax\n")
			} else {
				want.WriteString("bad\n")
			}
		}
		if len(lines) > 0 {
			expectRun(t, strings.Join(lines, "\n"), want.String())
		}
	}
}

func TestBytesThatAreNone(t *testing.T) {
	for _, verb := range []string{"six", "four"} {
		for _, word := range []string{"0", "000", "0g", "g0", "A0", "0A", "--", "-0", "0-", "0x00", "0_00", "00-", "-00", "\xff\xff", "+1", "000\u00e9"} {
			refuse(t, verb+" "+word)
		}
		for _, word := range []string{"-", "00", "ff", "0123456789abcdef"} {
			expectRun(t, verb+" "+word, "ErrSyntax\n")
		}
	}
}

func TestSixesThatAreNone(t *testing.T) {
	for _, word := range []string{
		"x", "-", ":", ":::", "0", "::0", "0::", "1::0:0", "::00", "::A", "::10000", "1:2:3:4:5:6:7", "1:2:3:4:5:6:7:8:9", "1:2:3:4:5:6:7::", "1::2::3",
		"::1.2.3.4", "::1%1", "[::1]", "1.2.3.4", "2001:DB8::1", "2001:0db8::1", "1:0:0:2:0:0:0:3", "::1\r", "64:ff9b::0:1", "::ffff:1.2.3.4",
	} {
		refuse(t, "in "+word)
		refuse(t, "say "+word+" 5 x")
		refuse(t, "call "+word+" 5 1.2.3.4 6")
	}
}

func TestFoursThatAreNone(t *testing.T) {
	for _, word := range []string{
		"x", "-", ".", "...", "1", "1.2.3", "1.2.3.", ".2.3.4", "1.2.3.4.5", "1..3.4", "01.2.3.4", "1.2.3.00", "256.2.3.4", "1.2.3.256", "-1.2.3.4", "+1.2.3.4",
		"1.2.3.4\r", "0x1.2.3.4", "16909060", "::1", "1,2,3,4",
	} {
		refuse(t, "call ::1 5 "+word+" 6")
	}
}

func TestIn(t *testing.T) {
	expectRows(t,
		row{"in 2001:db8::1", "vip"},
		row{"in 2001:db8::2", "-"},
		row{"in 2001:db8::", "-"},
		row{"in ::", "-"},
		row{"in ::1", "-"},
		row{"in 2001:db8:0:1::1", "-"},
		row{"in ffff:ffff:ffff:ffff:ffff:ffff:ffff:ffff", "-"},
		row{"in 64:ff9b::", "0.0.0.0"},
		row{"in 64:ff9b::1", "0.0.0.1"},
		row{"in 64:ff9b::a00:1", "10.0.0.1"},
		row{"in 64:ff9b::ffff:ffff", "255.255.255.255"},
		row{"in 64:ff9b::102:304", "1.2.3.4"},
		row{"in 64:ff9b::1:0:0", "-"},
		row{"in 64:ff9b:0:0:100::", "-"},
		row{"in 64:ff9b:0:1::", "-"},
		row{"in 64:ff9c::1", "-"},
		row{"in 65:ff9b::1", "-"},
		row{"in 64:ff9a::1", "-"},
		row{"binds", "-"},
	)
}

// expectServer: a word that a client says goes to that server, at its door.
func expectServer(t *testing.T, answer string, id int) {
	t.Helper()
	p, s := read4(t, answer)
	if p.Dst != 10<<24|1<<8|id || s.To != 8080 {
		t.Errorf("got %v, %v; want server %d", p, s, id)
	}
}

// TestServers: by the seed, port 116 of the client is led to server 1, port 117 to 2.
func TestServers(t *testing.T) {
	said := func(lines ...string) string {
		t.Helper()
		list := answers(t, lines...)
		return list[len(list)-1]
	}
	one, two := "say "+client+" 116 x", "say "+client+" 117 x"
	expectServer(t, said(one), 1)
	expectServer(t, said(two), 2)
	expectServer(t, said("down 1", one), 2)
	expectServer(t, said("down 2", two), 1)
	expectServer(t, said("down 1", "up 1", one), 1)
	expectServer(t, said("drain 1", one), 2)
	expectServer(t, said("drain 2", two), 1)
	// What is drained stays so, whether it is up or not.
	expectServer(t, said("drain 1", "up 1", one), 2)
	expectServer(t, said("drain 1", "down 1", "up 1", one), 2)
	// Who talks stays.
	expectServer(t, said(one, "down 1", one), 1)
	expectServer(t, said(two, "drain 2", two), 2)
	expectServer(t, said(two, "down 1", "down 2", two), 2)
	for _, lines := range [][]string{{"down 1", "down 2"}, {"drain 1", "drain 2"}, {"down 1", "drain 2"}, {"down 2", "drain 1"}} {
		if got := said(append(lines, one)...); got != "ErrNone" {
			t.Errorf("%q: got %q", lines, got)
		}
		// A four in the prefix is asked of nobody.
		read4(t, said(append(lines, "call ::1 5 1.2.3.4 6")...))
	}
}

func TestLife(t *testing.T) {
	say, call := "say ::1 5 x", "call ::1 5 1.2.3.4 6"
	word, begin := answers(t, say)[0], answers(t, call)[0]
	expectRows(t,
		row{"binds", "-"}, row{say, word}, row{"binds", "1024"}, row{"tick 29", "ok"}, row{"binds", "1024"}, row{"tick 1", "ok"}, row{"binds", "-"},
		row{say, word}, row{"tick 29", "ok"}, row{say, word}, row{"tick 29", "ok"}, row{"binds", "1024"}, row{"tick 1000", "ok"}, row{"binds", "-"},
		row{call, begin}, row{"tick 99", "ok"}, row{"binds", "1024"}, row{"tick 0", "ok"}, row{"binds", "1024"}, row{"tick 1", "ok"}, row{"binds", "-"},
		row{call, begin}, row{"tick 99", "ok"}, row{call, begin}, row{"tick 99", "ok"}, row{"tick 1001", "ErrRange"}, row{"binds", "1024"},
	)
}

// TestBlocks: there are 4, of 8 ports.
func TestBlocks(t *testing.T) {
	var lines []string
	for i := range 4 {
		lines = append(lines, fmt.Sprintf("say ::%d 1 x", i+1))
	}
	list := answers(t, append(lines, "binds", "say ::5 1 x", "say ::4 2 x", "binds")...)
	if list[4] != "1024 1032 1040 1048" || list[5] != "ErrFull" || list[7] != "1024 1032 1040 1048 1049" {
		t.Errorf("got %q", list)
	}
	lines, ports := nil, ""
	for i := range 32 {
		lines = append(lines, fmt.Sprintf("say ::1 %d x", i))
		ports += fmt.Sprint(" ", 1024+i)
	}
	list = answers(t, append(lines, "say ::1 32 x", "say ::2 1 x", "binds")...)
	if list[32] != "ErrFull" || list[33] != "ErrFull" || list[34] != ports[1:] {
		t.Errorf("got %q", list)
	}
}

// TestNamesOfErrors: all but ErrClash, which no line comes to, as a flow that has a bind is not given another one.
func TestNamesOfErrors(t *testing.T) {
	syn := api.Seg{Kind: api.TCP, From: 5, To: 80, Flags: api.SYN}
	withData := syn
	withData.Data = []byte("x")
	midway := syn
	midway.Flags = api.ACK
	elsewhere := syn
	elsewhere.To = 81
	good := packet6(t, vip, 64, syn)
	spoilt := good[:len(good)-12] + "f" + good[len(good)-11:] // in its window
	icmp := good[:12] + "3a" + good[14:]
	expectRows(t,
		row{"tick 1001", "ErrRange"},
		row{"six " + packet6(t, vip, 64, withData), "ErrShape"},
		row{"six " + icmp, "ErrShape"},
		row{"say ::1 1 " + strings.Repeat("x", 301), "ErrFull"},
		row{"six " + packet6(t, vip, 64, elsewhere), "ErrNone"},
		row{"six " + packet6(t, "2001:db8::3", 64, syn), "ErrNone"},
		row{"six " + good[2:], "ErrSyntax"},
		row{"six " + spoilt, "ErrSum"},
		row{"six " + packet6(t, vip, 1, syn), "ErrDead"},
		row{"six " + packet6(t, vip, 64, midway), "ErrState"},
		row{"binds", "-"},
		row{"six " + good, answers(t, "six "+good)[0]},
		row{"binds", "1024"},
	)
}

// The lines' forms for a model, as they are told by the chapter; which sixes and fours there are is chapter 2's.
var forms = []struct {
	form *regexp.Regexp
	do   func(g *gate.Gate, w []string) (string, error)
}{
	{regexp.MustCompile(`\Asix (-|(?:[0-9a-f]{2})+)\z`), func(g *gate.Gate, w []string) (string, error) { return hexed(g.In6(unhexed(w[1]))) }},
	{regexp.MustCompile(`\Afour (-|(?:[0-9a-f]{2})+)\z`), func(g *gate.Gate, w []string) (string, error) { return hexed(g.In4(unhexed(w[1]))) }},
	{regexp.MustCompile(`(?s)\Asay ([^ ]+) (0|[1-9][0-9]{0,8}) ([^ ]+)\z`), modelSay},
	{regexp.MustCompile(`\Acall ([^ ]+) (0|[1-9][0-9]{0,8}) ([^ ]+) (0|[1-9][0-9]{0,8})\z`), modelCall},
	{regexp.MustCompile(`\Atick (0|[1-9][0-9]{0,8})\z`), func(g *gate.Gate, w []string) (string, error) { return "ok", g.Tick(numbered(w[1])) }},
	{regexp.MustCompile(`\Aup (0|[1-9][0-9]{0,8})\z`), func(g *gate.Gate, w []string) (string, error) { return "ok", g.Probe(numbered(w[1]), true) }},
	{regexp.MustCompile(`\Adown (0|[1-9][0-9]{0,8})\z`), func(g *gate.Gate, w []string) (string, error) { return "ok", g.Probe(numbered(w[1]), false) }},
	{regexp.MustCompile(`\Adrain (0|[1-9][0-9]{0,8})\z`), func(g *gate.Gate, w []string) (string, error) { return "ok", g.Drain(numbered(w[1]), true) }},
	{regexp.MustCompile(`\Abinds\z`), modelBinds},
	{regexp.MustCompile(`\Ain ([^ ]+)\z`), modelIn},
}

func hexed(b []byte, err error) (string, error) { return hex.EncodeToString(b), err }

func unhexed(word string) []byte {
	b, err := hex.DecodeString(strings.TrimPrefix(word, "-"))
	if err != nil {
		panic(err)
	}
	return b
}

func numbered(word string) int {
	n, err := strconv.Atoi(word)
	if err != nil {
		panic(err)
	}
	return n
}

func modelSay(g *gate.Gate, w []string) (string, error) {
	from, err := addr.Parse(w[1])
	if err != nil {
		return "bad", nil
	}
	return modelSend(g, from, g.VIP, api.Seg{Kind: 17, From: numbered(w[2]), To: 80, Data: []byte(w[3])})
}

func modelCall(g *gate.Gate, w []string) (string, error) {
	from, err := addr.Parse(w[1])
	if err != nil {
		return "bad", nil
	}
	four, err := addr.Parse4(w[3])
	if err != nil {
		return "bad", nil
	}
	to := api.Six{0x64, 0xff9b, 0, 0, 0, 0, four >> 16, four & 65535}
	return modelSend(g, from, to, api.Seg{Kind: 6, From: numbered(w[2]), To: numbered(w[4]), Flags: 2})
}

func modelSend(g *gate.Gate, src, dst api.Six, s api.Seg) (string, error) {
	if err := seg.Check(s); err != nil {
		return "", err
	}
	b, err := gate.Close6(src, dst, 64, s)
	if err != nil {
		panic(err)
	}
	return hexed(g.In6(b))
}

func modelBinds(g *gate.Gate, _ []string) (string, error) {
	var ports []int
	for _, b := range g.Binds() {
		ports = append(ports, b.Near)
	}
	if ports == nil {
		return "-", nil
	}
	return strings.Trim(fmt.Sprint(ports), "[]"), nil
}

func modelIn(_ *gate.Gate, w []string) (string, error) {
	a, err := addr.Parse(w[1])
	if err != nil {
		return "bad", nil
	}
	if w[1] == vip {
		return "vip", nil
	}
	four, err := embed.Out(a, 96)
	if err != nil || a[0] != 0x64 || a[1] != 0xff9b || a[2]|a[3]|a[4]|a[5] != 0 {
		return "-", nil
	}
	return fmt.Sprintf("%d.%d.%d.%d", four>>24, four>>16&255, four>>8&255, four&255), nil
}

// model answers a text that is not too long.
func model(t *testing.T, text string) string {
	t.Helper()
	g, err := gate.New(api.Config{
		VIP: api.Six{0x2001, 0xdb8, 0, 0, 0, 0, 0, 1}, Door: 80, Prefix: api.Six{0x64, 0xff9b}, Len: 96, Near: 0x0a000001, Seed: 7, Blocks: 4, Inject: true,
		Backs: []api.Back{{ID: 1, Addr: 0x0a000101, Door: 8080, Weight: 1, Up: true}, {ID: 2, Addr: 0x0a000102, Door: 8080, Weight: 1, Up: true}},
	})
	if err != nil {
		t.Fatal(err)
	}
	var out strings.Builder
	for text != "" {
		line, rest, _ := strings.Cut(text, "\n")
		out.WriteString(modelLine(g, line) + "\n")
		text = rest
	}
	return out.String()
}

func modelLine(g *gate.Gate, line string) string {
	for _, f := range forms {
		if w := f.form.FindStringSubmatch(line); w != nil {
			answer, err := f.do(g, w)
			if err != nil {
				return plain.Told(err).Error()
			}
			return answer
		}
	}
	return "bad"
}

func one(r *rand.Rand, list ...string) string { return list[r.Intn(len(list))] }

// someLine is often right, and at times not; before are the answers ahead of it.
func someLine(t *testing.T, r *rand.Rand, before []string) string {
	who := one(r, "::", "::1", "::2", "2001:db8::1", client, "64:ff9b::1", "fe80::1", "1:2:3:4:5:6:7:8", "::0")
	port := one(r, "0", "1", "116", "117", "373", "65535", "65536", strconv.Itoa(r.Intn(70000)), "01", "1234567890")
	four := one(r, "1.2.3.4", "0.0.0.0", "255.255.255.255", "10.0.0.1", "1.2.3.256")
	switch r.Intn(12) {
	case 0, 1, 2:
		return "say " + who + " " + port + " " + one(r, "x", "-", "hello", "\xff\x00", "", "a b", strings.Repeat("y", r.Intn(320)))
	case 3, 4:
		return "call " + who + " " + port + " " + four + " " + one(r, "80", "0", "65535", "65536", "x")
	case 5:
		return one(r, "tick", "up", "down", "drain") + " " + one(r, "0", "1", "2", "10", "30", "100", "1001", "-1")
	case 6:
		return one(r, "binds", "binds", "binds ", "", " ", "fly")
	case 7:
		return "in " + one(r, who, vip, "64:ff9b::1", "64:ff9b::a00:1", "x")
	case 8:
		s := api.Seg{Kind: api.TCP, From: 5 + r.Intn(2), To: 80 + r.Intn(8)/7, Seq: r.Intn(3), Flags: 2 + 14*r.Intn(2), Data: make([]byte, r.Intn(8)/7)}
		return "six " + packet6(t, one(r, vip, "64:ff9b::1"), 1+r.Intn(64), s)
	case 9:
		return one(r, "six", "four") + " " + one(r, "-", "", "00", "0", "0G", "60000000")
	}
	return "four " + back(t, r, before)
}

// back is a server's packet to where one came from ahead of it.
func back(t *testing.T, r *rand.Rand, before []string) string {
	for range 5 {
		if len(before) == 0 {
			break
		}
		b, err := hex.DecodeString(before[r.Intn(len(before))])
		if err != nil || len(b) < 28 || b[0] != 69 {
			continue
		}
		p, s := read4(t, hex.EncodeToString(b))
		p.Src, p.Dst, p.TTL = p.Dst, p.Src, 1+r.Intn(64)
		s.From, s.To = s.To, s.From
		if s.Kind == api.TCP {
			s.Flags, s.Ack = api.ACK, (s.Seq+1+52*r.Intn(2))%api.MaxSerial
		}
		over, err := seg.Over4(p.Src, p.Dst, p.Kind, len(p.Body))
		if err != nil {
			t.Fatal(err)
		}
		p.Body, err = seg.Encode(s, over)
		if err != nil {
			t.Fatal(err)
		}
		b, err = ip4.Encode(p)
		if err != nil {
			t.Fatal(err)
		}
		return hex.EncodeToString(b)
	}
	return "-"
}

// someText of some lines, with what a model answers.
func someText(t *testing.T, r *rand.Rand) (text, want string) {
	t.Helper()
	size := r.Intn(api.MaxRun)
	for {
		line := someLine(t, r, strings.Split(want, "\n")) + "\n"
		if len(text)+len(line) > size {
			return text, want
		}
		text += line
		want = model(t, text)
	}
}

func TestAgainstAModel(t *testing.T) {
	r := rand.New(rand.NewSource(14))
	told := map[string]int{}
	for range 150 {
		text, want := someText(t, r)
		expectRun(t, text, want)
		if t.Failed() {
			return
		}
		for _, answer := range strings.Split(want, "\n") {
			told[answer]++
		}
	}
	// Else the lines would be too poor to tell anything.
	for _, answer := range []string{"bad", "ok", "-", "vip", "ErrRange", "ErrShape", "ErrFull", "ErrNone", "ErrSyntax", "ErrDead", "ErrState"} {
		if told[answer] == 0 {
			t.Errorf("no line was answered %q", answer)
		}
	}
}

// TestTheFirstLines: Z2, also where the first lines are followed by others that change all.
func TestTheFirstLines(t *testing.T) {
	r := rand.New(rand.NewSource(142))
	for range 60 {
		text, _ := someText(t, r)
		all := Run(text)
		lines := strings.SplitAfter(text, "\n")
		first := ""
		for i, line := range lines {
			first += line
			some := Run(first)
			if !strings.HasPrefix(all, some) || strings.Count(some, "\n") != min(i+1, len(lines)-1) {
				t.Fatalf("Run(%q): got %q, which is no beginning of %q", first, some, all)
			}
		}
	}
}

// TestSessionsAreApart: a session leaves nothing for the next one.
func TestSessionsAreApart(t *testing.T) {
	for range 3 {
		expectRows(t, row{"binds", "-"}, row{"down 1", "ok"}, row{"drain 2", "ok"}, row{"say ::1 1 x", "ErrNone"}, row{"tick 1000", "ok"})
		expectServer(t, answers(t, "say "+client+" 116 x")[0], 1)
		expectServer(t, answers(t, "say "+client+" 117 x")[0], 2)
	}
}

func TestTheSameTextIsAnsweredTheSame(t *testing.T) {
	r := rand.New(rand.NewSource(7))
	for range 40 {
		text, _ := someText(t, r)
		if a, b := Run(text), Run(text); a != b {
			t.Fatalf("Run(%q): got %q, and then %q", text, a, b)
		}
	}
}

// TestOtherPanicsAreNotHidden: by its type what is thrown is told from a fault, which "bad" would hide.
func TestOtherPanicsAreNotHidden(t *testing.T) {
	defer func() {
		if recover() == nil {
			t.Error("a session without a gate was answered")
		}
	}()
	session{}.answer("binds")
}

func FuzzRun(f *testing.F) {
	for _, line := range right {
		f.Add(line + "\nbinds\n" + line)
	}
	f.Add("say ::1 5 x\n\ncall ::1 5 1.2.3.4 6\ntick 30\nbinds")
	f.Fuzz(func(t *testing.T, text string) {
		want := "too long\n"
		if len(text) <= api.MaxRun {
			want = model(t, text)
		}
		expectRun(t, text, want)
	})
}
