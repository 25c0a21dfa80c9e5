package shift

import (
	"bytes"
	"math"
	"math/rand"
	"testing"

	"gangplank/api"
	"gangplank/plain"
)

const (
	below = 1 << 32 // numbers of a stream are
	flags = 32      // so many there are, of all kinds
)

func create(t *testing.T, head string) *Stream {
	t.Helper()
	s, err := New([]byte(head))
	if s == nil || err != nil {
		t.Fatalf("New(%q): got %v, %v", head, s, err)
	}
	expectState(t, s, false, false)
	return s
}

// begun: a stream whose first byte of the client's has that number.
func begun(t *testing.T, head string, start int) *Stream {
	t.Helper()
	s := create(t, head)
	open(t, s, start)
	return s
}

func open(t *testing.T, s *Stream, start int) {
	t.Helper()
	seq := (start + below - 1) % below
	if _, err := s.Up(api.Seg{Kind: 6, Seq: seq, Flags: 2}); err != nil {
		t.Fatalf("Up of SYN %d: %v", seq, err)
	}
}

// hear: the server has had all of the head.
func hear(t *testing.T, s *Stream, start int) {
	t.Helper()
	expectDown(t, s, api.Seg{Kind: 6, Ack: start, Flags: 16}, api.Seg{Kind: 6, Ack: start, Flags: 16})
	expectState(t, s, true, true)
}

func same(a, b api.Seg) bool {
	return a.Kind == b.Kind && a.From == b.From && a.To == b.To && a.Seq == b.Seq && a.Ack == b.Ack &&
		a.Flags == b.Flags && a.Window == b.Window && bytes.Equal(a.Data, b.Data)
}

func expectUp(t *testing.T, s *Stream, given, want api.Seg) {
	t.Helper()
	got, err := s.Up(given)
	if !same(got, want) || err != nil {
		t.Fatalf("Up(%v): got %v, %v; want %v", given, got, err, want)
	}
}

func expectDown(t *testing.T, s *Stream, given, want api.Seg) {
	t.Helper()
	got, err := s.Down(given)
	if !same(got, want) || err != nil {
		t.Fatalf("Down(%v): got %v, %v; want %v", given, got, err, want)
	}
}

func refuseUp(t *testing.T, s *Stream, given api.Seg, wrong api.Errno) {
	t.Helper()
	was := [2]bool{s.Begun(), s.Heard()}
	got, err := s.Up(given)
	if !same(got, api.Seg{}) || plain.Told(err) != wrong {
		t.Fatalf("Up(%v): got %v, %v; want %v alone", given, got, err, wrong)
	}
	expectState(t, s, was[0], was[1])
}

func refuseDown(t *testing.T, s *Stream, given api.Seg, wrong api.Errno) {
	t.Helper()
	was := [2]bool{s.Begun(), s.Heard()}
	got, err := s.Down(given)
	if !same(got, api.Seg{}) || plain.Told(err) != wrong {
		t.Fatalf("Down(%v): got %v, %v; want %v alone", given, got, err, wrong)
	}
	expectState(t, s, was[0], was[1])
}

func expectState(t *testing.T, s *Stream, begun, heard bool) {
	t.Helper()
	if s.Begun() != begun || s.Heard() != heard {
		t.Fatalf("Begun, Heard: got %v, %v; want %v, %v", s.Begun(), s.Heard(), begun, heard)
	}
}

func ofLength(n int) string {
	b := make([]byte, n)
	for i := range b {
		b[i] = byte('A' + i%50)
	}
	return string(b)
}

func TestNewByLength(t *testing.T) {
	for n := range 101 {
		create(t, ofLength(n))
	}
	if s, err := New(nil); s == nil || err != nil {
		t.Fatalf("New(nil): got %v, %v", s, err)
	}
	for _, n := range []int{101, 102, 200, 256, 300, 301, 356, 65536, 1 << 20} {
		s, err := New(make([]byte, n))
		if s != nil || plain.Told(err) != api.ErrFull {
			t.Fatalf("New of %d bytes: got %v, %v; want ErrFull alone", n, s, err)
		}
	}
}

// TestAStream goes all the way, every number written out.
func TestAStream(t *testing.T) {
	s := create(t, "head")
	expectUp(t, s,
		api.Seg{Kind: 6, From: 40000, To: 80, Seq: 999, Ack: 0, Flags: 2, Window: 500},
		api.Seg{Kind: 6, From: 40000, To: 80, Seq: 995, Ack: 0, Flags: 2, Window: 500})
	expectState(t, s, true, false)
	expectDown(t, s,
		api.Seg{Kind: 6, From: 80, To: 40000, Seq: 77, Ack: 996, Flags: 18, Window: 600},
		api.Seg{Kind: 6, From: 80, To: 40000, Seq: 77, Ack: 1000, Flags: 18, Window: 600})
	expectState(t, s, true, false)
	expectUp(t, s,
		api.Seg{Kind: 6, From: 40000, To: 80, Seq: 1000, Ack: 78, Flags: 24, Window: 501, Data: []byte("body")},
		api.Seg{Kind: 6, From: 40000, To: 80, Seq: 996, Ack: 78, Flags: 24, Window: 501, Data: []byte("headbody")})
	expectUp(t, s,
		api.Seg{Kind: 6, From: 40000, To: 80, Seq: 1004, Ack: 78, Flags: 16, Window: 502, Data: []byte("more")},
		api.Seg{Kind: 6, From: 40000, To: 80, Seq: 1004, Ack: 78, Flags: 16, Window: 502, Data: []byte("more")})
	expectState(t, s, true, false)
	expectDown(t, s,
		api.Seg{Kind: 6, From: 80, To: 40000, Seq: 78, Ack: 1004, Flags: 16, Window: 601, Data: []byte("ha")},
		api.Seg{Kind: 6, From: 80, To: 40000, Seq: 78, Ack: 1004, Flags: 16, Window: 601, Data: []byte("ha")})
	expectState(t, s, true, true)
	expectUp(t, s,
		api.Seg{Kind: 6, From: 40000, To: 80, Seq: 1000, Ack: 80, Flags: 16, Window: 503, Data: []byte("body")},
		api.Seg{Kind: 6, From: 40000, To: 80, Seq: 1000, Ack: 80, Flags: 16, Window: 503, Data: []byte("body")})
	expectUp(t, s,
		api.Seg{Kind: 6, From: 40000, To: 80, Seq: 1008, Ack: 80, Flags: 17, Window: 504},
		api.Seg{Kind: 6, From: 40000, To: 80, Seq: 1008, Ack: 80, Flags: 17, Window: 504})
}

// TestSynAroundTheEnd: numbers of streams go from the last one to 0.
func TestSynAroundTheEnd(t *testing.T) {
	for _, r := range []struct{ n, seq, want int }{
		{0, 0, 0},
		{0, below - 1, below - 1},
		{1, 0, below - 1},
		{1, 1, 0},
		{1, below - 1, below - 2},
		{100, 0, below - 100},
		{100, 99, below - 1},
		{100, 100, 0},
		{100, 101, 1},
		{100, below - 1, below - 101},
		{52, 51, below - 1},
		{52, 1 << 31, 1<<31 - 52},
	} {
		s := create(t, ofLength(r.n))
		expectUp(t, s, api.Seg{Kind: 6, Seq: r.seq, Flags: 2}, api.Seg{Kind: 6, Seq: r.want, Flags: 2})
		expectState(t, s, true, false)
	}
}

func TestFirstAroundTheEnd(t *testing.T) {
	for _, r := range []struct{ syn, seq, want int }{
		{below - 1, 0, below - 3},
		{0, 1, below - 2},
		{1, 2, below - 1},
		{2, 3, 0},
		{3, 4, 1},
		{below - 2, below - 1, below - 4},
		{below - 3, below - 2, below - 5},
	} {
		s := create(t, "abc")
		if _, err := s.Up(api.Seg{Kind: 6, Seq: r.syn, Flags: 2}); err != nil {
			t.Fatal(err)
		}
		expectUp(t, s,
			api.Seg{Kind: 6, Seq: r.seq, Flags: 16, Data: []byte("d")},
			api.Seg{Kind: 6, Seq: r.want, Flags: 16, Data: []byte("abcd")})
		expectState(t, s, true, false)
	}
}

// TestUpOfAnyFlags: SYN alone tells what is done, whatever flags there are beside it.
func TestUpOfAnyFlags(t *testing.T) {
	for f := range flags {
		if f&2 != 0 {
			s := create(t, "abc")
			expectUp(t, s, api.Seg{Kind: 6, Seq: 9, Flags: f}, api.Seg{Kind: 6, Seq: 6, Flags: f})
			expectState(t, s, true, false)
			expectUp(t, s, api.Seg{Kind: 6, Seq: 10}, api.Seg{Kind: 6, Seq: 7, Data: []byte("abc")})
			refuseUp(t, s, api.Seg{Kind: 6, Seq: 9, Flags: f, Data: []byte("x")}, api.ErrShape)
			continue
		}
		refuseUp(t, create(t, "abc"), api.Seg{Kind: 6, Seq: 9, Flags: f}, api.ErrState)
		s := begun(t, "abc", 10)
		expectUp(t, s, api.Seg{Kind: 6, Seq: 10, Flags: f}, api.Seg{Kind: 6, Seq: 7, Flags: f, Data: []byte("abc")})
		expectUp(t, s, api.Seg{Kind: 6, Seq: 11, Flags: f}, api.Seg{Kind: 6, Seq: 11, Flags: f})
		expectState(t, s, true, false)
	}
}

func TestDownOfAnyFlags(t *testing.T) {
	for f := range flags {
		acks := f&16 != 0
		refuseDown(t, create(t, "abc"), api.Seg{Kind: 6, Ack: 7, Flags: f}, api.ErrState)
		s := begun(t, "abc", 10)
		early := api.Seg{Kind: 6, Ack: 7, Flags: f}
		if acks {
			early.Ack = 10
		}
		expectDown(t, s, api.Seg{Kind: 6, Ack: 7, Flags: f}, early)
		expectState(t, s, true, false)
		expectDown(t, s, api.Seg{Kind: 6, Ack: 10, Flags: f}, api.Seg{Kind: 6, Ack: 10, Flags: f})
		expectState(t, s, true, acks)
	}
}

// TestOtherNumbersStay: a segment that is not the first, nor SYN, goes on as it is.
func TestOtherNumbersStay(t *testing.T) {
	for _, start := range []int{0, 1, 3, 1000, 1 << 31, below - 1} {
		s := begun(t, "abc", start)
		for _, way := range []int{1, 2, 3, 4, 1<<31 - 1, 1 << 31, 1<<31 + 1, below - 4, below - 3, below - 2, below - 1} {
			seq := (start + way) % below
			one := api.Seg{Kind: 6, From: 1, To: 2, Seq: seq, Ack: 3, Flags: 16, Window: 4, Data: []byte("x")}
			expectUp(t, s, one, one)
			expectState(t, s, true, false)
		}
		expectUp(t, s, api.Seg{Kind: 6, Seq: start}, api.Seg{Kind: 6, Seq: (start + below - 3) % below, Data: []byte("abc")})
	}
}

// TestTheFirstComesAgain: until the server has heard, the head goes with it each time.
func TestTheFirstComesAgain(t *testing.T) {
	s := begun(t, "abc", 10)
	for _, data := range []string{"", "x", "xyz", "", "x"} {
		expectUp(t, s,
			api.Seg{Kind: 6, Seq: 10, Flags: 16, Data: []byte(data)},
			api.Seg{Kind: 6, Seq: 7, Flags: 16, Data: []byte("abc" + data)})
		expectDown(t, s, api.Seg{Kind: 6, Ack: 9, Flags: 16}, api.Seg{Kind: 6, Ack: 10, Flags: 16})
		expectState(t, s, true, false)
	}
	hear(t, s, 10)
	for _, data := range []string{"", "x", "xyz"} {
		one := api.Seg{Kind: 6, Seq: 10, Flags: 16, Data: []byte(data)}
		expectUp(t, s, one, one)
	}
}

func TestHowMuchGoesWithTheHead(t *testing.T) {
	for n := range 101 {
		head := ofLength(n)
		s := begun(t, head, 500)
		for size := range 301 {
			data := bytes.Repeat([]byte{7}, size)
			if n+size > 300 {
				refuseUp(t, s, api.Seg{Kind: 6, Seq: 500, Data: data}, api.ErrFull)
			} else {
				expectUp(t, s,
					api.Seg{Kind: 6, Seq: 500, Data: data},
					api.Seg{Kind: 6, Seq: 500 - n, Data: append([]byte(head), data...)})
			}
			expectUp(t, s, api.Seg{Kind: 6, Seq: 501, Data: data}, api.Seg{Kind: 6, Seq: 501, Data: data})
			expectDown(t, s, api.Seg{Kind: 6, Seq: 500, Data: data}, api.Seg{Kind: 6, Seq: 500, Data: data})
		}
		hear(t, s, 500)
		full := api.Seg{Kind: 6, Seq: 500, Data: make([]byte, 300)}
		expectUp(t, s, full, full)
	}
}

func TestAckAheadOfStart(t *testing.T) {
	for _, start := range []int{0, 1, 2, 99, 1<<31 - 1, 1 << 31, 1<<31 + 1, below - 2, below - 1} {
		for _, way := range []int{1, 2, 3, 99, 100, 101, 65536, 1 << 30, 1<<31 - 2, 1<<31 - 1} {
			s := begun(t, "abc", start)
			ack := (start + below - way) % below
			expectDown(t, s, api.Seg{Kind: 6, Ack: ack, Flags: 16}, api.Seg{Kind: 6, Ack: start, Flags: 16})
			expectState(t, s, true, false)
			expectDown(t, s, api.Seg{Kind: 6, Ack: ack}, api.Seg{Kind: 6, Ack: ack})
			expectState(t, s, true, false)
			hear(t, s, start)
			// What was heard stays so.
			expectDown(t, s, api.Seg{Kind: 6, Ack: ack, Flags: 16}, api.Seg{Kind: 6, Ack: start, Flags: 16})
			expectState(t, s, true, true)
		}
		for _, way := range []int{0, 1, 2, 3, 100, 65536, 1 << 30, 1<<31 - 1, 1 << 31} {
			s := begun(t, "abc", start)
			ack := (start + way) % below
			expectDown(t, s, api.Seg{Kind: 6, Ack: ack}, api.Seg{Kind: 6, Ack: ack})
			expectState(t, s, true, false)
			expectDown(t, s, api.Seg{Kind: 6, Ack: ack, Flags: 16}, api.Seg{Kind: 6, Ack: ack, Flags: 16})
			expectState(t, s, true, true)
		}
	}
}

func TestBeginAgainWhereItDid(t *testing.T) {
	s := begun(t, "abc", 10)
	expectUp(t, s, api.Seg{Kind: 6, Seq: 9, Flags: 2}, api.Seg{Kind: 6, Seq: 6, Flags: 2})
	expectState(t, s, true, false)
	hear(t, s, 10)
	expectUp(t, s, api.Seg{Kind: 6, Seq: 9, Flags: 2}, api.Seg{Kind: 6, Seq: 6, Flags: 2})
	expectState(t, s, true, true)
	expectUp(t, s, api.Seg{Kind: 6, Seq: 10}, api.Seg{Kind: 6, Seq: 10})
}

func TestBeginElsewhere(t *testing.T) {
	for _, next := range []int{0, 7, 9, 11, 1 << 31, below - 1} {
		s := begun(t, "abc", 10)
		hear(t, s, 10)
		open(t, s, next)
		expectState(t, s, true, false)
		expectUp(t, s, api.Seg{Kind: 6, Seq: next}, api.Seg{Kind: 6, Seq: (next + below - 3) % below, Data: []byte("abc")})
		expectUp(t, s, api.Seg{Kind: 6, Seq: 10, Data: []byte("x")}, api.Seg{Kind: 6, Seq: 10, Data: []byte("x")})
		ack := (next + below - 3) % below
		expectDown(t, s, api.Seg{Kind: 6, Ack: ack, Flags: 16}, api.Seg{Kind: 6, Ack: next, Flags: 16})
		expectState(t, s, true, false)
		hear(t, s, next)
		// Back at the first one: that, too, is another.
		open(t, s, 10)
		expectState(t, s, true, false)
	}
}

// TestARefusedSynBeginsNothing: neither a stream, nor another one.
func TestARefusedSynBeginsNothing(t *testing.T) {
	for _, wrong := range []api.Seg{
		{Kind: 6, Seq: 99, Flags: 2, Data: []byte("x")},
		{Kind: 6, Seq: 99, Flags: 2, Data: make([]byte, 301)},
		{Kind: 6, Seq: 99, Flags: 34},
		{Kind: 6, Seq: 99, Flags: 2, Window: -1},
		{Kind: 17},
	} {
		s := create(t, "abc")
		if _, err := s.Up(wrong); err == nil {
			t.Fatalf("Up(%v): no error", wrong)
		}
		expectState(t, s, false, false)
		refuseUp(t, s, api.Seg{Kind: 6, Seq: 100}, api.ErrState)
		open(t, s, 10)
		hear(t, s, 10)
		if _, err := s.Up(wrong); err == nil {
			t.Fatalf("Up(%v): no error", wrong)
		}
		expectState(t, s, true, true)
		expectDown(t, s, api.Seg{Kind: 6, Ack: 9, Flags: 16}, api.Seg{Kind: 6, Ack: 10, Flags: 16})
	}
}

// TestARefusedAckIsNotHeard: nor is one of a segment that is none.
func TestARefusedAckIsNotHeard(t *testing.T) {
	for _, wrong := range []api.Seg{
		{Kind: 6, Ack: 10, Flags: 16, Data: make([]byte, 301)},
		{Kind: 6, Ack: 10, Flags: 48},
		{Kind: 6, Ack: below + 10, Flags: 16},
		{Kind: 6, From: 65536, Ack: 10, Flags: 16},
		{Kind: 17, Ack: 10, Flags: 16},
	} {
		s := begun(t, "abc", 10)
		if _, err := s.Down(wrong); err == nil {
			t.Fatalf("Down(%v): no error", wrong)
		}
		expectState(t, s, true, false)
	}
}

// refuseBoth: in every state, and either way.
func refuseBoth(t *testing.T, wrong api.Seg, with api.Errno) {
	t.Helper()
	s := create(t, "abc")
	refuseUp(t, s, wrong, with)
	refuseDown(t, s, wrong, with)
	open(t, s, 10)
	refuseUp(t, s, wrong, with)
	refuseDown(t, s, wrong, with)
	hear(t, s, 10)
	refuseUp(t, s, wrong, with)
	refuseDown(t, s, wrong, with)
}

func TestNoSegment(t *testing.T) {
	refuseBoth(t, api.Seg{}, api.ErrRange)
	for _, kind := range []int{-1, 1, 5, 7, 16, 18, 256 + 6, 1<<32 + 6, math.MinInt, math.MaxInt} {
		refuseBoth(t, api.Seg{Kind: kind, Seq: 9, Flags: 2}, api.ErrRange)
	}
	for _, p := range []struct {
		number func(*api.Seg) *int
		top    int
	}{
		{func(s *api.Seg) *int { return &s.From }, 65535},
		{func(s *api.Seg) *int { return &s.To }, 65535},
		{func(s *api.Seg) *int { return &s.Seq }, below - 1},
		{func(s *api.Seg) *int { return &s.Ack }, below - 1},
		{func(s *api.Seg) *int { return &s.Flags }, 31},
		{func(s *api.Seg) *int { return &s.Window }, 65535},
	} {
		for _, f := range []int{0, 2, 16, 18} {
			for _, x := range []int{-1, p.top + 1, below + 2, below + 10, below + 18, math.MinInt, math.MaxInt} {
				s := api.Seg{Kind: 6, Seq: 9, Ack: 9, Flags: f}
				*p.number(&s) = x
				refuseBoth(t, s, api.ErrRange)
				s.Data = []byte("x")
				refuseBoth(t, s, api.ErrRange)
			}
		}
	}
}

// TestWhichErrorComesFirst: a segment that is none, then one that is not TCP or has too much, then the state.
func TestWhichErrorComesFirst(t *testing.T) {
	for _, n := range []int{301, 302, 1000, 65536} {
		for f := range flags {
			refuseBoth(t, api.Seg{Kind: 6, Flags: f, Data: make([]byte, n)}, api.ErrFull)
		}
		refuseBoth(t, api.Seg{Kind: 17, Data: make([]byte, n)}, api.ErrFull)
	}
	for n := range 301 {
		refuseBoth(t, api.Seg{Kind: 17, From: 1, To: 2, Data: make([]byte, n)}, api.ErrShape)
	}
	refuseBoth(t, api.Seg{Kind: 17, Flags: 2, Data: make([]byte, 301)}, api.ErrShape)
	refuseBoth(t, api.Seg{Kind: 17, From: 65536, Flags: 2}, api.ErrRange)
	for _, n := range []int{1, 2, 197, 198, 300} {
		refuseUp(t, create(t, "abc"), api.Seg{Kind: 6, Seq: 9, Flags: 2, Data: make([]byte, n)}, api.ErrShape)
		refuseUp(t, create(t, "abc"), api.Seg{Kind: 6, Seq: 9, Data: make([]byte, n)}, api.ErrState)
		refuseDown(t, create(t, "abc"), api.Seg{Kind: 6, Ack: 9, Flags: 16, Data: make([]byte, n)}, api.ErrState)
	}
}

// TestDownMayHaveSynAndData: only what goes up begins a stream.
func TestDownMayHaveSynAndData(t *testing.T) {
	refuseDown(t, create(t, "abc"), api.Seg{Kind: 6, Seq: 9, Flags: 18, Data: []byte("x")}, api.ErrState)
	s := begun(t, "abc", 10)
	expectDown(t, s,
		api.Seg{Kind: 6, Seq: 50, Ack: 7, Flags: 18, Data: []byte("x")},
		api.Seg{Kind: 6, Seq: 50, Ack: 10, Flags: 18, Data: []byte("x")})
	expectUp(t, s, api.Seg{Kind: 6, Seq: 10}, api.Seg{Kind: 6, Seq: 7, Data: []byte("abc")})
	expectUp(t, s, api.Seg{Kind: 6, Seq: 51}, api.Seg{Kind: 6, Seq: 51})
}

func TestNoHead(t *testing.T) {
	s := create(t, "")
	expectUp(t, s, api.Seg{Kind: 6, Seq: 9, Flags: 2}, api.Seg{Kind: 6, Seq: 9, Flags: 2})
	full := api.Seg{Kind: 6, Seq: 10, Data: make([]byte, 300)}
	expectUp(t, s, full, full)
	expectDown(t, s, api.Seg{Kind: 6, Ack: 9, Flags: 16}, api.Seg{Kind: 6, Ack: 10, Flags: 16})
	expectState(t, s, true, false)
	hear(t, s, 10)
}

func TestStreamsShareNothing(t *testing.T) {
	head := []byte("abcXYZ")
	one, err := New(head[:3])
	if err != nil {
		t.Fatal(err)
	}
	two := create(t, "q")
	copy(head, "------")
	open(t, one, 10)
	expectState(t, two, false, false)
	expectUp(t, one, api.Seg{Kind: 6, Seq: 10, Data: []byte("d")}, api.Seg{Kind: 6, Seq: 7, Data: []byte("abcd")})
	if string(head) != "------" {
		t.Fatalf("what stands behind a head was written: %q", head)
	}
	open(t, two, 20)
	hear(t, two, 20)
	expectState(t, one, true, false)
}

// wipe all that an answer may have of somebody else's.
func wipe(s api.Seg) {
	clear(s.Data[:cap(s.Data)])
}

func TestAnswersAreFresh(t *testing.T) {
	for _, size := range []int{0, 1, 3} {
		memory := []byte("uvwxyz")
		data := memory[:size]
		s := begun(t, "abc", 10)
		syn, err := s.Up(api.Seg{Kind: 6, Seq: 9, Flags: 2, Data: memory[:0]})
		if err != nil {
			t.Fatal(err)
		}
		wipe(syn)
		for _, seq := range []int{10, 10, 11} {
			up, err := s.Up(api.Seg{Kind: 6, Seq: seq, Data: data})
			if err != nil {
				t.Fatal(err)
			}
			wipe(up)
		}
		for _, f := range []int{0, 16} {
			for _, ack := range []int{9, 10} {
				down, err := s.Down(api.Seg{Kind: 6, Ack: ack, Flags: f, Data: data})
				if err != nil {
					t.Fatal(err)
				}
				wipe(down)
			}
		}
		if string(memory) != "uvwxyz" {
			t.Fatalf("an answer shares memory with what was handed in: %q", memory)
		}
		open(t, s, 30)
		expectUp(t, s, api.Seg{Kind: 6, Seq: 30, Data: data}, api.Seg{Kind: 6, Seq: 27, Data: append([]byte("abc"), data...)})
	}
}

// server puts together what it sees, in order, and tells how far it has come.
type server struct {
	open bool
	next int
	seen []byte
}

func (e *server) take(s api.Seg) {
	if s.Flags&api.SYN != 0 {
		e.open, e.next = true, (s.Seq+1)%below
		return
	}
	// How many bytes of it were there already; of one that leaves a gap nothing is taken.
	old := (e.next - s.Seq + below) % below
	if e.open && old <= len(s.Data) {
		e.seen = append(e.seen, s.Data[old:]...)
		e.next = (e.next + len(s.Data) - old) % below
	}
}

// talk sends a text, in pieces that are lost at times; what the client is told must be of its own bytes.
func talk(t *testing.T, r *rand.Rand, head, text string, start int) {
	t.Helper()
	s := create(t, head)
	var e server
	syn, err := s.Up(api.Seg{Kind: 6, Seq: (start + below - 1) % below, Flags: 2})
	if err != nil {
		t.Fatal(err)
	}
	e.take(syn)
	told, sent, steps := 0, 0, 0
	for told < len(text) || !s.Heard() {
		if steps++; steps > 100000 {
			t.Fatalf("start %d: the talk does not end: the client was told of %d, and sent %d", start, told, sent)
		}
		size := min(len(text)-told, r.Intn(300-len(head)+1))
		sent = max(sent, told+size)
		up, err := s.Up(api.Seg{Kind: 6, Seq: (start + told) % below, Flags: 16, Data: []byte(text[told : told+size])})
		if err != nil {
			t.Fatal(err)
		}
		if r.Intn(3) == 0 {
			continue
		}
		// A server may take a part alone.
		up.Data = up.Data[:r.Intn(len(up.Data)+1)]
		e.take(up)
		if r.Intn(3) == 0 {
			continue
		}
		down, err := s.Down(api.Seg{Kind: 6, Ack: e.next, Flags: 16})
		if err != nil {
			t.Fatal(err)
		}
		now := (down.Ack - start + below) % below
		if now < told || now > sent {
			t.Fatalf("start %d: the client was told of %d, and sent %d", start, now, sent)
		}
		told = now
	}
	if string(e.seen) != head+text {
		t.Fatalf("head %q, start %d: the server saw %q, of %q", head, start, e.seen, text)
	}
}

func TestTheServerSeesTheHeadAndThenAll(t *testing.T) {
	r := rand.New(rand.NewSource(12))
	for range 2000 {
		start := []int{0, 1, 50, 1 << 31, below - 1, below - 50, below - 200, r.Intn(below)}[r.Intn(8)]
		talk(t, r, ofLength(r.Intn(101)), ofLength(r.Intn(1000)), start)
	}
}

// FuzzStream: whatever comes, nothing but Seq, Ack and a head ahead of Data is another.
func FuzzStream(f *testing.F) {
	f.Add([]byte("abc"), []byte{0, 9, 2, 1, 7, 16, 0, 10, 16, 1, 12, 16, 0, 10, 0})
	f.Add([]byte{}, []byte{0, 255, 2, 0, 0, 0, 1, 0, 16, 1, 255, 16})
	f.Fuzz(func(t *testing.T, head, steps []byte) {
		s, err := New(head)
		if err != nil {
			if len(head) <= 100 {
				t.Fatalf("New of %d bytes: %v", len(head), err)
			}
			return
		}
		for ; len(steps) >= 3; steps = steps[3:] {
			number := int(steps[1])
			if steps[0]&2 != 0 {
				number += below - 128
			}
			given := api.Seg{Kind: 6, From: 1, To: 2, Seq: number % below, Ack: number % below, Flags: int(steps[2]) & 31, Window: 3}
			given.Data = bytes.Repeat([]byte{5}, int(steps[0]>>2)*5)
			was := s.Heard()
			call := s.Up
			if steps[0]&1 != 0 {
				call = s.Down
			}
			got, err := call(given)
			if err != nil {
				if !same(got, api.Seg{}) || s.Heard() != was {
					t.Fatalf("%v: got %v, %v", given, got, err)
				}
				continue
			}
			want := given
			want.Ack = got.Ack
			if steps[0]&1 == 0 && got.Seq != given.Seq {
				want.Seq = (given.Seq + below - len(head)) % below
				if given.Flags&2 == 0 {
					want.Data = append(bytes.Clone(head), given.Data...)
				}
			}
			if !same(got, want) || steps[0]&1 == 0 && got.Ack != given.Ack || len(got.Data) > 300 {
				t.Fatalf("%v: got %v, want %v", given, got, want)
			}
		}
	})
}
