package port

import (
	"fmt"
	"math"
	"slices"
	"testing"

	"gangplank/api"
	"gangplank/plain"
)

var (
	ann  = api.Six{0x2001, 0xdb8, 7: 1}
	ben  = api.Six{0x2001, 0xdb8, 7: 2}
	cleo = api.Six{65535, 65535, 65535, 65535, 65535, 65535, 65535, 65535}
	zero = api.Six{}
)

// noSixes have one wrong number, each in another place.
func noSixes() []api.Six {
	var list []api.Six
	for i := range 8 {
		for _, x := range []int{-1, 65536, -65535, 1 << 32, math.MinInt, math.MaxInt} {
			a := ann
			a[i] = x
			list = append(list, a)
		}
	}
	return list
}

// beside gives numbers that are no ports of so many blocks.
func beside(blocks int) []int {
	end := 1024 + 8*blocks
	return []int{
		0, 1, -1, 1023, end, end + 1, end + 8, -1024, 65535, 65536, 1 << 32, 1<<32 + 1024,
		math.MinInt, math.MinInt + 1, math.MinInt + 1023, math.MinInt + 1024, math.MinInt + 1025, math.MaxInt,
	}
}

func made(t *testing.T, blocks int) *Ports {
	t.Helper()
	p, err := New(blocks)
	if err != nil || p == nil {
		t.Fatalf("New(%d): got %v, %v", blocks, p, err)
	}
	return p
}

func expectTake(t *testing.T, p *Ports, who api.Six, want int) {
	t.Helper()
	if got, err := p.Take(who); err != nil || got != want {
		t.Fatalf("Take(%v): got %d, %v, want %d", who, got, err, want)
	}
}

func expectTakes(t *testing.T, p *Ports, who api.Six, from, to int) {
	t.Helper()
	for port := from; port <= to; port++ {
		expectTake(t, p, who, port)
	}
}

func refuseTake(t *testing.T, p *Ports, who api.Six, want api.Errno) {
	t.Helper()
	if got, err := p.Take(who); got != 0 || plain.Told(err) != want {
		t.Fatalf("Take(%v): got %d, %v, want 0, %v", who, got, err, want)
	}
}

func expectGive(t *testing.T, p *Ports, ports ...int) {
	t.Helper()
	for _, port := range ports {
		if err := p.Give(port); err != nil {
			t.Fatalf("Give(%d): got %v", port, err)
		}
	}
}

func expectNone(t *testing.T, p *Ports, ports ...int) {
	t.Helper()
	for _, port := range ports {
		if got, err := p.Owner(port); got != zero || plain.Told(err) != api.ErrNone {
			t.Fatalf("Owner(%d): got %v, %v, want ErrNone", port, got, err)
		}
		if err := p.Give(port); plain.Told(err) != api.ErrNone {
			t.Fatalf("Give(%d): got %v, want ErrNone", port, err)
		}
	}
}

func expectOwner(t *testing.T, p *Ports, port int, want api.Six) {
	t.Helper()
	if got, err := p.Owner(port); err != nil || got != want {
		t.Fatalf("Owner(%d): got %v, %v, want %v", port, got, err, want)
	}
}

func expectBlocks(t *testing.T, p *Ports, who api.Six, want ...int) {
	t.Helper()
	if got, err := p.Blocks(who); err != nil || !slices.Equal(got, want) {
		t.Fatalf("Blocks(%v): got %v, %v, want %v", who, got, err, want)
	}
}

func expectFree(t *testing.T, p *Ports, want int) {
	t.Helper()
	if got := p.Free(); got != want {
		t.Fatalf("Free: got %d, want %d", got, want)
	}
}

func TestNewOfEveryNumberOfBlocks(t *testing.T) {
	for blocks := 1; blocks <= 16; blocks++ {
		p := made(t, blocks)
		expectFree(t, p, 8*blocks)
		expectBlocks(t, p, zero)
		expectBlocks(t, p, ann)
		for port := 1024; port < 1024+8*blocks; port++ {
			expectNone(t, p, port)
		}
		expectTakes(t, p, ann, 1024, 1024+8*blocks-1)
		expectFree(t, p, 0)
		refuseTake(t, p, ann, api.ErrFull)
		refuseTake(t, p, ben, api.ErrFull)
	}
}

func TestNewRefuses(t *testing.T) {
	for _, blocks := range []int{0, -1, 17, 18, -16, 1 << 32, 1<<32 + 1, math.MinInt, math.MinInt + 1, math.MaxInt} {
		if p, err := New(blocks); p != nil || plain.Told(err) != api.ErrRange {
			t.Errorf("New(%d): got %v, %v, want nil, ErrRange", blocks, p, err)
		}
	}
}

func TestTakeGoesThroughABlockAndOn(t *testing.T) {
	p := made(t, 3)
	expectTakes(t, p, ann, 1024, 1031)
	expectBlocks(t, p, ann, 0)
	expectTake(t, p, ben, 1032)
	expectTake(t, p, ann, 1040)
	expectBlocks(t, p, ann, 0, 2)
	expectBlocks(t, p, ben, 1)
	expectTake(t, p, ben, 1033)
	expectTakes(t, p, ann, 1041, 1047)
	refuseTake(t, p, ann, api.ErrFull)
	expectTakes(t, p, ben, 1034, 1039)
	refuseTake(t, p, ben, api.ErrFull)
	expectFree(t, p, 0)
}

// TestTakeIsTheLeast: of the ports of all of one's blocks, whichever was given back first.
func TestTakeIsTheLeast(t *testing.T) {
	p := made(t, 3)
	expectTakes(t, p, ann, 1024, 1042)
	expectGive(t, p, 1041, 1029, 1033, 1025, 1039)
	expectFree(t, p, 10)
	for _, want := range []int{1025, 1029, 1033, 1039, 1041, 1043} {
		expectTake(t, p, ann, want)
	}
}

// TestOnesOwnComesAheadOfNobodys: even where nobody's is the lesser block.
func TestOnesOwnComesAheadOfNobodys(t *testing.T) {
	p := made(t, 3)
	expectTake(t, p, ann, 1024)
	expectTake(t, p, ben, 1032)
	expectGive(t, p, 1024)
	expectTakes(t, p, ben, 1033, 1039)
	expectTake(t, p, ben, 1024)
	expectBlocks(t, p, ben, 0, 1)
	expectGive(t, p, 1034)
	// Now the lesser of two of one's own comes first.
	expectTakes(t, p, ben, 1025, 1031)
	expectTake(t, p, ben, 1034)
	expectTake(t, p, ben, 1040)
}

// TestNobodyTakesFromAnothersBlock: a block that is not full is full for all others.
func TestNobodyTakesFromAnothersBlock(t *testing.T) {
	p := made(t, 2)
	expectTake(t, p, ann, 1024)
	expectTake(t, p, ben, 1032)
	refuseTake(t, p, cleo, api.ErrFull)
	refuseTake(t, p, zero, api.ErrFull)
	expectFree(t, p, 14)
	expectBlocks(t, p, cleo)
	expectTakes(t, p, ann, 1025, 1031)
	refuseTake(t, p, ann, api.ErrFull)
	expectTake(t, p, ben, 1033)
	expectFree(t, p, 6)
}

func TestABlockIsNobodysWhenTheLastIsGiven(t *testing.T) {
	for last := 1024; last <= 1031; last++ {
		p := made(t, 1)
		expectTakes(t, p, ann, 1024, 1031)
		for port := 1024; port <= 1031; port++ {
			if port != last {
				expectGive(t, p, port)
				expectNone(t, p, port)
				refuseTake(t, p, ben, api.ErrFull)
			}
		}
		expectBlocks(t, p, ann, 0)
		expectOwner(t, p, last, ann)
		expectFree(t, p, 7)
		expectGive(t, p, last)
		expectBlocks(t, p, ann)
		expectNone(t, p, last)
		expectFree(t, p, 8)
		expectTake(t, p, ben, 1024)
		expectBlocks(t, p, ben, 0)
		expectBlocks(t, p, ann)
		refuseTake(t, p, ann, api.ErrFull)
	}
}

// TestTheLeastOfNobodysBlocks: in order of their numbers, not of when they were given back.
func TestTheLeastOfNobodysBlocks(t *testing.T) {
	p := made(t, 4)
	expectTakes(t, p, ann, 1024, 1055)
	for port := 1048; port <= 1055; port++ {
		expectGive(t, p, port)
	}
	for port := 1032; port <= 1039; port++ {
		expectGive(t, p, port)
	}
	expectBlocks(t, p, ann, 0, 2)
	expectTake(t, p, ben, 1032)
	expectTake(t, p, cleo, 1048)
	expectBlocks(t, p, ben, 1)
	expectBlocks(t, p, cleo, 3)
}

// TestTheSixOfZeros: it is somebody, and nobody's blocks are not its.
func TestTheSixOfZeros(t *testing.T) {
	p := made(t, 2)
	expectTake(t, p, ann, 1024)
	expectBlocks(t, p, zero)
	expectTake(t, p, zero, 1032)
	expectBlocks(t, p, zero, 1)
	expectOwner(t, p, 1032, zero)
	refuseTake(t, p, ben, api.ErrFull)
	expectTake(t, p, zero, 1033)
	expectGive(t, p, 1032, 1033)
	expectBlocks(t, p, zero)
	expectTake(t, p, ben, 1032)
}

// TestSixesThatAreAlike: of two that differ in one number neither has the other's.
func TestSixesThatAreAlike(t *testing.T) {
	for i := range 8 {
		p := made(t, 2)
		other := ann
		other[i] ^= 1
		expectTake(t, p, ann, 1024)
		expectTake(t, p, other, 1032)
		expectOwner(t, p, 1024, ann)
		expectOwner(t, p, 1032, other)
		expectBlocks(t, p, ann, 0)
		expectBlocks(t, p, other, 1)
	}
}

func TestOwnerOfWhatIsTakenAlone(t *testing.T) {
	p := made(t, 16)
	expectTakes(t, p, ann, 1024, 1026)
	expectTakes(t, p, cleo, 1032, 1033)
	for port := 1024; port < 1152; port++ {
		switch {
		case port <= 1026:
			expectOwner(t, p, port, ann)
		case port == 1032 || port == 1033:
			expectOwner(t, p, port, cleo)
		default:
			expectNone(t, p, port)
		}
	}
	expectFree(t, p, 123)
}

func TestGiveTwice(t *testing.T) {
	p := made(t, 1)
	expectTakes(t, p, ann, 1024, 1025)
	expectGive(t, p, 1025)
	expectNone(t, p, 1025)
	expectFree(t, p, 7)
	expectOwner(t, p, 1024, ann)
	expectTake(t, p, ann, 1025)
	expectGive(t, p, 1025)
	expectGive(t, p, 1024)
	expectNone(t, p, 1024, 1025)
	expectFree(t, p, 8)
}

func TestNoPorts(t *testing.T) {
	for _, blocks := range []int{1, 2, 15, 16} {
		p := made(t, blocks)
		expectNone(t, p, beside(blocks)...)
		expectTakes(t, p, ann, 1024, 1024+8*blocks-1)
		expectNone(t, p, beside(blocks)...)
		expectFree(t, p, 0)
	}
}

// TestNoSixes: they are turned away ahead of ErrFull, and take nothing.
func TestNoSixes(t *testing.T) {
	p := made(t, 1)
	for range 2 {
		free := p.Free()
		for _, who := range noSixes() {
			refuseTake(t, p, who, api.ErrRange)
			if got, err := p.Blocks(who); len(got) != 0 || plain.Told(err) != api.ErrRange {
				t.Fatalf("Blocks(%v): got %v, %v, want ErrRange", who, got, err)
			}
		}
		expectFree(t, p, free)
		if free > 0 {
			expectTakes(t, p, ann, 1024, 1031)
		}
	}
}

func TestBlocksAreFresh(t *testing.T) {
	p := made(t, 3)
	expectTakes(t, p, ann, 1024, 1047)
	first, _ := p.Blocks(ann)
	second, _ := p.Blocks(ann)
	for i := range first {
		first[i] = 99
	}
	_ = append(first[:0], 98, 98, 98)
	if !slices.Equal(second, []int{0, 1, 2}) {
		t.Errorf("the second list is %v", second)
	}
	expectBlocks(t, p, ann, 0, 1, 2)
}

// TestOneIsNotTheOther: two of New share nothing.
func TestOneIsNotTheOther(t *testing.T) {
	p, q := made(t, 1), made(t, 1)
	expectTakes(t, p, ann, 1024, 1031)
	expectFree(t, q, 8)
	expectTake(t, q, ben, 1024)
	expectOwner(t, p, 1024, ann)
	expectOwner(t, q, 1024, ben)
	expectGive(t, q, 1024)
	expectOwner(t, p, 1024, ann)
}

// TestAskingChangesNothing: what fails, and what only asks, leaves all as it was.
func TestAskingChangesNothing(t *testing.T) {
	p := made(t, 2)
	expectTakes(t, p, ann, 1024, 1026)
	expectTake(t, p, ben, 1032)
	before := told(p)
	refuseTake(t, p, cleo, api.ErrFull)
	refuseTake(t, p, api.Six{-1}, api.ErrRange)
	expectNone(t, p, 1027, 1033, 1023, 1040)
	expectOwner(t, p, 1024, ann)
	expectBlocks(t, p, ann, 0)
	expectBlocks(t, p, cleo)
	if after := told(p); after != before {
		t.Errorf("it was %s and is %s", before, after)
	}
}

// told is all that can be asked of ports, as a text.
func told(p *Ports) string {
	text := fmt.Sprint(p.Free())
	for port := 1020; port < 1160; port++ {
		who, err := p.Owner(port)
		text += fmt.Sprint(" ", who, plain.Told(err))
	}
	for _, who := range []api.Six{zero, ann, ben, cleo} {
		list, err := p.Blocks(who)
		text += fmt.Sprint(" ", list, plain.Told(err))
	}
	return text
}

// model has ports one by one, and works out of them whose a block is.
type model struct {
	blocks int
	owner  map[int]api.Six
}

func (m model) of(k int) (api.Six, bool) {
	for port := 1024 + 8*k; port < 1032+8*k; port++ {
		if who, ok := m.owner[port]; ok {
			return who, true
		}
	}
	return api.Six{}, false
}

func (m model) take(who api.Six) int {
	for port := 1024; port < 1024+8*m.blocks; port++ {
		_, taken := m.owner[port]
		if w, some := m.of((port - 1024) / 8); !taken && some && w == who {
			m.owner[port] = who
			return port
		}
	}
	for k := range m.blocks {
		if _, some := m.of(k); !some {
			m.owner[1024+8*k] = who
			return 1024 + 8*k
		}
	}
	return 0
}

func (m model) list(who api.Six) []int {
	var list []int
	for k := range m.blocks {
		if w, some := m.of(k); some && w == who {
			list = append(list, k)
		}
	}
	return list
}

// hold: the ports are as the model's.
func (m model) hold(t *testing.T, p *Ports, all []api.Six) {
	t.Helper()
	expectFree(t, p, 8*m.blocks-len(m.owner))
	for _, who := range all {
		expectBlocks(t, p, who, m.list(who)...)
	}
	for port := 1016; port < 1160; port++ {
		who, err := p.Owner(port)
		want, taken := m.owner[port]
		if who != want || taken != (err == nil) || !taken && plain.Told(err) != api.ErrNone {
			t.Fatalf("Owner(%d): got %v, %v, want %v, %v", port, who, err, want, taken)
		}
	}
}

// step: one byte is one call, on the ports and on the model.
func (m model) step(t *testing.T, p *Ports, all []api.Six, b byte) {
	t.Helper()
	if b < 128 {
		who := all[int(b)%len(all)]
		if want := m.take(who); want != 0 {
			expectTake(t, p, who, want)
		} else {
			refuseTake(t, p, who, api.ErrFull)
		}
		return
	}
	port := 1020 + int(b-128)
	if _, taken := m.owner[port]; taken {
		expectGive(t, p, port)
		delete(m.owner, port)
	} else if err := p.Give(port); plain.Told(err) != api.ErrNone {
		t.Fatalf("Give(%d): got %v, want ErrNone", port, err)
	}
}

func walk(t *testing.T, blocks int, calls []byte) {
	t.Helper()
	p := made(t, blocks)
	m := model{blocks, map[int]api.Six{}}
	all := []api.Six{zero, ann, ben, cleo, {7: 1}}
	for _, b := range calls {
		m.step(t, p, all, b)
		m.hold(t, p, all)
	}
}

func TestLongWalks(t *testing.T) {
	for blocks := 1; blocks <= 16; blocks++ {
		x := uint32(blocks)
		calls := make([]byte, 400)
		for i := range calls {
			x = x*1664525 + 1013904223
			calls[i] = byte(x >> 24)
			// At first more is taken than given, so that all is full once.
			if i < 200 && x>>20&3 != 0 {
				calls[i] &= 127
			}
		}
		walk(t, blocks, calls)
	}
}

func FuzzWalk(f *testing.F) {
	f.Add(2, []byte{0, 1, 2, 132, 0, 140})
	f.Add(16, []byte{0, 0, 0, 0, 0, 0, 0, 0, 0, 1, 132, 140, 148, 2})
	f.Fuzz(func(t *testing.T, blocks int, calls []byte) {
		if blocks < 1 || blocks > 16 {
			if p, err := New(blocks); p != nil || plain.Told(err) != api.ErrRange {
				t.Fatalf("New(%d): got %v, %v, want nil, ErrRange", blocks, p, err)
			}
			return
		}
		if len(calls) > 300 {
			calls = calls[:300]
		}
		walk(t, blocks, calls)
	})
}
