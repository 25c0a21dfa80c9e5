package pick

import (
	"math"
	"slices"
	"testing"

	"gangplank/api"
	"gangplank/plain"
)

const (
	four    = 1<<32 - 1 // the greatest one
	seeds   = 1 << 31   // every seed is below it
	inverse = 635610885 // of 69069, modulo 2^31
)

var (
	zero = api.Six{}
	ann  = api.Six{0x2001, 0xdb8, 7: 1}
	vip  = api.Six{0x64, 0xff9b, 7: 9}
	high = api.Six{65535, 65535, 65535, 65535, 65535, 65535, 65535, 65535}
)

func flow(kind int, client api.Six, port int, dst api.Six, door int) api.Flow {
	return api.Flow{Kind: kind, Client: client, Port: port, Dst: dst, Door: door}
}

// outside gives numbers that are not from 0 to top.
func outside(top int) []int {
	return []int{-1, top + 1, -2, -top - 1, top + 2, 1 << 33, 1<<33 + 1, math.MinInt, math.MinInt + 1, math.MinInt + top, math.MaxInt}
}

// noFlows are good but for one number.
func noFlows() []api.Flow {
	good := flow(6, ann, 1, vip, 80)
	list := []api.Flow{{}}
	for _, x := range []int{0, 1, 5, 7, 16, 18, -6, 256 + 6, 1<<32 + 17, math.MinInt, math.MaxInt} {
		f := good
		f.Kind = x
		list = append(list, f)
	}
	for _, x := range outside(65535) {
		f, g := good, good
		f.Port, g.Door = x, x
		list = append(list, f, g)
		for i := range 8 {
			f, g := good, good
			f.Client[i], g.Dst[i] = x, x
			list = append(list, f, g)
		}
	}
	return list
}

// up is a server that new flows may be led to.
func up(id, weight int) api.Back {
	return api.Back{ID: id, Addr: 1<<24 + id, Door: 8080, Weight: weight, Up: true}
}

// spoiled servers are good but for one number.
func spoiled(good api.Back) []api.Back {
	var list []api.Back
	for _, x := range outside(65535) {
		b, c := good, good
		b.ID, c.Door = x, x
		list = append(list, b, c)
	}
	for _, x := range outside(four) {
		b := good
		b.Addr = x
		list = append(list, b)
	}
	for _, x := range outside(10) {
		b := good
		b.Weight = x
		list = append(list, b)
	}
	return list
}

func expectCheck(t *testing.T, l []api.Back, place int, want api.Errno) {
	t.Helper()
	before := slices.Clone(l)
	if got, err := Check(l); got != place || plain.Told(err) != want {
		t.Fatalf("Check(%v): got %d, %v, want %d, %v", l, got, err, place, want)
	}
	if !slices.Equal(l, before) {
		t.Fatalf("Check wrote into its list: it was %v and is %v", before, l)
	}
}

func expectScore(t *testing.T, seed int, f api.Flow, id, want int) {
	t.Helper()
	if got, err := Score(seed, f, id); err != nil || got != want {
		t.Fatalf("Score(%d, %v, %d): got %d, %v, want %d", seed, f, id, got, err, want)
	}
}

func refuseScore(t *testing.T, seed int, f api.Flow, id int) {
	t.Helper()
	if got, err := Score(seed, f, id); got != 0 || plain.Told(err) != api.ErrRange {
		t.Fatalf("Score(%d, %v, %d): got %d, %v, want 0, ErrRange", seed, f, id, got, err)
	}
}

func expectPick(t *testing.T, seed int, f api.Flow, l []api.Back, want api.Back) {
	t.Helper()
	before := slices.Clone(l)
	if got, err := Pick(seed, f, l); err != nil || got != want {
		t.Fatalf("Pick(%d, %v, %v): got %v, %v, want %v", seed, f, l, got, err, want)
	}
	if !slices.Equal(l, before) {
		t.Fatalf("Pick wrote into its list: it was %v and is %v", before, l)
	}
}

func refusePick(t *testing.T, seed int, f api.Flow, l []api.Back, want api.Errno) {
	t.Helper()
	if got, err := Pick(seed, f, l); got != (api.Back{}) || plain.Told(err) != want {
		t.Fatalf("Pick(%d, %v, %v): got %v, %v, want %v", seed, f, l, got, err, want)
	}
}

func numbersOf(f api.Flow) []int {
	list := append([]int{f.Kind}, f.Client[:]...)
	list = append(list, f.Port)
	list = append(list, f.Dst[:]...)
	return append(list, f.Door)
}

// modelScore lets numbers of 32 bits wrap round, and cuts the highest bit off at last.
func modelScore(seed int, f api.Flow, id int) int {
	x := uint32(seed)
	for _, n := range append(numbersOf(f), id) {
		x = x*69069 + uint32(n) + 1
	}
	return int(x << 1 >> 9)
}

// modelPick puts all that may be picked in order.
func modelPick(seed int, f api.Flow, l []api.Back) (api.Back, bool) {
	var list []api.Back
	for _, b := range l {
		if b.Up && !b.Drain && b.Weight > 0 {
			list = append(list, b)
		}
	}
	if len(list) == 0 {
		return api.Back{}, false
	}
	slices.SortFunc(list, func(a, b api.Back) int {
		if d := b.Weight*modelScore(seed, f, b.ID) - a.Weight*modelScore(seed, f, a.ID); d != 0 {
			return d
		}
		return a.ID - b.ID
	})
	return list[0], true
}

func holdPick(t *testing.T, seed int, f api.Flow, l []api.Back) {
	t.Helper()
	if want, ok := modelPick(seed, f, l); ok {
		expectPick(t, seed, f, l, want)
	} else {
		refusePick(t, seed, f, l, api.ErrNone)
	}
}

// seedFor gives the seed by which a flow is mixed to just that number, ahead of the server. Scores of servers lie near
// one another but where that wraps round, so tests must reach the places where it does.
func seedFor(f api.Flow, mixed int) int {
	list := numbersOf(f)
	slices.Reverse(list)
	x := uint32(mixed)
	for _, n := range list {
		x = (x - uint32(n) - 1) * inverse
	}
	return int(x << 1 >> 1)
}

// ahead gives what is mixed, with the number 0, to that.
func ahead(mixed int) int {
	return int((uint32(mixed) - 1) * inverse << 1 >> 1)
}

// walk gives numbers that are below 2^31, always the same ones.
func walk(start, count int) []int {
	list := make([]int, count)
	x := uint32(start)
	for i := range list {
		x = x*1664525 + 1013904223
		list[i] = int(x >> 1)
	}
	return list
}

func TestCheckOfGoodLists(t *testing.T) {
	expectCheck(t, nil, 0, api.OK)
	expectCheck(t, []api.Back{}, 0, api.OK)
	expectCheck(t, []api.Back{{}}, 0, api.OK)
	expectCheck(t, []api.Back{{ID: 65535, Addr: four, Door: 65535, Weight: 10, Up: true, Drain: true}}, 0, api.OK)
	var l []api.Back
	for id := range 8 {
		l = append(l, up(65535-id, id))
		expectCheck(t, l, 0, api.OK)
	}
	// All but the ID may be another's.
	expectCheck(t, []api.Back{{ID: 1, Addr: 5, Door: 6, Weight: 7}, {ID: 2, Addr: 5, Door: 6, Weight: 7}}, 0, api.OK)
}

func TestCheckOfTooMany(t *testing.T) {
	for count := 9; count < 30; count++ {
		l := make([]api.Back, count)
		for i := range l {
			l[i] = up(i, 1)
		}
		expectCheck(t, l, 0, api.ErrFull)
		refusePick(t, 1, flow(6, ann, 1, vip, 80), l, api.ErrFull)
		// Whatever else is wrong.
		l[0].Weight = 11
		expectCheck(t, l, 0, api.ErrFull)
		l[0] = l[1]
		expectCheck(t, l, 0, api.ErrFull)
		expectCheck(t, make([]api.Back, count), 0, api.ErrFull)
	}
}

func TestCheckOfOneThatIsWrong(t *testing.T) {
	for count := 1; count <= 8; count++ {
		for place := range count {
			l := make([]api.Back, count)
			for i := range l {
				l[i] = up(100*i, 10)
			}
			for _, b := range spoiled(l[place]) {
				l[place] = b
				expectCheck(t, l, place, api.ErrRange)
				refusePick(t, 1, flow(6, ann, 1, vip, 80), l, api.ErrRange)
			}
		}
	}
}

func TestCheckOfIDsOfOthersAhead(t *testing.T) {
	for count := 2; count <= 8; count++ {
		for place := 1; place < count; place++ {
			for other := range place {
				l := make([]api.Back, count)
				for i := range l {
					l[i] = up(i, 1)
				}
				l[place].ID = l[other].ID
				expectCheck(t, l, place, api.ErrClash)
				refusePick(t, 1, flow(6, ann, 1, vip, 80), l, api.ErrClash)
			}
		}
	}
}

// TestCheckGoesOneByOne: all that is wrong of one comes ahead of all that is wrong of the next.
func TestCheckGoesOneByOne(t *testing.T) {
	good, same := up(1, 1), up(1, 2)
	heavy := up(1, 11)
	far := up(2, 11)
	expectCheck(t, []api.Back{good, same, far}, 1, api.ErrClash)
	expectCheck(t, []api.Back{good, far, same}, 1, api.ErrRange)
	expectCheck(t, []api.Back{heavy, same}, 0, api.ErrRange)
	// One that has both wrong.
	expectCheck(t, []api.Back{good, heavy}, 1, api.ErrRange)
	expectCheck(t, []api.Back{good, up(2, 1), heavy, same}, 2, api.ErrRange)
	expectCheck(t, []api.Back{{ID: -1}, {ID: -1}}, 0, api.ErrRange)
	expectCheck(t, []api.Back{good, same, same}, 1, api.ErrClash)
}

// TestWhatLiesBehind: a list ends at its length.
func TestWhatLiesBehind(t *testing.T) {
	all := []api.Back{up(1, 1), up(2, 2), {ID: -1}, up(1, 10), up(1, 10), up(5, 5), up(6, 6), up(7, 7), up(8, 8), up(9, 9)}
	expectCheck(t, all[:2], 0, api.OK)
	expectCheck(t, all[:3], 2, api.ErrRange)
	expectCheck(t, all[3:4], 0, api.OK)
	expectPick(t, 1, flow(6, zero, 0, zero, 0), all[:2], all[1])
	expectPick(t, 1, flow(6, zero, 0, zero, 0), all[:1], all[0])
}

func TestScore(t *testing.T) {
	for _, x := range []struct {
		seed int
		f    api.Flow
		id   int
		want int
	}{
		{0, flow(6, zero, 0, zero, 0), 0, 2516144},
		{1, flow(6, zero, 0, zero, 0), 0, 7144471},
		{1, flow(6, zero, 0, zero, 0), 2, 7144471},
		{0, flow(17, zero, 0, zero, 0), 0, 6292356},
		{seeds - 1, flow(17, high, 65535, high, 65535), 65535, 1261532},
		{seeds - 1, flow(6, high, 65535, high, 65535), 65535, 5873928},
		{7, flow(6, ann, 1000, vip, 80), 1, 248664},
		{7, flow(6, ann, 1000, vip, 80), 40000, 248820},
		{7, flow(17, ann, 1000, vip, 80), 1, 4024876},
		{7, flow(6, vip, 1000, ann, 80), 1, 7460245},
		{7, flow(6, ann, 80, vip, 1000), 1, 3851090},
		{0, flow(6, api.Six{1, 2, 3, 4, 5, 6, 7, 8}, 9, api.Six{10, 11, 12, 13, 14, 15, 16, 17}, 18), 19, 3049965},
		// The least score, and the greatest: what is mixed is 0, 255, 256, and the last below 2^31.
		{1202474022, flow(6, zero, 0, zero, 0), 0, 0},
		{39701237, flow(6, zero, 0, zero, 0), 0, 0},
		{39701237, flow(6, zero, 0, zero, 0), 1, 1},
		{1214151974, flow(6, zero, 0, zero, 0), 0, 1},
		{28023285, flow(6, zero, 0, zero, 0), 0, 1<<23 - 1},
		{28023285, flow(6, zero, 0, zero, 0), 1, 0},
	} {
		expectScore(t, x.seed, x.f, x.id, x.want)
	}
}

// TestScoreHangsOnEveryNumber: one that is another by 1 gives another score.
func TestScoreHangsOnEveryNumber(t *testing.T) {
	f := flow(6, ann, 1000, vip, 80)
	others := []api.Flow{f, f, f}
	others[0].Kind, others[1].Port, others[2].Door = 17, 1001, 81
	for i := range 8 {
		g, h := f, f
		g.Client[i]++
		h.Dst[i]++
		others = append(others, g, h)
	}
	seen := map[int]api.Flow{modelScore(7, f, 1): f}
	for _, g := range others {
		want := modelScore(7, g, 1)
		if other, ok := seen[want]; ok {
			t.Fatalf("%v and %v have the score %d", g, other, want)
		}
		seen[want] = g
		expectScore(t, 7, g, 1, want)
	}
	if modelScore(8, f, 1) == modelScore(7, f, 1) || modelScore(7, f, 300) == modelScore(7, f, 1) {
		t.Fatal("another seed, or server, gives the same score")
	}
	expectScore(t, 8, f, 1, modelScore(8, f, 1))
	expectScore(t, 7, f, 300, modelScore(7, f, 300))
}

func TestScoreOfMany(t *testing.T) {
	for _, x := range walk(3, 3000) {
		n := walk(x, 22)
		f := api.Flow{Kind: 6 + 11*(n[0]>>8&1), Port: n[1] >> 15, Door: n[2] >> 15}
		for i := range 8 {
			f.Client[i], f.Dst[i] = n[3+i]>>15, n[11+i]>>15
		}
		expectScore(t, n[19], f, n[20]>>15, modelScore(n[19], f, n[20]>>15))
	}
}

func TestScoreRefuses(t *testing.T) {
	f := flow(6, ann, 1000, vip, 80)
	for _, x := range outside(seeds - 1) {
		refuseScore(t, x, f, 1)
		refuseScore(t, x, api.Flow{}, -1)
		refusePick(t, x, f, []api.Back{up(1, 1)}, api.ErrRange)
	}
	for _, x := range outside(65535) {
		refuseScore(t, 7, f, x)
	}
	for _, g := range noFlows() {
		refuseScore(t, 7, g, 1)
		refusePick(t, 7, g, []api.Back{up(1, 1)}, api.ErrRange)
	}
}

// TestPickOfThoseThatTake: which of the three is wanting, it is not picked, however heavy it is.
func TestPickOfThoseThatTake(t *testing.T) {
	f := flow(6, ann, 1000, vip, 80)
	light := up(9, 1)
	for n := range 8 {
		b := api.Back{ID: 1, Addr: four, Door: 65535, Up: n&1 != 0, Drain: n&2 == 0}
		if n&4 != 0 {
			b.Weight = 10
		}
		if n == 7 {
			expectPick(t, 7, f, []api.Back{light, b}, b)
			expectPick(t, 7, f, []api.Back{b}, b)
			continue
		}
		expectPick(t, 7, f, []api.Back{light, b}, light)
		expectPick(t, 7, f, []api.Back{b, light}, light)
		refusePick(t, 7, f, []api.Back{b}, api.ErrNone)
	}
}

func TestPickOfEqualsIsTheLeastID(t *testing.T) {
	f := flow(6, zero, 0, zero, 0)
	l := []api.Back{up(5, 3), up(2, 3), up(7, 3), up(3, 3)}
	for range l {
		expectPick(t, 1, f, l, up(2, 3))
		l = append(l[1:], l[0])
	}
	// The least of all is none of them.
	expectPick(t, 1, f, append(l, up(1, 2), api.Back{ID: 0, Weight: 3}), up(2, 3))
}

// TestPickOfScoresZero: a product that is 0 is one, too.
func TestPickOfScoresZero(t *testing.T) {
	f := flow(6, zero, 0, zero, 0)
	seed := 1202474022
	expectPick(t, seed, f, []api.Back{up(0, 10)}, up(0, 10))
	expectPick(t, seed, f, []api.Back{up(4, 10), up(3, 1), up(200, 5)}, up(3, 1))
	// A score of 1, by a server of a small weight, is more.
	expectPick(t, seed, f, []api.Back{up(4, 10), up(256, 1), up(3, 9)}, up(256, 1))
}

// TestPickIsByTheProduct: neither by the weight nor by the score alone.
func TestPickIsByTheProduct(t *testing.T) {
	f := flow(17, ann, 5, vip, 53)
	// What is mixed has the score 2 with the number 0, and 3 and 4 with 256 and 512.
	seed := seedFor(f, ahead(512))
	expectScore(t, seed, f, 0, 2)
	expectScore(t, seed, f, 512, 4)
	expectPick(t, seed, f, []api.Back{up(0, 3), up(512, 1)}, up(0, 3))
	expectPick(t, seed, f, []api.Back{up(0, 3), up(512, 2)}, up(512, 2))
	expectPick(t, seed, f, []api.Back{up(512, 2), up(0, 4)}, up(0, 4))
	expectPick(t, seed, f, []api.Back{up(512, 3), up(256, 4), up(0, 6)}, up(0, 6))
	expectPick(t, seed, f, []api.Back{up(512, 3), up(256, 4), up(0, 5)}, up(256, 4))
	// It wraps round between the two servers, so that ten times nothing is less than the greatest.
	seed = seedFor(f, ahead(seeds-256))
	expectPick(t, seed, f, []api.Back{up(256, 10), up(0, 1)}, up(0, 1))
	expectPick(t, seed, f, []api.Back{up(0, 9), up(255, 10)}, up(255, 10))
}

// TestPickTellsTheFirstError: the list's, then the score's, then that there is none.
func TestPickTellsTheFirstError(t *testing.T) {
	good := flow(6, ann, 1, vip, 80)
	clash := []api.Back{up(1, 1), up(1, 1)}
	for _, f := range append(noFlows(), good) {
		for _, seed := range append(outside(seeds-1), 0, seeds-1) {
			refusePick(t, seed, f, make([]api.Back, 9), api.ErrFull)
			refusePick(t, seed, f, clash, api.ErrClash)
			if f != good || seed < 0 || seed >= seeds {
				refusePick(t, seed, f, nil, api.ErrRange)
				refusePick(t, seed, f, []api.Back{{ID: 1}}, api.ErrRange)
			}
		}
	}
	for _, seed := range []int{0, seeds - 1} {
		refusePick(t, seed, good, nil, api.ErrNone)
		refusePick(t, seed, good, []api.Back{}, api.ErrNone)
		refusePick(t, seed, good, []api.Back{{ID: 1}}, api.ErrNone)
	}
}

// servers gives a good list of so many, spread over all IDs.
func servers(start, count int) []api.Back {
	l := make([]api.Back, count)
	for i, x := range walk(start, count) {
		l[i] = up(8192*i+x>>18, 1+x>>8%10)
		l[i].Drain = x>>4&15 == 0
	}
	for i, x := range walk(start+1, count) {
		j := x >> 8 % count
		l[i], l[j] = l[j], l[i]
	}
	return l
}

// seedsNear gives seeds by which a flow is mixed to where the scores of servers wrap round, and to anywhere.
func seedsNear(f api.Flow, start int) []int {
	var list []int
	for i, x := range walk(start, 60) {
		mixed := x
		if i%3 != 0 {
			mixed = seeds - x>>15
		}
		if i%3 == 2 {
			mixed = x >> 16
		}
		list = append(list, seedFor(f, ahead(mixed%seeds)))
	}
	return list
}

func TestPickOfMany(t *testing.T) {
	f := flow(17, ann, 5, vip, 53)
	for start := range 60 {
		for count := range 9 {
			l := servers(start, count)
			expectCheck(t, l, 0, api.OK)
			for _, seed := range seedsNear(f, start) {
				holdPick(t, seed, f, l)
			}
		}
	}
}

// gone gives the lists in which the one at a place takes no more flows.
func gone(l []api.Back, place int) [][]api.Back {
	lists := [][]api.Back{slices.Delete(slices.Clone(l), place, place+1)}
	for range 3 {
		lists = append(lists, slices.Clone(l))
	}
	lists[1][place].Up = false
	lists[2][place].Drain = true
	lists[3][place].Weight = 0
	return lists
}

// TestOneThatGoesTakesOnlyItsOwn, and, as the lists are looked at from the other side, to one that comes flows go alone.
func TestOneThatGoesTakesOnlyItsOwn(t *testing.T) {
	f := flow(6, ann, 1000, vip, 80)
	stayed, moved := 0, 0
	for start := range 40 {
		for count := 1; count <= 8; count++ {
			l := servers(start, count)
			for _, seed := range seedsNear(f, start) {
				with, err := Pick(seed, f, l)
				for place, b := range l {
					for _, less := range gone(l, place) {
						without, _ := Pick(seed, f, less)
						if err == nil && with == b {
							moved++
							if without.ID == b.ID && without != (api.Back{}) {
								t.Fatalf("Pick(%d, %v, %v): got %v, which is gone", seed, f, less, without)
							}
						} else if stayed++; without != with {
							t.Fatalf("Pick(%d, %v): %v without %v, %v with it", seed, f, without, b, with)
						}
					}
				}
			}
		}
	}
	if stayed < 10000 || moved < 10000 {
		t.Errorf("%d stayed and %d moved: too few to tell", stayed, moved)
	}
}

// TestTheOrderOfTheListIsNothing: nor how often it was asked.
func TestTheOrderOfTheListIsNothing(t *testing.T) {
	f := flow(6, ann, 1000, vip, 80)
	for start := range 20 {
		l := servers(start, 8)
		for _, seed := range seedsNear(f, start) {
			want, ok := modelPick(seed, f, l)
			for range l {
				if ok {
					expectPick(t, seed, f, l, want)
				}
				l = append(slices.Clone(l[1:]), l[0])
			}
		}
	}
}

func FuzzPick(f *testing.F) {
	f.Add(7, 6, 1000, 80, 5, []byte{0, 1, 10, 1, 0, 2, 10, 1})
	f.Add(seeds-1, 17, 65535, 65535, 65535, []byte{255, 255, 1, 1, 255, 255, 1, 1})
	f.Add(-1, 0, -1, 65536, 0, []byte{})
	f.Fuzz(func(t *testing.T, seed, kind, port, door, part int, b []byte) {
		var l []api.Back
		for ; len(b) >= 4; b = b[4:] {
			l = append(l, api.Back{ID: int(b[0])*256 + int(b[1]), Weight: int(b[2]), Up: b[3]&1 != 0, Drain: b[3]&2 != 0})
		}
		fl := flow(kind, api.Six{3: part}, port, api.Six{5: part}, door)
		if place, err := Check(l); err != nil {
			if place < 0 || place >= len(l) {
				t.Fatalf("Check(%v): the place %d", l, place)
			}
			refusePick(t, seed, fl, l, plain.Told(err))
			return
		}
		if _, err := Score(seed, fl, 0); err != nil {
			refusePick(t, seed, fl, l, api.ErrRange)
			return
		}
		holdPick(t, seed, fl, l)
	})
}
