package tests

import (
	"math"
	"math/rand/v2"
	"slices"
	"testing"

	"loop.example/g00984/impl"
)

// nearness says for each two channels how many elements lead at least from the first one to the second one, or 0 if none do.
type nearness [128][128]int

// nearness lets the ways pass one channel after the other.
func (r *relation) nearness() *nearness {
	var near nearness
	for from, row := range r {
		for to, waits := range row {
			if waits {
				near[from][to] = 1
			}
		}
	}
	for via := range near {
		for from := range near {
			if near[from][via] == 0 {
				continue
			}
			for to, rest := range near[via] {
				way := near[from][via] + rest
				if rest > 0 && (near[from][to] == 0 || way < near[from][to]) {
					near[from][to] = way
				}
			}
		}
	}
	return &near
}

// closing returns the least cycle of this length that begins with a path and goes on at greater channels than its first one, or nil.
func (r *relation) closing(near *nearness, path []int, length int) []int {
	first, last := path[0], path[len(path)-1]
	if back := near[last][first]; back == 0 || len(path)+back-1 > length {
		return nil
	}
	if len(path) == length {
		return path
	}
	for next := first + 1; next < 128; next++ {
		if !r[last][next] || slices.Contains(path, next) {
			continue
		}
		if cycle := r.closing(near, append(slices.Clone(path), next), length); cycle != nil {
			return cycle
		}
	}
	return nil
}

// leastCycle looks for cycles of each length, from the shortest one on, and for those of one length in their order.
func (r *relation) leastCycle(near *nearness) []int {
	for length := 1; length <= 128; length++ {
		for first := range 128 {
			if cycle := r.closing(near, []int{first}, length); cycle != nil {
				return cycle
			}
		}
	}
	return nil
}

// isCircle says what IsCycle must return.
func isCircle(list []impl.Depend, cycle []int) bool {
	if !isDepends(list) || len(cycle) == 0 || distinct(cycle) != len(cycle) {
		return false
	}
	for i := range cycle {
		if !slices.Contains(list, impl.Depend{From: cycle[i], To: cycle[(i+1)%len(cycle)]}) {
			return false
		}
	}
	return true
}

// turned lets a cycle begin at another place.
func turned(cycle []int, at int) []int {
	return slices.Concat(cycle[at:], cycle[:at])
}

func wantIsCycle(t *testing.T, list []impl.Depend, cycle []int, want bool) {
	t.Helper()
	if got := impl.IsCycle(list, cycle); got != want {
		t.Errorf("IsCycle(%v, %v) = %v", list, cycle, got)
	}
}

func wantSteps(t *testing.T, list []impl.Depend, from int, to int, want int) {
	t.Helper()
	if got := impl.StepsBetween(list, from, to); got != want {
		t.Errorf("StepsBetween(%v, %d, %d) = %d; want %d", list, from, to, got, want)
	}
}

// wantShortest checks the shortest cycle of a list, and that it is one wherever it begins.
func wantShortest(t *testing.T, list []impl.Depend, want ...int) {
	t.Helper()
	if got := impl.ShortestCycle(list); !slices.Equal(got, want) {
		t.Errorf("ShortestCycle(%v) = %v; want %v", list, got, want)
	}
	if got := impl.HasCycle(list); got != (len(want) > 0) {
		t.Errorf("HasCycle(%v) = %v", list, got)
	}
	for at := range want {
		wantIsCycle(t, list, turned(want, at), true)
	}
}

// wantCycleOf checks the shortest cycle of a list, valid or not, and that a valid one has a cycle or else an order.
func wantCycleOf(t *testing.T, list []impl.Depend) {
	t.Helper()
	if !isDepends(list) {
		wantShortest(t, list)
		return
	}
	r, _ := relationOf(list)
	want := r.leastCycle(r.nearness())
	wantShortest(t, list, want...)
	if cyclic := isCyclic(list); cyclic != (len(want) > 0) {
		t.Fatalf("the models disagree about %v: %v, %v", list, want, cyclic)
	}
	ranks, ok := impl.OrderOf(list)
	if ok == impl.HasCycle(list) {
		t.Errorf("%v has the order %v, %v and the cycle %v", list, ranks, ok, impl.ShortestCycle(list))
	}
	if len(want) > 0 {
		wantSteps(t, list, want[0], want[0], len(want))
	}
}

// wantStepsOf checks the steps between each two of some channels.
func wantStepsOf(t *testing.T, list []impl.Depend, channels []int) {
	t.Helper()
	r, ok := relationOf(list)
	if !ok || !isDepends(list) {
		r = &relation{}
	}
	near := r.nearness()
	for _, from := range channels {
		for _, to := range channels {
			want := -1
			if min(from, to) >= 0 && max(from, to) < 128 && near[from][to] > 0 {
				want = near[from][to]
			}
			wantSteps(t, list, from, to, want)
		}
	}
}

func TestShortestCycleExamples(t *testing.T) {
	wantShortest(t, depends(0, 1, 1, 0), 0, 1)
	wantShortest(t, depends(0, 1, 1, 0, 1, 2, 2, 0), 0, 1)
	wantShortest(t, depends(0, 1, 1, 2, 2, 0), 0, 1, 2)
	wantShortest(t, depends(0, 2, 1, 0, 2, 1), 0, 2, 1)
	wantShortest(t, depends(3, 3), 3)
	wantShortest(t, depends(126, 127, 127, 126), 126, 127)
	wantShortest(t, depends(0, 127, 127, 0), 0, 127)
	wantShortest(t, depends(0, 1))
	wantShortest(t, depends(0, 1, 0, 2, 1, 2))
	// Ways that lead to a cycle, and ways that lead on from it, are not a part of it.
	wantShortest(t, depends(0, 3, 3, 4, 4, 3), 3, 4)
	wantShortest(t, depends(2, 0, 2, 3, 3, 2), 2, 3)
	wantShortest(t, depends(0, 5, 5, 9, 7, 5, 9, 1, 9, 7), 5, 9, 7)
}

func TestNoDependsHaveNoCycle(t *testing.T) {
	for _, list := range [][]impl.Depend{nil, {}} {
		wantShortest(t, list)
		wantIsCycle(t, list, nil, false)
		wantIsCycle(t, list, []int{}, false)
		for _, channel := range channelNumbers() {
			wantIsCycle(t, list, []int{channel}, false)
			wantIsCycle(t, list, []int{channel, channel + 1}, false)
			wantSteps(t, list, channel, channel, -1)
			wantSteps(t, list, 0, channel, -1)
			wantSteps(t, list, channel, 0, -1)
		}
	}
}

func TestListsWithoutACycle(t *testing.T) {
	r := rand.New(rand.NewPCG(10, 1))
	wantCycleOf(t, chain(upTo(0, 127)...))
	wantCycleOf(t, chain(backward(upTo(0, 127))...))
	for _, oneOf := range []int{1, 2, 5, 20, 100, 500} {
		place := r.Perm(128)
		rising := slices.DeleteFunc(randomDepends(r, 128, oneOf), func(d impl.Depend) bool { return place[d.From] >= place[d.To] })
		wantShortest(t, rising)
		wantCycleOf(t, rising)
		for _, d := range rising[:min(len(rising), 20)] {
			wantSteps(t, rising, d.From, d.To, 1)
			wantSteps(t, rising, d.To, d.From, -1)
			wantSteps(t, rising, d.From, d.From, -1)
		}
	}
	// Two ways that meet again are no cycle.
	wantCycleOf(t, depends(0, 1, 0, 2, 1, 3, 2, 3))
	wantCycleOf(t, depends(1, 0, 2, 0, 3, 1, 3, 2))
}

// Of the cycles of equal length, the first one in the order of their lists of channels is taken, whichever is closed first.
func TestCyclesOfEqualLength(t *testing.T) {
	wantShortest(t, together(circle(0, 1), circle(2, 3)), 0, 1)
	wantShortest(t, together(circle(5, 9), circle(3, 100)), 3, 100)
	wantShortest(t, together(circle(4, 9), circle(5, 6), circle(7, 8)), 4, 9)
	wantShortest(t, together(circle(0, 9), circle(0, 10), circle(0, 100)), 0, 9)
	wantShortest(t, together(circle(9, 99), circle(10, 11), circle(100, 101)), 9, 99)
	wantShortest(t, together(circle(2, 3), circle(1, 3)), 1, 3)
	wantShortest(t, together(circle(1, 9, 2), circle(1, 3, 8)), 1, 3, 8)
	wantShortest(t, together(circle(1, 4, 2), circle(1, 3, 9), circle(9, 10, 11)), 1, 3, 9)
	wantShortest(t, together(circle(0, 1, 2, 3), circle(0, 4, 5, 6)), 0, 1, 2, 3)
	// The same channels, the one way round or the other.
	wantShortest(t, circle(5, 3, 7, 6), 3, 7, 6, 5)
	wantShortest(t, circle(6, 7, 3, 5), 3, 5, 6, 7)
	// Each cycle begins with its least channel, and not with the one that makes the list greater or the cycle easier to find.
	wantShortest(t, together(circle(1, 7, 6), circle(2, 3, 4)), 1, 7, 6)
	wantShortest(t, together(circle(7, 6, 1), circle(6, 5, 7)), 1, 7, 6)
	wantShortest(t, together(circle(50, 51, 40), circle(41, 42, 43)), 40, 50, 51)
}

func TestCyclesThatPartLater(t *testing.T) {
	wantShortest(t, together(circle(0, 1, 2), circle(0, 1, 3)), 0, 1, 2)
	wantShortest(t, together(circle(0, 1, 5, 6), circle(0, 2, 3, 4)), 0, 1, 5, 6)
	wantShortest(t, together(circle(0, 1, 5, 6), circle(0, 1, 4, 7)), 0, 1, 4, 7)
	wantShortest(t, together(circle(0, 3, 2, 5), circle(0, 3, 2, 4)), 0, 3, 2, 4)
	wantShortest(t, together(circle(0, 9, 1, 7), circle(0, 9, 8, 2)), 0, 9, 1, 7)
	wantShortest(t, together(circle(3, 90, 80, 70, 60), circle(3, 90, 80, 70, 50), circle(3, 90, 80, 75, 4)), 3, 90, 80, 70, 50)
	// Here, the ways part and meet again.
	wantShortest(t, depends(0, 1, 0, 2, 1, 3, 2, 3, 3, 4, 3, 5, 4, 0, 5, 0), 0, 1, 3, 4)
	wantShortest(t, depends(0, 8, 0, 9, 6, 0, 7, 0, 8, 7, 9, 6), 0, 8, 7)
}

// The least way on may lead into a longer cycle, or into none.
func TestTheLeastWayOnIsNotTheShortestOne(t *testing.T) {
	wantShortest(t, together(circle(0, 1, 2, 3), circle(0, 4, 5)), 0, 4, 5)
	wantShortest(t, together(circle(0, 4, 5), chain(0, 1, 2)), 0, 4, 5)
	wantShortest(t, together(circle(0, 4, 5), chain(4, 1, 2, 3)), 0, 4, 5)
	wantShortest(t, together(circle(0, 4, 9), chain(4, 1, 2, 9)), 0, 4, 9)
	wantShortest(t, together(circle(2, 4, 6), chain(2, 0), chain(4, 1), chain(6, 1)), 2, 4, 6)
	wantShortest(t, together(circle(0, 9, 8, 7), chain(9, 1, 2, 3, 7), chain(8, 5, 6, 0)), 0, 9, 8, 7)
	// The channel 1 leads back in as many steps as the cycle needs from there, but it comes one step too late.
	wantShortest(t, together(circle(0, 5, 6, 7), chain(5, 2, 1, 7)), 0, 5, 6, 7)
	// The least channel of all is only on a longer cycle.
	wantShortest(t, together(circle(0, 5, 6, 7), circle(5, 6, 8)), 5, 6, 8)
}

func TestAShorterCycleAmongGreaterChannels(t *testing.T) {
	wantShortest(t, together(circle(0, 1, 2), circle(3, 4)), 3, 4)
	wantShortest(t, together(circle(0, 1), circle(127)), 127)
	wantShortest(t, together(circle(0, 1), circle(126)), 126)
	wantShortest(t, together(circle(0, 1, 2, 3), circle(9, 10, 11), circle(20, 21), circle(21, 22)), 20, 21)
	wantShortest(t, together(circle(upTo(0, 99)...), circle(99, 100)), 99, 100)
	wantShortest(t, together(circle(0, 1, 2), circle(1, 5)), 1, 5)
	for length := 2; length <= 60; length++ {
		long, short := upTo(0, length-1), upTo(128-length+1, 127)
		wantShortest(t, together(circle(long...), circle(short...)), short...)
		wantShortest(t, together(circle(long...), circle(long[length-1])), length-1)
	}
}

func TestACycleOfOneChannel(t *testing.T) {
	for channel := range 128 {
		self := depends(channel, channel)
		wantShortest(t, self, channel)
		wantIsCycle(t, self, []int{channel, channel}, false)
		wantIsCycle(t, self, []int{(channel + 1) % 128}, false)
		wantSteps(t, self, channel, channel, 1)
		wantSteps(t, self, channel, (channel+1)%128, -1)
		wantShortest(t, together(self, chain(upTo(0, 127)...)), channel)
		wantShortest(t, together(self, circle(upTo(0, 127)...)), channel)
		wantShortest(t, together(self, circle(0, 127), circle(3, 64)), channel)
		wantShortest(t, together(self, depends(100, 100)), min(channel, 100))
	}
}

func TestCyclesOfTwo(t *testing.T) {
	for a := range 128 {
		for b := a % 3; b < a; b += 3 {
			wantShortest(t, circle(a, b), b, a)
			wantShortest(t, together(circle(a, b), circle(upTo(b, a)...)), b, a)
			wantIsCycle(t, depends(a, b), []int{a, b}, false)
			wantIsCycle(t, depends(b, a), []int{a, b}, false)
			wantIsCycle(t, depends(b, a), []int{b, a}, false)
		}
	}
}

func TestCyclesOfAllChannels(t *testing.T) {
	r := rand.New(rand.NewPCG(10, 2))
	up, down := upTo(0, 127), append([]int{0}, backward(upTo(1, 127))...)
	wantShortest(t, circle(up...), up...)
	wantShortest(t, circle(down...), down...)
	for range 5 {
		mixed := append([]int{0}, r.Perm(127)...)
		for i := range mixed[1:] {
			mixed[i+1]++
		}
		whole := circle(mixed...)
		wantShortest(t, whole, mixed...)
		wantStepsOf(t, whole, []int{0, mixed[1], mixed[64], mixed[127], 127})
		for i := 0; i < 128; i += 9 {
			wantCycleOf(t, slices.Delete(slices.Clone(whole), i, i+1))
			// An element across makes a shorter cycle.
			wantCycleOf(t, together(whole, depends(mixed[i], mixed[(i+40)%128])))
		}
		wantIsCycle(t, whole, append(slices.Clone(mixed), 0), false)
		wantIsCycle(t, whole, slices.Repeat(mixed, 2), false)
		wantIsCycle(t, whole, mixed[:127], false)
		wantIsCycle(t, whole, mixed[1:], false)
		wantIsCycle(t, whole, backward(mixed), false)
	}
}

func TestCyclesOfEachLength(t *testing.T) {
	r := rand.New(rand.NewPCG(10, 3))
	for length := 1; length <= 128; length++ {
		channels := r.Perm(128)[:length]
		least := slices.Index(channels, slices.Min(channels))
		whole := circle(channels...)
		wantShortest(t, whole, turned(channels, least)...)
		for i, channel := range channels {
			wantSteps(t, whole, channel, channel, length)
			wantSteps(t, whole, channels[0], channel, (i+length-1)%length+1)
			wantSteps(t, whole, channel, channels[0], length-i)
			wantIsCycle(t, slices.Delete(slices.Clone(whole), i, i+1), channels, false)
		}
	}
}

// In each layer, each channel leads to each one of the next layer; then, some elements are taken away.
func TestCyclesThroughLayers(t *testing.T) {
	r := rand.New(rand.NewPCG(10, 4))
	for range 60 {
		width, layers := 1+r.IntN(5), 2+r.IntN(20)
		channels := r.Perm(128)
		var list []impl.Depend
		for i := range layers * width {
			next := (i/width + 1) % layers
			for j := range width {
				list = append(list, impl.Depend{From: channels[i], To: channels[next*width+j]})
			}
		}
		list = together(list)
		wantCycleOf(t, list)
		for range 3 {
			list = slices.DeleteFunc(list, func(impl.Depend) bool { return r.IntN(6) == 0 })
			wantCycleOf(t, list)
		}
	}
}

func TestCyclesOfAllShortLists(t *testing.T) {
	acyclic := 0
	shortLists(func(channels []int, list []impl.Depend) {
		wantCycleOf(t, list)
		wantStepsOf(t, list, append([]int{-1, 4, 128}, channels...))
		if !impl.HasCycle(list) {
			acyclic++
		}
	})
	// So many of the graphs of three and of four points have no cycle.
	if acyclic != 3*25+543 {
		t.Errorf("%d of the lists have no cycle; want %d", acyclic, 3*25+543)
	}
}

func TestCyclesOfLongLists(t *testing.T) {
	r := rand.New(rand.NewPCG(10, 5))
	for _, limit := range []int{5, 8, 12, 30, 128} {
		for _, oneOf := range []int{1, 2, 4, 8, 20, 60, 100, 200} {
			for range 20 {
				list := randomDepends(r, limit, oneOf)
				wantCycleOf(t, list)
				// Without dependencies on themselves and without cycles of two channels, the cycles are longer.
				var chosen relation
				for _, d := range list {
					if d.From != d.To && !chosen[d.To][d.From] {
						chosen[d.From][d.To] = true
					}
				}
				list = chosen.list()
				wantCycleOf(t, list)
				wantCycleOf(t, slices.DeleteFunc(list, func(d impl.Depend) bool { return d.From%3 == d.To%3 }))
			}
		}
	}
	wantShortest(t, randomDepends(r, 128, 1), 0)
}

func TestCyclesOfListsThatAreNotValid(t *testing.T) {
	lists := append(badDepends(),
		depends(1, 0, 0, 1),
		depends(1, 2, 2, 1, 0, 0),
		depends(0, 1, 0, 0, 1, 0),
		depends(0, 1, 0, 1, 1, 0),
		depends(0, 1, 1, 0, 1, 0),
		depends(0, 0, 0, 0),
		depends(-1, -1),
		depends(128, 128),
		depends(-1, 0, 0, -1),
		depends(-1, 0, 0, 1, 1, 0),
		depends(0, -1, 0, 1, 1, 0),
		depends(0, 1, 1, 0, 127, 128),
		depends(0, 1, 1, 0, 128, 127),
		depends(0, 0, 1, math.MaxInt),
		depends(math.MinInt, 0, 0, 0),
	)
	for _, list := range lists {
		wantShortest(t, list)
		for _, d := range list {
			wantSteps(t, list, d.From, d.To, -1)
			wantSteps(t, list, d.From, d.From, -1)
			wantIsCycle(t, list, []int{d.From}, false)
			wantIsCycle(t, list, []int{d.From, d.To}, false)
		}
		for _, cycle := range [][]int{nil, {}, {0}, {-1}, {128}, {0, 1}, {1, 0}, {0, -1}, {0, 1, 2}} {
			wantIsCycle(t, list, cycle, false)
		}
	}
	for _, list := range someDepends() {
		wantCycleOf(t, list)
		for _, cycle := range [][]int{{0}, {0, 1}, {1, 0}, {0, 127}, {-1}, {128}, {-1, 0}} {
			wantIsCycle(t, list, cycle, isCircle(list, cycle))
		}
	}
}

func TestIsCycleExamples(t *testing.T) {
	list := depends(0, 1, 1, 0, 1, 2, 2, 0, 2, 3, 3, 3)
	for _, cycle := range [][]int{{0, 1}, {1, 0}, {0, 1, 2}, {1, 2, 0}, {2, 0, 1}, {3}} {
		wantIsCycle(t, list, cycle, true)
	}
	for _, cycle := range [][]int{
		nil, {}, {0}, {2}, {4},
		{0, 2}, {2, 0}, {1, 2}, {2, 3}, {3, 2},
		{0, 2, 1}, {2, 1, 0}, {1, 2, 3}, {0, 1, 2, 3}, {3, 0, 1, 2},
		{0, 0}, {3, 3}, {0, 1, 0}, {0, 1, 0, 1}, {0, 1, 2, 0, 1, 2}, {0, 1, 0, 1, 2}, {0, 1, 2, 0}, {3, 3, 3},
		{-1}, {128}, {-1, 0}, {0, -1}, {0, 128}, {128, 0}, {0, 1, -1}, {0, 1, 128}, {-1, 0, 1}, {128, 0, 1},
	} {
		wantIsCycle(t, list, cycle, false)
	}
}

// A cycle can lack any one of its steps, the last one back to its begin among them.
func TestIsCycleWithoutOneStep(t *testing.T) {
	for _, cycle := range [][]int{{4}, {4, 9}, {9, 4}, {0, 127, 3}, {5, 1, 4, 2, 3}, upTo(0, 127), backward(upTo(20, 99))} {
		whole := circle(cycle...)
		for at := range cycle {
			wantIsCycle(t, whole, turned(cycle, at), true)
			next := cycle[(at+1)%len(cycle)]
			lacks := slices.DeleteFunc(slices.Clone(whole), func(d impl.Depend) bool { return d.From == cycle[at] && d.To == next })
			if len(lacks) != len(whole)-1 {
				t.Fatalf("%v lacks not one element of %v", lacks, whole)
			}
			wantIsCycle(t, lacks, cycle, false)
			wantIsCycle(t, lacks, turned(cycle, at), false)
			wantIsCycle(t, lacks, turned(cycle, (at+1)%len(cycle)), false)
			wantShortest(t, lacks)
		}
	}
}

func TestIsCycleOfAllShortCycles(t *testing.T) {
	lists := choices(depends(0, 1, 0, 2, 1, 0, 1, 2, 2, 0, 2, 2, 2, 3, 3, 0))
	for _, s := range texts("abcde", 4) {
		var cycle []int
		for _, letter := range s {
			cycle = append(cycle, int(letter-'a')-1)
		}
		for i := 0; i < len(lists); i += 5 {
			wantIsCycle(t, lists[i], cycle, isCircle(lists[i], cycle))
		}
		wantIsCycle(t, lists[len(lists)-1], cycle, isCircle(lists[len(lists)-1], cycle))
	}
}

// With all elements, each list of different channels is a cycle, although the shortest cycle has one channel.
func TestIsCycleOfLongerCycles(t *testing.T) {
	r := rand.New(rand.NewPCG(10, 6))
	all := randomDepends(r, 128, 1)
	for length := 1; length <= 128; length++ {
		cycle := r.Perm(128)[:length]
		wantIsCycle(t, all, cycle, true)
		for _, i := range []int{0, length / 2, length - 1} {
			for _, channel := range []int{-1, 128, 129, math.MinInt, math.MaxInt, cycle[i] + 128, cycle[i] + 1<<32, cycle[i] - 128} {
				other := slices.Clone(cycle)
				other[i] = channel
				wantIsCycle(t, all, other, false)
			}
			wantIsCycle(t, all, append(slices.Clone(cycle), cycle[i]), false)
			wantIsCycle(t, all, append([]int{cycle[i]}, cycle...), false)
		}
	}
	wantIsCycle(t, all, upTo(0, 127), true)
	wantIsCycle(t, all, upTo(0, 128), false)
	wantIsCycle(t, all, upTo(-1, 127), false)
	wantIsCycle(t, all, upTo(1, 128), false)
	wantIsCycle(t, all, slices.Repeat([]int{0}, 5000), false)
}

func TestStepsFromAChannelToItself(t *testing.T) {
	through := depends(0, 1, 1, 0, 1, 2, 2, 0, 3, 4, 4, 5, 5, 3, 5, 6, 7, 7, 8, 7)
	wantSteps(t, through, 0, 0, 2)
	wantSteps(t, through, 1, 1, 2)
	wantSteps(t, through, 2, 2, 3)
	wantSteps(t, through, 3, 3, 3)
	wantSteps(t, through, 5, 5, 3)
	wantSteps(t, through, 6, 6, -1)
	wantSteps(t, through, 7, 7, 1)
	wantSteps(t, through, 8, 8, -1)
	wantSteps(t, through, 9, 9, -1)
	// One element leads from the channel to itself, although there are longer ways, too.
	wantSteps(t, together(depends(0, 0), circle(0, 1, 2)), 0, 0, 1)
	wantSteps(t, together(depends(1, 1), circle(0, 1, 2)), 0, 0, 3)
	wantSteps(t, together(depends(1, 1), circle(0, 1, 2)), 0, 2, 2)
}

func TestStepsBetweenExamples(t *testing.T) {
	list := depends(0, 1, 0, 3, 1, 2, 2, 3, 3, 4, 4, 5, 5, 1, 9, 0, 127, 9)
	for to, want := range []int{-1, 1, 2, 1, 2, 3, -1} {
		wantSteps(t, list, 0, to, want)
	}
	wantSteps(t, list, 127, 5, 5)
	wantSteps(t, list, 9, 3, 2)
	wantSteps(t, list, 5, 3, 3)
	wantSteps(t, list, 3, 2, 4)
	wantSteps(t, list, 1, 1, 5)
	wantSteps(t, list, 1, 0, -1)
	wantSteps(t, list, 5, 127, -1)
	wantSteps(t, list, 60, 61, -1)
	wantSteps(t, chain(upTo(0, 127)...), 0, 127, 127)
	wantSteps(t, chain(upTo(0, 127)...), 127, 0, -1)
	wantSteps(t, chain(backward(upTo(0, 127))...), 127, 0, 127)
	wantSteps(t, circle(upTo(0, 127)...), 5, 4, 127)
	wantSteps(t, circle(upTo(0, 127)...), 5, 5, 128)
	wantSteps(t, together(circle(upTo(0, 127)...), depends(10, 100)), 0, 127, 38)
}

func TestStepsOfChannelsOutsideOfTheRange(t *testing.T) {
	r := rand.New(rand.NewPCG(10, 7))
	for _, list := range [][]impl.Depend{nil, depends(0, 0), depends(127, 127), circle(0, 1, 127), randomDepends(r, 128, 1)} {
		for _, channel := range []int{-1, -2, -128, 128, 129, 255, 256, 1 << 32, 1<<32 + 1, math.MaxInt, math.MinInt} {
			for _, other := range []int{0, 1, 127, channel, -1, 128} {
				wantSteps(t, list, channel, other, -1)
				wantSteps(t, list, other, channel, -1)
			}
		}
	}
}

func TestStepsOfAllPairs(t *testing.T) {
	r := rand.New(rand.NewPCG(10, 8))
	for _, oneOf := range []int{2, 20, 60, 120, 200} {
		wantStepsOf(t, randomDepends(r, 128, oneOf), r.Perm(128)[:40])
	}
	for range 50 {
		wantStepsOf(t, randomDepends(r, 12, 1+r.IntN(12)), upTo(-1, 12))
	}
}

func TestCyclesOfTables(t *testing.T) {
	square := impl.Mesh{Grid: impl.Grid{Width: 2, Height: 2}}
	wantShortest(t, impl.DependsOf(square, impl.Table{Ports: clockwise()}), 1, 6, 15, 8)
	wantShortest(t, impl.DependsOf(square, impl.Table{Ports: counterclockwise()}), 2, 9, 12, 7)
	wantShortest(t, impl.DependsOf(square, impl.Table{Ports: rowsFirst(square.Grid)}))

	found, missing := 0, 0
	dependsOfTables(func(b board, ports []int, list []impl.Depend) {
		wantCycleOf(t, list)
		wantCycleOf(t, together(list, impl.ShiftDepends(list, 64)))
		if impl.HasCycle(list) {
			found++
		} else {
			missing++
		}
	})
	if found < 100 || missing < 300 {
		t.Errorf("%d tables have a cycle and %d have none", found, missing)
	}
}

// Only the rule that mixes two others can have a cycle.
func TestCyclesOfStandardTables(t *testing.T) {
	mixed := 0
	dependsOfRules(func(g impl.Grid, rule int, list []impl.Depend) {
		wantCycleOf(t, list)
		if !impl.HasCycle(list) {
			return
		}
		mixed++
		if rule != impl.RuleMixed {
			t.Errorf("the rule %d has a cycle in %v", rule, g)
		}
	})
	if mixed == 0 {
		t.Error("the rule that mixes two others has no cycle in any grid")
	}
}

func TestCycleFunctionsKeepTheirArguments(t *testing.T) {
	spare := depends(77, 78, 78, 77)
	for _, list := range append(badDepends(), nil, depends(1, 1), depends(1, 0), depends(5, 7, 7, 9, 9, 5), circle(upTo(0, 127)...)) {
		for _, cycle := range [][]int{nil, {1}, {0, 1}, {7, 9, 5}, {9, 7, 5}, upTo(0, 127), {-1, 128}} {
			memory, numbers := slices.Concat(list, spare), slices.Concat(cycle, []int{-7, 500})
			impl.IsCycle(memory[:len(list)], numbers[:len(cycle)])
			impl.ShortestCycle(memory[:len(list)])
			impl.StepsBetween(memory[:len(list)], 1, 5)
			impl.HasCycle(memory[:len(list)])
			if !slices.Equal(memory, slices.Concat(list, spare)) {
				t.Errorf("the list %v was changed to %v", list, memory)
			}
			if !slices.Equal(numbers, slices.Concat(cycle, []int{-7, 500})) {
				t.Errorf("the cycle %v was changed to %v", cycle, numbers)
			}
		}
	}
}

// A cycle is overwritten up to its capacity, which must be seen neither in the argument nor in later results.
func TestAShortestCycleIsNewMemory(t *testing.T) {
	for _, list := range [][]impl.Depend{depends(1, 1), circle(3, 9), circle(5, 1, 4, 2, 3), circle(upTo(0, 127)...)} {
		kept := slices.Clone(list)
		first, second := impl.ShortestCycle(list), impl.ShortestCycle(list)
		want := slices.Clone(first)
		for i := range first[:cap(first)] {
			first[:cap(first)][i] = -7
		}
		if !slices.Equal(second, want) || !slices.Equal(list, kept) {
			t.Errorf("the cycle of %v shares memory with its argument or a later cycle", kept)
		}
		wantShortest(t, list, want...)
	}
}
