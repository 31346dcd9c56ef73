package tests

import (
	"math"
	"slices"
	"testing"

	"loop.example/g00984/impl"
)

// noRings lists numbers of nodes that no ring has.
func noRings() []int {
	list := without(channelNumbers(), upTo(2, impl.MaxRing))
	return append(list, 1<<8+3, 1<<16+3, 1<<32+3, 1<<62+3, math.MinInt+12, -1<<32+5)
}

// noNodesOf lists numbers that no node of a ring of n nodes has.
func noNodesOf(n int) []int {
	list := without(channelNumbers(), upTo(0, n-1))
	return append(list, 1<<8+1, 1<<16+1, 1<<32+1, n<<40, -n<<40, math.MinInt/n*n, math.MaxInt/n*n)
}

// hopsOf lists hops over channels, first some of the class 0 and then some of the class 1.
func hopsOf(before []int, after []int) []impl.Hop {
	var hops []impl.Hop
	for _, channel := range before {
		hops = append(hops, impl.Hop{Channel: channel})
	}
	for _, channel := range after {
		hops = append(hops, impl.Hop{Channel: channel, Class: 1})
	}
	return hops
}

// wayOf goes from node to node until it is there, and says at which channels it was before and after the dateline.
func wayOf(n int, from int, to int) (before []int, after []int) {
	crossed := false
	for from != to {
		if crossed {
			after = append(after, from)
		} else {
			before = append(before, from)
		}
		from++
		if from == n {
			from = 0
			crossed = true
		}
	}
	return before, after
}

// ringDepends lists what RingDepends must return: a circle, or with a dateline a chain that goes on in the class 1.
func ringDepends(n int, dateline bool) []impl.Depend {
	if n == 2 {
		return nil
	}
	if !dateline {
		return circle(upTo(0, n-1)...)
	}
	// The longest way in the class 1 starts at the node n-1 and ends at the node n-2.
	return chain(slices.Concat(upTo(0, n-1), upTo(64, 64+n-3))...)
}

func wantHops(t *testing.T, n int, from int, to int, dateline bool, want []impl.Hop) {
	t.Helper()
	if got := impl.RingHops(n, from, to, dateline); !slices.Equal(got, want) {
		t.Errorf("RingHops(%d, %d, %d, %v) = %v; want %v", n, from, to, dateline, got, want)
	}
}

func wantHopsBetween(t *testing.T, n int, from int, to int, want int) {
	t.Helper()
	if got := impl.HopsBetween(n, from, to); got != want {
		t.Errorf("HopsBetween(%d, %d, %d) = %d; want %d", n, from, to, got, want)
	}
}

// wantRingWay checks a way along a ring with and without a dateline.
func wantRingWay(t *testing.T, n int, from int, to int, before []int, after []int) {
	t.Helper()
	wantHops(t, n, from, to, true, hopsOf(before, after))
	wantHops(t, n, from, to, false, hopsOf(slices.Concat(before, after), nil))
	wantHopsBetween(t, n, from, to, len(before)+len(after))
}

// wantNoWay checks a ring or a node that does not exist.
func wantNoWay(t *testing.T, n int, from int, to int) {
	t.Helper()
	wantHops(t, n, from, to, true, nil)
	wantHops(t, n, from, to, false, nil)
	wantHopsBetween(t, n, from, to, -1)
}

func wantRingDepends(t *testing.T, n int, dateline bool, want []impl.Depend) {
	t.Helper()
	if got := impl.RingDepends(n, dateline); !slices.Equal(got, want) || !isDepends(got) {
		t.Errorf("RingDepends(%d, %v) = %v; want %v", n, dateline, got, want)
	}
}

func wantRingIsSafe(t *testing.T, n int, dateline bool, want bool) {
	t.Helper()
	if got := impl.RingIsSafe(n, dateline); got != want {
		t.Errorf("RingIsSafe(%d, %v) = %v", n, dateline, got)
	}
}

func TestRingLimit(t *testing.T) {
	if impl.MaxRing != 12 {
		t.Error("limit", impl.MaxRing)
	}
}

func TestRingHopsExamples(t *testing.T) {
	for _, c := range []struct {
		n, from, to   int
		before, after []int
	}{
		{2, 0, 1, []int{0}, nil},
		{2, 1, 0, []int{1}, nil},
		{3, 0, 1, []int{0}, nil},
		{3, 0, 2, []int{0, 1}, nil},
		{3, 1, 2, []int{1}, nil},
		{3, 1, 0, []int{1, 2}, nil},
		{3, 2, 0, []int{2}, nil},
		{3, 2, 1, []int{2}, []int{0}},
		// These do not reach the last channel.
		{5, 0, 4, []int{0, 1, 2, 3}, nil},
		{5, 1, 3, []int{1, 2}, nil},
		// These end with it: nothing comes after it, and it has the class 0 itself.
		{5, 4, 0, []int{4}, nil},
		{5, 2, 0, []int{2, 3, 4}, nil},
		{5, 1, 0, []int{1, 2, 3, 4}, nil},
		// These pass it in the middle.
		{5, 3, 1, []int{3, 4}, []int{0}},
		{5, 3, 2, []int{3, 4}, []int{0, 1}},
		{5, 2, 1, []int{2, 3, 4}, []int{0}},
		// These start with it.
		{5, 4, 1, []int{4}, []int{0}},
		{5, 4, 3, []int{4}, []int{0, 1, 2}},
		{12, 0, 11, []int{0, 1, 2, 3, 4, 5, 6, 7, 8, 9, 10}, nil},
		{12, 1, 0, []int{1, 2, 3, 4, 5, 6, 7, 8, 9, 10, 11}, nil},
		{12, 6, 5, []int{6, 7, 8, 9, 10, 11}, []int{0, 1, 2, 3, 4}},
		{12, 11, 0, []int{11}, nil},
		{12, 11, 10, []int{11}, []int{0, 1, 2, 3, 4, 5, 6, 7, 8, 9}},
		{12, 10, 11, []int{10}, nil},
	} {
		wantRingWay(t, c.n, c.from, c.to, c.before, c.after)
	}
}

func TestAllWaysAlongRings(t *testing.T) {
	for n := 2; n <= 12; n++ {
		for from := range n {
			for to := range n {
				before, after := wayOf(n, from, to)
				wantRingWay(t, n, from, to, before, after)
			}
		}
	}
}

// Each hop begins where the one before ends, and the class goes up once at most: right after the last channel of the ring.
func TestHopsFollowEachOther(t *testing.T) {
	raises := 0
	for n := 2; n <= 12; n++ {
		for from := range n {
			for to := range n {
				at, class := from, 0
				for _, hop := range impl.RingHops(n, from, to, true) {
					if hop != (impl.Hop{Channel: at, Class: class}) {
						t.Errorf("the hops from %d to %d on a ring of %d have %v instead of the channel %d of the class %d", from, to, n, hop, at, class)
					}
					if at == n-1 {
						class++
						raises++
					}
					at = (at + 1) % n
				}
				if at != to {
					t.Errorf("the hops from %d to %d on a ring of %d end at %d", from, to, n, at)
				}
			}
		}
	}
	// On a ring of n nodes, n*(n-1)/2 ways pass the last channel.
	if raises != 286 {
		t.Errorf("the last channel was passed %d times", raises)
	}
}

func TestNoHopsToTheNodeItself(t *testing.T) {
	for n := 2; n <= 12; n++ {
		for node := range n {
			wantHops(t, n, node, node, true, nil)
			wantHops(t, n, node, node, false, nil)
			wantHopsBetween(t, n, node, node, 0)
		}
	}
}

// A way and the way back go around the ring once.
func TestHopsThereAndBack(t *testing.T) {
	for n := 2; n <= 12; n++ {
		for from := range n {
			for to := range n {
				there, back := impl.HopsBetween(n, from, to), impl.HopsBetween(n, to, from)
				if from != to && (there < 1 || back < 1 || there+back != n) {
					t.Errorf("there are %d hops from %d to %d on a ring of %d, and %d back", there, from, to, n, back)
				}
			}
		}
	}
}

func TestNodesThatARingDoesNotHave(t *testing.T) {
	for n := 2; n <= 12; n++ {
		for _, node := range append(noNodesOf(n), -1, n) {
			// Equal nodes must exist, too.
			wantNoWay(t, n, node, node)
			for _, other := range upTo(-2, n+1) {
				wantNoWay(t, n, node, other)
				wantNoWay(t, n, other, node)
			}
		}
	}
	for _, a := range noNodesOf(7) {
		for _, b := range noNodesOf(7) {
			wantNoWay(t, 7, a, b)
		}
	}
}

func TestRingsThatDoNotExist(t *testing.T) {
	for _, n := range noRings() {
		for _, dateline := range []bool{false, true} {
			wantRingDepends(t, n, dateline, nil)
			wantRingIsSafe(t, n, dateline, false)
		}
		for _, from := range append(upTo(-1, 13), n-1, n, n+1, n/2, math.MinInt, math.MaxInt) {
			for _, to := range append(upTo(-1, 13), n-1, n, n+1, n/2, math.MinInt, math.MaxInt) {
				wantNoWay(t, n, from, to)
			}
		}
	}
}

func TestRingDependsExamples(t *testing.T) {
	wantRingDepends(t, 2, false, nil)
	wantRingDepends(t, 2, true, nil)
	wantRingDepends(t, 3, false, depends(0, 1, 1, 2, 2, 0))
	wantRingDepends(t, 3, true, depends(0, 1, 1, 2, 2, 64))
	wantRingDepends(t, 4, false, depends(0, 1, 1, 2, 2, 3, 3, 0))
	wantRingDepends(t, 4, true, depends(0, 1, 1, 2, 2, 3, 3, 64, 64, 65))
	wantRingDepends(t, 5, false, depends(0, 1, 1, 2, 2, 3, 3, 4, 4, 0))
	wantRingDepends(t, 5, true, depends(0, 1, 1, 2, 2, 3, 3, 4, 4, 64, 64, 65, 65, 66))
	wantRingDepends(t, 12, false, depends(0, 1, 1, 2, 2, 3, 3, 4, 4, 5, 5, 6, 6, 7, 7, 8, 8, 9, 9, 10, 10, 11, 11, 0))
	wantRingDepends(t, 12, true, depends(0, 1, 1, 2, 2, 3, 3, 4, 4, 5, 5, 6, 6, 7, 7, 8, 8, 9, 9, 10, 10, 11, 11, 64,
		64, 65, 65, 66, 66, 67, 67, 68, 68, 69, 69, 70, 70, 71, 71, 72, 72, 73))
}

func TestRingDependsOfAllRings(t *testing.T) {
	for n := 2; n <= 12; n++ {
		for _, dateline := range []bool{false, true} {
			wantRingDepends(t, n, dateline, ringDepends(n, dateline))
		}
	}
}

// Each element comes from two hops that follow each other, and no such two hops are left out.
func TestRingDependsComeFromHops(t *testing.T) {
	for n := 2; n <= 12; n++ {
		for _, dateline := range []bool{false, true} {
			var found relation
			for from := range n {
				for to := range n {
					hops := impl.RingHops(n, from, to, dateline)
					for i := range max(len(hops)-1, 0) {
						a, b := hops[i], hops[i+1]
						found[a.Class*64+a.Channel][b.Class*64+b.Channel] = true
					}
				}
			}
			wantRingDepends(t, n, dateline, found.list())
		}
	}
}

// No two hops follow each other on a ring of two nodes, and so it is safe in any case.
func TestARingOfTwoNodes(t *testing.T) {
	for _, dateline := range []bool{false, true} {
		wantHops(t, 2, 0, 1, dateline, []impl.Hop{{Channel: 0}})
		wantHops(t, 2, 1, 0, dateline, []impl.Hop{{Channel: 1}})
		wantRingDepends(t, 2, dateline, nil)
		wantRingIsSafe(t, 2, dateline, true)
	}
}

// A ring of three or more nodes is safe exactly with a dateline.
func TestRingsAreSafeWithADateline(t *testing.T) {
	for n := 3; n <= 12; n++ {
		wantRingIsSafe(t, n, true, true)
		wantRingIsSafe(t, n, false, false)

		// The order of the numbers of the virtual channels proves the one, and the circle of all channels proves the other.
		list := impl.RingDepends(n, true)
		if !isRanking(list, upTo(0, 127)) || isCyclic(list) {
			t.Errorf("a ring of %d nodes with a dateline is not safe: %v", n, list)
		}
		wantIsOrder(t, list, upTo(0, 127), true)
		wantShortest(t, list)
		list = impl.RingDepends(n, false)
		if !isCircle(list, upTo(0, n-1)) || !isCyclic(list) {
			t.Errorf("a ring of %d nodes without a dateline is safe: %v", n, list)
		}
		wantShortest(t, list, upTo(0, n-1)...)
		wantNoOrder(t, list)
	}
}

// Results are overwritten up to their capacity, which must not be seen in other results.
func TestResultsOfRingsAreNewMemory(t *testing.T) {
	for n := 2; n <= 12; n++ {
		for _, dateline := range []bool{false, true} {
			for from := range n {
				for to := range n {
					before, after := wayOf(n, from, to)
					first, second := impl.RingHops(n, from, to, dateline), impl.RingHops(n, from, to, dateline)
					kept := slices.Clone(second)
					for i := range first[:cap(first)] {
						first[:cap(first)][i] = impl.Hop{Channel: -7, Class: -7}
					}
					if !slices.Equal(second, kept) {
						t.Errorf("two results for the way from %d to %d on a ring of %d share memory", from, to, n)
					}
					wantRingWay(t, n, from, to, before, after)
				}
			}
			first, second := impl.RingDepends(n, dateline), impl.RingDepends(n, dateline)
			kept := slices.Clone(second)
			for i := range first[:cap(first)] {
				first[:cap(first)][i] = impl.Depend{From: -7, To: -7}
			}
			if !slices.Equal(second, kept) {
				t.Errorf("two results for a ring of %d share memory", n)
			}
			wantRingDepends(t, n, dateline, ringDepends(n, dateline))
		}
	}
}
