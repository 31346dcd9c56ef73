package tests

import (
	"math"
	"math/rand/v2"
	"slices"
	"testing"

	"loop.example/g00984/impl"
)

// upTo lists the numbers from one to another one.
func upTo(first int, last int) []int {
	var list []int
	for n := first; n <= last; n++ {
		list = append(list, n)
	}
	return list
}

// ranksIn gives each channel its place in a sequence as its rank; the channels that the sequence does not name follow it.
func ranksIn(sequence ...int) []int {
	sequence = slices.Concat(sequence, without(upTo(0, 127), sequence))
	ranks := make([]int, 128)
	for rank, channel := range sequence {
		ranks[channel] = rank
	}
	return ranks
}

// together is the valid list of all elements of some lists.
func together(lists ...[]impl.Depend) []impl.Depend {
	r, _ := relationOf(lists...)
	return r.list()
}

// chain lists the dependencies of each channel of a list on the one before.
func chain(channels ...int) []impl.Depend {
	var list []impl.Depend
	for i := 1; i < len(channels); i++ {
		list = append(list, impl.Depend{From: channels[i-1], To: channels[i]})
	}
	return together(list)
}

// circle is a chain whose last channel leads back to the first one.
func circle(channels ...int) []impl.Depend {
	return chain(append(slices.Clone(channels), channels[0])...)
}

// shortLists visits all lists of three channels, and those of four channels of which none depends on itself.
func shortLists(visit func(channels []int, list []impl.Depend)) {
	for _, channels := range [][]int{{0, 1, 2}, {2, 1, 0}, {5, 127, 64}, {0, 2, 3, 127}} {
		var all []impl.Depend
		for _, from := range channels {
			for _, to := range channels {
				if from != to || len(channels) == 3 {
					all = append(all, impl.Depend{From: from, To: to})
				}
			}
		}
		for _, list := range choices(together(all)) {
			visit(channels, list)
		}
	}
}

// dependsOfTables visits the dependencies of those of manyTables that are valid.
func dependsOfTables(visit func(b board, ports []int, list []impl.Depend)) {
	manyTables(func(b board, ports []int) {
		if b.verdictOf(ports).ok {
			visit(b, ports, b.dependsOf(ports))
		}
	})
}

// dependsOfRules visits the dependencies of all standard tables.
func dependsOfRules(visit func(g impl.Grid, rule int, list []impl.Depend)) {
	for _, g := range validGrids() {
		for _, rule := range standardRules {
			visit(g, rule, boardOf(g).dependsOf(tableOfRule(g, rule)))
		}
	}
}

// isCyclic takes away, again and again, the elements that lead to a channel from which none leads on; only a cycle stays.
func isCyclic(list []impl.Depend) bool {
	for {
		var leads [128]bool
		for _, d := range list {
			leads[d.From] = true
		}
		var rest []impl.Depend
		for _, d := range list {
			if leads[d.To] {
				rest = append(rest, d)
			}
		}
		if len(rest) == len(list) {
			return len(list) > 0
		}
		list = rest
	}
}

// isRanking says what IsOrder must return.
func isRanking(list []impl.Depend, ranks []int) bool {
	sorted := slices.Clone(ranks)
	slices.Sort(sorted)
	if !isDepends(list) || !slices.Equal(sorted, upTo(0, 127)) {
		return false
	}
	for _, d := range list {
		if ranks[d.To] <= ranks[d.From] {
			return false
		}
	}
	return true
}

// early returns a channel that has no rank at some time, although it is less than the one that is ranked then and waits for none; or -1.
func early(list []impl.Depend, ranks []int) int {
	var free [128]int
	for _, d := range list {
		free[d.To] = max(free[d.To], ranks[d.From]+1)
	}
	for channel, rank := range ranks {
		for less := range channel {
			if free[less] <= rank && rank < ranks[less] {
				return less
			}
		}
	}
	return -1
}

// wantRanks checks an order, and that it is one.
func wantRanks(t *testing.T, list []impl.Depend, want []int) {
	t.Helper()
	got, ok := impl.OrderOf(list)
	if !ok || !slices.Equal(got, want) {
		t.Errorf("OrderOf(%v) = %v, %v; want %v", list, got, ok, want)
	}
	wantIsOrder(t, list, want, true)
}

func wantNoOrder(t *testing.T, list []impl.Depend) {
	t.Helper()
	if got, ok := impl.OrderOf(list); ok || len(got) != 0 {
		t.Errorf("OrderOf(%v) = %v, %v; want none", list, got, ok)
	}
}

// wantOrder checks the order of a list, valid or not: there is none, or each rank is that of the right channel.
func wantOrder(t *testing.T, list []impl.Depend) {
	t.Helper()
	if !isDepends(list) || isCyclic(list) {
		wantNoOrder(t, list)
		return
	}
	ranks, ok := impl.OrderOf(list)
	if !ok || !isRanking(list, ranks) {
		t.Errorf("OrderOf(%v) = %v, %v; want an order", list, ranks, ok)
		return
	}
	if less := early(list, ranks); less >= 0 {
		t.Errorf("OrderOf(%v) = %v; the channel %d is ranked too late", list, ranks, less)
	}
	wantIsOrder(t, list, ranks, true)
	for _, d := range list {
		wantRises(t, ranks, []int{d.From, d.To}, true)
		wantRises(t, ranks, []int{d.To, d.From}, false)
	}
}

func wantIsOrder(t *testing.T, list []impl.Depend, ranks []int, want bool) {
	t.Helper()
	if got := impl.IsOrder(list, ranks); got != want {
		t.Errorf("IsOrder(%v, %v) = %v", list, ranks, got)
	}
}

func wantRank(t *testing.T, g impl.Grid, rule int, channel int, want int) {
	t.Helper()
	if got := impl.RankRule(g, rule, channel); got != want {
		t.Errorf("RankRule(%v, %d, %d) = %d; want %d", g, rule, channel, got, want)
	}
}

func wantRises(t *testing.T, ranks []int, route []int, want bool) {
	t.Helper()
	if got := impl.RisesAlong(ranks, route); got != want {
		t.Errorf("RisesAlong(%v, %v) = %v", ranks, route, got)
	}
}

func TestOrderExamples(t *testing.T) {
	wantRanks(t, depends(0, 1), upTo(0, 127))
	wantRanks(t, depends(0, 127), upTo(0, 127))
	wantRanks(t, depends(1, 0), ranksIn(1, 0))
	wantRanks(t, depends(3, 1), ranksIn(0, 2, 3, 1))
	wantRanks(t, depends(2, 0, 2, 1), ranksIn(2, 0, 1))
	wantRanks(t, depends(1, 0, 2, 0), ranksIn(1, 2, 0))
	wantRanks(t, depends(1, 0, 4, 2), ranksIn(1, 0, 3, 4, 2))
	wantRanks(t, depends(3, 7, 9, 3), ranksIn(0, 1, 2, 4, 5, 6, 8, 9, 3, 7))
	wantRanks(t, depends(0, 5, 5, 2, 6, 1), ranksIn(0, 3, 4, 5, 2, 6, 1))
	wantRanks(t, depends(127, 0), ranksIn(upTo(1, 127)...))
	wantRanks(t, depends(64, 3, 127, 64), ranksIn(slices.Concat(upTo(0, 2), upTo(4, 63), upTo(65, 127), []int{64, 3})...))
	wantNoOrder(t, depends(0, 1, 1, 0))
	wantNoOrder(t, depends(0, 1, 1, 1))
	wantNoOrder(t, depends(3, 7, 7, 9, 9, 3))
}

func TestOrderWithoutDepends(t *testing.T) {
	wantRanks(t, nil, upTo(0, 127))
	wantRanks(t, []impl.Depend{}, upTo(0, 127))
}

// The next channel is not the one that has waited longest, nor the one that follows the last one, but always the least one.
func TestTheLeastChannelComesNext(t *testing.T) {
	wantRanks(t, depends(5, 4, 6, 0, 6, 1, 6, 3), ranksIn(2, 5, 4, 6, 0, 1, 3))
	wantRanks(t, depends(2, 0, 3, 1), ranksIn(2, 0, 3, 1))
	wantRanks(t, depends(2, 1, 3, 0), ranksIn(2, 1, 3, 0))
	wantRanks(t, depends(0, 3, 3, 2, 4, 1), ranksIn(0, 3, 2, 4, 1))
	wantRanks(t, depends(9, 8, 10, 5, 10, 6), ranksIn(0, 1, 2, 3, 4, 7, 9, 8, 10, 5, 6))
}

// A channel with many channels before it has its rank only after the last one of them.
func TestAChannelThatWaitsForManyOthers(t *testing.T) {
	for last := range 128 {
		var list []impl.Depend
		for from := range 128 {
			if from != last {
				list = append(list, impl.Depend{From: from, To: last})
			}
		}
		wantRanks(t, list, ranksIn(without(upTo(0, 127), []int{last})...))
		for i := last % 9; i < len(list); i += 9 {
			wantOrder(t, list[i:i+1])
			wantOrder(t, list[:i])
			wantOrder(t, list[i:])
		}
	}
}

func TestChainsThatRunUpwards(t *testing.T) {
	wantRanks(t, chain(upTo(0, 127)...), upTo(0, 127))
	for first := range 128 {
		wantRanks(t, chain(upTo(first, 127)...), upTo(0, 127))
		wantRanks(t, chain(upTo(0, first)...), upTo(0, 127))
	}
}

func TestChainsThatRunDownwards(t *testing.T) {
	wantRanks(t, chain(5, 4, 3, 2, 1, 0), ranksIn(5, 4, 3, 2, 1, 0))
	wantRanks(t, chain(5, 3, 1), ranksIn(0, 2, 4, 5, 3, 1))
	wantRanks(t, chain(backward(upTo(0, 127))...), backward(upTo(0, 127)))
	for last := range 128 {
		for first := last; first < 128; first += 9 {
			want := slices.Concat(upTo(0, last-1), backward(upTo(last, first)))
			wantRanks(t, chain(backward(upTo(last, first))...), ranksIn(want...))
		}
	}
	wantRanks(t, together(chain(3, 2, 0), chain(5, 4, 1)), ranksIn(3, 2, 0, 5, 4, 1))
}

func TestADependencyOnItself(t *testing.T) {
	for channel := range 128 {
		self := depends(channel, channel)
		wantNoOrder(t, self)
		wantNoOrder(t, together(self, chain(upTo(0, 127)...)))
		wantNoOrder(t, together(self, chain(backward(upTo(0, 127))...)))
		wantIsOrder(t, self, upTo(0, 127), false)
		wantIsOrder(t, self, backward(upTo(0, 127)), false)
	}
}

func TestCyclesOfTwoChannels(t *testing.T) {
	for a := range 128 {
		for b := range a {
			wantNoOrder(t, circle(a, b))
		}
	}
}

func TestCyclesOfManyChannels(t *testing.T) {
	r := rand.New(rand.NewPCG(9, 90))
	for length := 1; length <= 128; length++ {
		channels := r.Perm(128)[:length]
		whole := circle(channels...)
		wantNoOrder(t, whole)
		wantNoOrder(t, circle(upTo(128-length, 127)...))
		// Without any one of its elements, a cycle is none.
		for i := length % 7; i < length; i += 7 {
			wantOrder(t, slices.Delete(slices.Clone(whole), i, i+1))
		}
	}
}

// All channels that lead to a cycle, and all that have nothing to do with it, have ranks before it is found.
func TestCyclesThatAreFoundLate(t *testing.T) {
	wantNoOrder(t, depends(127, 127))
	wantNoOrder(t, depends(126, 127, 127, 126))
	wantNoOrder(t, together(chain(upTo(0, 125)...), depends(125, 126, 126, 127, 127, 126)))
	wantNoOrder(t, together(chain(backward(upTo(2, 127))...), depends(2, 0, 0, 1, 1, 0)))
	for first := range 127 {
		wantNoOrder(t, together(chain(upTo(0, 127)...), depends(127, first)))
		wantNoOrder(t, together(chain(upTo(0, 127)...), depends(first+1, first)))
		wantNoOrder(t, together(chain(backward(upTo(0, 127))...), depends(first, first+1)))
	}
	// From the cycle, a long way leads on.
	wantNoOrder(t, together(circle(0, 1), chain(upTo(1, 127)...)))
	wantNoOrder(t, together(circle(126, 127), chain(backward(upTo(0, 126))...)))
	wantNoOrder(t, together(circle(3, 5), chain(7, 3, 9), chain(8, 100, 20)))
}

func TestOrdersOfAllShortLists(t *testing.T) {
	orders := 0
	shortLists(func(channels []int, list []impl.Depend) {
		wantOrder(t, list)
		if _, ok := impl.OrderOf(list); ok {
			orders++
		}
	})
	// So many of the graphs of three and of four points have no cycle.
	if orders != 3*25+543 {
		t.Errorf("%d of the lists have an order; want %d", orders, 3*25+543)
	}
}

func TestOrdersOfListsThatAreNotValid(t *testing.T) {
	for _, list := range badDepends() {
		wantNoOrder(t, list)
		wantIsOrder(t, list, upTo(0, 127), false)
		wantIsOrder(t, list, backward(upTo(0, 127)), false)
		wantIsOrder(t, list, nil, false)
	}
	for _, list := range someDepends() {
		wantOrder(t, list)
		for _, ranks := range [][]int{upTo(0, 127), backward(upTo(0, 127))} {
			wantIsOrder(t, list, ranks, isRanking(list, ranks))
		}
	}
	// Nothing but the order of the list or an element that is in it twice is wrong.
	wantNoOrder(t, depends(1, 2, 0, 1))
	wantNoOrder(t, depends(0, 2, 0, 1))
	wantNoOrder(t, depends(0, 1, 0, 1))
	wantIsOrder(t, depends(1, 2, 0, 1), upTo(0, 127), false)
	wantIsOrder(t, depends(0, 2, 0, 1), upTo(0, 127), false)
	wantIsOrder(t, depends(0, 1, 0, 1), upTo(0, 127), false)
}

func TestOrdersOfLongLists(t *testing.T) {
	r := rand.New(rand.NewPCG(9, 99))
	for _, oneOf := range []int{1, 2, 5, 20, 100, 500} {
		for range 6 {
			place := r.Perm(128)
			var list []impl.Depend
			for _, d := range randomDepends(r, 128, oneOf) {
				if place[d.From] < place[d.To] {
					list = append(list, d)
				}
			}
			wantOrder(t, list)
			wantIsOrder(t, list, place, true)
			// One element the other way round closes a cycle.
			d := list[r.IntN(len(list))]
			wantNoOrder(t, together(list, depends(d.To, d.From)))
			// These lists may have cycles or not.
			wantOrder(t, randomDepends(r, 128, 64*oneOf))
			wantOrder(t, randomDepends(r, 6, oneOf))
		}
	}
	wantNoOrder(t, randomDepends(r, 128, 1))
}

// Ranks that are all different are no order if they do not rise along one of the elements.
func TestIsOrderOfSwappedRanks(t *testing.T) {
	list := depends(0, 1, 0, 127, 1, 5, 4, 3, 9, 3, 64, 63, 127, 126)
	ranks, ok := impl.OrderOf(list)
	if !ok {
		t.Fatalf("OrderOf(%v) is not found", list)
	}
	for _, d := range list {
		swapped := slices.Clone(ranks)
		swapped[d.From], swapped[d.To] = swapped[d.To], swapped[d.From]
		wantIsOrder(t, list, swapped, false)
	}
	for a := range 128 {
		for b := range a {
			swapped := slices.Clone(ranks)
			swapped[a], swapped[b] = swapped[b], swapped[a]
			wantIsOrder(t, list, swapped, isRanking(list, swapped))
			wantIsOrder(t, nil, swapped, true)
			wantIsOrder(t, depends(a, b), swapped, swapped[a] < swapped[b])
			wantIsOrder(t, depends(b, a), swapped, swapped[b] < swapped[a])
		}
	}
}

func TestIsOrderWithOneOtherRank(t *testing.T) {
	for _, list := range [][]impl.Depend{nil, {}, depends(0, 1), depends(127, 0), depends(5, 3, 6, 3)} {
		ranks, ok := impl.OrderOf(list)
		if !ok {
			t.Fatalf("OrderOf(%v) is not found", list)
		}
		for channel := range ranks {
			for _, rank := range append(channelNumbers(), 126, 127, 128, 129, ranks[channel]+1<<32, ranks[channel]+256) {
				other := slices.Clone(ranks)
				other[channel] = rank
				wantIsOrder(t, list, other, rank == ranks[channel])
			}
		}
	}
}

// Ranks that rise as they should are no order if they are moved out of the range, or if they are all the same.
func TestIsOrderOfRanksOutsideOfTheRange(t *testing.T) {
	for _, by := range []int{-128, -1, 1, 128, 1 << 32, math.MaxInt - 127} {
		var ranks []int
		for rank := range 128 {
			ranks = append(ranks, rank+by)
		}
		wantIsOrder(t, nil, ranks, false)
		wantIsOrder(t, depends(3, 4), ranks, false)
	}
	for _, rank := range []int{0, 5, 127, -1, 128} {
		wantIsOrder(t, nil, slices.Repeat([]int{rank}, 128), false)
		wantIsOrder(t, depends(3, 4), slices.Repeat([]int{rank}, 128), false)
	}
}

func TestIsOrderWithTooFewOrTooManyRanks(t *testing.T) {
	for _, list := range [][]impl.Depend{nil, {}, depends(0, 1), depends(126, 127), depends(127, 0)} {
		ranks, _ := impl.OrderOf(list)
		wantIsOrder(t, list, ranks, true)
		wantIsOrder(t, list, nil, false)
		wantIsOrder(t, list, []int{}, false)
		wantIsOrder(t, list, ranks[:127], false)
		wantIsOrder(t, list, ranks[1:], false)
		wantIsOrder(t, list, slices.Repeat(ranks, 2), false)
		for _, rank := range []int{-1, 0, 127, 128} {
			wantIsOrder(t, list, append(slices.Clone(ranks), rank), false)
			wantIsOrder(t, list, append([]int{rank}, ranks...), false)
		}
		for size := range 300 {
			wantIsOrder(t, list, upTo(0, size-1), size == 128 && isRanking(list, upTo(0, 127)))
		}
	}
}

func TestIsOrderOfAllShortLists(t *testing.T) {
	lists := choices(depends(0, 1, 0, 2, 1, 2, 2, 0, 2, 2, 3, 1, 127, 3))
	for _, first := range texts("abcd", 4) {
		if len(first) != 4 {
			continue
		}
		var ranks []int
		for _, letter := range first {
			ranks = append(ranks, int(letter-'a'))
		}
		ranks = append(ranks, upTo(4, 127)...)
		for _, list := range lists {
			wantIsOrder(t, list, ranks, isRanking(list, ranks))
		}
	}
}

func TestIsOrderOfLongLists(t *testing.T) {
	r := rand.New(rand.NewPCG(99, 9))
	for range 300 {
		list, ranks := randomDepends(r, 128, 8000), r.Perm(128)
		wantIsOrder(t, list, ranks, isRanking(list, ranks))
	}
}

func TestOrdersOfTables(t *testing.T) {
	square := impl.Mesh{Grid: impl.Grid{Width: 2, Height: 2}}
	orderOf := func(ports []int) []impl.Depend { return impl.DependsOf(square, impl.Table{Ports: ports}) }
	wantRanks(t, orderOf(rowsFirst(square.Grid)), ranksIn(0, 1, 3, 4, 5, 6, 7, 2, 9, 10, 11, 12, 13, 14, 15, 8))
	wantRanks(t, orderOf(alongSnake(square.Grid)), ranksIn(slices.Concat(upTo(0, 6), upTo(8, 12), []int{7})...))
	wantNoOrder(t, orderOf(clockwise()))
	wantNoOrder(t, orderOf(counterclockwise()))

	found, missing := 0, 0
	dependsOfTables(func(b board, ports []int, list []impl.Depend) {
		wantOrder(t, list)
		ranks, ok := impl.OrderOf(list)
		if !ok {
			missing++
			return
		}
		found++
		for from := range b.nodes {
			for to := range b.nodes {
				wantRises(t, ranks, b.follow(ports, from, to), true)
			}
		}
	})
	if found < 300 || missing < 100 {
		t.Errorf("%d tables have an order and %d have none", found, missing)
	}
}

// The rules that lack some turns have an order on each grid; packets of two classes have one, too.
func TestOrdersOfStandardTables(t *testing.T) {
	dependsOfRules(func(g impl.Grid, rule int, list []impl.Depend) {
		wantOrder(t, list)
		wantOrder(t, together(list, impl.ShiftDepends(list, 64)))
		if _, ok := impl.OrderOf(list); !ok && rule != impl.RuleMixed {
			t.Errorf("the rule %d has no order in %v", rule, g)
		}
	})
}

func TestRankRuleExamples(t *testing.T) {
	for g, ranks := range map[impl.Grid]map[int]int{
		{Width: 1, Height: 1}: {},
		{Width: 4, Height: 1}: {1: 0, 5: 1, 9: 2, 15: 0, 11: 1, 7: 2},
		{Width: 1, Height: 4}: {2: 10, 6: 11, 10: 12, 12: 10, 8: 11, 4: 12},
		{Width: 2, Height: 2}: {1: 0, 2: 10, 6: 10, 7: 0, 8: 10, 9: 0, 12: 10, 15: 0},
		{Width: 3, Height: 2}: {1: 0, 2: 10, 5: 1, 6: 10, 7: 1, 10: 10, 11: 0, 12: 10, 13: 0, 16: 10, 17: 1, 19: 1, 20: 10, 23: 0},
		{Width: 2, Height: 3}: {1: 0, 2: 10, 6: 10, 7: 0, 8: 11, 9: 0, 10: 11, 12: 11, 14: 11, 15: 0, 16: 10, 17: 0, 20: 10, 23: 0},
	} {
		for _, channel := range channelNumbers() {
			want, ok := ranks[channel]
			if !ok {
				want = -1
			}
			wantRank(t, g, impl.RuleXY, channel, want)
		}
	}
	large := impl.Grid{Width: 4, Height: 4}
	for x := range 3 {
		wantRank(t, large, impl.RuleXY, 4*(8+x)+1, x)
		wantRank(t, large, impl.RuleXY, 4*(11-x)+3, x)
		wantRank(t, large, impl.RuleXY, 4*(4*x+2)+2, 10+x)
		wantRank(t, large, impl.RuleXY, 4*(14-4*x), 10+x)
	}
}

// The rank counts the nodes that a packet may have passed already in the direction of the channel.
func TestRankRuleOfAllChannels(t *testing.T) {
	for _, g := range validGrids() {
		neighbors := neighborsOf(g)
		for _, channel := range append(channelNumbers(), 4*len(neighbors), 4*len(neighbors)+1) {
			want := -1
			if slices.Contains(channelsOf(g), channel) {
				node, port := channel/4, channel%4
				want = []int{10, 0}[port%2]
				for neighbors[node][(port+2)%4] >= 0 {
					node = neighbors[node][(port+2)%4]
					want++
				}
			}
			wantRank(t, g, impl.RuleXY, channel, want)
		}
	}
}

func TestRankRuleOfOtherRules(t *testing.T) {
	for _, g := range validGrids() {
		for _, rule := range append(noRules(), impl.RuleYX, impl.RuleWest, impl.RuleMixed) {
			for channel := -1; channel <= 4*g.Width*g.Height; channel++ {
				wantRank(t, g, rule, channel, -1)
			}
		}
	}
}

func TestRankRuleOfGridsThatAreNotValid(t *testing.T) {
	for _, g := range invalidGrids() {
		for _, channel := range channelNumbers() {
			wantRank(t, g, impl.RuleXY, channel, -1)
		}
		wantRank(t, g, impl.RuleYX, 1, -1)
	}
}

func TestTheRanksOfTheRuleRiseAlongItsWalks(t *testing.T) {
	for _, g := range validGrids() {
		b := boardOf(g)
		var ranks []int
		for channel := range 4 * b.nodes {
			ranks = append(ranks, impl.RankRule(g, impl.RuleXY, channel))
		}
		places := placesOf(g)
		for from := range b.nodes {
			for to := range b.nodes {
				wantRises(t, ranks, b.follow(tableOfRule(g, impl.RuleXY), from, to), true)
				straight := places[from].x == places[to].x || places[from].y == places[to].y
				wantRises(t, ranks, b.follow(tableOfRule(g, impl.RuleYX), from, to), straight)
			}
		}
	}
}

func TestRisesAlongExamples(t *testing.T) {
	wantRises(t, nil, nil, true)
	wantRises(t, []int{}, []int{}, true)
	wantRises(t, []int{3}, nil, true)
	wantRises(t, nil, []int{0}, false)
	wantRises(t, []int{}, []int{0, 1}, false)
	wantRises(t, []int{3}, []int{0}, true)
	wantRises(t, []int{-3}, []int{0}, true)
	wantRises(t, []int{3}, []int{1}, false)
	wantRises(t, []int{3}, []int{-1}, false)
	wantRises(t, []int{3}, []int{0, 0}, false)
	wantRises(t, []int{3, 3}, []int{0, 1}, false)
	wantRises(t, []int{3, 4}, []int{0, 1}, true)
	wantRises(t, []int{3, 4}, []int{1, 0}, false)
	wantRises(t, []int{4, 3}, []int{1, 0}, true)
	wantRises(t, []int{0, 5, 9}, []int{0, 1, 2}, true)
	wantRises(t, []int{0, 5, 9}, []int{0, 2, 1}, false)
	wantRises(t, []int{0, 5, 9}, []int{1, 0, 2}, false)
	wantRises(t, []int{5, 0, 9}, []int{1, 0, 2}, true)
	wantRises(t, []int{5, 0, 9}, []int{1, 0, 2, 3}, false)
	wantRises(t, []int{5, 0, 9}, []int{1, 0, -1, 2}, false)
	wantRises(t, upTo(0, 127), upTo(0, 127), true)
	wantRises(t, upTo(0, 299), upTo(100, 299), true)
	wantRises(t, upTo(0, 127), upTo(0, 128), false)
	wantRises(t, backward(upTo(0, 127)), upTo(126, 127), false)
}

// The ranks of a channel are compared, not subtracted.
func TestRisesAlongExtremeRanks(t *testing.T) {
	ranks := []int{math.MinInt, math.MinInt + 1, -1, 0, 1, math.MaxInt - 1, math.MaxInt}
	wantRises(t, ranks, upTo(0, 6), true)
	for a := range ranks {
		for b := range ranks {
			wantRises(t, ranks, []int{a, b}, a < b)
			for c := range ranks {
				wantRises(t, ranks, []int{a, b, c}, a < b && b < c)
			}
		}
	}
}

func TestRisesAlongChannelsThatAreNoIndex(t *testing.T) {
	for _, size := range []int{0, 1, 2, 5, 128} {
		ranks := upTo(0, size-1)
		for _, channel := range append(channelNumbers(), 126, 127, 128, 129) {
			inside := channel >= 0 && channel < size
			wantRises(t, ranks, []int{channel}, inside)
			wantRises(t, ranks, []int{channel, channel}, false)
			for i := range size + 1 {
				wantRises(t, ranks, slices.Insert(slices.Clone(ranks), i, channel), false)
			}
		}
	}
}

func TestRisesAlongAllShortRoutes(t *testing.T) {
	var routes [][]int
	for _, s := range texts("abcde", 4) {
		var route []int
		for _, letter := range s {
			route = append(route, int(letter-'a')-1)
		}
		routes = append(routes, route)
	}
	for _, ranks := range [][]int{nil, {7}, {1, 2}, {2, 1}, {1, 1}, {1, 2, 3}, {3, 1, 2}, {2, 2, 1}, {1, 2, 1}, {4, -4, 0, 9}} {
		for _, route := range routes {
			var along []int
			for _, channel := range route {
				if channel >= 0 && channel < len(ranks) {
					along = append(along, ranks[channel])
				}
			}
			rises := slices.IsSorted(along) && distinct(along) == len(along)
			wantRises(t, ranks, route, rises && len(along) == len(route))
		}
	}
}

func TestOrderFunctionsKeepTheirArguments(t *testing.T) {
	spare := depends(77, 78, 79, 80)
	for _, list := range append(badDepends(), nil, depends(1, 1), depends(1, 0), depends(5, 1, 7, 5, 9, 7), chain(backward(upTo(0, 127))...)) {
		for _, ranks := range [][]int{upTo(0, 127), backward(upTo(0, 127)), upTo(0, 126), upTo(0, 128), slices.Repeat([]int{3}, 128), upTo(-1, 126), nil} {
			memory, numbers := slices.Concat(list, spare), slices.Concat(ranks, []int{-7, 500})
			route := []int{5, 3, 4, 77, 78}
			impl.OrderOf(memory[:len(list)])
			impl.IsOrder(memory[:len(list)], numbers[:len(ranks)])
			impl.RisesAlong(numbers[:len(ranks)], route[:3])
			if !slices.Equal(memory, slices.Concat(list, spare)) {
				t.Errorf("the list %v was changed to %v", list, memory)
			}
			if !slices.Equal(numbers, slices.Concat(ranks, []int{-7, 500})) || !slices.Equal(route, []int{5, 3, 4, 77, 78}) {
				t.Errorf("the ranks %v and a route were changed to %v and %v", ranks, numbers, route)
			}
		}
	}
}

// Ranks are overwritten up to their capacity, which must be seen neither in the argument nor in later results.
func TestAnOrderIsNewMemory(t *testing.T) {
	for _, list := range [][]impl.Depend{nil, depends(1, 0), depends(3, 7, 9, 3)} {
		kept := slices.Clone(list)
		first, _ := impl.OrderOf(list)
		second, _ := impl.OrderOf(list)
		want := slices.Clone(first)
		for i := range first[:cap(first)] {
			first[:cap(first)][i] = -7
		}
		if !slices.Equal(second, want) || !slices.Equal(list, kept) {
			t.Errorf("the order of %v shares memory with its argument or a later order", kept)
		}
		wantRanks(t, list, want)
	}
}
