package tests

import (
	"math"
	"math/rand/v2"
	"slices"
	"testing"

	"loop.example/g00984/impl"
)

// relation says for each two channels whether a packet that holds the first one can wait for the second one.
type relation [128][128]bool

// relationOf returns what some lists say together, and false if a channel is out of range.
func relationOf(lists ...[]impl.Depend) (*relation, bool) {
	var r relation
	for _, d := range slices.Concat(lists...) {
		if d.From < 0 || d.From > 127 || d.To < 0 || d.To > 127 {
			return nil, false
		}
		r[d.From][d.To] = true
	}
	return &r, true
}

// list names all that is true in a relation, in ascending order.
func (r *relation) list() []impl.Depend {
	var list []impl.Depend
	for from, row := range r {
		for to, waits := range row {
			if waits {
				list = append(list, impl.Depend{From: from, To: to})
			}
		}
	}
	return list
}

// isDepends reports whether a list is the one that its relation gives.
func isDepends(list []impl.Depend) bool {
	r, ok := relationOf(list)
	return ok && slices.Equal(r.list(), list)
}

// depends lists the dependencies between each two numbers.
func depends(channels ...int) []impl.Depend {
	var list []impl.Depend
	for i := 0; i < len(channels); i += 2 {
		list = append(list, impl.Depend{From: channels[i], To: channels[i+1]})
	}
	return list
}

// dependsOf looks at each three nodes in a row of each walk.
func (b board) dependsOf(ports []int) []impl.Depend {
	if !b.verdictOf(ports).ok {
		return nil
	}
	var r relation
	for from := range b.nodes {
		for to := range b.nodes {
			nodes := b.nodesOf(b.follow(ports, from, to))
			for i := 2; i < len(nodes); i++ {
				r[b.between(nodes[i-2], nodes[i-1])][b.between(nodes[i-1], nodes[i])] = true
			}
		}
	}
	return r.list()
}

// someDepends are lists of two elements at most, of channels inside, at and outside of the range.
func someDepends() [][]impl.Depend {
	var ends []impl.Depend
	for _, from := range []int{0, 1, 64, 127, -1, 128, 1 << 32, math.MaxInt, math.MinInt} {
		for _, to := range []int{0, 1, 63, 127, -1, 128, 1 << 32, math.MaxInt, math.MinInt} {
			ends = append(ends, impl.Depend{From: from, To: to})
		}
	}
	lists := [][]impl.Depend{nil, {}}
	for _, first := range ends {
		lists = append(lists, []impl.Depend{first})
		for _, second := range ends {
			lists = append(lists, []impl.Depend{first, second})
		}
	}
	return lists
}

// badDepends are lists that are not valid, with all that can be wrong.
func badDepends() [][]impl.Depend {
	return [][]impl.Depend{
		depends(3, 4, 3, 4),
		depends(3, 5, 3, 4),
		depends(4, 3, 3, 4),
		depends(1, 2, 3, 4, 5, 6, 5, 6),
		depends(1, 2, 3, 4, 5, 6, 5, 5),
		depends(1, 2, 3, 4, 5, 6, 4, 7),
		depends(1, 2, 1, 2, 3, 4, 5, 6),
		depends(1, 2, 3, 4, 2, 9, 5, 6),
		depends(-1, 0),
		depends(0, -1),
		depends(128, 127),
		depends(127, 128),
		depends(-1, 0, 3, 4, 5, 6),
		depends(3, -1, 3, 4, 5, 6),
		depends(3, 4, 4, 128, 5, 6),
		depends(3, 4, 5, 6, 128, 0),
		depends(math.MinInt, 0, 3, 4),
		depends(3, 4, 5, math.MaxInt),
		depends(3, 4, 5, 6+1<<32),
		depends(3+1<<32, 4),
	}
}

// randomDepends is a valid list; about one of so many pairs of channels below a limit is in it.
func randomDepends(r *rand.Rand, limit int, oneOf int) []impl.Depend {
	var chosen relation
	for from := range limit {
		for to := range limit {
			chosen[from][to] = r.IntN(oneOf) == 0
		}
	}
	return chosen.list()
}

// choices returns all parts of a list, each in the order of the list.
func choices(list []impl.Depend) [][]impl.Depend {
	var indexes []int
	for i := range list {
		indexes = append(indexes, i)
	}
	var all [][]impl.Depend
	for _, chosen := range subsets(indexes) {
		var part []impl.Depend
		for _, i := range chosen {
			part = append(part, list[i])
		}
		all = append(all, part)
	}
	return all
}

func wantDepends(t *testing.T, m impl.Mesh, ports []int, want []impl.Depend) {
	t.Helper()
	if got := impl.DependsOf(m, impl.Table{Ports: ports}); !slices.Equal(got, want) {
		t.Errorf("DependsOf(%v, %v) = %v; want %v", m, ports, got, want)
	}
}

func wantDependsOk(t *testing.T, list []impl.Depend, want bool) {
	t.Helper()
	if got := impl.DependsOk(list); got != want {
		t.Errorf("DependsOk(%v) = %v", list, got)
	}
}

// wantMerged checks two lists in both orders.
func wantMerged(t *testing.T, a []impl.Depend, b []impl.Depend, want []impl.Depend) {
	t.Helper()
	for _, got := range [][]impl.Depend{impl.MergeDepends(a, b), impl.MergeDepends(b, a)} {
		if !slices.Equal(got, want) {
			t.Errorf("MergeDepends of %v and %v is %v; want %v", a, b, got, want)
		}
	}
}

// wantMerging checks two lists, valid or not.
func wantMerging(t *testing.T, a []impl.Depend, b []impl.Depend) {
	t.Helper()
	if !isDepends(a) || !isDepends(b) {
		wantMerged(t, a, b, nil)
		return
	}
	both, _ := relationOf(a, b)
	wantMerged(t, a, b, both.list())
}

func wantSuccessors(t *testing.T, list []impl.Depend, channel int, want ...int) {
	t.Helper()
	if got := impl.SuccessorsOf(list, channel); !slices.Equal(got, want) {
		t.Errorf("SuccessorsOf(%v, %d) = %v; want %v", list, channel, got, want)
	}
}

func wantShifted(t *testing.T, list []impl.Depend, by int, want []impl.Depend) {
	t.Helper()
	if got := impl.ShiftDepends(list, by); !slices.Equal(got, want) {
		t.Errorf("ShiftDepends(%v, %d) = %v; want %v", list, by, got, want)
	}
}

// wantShifting checks a list, valid or not, with a number.
func wantShifting(t *testing.T, list []impl.Depend, by int) {
	t.Helper()
	if !isDepends(list) || by < -1000 || by > 1000 {
		wantShifted(t, list, by, nil)
		return
	}
	var moved []impl.Depend
	for _, d := range list {
		moved = append(moved, impl.Depend{From: d.From + by, To: d.To + by})
	}
	if _, ok := relationOf(moved); !ok {
		moved = nil
	}
	wantShifted(t, list, by, moved)
}

func TestDependExamples(t *testing.T) {
	square := impl.Mesh{Grid: impl.Grid{Width: 2, Height: 2}}
	wantDepends(t, square, rowsFirst(square.Grid), depends(1, 6, 7, 2, 9, 12, 15, 8))
	wantDepends(t, square, clockwise(), depends(1, 6, 6, 15, 8, 1, 15, 8))
	wantDepends(t, square, counterclockwise(), depends(2, 9, 7, 2, 9, 12, 12, 7))
	wantDepends(t, square, alongSnake(square.Grid), depends(1, 6, 6, 15, 9, 12, 12, 7))

	// Packets from two nodes need the channels 5 and 9 one after the other, and packets from one node need 1 and 5.
	wantDepends(t, impl.Mesh{Grid: impl.Grid{Width: 4, Height: 1}}, portsOfText("LEEE", "WLEE", "WWLE", "WWWL"), depends(1, 5, 5, 9, 11, 7, 15, 11))
	wantDepends(t, impl.Mesh{Grid: impl.Grid{Width: 1, Height: 3}}, portsOfText("LSS", "NLS", "NNL"), depends(2, 6, 8, 4))

	// Only packets from node 0 to node 1 take the detour, and they alone go from the south to the east and on to the north.
	wide := impl.Mesh{Grid: impl.Grid{Width: 3, Height: 2}}
	usual := depends(1, 5, 1, 6, 5, 10, 7, 2, 11, 6, 11, 7, 13, 16, 13, 17, 17, 20, 19, 12, 23, 16, 23, 19)
	wantDepends(t, wide, rowsFirst(wide.Grid), usual)
	detour := rowsFirst(wide.Grid)
	detour[0*6+1] = impl.South
	wantWalk(t, wide, detour, 0, 1, []int{2, 13, 16})
	wantDepends(t, wide, detour, slices.Insert(slices.Clone(usual), 2, impl.Depend{From: 2, To: 13}))
	wide.Broken = []int{2}
	wantDepends(t, wide, detour, nil)
}

func TestDependsOfTablesThatAreNotValid(t *testing.T) {
	noTables(func(m impl.Mesh, ports []int) { wantDepends(t, m, ports, nil) })
}

// Also, a turn is the change of port from one channel of a dependency to the other one.
func TestDependsOfManyTables(t *testing.T) {
	most := 0
	manyTables(func(b board, ports []int) {
		want := b.dependsOf(ports)
		most = max(most, len(want))
		wantDepends(t, b.mesh, ports, want)
		wantDependsOk(t, want, true)
		var turns []int
		for _, d := range want {
			if d.From%4 != d.To%4 {
				turns = append(turns, d.From%4*4+d.To%4)
			}
		}
		slices.Sort(turns)
		wantTurns(t, b.mesh, ports, slices.Compact(turns))
	})
	if most < 80 {
		t.Errorf("no table has more than %d dependencies", most)
	}
}

func TestDependsOfStandardTables(t *testing.T) {
	for _, g := range validGrids() {
		b := boardOf(g)
		straight := 2*g.Height*max(0, g.Width-2) + 2*g.Width*max(0, g.Height-2)
		corners := 4 * (g.Width - 1) * (g.Height - 1)
		for _, rule := range standardRules {
			x, _ := impl.StandardTable(g, rule)
			list := b.dependsOf(x.Ports)
			wantDepends(t, b.mesh, x.Ports, list)
			if (rule == impl.RuleXY || rule == impl.RuleYX) && len(list) != straight+corners {
				t.Errorf("rule %d has %d dependencies in %v; want %d", rule, len(list), g, straight+corners)
			}
		}
	}
}

func TestMeshesWithoutDepends(t *testing.T) {
	for _, g := range []impl.Grid{{Width: 1, Height: 1}, {Width: 2, Height: 1}, {Width: 1, Height: 2}} {
		wantDepends(t, impl.Mesh{Grid: g}, rowsFirst(g), nil)
	}
	for _, port := range []int{-1, impl.North, impl.East, impl.South, impl.West, impl.Local, 5} {
		wantDepends(t, impl.Mesh{Grid: impl.Grid{Width: 1, Height: 1}}, []int{port}, nil)
	}
}

// In a row or a column, each packet goes straight on, and packets in the two directions do not meet.
func TestDependsOfARowAndOfAColumn(t *testing.T) {
	for n := 1; n <= 4; n++ {
		var row, column []impl.Depend
		for node := range max(0, n-2) {
			row = append(row, depends(4*node+1, 4*node+5)...)
			column = append(column, depends(4*node+2, 4*node+6)...)
		}
		for node := 2; node < n; node++ {
			row = append(row, depends(4*node+3, 4*node-1)...)
			column = append(column, depends(4*node, 4*node-4)...)
		}
		inOrder := func(list []impl.Depend) []impl.Depend {
			r, _ := relationOf(list)
			return r.list()
		}
		wide, high := impl.Grid{Width: n, Height: 1}, impl.Grid{Width: 1, Height: n}
		wantDepends(t, impl.Mesh{Grid: wide}, rowsFirst(wide), inOrder(row))
		wantDepends(t, impl.Mesh{Grid: high}, rowsFirst(high), inOrder(column))
	}
}

func TestTheSecondChannelBeginsWhereTheFirstOneEnds(t *testing.T) {
	manyTables(func(b board, ports []int) {
		list := impl.DependsOf(b.mesh, impl.Table{Ports: ports})
		wantDependsOk(t, list, true)
		for _, d := range list {
			from, to := impl.NextNode(b.mesh.Grid, d.From/4, d.From%4), d.To/4
			if from != to || !impl.IsRoute(b.mesh, []int{d.From, d.To}) || !impl.HasChannel(b.mesh, d.From) || !impl.HasChannel(b.mesh, d.To) {
				t.Errorf("the dependency %v of %v in %v: the first channel ends at %d", d, ports, b.mesh, from)
			}
			if !slices.Contains(impl.SuccessorsOf(list, d.From), d.To) {
				t.Errorf("%d is not a successor of %d in %v", d.To, d.From, list)
			}
		}
	})
}

func TestDependsOkOfShortLists(t *testing.T) {
	wantDependsOk(t, depends(0, 0), true)
	wantDependsOk(t, depends(127, 127), true)
	wantDependsOk(t, depends(0, 0, 127, 127), true)
	wantDependsOk(t, depends(0, 127, 1, 0), true)
	wantDependsOk(t, depends(5, 5, 5, 6), true)
	wantDependsOk(t, depends(5, 6, 5, 5), false)
	wantDependsOk(t, depends(5, 6, 5, 6), false)
	wantDependsOk(t, depends(6, 5, 5, 6), false)
	for _, list := range someDepends() {
		wantDependsOk(t, list, isDepends(list))
	}
	for _, list := range badDepends() {
		wantDependsOk(t, list, false)
	}
}

func TestDependsOkWithOneOtherElement(t *testing.T) {
	list := depends(0, 0, 0, 127, 1, 1, 4, 6, 4, 7, 4, 9, 126, 3, 127, 0, 127, 127)
	wantDependsOk(t, list, true)
	for i := range list {
		for _, n := range append(channelNumbers(), 124, 125, 126, 127, 128, 129, 255, 256) {
			other := slices.Clone(list)
			other[i].From = n
			wantDependsOk(t, other, isDepends(other))
			other[i] = impl.Depend{From: list[i].From, To: n}
			wantDependsOk(t, other, isDepends(other))
		}
		for j := range list {
			swapped := slices.Clone(list)
			swapped[i], swapped[j] = list[j], list[i]
			wantDependsOk(t, swapped, i == j)
			wantDependsOk(t, slices.Insert(slices.Clone(list), i, list[j]), false)
		}
		wantDependsOk(t, slices.Delete(slices.Clone(list), i, i+1), true)
	}
}

func TestMergeExamples(t *testing.T) {
	wantMerged(t, nil, nil, nil)
	wantMerged(t, []impl.Depend{}, nil, nil)
	wantMerged(t, depends(1, 6), nil, depends(1, 6))
	wantMerged(t, depends(1, 6), []impl.Depend{}, depends(1, 6))
	wantMerged(t, depends(1, 6), depends(1, 6), depends(1, 6))
	wantMerged(t, depends(1, 6), depends(6, 1), depends(1, 6, 6, 1))
	wantMerged(t, depends(1, 6), depends(1, 5), depends(1, 5, 1, 6))
	wantMerged(t, depends(1, 6, 7, 2), depends(0, 9, 7, 2, 9, 0), depends(0, 9, 1, 6, 7, 2, 9, 0))
	wantMerged(t, depends(0, 0, 2, 2, 4, 4), depends(1, 1, 3, 3, 5, 5), depends(0, 0, 1, 1, 2, 2, 3, 3, 4, 4, 5, 5))
	wantMerged(t, depends(0, 0, 127, 127), depends(0, 127, 127, 0), depends(0, 0, 0, 127, 127, 0, 127, 127))
}

func TestMergingAllPartsOfAList(t *testing.T) {
	parts := choices(depends(0, 0, 0, 127, 3, 4, 3, 5, 4, 0, 127, 1))
	for _, a := range parts {
		for _, b := range parts {
			wantMerging(t, a, b)
		}
	}
}

func TestMergingListsThatAreNotValid(t *testing.T) {
	good := [][]impl.Depend{nil, {}, depends(3, 4), depends(1, 2, 3, 4, 5, 6), depends(0, 0, 127, 127)}
	for _, bad := range badDepends() {
		for _, other := range slices.Concat(good, badDepends()) {
			wantMerged(t, bad, other, nil)
		}
		wantMerged(t, bad, bad, nil)
	}
	for _, list := range someDepends() {
		wantMerging(t, list, list)
		wantMerging(t, list, depends(0, 1, 64, 63))
		wantMerging(t, list, nil)
	}
}

func TestMergingLongLists(t *testing.T) {
	r := rand.New(rand.NewPCG(8, 80))
	for _, limit := range []int{8, 64, 128} {
		for _, oneOf := range []int{2, 50, 1000} {
			a, b := randomDepends(r, limit, oneOf), randomDepends(r, limit, oneOf)
			wantMerging(t, a, b)
			wantMerging(t, a, a)
			wantMerging(t, a, impl.ShiftDepends(b, 128-limit))
			wantMerging(t, a, slices.Repeat(a, 2))
		}
	}
	all := randomDepends(r, 128, 1)
	wantMerging(t, all, all)
	wantMerging(t, all, nil)
	var even, odd []impl.Depend
	for i := 0; i < len(all); i += 2 {
		even, odd = append(even, all[i]), append(odd, all[i+1])
	}
	wantMerged(t, even, odd, all)
	wantMerged(t, all[:5000], all[4000:], all)
}

func TestSuccessorExamples(t *testing.T) {
	list := depends(1, 6, 1, 9, 7, 2, 9, 12, 15, 8)
	wantSuccessors(t, list, 1, 6, 9)
	wantSuccessors(t, list, 7, 2)
	wantSuccessors(t, list, 15, 8)
	for _, channel := range without(channelNumbers(), []int{1, 7, 9, 15}) {
		wantSuccessors(t, list, channel)
		wantSuccessors(t, nil, channel)
		wantSuccessors(t, []impl.Depend{}, channel)
	}
}

// The order of the list is kept, and an element that is in it twice counts twice.
func TestSuccessorsInListsThatAreNotValid(t *testing.T) {
	list := depends(5, 9, 3, 1, 5, 2, -1, 7, 5, 9, 5, -4, 128, 3, -1, 6, 5, math.MaxInt, math.MaxInt, 5, math.MinInt, math.MinInt)
	wantSuccessors(t, list, 5, 9, 2, 9, -4, math.MaxInt)
	wantSuccessors(t, list, 3, 1)
	wantSuccessors(t, list, -1, 7, 6)
	wantSuccessors(t, list, 128, 3)
	wantSuccessors(t, list, math.MaxInt, 5)
	wantSuccessors(t, list, math.MinInt, math.MinInt)
	for _, channel := range []int{0, 1, 2, 4, 6, 7, 9, -4, 127, 129, 5 + 1<<32, math.MaxInt - 1, math.MinInt + 1} {
		wantSuccessors(t, list, channel)
	}
	for _, list := range slices.Concat(someDepends(), badDepends()) {
		for _, channel := range []int{0, 1, 3, 5, 64, 127, -1, 128, math.MaxInt, math.MinInt} {
			var want []int
			for i := range list {
				if list[i].From == channel {
					want = append(want, list[i].To)
				}
			}
			wantSuccessors(t, list, channel, want...)
		}
	}
}

func TestShiftExamples(t *testing.T) {
	list := depends(1, 6, 7, 2)
	wantShifted(t, list, 0, list)
	wantShifted(t, list, 64, depends(65, 70, 71, 66))
	wantShifted(t, list, -1, depends(0, 5, 6, 1))
	wantShifted(t, list, -2, nil)
	wantShifted(t, list, 120, depends(121, 126, 127, 122))
	wantShifted(t, list, 121, nil)
	wantShifted(t, depends(2, 6), -2, depends(0, 4))
	wantShifted(t, depends(2, 6), -3, nil)
	wantShifted(t, depends(6, 2), -2, depends(4, 0))
	wantShifted(t, depends(6, 2), -3, nil)
	wantShifted(t, depends(2, 6), 121, depends(123, 127))
	wantShifted(t, depends(2, 6), 122, nil)
	wantShifted(t, depends(6, 2), 121, depends(127, 123))
	wantShifted(t, depends(6, 2), 122, nil)
	wantShifted(t, depends(0, 0), 127, depends(127, 127))
	wantShifted(t, depends(127, 127), -127, depends(0, 0))
}

func TestShiftingByAllNumbers(t *testing.T) {
	lists := [][]impl.Depend{nil, {}, depends(0, 0), depends(127, 127), depends(0, 127), depends(1, 6, 7, 2), depends(9, 50, 9, 51, 10, 0), depends(60, 61, 61, 60, 100, 99)}
	extremes := []int{math.MinInt, math.MinInt + 1, math.MinInt + 127, math.MaxInt, math.MaxInt - 1, math.MaxInt - 126, 1 << 32, -1 << 32, 1 << 62, -1 << 62}
	for _, list := range slices.Concat(lists, badDepends()) {
		for by := -1100; by <= 1100; by++ {
			wantShifting(t, list, by)
		}
		for _, by := range extremes {
			wantShifting(t, list, by)
		}
	}
}

// A list that is not valid is refused, also by a number that would move all of its channels into the range.
func TestShiftingListsThatAreNotValid(t *testing.T) {
	wantShifted(t, depends(-1, 0), 1, nil)
	wantShifted(t, depends(-1000, -999), 1000, nil)
	wantShifted(t, depends(128, 127), -1, nil)
	wantShifted(t, depends(1000, 1001), -1000, nil)
	wantShifted(t, depends(3, 4, 3, 4), 1, nil)
	for _, list := range someDepends() {
		for _, by := range []int{0, 1, -1, 63, -63, 64, -64, 126, 127, 128, -127, -128, 1000, -1000, 1001, -1001, math.MaxInt, math.MinInt} {
			wantShifting(t, list, by)
		}
	}
}

func TestShiftingDependsOfTables(t *testing.T) {
	for _, g := range validGrids() {
		for _, rule := range standardRules {
			x, _ := impl.StandardTable(g, rule)
			list := impl.DependsOf(impl.Mesh{Grid: g}, x)
			for by := -70; by <= 130; by++ {
				wantShifting(t, list, by)
			}
			wantShifted(t, impl.ShiftDepends(list, 64), -64, list)
			wantMerged(t, list, impl.ShiftDepends(list, 64), slices.Concat(list, impl.ShiftDepends(list, 64)))
		}
	}
}

func TestDependFunctionsKeepTheirArguments(t *testing.T) {
	spare := depends(77, 78, 79, 80)
	for _, a := range append(badDepends(), nil, depends(1, 6), depends(1, 6, 7, 2, 9, 12)) {
		for _, b := range append(badDepends(), nil, depends(0, 9, 8, 8, 99, 0), depends(7, 2)) {
			first, second := slices.Concat(a, spare), slices.Concat(b, spare)
			impl.MergeDepends(first[:len(a)], second[:len(b)])
			impl.DependsOk(first[:len(a)])
			for _, by := range []int{0, 1, -1, 64, 1000, -1000, 1001} {
				impl.ShiftDepends(first[:len(a)], by)
				impl.SuccessorsOf(first[:len(a)], by)
			}
			if !slices.Equal(first, slices.Concat(a, spare)) || !slices.Equal(second, slices.Concat(b, spare)) {
				t.Errorf("the lists %v and %v were changed to %v and %v", a, b, first, second)
			}
		}
	}
	ports, broken := append(clockwise(), 77, 78), []int{2, 7, 77, 78}
	m := impl.Mesh{Grid: impl.Grid{Width: 2, Height: 2}, Broken: broken[:2]}
	wantDepends(t, m, ports[:16], depends(1, 6, 6, 15, 8, 1, 15, 8))
	if !slices.Equal(ports, append(clockwise(), 77, 78)) || !slices.Equal(broken, []int{2, 7, 77, 78}) {
		t.Errorf("the arguments were changed to %v and %v", ports, broken)
	}
}

// Results are overwritten up to their capacity, which must be seen neither in the arguments nor in later results.
func TestAListOfDependsIsNewMemory(t *testing.T) {
	m := impl.Mesh{Grid: impl.Grid{Width: 3, Height: 3}}
	table := impl.Table{Ports: rowsFirst(m.Grid)}
	a, b := impl.DependsOf(m, table), depends(0, 0, 1, 5, 99, 98)
	keptA, keptB := slices.Clone(a), slices.Clone(b)
	for _, result := range []func() []impl.Depend{
		func() []impl.Depend { return impl.DependsOf(m, table) },
		func() []impl.Depend { return impl.MergeDepends(a, b) },
		func() []impl.Depend { return impl.MergeDepends(a, a) },
		func() []impl.Depend { return impl.MergeDepends(a, nil) },
		func() []impl.Depend { return impl.MergeDepends(nil, a) },
		func() []impl.Depend { return impl.MergeDepends(a[:5], a[2:]) },
		func() []impl.Depend { return impl.ShiftDepends(a, 0) },
		func() []impl.Depend { return impl.ShiftDepends(a, 64) },
	} {
		first, second := result(), result()
		want := slices.Clone(first)
		for i := range first[:cap(first)] {
			first[:cap(first)][i] = impl.Depend{From: -7, To: -7}
		}
		if !slices.Equal(second, want) || !slices.Equal(result(), want) || !slices.Equal(a, keptA) || !slices.Equal(b, keptB) {
			t.Errorf("the result %v shares memory with an argument or a later result", want)
		}
	}
	successors := impl.SuccessorsOf(a, 1)
	wantSuccessors(t, a, 1, 5, 6)
	for i := range successors[:cap(successors)] {
		successors[:cap(successors)][i] = -7
	}
	wantSuccessors(t, keptA, 1, 5, 6)
	wantSuccessors(t, a, 1, 5, 6)
}
