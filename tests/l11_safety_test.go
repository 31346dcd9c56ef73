package tests

import (
	"math"
	"math/rand/v2"
	"slices"
	"testing"

	"loop.example/g00984/impl"
)

// matter is a mesh and a table with all that a verdict on them depends on: whether they are valid, and the dependencies if they are.
type matter struct {
	mesh     impl.Mesh
	ports    []int
	ok       bool
	list     []impl.Depend
	inCircle bool
}

// matterOf finds out about a table of a valid mesh.
func (b board) matterOf(ports []int) matter {
	list := b.dependsOf(ports)
	return matter{b.mesh, ports, b.verdictOf(ports).ok, list, isCyclic(list)}
}

// check says what CheckTable must return.
func (x matter) check() impl.Verdict {
	switch {
	case !x.ok:
		return impl.Verdict{Code: impl.VdBad}
	case x.inCircle:
		return cyclic(impl.ShortestCycle(x.list)...)
	}
	ranks, _ := impl.OrderOf(x.list)
	return safe(ranks)
}

// proves says what ProvesVerdict must return.
func (x matter) proves(v impl.Verdict) bool {
	switch {
	case !x.ok:
		return v.Code == impl.VdBad && len(v.Ranks)+len(v.Cycle) == 0
	case len(v.Cycle) == 0:
		return v.Code == impl.VdSafe && isRanking(x.list, v.Ranks)
	}
	return v.Code == impl.VdCyclic && len(v.Ranks) == 0 && isCircle(x.list, v.Cycle)
}

func safe(ranks []int) impl.Verdict {
	return impl.Verdict{Code: impl.VdSafe, Ranks: ranks}
}

func cyclic(cycle ...int) impl.Verdict {
	return impl.Verdict{Code: impl.VdCyclic, Cycle: cycle}
}

func sameVerdict(a impl.Verdict, b impl.Verdict) bool {
	return a.Code == b.Code && slices.Equal(a.Ranks, b.Ranks) && slices.Equal(a.Cycle, b.Cycle)
}

func cloneVerdict(v impl.Verdict) impl.Verdict {
	return impl.Verdict{Code: v.Code, Ranks: slices.Clone(v.Ranks), Cycle: slices.Clone(v.Cycle)}
}

// codes are those of verdicts, and others just outside of the range and far away.
func codes() []int {
	return []int{impl.VdBad, impl.VdSafe, impl.VdCyclic, -1, 3, -2, 4, 256, 257, 258, 1 << 32, 1<<32 + 1, 1<<32 + 2, math.MaxInt, math.MinInt}
}

// wantCheck checks the verdict on a table, and that it proves itself.
func wantCheck(t *testing.T, m impl.Mesh, ports []int, want impl.Verdict) {
	t.Helper()
	got := impl.CheckTable(m, impl.Table{Ports: ports})
	if !sameVerdict(got, want) {
		t.Errorf("CheckTable(%v, %v) = %v; want %v", m, ports, got, want)
	}
	wantProof(t, m, ports, got, true)
}

func wantProof(t *testing.T, m impl.Mesh, ports []int, v impl.Verdict, want bool) {
	t.Helper()
	if got := impl.ProvesVerdict(m, impl.Table{Ports: ports}, v); got != want {
		t.Errorf("ProvesVerdict(%v, %v, %v) = %v", m, ports, v, got)
	}
}

// wantOnlyBad checks that a table or a mesh is found to be bad, and that proofs of any other verdict are refused.
func wantOnlyBad(t *testing.T, m impl.Mesh, ports []int) {
	t.Helper()
	wantCheck(t, m, ports, impl.Verdict{Code: impl.VdBad})
	wantProof(t, m, ports, safe(upTo(0, 127)), false)
	wantProof(t, m, ports, safe(nil), false)
	wantProof(t, m, ports, cyclic(1, 6, 15, 8), false)
	wantProof(t, m, ports, cyclic(), false)
	wantProof(t, m, ports, impl.Verdict{Code: impl.VdBad, Ranks: upTo(0, 127)}, false)
	wantProof(t, m, ports, impl.Verdict{Code: impl.VdBad, Cycle: []int{1, 6, 15, 8}}, false)
}

// twoCycles is a table of a grid of 3x2 nodes: most packets go around all nodes, and some turn back to the west halfway.
func twoCycles() (board, []int) {
	return boardOf(impl.Grid{Width: 3, Height: 2}), portsOfText("LEEEEE", "ELESSE", "SSLSSS", "NNNLNN", "WWWWLW", "WWWWWL")
}

// safeMatters are tables that cannot deadlock.
func safeMatters() []matter {
	square := impl.Grid{Width: 2, Height: 2}
	all := []matter{boardOf(square, 2, 8).matterOf(alongSnake(square))}
	for _, g := range []impl.Grid{{Width: 1, Height: 1}, {Width: 4, Height: 1}, {Width: 1, Height: 3}, square, {Width: 3, Height: 3}} {
		all = append(all, boardOf(g).matterOf(rowsFirst(g)), boardOf(g).matterOf(alongSnake(g)))
	}
	large := impl.Grid{Width: 4, Height: 4}
	return append(all, boardOf(large).matterOf(tableOfRule(large, impl.RuleWest)), boardOf(large).matterOf(tableOfRule(large, impl.RuleYX)))
}

// cyclicMatters are tables that can deadlock.
func cyclicMatters() []matter {
	square := impl.Grid{Width: 2, Height: 2}
	all := []matter{
		boardOf(square).matterOf(clockwise()),
		boardOf(square).matterOf(counterclockwise()),
		boardOf(square, 2, 7, 9, 12).matterOf(clockwise()),
	}
	for _, g := range circleGrids() {
		all = append(all, boardOf(g).matterOf(alongCircle(boardOf(g), circleOf(g))))
	}
	for _, g := range []impl.Grid{{Width: 3, Height: 2}, {Width: 4, Height: 4}} {
		all = append(all, boardOf(g).matterOf(tableOfRule(g, impl.RuleMixed)))
	}
	b, ports := twoCycles()
	return append(all, b.matterOf(ports))
}

// badMatters are tables that are not valid, each for another reason, and tables of meshes that are not valid.
func badMatters() []matter {
	b := boardOf(impl.Grid{Width: 2, Height: 2})
	return []matter{
		b.matterOf(nil),
		b.matterOf(clockwise()[:15]),
		b.matterOf(append(clockwise(), impl.Local)),
		b.matterOf(slices.Replace(clockwise(), 1, 2, 5)),
		b.matterOf(slices.Replace(clockwise(), 1, 2, -1)),
		b.matterOf(slices.Replace(clockwise(), 0, 1, impl.East)),
		b.matterOf(slices.Replace(clockwise(), 7, 8, impl.Local)),
		b.matterOf(slices.Replace(clockwise(), 7, 8, impl.East)),
		b.matterOf(turnedBack(b, 1, 3)),
		b.matterOf(slices.Repeat([]int{impl.Local}, 16)),
		boardOf(b.mesh.Grid, 6).matterOf(clockwise()),
		boardOf(b.mesh.Grid, 1, 2, 6, 7, 8, 9, 12, 15).matterOf(rowsFirst(b.mesh.Grid)),
		{mesh: impl.Mesh{}, ports: nil},
		{mesh: impl.Mesh{}, ports: clockwise()},
		{mesh: impl.Mesh{Grid: impl.Grid{Width: -2, Height: -2}}, ports: clockwise()},
		{mesh: impl.Mesh{Grid: impl.Grid{Width: 1, Height: 5}}, ports: slices.Repeat([]int{impl.Local}, 25)},
		{mesh: impl.Mesh{Grid: b.mesh.Grid, Broken: []int{0}}, ports: rowsFirst(b.mesh.Grid)},
		{mesh: impl.Mesh{Grid: b.mesh.Grid, Broken: []int{7, 2}}, ports: clockwise()},
		{mesh: impl.Mesh{Grid: b.mesh.Grid, Broken: []int{7, 7}}, ports: clockwise()},
		{mesh: impl.Mesh{Grid: b.mesh.Grid, Broken: []int{-1}}, ports: clockwise()},
	}
}

func allMatters() []matter {
	return slices.Concat(safeMatters(), cyclicMatters(), badMatters())
}

func TestVerdictCodes(t *testing.T) {
	if impl.VdBad != 0 || impl.VdSafe != 1 || impl.VdCyclic != 2 {
		t.Error("the codes are not those of the document", impl.VdBad, impl.VdSafe, impl.VdCyclic)
	}
}

func TestVerdictExamples(t *testing.T) {
	square := impl.Mesh{Grid: impl.Grid{Width: 2, Height: 2}}
	order := ranksIn(0, 1, 3, 4, 5, 6, 7, 2, 9, 10, 11, 12, 13, 14, 15, 8)
	wantCheck(t, square, rowsFirst(square.Grid), safe(order))
	wantCheck(t, square, clockwise(), cyclic(1, 6, 15, 8))
	wantCheck(t, square, counterclockwise(), cyclic(2, 9, 12, 7))
	wantOnlyBad(t, square, nil)
	wantOnlyBad(t, square, []int{})

	// The table needs none of these channels, and then it needs one of them.
	square.Broken = []int{2, 7, 9, 12}
	wantCheck(t, square, clockwise(), cyclic(1, 6, 15, 8))
	square.Broken = []int{2, 7, 9, 12, 15}
	wantOnlyBad(t, square, clockwise())
	// These are not needed by packets that go along the snake 0, 1, 3, 2.
	square.Broken = []int{2, 8}
	wantCheck(t, square, portsOfText("LEEE", "WLSS", "EELE", "NNWL"), safe(ranksIn(slices.Concat(upTo(0, 6), upTo(8, 12), []int{7})...)))
	wantOnlyBad(t, square, rowsFirst(square.Grid))
}

// Packets that never turn from one channel into another wait for nothing.
func TestVerdictsOfGridsOfOneRowOrColumn(t *testing.T) {
	wantCheck(t, impl.Mesh{Grid: impl.Grid{Width: 1, Height: 1}}, []int{impl.Local}, safe(upTo(0, 127)))
	for _, port := range without(channelNumbers(), []int{impl.Local}) {
		wantOnlyBad(t, impl.Mesh{Grid: impl.Grid{Width: 1, Height: 1}}, []int{port})
	}
	wantCheck(t, impl.Mesh{Grid: impl.Grid{Width: 2, Height: 1}}, portsOfText("LE", "WL"), safe(upTo(0, 127)))
	wantCheck(t, impl.Mesh{Grid: impl.Grid{Width: 1, Height: 2}}, portsOfText("LS", "NL"), safe(upTo(0, 127)))
	row := impl.Mesh{Grid: impl.Grid{Width: 4, Height: 1}}
	wantCheck(t, row, rowsFirst(row.Grid), safe(ranksIn(slices.Concat(upTo(0, 6), upTo(8, 10), upTo(12, 15), []int{11, 7})...)))
	column := impl.Mesh{Grid: impl.Grid{Width: 1, Height: 4}}
	wantCheck(t, column, rowsFirst(column.Grid), safe(ranksIn(slices.Concat(upTo(0, 3), upTo(5, 7), upTo(9, 12), []int{8, 4})...)))
}

func TestVerdictsOfAllKinds(t *testing.T) {
	for code, matters := range [][]matter{badMatters(), safeMatters(), cyclicMatters()} {
		for _, x := range matters {
			if x.check().Code != code {
				t.Fatalf("%v is not of the kind %d", x, code)
			}
			wantCheck(t, x.mesh, x.ports, x.check())
			if code == impl.VdBad {
				wantOnlyBad(t, x.mesh, x.ports)
			}
		}
	}
}

func TestVerdictsOfManyTables(t *testing.T) {
	var found [3]int
	manyTables(func(b board, ports []int) {
		x := b.matterOf(ports)
		v := x.check()
		wantCheck(t, b.mesh, ports, v)
		found[v.Code]++
		for _, code := range codes() {
			other := impl.Verdict{Code: code, Ranks: v.Ranks, Cycle: v.Cycle}
			wantProof(t, b.mesh, ports, other, code == v.Code)
		}
	})
	if slices.Min(found[:]) < 100 {
		t.Errorf("some kind of verdict was hardly tried: %v", found)
	}
}

func TestVerdictsOfTablesThatAreNotValid(t *testing.T) {
	noTables(func(m impl.Mesh, ports []int) {
		wantOnlyBad(t, m, ports)
	})
}

// Every verdict proves itself, and no verdict proves what is true of another mesh or another table only.
func TestVerdictsOfOtherTables(t *testing.T) {
	all := allMatters()
	proved, refused := 0, 0
	for _, x := range all {
		v := impl.CheckTable(x.mesh, impl.Table{Ports: x.ports})
		for _, y := range all {
			want := y.proves(v)
			wantProof(t, y.mesh, y.ports, v, want)
			if want {
				proved++
			} else {
				refused++
			}
		}
	}
	if proved < 2*len(all) || refused < 10*len(all) {
		t.Errorf("%d verdicts were proved and %d were refused", proved, refused)
	}
}

func TestVerdictsOfOtherMeshesAndTables(t *testing.T) {
	square := impl.Mesh{Grid: impl.Grid{Width: 2, Height: 2}}
	v, w := impl.CheckTable(square, impl.Table{Ports: rowsFirst(square.Grid)}), impl.CheckTable(square, impl.Table{Ports: clockwise()})
	wantProof(t, square, clockwise(), v, false)
	wantProof(t, square, rowsFirst(square.Grid), w, false)
	wantProof(t, square, counterclockwise(), w, false)
	wantProof(t, square, tableOfRule(square.Grid, impl.RuleYX), v, false)
	for _, channel := range channelsOf(square.Grid) {
		broken := impl.Mesh{Grid: square.Grid, Broken: []int{channel}}
		wantProof(t, broken, rowsFirst(square.Grid), v, false)
		wantProof(t, broken, clockwise(), w, !slices.Contains(w.Cycle, channel))
		wantProof(t, broken, rowsFirst(square.Grid), impl.Verdict{}, true)
		wantProof(t, broken, clockwise(), impl.Verdict{}, slices.Contains(w.Cycle, channel))
	}
	// The ranks that need nothing are those of a table whose dependencies all rise by themselves, too.
	nothing := impl.CheckTable(impl.Mesh{Grid: impl.Grid{Width: 1, Height: 1}}, impl.Table{Ports: []int{impl.Local}})
	wantProof(t, impl.Mesh{Grid: impl.Grid{Width: 2, Height: 1}}, portsOfText("LE", "WL"), nothing, true)
	wantProof(t, square, rowsFirst(square.Grid), nothing, false)
	wantProof(t, impl.Mesh{Grid: impl.Grid{Width: 3, Height: 1}}, portsOfText("LEE", "WLE", "WWL"), nothing, false)
	wantProof(t, impl.Mesh{Grid: impl.Grid{Width: 3, Height: 1}}, portsOfText("LEE", "WLE", "WWL"), safe(ranksIn(11, 7)), true)
}

func TestVerdictsWithAnotherCode(t *testing.T) {
	for _, x := range allMatters() {
		v := impl.CheckTable(x.mesh, impl.Table{Ports: x.ports})
		for _, code := range codes() {
			for _, other := range []impl.Verdict{{Code: code, Ranks: v.Ranks, Cycle: v.Cycle}, {Code: code}} {
				wantProof(t, x.mesh, x.ports, other, sameVerdict(other, v))
			}
			// A code that there is not proves nothing, whatever comes with it.
			if code < 0 || code > 2 {
				wantProof(t, x.mesh, x.ports, impl.Verdict{Code: code, Ranks: upTo(0, 127)}, false)
				wantProof(t, x.mesh, x.ports, impl.Verdict{Code: code, Cycle: []int{1, 6, 15, 8}}, false)
			}
		}
	}
}

func TestVerdictsWithOneOtherRank(t *testing.T) {
	for _, x := range safeMatters() {
		v := impl.CheckTable(x.mesh, impl.Table{Ports: x.ports})
		for channel, rank := range v.Ranks {
			for _, wrong := range []int{-1, 128, rank - 1, rank + 1, (rank + 64) % 128, 127 - rank, rank + 256, rank + 1<<32, math.MaxInt, math.MinInt} {
				other := cloneVerdict(v)
				other.Ranks[channel] = wrong
				wantProof(t, x.mesh, x.ports, other, false)
			}
		}
	}
}

// Two ranks may be exchanged if no dependency lies between them: then, the ranks are an order, but not the one of OrderOf.
func TestVerdictsWithExchangedRanks(t *testing.T) {
	for _, x := range safeMatters() {
		v := impl.CheckTable(x.mesh, impl.Table{Ports: x.ports})
		proved := 0
		for _, d := range x.list {
			other := cloneVerdict(v)
			other.Ranks[d.From], other.Ranks[d.To] = v.Ranks[d.To], v.Ranks[d.From]
			wantProof(t, x.mesh, x.ports, other, false)
		}
		for a := 0; a < 128; a += 3 {
			for b := a % 5; b < a; b += 5 {
				other := cloneVerdict(v)
				other.Ranks[a], other.Ranks[b] = v.Ranks[b], v.Ranks[a]
				want := x.proves(other)
				wantProof(t, x.mesh, x.ports, other, want)
				if want {
					proved++
				}
			}
		}
		if proved == 0 {
			t.Errorf("no two ranks of %v could be exchanged", x)
		}
	}
}

func TestVerdictsWithTooFewOrTooManyRanks(t *testing.T) {
	for _, x := range safeMatters() {
		v := impl.CheckTable(x.mesh, impl.Table{Ports: x.ports})
		for i := range 128 {
			wantProof(t, x.mesh, x.ports, safe(slices.Delete(slices.Clone(v.Ranks), i, i+1)), false)
			for _, rank := range []int{-1, 0, 127, 128, v.Ranks[i]} {
				wantProof(t, x.mesh, x.ports, safe(slices.Insert(slices.Clone(v.Ranks), i, rank)), false)
				wantProof(t, x.mesh, x.ports, safe(append(slices.Clone(v.Ranks), rank)), false)
			}
			wantProof(t, x.mesh, x.ports, safe(v.Ranks[:i]), false)
		}
		wantProof(t, x.mesh, x.ports, safe(slices.Repeat(v.Ranks, 2)), false)
		wantProof(t, x.mesh, x.ports, safe(backward(v.Ranks)), x.proves(safe(backward(v.Ranks))))
	}
}

// Ranks that rise along all dependencies are a proof, whichever they are.
func TestVerdictsWithAnotherOrder(t *testing.T) {
	r := rand.New(rand.NewPCG(11, 1))
	for _, x := range safeMatters() {
		for range 20 {
			var sequence []int
			for len(sequence) < 128 {
				var free []int
				for _, channel := range without(upTo(0, 127), sequence) {
					if !slices.ContainsFunc(x.list, func(d impl.Depend) bool { return d.To == channel && !slices.Contains(sequence, d.From) }) {
						free = append(free, channel)
					}
				}
				sequence = append(sequence, free[r.IntN(len(free))])
			}
			wantProof(t, x.mesh, x.ports, safe(ranksIn(sequence...)), true)
			// The sequence itself is not a list of ranks.
			wantProof(t, x.mesh, x.ports, safe(sequence), x.proves(safe(sequence)))
		}
	}
}

func TestVerdictsWithAnotherCycle(t *testing.T) {
	for _, x := range cyclicMatters() {
		v := impl.CheckTable(x.mesh, impl.Table{Ports: x.ports})
		for at, channel := range v.Cycle {
			wantProof(t, x.mesh, x.ports, cyclic(turned(v.Cycle, at)...), true)
			wantProof(t, x.mesh, x.ports, cyclic(backward(turned(v.Cycle, at))...), false)
			wantProof(t, x.mesh, x.ports, cyclic(slices.Delete(slices.Clone(v.Cycle), at, at+1)...), false)
			wantProof(t, x.mesh, x.ports, cyclic(v.Cycle[:at]...), false)
			wantProof(t, x.mesh, x.ports, cyclic(v.Cycle[at+1:]...), false)
			wantProof(t, x.mesh, x.ports, cyclic(slices.Insert(slices.Clone(v.Cycle), at, channel)...), false)
			exchanged := slices.Clone(v.Cycle)
			exchanged[at], exchanged[(at+1)%len(exchanged)] = exchanged[(at+1)%len(exchanged)], exchanged[at]
			wantProof(t, x.mesh, x.ports, cyclic(exchanged...), false)
			for _, wrong := range append(channelNumbers(), 127, 128, channel+64, channel+128, channel+1<<32) {
				other := slices.Clone(v.Cycle)
				other[at] = wrong
				wantProof(t, x.mesh, x.ports, cyclic(other...), x.proves(cyclic(other...)))
			}
		}
		wantProof(t, x.mesh, x.ports, cyclic(slices.Repeat(v.Cycle, 2)...), false)
		wantProof(t, x.mesh, x.ports, cyclic(append(slices.Clone(v.Cycle), v.Cycle[0])...), false)
		wantProof(t, x.mesh, x.ports, cyclic(upTo(0, 127)...), false)
	}
}

// A cycle is a proof even if there is a shorter one, or one with lesser channels.
func TestVerdictsWithACycleThatIsNotTheShortestOne(t *testing.T) {
	b, ports := twoCycles()
	wantCheck(t, b.mesh, ports, cyclic(1, 6, 19, 12))
	for at := range 6 {
		wantProof(t, b.mesh, ports, cyclic(turned([]int{1, 5, 10, 23, 19, 12}, at)...), true)
	}
	wantProof(t, b.mesh, ports, cyclic(1, 5, 10, 23, 19), false)
	wantProof(t, b.mesh, ports, cyclic(1, 6, 19, 12, 1, 5, 10, 23, 19, 12), false)

	mixed := impl.Grid{Width: 3, Height: 3}
	x := boardOf(mixed).matterOf(tableOfRule(mixed, impl.RuleMixed))
	longest := 0
	for _, d := range x.list {
		steps := impl.StepsBetween(x.list, d.To, d.From)
		if steps < 0 {
			continue
		}
		cycle := []int{d.From}
		for channel := d.To; channel != d.From; {
			cycle = append(cycle, channel)
			channel = nearer(x.list, channel, d.From)
		}
		wantProof(t, x.mesh, x.ports, cyclic(cycle...), true)
		longest = max(longest, len(cycle))
	}
	if longest <= len(impl.ShortestCycle(x.list)) {
		t.Errorf("the longest cycle that was tried has %d channels", longest)
	}
}

// nearer returns a successor of a channel from which fewer steps lead on to another one.
func nearer(list []impl.Depend, channel int, to int) int {
	best := to
	for _, next := range impl.SuccessorsOf(list, channel) {
		if next == to {
			return to
		}
		if impl.StepsBetween(list, next, to)+1 == impl.StepsBetween(list, channel, to) {
			best = next
		}
	}
	return best
}

// A list that does not belong to the verdict spoils it, even if it is right by itself or only one number.
func TestVerdictsWithBothLists(t *testing.T) {
	lists := [][]int{{0}, {-1}, {1, 6, 15, 8}, upTo(0, 127), slices.Repeat([]int{0}, 128)}
	for _, x := range allMatters() {
		v := impl.CheckTable(x.mesh, impl.Table{Ports: x.ports})
		for _, code := range codes() {
			for _, list := range lists {
				if len(v.Cycle) == 0 {
					wantProof(t, x.mesh, x.ports, impl.Verdict{Code: code, Ranks: v.Ranks, Cycle: list}, false)
				}
				if len(v.Ranks) == 0 {
					wantProof(t, x.mesh, x.ports, impl.Verdict{Code: code, Ranks: list, Cycle: v.Cycle}, false)
				}
				for _, cycle := range lists {
					wantProof(t, x.mesh, x.ports, impl.Verdict{Code: code, Ranks: list, Cycle: cycle}, false)
				}
			}
		}
	}
}

// Proofs that change their places, or stay away, are none.
func TestVerdictsWithExchangedLists(t *testing.T) {
	for _, x := range slices.Concat(safeMatters(), cyclicMatters()) {
		v := impl.CheckTable(x.mesh, impl.Table{Ports: x.ports})
		for _, code := range codes() {
			wantProof(t, x.mesh, x.ports, impl.Verdict{Code: code, Ranks: v.Cycle, Cycle: v.Ranks}, false)
			wantProof(t, x.mesh, x.ports, impl.Verdict{Code: code}, false)
			wantProof(t, x.mesh, x.ports, impl.Verdict{Code: code, Ranks: []int{}, Cycle: []int{}}, false)
		}
	}
}

func TestNilAndEmptyListsOfVerdictsAreAlike(t *testing.T) {
	for _, x := range allMatters() {
		v := impl.CheckTable(x.mesh, impl.Table{Ports: x.ports})
		for _, empty := range [][]int{nil, {}} {
			other := cloneVerdict(v)
			if len(v.Ranks) == 0 {
				other.Ranks = empty
			}
			if len(v.Cycle) == 0 {
				other.Cycle = empty
			}
			wantProof(t, x.mesh, x.ports, other, true)
		}
		if len(x.ports) == 0 {
			wantCheck(t, x.mesh, []int{}, v)
			wantCheck(t, x.mesh, nil, v)
		}
		if len(x.mesh.Broken) == 0 {
			wantCheck(t, impl.Mesh{Grid: x.mesh.Grid, Broken: []int{}}, x.ports, v)
			wantProof(t, impl.Mesh{Grid: x.mesh.Grid, Broken: nil}, x.ports, v, true)
		}
	}
}

func TestVerdictName(t *testing.T) {
	names := map[int]string{0: "bad", 1: "safe", 2: "cyclic"}
	for _, code := range append(codes(), channelNumbers()...) {
		if got := impl.VerdictName(code); got != names[code] {
			t.Errorf("VerdictName(%d) = %q; want %q", code, got, names[code])
		}
	}
}

func TestSafeRules(t *testing.T) {
	for _, g := range validGrids() {
		// The rule that mixes two others needs three columns and two rows for a cycle.
		want := []int{impl.RuleXY, impl.RuleYX, impl.RuleWest}
		if g.Width < 3 || g.Height < 2 {
			want = append(want, impl.RuleMixed)
		}
		if got := impl.SafeRules(g); !slices.Equal(got, want) {
			t.Errorf("SafeRules(%v) = %v; want %v", g, got, want)
		}
	}
	for _, g := range invalidGrids() {
		if got := impl.SafeRules(g); len(got) != 0 {
			t.Errorf("SafeRules(%v) = %v", g, got)
		}
	}
}

func TestVerdictsOfStandardTables(t *testing.T) {
	dependsOfRules(func(g impl.Grid, rule int, list []impl.Depend) {
		x := boardOf(g).matterOf(tableOfRule(g, rule))
		wantCheck(t, x.mesh, x.ports, x.check())
		if got := slices.Contains(impl.SafeRules(g), rule); got == isCyclic(list) {
			t.Errorf("the rule %d is safe on %v: %v", rule, g, got)
		}
		if x.check().Code != impl.VdSafe {
			return
		}
		// The ranks rise along all walks, so that packets never wait for each other in a circle.
		ranks := impl.CheckTable(x.mesh, impl.Table{Ports: x.ports}).Ranks
		for from := range g.Width * g.Height {
			for to := range g.Width * g.Height {
				wantRises(t, ranks, boardOf(g).follow(x.ports, from, to), true)
			}
		}
	})
}

func TestVerdictFunctionsKeepTheirArguments(t *testing.T) {
	spare := []int{77, -7, 500}
	for _, x := range allMatters() {
		for _, v := range []impl.Verdict{x.check(), safe(upTo(0, 127)), safe(backward(upTo(0, 127))), cyclic(15, 8, 1, 6), {Code: impl.VdBad, Ranks: []int{3}, Cycle: []int{5}}} {
			kept := [][]int{slices.Concat(x.mesh.Broken, spare), slices.Concat(x.ports, spare), slices.Concat(v.Ranks, spare), slices.Concat(v.Cycle, spare)}
			var memory [][]int
			for _, list := range kept {
				memory = append(memory, slices.Clone(list))
			}
			m := impl.Mesh{Grid: x.mesh.Grid, Broken: memory[0][:len(x.mesh.Broken)]}
			table := impl.Table{Ports: memory[1][:len(x.ports)]}
			impl.CheckTable(m, table)
			impl.ProvesVerdict(m, table, impl.Verdict{Code: v.Code, Ranks: memory[2][:len(v.Ranks)], Cycle: memory[3][:len(v.Cycle)]})
			for i, list := range memory {
				if !slices.Equal(list, kept[i]) {
					t.Errorf("an argument was changed from %v to %v", kept[i], list)
				}
			}
		}
	}
}

// overwrite fills a list up to its capacity.
func overwrite(list []int) {
	for i := range list[:cap(list)] {
		list[:cap(list)][i] = -7
	}
}

// Results are overwritten up to their capacity, which must be seen neither in the arguments nor in later results.
func TestAVerdictIsNewMemory(t *testing.T) {
	for _, x := range allMatters() {
		ports, broken := slices.Clone(x.ports), slices.Clone(x.mesh.Broken)
		first, second := impl.CheckTable(x.mesh, impl.Table{Ports: x.ports}), impl.CheckTable(x.mesh, impl.Table{Ports: x.ports})
		overwrite(first.Ranks)
		overwrite(first.Cycle)
		if !slices.Equal(ports, x.ports) || !slices.Equal(broken, x.mesh.Broken) || !sameVerdict(second, x.check()) {
			t.Errorf("the verdict on %v in %v shares memory with an argument or a later verdict", ports, x.mesh)
		}
		wantCheck(t, x.mesh, x.ports, x.check())
	}
	for _, g := range validGrids() {
		first, second := impl.SafeRules(g), impl.SafeRules(g)
		want := slices.Clone(first)
		overwrite(first)
		if !slices.Equal(second, want) || !slices.Equal(impl.SafeRules(g), want) {
			t.Errorf("the rules that are safe on %v share memory with later ones", g)
		}
	}
}
