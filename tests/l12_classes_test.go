package tests

import (
	"slices"
	"testing"

	"loop.example/g00984/impl"
)

func classes(a []int, b []int) impl.Classes {
	return impl.Classes{A: impl.Table{Ports: a}, B: impl.Table{Ports: b}}
}

func sameClasses(a impl.Classes, b impl.Classes) bool {
	return slices.Equal(a.A.Ports, b.A.Ports) && slices.Equal(a.B.Ports, b.B.Ports)
}

// raised adds 64 to each number: to channels, and to the ranks of channels that all come after 64 others.
func raised(list []int) []int {
	var all []int
	for _, n := range list {
		all = append(all, n+64)
	}
	return all
}

// dependsWith says what ClassDepends must return for the tables of two matters in one mesh.
// The channels of the class 1 are all greater than those of the class 0, and so its dependencies follow.
func (x matter) dependsWith(y matter) []impl.Depend {
	if !x.ok || !y.ok {
		return nil
	}
	all := slices.Clone(x.list)
	for _, d := range y.list {
		all = append(all, impl.Depend{From: d.From + 64, To: d.To + 64})
	}
	return all
}

// checkWith says what CheckClasses must return. No class waits for the other one, and so each adds ranks or a cycle of its own.
func (x matter) checkWith(y matter) impl.Verdict {
	a, b := x.check(), y.check()
	switch {
	case !x.ok || !y.ok:
		return impl.Verdict{Code: impl.VdBad}
	case !x.inCircle && !y.inCircle:
		return safe(slices.Concat(a.Ranks[:64], raised(b.Ranks[:64])))
	case !x.inCircle || y.inCircle && len(b.Cycle) < len(a.Cycle):
		return cyclic(raised(b.Cycle)...)
	}
	return cyclic(a.Cycle...)
}

func wantClassesOk(t *testing.T, m impl.Mesh, c impl.Classes, want bool) {
	t.Helper()
	if got := impl.ClassesOk(m, c); got != want {
		t.Errorf("ClassesOk(%v, %v) = %v", m, c, got)
	}
}

func wantClassDepends(t *testing.T, m impl.Mesh, c impl.Classes, want []impl.Depend) {
	t.Helper()
	if got := impl.ClassDepends(m, c); !slices.Equal(got, want) || !isDepends(got) {
		t.Errorf("ClassDepends(%v, %v) = %v; want %v", m, c, got, want)
	}
}

func wantClassVerdict(t *testing.T, m impl.Mesh, c impl.Classes, want impl.Verdict) {
	t.Helper()
	if got := impl.CheckClasses(m, c); !sameVerdict(got, want) {
		t.Errorf("CheckClasses(%v, %v) = %v; want %v", m, c, got, want)
	}
}

// wantTableFor checks the tables of both classes, whether they are valid or not.
func wantTableFor(t *testing.T, c impl.Classes, class int, want []int, wantOk bool) {
	t.Helper()
	if got, ok := impl.TableFor(c, class); ok != wantOk || !slices.Equal(got.Ports, want) {
		t.Errorf("TableFor(%v, %d) = %v, %v; want %v, %v", c, class, got, ok, want, wantOk)
	}
}

// wantBadClasses checks two tables of which one at least is not valid.
func wantBadClasses(t *testing.T, m impl.Mesh, a []int, b []int) {
	t.Helper()
	c := classes(a, b)
	wantClassesOk(t, m, c, false)
	wantClassDepends(t, m, c, nil)
	wantClassVerdict(t, m, c, impl.Verdict{Code: impl.VdBad})
}

// wantClasses checks two tables of a mesh.
func wantClasses(t *testing.T, x matter, y matter) {
	t.Helper()
	c := classes(x.ports, y.ports)
	wantTableFor(t, c, 0, x.ports, true)
	wantTableFor(t, c, 1, y.ports, true)
	if !x.ok || !y.ok {
		wantBadClasses(t, x.mesh, x.ports, y.ports)
		return
	}
	wantClassesOk(t, x.mesh, c, true)
	wantClassDepends(t, x.mesh, c, x.dependsWith(y))
	wantClassVerdict(t, x.mesh, c, x.checkWith(y))
	// The verdict proves itself by the dependencies of both classes.
	v := impl.CheckClasses(x.mesh, c)
	if proved := isRanking(x.dependsWith(y), v.Ranks); proved != (v.Code == impl.VdSafe) {
		t.Errorf("the ranks of %v with %v in %v are an order: %v", x.ports, y.ports, x.mesh, proved)
	}
	if proved := isCircle(x.dependsWith(y), v.Cycle); proved != (v.Code == impl.VdCyclic) {
		t.Errorf("the cycle of %v with %v in %v is one: %v", x.ports, y.ports, x.mesh, proved)
	}
}

// wantBothWays checks each table as that of the one class and as that of the other one.
func wantBothWays(t *testing.T, x matter, y matter) {
	t.Helper()
	wantClasses(t, x, y)
	wantClasses(t, y, x)
}

// tablesOf returns some tables of a board, valid or not.
func (b board) tablesOf() []matter {
	g := b.mesh.Grid
	all := []matter{b.matterOf(alongSnake(g)), b.matterOf(nil), b.matterOf(slices.Repeat([]int{impl.Local}, b.nodes*b.nodes))}
	for _, rule := range standardRules {
		all = append(all, b.matterOf(tableOfRule(g, rule)))
	}
	if slices.Contains(circleGrids(), g) {
		all = append(all, b.matterOf(alongCircle(b, circleOf(g))), b.matterOf(alongCircle(b, backward(circleOf(g)))))
	}
	return all
}

// aroundSix leads each packet clockwise around the six nodes of the grid of twoCycles.
func aroundSix() []int {
	return portsOfText("LEEEEE", "ELEEEE", "SSLSSS", "NNNLNN", "WWWWLW", "WWWWWL")
}

func TestClassExamples(t *testing.T) {
	square := impl.Mesh{Grid: impl.Grid{Width: 2, Height: 2}}
	rows, columns := tableOfRule(square.Grid, impl.RuleXY), tableOfRule(square.Grid, impl.RuleYX)
	split, other := classes(rows, columns), classes(columns, rows)
	wantClassesOk(t, square, split, true)
	wantClassDepends(t, square, split, depends(1, 6, 7, 2, 9, 12, 15, 8, 66, 73, 70, 79, 72, 65, 76, 71))
	wantClassVerdict(t, square, split, safe(ranksIn(slices.Concat([]int{0, 1, 3, 4, 5, 6, 7, 2}, upTo(9, 15), []int{8}, upTo(16, 64), upTo(66, 70), []int{72, 65}, upTo(73, 76), []int{71})...)))
	wantClassesOk(t, square, other, true)
	wantClassDepends(t, square, other, depends(2, 9, 6, 15, 8, 1, 12, 7, 65, 70, 71, 66, 73, 76, 79, 72))
	wantClassVerdict(t, square, other, safe(ranksIn(slices.Concat([]int{0}, upTo(2, 6), []int{8, 1}, upTo(9, 12), []int{7}, upTo(13, 65), upTo(67, 71), []int{66}, upTo(73, 79), []int{72})...)))
	// Each class has its elements, also where both tables are equal.
	wantClassDepends(t, square, classes(rows, rows), depends(1, 6, 7, 2, 9, 12, 15, 8, 65, 70, 71, 66, 73, 76, 79, 72))
	wantClassDepends(t, square, classes(columns, columns), depends(2, 9, 6, 15, 8, 1, 12, 7, 66, 73, 70, 79, 72, 65, 76, 71))

	wantClassVerdict(t, square, classes(rows, clockwise()), cyclic(65, 70, 79, 72))
	wantClassVerdict(t, square, classes(clockwise(), rows), cyclic(1, 6, 15, 8))
	wantClassVerdict(t, square, classes(clockwise(), clockwise()), cyclic(1, 6, 15, 8))
	wantClassVerdict(t, square, classes(counterclockwise(), clockwise()), cyclic(2, 9, 12, 7))
	wantBadClasses(t, square, rows, nil)
	wantBadClasses(t, square, nil, rows)
	wantBadClasses(t, square, nil, nil)
	wantBadClasses(t, impl.Mesh{Grid: square.Grid, Broken: []int{0}}, rows, columns)
	wantBadClasses(t, impl.Mesh{}, rows, columns)
	wantBadClasses(t, impl.Mesh{}, nil, nil)
}

// A cycle in both classes is that of the class 0 if neither is shorter, and otherwise the shorter one.
func TestCyclesOfBothClasses(t *testing.T) {
	b, ports := twoCycles()
	wantClassVerdict(t, b.mesh, classes(ports, ports), cyclic(1, 6, 19, 12))
	wantClassVerdict(t, b.mesh, classes(aroundSix(), ports), cyclic(65, 70, 83, 76))
	wantClassVerdict(t, b.mesh, classes(ports, aroundSix()), cyclic(1, 6, 19, 12))
	wantClassVerdict(t, b.mesh, classes(aroundSix(), aroundSix()), cyclic(1, 5, 10, 23, 19, 12))
	rows := tableOfRule(b.mesh.Grid, impl.RuleXY)
	wantClassVerdict(t, b.mesh, classes(rows, aroundSix()), cyclic(65, 69, 74, 87, 83, 76))
	wantClassVerdict(t, b.mesh, classes(aroundSix(), rows), cyclic(1, 5, 10, 23, 19, 12))
	for _, x := range []matter{b.matterOf(ports), b.matterOf(aroundSix()), b.matterOf(rows)} {
		for _, y := range []matter{b.matterOf(ports), b.matterOf(aroundSix()), b.matterOf(rows)} {
			wantBothWays(t, x, y)
		}
	}
}

// touching lists the elements that lead from a channel or to it.
func touching(list []impl.Depend, channel int) []impl.Depend {
	var some []impl.Depend
	for _, d := range list {
		if d.From == channel || d.To == channel {
			some = append(some, d)
		}
	}
	return some
}

// The channel 63 leads from the last node to the west; the channel 0 would lead over the border, and so nothing waits for 64.
func TestTheLastChannelOfEachClass(t *testing.T) {
	b := boardOf(impl.Grid{Width: 4, Height: 4})
	rows, columns := b.matterOf(tableOfRule(b.mesh.Grid, impl.RuleXY)), b.matterOf(tableOfRule(b.mesh.Grid, impl.RuleYX))
	for _, c := range []struct {
		x, y        matter
		at63, at127 []impl.Depend
	}{
		{rows, columns, depends(63, 56, 63, 59), depends(110, 127, 127, 123)},
		{columns, rows, depends(46, 63, 63, 59), depends(127, 120, 127, 123)},
		{rows, rows, depends(63, 56, 63, 59), depends(127, 120, 127, 123)},
		{columns, columns, depends(46, 63, 63, 59), depends(110, 127, 127, 123)},
	} {
		wantClasses(t, c.x, c.y)
		list := impl.ClassDepends(b.mesh, classes(c.x.ports, c.y.ports))
		if !slices.Equal(touching(list, 63), c.at63) || !slices.Equal(touching(list, 127), c.at127) || len(touching(list, 64)) > 0 {
			t.Errorf("the elements %v, %v and %v touch the channels 63, 64 and 127", touching(list, 63), touching(list, 64), touching(list, 127))
		}
		// Those of the class 0 end with the channel 63, those of the class 1 follow at once, and the channel 127 is the last one.
		border := len(c.x.list)
		around := []impl.Depend{list[border-1], list[border], list[len(list)-1]}
		if !slices.Equal(around, depends(63, 59, 65, 69, 127, 123)) {
			t.Errorf("the elements at the border and at the end of %v are %v", list, around)
		}
		ranks := impl.CheckClasses(b.mesh, classes(c.x.ports, c.y.ports)).Ranks
		wantIsOrder(t, list, ranks, true)
		wantRises(t, ranks, []int{63, 59}, true)
		wantRises(t, ranks, []int{63, 64}, true)
		wantRises(t, ranks, []int{127, 123}, true)
	}
}

func TestTheLastChannelInACycle(t *testing.T) {
	b := boardOf(impl.Grid{Width: 4, Height: 4})
	rows := b.matterOf(tableOfRule(b.mesh.Grid, impl.RuleXY))
	around := b.matterOf(alongCircle(b, backward(circleOf(b.mesh.Grid))))
	cycle := []int{1, 5, 9, 14, 30, 46, 63, 56, 40, 27, 22, 38, 55, 48, 32, 16}
	wantClassVerdict(t, b.mesh, classes(around.ports, rows.ports), cyclic(cycle...))
	wantClassVerdict(t, b.mesh, classes(rows.ports, around.ports), cyclic(65, 69, 73, 78, 94, 110, 127, 120, 104, 91, 86, 102, 119, 112, 96, 80))
	wantClassVerdict(t, b.mesh, classes(around.ports, around.ports), cyclic(cycle...))
	wantBothWays(t, around, rows)
	wantClasses(t, around, around)
}

func TestTheLastChannelBroken(t *testing.T) {
	g := impl.Grid{Width: 4, Height: 4}
	b := boardOf(g, 63)
	around, back := alongCircle(b, circleOf(g)), alongCircle(b, backward(circleOf(g)))
	wantClasses(t, b.matterOf(around), b.matterOf(around))
	list := impl.ClassDepends(b.mesh, classes(around, around))
	if len(list) != 32 || len(touching(list, 63)) > 0 || len(touching(list, 127)) > 0 {
		t.Errorf("the elements of a circle without the channel 63, twice, are %v", list)
	}
	for _, ports := range [][]int{back, tableOfRule(g, impl.RuleXY), tableOfRule(g, impl.RuleYX)} {
		wantBadClasses(t, b.mesh, around, ports)
		wantBadClasses(t, b.mesh, ports, around)
		wantBadClasses(t, b.mesh, ports, ports)
	}
}

// Packets that never turn from one channel into another wait for nothing, in either class.
func TestClassesOfGridsOfOneRowOrColumn(t *testing.T) {
	one := impl.Mesh{Grid: impl.Grid{Width: 1, Height: 1}}
	local := []int{impl.Local}
	wantClassesOk(t, one, classes(local, local), true)
	wantClassDepends(t, one, classes(local, local), nil)
	wantClassVerdict(t, one, classes(local, local), safe(upTo(0, 127)))
	for _, port := range without(channelNumbers(), local) {
		wantBadClasses(t, one, local, []int{port})
		wantBadClasses(t, one, []int{port}, local)
		wantBadClasses(t, one, []int{port}, []int{port})
	}
	pair := impl.Mesh{Grid: impl.Grid{Width: 2, Height: 1}}
	wantClassesOk(t, pair, classes(portsOfText("LE", "WL"), portsOfText("LE", "WL")), true)
	wantClassDepends(t, pair, classes(portsOfText("LE", "WL"), portsOfText("LE", "WL")), nil)
	wantClassVerdict(t, pair, classes(portsOfText("LE", "WL"), portsOfText("LE", "WL")), safe(upTo(0, 127)))
	wantBadClasses(t, pair, portsOfText("LE", "WL"), portsOfText("LS", "NL"))
	wantBadClasses(t, pair, portsOfText("LS", "NL"), portsOfText("LE", "WL"))

	row := impl.Mesh{Grid: impl.Grid{Width: 3, Height: 1}}
	along := portsOfText("LEE", "WLE", "WWL")
	wantClassDepends(t, row, classes(along, along), depends(1, 5, 11, 7, 65, 69, 75, 71))
	wantClassVerdict(t, row, classes(along, along), safe(ranksIn(slices.Concat(upTo(0, 6), upTo(8, 11), []int{7}, upTo(12, 70), upTo(72, 75), []int{71})...)))
	column := impl.Mesh{Grid: impl.Grid{Width: 1, Height: 4}}
	down := rowsFirst(column.Grid)
	wantClassDepends(t, column, classes(down, down), depends(2, 6, 6, 10, 8, 4, 12, 8, 66, 70, 70, 74, 72, 68, 76, 72))
	wantClassVerdict(t, column, classes(down, down), safe(ranksIn(slices.Concat(upTo(0, 3), upTo(5, 7), upTo(9, 12), []int{8, 4}, upTo(13, 67), upTo(69, 71), upTo(73, 76), []int{72, 68})...)))
}

func TestTablesForClasses(t *testing.T) {
	square := impl.Grid{Width: 2, Height: 2}
	tables := [][]int{nil, {}, {7}, {-1, 900}, clockwise(), rowsFirst(square), slices.Repeat([]int{-5}, 300)}
	for _, a := range tables {
		for _, b := range tables {
			wantTableFor(t, classes(a, b), 0, a, true)
			wantTableFor(t, classes(a, b), 1, b, true)
			wantTableFor(t, classes(a, b), 2, nil, false)
			wantTableFor(t, classes(a, b), -1, nil, false)
			for _, class := range without(append(channelNumbers(), 1<<8, 1<<8+1, 1<<32+1, 1<<62), []int{0, 1}) {
				wantTableFor(t, classes(a, b), class, nil, false)
			}
		}
	}
}

func TestSplitClasses(t *testing.T) {
	for _, g := range validGrids() {
		rows, columns := boardOf(g).matterOf(tableOfRule(g, impl.RuleXY)), boardOf(g).matterOf(tableOfRule(g, impl.RuleYX))
		c, ok := impl.SplitClasses(g)
		if !ok || !sameClasses(c, classes(rows.ports, columns.ports)) {
			t.Errorf("SplitClasses(%v) = %v, %v", g, c, ok)
		}
		wantClassVerdict(t, impl.Mesh{Grid: g}, c, rows.checkWith(columns))
		if code := rows.checkWith(columns).Code; code != impl.VdSafe {
			t.Errorf("the classes of %v have the verdict %d", g, code)
		}
	}
	for _, g := range append(invalidGrids(), impl.Grid{}, impl.Grid{Width: 5, Height: 4}, impl.Grid{Width: 4, Height: 5}, impl.Grid{Width: -1, Height: -1}) {
		if c, ok := impl.SplitClasses(g); ok || !sameClasses(c, impl.Classes{}) {
			t.Errorf("SplitClasses(%v) = %v, %v", g, c, ok)
		}
	}
}

// Two classes are safe exactly if both tables are.
func TestClassesAreSafeIfBothTablesAre(t *testing.T) {
	found := map[[2]int]int{}
	for _, g := range validGrids() {
		tables := boardOf(g).tablesOf()
		for _, x := range tables {
			for _, y := range tables {
				wantClasses(t, x, y)
				a, b := impl.CheckTable(x.mesh, impl.Table{Ports: x.ports}).Code, impl.CheckTable(y.mesh, impl.Table{Ports: y.ports}).Code
				code := impl.CheckClasses(x.mesh, classes(x.ports, y.ports)).Code
				if (code == impl.VdSafe) != (a == impl.VdSafe && b == impl.VdSafe) {
					t.Errorf("%v and %v have the verdicts %d and %d in %v, and %d together", x.ports, y.ports, a, b, x.mesh, code)
				}
				found[[2]int{a, b}]++
			}
		}
	}
	for a := range 3 {
		for b := range 3 {
			if found[[2]int{a, b}] < 20 {
				t.Errorf("two tables with the verdicts %d and %d were hardly tried: %d", a, b, found[[2]int{a, b}])
			}
		}
	}
}

func TestClassesWithBrokenChannels(t *testing.T) {
	square := impl.Grid{Width: 2, Height: 2}
	for _, broken := range subsets(channelsOf(square)) {
		b := boardOf(square, broken...)
		tables := []matter{b.matterOf(rowsFirst(square)), b.matterOf(alongSnake(square)), b.matterOf(clockwise()), b.matterOf(counterclockwise())}
		for _, x := range tables {
			for _, y := range tables {
				wantClasses(t, x, y)
			}
		}
	}
}

// Each table is tried beside itself and beside the one before, if that is of the same mesh.
func TestClassesOfManyTables(t *testing.T) {
	var last matter
	var found [3]int
	manyTables(func(b board, ports []int) {
		x := b.matterOf(ports)
		wantClasses(t, x, x)
		if x.mesh.Grid == last.mesh.Grid && slices.Equal(x.mesh.Broken, last.mesh.Broken) {
			wantBothWays(t, x, last)
			found[x.checkWith(last).Code]++
		}
		last = x
	})
	if slices.Min(found[:]) < 50 {
		t.Errorf("some kind of verdict was hardly tried: %v", found)
	}
}

// A table that is not valid spoils both classes, whichever it belongs to.
func TestClassesWithATableThatIsNotValid(t *testing.T) {
	beside := 0
	noTables(func(m impl.Mesh, ports []int) {
		good := clockwise()
		if impl.GridOk(m.Grid) {
			good = rowsFirst(m.Grid)
		}
		wantBadClasses(t, m, ports, good)
		wantBadClasses(t, m, good, ports)
		wantBadClasses(t, m, ports, ports)
		wantBadClasses(t, m, good, nil)
		if impl.TableOk(m, impl.Table{Ports: good}) {
			beside++
		}
	})
	if beside < 1000 {
		t.Errorf("only %d tables were tried beside a valid one", beside)
	}
}

// No table is valid in a mesh that is not.
func TestClassesOfMeshesThatAreNotValid(t *testing.T) {
	for _, x := range badMatters() {
		for _, ports := range [][]int{clockwise(), rowsFirst(impl.Grid{Width: 2, Height: 2}), x.ports} {
			wantBadClasses(t, x.mesh, x.ports, ports)
			wantBadClasses(t, x.mesh, ports, x.ports)
			if !impl.MeshOk(x.mesh) {
				wantBadClasses(t, x.mesh, ports, ports)
			}
		}
	}
}

func TestClassFunctionsKeepTheirArguments(t *testing.T) {
	spare := []int{77, -7, 500}
	for _, x := range allMatters() {
		for _, ports := range [][]int{x.ports, clockwise(), rowsFirst(impl.Grid{Width: 2, Height: 2}), nil} {
			kept := [][]int{slices.Concat(x.mesh.Broken, spare), slices.Concat(x.ports, spare), slices.Concat(ports, spare)}
			var memory [][]int
			for _, list := range kept {
				memory = append(memory, slices.Clone(list))
			}
			m := impl.Mesh{Grid: x.mesh.Grid, Broken: memory[0][:len(x.mesh.Broken)]}
			for _, c := range []impl.Classes{
				classes(memory[1][:len(x.ports)], memory[2][:len(ports)]),
				classes(memory[2][:len(ports)], memory[1][:len(x.ports)]),
			} {
				impl.ClassesOk(m, c)
				impl.ClassDepends(m, c)
				impl.CheckClasses(m, c)
				for class := -1; class <= 2; class++ {
					impl.TableFor(c, class)
				}
			}
			for i, list := range memory {
				if !slices.Equal(list, kept[i]) {
					t.Errorf("an argument was changed from %v to %v", kept[i], list)
				}
			}
		}
	}
}

// Results are overwritten up to their capacity, which must be seen neither in the arguments nor in later results.
func TestATableForAClassIsNewMemory(t *testing.T) {
	for _, a := range [][]int{clockwise(), counterclockwise()[:3], make([]int, 0, 5), {1}} {
		for _, b := range [][]int{rowsFirst(impl.Grid{Width: 3, Height: 3}), append(make([]int, 0, 9), 3, 2), a} {
			keptA, keptB := slices.Clone(a[:cap(a)]), slices.Clone(b[:cap(b)])
			for class, want := range [][]int{slices.Clone(a), slices.Clone(b)} {
				first, _ := impl.TableFor(classes(a, b), class)
				second, _ := impl.TableFor(classes(a, b), class)
				overwrite(first.Ports)
				if !slices.Equal(a[:cap(a)], keptA) || !slices.Equal(b[:cap(b)], keptB) || !slices.Equal(second.Ports, want) {
					t.Errorf("the table of the class %d of %v and %v shares memory with an argument or a later one", class, keptA, keptB)
				}
				wantTableFor(t, classes(a, b), class, want, true)
			}
		}
	}
}

func TestResultsOfClassesAreNewMemory(t *testing.T) {
	for _, g := range validGrids() {
		tables := boardOf(g).tablesOf()
		for i, x := range tables {
			y := tables[(i*3+1)%len(tables)]
			keptX, keptY := slices.Clone(x.ports), slices.Clone(y.ports)
			c := classes(x.ports, y.ports)
			list, v := impl.ClassDepends(x.mesh, c), impl.CheckClasses(x.mesh, c)
			laterList, laterV := impl.ClassDepends(x.mesh, c), impl.CheckClasses(x.mesh, c)
			for i := range list[:cap(list)] {
				list[:cap(list)][i] = impl.Depend{From: -7, To: -7}
			}
			overwrite(v.Ranks)
			overwrite(v.Cycle)
			if !slices.Equal(x.ports, keptX) || !slices.Equal(y.ports, keptY) || !slices.Equal(laterList, x.dependsWith(y)) || !sameVerdict(laterV, x.checkWith(y)) {
				t.Errorf("a result for %v and %v in %v shares memory with an argument or a later result", keptX, keptY, x.mesh)
			}
			wantClasses(t, x, y)
		}
	}
}

// The two tables share no memory with each other either, also on grids on which both rules are the same.
func TestSplitClassesAreNewMemory(t *testing.T) {
	for _, g := range validGrids() {
		want := classes(tableOfRule(g, impl.RuleXY), tableOfRule(g, impl.RuleYX))
		first, _ := impl.SplitClasses(g)
		second, _ := impl.SplitClasses(g)
		overwrite(first.A.Ports)
		if !slices.Equal(first.B.Ports, want.B.Ports) {
			t.Errorf("the tables of both classes of %v share memory", g)
		}
		overwrite(first.B.Ports)
		third, _ := impl.SplitClasses(g)
		if !sameClasses(second, want) || !sameClasses(third, want) {
			t.Errorf("the classes of %v share memory with later ones", g)
		}
	}
}
