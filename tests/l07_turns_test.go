package tests

import (
	"slices"
	"testing"

	"loop.example/g00984/impl"
)

// turnNames are the names of the turns 0 to 15; four of these numbers lead straight on.
var turnNames = []string{
	"", "north-east", "north-south", "north-west",
	"east-north", "", "east-south", "east-west",
	"south-north", "south-east", "", "south-west",
	"west-north", "west-east", "west-south", "",
}

// reversals are the turns from a direction into the opposite one.
var reversals = []int{2, 7, 8, 13}

// turnsOfRules are the turns that each rule may use; those of the mixed rule are of both halves.
var turnsOfRules = map[int][]int{
	impl.RuleXY:    {4, 6, 12, 14},
	impl.RuleYX:    {1, 3, 9, 11},
	impl.RuleWest:  {1, 9, 12, 13, 14},
	impl.RuleMixed: {1, 3, 4, 6, 9, 11, 12, 14},
}

// turnNumbers are channelNumbers and those that a narrower number would take for a turn.
func turnNumbers() []int {
	list := channelNumbers()
	for turn := range 16 {
		list = append(list, turn+1<<8, turn+1<<16, turn+1<<32, turn-1<<32)
	}
	return list
}

// direction returns the port to which a step from one node to a neighbor belongs.
func direction(g impl.Grid, from int, to int) int {
	a, b := placesOf(g)[from], placesOf(g)[to]
	return slices.Index(directions, place{b.x - a.x, b.y - a.y})
}

// turnsOf looks at the directions between the nodes of each walk, and names the turn of each three nodes.
func (b board) turnsOf(ports []int) []int {
	if !b.verdictOf(ports).ok {
		return nil
	}
	var found [16]bool
	for from := range b.nodes {
		for to := range b.nodes {
			nodes := b.nodesOf(b.follow(ports, from, to))
			for i := 2; i < len(nodes); i++ {
				before, after := direction(b.mesh.Grid, nodes[i-2], nodes[i-1]), direction(b.mesh.Grid, nodes[i-1], nodes[i])
				found[4*before+after] = before != after
			}
		}
	}
	var turns []int
	for turn, is := range found {
		if is {
			turns = append(turns, turn)
		}
	}
	return turns
}

// clockwise is a table that leads each packet around a square of four nodes.
func clockwise() []int {
	return portsOfText("LEEE", "SLSS", "NNLN", "WWWL")
}

// counterclockwise leads around the square in the other direction.
func counterclockwise() []int {
	return portsOfText("LSSS", "WLWW", "EELE", "NNNL")
}

func wantTurns(t *testing.T, m impl.Mesh, ports []int, want []int) {
	t.Helper()
	if got := impl.TurnsOf(m, impl.Table{Ports: ports}); !slices.Equal(got, want) {
		t.Errorf("TurnsOf(%v, %v) = %v; want %v", m, ports, got, want)
	}
}

func wantAllowed(t *testing.T, m impl.Mesh, ports []int, turns []int, want bool) {
	t.Helper()
	if got := impl.AllowsTurns(m, impl.Table{Ports: ports}, turns); got != want {
		t.Errorf("AllowsTurns(%v, %v, %v) = %v", m, ports, turns, got)
	}
}

// wantTurning checks the turns of a valid table, and that it needs each of them.
func wantTurning(t *testing.T, m impl.Mesh, ports []int, want []int) {
	t.Helper()
	wantTurns(t, m, ports, want)
	wantAllowed(t, m, ports, want, true)
	wantAllowed(t, m, ports, backward(want), true)
	wantAllowed(t, m, ports, turnNumbers(), true)
	others := without(turnNumbers(), want)
	wantAllowed(t, m, ports, others, len(want) == 0)
	wantAllowed(t, m, ports, nil, len(want) == 0)
	wantAllowed(t, m, ports, []int{}, len(want) == 0)
	for i, turn := range want {
		wantAllowed(t, m, ports, slices.Delete(slices.Clone(want), i, i+1), false)
		wantAllowed(t, m, ports, without(turnNumbers(), []int{turn}), false)
		wantAllowed(t, m, ports, append(without(want, []int{turn}), turn, turn), true)
		wantAllowed(t, m, ports, []int{turn}, len(want) == 1)
	}
}

// wantNoTurns checks a table or a mesh that is not valid, which allows not even all turns.
func wantNoTurns(t *testing.T, m impl.Mesh, ports []int) {
	t.Helper()
	wantTurns(t, m, ports, nil)
	for _, turns := range [][]int{nil, {}, turnNumbers(), turnsOfRules[impl.RuleMixed], {0}, {4, 6, 12, 14}} {
		wantAllowed(t, m, ports, turns, false)
	}
}

// wantTurnsOf checks a table of a valid mesh, which may be valid or not.
func wantTurnsOf(t *testing.T, b board, ports []int) {
	t.Helper()
	if b.verdictOf(ports).ok {
		wantTurning(t, b.mesh, ports, b.turnsOf(ports))
	} else {
		wantNoTurns(t, b.mesh, ports)
	}
}

func TestTurnName(t *testing.T) {
	for _, turn := range turnNumbers() {
		want := ""
		if turn >= 0 && turn < 16 {
			want = turnNames[turn]
		}
		if got := impl.TurnName(turn); got != want {
			t.Errorf("TurnName(%d) = %q; want %q", turn, got, want)
		}
	}
}

func TestIsReversal(t *testing.T) {
	for _, turn := range turnNumbers() {
		if got := impl.IsReversal(turn); got != slices.Contains(reversals, turn) {
			t.Errorf("IsReversal(%d) = %v", turn, got)
		}
	}
}

func TestTurnsOfRule(t *testing.T) {
	// The order of the keys of a map is another one each time.
	for range 20 {
		for rule, want := range turnsOfRules {
			if got := impl.TurnsOfRule(rule); !slices.Equal(got, want) {
				t.Errorf("TurnsOfRule(%d) = %v; want %v", rule, got, want)
			}
		}
	}
	for _, rule := range noRules() {
		if got := impl.TurnsOfRule(rule); len(got) != 0 {
			t.Errorf("TurnsOfRule(%d) = %v; want none", rule, got)
		}
	}
}

func TestTurnExamples(t *testing.T) {
	square := impl.Mesh{Grid: impl.Grid{Width: 2, Height: 2}}
	wantTurning(t, square, rowsFirst(square.Grid), []int{4, 6, 12, 14})
	wantTurning(t, square, portsOfText("LESS", "WLSS", "NNLE", "NNWL"), []int{1, 3, 9, 11})
	wantTurning(t, square, alongSnake(square.Grid), []int{3, 4, 6, 11})
	wantTurning(t, square, clockwise(), []int{1, 6, 11, 12})
	wantTurning(t, square, counterclockwise(), []int{3, 4, 9, 14})
	wantAllowed(t, square, clockwise(), []int{12, 11, 6, 1}, true)
	wantAllowed(t, square, clockwise(), []int{11, 1, 1, 12, 99, 6, -1, 11}, true)
	wantAllowed(t, square, clockwise(), []int{11, 1, 1, 12, 99, 7, -1, 11}, false)
	wantAllowed(t, square, clockwise(), []int{1, 6, 11, 12 + 1<<32}, false)

	// Only packets from node 0 to node 1 take the detour, and they alone turn from the south to the east and on to the north.
	wide := impl.Mesh{Grid: impl.Grid{Width: 3, Height: 2}}
	detour := rowsFirst(wide.Grid)
	detour[0*6+1] = impl.South
	wantWalk(t, wide, detour, 0, 1, []int{2, 13, 16})
	wantTurning(t, wide, detour, []int{4, 6, 9, 12, 14})
	wide.Broken = []int{3}
	wantNoTurns(t, wide, detour)
	wide.Broken = []int{2}
	wantNoTurns(t, wide, detour)
}

func TestTablesWithoutTurns(t *testing.T) {
	for _, g := range validGrids() {
		if g.Width > 1 && g.Height > 1 {
			continue
		}
		m := impl.Mesh{Grid: g}
		wantTurning(t, m, rowsFirst(g), nil)
		wantTurning(t, m, alongSnake(g), nil)
		wantAllowed(t, m, rowsFirst(g), []int{-1, 16, 5}, true)
		for _, rule := range standardRules {
			x, _ := impl.StandardTable(g, rule)
			wantTurning(t, m, x.Ports, nil)
		}
	}
	one := impl.Mesh{Grid: impl.Grid{Width: 1, Height: 1}}
	wantTurning(t, one, []int{impl.Local}, nil)
	for _, port := range []int{-1, impl.North, impl.East, impl.South, impl.West, 5} {
		wantNoTurns(t, one, []int{port})
	}
}

// Straight on is no turn, also where a walk goes straight on for as long as it can.
func TestATurnIsListedOnce(t *testing.T) {
	for _, g := range validGrids() {
		if g.Width == 1 || g.Height == 1 {
			continue
		}
		m := impl.Mesh{Grid: g}
		wantTurning(t, m, rowsFirst(g), []int{4, 6, 12, 14})
		x, _ := impl.StandardTable(g, impl.RuleYX)
		wantTurning(t, m, x.Ports, []int{1, 3, 9, 11})
		x, _ = impl.StandardTable(g, impl.RuleWest)
		wantTurning(t, m, x.Ports, []int{1, 9, 12, 14})
	}
}

func TestTurnsOfTheMixedRule(t *testing.T) {
	for g, want := range map[impl.Grid][]int{
		{Width: 2, Height: 2}: {1, 9, 12, 14},
		{Width: 2, Height: 3}: {1, 9, 12, 14},
		{Width: 2, Height: 4}: {1, 9, 12, 14},
		{Width: 3, Height: 2}: {1, 3, 4, 6, 9, 11, 12, 14},
		{Width: 3, Height: 3}: {1, 3, 4, 6, 9, 11, 12, 14},
		{Width: 4, Height: 4}: {1, 3, 4, 6, 9, 11, 12, 14},
	} {
		x, _ := impl.StandardTable(g, impl.RuleMixed)
		wantTurning(t, impl.Mesh{Grid: g}, x.Ports, want)
	}
}

func TestStandardTablesUseOnlyTheTurnsOfTheirRule(t *testing.T) {
	for _, g := range validGrids() {
		b := boardOf(g)
		for _, rule := range standardRules {
			x, _ := impl.StandardTable(g, rule)
			turns := impl.TurnsOf(b.mesh, x)
			wantTurning(t, b.mesh, x.Ports, b.turnsOf(x.Ports))
			for _, turn := range turns {
				if !slices.Contains(turnsOfRules[rule], turn) || !slices.Contains(impl.TurnsOfRule(rule), turn) || impl.IsReversal(turn) || impl.TurnName(turn) == "" {
					t.Errorf("the table of rule %d in %v uses the turn %d", rule, g, turn)
				}
			}
			wantAllowed(t, b.mesh, x.Ports, impl.TurnsOfRule(rule), true)
			wantAllowed(t, b.mesh, x.Ports, turnsOfRules[impl.RuleMixed], true)
			if !slices.IsSorted(turns) || distinct(turns) != len(turns) {
				t.Errorf("the turns of rule %d in %v are not in ascending order: %v", rule, g, turns)
			}
		}
	}
}

// No other rule has all turns of a table that needs them.
func TestStandardTablesAgainstTheTurnsOfOtherRules(t *testing.T) {
	for _, g := range validGrids() {
		b := boardOf(g)
		for _, rule := range standardRules {
			x, _ := impl.StandardTable(g, rule)
			for _, other := range standardRules {
				want := len(without(b.turnsOf(x.Ports), turnsOfRules[other])) == 0
				wantAllowed(t, b.mesh, x.Ports, impl.TurnsOfRule(other), want)
			}
			wantAllowed(t, b.mesh, x.Ports, impl.TurnsOfRule(0), g.Width == 1 || g.Height == 1)
		}
	}
}

func TestAllowsTurnsForAllSubsets(t *testing.T) {
	m := impl.Mesh{Grid: impl.Grid{Width: 2, Height: 2}}
	for _, c := range []struct{ ports, needed []int }{
		{clockwise(), []int{1, 6, 11, 12}},
		{counterclockwise(), []int{3, 4, 9, 14}},
		{rowsFirst(m.Grid), []int{4, 6, 12, 14}},
	} {
		for _, turns := range subsets([]int{14, 1, 3, 9, 4, 6, 12, 11}) {
			wantAllowed(t, m, c.ports, turns, len(without(c.needed, turns)) == 0)
		}
	}
}

func TestTurnsOfTablesThatAreNotValid(t *testing.T) {
	noTables(func(m impl.Mesh, ports []int) { wantNoTurns(t, m, ports) })
}

func TestTurnsOfManyTables(t *testing.T) {
	used := map[int]int{}
	manyTables(func(b board, ports []int) {
		wantTurnsOf(t, b, ports)
		for _, turn := range impl.TurnsOf(b.mesh, impl.Table{Ports: ports}) {
			used[turn]++
		}
	})
	for turn := range 16 {
		if used[turn] > 0 != slices.Contains(turnsOfRules[impl.RuleMixed], turn) {
			t.Errorf("the turn %d was used by %d valid tables", turn, used[turn])
		}
	}
	square := impl.Grid{Width: 2, Height: 2}
	wantTurning(t, impl.Mesh{Grid: square, Broken: []int{2, 7}}, clockwise(), []int{1, 6, 11, 12})
}

func TestTurnFunctionsKeepTheirArguments(t *testing.T) {
	g := impl.Grid{Width: 2, Height: 2}
	turns := []int{99, 12, 6, 6, 11, -1, 1, 77, 78}
	for _, ports := range [][]int{clockwise(), counterclockwise(), rowsFirst(g), slices.Repeat([]int{9}, 16)} {
		for _, broken := range [][]int{{}, {2}, {2, 7}, {7, 2}} {
			portMemory := append(slices.Clone(ports), 77, 78)
			brokenMemory := append(slices.Clone(broken), 77, 78)
			turnMemory := slices.Clone(turns)
			x := impl.Table{Ports: portMemory[:16]}
			m := impl.Mesh{Grid: g, Broken: brokenMemory[:len(broken)]}
			for i := range 8 {
				impl.TurnsOf(m, x)
				impl.AllowsTurns(m, x, turnMemory[:i])
				impl.AllowsTurns(m, x, turnMemory[i:7])
			}
			if !slices.Equal(portMemory, append(slices.Clone(ports), 77, 78)) || !slices.Equal(brokenMemory, append(slices.Clone(broken), 77, 78)) || !slices.Equal(turnMemory, turns) {
				t.Errorf("the arguments were changed to %v, %v and %v", portMemory, brokenMemory, turnMemory)
			}
		}
	}
}

func TestAListOfTurnsIsNewMemory(t *testing.T) {
	g := impl.Grid{Width: 3, Height: 3}
	for _, rule := range standardRules {
		x, _ := impl.StandardTable(g, rule)
		before := slices.Clone(x.Ports)
		for _, result := range []func() []int{
			func() []int { return impl.TurnsOf(impl.Mesh{Grid: g}, x) },
			func() []int { return impl.TurnsOfRule(rule) },
		} {
			first, second := result(), result()
			want := slices.Clone(first)
			for i := range first[:cap(first)] {
				first[:cap(first)][i] = -7
			}
			if !slices.Equal(second, want) || !slices.Equal(result(), want) || !slices.Equal(x.Ports, before) {
				t.Errorf("the turns of rule %d share memory with the table or a later result", rule)
			}
		}
	}
}
