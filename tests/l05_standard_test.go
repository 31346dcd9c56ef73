package tests

import (
	"math"
	"slices"
	"strings"
	"testing"

	"loop.example/g00984/impl"
)

var standardRules = []int{impl.RuleXY, impl.RuleYX, impl.RuleWest, impl.RuleMixed}

// noRules are numbers just outside of the range of the rules and far away, also those that a narrower number would take for a rule.
func noRules() []int {
	all := append(channelNumbers(), 257, 260, 1<<16+1, 1<<32+1, 1<<32+4, 1<<62+4)
	return without(all, standardRules)
}

// portsOfText reads ports from their first letters.
func portsOfText(rows ...string) []int {
	var ports []int
	for _, letter := range strings.Join(rows, "") {
		ports = append(ports, strings.IndexRune("NESWL", letter))
	}
	return ports
}

// portsOfRule lists the ports of the whole way from one node to another: each direction as often as it is needed, in the order of the rule.
func portsOfRule(g impl.Grid, rule int, from int, to int) []int {
	a, b := placesOf(g)[from], placesOf(g)[to]
	east := slices.Repeat([]int{impl.East}, max(0, b.x-a.x))
	west := slices.Repeat([]int{impl.West}, max(0, a.x-b.x))
	vertical := slices.Repeat([]int{impl.South}, max(0, b.y-a.y))
	if b.y < a.y {
		vertical = slices.Repeat([]int{impl.North}, a.y-b.y)
	}
	if rule == impl.RuleMixed {
		rule = []int{impl.RuleXY, impl.RuleYX}[to&1]
	}
	switch rule {
	case impl.RuleXY:
		return slices.Concat(west, east, vertical)
	case impl.RuleYX:
		return slices.Concat(vertical, west, east)
	}
	return slices.Concat(west, vertical, east)
}

// tableOfRule takes the first port of each way.
func tableOfRule(g impl.Grid, rule int) []int {
	var ports []int
	n := g.Width * g.Height
	for node := range n {
		for to := range n {
			ports = append(ports, append(portsOfRule(g, rule, node, to), impl.Local)[0])
		}
	}
	return ports
}

func wantPort(t *testing.T, g impl.Grid, rule int, node int, to int, want int) {
	t.Helper()
	if got := impl.StandardPort(g, rule, node, to); got != want {
		t.Errorf("StandardPort(%v, %d, %d, %d) = %d; want %d", g, rule, node, to, got, want)
	}
}

// wantStandard checks the table of a rule and each of its ports.
func wantStandard(t *testing.T, g impl.Grid, rule int, want []int) {
	t.Helper()
	got, ok := impl.StandardTable(g, rule)
	if !ok || !slices.Equal(got.Ports, want) {
		t.Errorf("StandardTable(%v, %d) = %v, %v; want %v", g, rule, got, ok, want)
	}
	n := g.Width * g.Height
	for i, port := range want {
		wantPort(t, g, rule, i/n, i%n, port)
	}
}

// wantNoStandard checks a grid or a rule for which there is no table.
func wantNoStandard(t *testing.T, g impl.Grid, rule int) {
	t.Helper()
	got, ok := impl.StandardTable(g, rule)
	if ok || len(got.Ports) != 0 {
		t.Errorf("StandardTable(%v, %d) = %v, %v; want none", g, rule, got, ok)
	}
	for _, node := range []int{math.MinInt, -1, 0, 1, 15, 16, math.MaxInt} {
		for _, to := range []int{math.MinInt, -1, 0, 1, 15, 16, math.MaxInt} {
			wantPort(t, g, rule, node, to, -1)
		}
	}
}

// wantDiffering checks the number in both directions.
func wantDiffering(t *testing.T, a []int, b []int, want int) {
	t.Helper()
	there := impl.DifferingEntries(impl.Table{Ports: a}, impl.Table{Ports: b})
	back := impl.DifferingEntries(impl.Table{Ports: b}, impl.Table{Ports: a})
	if there != want || back != want {
		t.Errorf("DifferingEntries of %v and %v is %d, and %d in the other direction; want %d", a, b, there, back, want)
	}
}

func TestRuleNumbers(t *testing.T) {
	if impl.RuleXY != 1 || impl.RuleYX != 2 || impl.RuleWest != 3 || impl.RuleMixed != 4 {
		t.Error("rules", impl.RuleXY, impl.RuleYX, impl.RuleWest, impl.RuleMixed)
	}
}

func TestRuleName(t *testing.T) {
	for i, want := range []string{"xy", "yx", "west", "mixed"} {
		if got := impl.RuleName(1 + i); got != want {
			t.Errorf("RuleName(%d) = %q; want %q", 1+i, got, want)
		}
	}
	for _, rule := range noRules() {
		if got := impl.RuleName(rule); got != "" {
			t.Errorf("RuleName(%d) = %q; want none", rule, got)
		}
	}
}

func TestStandardPortExamples(t *testing.T) {
	g := impl.Grid{Width: 3, Height: 3}
	for rule, row := range map[int]string{
		impl.RuleXY:    "WNEWLEWSE",
		impl.RuleYX:    "NNNWLESSS",
		impl.RuleWest:  "WNNWLEWSS",
		impl.RuleMixed: "WNEWLEWSE",
	} {
		for to, port := range portsOfText(row) {
			wantPort(t, g, rule, 4, to, port)
		}
	}
	g = impl.Grid{Width: 4, Height: 4}
	for to, port := range portsOfText("WNEN", "WNEN", "WLEE", "WSES") {
		wantPort(t, g, impl.RuleMixed, 9, to, port)
	}
}

func TestStandardTableExamples(t *testing.T) {
	g := impl.Grid{Width: 2, Height: 2}
	wantStandard(t, g, impl.RuleXY, portsOfText("LESE", "WLWS", "NELE", "WNWL"))
	wantStandard(t, g, impl.RuleYX, portsOfText("LESS", "WLSS", "NNLE", "NNWL"))
	wantStandard(t, g, impl.RuleWest, portsOfText("LESS", "WLWS", "NNLE", "WNWL"))
	wantStandard(t, g, impl.RuleMixed, portsOfText("LESS", "WLWS", "NNLE", "WNWL"))

	g = impl.Grid{Width: 3, Height: 2}
	wantStandard(t, g, impl.RuleXY, portsOfText("LEESEE", "WLEWSE", "WWLWWS", "NEELEE", "WNEWLE", "WWNWWL"))
	wantStandard(t, g, impl.RuleYX, portsOfText("LEESSS", "WLESSS", "WWLSSS", "NNNLEE", "NNNWLE", "NNNWWL"))
	wantStandard(t, g, impl.RuleWest, portsOfText("LEESSS", "WLEWSS", "WWLWWS", "NNNLEE", "WNNWLE", "WWNWWL"))
	wantStandard(t, g, impl.RuleMixed, portsOfText("LEESES", "WLESSS", "WWLSWS", "NNELEE", "WNEWLE", "WNNWWL"))

	for _, rule := range standardRules {
		wantStandard(t, impl.Grid{Width: 1, Height: 1}, rule, portsOfText("L"))
		wantStandard(t, impl.Grid{Width: 2, Height: 1}, rule, portsOfText("LE", "WL"))
		wantStandard(t, impl.Grid{Width: 1, Height: 2}, rule, portsOfText("LS", "NL"))
		wantStandard(t, impl.Grid{Width: 4, Height: 1}, rule, portsOfText("LEEE", "WLEE", "WWLE", "WWWL"))
		wantStandard(t, impl.Grid{Width: 1, Height: 4}, rule, portsOfText("LSSS", "NLSS", "NNLS", "NNNL"))
	}
}

func TestStandardTablesOfAllGrids(t *testing.T) {
	for _, g := range validGrids() {
		for _, rule := range standardRules {
			wantStandard(t, g, rule, tableOfRule(g, rule))
		}
	}
}

// Where only one of the coordinates differs, all rules go the same way.
func TestDestinationsInTheSameRowOrColumn(t *testing.T) {
	for _, g := range validGrids() {
		places := placesOf(g)
		for node, at := range places {
			for to, p := range places {
				port := impl.Local
				switch {
				case p.x != at.x && p.y != at.y:
					continue
				case p.x > at.x:
					port = impl.East
				case p.x < at.x:
					port = impl.West
				case p.y > at.y:
					port = impl.South
				case p.y < at.y:
					port = impl.North
				}
				for _, rule := range standardRules {
					wantPort(t, g, rule, node, to, port)
				}
			}
		}
	}
}

// The destinations that are neither in the row nor in the column show how the rules differ.
func TestDestinationsInAnotherRowAndColumn(t *testing.T) {
	for _, g := range validGrids() {
		places := placesOf(g)
		for node, at := range places {
			for to, p := range places {
				if p.x == at.x || p.y == at.y {
					continue
				}
				along, across := impl.East, impl.South
				if p.x < at.x {
					along = impl.West
				}
				if p.y < at.y {
					across = impl.North
				}
				wantPort(t, g, impl.RuleXY, node, to, along)
				wantPort(t, g, impl.RuleYX, node, to, across)
				wantPort(t, g, impl.RuleWest, node, to, map[bool]int{true: impl.West, false: across}[p.x < at.x])
				wantPort(t, g, impl.RuleMixed, node, to, map[bool]int{true: along, false: across}[to%2 == 0])
			}
		}
	}
}

// A node is even or odd by its number, not by its column or row: this differs where the width is odd.
func TestMixedRuleGoesByTheNumberOfTheDestination(t *testing.T) {
	for _, g := range validGrids() {
		xy, yx := tableOfRule(g, impl.RuleXY), tableOfRule(g, impl.RuleYX)
		n := g.Width * g.Height
		for node := range n {
			for to := 0; to < n; to += 2 {
				wantPort(t, g, impl.RuleMixed, node, to, xy[node*n+to])
			}
			for to := 1; to < n; to += 2 {
				wantPort(t, g, impl.RuleMixed, node, to, yx[node*n+to])
			}
		}
	}
}

func TestAllStandardTablesAreValidAndMinimal(t *testing.T) {
	for _, g := range validGrids() {
		b := boardOf(g)
		for _, rule := range standardRules {
			x, ok := impl.StandardTable(g, rule)
			if !ok || !b.verdictOf(x.Ports).minimal {
				t.Errorf("StandardTable(%v, %d) is not valid and minimal: %v, %v", g, rule, x, ok)
			}
			wantVerdict(t, b.mesh, x.Ports, verdict{true, g.Width + g.Height - 2, true})
			if !impl.TableOk(b.mesh, x) || !impl.IsMinimal(b.mesh, x) || impl.LongestWalk(b.mesh, x) != impl.Diameter(g) {
				t.Errorf("StandardTable(%v, %d) is judged to be not valid or not minimal: %v", g, rule, x)
			}
		}
	}
}

// The ports of a walk are those of the rule from its beginning to its end, not only its first one.
func TestWalksOfStandardTables(t *testing.T) {
	for _, g := range validGrids() {
		b := boardOf(g)
		for _, rule := range standardRules {
			x, _ := impl.StandardTable(g, rule)
			for from := range b.nodes {
				for to := range b.nodes {
					var want []int
					node := from
					for _, port := range portsOfRule(g, rule, from, to) {
						want = append(want, 4*node+port)
						node = b.neighbors[node][port]
					}
					wantWalk(t, b.mesh, x.Ports, from, to, want)
				}
			}
		}
	}
}

func TestStandardPortOfNodesOutsideOfTheRange(t *testing.T) {
	for _, g := range validGrids() {
		n := g.Width * g.Height
		for _, rule := range standardRules {
			ports := tableOfRule(g, rule)
			for _, node := range channelNumbers() {
				for _, to := range channelNumbers() {
					want := -1
					if node >= 0 && node < n && to >= 0 && to < n {
						want = ports[node*n+to]
					}
					wantPort(t, g, rule, node, to, want)
				}
			}
		}
	}
}

func TestRulesOutsideOfTheRange(t *testing.T) {
	for _, g := range validGrids() {
		for _, rule := range noRules() {
			wantNoStandard(t, g, rule)
			for node := range g.Width * g.Height {
				wantPort(t, g, rule, node, node, -1)
				wantPort(t, g, rule, node, 0, -1)
				wantPort(t, g, rule, 0, node, -1)
			}
		}
	}
}

func TestStandardTablesOfGridsThatAreNotValid(t *testing.T) {
	for _, g := range invalidGrids() {
		for rule := -1; rule <= 6; rule++ {
			wantNoStandard(t, g, rule)
		}
		wantNoStandard(t, g, math.MinInt)
		wantNoStandard(t, g, math.MaxInt)
	}
}

func TestDifferingEntriesExamples(t *testing.T) {
	wantDiffering(t, nil, nil, 0)
	wantDiffering(t, nil, []int{}, 0)
	wantDiffering(t, nil, []int{0}, 1)
	wantDiffering(t, nil, []int{-1}, 1)
	wantDiffering(t, []int{}, []int{0, 0, 0}, 3)
	wantDiffering(t, []int{1, 2}, []int{1}, 1)
	wantDiffering(t, []int{1, 2}, []int{2}, 2)
	wantDiffering(t, []int{1, 2}, []int{1, 2}, 0)
	wantDiffering(t, []int{1, 2}, []int{2, 1}, 2)
	wantDiffering(t, []int{1, 2, 3}, []int{1, 3, 3}, 1)
	wantDiffering(t, []int{1, 2, 3}, []int{2, 3}, 3)
	wantDiffering(t, []int{0, 0, 0, 0}, []int{0}, 3)
	wantDiffering(t, []int{math.MinInt}, []int{math.MaxInt}, 1)
	wantDiffering(t, []int{math.MinInt, math.MaxInt}, []int{math.MinInt, math.MaxInt}, 0)
	wantDiffering(t, []int{1}, []int{1 + 1<<32}, 1)
	wantDiffering(t, []int{-1}, []int{255}, 1)
	wantDiffering(t, make([]int, 1000), nil, 1000)
	wantDiffering(t, make([]int, 1000), make([]int, 257), 743)
	wantDiffering(t, make([]int, 257), slices.Repeat([]int{4}, 257), 257)
}

func TestDifferingEntriesOfAllShortTables(t *testing.T) {
	var all [][]int
	for _, s := range texts("abcde", 3) {
		var ports []int
		for _, letter := range s {
			ports = append(ports, []int{-1, 0, 4, math.MinInt, math.MaxInt}[letter-'a'])
		}
		all = append(all, ports)
	}
	for _, a := range all {
		for _, b := range all {
			want := 0
			for i := range 3 {
				if i < len(a) != (i < len(b)) || i < len(a) && a[i] != b[i] {
					want++
				}
			}
			wantDiffering(t, a, b, want)
		}
	}
}

func TestDifferingEntriesOfStandardTables(t *testing.T) {
	g := impl.Grid{Width: 3, Height: 2}
	xy, _ := impl.StandardTable(g, impl.RuleXY)
	for rule, want := range map[int]int{impl.RuleXY: 0, impl.RuleYX: 12, impl.RuleWest: 6, impl.RuleMixed: 6} {
		x, _ := impl.StandardTable(g, rule)
		wantDiffering(t, xy.Ports, x.Ports, want)
		wantDiffering(t, x.Ports, nil, 36)
		none, _ := impl.StandardTable(g, 5)
		wantDiffering(t, x.Ports, none.Ports, 36)
	}
	for _, g := range validGrids() {
		xy, _ := impl.StandardTable(g, impl.RuleXY)
		yx, _ := impl.StandardTable(g, impl.RuleYX)
		n := g.Width * g.Height
		// The two differ for each destination that is neither in the row nor in the column.
		wantDiffering(t, xy.Ports, yx.Ports, n*(g.Width-1)*(g.Height-1))
		wantDiffering(t, xy.Ports, xy.Ports, 0)
	}
}

func TestDifferingEntriesKeepsItsArguments(t *testing.T) {
	memory := []int{4, 1, 2, 1, 3, 4, 77, 78}
	before := slices.Clone(memory)
	for _, c := range []struct {
		a, b []int
		want int
	}{
		{memory[:4], memory[:4], 0},
		{memory[:4], memory[:6], 2},
		{memory[:3], memory[1:4], 3},
		{memory[:0], memory[:2], 2},
		{memory[1:1], memory[5:5], 0},
		{memory[3:6], memory[:2], 3},
	} {
		for range 2 {
			wantDiffering(t, c.a, c.b, c.want)
		}
		if !slices.Equal(memory, before) {
			t.Fatalf("the arguments were changed from %v to %v", before, memory)
		}
	}
}

func TestAStandardTableIsNewMemory(t *testing.T) {
	for _, g := range validGrids() {
		for _, rule := range standardRules {
			first, _ := impl.StandardTable(g, rule)
			second, _ := impl.StandardTable(g, rule)
			for i := range first.Ports {
				first.Ports[i] = -7
			}
			if !slices.Equal(second.Ports, tableOfRule(g, rule)) {
				t.Errorf("two tables share memory: %v", second)
			}
			wantStandard(t, g, rule, tableOfRule(g, rule))
		}
	}
}
