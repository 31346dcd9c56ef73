package tests

import (
	"math"
	"testing"

	"loop.example/g00984/impl"
)

// sides are lengths inside, at and outside of the range, up to the ends of int; the product of two invalid ones may look valid.
func sides() []int {
	return []int{1, 2, 3, 4, 0, 5, 6, 16, -1, -2, -4, -5, 1 << 32, -1 << 32, 1 << 62, math.MaxInt, math.MaxInt - 1, math.MinInt, math.MinInt + 1}
}

// validGrids returns all valid grids.
func validGrids() []impl.Grid {
	var all []impl.Grid
	for width := 1; width <= 4; width++ {
		for height := 1; height <= 4; height++ {
			all = append(all, impl.Grid{Width: width, Height: height})
		}
	}
	return all
}

// invalidGrids returns grids of which at least one side is outside of the range.
func invalidGrids() []impl.Grid {
	var all []impl.Grid
	for _, width := range sides() {
		for _, height := range sides() {
			if width < 1 || width > 4 || height < 1 || height > 4 {
				all = append(all, impl.Grid{Width: width, Height: height})
			}
		}
	}
	return all
}

// numbers are nodes, columns or rows inside, at and outside of every grid, up to the ends of int.
func numbers() []int {
	list := []int{math.MinInt, math.MinInt + 1, math.MinInt + 4, -1 << 32, math.MaxInt, math.MaxInt - 1, math.MaxInt - 3, 1 << 62, 1 << 32}
	for n := -20; n <= 40; n++ {
		list = append(list, n)
	}
	return list
}

type place struct{ x, y int }

// placesOf lists the places of the nodes in the order of their numbers: from west to east in each row, from the north row on.
func placesOf(g impl.Grid) []place {
	var places []place
	for y := 0; y < g.Height; y++ {
		for x := 0; x < g.Width; x++ {
			places = append(places, place{x, y})
		}
	}
	return places
}

// walked counts single steps from one place to another, first along the row and then along the column.
func walked(from place, to place) int {
	steps := 0
	for from.x != to.x {
		if from.x < to.x {
			from.x++
		} else {
			from.x--
		}
		steps++
	}
	for from.y != to.y {
		if from.y < to.y {
			from.y++
		} else {
			from.y--
		}
		steps++
	}
	return steps
}

func wantInt(t *testing.T, call string, g impl.Grid, arguments []int, got int, want int) {
	t.Helper()
	if got != want {
		t.Errorf("%s(%v, %v) = %d; want %d", call, g, arguments, got, want)
	}
}

func TestGridLimits(t *testing.T) {
	if impl.MaxSide != 4 || impl.MaxNodes != 16 {
		t.Error("limits", impl.MaxSide, impl.MaxNodes)
	}
}

func TestGridOkExamples(t *testing.T) {
	for _, c := range []struct {
		width, height int
		want          bool
	}{
		{1, 1, true},
		{1, 4, true},
		{4, 1, true},
		{3, 2, true},
		{4, 4, true},
		{0, 0, false},
		{0, 1, false},
		{1, 0, false},
		{0, 4, false},
		{4, 0, false},
		{5, 1, false},
		{1, 5, false},
		{5, 4, false},
		{4, 5, false},
		{5, 5, false},
		{16, 1, false},
		{1, 16, false},
		{8, 2, false},
		{-1, -1, false},
		{-1, 1, false},
		{1, -1, false},
		{-4, -4, false},
		{math.MaxInt, 1, false},
		{1, math.MaxInt, false},
		{math.MinInt, 1, false},
		{1, math.MinInt, false},
		{math.MinInt, math.MinInt, false},
	} {
		if got := impl.GridOk(impl.Grid{Width: c.width, Height: c.height}); got != c.want {
			t.Errorf("GridOk(%d by %d) = %v", c.width, c.height, got)
		}
	}
}

func TestGridOkOfAllSides(t *testing.T) {
	for _, g := range validGrids() {
		if !impl.GridOk(g) {
			t.Error("a valid grid is rejected:", g)
		}
	}
	for _, g := range invalidGrids() {
		if impl.GridOk(g) {
			t.Error("a grid that is not valid is accepted:", g)
		}
	}
}

func TestGridExamples(t *testing.T) {
	g := impl.Grid{Width: 4, Height: 3}
	wantInt(t, "NodeCount", g, nil, impl.NodeCount(g), 12)
	wantInt(t, "NodeAt", g, []int{0, 0}, impl.NodeAt(g, 0, 0), 0)
	wantInt(t, "NodeAt", g, []int{3, 0}, impl.NodeAt(g, 3, 0), 3)
	wantInt(t, "NodeAt", g, []int{0, 1}, impl.NodeAt(g, 0, 1), 4)
	wantInt(t, "NodeAt", g, []int{3, 2}, impl.NodeAt(g, 3, 2), 11)
	wantInt(t, "NodeAt", g, []int{4, 0}, impl.NodeAt(g, 4, 0), -1)
	wantInt(t, "NodeAt", g, []int{0, 3}, impl.NodeAt(g, 0, 3), -1)
	wantInt(t, "NodeAt", g, []int{-1, 1}, impl.NodeAt(g, -1, 1), -1)
	wantInt(t, "NodeAt", g, []int{1, -1}, impl.NodeAt(g, 1, -1), -1)
	wantInt(t, "ColumnOf", g, []int{6}, impl.ColumnOf(g, 6), 2)
	wantInt(t, "RowOf", g, []int{6}, impl.RowOf(g, 6), 1)
	wantInt(t, "ColumnOf", g, []int{12}, impl.ColumnOf(g, 12), -1)
	wantInt(t, "RowOf", g, []int{12}, impl.RowOf(g, 12), -1)
	wantInt(t, "ColumnOf", g, []int{-1}, impl.ColumnOf(g, -1), -1)
	wantInt(t, "RowOf", g, []int{-1}, impl.RowOf(g, -1), -1)
	wantInt(t, "Distance", g, []int{3, 8}, impl.Distance(g, 3, 8), 5)
	wantInt(t, "Distance", g, []int{8, 3}, impl.Distance(g, 8, 3), 5)
	wantInt(t, "Distance", g, []int{5, 6}, impl.Distance(g, 5, 6), 1)
	wantInt(t, "Distance", g, []int{7, 7}, impl.Distance(g, 7, 7), 0)
	wantInt(t, "Distance", g, []int{0, 12}, impl.Distance(g, 0, 12), -1)
	wantInt(t, "Distance", g, []int{12, 0}, impl.Distance(g, 12, 0), -1)
	wantInt(t, "Distance", g, []int{-1, 0}, impl.Distance(g, -1, 0), -1)
	wantInt(t, "Distance", g, []int{0, -1}, impl.Distance(g, 0, -1), -1)
	wantInt(t, "Distance", g, []int{12, 12}, impl.Distance(g, 12, 12), -1)
	wantInt(t, "Diameter", g, nil, impl.Diameter(g), 5)
}

func TestGridsWithOneRow(t *testing.T) {
	for width := 1; width <= 4; width++ {
		g := impl.Grid{Width: width, Height: 1}
		wantInt(t, "NodeCount", g, nil, impl.NodeCount(g), width)
		wantInt(t, "Diameter", g, nil, impl.Diameter(g), width-1)
		for node := range width {
			wantInt(t, "NodeAt", g, []int{node, 0}, impl.NodeAt(g, node, 0), node)
			wantInt(t, "NodeAt", g, []int{node, 1}, impl.NodeAt(g, node, 1), -1)
			wantInt(t, "ColumnOf", g, []int{node}, impl.ColumnOf(g, node), node)
			wantInt(t, "RowOf", g, []int{node}, impl.RowOf(g, node), 0)
			wantInt(t, "Distance", g, []int{0, node}, impl.Distance(g, 0, node), node)
			wantInt(t, "Distance", g, []int{node, 0}, impl.Distance(g, node, 0), node)
		}
		wantInt(t, "NodeAt", g, []int{width, 0}, impl.NodeAt(g, width, 0), -1)
		wantInt(t, "ColumnOf", g, []int{width}, impl.ColumnOf(g, width), -1)
		wantInt(t, "RowOf", g, []int{width}, impl.RowOf(g, width), -1)
		wantInt(t, "Distance", g, []int{0, width}, impl.Distance(g, 0, width), -1)
	}
}

func TestGridsWithOneColumn(t *testing.T) {
	for height := 1; height <= 4; height++ {
		g := impl.Grid{Width: 1, Height: height}
		wantInt(t, "NodeCount", g, nil, impl.NodeCount(g), height)
		wantInt(t, "Diameter", g, nil, impl.Diameter(g), height-1)
		for node := range height {
			wantInt(t, "NodeAt", g, []int{0, node}, impl.NodeAt(g, 0, node), node)
			wantInt(t, "NodeAt", g, []int{1, node}, impl.NodeAt(g, 1, node), -1)
			wantInt(t, "ColumnOf", g, []int{node}, impl.ColumnOf(g, node), 0)
			wantInt(t, "RowOf", g, []int{node}, impl.RowOf(g, node), node)
			wantInt(t, "Distance", g, []int{0, node}, impl.Distance(g, 0, node), node)
			wantInt(t, "Distance", g, []int{node, 0}, impl.Distance(g, node, 0), node)
		}
		wantInt(t, "NodeAt", g, []int{0, height}, impl.NodeAt(g, 0, height), -1)
		wantInt(t, "ColumnOf", g, []int{height}, impl.ColumnOf(g, height), -1)
		wantInt(t, "RowOf", g, []int{height}, impl.RowOf(g, height), -1)
		wantInt(t, "Distance", g, []int{height, 0}, impl.Distance(g, height, 0), -1)
	}
}

func TestAGridThatIsNotValidHasNoNodes(t *testing.T) {
	for _, g := range invalidGrids() {
		wantInt(t, "NodeCount", g, nil, impl.NodeCount(g), 0)
		wantInt(t, "Diameter", g, nil, impl.Diameter(g), -1)
		for _, a := range numbers() {
			wantInt(t, "ColumnOf", g, []int{a}, impl.ColumnOf(g, a), -1)
			wantInt(t, "RowOf", g, []int{a}, impl.RowOf(g, a), -1)
			for _, b := range numbers() {
				wantInt(t, "NodeAt", g, []int{a, b}, impl.NodeAt(g, a, b), -1)
				wantInt(t, "Distance", g, []int{a, b}, impl.Distance(g, a, b), -1)
			}
		}
	}
}

func TestEveryNodeHasItsPlace(t *testing.T) {
	for _, g := range validGrids() {
		places := placesOf(g)
		wantInt(t, "NodeCount", g, nil, impl.NodeCount(g), len(places))
		nodes := map[place]int{}
		for node, p := range places {
			nodes[p] = node
		}
		for _, a := range numbers() {
			want := place{-1, -1}
			if a >= 0 && a < len(places) {
				want = places[a]
			}
			wantInt(t, "ColumnOf", g, []int{a}, impl.ColumnOf(g, a), want.x)
			wantInt(t, "RowOf", g, []int{a}, impl.RowOf(g, a), want.y)
			for _, b := range numbers() {
				node, ok := nodes[place{a, b}]
				if !ok {
					node = -1
				}
				wantInt(t, "NodeAt", g, []int{a, b}, impl.NodeAt(g, a, b), node)
			}
		}
	}
}

func TestANodeIsFoundAtItsColumnAndRow(t *testing.T) {
	for _, g := range validGrids() {
		for node := range impl.NodeCount(g) {
			x, y := impl.ColumnOf(g, node), impl.RowOf(g, node)
			wantInt(t, "NodeAt", g, []int{x, y}, impl.NodeAt(g, x, y), node)
		}
	}
}

func TestDistanceCountsColumnsAndRows(t *testing.T) {
	for _, g := range validGrids() {
		places := placesOf(g)
		for _, a := range numbers() {
			for _, b := range numbers() {
				want := -1
				if a >= 0 && a < len(places) && b >= 0 && b < len(places) {
					want = walked(places[a], places[b])
				}
				wantInt(t, "Distance", g, []int{a, b}, impl.Distance(g, a, b), want)
			}
		}
	}
}

// The greatest distance is at most the diameter, and no smaller number is.
func TestDistancesAreAtMostTheDiameter(t *testing.T) {
	for _, g := range validGrids() {
		greatest := 0
		for a := range impl.NodeCount(g) {
			for b := range impl.NodeCount(g) {
				greatest = max(greatest, impl.Distance(g, a, b))
			}
		}
		wantInt(t, "Diameter", g, nil, impl.Diameter(g), greatest)
		wantInt(t, "Diameter", g, nil, impl.Diameter(g), g.Width+g.Height-2)
	}
}
