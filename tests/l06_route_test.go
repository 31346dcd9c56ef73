package tests

import (
	"math"
	"math/rand/v2"
	"slices"
	"testing"

	"loop.example/g00984/impl"
)

// nodesOf lists the nodes of a route from the two ends of each channel, or nothing if it is none.
func (b board) nodesOf(route []int) []int {
	var nodes []int
	for i, channel := range route {
		if !slices.Contains(b.channels, channel) {
			return nil
		}
		begin, end := channel/4, b.neighbors[channel/4][channel%4]
		if i == 0 {
			nodes = append(nodes, begin)
		}
		if nodes[i] != begin {
			return nil
		}
		nodes = append(nodes, end)
	}
	return nodes
}

// between returns the channel that leads from one node to another one, or -1 if it does not exist.
func (b board) between(from int, to int) int {
	for _, channel := range b.channels {
		if channel/4 == from && b.neighbors[from][channel%4] == to {
			return channel
		}
	}
	return -1
}

// through returns the route along some nodes, or nothing if a channel is missing.
func (b board) through(nodes []int) []int {
	var route []int
	for i := range max(0, len(nodes)-1) {
		channel := b.between(nodes[i], nodes[i+1])
		if channel < 0 {
			return nil
		}
		route = append(route, channel)
	}
	return route
}

// backward returns a list from its last element to its first one.
func backward(list []int) []int {
	list = slices.Clone(list)
	slices.Reverse(list)
	return list
}

// distinct returns the number of different elements.
func distinct(list []int) int {
	seen := map[int]bool{}
	for _, n := range list {
		seen[n] = true
	}
	return len(seen)
}

// wantNodes checks the functions that judge one list; want is empty if it is no route.
func wantNodes(t *testing.T, m impl.Mesh, route []int, want []int) {
	t.Helper()
	nodes, is, free := impl.RouteNodes(m, route), impl.IsRoute(m, route), impl.IsLoopFree(m, route)
	if !slices.Equal(nodes, want) {
		t.Errorf("RouteNodes(%v, %v) = %v; want %v", m, route, nodes, want)
	}
	if is != (len(want) > 0) {
		t.Errorf("IsRoute(%v, %v) = %v; the nodes are %v", m, route, is, want)
	}
	if free != (len(want) > 0 && distinct(want) == len(want)) {
		t.Errorf("IsLoopFree(%v, %v) = %v; the nodes are %v", m, route, free, want)
	}
}

// wantRoute checks a result that is a route, or that there is none if want is empty.
func wantRoute(t *testing.T, call string, m impl.Mesh, arguments [][]int, got []int, ok bool, want []int) {
	t.Helper()
	if !slices.Equal(got, want) || ok != (len(want) > 0) {
		t.Errorf("%s(%v, %v) = %v, %v; want %v", call, m, arguments, got, ok, want)
	}
}

func wantJoined(t *testing.T, m impl.Mesh, a []int, b []int, want []int) {
	t.Helper()
	got, ok := impl.JoinRoutes(m, a, b)
	wantRoute(t, "JoinRoutes", m, [][]int{a, b}, got, ok, want)
}

func wantReversed(t *testing.T, m impl.Mesh, route []int, want []int) {
	t.Helper()
	got, ok := impl.ReverseRoute(m, route)
	wantRoute(t, "ReverseRoute", m, [][]int{route}, got, ok, want)
}

// wantList checks all functions for one list of channels; it is joined with itself and cut at each place.
func wantList(t *testing.T, b board, route []int) {
	t.Helper()
	nodes := b.nodesOf(route)
	wantNodes(t, b.mesh, route, nodes)
	wantReversed(t, b.mesh, route, b.through(backward(nodes)))
	whole := route
	if nodes == nil {
		whole = nil
	}
	for i := range len(route) + 1 {
		wantJoined(t, b.mesh, route[:i], route[i:], whole)
	}
	twice := slices.Concat(route, route)
	if b.nodesOf(twice) == nil {
		wantJoined(t, b.mesh, route, route, nil)
	} else {
		wantJoined(t, b.mesh, route, route, twice)
	}
}

// wantNoRoute checks a list that is no route, also as a part of others.
func wantNoRoute(t *testing.T, m impl.Mesh, route []int) {
	t.Helper()
	wantNodes(t, m, route, nil)
	wantReversed(t, m, route, nil)
	wantJoined(t, m, route, nil, nil)
	wantJoined(t, m, nil, route, nil)
	wantJoined(t, m, route, route, nil)
	if len(route) > 0 {
		wantJoined(t, m, []int{1}, route, nil)
		wantJoined(t, m, route, []int{1}, nil)
	}
}

// wander returns a route of some channels, or fewer if it meets a dead end.
func (b board) wander(r *rand.Rand, most int) []int {
	var route []int
	node := r.IntN(b.nodes)
	for range most {
		var ways []int
		for _, channel := range b.channels {
			if channel/4 == node {
				ways = append(ways, channel)
			}
		}
		if len(ways) == 0 {
			break
		}
		channel := ways[r.IntN(len(ways))]
		route = append(route, channel)
		node = b.neighbors[node][channel%4]
	}
	return route
}

// brokenAt returns a random choice of channels in ascending order.
func brokenAt(r *rand.Rand, g impl.Grid, oneOf int) []int {
	var broken []int
	for _, channel := range channelsOf(g) {
		if r.IntN(oneOf) == 0 {
			broken = append(broken, channel)
		}
	}
	return broken
}

func TestRouteExamples(t *testing.T) {
	square := impl.Mesh{Grid: impl.Grid{Width: 2, Height: 2}}
	wantNodes(t, square, []int{1, 6}, []int{0, 1, 3})
	wantReversed(t, square, []int{1, 6}, []int{12, 7})
	wantJoined(t, square, []int{1}, []int{6}, []int{1, 6})
	wantJoined(t, square, []int{1}, []int{1}, nil)
	wantNodes(t, square, []int{1, 7}, []int{0, 1, 0})
	wantReversed(t, square, []int{1, 7}, []int{1, 7})

	g := impl.Mesh{Grid: impl.Grid{Width: 3, Height: 2}}
	wantNodes(t, g, []int{1, 5, 10, 23, 19}, []int{0, 1, 2, 5, 4, 3})
	wantReversed(t, g, []int{1, 5, 10, 23, 19}, []int{13, 17, 20, 11, 7})
	wantJoined(t, g, []int{1, 5, 10}, []int{23, 19}, []int{1, 5, 10, 23, 19})
	wantJoined(t, g, []int{23, 19}, []int{12, 1}, []int{23, 19, 12, 1})
	wantJoined(t, g, []int{1, 5, 10}, []int{19, 23}, nil)
}

func TestAnEmptyRoute(t *testing.T) {
	for _, g := range validGrids() {
		for _, m := range []impl.Mesh{{Grid: g}, {Grid: g, Broken: channelsOf(g)}, {Grid: g, Broken: []int{-1}}} {
			for _, route := range [][]int{nil, {}, make([]int, 0, 5), []int{1, 2}[:0]} {
				wantNoRoute(t, m, route)
				wantJoined(t, m, route, nil, nil)
				wantJoined(t, m, nil, route, nil)
				wantJoined(t, m, []int{}, route, nil)
			}
		}
	}
}

func TestARouteOfOneChannel(t *testing.T) {
	for _, g := range validGrids() {
		b := boardOf(g)
		for _, channel := range channelNumbers() {
			if !slices.Contains(b.channels, channel) {
				wantNoRoute(t, b.mesh, []int{channel})
				continue
			}
			next := b.neighbors[channel/4][channel%4]
			wantNodes(t, b.mesh, []int{channel}, []int{channel / 4, next})
			wantReversed(t, b.mesh, []int{channel}, []int{b.between(next, channel/4)})
			wantJoined(t, b.mesh, []int{channel}, nil, []int{channel})
			wantJoined(t, b.mesh, []int{channel}, []int{}, []int{channel})
			wantJoined(t, b.mesh, nil, []int{channel}, []int{channel})
			wantJoined(t, b.mesh, []int{}, []int{channel}, []int{channel})
		}
	}
}

// A pair is a route only if the second channel begins where the first one ends.
func TestAllRoutesOfTwoChannels(t *testing.T) {
	for _, g := range validGrids() {
		b := boardOf(g)
		for first := -1; first <= 4*b.nodes; first++ {
			for second := -1; second <= 4*b.nodes; second++ {
				wantList(t, b, []int{first, second})
			}
		}
	}
}

func TestAllRoutesOfThreeChannels(t *testing.T) {
	for _, g := range []impl.Grid{{Width: 2, Height: 2}, {Width: 3, Height: 1}, {Width: 1, Height: 3}} {
		b := boardOf(g)
		for _, broken := range [][]int{nil, b.channels[:1], b.channels[1:2], b.channels[2:]} {
			b := boardOf(g, broken...)
			for first := range 4 * b.nodes {
				for second := range 4 * b.nodes {
					for third := range 4 * b.nodes {
						wantList(t, b, []int{first, second, third})
					}
				}
			}
		}
	}
}

// A channel that does not exist must be found at every place of a route.
func TestAChannelThatDoesNotExistAnywhereInARoute(t *testing.T) {
	for _, g := range validGrids() {
		b := boardOf(g)
		route := b.through(snakeOf(g))
		for i := range route {
			for _, other := range channelNumbers() {
				changed := slices.Clone(route)
				changed[i] = other
				wantList(t, b, changed)
			}
			wantNodes(t, b.mesh, slices.Concat(route, []int{math.MaxInt}), nil)
			wantNodes(t, b.mesh, slices.Concat([]int{math.MinInt}, route), nil)
		}
	}
}

// The channel before the first one of the next node, and those over the border, have numbers that may look like neighbors.
func TestRoutesOverTheBorder(t *testing.T) {
	for _, g := range validGrids() {
		b := boardOf(g)
		for node, neighbors := range b.neighbors {
			for port, neighbor := range neighbors {
				if neighbor >= 0 {
					continue
				}
				wantNoRoute(t, b.mesh, []int{4*node + port})
				for _, other := range b.channels {
					wantNodes(t, b.mesh, []int{4*node + port, other}, nil)
					wantNodes(t, b.mesh, []int{other, 4*node + port}, nil)
				}
			}
		}
	}
}

func TestARouteOverABrokenChannel(t *testing.T) {
	for _, g := range validGrids() {
		nodes := snakeOf(g)
		route := boardOf(g).through(nodes)
		for _, broken := range channelsOf(g) {
			b := boardOf(g, broken)
			if slices.Contains(route, broken) {
				wantNoRoute(t, b.mesh, route)
			} else {
				wantNodes(t, b.mesh, route, nodes)
			}
			wantList(t, b, route)
		}
	}
}

func TestTurningBackOverABrokenChannel(t *testing.T) {
	for _, g := range validGrids() {
		nodes := snakeOf(g)
		route := boardOf(g).through(nodes)
		back := boardOf(g).through(backward(nodes))
		for _, broken := range back {
			m := impl.Mesh{Grid: g, Broken: []int{broken}}
			wantNodes(t, m, route, nodes)
			wantReversed(t, m, route, nil)
			wantReversed(t, m, back, nil)
			for i, channel := range route {
				part := []int{back[len(back)-1-i]}
				if part[0] == broken {
					part = nil
				}
				wantReversed(t, m, []int{channel}, part)
			}
		}
		if len(back) > 0 {
			slices.Sort(back)
			m := impl.Mesh{Grid: g, Broken: back}
			wantNodes(t, m, route, nodes)
			wantJoined(t, m, route, nil, route)
			wantReversed(t, m, route, nil)
		}
	}
}

func TestRoutesOfMeshesThatAreNotValid(t *testing.T) {
	for _, g := range invalidGrids() {
		for _, route := range [][]int{nil, {0}, {1}, {2}, {1, 7}, {2, 8}, {-1}, {math.MinInt, math.MaxInt}} {
			wantNoRoute(t, impl.Mesh{Grid: g}, route)
			wantNoRoute(t, impl.Mesh{Grid: g, Broken: []int{1}}, route)
		}
	}
	g := impl.Grid{Width: 3, Height: 3}
	for _, broken := range [][]int{{0}, {-1}, {36}, {7, 5}, {5, 5}, {1, 5, 100}, {5, math.MaxInt}, {math.MinInt, 5}} {
		for _, route := range [][]int{{9}, {10}, {16, 6}, {16, 6, 17, 23}} {
			wantNoRoute(t, impl.Mesh{Grid: g, Broken: broken}, route)
		}
	}
	wantNoRoute(t, impl.Mesh{}, []int{1})
	wantNodes(t, impl.Mesh{Grid: g, Broken: []int{1, 5, 7}}, []int{16, 6, 17, 23}, []int{4, 1, 4, 5, 4})
}

func TestRoutesThatMeetANodeTwice(t *testing.T) {
	m := impl.Mesh{Grid: impl.Grid{Width: 3, Height: 3}}
	for _, c := range []struct {
		name         string
		route, nodes []int
	}{
		{"back to its first node", []int{1, 6, 19, 12}, []int{0, 1, 4, 3, 0}},
		{"back to its first node and on", []int{1, 6, 19, 12, 2}, []int{0, 1, 4, 3, 0, 3}},
		{"there and back", []int{1, 7}, []int{0, 1, 0}},
		{"a channel twice", []int{1, 7, 1}, []int{0, 1, 0, 1}},
		{"twice around", []int{1, 6, 19, 12, 1, 6, 19, 12}, []int{0, 1, 4, 3, 0, 1, 4, 3, 0}},
		{"a node twice in its middle", []int{1, 6, 17, 20, 11, 6, 18}, []int{0, 1, 4, 5, 2, 1, 4, 7}},
		{"crossing its way", []int{13, 17, 20, 11, 6, 18}, []int{3, 4, 5, 2, 1, 4, 7}},
		{"its second node twice at once", []int{1, 5, 11, 6}, []int{0, 1, 2, 1, 4}},
		{"its last node before the end", []int{13, 16, 6}, []int{3, 4, 1, 4}},
	} {
		if impl.IsLoopFree(m, c.route) {
			t.Errorf("a route is loop free: %s, %v", c.name, c.route)
		}
		wantNodes(t, m, c.route, c.nodes)
		wantList(t, boardOf(m.Grid), c.route)
	}
	wantNodes(t, m, []int{1, 6, 17, 20}, []int{0, 1, 4, 5, 2})
	if !impl.IsLoopFree(m, []int{1, 6, 17, 20}) {
		t.Error("a route without loops is rejected")
	}
}

// Around a circle of all nodes, only the last channel closes the loop.
func TestCirclesAreRoutesWithALoop(t *testing.T) {
	for _, g := range circleGrids() {
		b := boardOf(g)
		circle := circleOf(g)
		for i := range circle {
			nodes := slices.Concat(circle[i:], circle[:i])
			wantNodes(t, b.mesh, b.through(nodes), nodes)
			wantList(t, b, b.through(nodes))
			nodes = append(nodes, nodes[0])
			wantNodes(t, b.mesh, b.through(nodes), nodes)
			wantList(t, b, b.through(nodes))
		}
	}
}

func TestJoiningPartsOfARoute(t *testing.T) {
	g := impl.Grid{Width: 4, Height: 4}
	b := boardOf(g)
	route := b.through(snakeOf(g))
	for i := range len(route) + 1 {
		for j := range len(route) + 1 {
			var want []int
			if i == j {
				want = route
			} else if i == 0 {
				want = route[j:]
			} else if j == len(route) {
				want = route[:i]
			}
			wantJoined(t, b.mesh, route[:i], route[j:], want)
		}
	}
}

func TestJoiningListsOfWhichOneIsNoRoute(t *testing.T) {
	m := impl.Mesh{Grid: impl.Grid{Width: 3, Height: 2}, Broken: []int{2}}
	for _, c := range []struct{ a, b []int }{
		{[]int{1}, []int{6, 6}},
		{[]int{1, 1}, []int{6}},
		{[]int{1, 5}, []int{10, 9}},
		{[]int{5, 1}, []int{6, 13}},
		{[]int{2}, []int{12}},
		{[]int{12}, []int{2}},
		{[]int{0}, []int{1}},
		{[]int{1}, []int{4}},
		{[]int{-1}, []int{1}},
		{[]int{1}, []int{24}},
		{[]int{1, 6}, []int{5}},
		{[]int{1, 6}, []int{1, 6}},
	} {
		wantJoined(t, m, c.a, c.b, nil)
	}
	wantJoined(t, m, []int{1}, []int{6, 19, 12}, []int{1, 6, 19, 12})
	wantJoined(t, m, []int{1}, []int{7}, []int{1, 7})
	wantJoined(t, m, []int{7}, []int{1}, []int{7, 1})
}

func TestARouteTurnedBackTwice(t *testing.T) {
	r := rand.New(rand.NewPCG(6, 1))
	for _, g := range validGrids() {
		for range 40 {
			b := boardOf(g)
			route := b.wander(r, 1+r.IntN(20))
			if len(route) == 0 {
				continue
			}
			back, ok := impl.ReverseRoute(b.mesh, route)
			if !ok || !slices.Equal(impl.RouteNodes(b.mesh, back), backward(b.nodesOf(route))) {
				t.Errorf("the nodes of %v back are those of %v in %v", route, back, g)
			}
			wantReversed(t, b.mesh, back, route)
			both, ok := impl.JoinRoutes(b.mesh, route, back)
			if !ok || impl.IsLoopFree(b.mesh, both) || both[0]/4 != route[0]/4 {
				t.Errorf("%v does not lead there and back in %v", both, g)
			}
			wantReversed(t, b.mesh, both, both)
		}
	}
}

func TestRoutesThatWanderAboutAllGrids(t *testing.T) {
	r := rand.New(rand.NewPCG(6, 2))
	for _, g := range validGrids() {
		for range 100 {
			whole := boardOf(g)
			wantList(t, whole, whole.wander(r, r.IntN(12)))
			b := boardOf(g, brokenAt(r, g, 2+r.IntN(8))...)
			wantList(t, b, b.wander(r, r.IntN(12)))
			wantList(t, b, whole.wander(r, r.IntN(6)))
		}
	}
}

func TestLongRoutes(t *testing.T) {
	m := impl.Mesh{Grid: impl.Grid{Width: 2, Height: 1}}
	route := slices.Repeat([]int{1, 7}, 500)
	nodes := append(slices.Repeat([]int{0, 1}, 500), 0)
	wantNodes(t, m, route, nodes)
	wantReversed(t, m, route, route)
	wantJoined(t, m, route, route, slices.Repeat(route, 2))
	wantNodes(t, m, append(route, 7), nil)
	wantReversed(t, m, append(route, 7), nil)
	wantJoined(t, m, route, []int{7}, nil)
}

func TestStandardTablesLeadAlongRoutesWithoutLoops(t *testing.T) {
	for _, g := range validGrids() {
		b := boardOf(g)
		for _, rule := range standardRules {
			x, _ := impl.StandardTable(g, rule)
			for from := range b.nodes {
				for to := range b.nodes {
					route := impl.WalkTable(b.mesh, x, from, to)
					if from == to {
						wantNoRoute(t, b.mesh, route)
						continue
					}
					wantList(t, b, route)
					nodes := impl.RouteNodes(b.mesh, route)
					if !impl.IsLoopFree(b.mesh, route) || nodes[0] != from || nodes[len(nodes)-1] != to || len(nodes) != impl.Distance(g, from, to)+1 {
						t.Errorf("rule %d in %v leads from %d to %d along %v", rule, g, from, to, nodes)
					}
					back, ok := impl.ReverseRoute(b.mesh, route)
					if !ok || !impl.IsLoopFree(b.mesh, back) {
						t.Errorf("%v in %v is turned back into %v", route, g, back)
					}
				}
			}
		}
		// On the way back, the columns and rows change in the other order.
		xy, _ := impl.StandardTable(g, impl.RuleXY)
		yx, _ := impl.StandardTable(g, impl.RuleYX)
		for from := range b.nodes {
			for to := range b.nodes {
				wantReversed(t, b.mesh, impl.WalkTable(b.mesh, xy, from, to), impl.WalkTable(b.mesh, yx, to, from))
			}
		}
	}
}

func TestGrownTablesLeadAlongRoutesWithoutLoops(t *testing.T) {
	r := rand.New(rand.NewPCG(6, 3))
	for _, g := range validGrids() {
		for range 10 {
			b := boardOf(g, brokenAt(r, g, 10)...)
			ports, ok := grownTable(b, r)
			if !ok {
				continue
			}
			for from := range b.nodes {
				for to := range b.nodes {
					route := impl.WalkTable(b.mesh, impl.Table{Ports: ports}, from, to)
					if from != to && !impl.IsLoopFree(b.mesh, route) {
						t.Errorf("a table leads along a route with a loop: %v in %v", route, b.mesh)
					}
					wantList(t, b, route)
				}
			}
		}
	}
}

func TestRouteFunctionsKeepTheirArguments(t *testing.T) {
	g := impl.Grid{Width: 3, Height: 2}
	memory := []int{1, 6, 19, 12, 77, 78, 13, 17, 79, 2, 9, 80}
	before := slices.Clone(memory)
	for _, broken := range [][]int{memory[9:9], memory[9:10], memory[9:11], memory[5:7]} {
		m := impl.Mesh{Grid: g, Broken: broken}
		for range 2 {
			for from := range 6 {
				for to := from; to <= 6; to++ {
					impl.RouteNodes(m, memory[from:to])
					impl.IsRoute(m, memory[from:to])
					impl.IsLoopFree(m, memory[from:to])
					impl.ReverseRoute(m, memory[from:to])
					impl.JoinRoutes(m, memory[from:to], memory[6:8])
					impl.JoinRoutes(m, memory[from:to], memory[from:to])
					impl.JoinRoutes(m, memory[from:to], nil)
					impl.JoinRoutes(m, nil, memory[from:to])
				}
			}
		}
		if !slices.Equal(memory, before) {
			t.Fatalf("the arguments were changed from %v to %v", before, memory)
		}
	}
}

func TestARouteIsNewMemory(t *testing.T) {
	m := impl.Mesh{Grid: impl.Grid{Width: 3, Height: 2}}
	for _, c := range []struct{ a, b []int }{
		{[]int{1, 6}, []int{19, 12}},
		{[]int{1, 6}, nil},
		{[]int{1, 6}, []int{}},
		{nil, []int{1, 6}},
		{append(make([]int, 0, 10), 1, 6), append(make([]int, 0, 10), 19)},
		{append(make([]int, 0, 10), 1, 6), make([]int, 0, 10)},
		{make([]int, 0, 10), append(make([]int, 0, 10), 1, 6)},
	} {
		a, b := slices.Clone(c.a), slices.Clone(c.b)
		whole := slices.Concat(a, b)
		for _, result := range []func() []int{
			func() []int { joined, _ := impl.JoinRoutes(m, c.a, c.b); return joined },
			func() []int { back, _ := impl.ReverseRoute(m, whole); return back },
			func() []int { return impl.RouteNodes(m, whole) },
		} {
			first, second := result(), result()
			want := slices.Clone(first)
			for i := range first[:cap(first)] {
				first[:cap(first)][i] = -7
			}
			if !slices.Equal(second, want) || !slices.Equal(result(), want) || !slices.Equal(c.a, a) || !slices.Equal(c.b, b) || !slices.Equal(whole, slices.Concat(a, b)) {
				t.Errorf("a result shares memory with %v, %v or a later result", c.a, c.b)
			}
		}
	}
}
