package tests

import (
	"math"
	"math/rand/v2"
	"slices"
	"testing"

	"loop.example/g00984/impl"
)

// board is a valid mesh with its neighbors and channels, found by comparing places.
type board struct {
	mesh      impl.Mesh
	nodes     int
	neighbors [][4]int
	channels  []int
}

func boardOf(g impl.Grid, broken ...int) board {
	return board{impl.Mesh{Grid: g, Broken: broken}, g.Width * g.Height, neighborsOf(g), without(channelsOf(g), broken)}
}

// follow goes along the ports for far more channels than there are nodes, so that only a circle does not end.
func (b board) follow(ports []int, from int, to int) []int {
	if from == to || len(ports) != b.nodes*b.nodes {
		return nil
	}
	var walk []int
	node := from
	for len(walk) < 100 {
		port := ports[node*b.nodes+to]
		if port == impl.Local && node == to {
			return walk
		}
		if port < 0 || port > 3 || !slices.Contains(b.channels, 4*node+port) {
			return nil
		}
		walk = append(walk, 4*node+port)
		node = b.neighbors[node][port]
	}
	return nil
}

// verdict says what TableOk, LongestWalk and IsMinimal must return.
type verdict struct {
	ok      bool
	longest int
	minimal bool
}

var notValid = verdict{false, -1, false}

// verdictOf judges a table by its walks alone.
func (b board) verdictOf(ports []int) verdict {
	if len(ports) != b.nodes*b.nodes {
		return notValid
	}
	places := placesOf(b.mesh.Grid)
	v := verdict{true, 0, true}
	for from := range b.nodes {
		if ports[from*b.nodes+from] != impl.Local {
			return notValid
		}
		for to := range b.nodes {
			walk := b.follow(ports, from, to)
			if from != to && walk == nil {
				return notValid
			}
			v.longest = max(v.longest, len(walk))
			v.minimal = v.minimal && len(walk) == walked(places[from], places[to])
		}
	}
	return v
}

// wantVerdict checks the functions that judge a whole table.
func wantVerdict(t *testing.T, m impl.Mesh, ports []int, want verdict) {
	t.Helper()
	x := impl.Table{Ports: ports}
	got := verdict{impl.TableOk(m, x), impl.LongestWalk(m, x), impl.IsMinimal(m, x)}
	if got != want {
		t.Errorf("TableOk, LongestWalk and IsMinimal of %v in %v are %v; want %v", ports, m, got, want)
	}
}

// wantWalk checks one walk; want is empty if there must be none.
func wantWalk(t *testing.T, m impl.Mesh, ports []int, from int, to int, want []int) {
	t.Helper()
	if got := impl.WalkTable(m, impl.Table{Ports: ports}, from, to); !slices.Equal(got, want) {
		t.Errorf("WalkTable(%v, %v, %d, %d) = %v; want %v", m, ports, from, to, got, want)
	}
}

// wantTable checks all functions for a table, and for all pairs of nodes up to just outside of the range.
func wantTable(t *testing.T, b board, ports []int) {
	t.Helper()
	wantVerdict(t, b.mesh, ports, b.verdictOf(ports))
	for node := -1; node <= b.nodes; node++ {
		for to := -1; to <= b.nodes; to++ {
			inside := node >= 0 && node < b.nodes && to >= 0 && to < b.nodes
			port, walk := -1, []int(nil)
			if inside && len(ports) == b.nodes*b.nodes {
				walk = b.follow(ports, node, to)
				if p := ports[node*b.nodes+to]; p >= 0 && p <= 4 {
					port = p
				}
			}
			wantInt(t, "PortAt", b.mesh.Grid, []int{node, to}, impl.PortAt(b.mesh, impl.Table{Ports: ports}, node, to), port)
			wantWalk(t, b.mesh, ports, node, to, walk)
		}
	}
}

// wantNoTable checks a mesh or a table for which there is no port at all.
func wantNoTable(t *testing.T, m impl.Mesh, ports []int, nodes []int) {
	t.Helper()
	wantVerdict(t, m, ports, notValid)
	for _, node := range nodes {
		for _, to := range nodes {
			wantInt(t, "PortAt", m.Grid, []int{node, to}, impl.PortAt(m, impl.Table{Ports: ports}, node, to), -1)
			wantWalk(t, m, ports, node, to, nil)
		}
	}
}

// portTo returns the port of a node that leads to a neighbor.
func portTo(neighbors [][4]int, node int, neighbor int) int {
	return slices.Index(neighbors[node][:], neighbor)
}

// rowsFirst is a minimal table: it goes along the row and then along the column.
func rowsFirst(g impl.Grid) []int {
	places := placesOf(g)
	var ports []int
	for _, at := range places {
		for _, to := range places {
			switch {
			case at.x < to.x:
				ports = append(ports, impl.East)
			case at.x > to.x:
				ports = append(ports, impl.West)
			case at.y < to.y:
				ports = append(ports, impl.South)
			case at.y > to.y:
				ports = append(ports, impl.North)
			default:
				ports = append(ports, impl.Local)
			}
		}
	}
	return ports
}

// snakeOf lists all nodes so that each one is a neighbor of the next: the rows in turn from west to east and back.
func snakeOf(g impl.Grid) []int {
	var snake []int
	for y := range g.Height {
		for x := range g.Width {
			if y%2 == 1 {
				x = g.Width - 1 - x
			}
			snake = append(snake, y*g.Width+x)
		}
	}
	return snake
}

// circleOf lists all nodes of a grid of two or four columns so that each is a neighbor of the next, and the last of the first.
func circleOf(g impl.Grid) []int {
	circle := snakeOf(impl.Grid{Width: g.Height, Height: g.Width})
	for i, node := range circle {
		circle[i] = node%g.Height*g.Width + node/g.Height
	}
	if g.Width == 2 {
		return circle
	}
	// With four columns, the north row leads back, and the columns begin below it.
	circle = nil
	for x := range 4 {
		for y := 1; y < g.Height; y++ {
			if x%2 == 0 {
				circle = append(circle, y*4+x)
			} else {
				circle = append(circle, (g.Height-y)*4+x)
			}
		}
	}
	return append(circle, 3, 2, 1, 0)
}

// circleGrids are the grids for which circleOf is defined here.
func circleGrids() []impl.Grid {
	return []impl.Grid{{Width: 2, Height: 2}, {Width: 2, Height: 3}, {Width: 2, Height: 4}, {Width: 4, Height: 2}, {Width: 4, Height: 3}, {Width: 4, Height: 4}}
}

// alongSnake is a table that leads each packet along the snake, forward or back.
func alongSnake(g impl.Grid) []int {
	snake, neighbors := snakeOf(g), neighborsOf(g)
	n := len(snake)
	ports := make([]int, n*n)
	for i, node := range snake {
		for j, to := range snake {
			switch {
			case i < j:
				ports[node*n+to] = portTo(neighbors, node, snake[i+1])
			case i > j:
				ports[node*n+to] = portTo(neighbors, node, snake[i-1])
			default:
				ports[node*n+to] = impl.Local
			}
		}
	}
	return ports
}

// setCircle lets packets for a node go around a circle of nodes.
func setCircle(b board, ports []int, circle []int, to int) {
	for i, node := range circle {
		ports[node*b.nodes+to] = portTo(b.neighbors, node, circle[(i+1)%len(circle)])
	}
}

// turnedBack is a table with which packets for a node go to and fro between the two ends of a channel.
func turnedBack(b board, channel int, to int) []int {
	ports := rowsFirst(b.mesh.Grid)
	setCircle(b, ports, []int{channel / 4, b.neighbors[channel/4][channel%4]}, to)
	return ports
}

// alongCircle is a table that leads each packet around a circle of all nodes.
func alongCircle(b board, circle []int) []int {
	ports := make([]int, b.nodes*b.nodes)
	for to := range b.nodes {
		setCircle(b, ports, circle, to)
		ports[to*b.nodes+to] = impl.Local
	}
	return ports
}

// grownTable leads to each node along a tree that grows from it at random; it returns false if a node cannot be reached.
func grownTable(b board, r *rand.Rand) ([]int, bool) {
	ports := make([]int, b.nodes*b.nodes)
	for to := range b.nodes {
		inside := []int{to}
		ports[to*b.nodes+to] = impl.Local
		for len(inside) < b.nodes {
			var ways []int
			for _, channel := range b.channels {
				if !slices.Contains(inside, channel/4) && slices.Contains(inside, b.neighbors[channel/4][channel%4]) {
					ways = append(ways, channel)
				}
			}
			if len(ways) == 0 {
				return nil, false
			}
			way := ways[r.IntN(len(ways))]
			ports[way/4*b.nodes+to] = way % 4
			inside = append(inside, way/4)
		}
	}
	return ports, true
}

// noTables visits tables that are not valid, or whose mesh is not valid.
func noTables(visit func(m impl.Mesh, ports []int)) {
	tablesThatTurnBack(visit)
	tablesOfAWrongSize(visit)
	tablesWithPortsThatDoNotExist(visit)
	tablesOfMeshesThatAreNotValid(visit)
}

// tablesThatTurnBack visits tables with walks without end, each for one destination and between two neighbors.
func tablesThatTurnBack(visit func(m impl.Mesh, ports []int)) {
	for _, g := range validGrids() {
		b := boardOf(g)
		for _, channel := range b.channels {
			for to := range b.nodes {
				visit(b.mesh, turnedBack(b, channel, to))
			}
		}
	}
}

func tablesOfAWrongSize(visit func(m impl.Mesh, ports []int)) {
	for _, g := range validGrids() {
		b := boardOf(g)
		for size := range 300 {
			if size != b.nodes*b.nodes {
				visit(b.mesh, slices.Repeat([]int{impl.Local}, size))
			}
		}
		visit(b.mesh, nil)
		visit(b.mesh, append(rowsFirst(g), impl.Local))
		visit(b.mesh, rowsFirst(g)[1:])
	}
}

func tablesWithPortsThatDoNotExist(visit func(m impl.Mesh, ports []int)) {
	for _, g := range validGrids() {
		b := boardOf(g)
		for _, port := range without(channelNumbers(), []int{0, 1, 2, 3, 4}) {
			for _, i := range []int{0, b.nodes - 1, b.nodes*b.nodes - 1} {
				ports := rowsFirst(g)
				ports[i] = port
				visit(b.mesh, ports)
			}
		}
	}
}

func tablesOfMeshesThatAreNotValid(visit func(m impl.Mesh, ports []int)) {
	for _, g := range invalidGrids() {
		for _, size := range []int{0, 1, 4, 16, 256} {
			visit(impl.Mesh{Grid: g}, slices.Repeat([]int{impl.Local}, size))
		}
	}
	for _, g := range validGrids() {
		for _, channel := range without(channelNumbers(), channelsOf(g)) {
			visit(impl.Mesh{Grid: g, Broken: []int{channel}}, rowsFirst(g))
		}
		for _, channel := range channelsOf(g) {
			visit(impl.Mesh{Grid: g, Broken: []int{channel, channel}}, rowsFirst(g))
		}
	}
	// The table needs neither of the two channels, whose order alone is wrong.
	visit(impl.Mesh{Grid: impl.Grid{Width: 2, Height: 2}, Broken: []int{7, 2}}, clockwise())
}

// manyTables visits tables of valid meshes, of which some are valid and some are not.
func manyTables(visit func(b board, ports []int)) {
	tablesWithOneOtherPort(visit)
	tablesWithBrokenChannels(visit)
	tablesAtRandom(visit)
	for _, g := range validGrids() {
		visit(boardOf(g), rowsFirst(g))
		visit(boardOf(g), alongSnake(g))
	}
	for _, g := range circleGrids() {
		visit(boardOf(g), alongCircle(boardOf(g), circleOf(g)))
		visit(boardOf(g), alongCircle(boardOf(g), backward(circleOf(g))))
	}
}

func tablesWithOneOtherPort(visit func(b board, ports []int)) {
	for _, g := range []impl.Grid{{Width: 2, Height: 2}, {Width: 3, Height: 2}, {Width: 2, Height: 3}, {Width: 3, Height: 3}} {
		b := boardOf(g)
		for _, ports := range [][]int{rowsFirst(g), alongSnake(g)} {
			for i := range ports {
				for port := -1; port <= 5; port++ {
					other := slices.Clone(ports)
					other[i] = port
					visit(b, other)
				}
			}
		}
	}
}

func tablesWithBrokenChannels(visit func(b board, ports []int)) {
	square := impl.Grid{Width: 2, Height: 2}
	for _, broken := range subsets(channelsOf(square)) {
		b := boardOf(square, broken...)
		for _, ports := range [][]int{rowsFirst(square), alongSnake(square), clockwise(), counterclockwise()} {
			visit(b, ports)
		}
	}
	for _, g := range validGrids() {
		visit(boardOf(g, channelsOf(g)...), rowsFirst(g))
	}
}

// tablesAtRandom visits tables that turn in every direction, on walks of every length.
func tablesAtRandom(visit func(b board, ports []int)) {
	r := rand.New(rand.NewPCG(7, 70))
	for _, g := range validGrids() {
		for range 40 {
			b := boardOf(g, brokenAt(r, g, 12)...)
			ports, ok := grownTable(b, r)
			if !ok {
				continue
			}
			visit(b, slices.Clone(ports))
			ports[r.IntN(len(ports))] = r.IntN(7) - 1
			visit(b, ports)
		}
	}
}

// subsets returns all subsets of a list, each in the order of the list.
func subsets(list []int) [][]int {
	all := [][]int{nil}
	for _, n := range list {
		for _, s := range slices.Clone(all) {
			all = append(all, append(slices.Clone(s), n))
		}
	}
	return all
}

func TestTableExamples(t *testing.T) {
	pair := impl.Mesh{Grid: impl.Grid{Width: 2, Height: 1}}
	wantVerdict(t, pair, []int{4, 1, 3, 4}, verdict{true, 1, true})
	wantVerdict(t, pair, []int{4, 3, 3, 4}, notValid)
	wantWalk(t, pair, []int{4, 1, 3, 4}, 0, 1, []int{1})
	wantWalk(t, pair, []int{4, 1, 3, 4}, 1, 0, []int{7})
	wantWalk(t, pair, []int{4, 1, 3, 4}, 0, 0, nil)
	wantWalk(t, pair, []int{4, 3, 3, 4}, 0, 1, nil)

	square := impl.Mesh{Grid: impl.Grid{Width: 2, Height: 2}}
	clockwise := []int{4, 1, 1, 1, 2, 4, 2, 2, 0, 0, 4, 0, 3, 3, 3, 4}
	wantVerdict(t, square, clockwise, verdict{true, 3, false})
	wantWalk(t, square, clockwise, 0, 1, []int{1})
	wantWalk(t, square, clockwise, 0, 3, []int{1, 6})
	wantWalk(t, square, clockwise, 0, 2, []int{1, 6, 15})
	wantWalk(t, square, clockwise, 1, 0, []int{6, 15, 8})
	wantWalk(t, square, clockwise, 3, 1, []int{15, 8, 1})
	wantInt(t, "PortAt", square.Grid, []int{1, 2}, impl.PortAt(square, impl.Table{Ports: clockwise}, 1, 2), impl.South)
	wantInt(t, "PortAt", square.Grid, []int{2, 1}, impl.PortAt(square, impl.Table{Ports: clockwise}, 2, 1), impl.North)
	wantInt(t, "PortAt", square.Grid, []int{2, 2}, impl.PortAt(square, impl.Table{Ports: clockwise}, 2, 2), impl.Local)

	square.Broken = []int{2}
	wantVerdict(t, square, clockwise, verdict{true, 3, false})
	square.Broken = []int{2, 15}
	wantVerdict(t, square, clockwise, notValid)
	wantWalk(t, square, clockwise, 0, 3, []int{1, 6})
	wantWalk(t, square, clockwise, 0, 2, nil)
	wantInt(t, "PortAt", square.Grid, []int{3, 2}, impl.PortAt(square, impl.Table{Ports: clockwise}, 3, 2), impl.West)
}

func TestMinimalTablesOfAllGrids(t *testing.T) {
	for _, g := range validGrids() {
		b := boardOf(g)
		ports := rowsFirst(g)
		wantTable(t, b, ports)
		wantVerdict(t, b.mesh, ports, verdict{true, g.Width + g.Height - 2, true})
	}
}

// Ports must be read row by row, and those of no direction must be kept apart from the others.
func TestPortAtOfAllNumbers(t *testing.T) {
	for _, g := range validGrids() {
		n := g.Width * g.Height
		ports := make([]int, n*n)
		for i := range ports {
			ports[i] = i%9 - 2
		}
		x := impl.Table{Ports: ports}
		for _, node := range channelNumbers() {
			for _, to := range channelNumbers() {
				want := -1
				if node >= 0 && node < n && to >= 0 && to < n && ports[node*n+to] >= 0 && ports[node*n+to] <= 4 {
					want = ports[node*n+to]
				}
				wantInt(t, "PortAt", g, []int{node, to}, impl.PortAt(impl.Mesh{Grid: g}, x, node, to), want)
			}
		}
	}
}

func TestPortsInsideAndOutsideOfTheRange(t *testing.T) {
	for _, g := range []impl.Grid{{Width: 2, Height: 1}, {Width: 1, Height: 3}, {Width: 2, Height: 2}, {Width: 3, Height: 2}} {
		b := boardOf(g)
		for i := range b.nodes * b.nodes {
			for _, port := range channelNumbers() {
				ports := rowsFirst(g)
				ports[i] = port
				wantTable(t, b, ports)
			}
		}
	}
}

// With the port -1, the number 4*node + port is that of a channel of the node before: here it would lead the walk from node 2 to its end.
func TestAPortBelowTheRangeIsNotAChannelOfAnotherNode(t *testing.T) {
	b := boardOf(impl.Grid{Width: 2, Height: 2})
	for _, ports := range [][]int{
		{4, 1, 2, 1, 3, 4, 3, 2, -1, 0, 4, 1, 0, 0, 3, 4},
		{4, 1, 2, 1, 3, 4, 3, 2, 0, -1, 4, 1, 0, 0, 3, 4},
	} {
		wantVerdict(t, b.mesh, ports, notValid)
		wantTable(t, b, ports)
	}
	wantWalk(t, b.mesh, []int{4, 1, 2, 1, 3, 4, 3, 2, -1, 0, 4, 1, 0, 0, 3, 4}, 2, 0, nil)
}

func TestNodesOutsideOfTheRange(t *testing.T) {
	for _, g := range validGrids() {
		m := impl.Mesh{Grid: g}
		n := g.Width * g.Height
		ports := rowsFirst(g)
		for _, a := range channelNumbers() {
			for _, b := range []int{0, n - 1, a} {
				if a >= 0 && a < n {
					continue
				}
				wantWalk(t, m, ports, a, b, nil)
				wantWalk(t, m, ports, b, a, nil)
				wantInt(t, "PortAt", g, []int{a, b}, impl.PortAt(m, impl.Table{Ports: ports}, a, b), -1)
				wantInt(t, "PortAt", g, []int{b, a}, impl.PortAt(m, impl.Table{Ports: ports}, b, a), -1)
			}
		}
	}
}

func TestTooFewAndTooManyPorts(t *testing.T) {
	for _, g := range validGrids() {
		n := g.Width * g.Height
		long := append(rowsFirst(g), slices.Repeat([]int{impl.Local}, 300)...)
		for _, count := range []int{0, 1, n - 1, n, n*n - 1, n*n + 1, n * (n - 1), n * (n + 1), 2 * n * n, 255, 256, 257, n*n + 256} {
			if count != n*n {
				wantNoTable(t, impl.Mesh{Grid: g}, long[:count], []int{-1, 0, n / 2, n - 1, n})
			}
		}
		wantNoTable(t, impl.Mesh{Grid: g}, nil, []int{-1, 0, n / 2, n - 1, n})
		wantTable(t, boardOf(g), long[:n*n])
	}
}

func TestTablesOfMeshesThatAreNotValid(t *testing.T) {
	nodes := []int{math.MinInt, -1, 0, 1, 3, 15, 16, math.MaxInt}
	for _, g := range invalidGrids() {
		for _, count := range []int{0, 1, 4, 16, 25, 256} {
			wantNoTable(t, impl.Mesh{Grid: g}, slices.Repeat([]int{impl.Local}, count), nodes)
		}
	}
	for _, g := range validGrids() {
		ports := rowsFirst(g)
		for _, broken := range [][]int{{-1}, {4 * g.Width * g.Height}, {0}, {math.MinInt}, {math.MaxInt}} {
			wantNoTable(t, impl.Mesh{Grid: g, Broken: broken}, ports, nodes)
		}
	}
	g := impl.Grid{Width: 3, Height: 2}
	// These channels are not on the walk, which only the order of the list spoils.
	wantNoTable(t, impl.Mesh{Grid: g, Broken: []int{20, 5}}, rowsFirst(g), nodes)
	wantNoTable(t, impl.Mesh{Grid: g, Broken: []int{5, 5}}, rowsFirst(g), nodes)
}

func TestAMeshOfOneNode(t *testing.T) {
	b := boardOf(impl.Grid{Width: 1, Height: 1})
	wantVerdict(t, b.mesh, []int{impl.Local}, verdict{true, 0, true})
	for _, port := range channelNumbers() {
		wantTable(t, b, []int{port})
		if port != impl.Local {
			wantVerdict(t, b.mesh, []int{port}, notValid)
		}
	}
	wantNoTable(t, b.mesh, nil, channelNumbers())
	wantNoTable(t, b.mesh, []int{impl.Local, impl.Local}, channelNumbers())
}

// The circle of two nodes is tried on each channel, for each destination.
func TestCirclesOfTwoNodes(t *testing.T) {
	for _, g := range validGrids() {
		b := boardOf(g)
		for _, channel := range b.channels {
			for to := range b.nodes {
				ports := turnedBack(b, channel, to)
				wantVerdict(t, b.mesh, ports, notValid)
				for from := range b.nodes {
					wantWalk(t, b.mesh, ports, from, to, b.follow(ports, from, to))
				}
				wantWalk(t, b.mesh, ports, channel/4, to, nil)
				wantWalk(t, b.mesh, ports, b.neighbors[channel/4][channel%4], to, nil)
			}
		}
	}
}

func TestCirclesOfFourNodes(t *testing.T) {
	for _, g := range validGrids() {
		b := boardOf(g)
		for node := range b.nodes {
			if b.neighbors[node][impl.East] < 0 || b.neighbors[node][impl.South] < 0 {
				continue
			}
			circle := []int{node, node + 1, node + 1 + g.Width, node + g.Width}
			for range 2 {
				slices.Reverse(circle)
				for to := range b.nodes {
					ports := rowsFirst(g)
					setCircle(b, ports, circle, to)
					wantVerdict(t, b.mesh, ports, notValid)
					wantTable(t, b, ports)
				}
			}
		}
	}
}

// These walks pass each node, and the destination too, again and again: its own port is not Local.
func TestCirclesThroughAllNodes(t *testing.T) {
	for _, g := range circleGrids() {
		b := boardOf(g)
		circle := circleOf(g)
		for range 2 {
			slices.Reverse(circle)
			for to := range b.nodes {
				ports := rowsFirst(g)
				setCircle(b, ports, circle, to)
				for from := range b.nodes {
					wantWalk(t, b.mesh, ports, from, to, nil)
				}
				wantTable(t, b, ports)
			}
		}
	}
}

// A walk along the snake that turns back at the end of it passes more than n channels without an end.
func TestWalksThatLeadIntoACircle(t *testing.T) {
	for _, g := range validGrids() {
		b := boardOf(g)
		snake := snakeOf(g)
		for range 2 {
			slices.Reverse(snake)
			for turn := 1; turn < b.nodes; turn++ {
				to := snake[turn]
				ports := rowsFirst(g)
				for i := range turn {
					setCircle(b, ports, snake[i:i+2], to)
				}
				for from := range turn + 1 {
					wantWalk(t, b.mesh, ports, snake[from], to, nil)
				}
				wantTable(t, b, ports)
			}
		}
	}
}

func TestTheLongestPossibleWalks(t *testing.T) {
	for _, g := range validGrids() {
		b := boardOf(g)
		snake := snakeOf(g)
		ports := alongSnake(g)
		wantTable(t, b, ports)
		wantVerdict(t, b.mesh, ports, verdict{true, b.nodes - 1, g.Width == 1 || g.Height == 1})
		wantInt(t, "channels of the walk", g, snake, len(impl.WalkTable(b.mesh, impl.Table{Ports: ports}, snake[0], snake[b.nodes-1])), b.nodes-1)
	}
	for _, g := range circleGrids() {
		b := boardOf(g)
		ports := alongCircle(b, circleOf(g))
		wantTable(t, b, ports)
		wantVerdict(t, b.mesh, ports, verdict{true, b.nodes - 1, false})
		for node := range b.nodes {
			before := b.neighbors[node][ports[node*b.nodes+(node+1)%b.nodes]]
			wantInt(t, "channels of the walk", g, []int{before, node}, len(impl.WalkTable(b.mesh, impl.Table{Ports: ports}, before, node)), b.nodes-1)
		}
	}
}

func TestLocalAtAnotherNode(t *testing.T) {
	for _, g := range validGrids() {
		b := boardOf(g)
		for node := range b.nodes {
			for to := range b.nodes {
				if node == to {
					continue
				}
				for _, ports := range [][]int{rowsFirst(g), alongSnake(g)} {
					ports[node*b.nodes+to] = impl.Local
					wantVerdict(t, b.mesh, ports, notValid)
					wantWalk(t, b.mesh, ports, node, to, nil)
					wantInt(t, "PortAt", g, []int{node, to}, impl.PortAt(b.mesh, impl.Table{Ports: ports}, node, to), impl.Local)
					if to == b.nodes-1 {
						wantTable(t, b, ports)
					}
				}
			}
		}
	}
}

func TestAPortOtherThanLocalForANodeItself(t *testing.T) {
	for _, g := range validGrids() {
		b := boardOf(g)
		for node := range b.nodes {
			for _, port := range []int{-1, impl.North, impl.East, impl.South, impl.West, 5} {
				ports := rowsFirst(g)
				ports[node*b.nodes+node] = port
				wantVerdict(t, b.mesh, ports, notValid)
				wantTable(t, b, ports)
			}
		}
	}
}

func TestPortsThatLeadOverTheBorder(t *testing.T) {
	for _, g := range validGrids() {
		b := boardOf(g)
		for node, neighbors := range b.neighbors {
			for port, neighbor := range neighbors {
				if neighbor >= 0 {
					continue
				}
				for to := range b.nodes {
					ports := rowsFirst(g)
					ports[node*b.nodes+to] = port
					wantVerdict(t, b.mesh, ports, notValid)
					wantWalk(t, b.mesh, ports, node, to, nil)
					wantInt(t, "PortAt", g, []int{node, to}, impl.PortAt(b.mesh, impl.Table{Ports: ports}, node, to), port)
				}
			}
		}
	}
}

func TestPortsThatLeadOverABrokenChannel(t *testing.T) {
	for _, g := range validGrids() {
		for _, channel := range channelsOf(g) {
			b := boardOf(g, channel)
			wantVerdict(t, b.mesh, rowsFirst(g), notValid)
			wantTable(t, b, rowsFirst(g))
			wantTable(t, b, alongSnake(g))
			next := b.neighbors[channel/4][channel%4]
			wantWalk(t, b.mesh, rowsFirst(g), channel/4, next, nil)
			wantWalk(t, b.mesh, rowsFirst(g), next, channel/4, []int{4*next + portTo(b.neighbors, next, channel/4)})
		}
	}
	for _, g := range circleGrids() {
		full := boardOf(g)
		ports := alongCircle(full, circleOf(g))
		for _, channel := range full.channels {
			b := boardOf(g, channel)
			want := verdict{true, b.nodes - 1, false}
			if slices.Contains(ports[channel/4*b.nodes:(channel/4+1)*b.nodes], channel%4) {
				want = notValid
			}
			wantVerdict(t, b.mesh, ports, want)
		}
	}
}

func TestTablesWithoutAnyChannel(t *testing.T) {
	for _, g := range validGrids() {
		b := boardOf(g, channelsOf(g)...)
		want := notValid
		if b.nodes == 1 {
			want = verdict{true, 0, true}
		}
		wantVerdict(t, b.mesh, rowsFirst(g), want)
		wantTable(t, b, rowsFirst(g))
	}
}

// One other port in a minimal table leaves it minimal, makes it longer, or spoils it.
func TestOneOtherPort(t *testing.T) {
	counts := map[verdict]int{}
	for _, g := range []impl.Grid{{Width: 3, Height: 2}, {Width: 3, Height: 3}, {Width: 4, Height: 2}} {
		b := boardOf(g)
		for i := range b.nodes * b.nodes {
			for port := impl.North; port <= impl.Local; port++ {
				ports := rowsFirst(g)
				ports[i] = port
				want := b.verdictOf(ports)
				wantVerdict(t, b.mesh, ports, want)
				counts[verdict{want.ok, 0, want.minimal}]++
			}
		}
	}
	if len(counts) != 3 {
		t.Error("some kind of table was not tried", counts)
	}
}

func TestValidTablesThatAreNotMinimal(t *testing.T) {
	m := impl.Mesh{Grid: impl.Grid{Width: 3, Height: 2}}
	detour := rowsFirst(m.Grid)
	detour[0*6+1] = impl.South
	wantWalk(t, m, detour, 0, 1, []int{2, 13, 16})
	wantVerdict(t, m, detour, verdict{true, 3, false})

	// A detour may be shorter than the longest walk, which then stays the same.
	detour = rowsFirst(impl.Grid{Width: 4, Height: 4})
	detour[15*16+14] = impl.North
	m.Grid = impl.Grid{Width: 4, Height: 4}
	wantWalk(t, m, detour, 15, 14, []int{60, 47, 42})
	wantVerdict(t, m, detour, verdict{true, 6, false})
}

func TestAllTablesOfTwoNodes(t *testing.T) {
	for _, g := range []impl.Grid{{Width: 2, Height: 1}, {Width: 1, Height: 2}} {
		for _, broken := range subsets(channelsOf(g)) {
			b := boardOf(g, broken...)
			for i := range 7 * 7 * 7 * 7 {
				wantTable(t, b, []int{i%7 - 1, i/7%7 - 1, i/49%7 - 1, i/343 - 1})
			}
		}
	}
}

// The ports for one destination do not matter for another, so that all of them are tried one destination at a time.
func TestAllPortsForOneDestination(t *testing.T) {
	for _, g := range []impl.Grid{{Width: 2, Height: 2}, {Width: 4, Height: 1}, {Width: 1, Height: 4}} {
		for _, broken := range [][]int{nil, channelsOf(g)[:1], channelsOf(g)[4:5], channelsOf(g)[2:4]} {
			b := boardOf(g, broken...)
			for to := range 4 {
				for i := range 6 * 6 * 6 * 6 {
					ports := rowsFirst(g)
					ports[to], ports[4+to], ports[8+to], ports[12+to] = i%6-1, i/6%6-1, i/36%6-1, i/216-1
					wantVerdict(t, b.mesh, ports, b.verdictOf(ports))
					for from := range 4 {
						wantWalk(t, b.mesh, ports, from, to, b.follow(ports, from, to))
					}
				}
			}
		}
	}
}

func TestGrownTables(t *testing.T) {
	r := rand.New(rand.NewPCG(4, 40))
	valid := 0
	for _, g := range validGrids() {
		for i := range 60 {
			var broken []int
			for _, channel := range channelsOf(g) {
				if r.IntN(12) < i/20 {
					broken = append(broken, channel)
				}
			}
			b := boardOf(g, broken...)
			ports, ok := grownTable(b, r)
			if !ok {
				continue
			}
			valid++
			if !b.verdictOf(ports).ok {
				t.Fatal("a grown table does not reach all nodes", b.mesh, ports)
			}
			wantTable(t, b, ports)
			ports[r.IntN(len(ports))] = r.IntN(7) - 1
			wantTable(t, b, ports)
		}
	}
	if valid < 500 {
		t.Error("too few tables were tried:", valid)
	}
}

func TestNoWalkIsLongerThanTheLongestOne(t *testing.T) {
	r := rand.New(rand.NewPCG(44, 4))
	for _, g := range validGrids() {
		b := boardOf(g)
		tables := [][]int{rowsFirst(g), alongSnake(g)}
		for range 20 {
			ports, _ := grownTable(b, r)
			tables = append(tables, ports)
		}
		for _, ports := range tables {
			x := impl.Table{Ports: ports}
			longest := impl.LongestWalk(b.mesh, x)
			reached := b.nodes == 1
			for from := range b.nodes {
				for to := range b.nodes {
					length := len(impl.WalkTable(b.mesh, x, from, to))
					reached = reached || length == longest
					if length > longest || length < impl.Distance(g, from, to) {
						t.Errorf("the walk from %d to %d has %d channels; LongestWalk is %d: %v", from, to, length, longest, x)
					}
				}
			}
			if !reached || longest < impl.Diameter(g) || longest >= b.nodes {
				t.Errorf("no walk has the %d channels of LongestWalk: %v", longest, x)
			}
		}
	}
}

func TestTableFunctionsKeepTheirArguments(t *testing.T) {
	g := impl.Grid{Width: 2, Height: 2}
	for _, ports := range [][]int{rowsFirst(g), alongSnake(g), alongCircle(boardOf(g), circleOf(g)), slices.Repeat([]int{-5}, 16), slices.Repeat([]int{9, impl.East}, 8)} {
		for _, broken := range [][]int{{}, {1}, {2, 9}, {9, 2}} {
			portMemory := append(slices.Clone(ports), 77, 78)
			brokenMemory := append(slices.Clone(broken), 77, 78)
			x := impl.Table{Ports: portMemory[:16]}
			m := impl.Mesh{Grid: g, Broken: brokenMemory[:len(broken)]}
			for range 2 {
				impl.PortAt(m, x, 0, 3)
				impl.WalkTable(m, x, 0, 3)
				impl.TableOk(m, x)
				impl.LongestWalk(m, x)
				impl.IsMinimal(m, x)
			}
			if !slices.Equal(portMemory, append(slices.Clone(ports), 77, 78)) || !slices.Equal(brokenMemory, append(slices.Clone(broken), 77, 78)) {
				t.Errorf("the arguments were changed from %v and %v to %v and %v", ports, broken, portMemory, brokenMemory)
			}
		}
	}
}

func TestAWalkIsNewMemory(t *testing.T) {
	m := impl.Mesh{Grid: impl.Grid{Width: 4, Height: 1}}
	x := impl.Table{Ports: rowsFirst(m.Grid)}
	first, second := impl.WalkTable(m, x, 0, 3), impl.WalkTable(m, x, 0, 3)
	for i := range first {
		first[i] = -7
	}
	if !slices.Equal(second, []int{1, 5, 9}) || !slices.Equal(x.Ports, rowsFirst(m.Grid)) {
		t.Error("a result shares memory", second, x.Ports)
	}
	wantWalk(t, m, x.Ports, 0, 3, []int{1, 5, 9})
}
