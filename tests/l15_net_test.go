package tests

import (
	"fmt"
	"math"
	"slices"
	"testing"

	"loop.example/g00984/impl"
)

// emptyNet returns what NetNew must return for a valid mesh and valid tables.
func emptyNet(m impl.Mesh, c impl.Classes) impl.Net {
	n := impl.Net{Mesh: m, Classes: c}
	for range m.Grid.Width * m.Grid.Height {
		n.Buffers = append(n.Buffers, nil, nil, nil, nil, nil, nil, nil, nil, nil, nil)
		n.Owners = append(n.Owners, -1, -1, -1, -1, -1, -1, -1, -1, -1, -1)
		n.Turns = append(n.Turns, 0, 0, 0, 0, 0)
		n.Sources = append(n.Sources, nil)
		n.Arrived = append(n.Arrived, nil)
	}
	return cloneNet(n)
}

// gridNet returns an empty network with safe tables.
func gridNet(g impl.Grid) impl.Net {
	return emptyNet(impl.Mesh{Grid: g}, classes(tableOfRule(g, impl.RuleXY), tableOfRule(g, impl.RuleYX)))
}

// goodNets lists empty networks of all grids, with and without broken channels, with safe and with cyclic tables.
func goodNets() []impl.Net {
	var all []impl.Net
	for _, g := range validGrids() {
		all = append(all, gridNet(g))
		snake := classes(alongSnake(g), alongSnake(g))
		all = append(all, emptyNet(impl.Mesh{Grid: g}, snake), emptyNet(impl.Mesh{Grid: g, Broken: unused(g, alongSnake(g))}, snake))
	}
	for _, g := range circleGrids() {
		b := boardOf(g)
		around := alongCircle(b, circleOf(g))
		all = append(all, emptyNet(impl.Mesh{Grid: g, Broken: unused(g, around)}, classes(around, around)))
	}
	return all
}

// unused lists the channels of a grid that no packet takes.
func unused(g impl.Grid, ports []int) []int {
	b := boardOf(g)
	rest := b.channels
	for from := range b.nodes {
		for to := range b.nodes {
			rest = without(rest, b.follow(ports, from, to))
		}
	}
	return rest
}

func cloneLists(lists [][]impl.Flit) [][]impl.Flit {
	var clones [][]impl.Flit
	for _, list := range lists {
		clones = append(clones, slices.Clone(list))
	}
	return clones
}

func cloneNet(n impl.Net) impl.Net {
	return impl.Net{
		Mesh:    impl.Mesh{Grid: n.Mesh.Grid, Broken: slices.Clone(n.Mesh.Broken)},
		Classes: classes(slices.Clone(n.Classes.A.Ports), slices.Clone(n.Classes.B.Ports)),
		Buffers: cloneLists(n.Buffers),
		Owners:  slices.Clone(n.Owners),
		Turns:   slices.Clone(n.Turns),
		Sources: cloneLists(n.Sources),
		Arrived: cloneLists(n.Arrived),
		Time:    n.Time,
	}
}

// equalNets compares all fields; nil and empty lists are alike.
func equalNets(a impl.Net, b impl.Net) bool {
	sameLists := func(a [][]impl.Flit, b [][]impl.Flit) bool {
		return slices.EqualFunc(a, b, slices.Equal)
	}
	return a.Mesh.Grid == b.Mesh.Grid && slices.Equal(a.Mesh.Broken, b.Mesh.Broken) && sameClasses(a.Classes, b.Classes) &&
		sameLists(a.Buffers, b.Buffers) && slices.Equal(a.Owners, b.Owners) && slices.Equal(a.Turns, b.Turns) &&
		sameLists(a.Sources, b.Sources) && sameLists(a.Arrived, b.Arrived) && a.Time == b.Time
}

// line returns some flits to a node, as they follow each other in a buffer.
func line(to int, class int, length int) []impl.Flit {
	var flits []impl.Flit
	for i := range length {
		flits = append(flits, impl.Flit{Packet: 1 + i/5, To: to, Class: class, Head: i%5 == 0, Tail: i%5 == 4})
	}
	return flits
}

// filledNet fills each buffer and each source with as many flits as the functions say, and the lists of arrived flits, too.
func filledNet(n impl.Net, inside func(number int) int, waiting func(node int) int) impl.Net {
	n = cloneNet(n)
	for number := range n.Buffers {
		n.Buffers[number] = line(number%len(n.Sources), number%2, inside(number))
	}
	for node := range n.Sources {
		n.Sources[node] = line(len(n.Sources)-1-node, node%2, waiting(node))
		n.Arrived[node] = line(node, 0, node)
	}
	return n
}

// always is for filledNet.
func always(length int) func(int) int {
	return func(int) int { return length }
}

// some lists the first and the last one of several indexes, and some in between; all of them, if there are few.
func some(count int) []int {
	if count <= 20 {
		return upTo(0, count-1)
	}
	return []int{0, 1, 2, count / 3, count/2 - 1, count / 2, count - 3, count - 2, count - 1}
}

// wantGoodNet checks a valid network and the numbers of its flits.
func wantGoodNet(t *testing.T, what string, n impl.Net, inside int, waiting int) {
	t.Helper()
	if !impl.NetOk(n) {
		t.Errorf("NetOk is false for %s: %v", what, n)
	}
	if got := impl.FlitsInside(n); got != inside {
		t.Errorf("FlitsInside is %d for %s; want %d: %v", got, what, inside, n)
	}
	if got := impl.FlitsWaiting(n); got != waiting {
		t.Errorf("FlitsWaiting is %d for %s; want %d: %v", got, what, waiting, n)
	}
}

func wantBadNet(t *testing.T, what string, n impl.Net) {
	t.Helper()
	if impl.NetOk(n) {
		t.Errorf("NetOk is true for %s: %v", what, n)
	}
	if inside, waiting := impl.FlitsInside(n), impl.FlitsWaiting(n); inside != -1 || waiting != -1 {
		t.Errorf("FlitsInside is %d and FlitsWaiting is %d for %s: %v", inside, waiting, what, n)
	}
}

func wantNewNet(t *testing.T, m impl.Mesh, c impl.Classes) {
	t.Helper()
	n, ok := impl.NetNew(m, c)
	if want := emptyNet(m, c); !ok || !equalNets(n, want) {
		t.Errorf("NetNew(%v, %v) = %v, %v; want %v, true", m, c, n, ok, want)
	}
	wantGoodNet(t, "a new network", n, 0, 0)
}

func wantNoNet(t *testing.T, m impl.Mesh, c impl.Classes) {
	t.Helper()
	if n, ok := impl.NetNew(m, c); ok || !equalNets(n, impl.Net{}) {
		t.Errorf("NetNew(%v, %v) = %v, %v; want none", m, c, n, ok)
	}
}

func TestNetLimits(t *testing.T) {
	if impl.MaxBuffer != 3 || impl.MaxWaiting != 60 {
		t.Error("limits", impl.MaxBuffer, impl.MaxWaiting)
	}
}

func TestBufferAtExamples(t *testing.T) {
	for _, c := range []struct{ node, port, class, want int }{
		{0, impl.North, 0, 0},
		{0, impl.North, 1, 1},
		{0, impl.East, 0, 2},
		{0, impl.South, 1, 5},
		{0, impl.Local, 0, 8},
		{0, impl.Local, 1, 9},
		{1, impl.North, 0, 10},
		{1, impl.Local, 1, 19},
		{7, impl.West, 0, 76},
		{15, impl.North, 0, 150},
		{15, impl.Local, 0, 158},
		{15, impl.Local, 1, 159},
		{-1, impl.North, 0, -1},
		{-1, impl.Local, 1, -1},
		{16, impl.North, 0, -1},
		{16, impl.Local, 1, -1},
		{0, -1, 0, -1},
		{1, -1, 1, -1},
		{0, 5, 0, -1},
		{15, 5, 1, -1},
		{0, impl.North, -1, -1},
		{0, impl.East, -1, -1},
		{0, impl.North, 2, -1},
		{15, impl.Local, 2, -1},
		{math.MaxInt, impl.North, 0, -1},
		{math.MinInt, impl.North, 0, -1},
		{0, math.MaxInt, 0, -1},
		{0, math.MinInt, 0, -1},
		{0, impl.North, math.MaxInt, -1},
		{0, impl.North, math.MinInt, -1},
		{-1, 5, 0, -1},
		{16, -1, 2, -1},
	} {
		if got := impl.BufferAt(c.node, c.port, c.class); got != c.want {
			t.Errorf("BufferAt(%d, %d, %d) = %d; want %d", c.node, c.port, c.class, got, c.want)
		}
	}
}

// The buffers are numbered one after another: by node, then by port, then by class.
func TestAllBuffersInOrder(t *testing.T) {
	want := 0
	for node := range 16 {
		for port := range 5 {
			for class := range 2 {
				if got := impl.BufferAt(node, port, class); got != want {
					t.Errorf("BufferAt(%d, %d, %d) = %d; want %d", node, port, class, got, want)
				}
				want++
			}
		}
	}
}

func TestBuffersThatDoNotExist(t *testing.T) {
	more := append(channelNumbers(), 1<<8, 1<<8+1, 1<<32+1, -1<<32+1, 1<<60, 1<<61, math.MinInt/10)
	for _, node := range more {
		for _, port := range more {
			for _, class := range more {
				exists := slices.Contains(upTo(0, 15), node) && slices.Contains(upTo(0, 4), port) && slices.Contains(upTo(0, 1), class)
				if got := impl.BufferAt(node, port, class); (got == -1) == exists {
					t.Errorf("BufferAt(%d, %d, %d) = %d", node, port, class, got)
				}
			}
		}
	}
}

func TestNewNetExamples(t *testing.T) {
	one := impl.Mesh{Grid: impl.Grid{Width: 1, Height: 1}}
	local := []int{impl.Local}
	n, ok := impl.NetNew(one, classes(local, local))
	if !ok || !equalNets(n, impl.Net{
		Mesh:    one,
		Classes: classes(local, local),
		Buffers: [][]impl.Flit{{}, {}, {}, {}, {}, {}, {}, {}, {}, {}},
		Owners:  []int{-1, -1, -1, -1, -1, -1, -1, -1, -1, -1},
		Turns:   []int{0, 0, 0, 0, 0},
		Sources: [][]impl.Flit{{}},
		Arrived: [][]impl.Flit{{}},
	}) {
		t.Errorf("the network of one node is %v, %v", n, ok)
	}

	// The channels 1 and 15 lead from node 0 to the east and from node 3 to the west.
	m := impl.Mesh{Grid: impl.Grid{Width: 2, Height: 2}, Broken: []int{1, 15}}
	ports := portsOfText("LSSS", "WLWS", "NELE", "NNNL")
	n, ok = impl.NetNew(m, classes(ports, ports))
	if !ok || !equalNets(n, impl.Net{
		Mesh:    m,
		Classes: classes(ports, ports),
		Buffers: make([][]impl.Flit, 40),
		Owners:  slices.Repeat([]int{-1}, 40),
		Turns:   make([]int, 20),
		Sources: make([][]impl.Flit, 4),
		Arrived: make([][]impl.Flit, 4),
	}) {
		t.Errorf("the network with broken channels is %v, %v", n, ok)
	}
	wantNoNet(t, m, classes(ports, clockwise()))
	wantNoNet(t, m, classes(clockwise(), ports))
	wantNoNet(t, impl.Mesh{Grid: m.Grid, Broken: []int{15, 1}}, classes(ports, ports))
}

func TestNewNetsOfAllGrids(t *testing.T) {
	for _, n := range goodNets() {
		wantNewNet(t, n.Mesh, n.Classes)
	}
}

func TestNewNetOfTheGreatestSize(t *testing.T) {
	g := impl.Grid{Width: 4, Height: 4}
	n, ok := impl.NetNew(impl.Mesh{Grid: g}, classes(rowsFirst(g), alongSnake(g)))
	if !ok || len(n.Buffers) != 160 || len(n.Owners) != 160 || len(n.Turns) != 80 || len(n.Sources) != 16 || len(n.Arrived) != 16 {
		t.Errorf("the network has %d buffers, %d owners, %d turns, %d sources and %d lists of arrived flits", len(n.Buffers), len(n.Owners), len(n.Turns), len(n.Sources), len(n.Arrived))
	}
	for i, owner := range n.Owners {
		if owner != -1 || len(n.Buffers[i]) != 0 {
			t.Errorf("the output %d has the owner %d, and the buffer %d flits", i, owner, len(n.Buffers[i]))
		}
	}
}

// A network exists exactly for a mesh and two tables that are valid, whether they are safe or not.
func TestNewNetsOfManyTables(t *testing.T) {
	found := map[bool]int{}
	for _, g := range validGrids() {
		tables := boardOf(g).tablesOf()
		for _, x := range tables {
			for _, y := range tables {
				if x.ok && y.ok {
					wantNewNet(t, x.mesh, classes(x.ports, y.ports))
				} else {
					wantNoNet(t, x.mesh, classes(x.ports, y.ports))
				}
				found[x.ok && y.ok]++
			}
		}
	}
	if found[true] < 100 || found[false] < 100 {
		t.Errorf("some kind of tables was hardly tried: %v", found)
	}
}

func TestNewNetsWithBrokenChannels(t *testing.T) {
	square := impl.Grid{Width: 2, Height: 2}
	found := map[bool]int{}
	for _, broken := range subsets(channelsOf(square)) {
		b := boardOf(square, broken...)
		for _, ports := range [][]int{rowsFirst(square), alongSnake(square), clockwise(), counterclockwise()} {
			x := b.matterOf(ports)
			if x.ok {
				wantNewNet(t, x.mesh, classes(ports, ports))
			} else {
				wantNoNet(t, x.mesh, classes(ports, ports))
			}
			found[x.ok]++
		}
	}
	if found[true] < 20 || found[false] < 20 {
		t.Errorf("some kind of meshes was hardly tried: %v", found)
	}
}

func TestNoNetsForMeshesAndTablesThatAreNotValid(t *testing.T) {
	wantNoNet(t, impl.Mesh{}, impl.Classes{})
	wantNoNet(t, impl.Mesh{Grid: impl.Grid{Width: 1, Height: 1}}, impl.Classes{})
	noTables(func(m impl.Mesh, ports []int) {
		wantNoNet(t, m, classes(ports, ports))
		if impl.GridOk(m.Grid) {
			wantNoNet(t, m, classes(ports, rowsFirst(m.Grid)))
			wantNoNet(t, m, classes(rowsFirst(m.Grid), ports))
		}
	})
	for _, x := range badMatters() {
		wantNoNet(t, x.mesh, classes(x.ports, x.ports))
		wantNoNet(t, x.mesh, classes(x.ports, clockwise()))
		wantNoNet(t, x.mesh, classes(clockwise(), x.ports))
	}
}

func TestTheZeroNetIsNotValid(t *testing.T) {
	wantBadNet(t, "the zero Net", impl.Net{})
	for _, g := range validGrids() {
		n := gridNet(g)
		wantBadNet(t, "a network without lists", impl.Net{Mesh: n.Mesh, Classes: n.Classes})
		n.Mesh, n.Classes = impl.Mesh{}, impl.Classes{}
		wantBadNet(t, "a network without nodes", n)
	}
}

func TestEmptyNetsAreValid(t *testing.T) {
	for _, n := range goodNets() {
		wantGoodNet(t, "an empty network", n, 0, 0)
		for i := range n.Buffers {
			n.Buffers[i] = []impl.Flit{}
		}
		for i := range n.Sources {
			n.Sources[i], n.Arrived[i] = []impl.Flit{}, []impl.Flit{}
		}
		n.Mesh.Broken = append([]int{}, n.Mesh.Broken...)
		wantGoodNet(t, "an empty network without nil lists", n, 0, 0)
	}
}

// Full buffers, and sources with more flits than a buffer may have.
func TestFullNetsAreValid(t *testing.T) {
	for _, n := range goodNets() {
		nodes := len(n.Sources)
		wantGoodNet(t, "a full network", filledNet(n, always(3), always(60)), 30*nodes, 60*nodes)
		wantGoodNet(t, "full buffers", filledNet(n, always(3), always(0)), 30*nodes, 0)
		wantGoodNet(t, "full sources", filledNet(n, always(0), always(60)), 0, 60*nodes)
		wantGoodNet(t, "one flit in each list", filledNet(n, always(1), always(1)), 10*nodes, nodes)
	}
}

func TestPartlyFilledNets(t *testing.T) {
	for _, n := range goodNets() {
		for step := 1; step <= 7; step++ {
			inside, waiting := 0, 0
			filled := filledNet(n, func(number int) int {
				length := number * step / 2 % 4
				inside += length
				return length
			}, func(node int) int {
				length := (node + 1) * step * 5 % 61
				waiting += length
				return length
			})
			wantGoodNet(t, "a partly filled network", filled, inside, waiting)
		}
	}
}

func TestTheLengthsOfBuffers(t *testing.T) {
	for _, n := range []impl.Net{gridNet(impl.Grid{Width: 1, Height: 1}), gridNet(impl.Grid{Width: 2, Height: 1}), gridNet(impl.Grid{Width: 4, Height: 4})} {
		full := filledNet(n, always(3), always(60))
		for number := range n.Buffers {
			for length := range 9 {
				alone, among := cloneNet(n), cloneNet(full)
				alone.Buffers[number] = line(0, number%2, length)
				among.Buffers[number] = line(0, number%2, length)
				what := fmt.Sprintf("%d flits in the buffer %d", length, number)
				if length <= 3 {
					wantGoodNet(t, what, alone, length, 0)
					wantGoodNet(t, what, among, 3*len(n.Buffers)-3+length, 60*len(n.Sources))
				} else {
					wantBadNet(t, what, alone)
					wantBadNet(t, what, among)
				}
			}
		}
	}
}

func TestTheLengthsOfSources(t *testing.T) {
	for _, g := range validGrids() {
		n := gridNet(g)
		full := filledNet(n, always(3), always(60))
		for _, node := range some(len(n.Sources)) {
			for _, length := range []int{0, 1, 2, 3, 4, 10, 58, 59, 60, 61, 62, 63, 64, 65, 100, 120, 200, 256} {
				alone, among := cloneNet(n), cloneNet(full)
				alone.Sources[node] = line(0, 1, length)
				among.Sources[node] = line(0, 1, length)
				what := fmt.Sprintf("%d flits in the source of %d", length, node)
				if length <= 60 {
					wantGoodNet(t, what, alone, 0, length)
					wantGoodNet(t, what, among, 3*len(n.Buffers), 60*len(n.Sources)-60+length)
				} else {
					wantBadNet(t, what, alone)
					wantBadNet(t, what, among)
				}
			}
		}
	}
}

// The flits of a source may have either class, those of a buffer only its own.
func TestTheClassesOfFlits(t *testing.T) {
	for _, g := range validGrids() {
		n := gridNet(g)
		for _, number := range some(len(n.Buffers)) {
			for at := range 3 {
				for _, class := range append(badClasses(), 0, 1) {
					changed := cloneNet(n)
					changed.Buffers[number] = line(0, number%2, 3)
					changed.Buffers[number][at].Class = class
					what := fmt.Sprintf("a flit of the class %d in the buffer %d", class, number)
					if class == number%2 {
						wantGoodNet(t, what, changed, 3, 0)
					} else {
						wantBadNet(t, what, changed)
					}
				}
			}
		}
		for _, node := range some(len(n.Sources)) {
			for _, at := range []int{0, 1, 30, 58, 59} {
				for _, class := range append(badClasses(), 0, 1) {
					changed := cloneNet(n)
					changed.Sources[node] = line(0, at%2, 60)
					changed.Sources[node][at].Class = class
					what := fmt.Sprintf("a flit of the class %d in the source of %d", class, node)
					if class == 0 || class == 1 {
						wantGoodNet(t, what, changed, 0, 60)
					} else {
						wantBadNet(t, what, changed)
					}
				}
			}
		}
	}
}

// The only flit of a buffer has the class of the other buffer of the port.
func TestOneFlitOfTheOtherClass(t *testing.T) {
	n := gridNet(impl.Grid{Width: 4, Height: 4})
	for number := range n.Buffers {
		changed := cloneNet(n)
		changed.Buffers[number] = line(number/10, number%2, 1)
		wantGoodNet(t, "a flit of the class of its buffer", changed, 1, 0)
		changed.Buffers[number] = line(number/10, 1-number%2, 1)
		wantBadNet(t, fmt.Sprintf("a flit of the other class in the buffer %d", number), changed)
	}
}

// A flit may be anywhere on its way to any node, also at its destination.
func TestTheDestinationsOfFlits(t *testing.T) {
	for _, g := range validGrids() {
		n := gridNet(g)
		for _, to := range append(badNodes(g), upTo(0, len(n.Sources)-1)...) {
			good := to >= 0 && to < len(n.Sources)
			for _, number := range []int{0, len(n.Buffers)/2 - 1, len(n.Buffers) - 1} {
				for at := range 3 {
					changed := cloneNet(n)
					changed.Buffers[number] = line(0, number%2, 3)
					changed.Buffers[number][at].To = to
					what := fmt.Sprintf("a flit to %d in the buffer %d", to, number)
					if good {
						wantGoodNet(t, what, changed, 3, 0)
					} else {
						wantBadNet(t, what, changed)
					}
				}
			}
			for _, node := range some(len(n.Sources)) {
				for _, at := range []int{0, 29, 59} {
					changed := cloneNet(n)
					changed.Sources[node] = line(0, 0, 60)
					changed.Sources[node][at].To = to
					what := fmt.Sprintf("a flit to %d in the source of %d", to, node)
					if good {
						wantGoodNet(t, what, changed, 0, 60)
					} else {
						wantBadNet(t, what, changed)
					}
				}
			}
		}
	}
}

// The other fields of flits are not looked at, and need not be those of whole packets.
func TestFlitsThatFormNoPackets(t *testing.T) {
	for _, id := range append(badIds(), 1, 9999) {
		for _, head := range []bool{false, true} {
			for _, tail := range []bool{false, true} {
				n := gridNet(impl.Grid{Width: 2, Height: 2})
				f := impl.Flit{Packet: id, To: 3, Class: 1, Head: head, Tail: tail}
				n.Buffers[39] = []impl.Flit{f, f, f}
				n.Sources[1] = slices.Repeat([]impl.Flit{f}, 7)
				wantGoodNet(t, "any flits", n, 3, 7)
			}
		}
	}
}

// Nothing is required of the flits that have arrived.
func TestArrivedFlits(t *testing.T) {
	for _, g := range validGrids() {
		n := filledNet(gridNet(g), always(2), always(7))
		for _, node := range some(len(n.Arrived)) {
			changed := cloneNet(n)
			for _, to := range badNodes(g) {
				changed.Arrived[node] = append(changed.Arrived[node], impl.Flit{To: to})
			}
			for _, class := range badClasses() {
				changed.Arrived[node] = append(changed.Arrived[node], impl.Flit{Class: class, Head: true})
			}
			wantGoodNet(t, "flits that have arrived", changed, 2*len(n.Buffers), 7*len(n.Sources))
			changed.Arrived[node] = line(0, 0, 5000)
			wantGoodNet(t, "many flits that have arrived", changed, 2*len(n.Buffers), 7*len(n.Sources))
		}
	}
}

func TestOwners(t *testing.T) {
	for _, g := range validGrids() {
		n := gridNet(g)
		for _, output := range some(len(n.Owners)) {
			for _, owner := range append(channelNumbers(), 1<<8, 1<<8-1, 1<<32-1) {
				changed := cloneNet(n)
				changed.Owners[output] = owner
				what := fmt.Sprintf("the owner %d of the output %d", owner, output)
				if owner >= -1 && owner <= impl.Local {
					wantGoodNet(t, what, changed, 0, 0)
				} else {
					wantBadNet(t, what, changed)
				}
			}
		}
		for owner := -1; owner <= 4; owner++ {
			n.Owners = slices.Repeat([]int{owner}, len(n.Owners))
			wantGoodNet(t, "the same owner everywhere", n, 0, 0)
		}
	}
}

func TestTurnsOfOutputs(t *testing.T) {
	for _, g := range validGrids() {
		n := gridNet(g)
		for _, at := range some(len(n.Turns)) {
			for _, turn := range append(channelNumbers(), 1<<8, 1<<8+9, 1<<32+9) {
				changed := cloneNet(n)
				changed.Turns[at] = turn
				what := fmt.Sprintf("the turn %d at %d", turn, at)
				if turn >= 0 && turn <= 9 {
					wantGoodNet(t, what, changed, 0, 0)
				} else {
					wantBadNet(t, what, changed)
				}
			}
		}
		for turn := range 10 {
			n.Turns = slices.Repeat([]int{turn}, len(n.Turns))
			wantGoodNet(t, "the same turn everywhere", n, 0, 0)
		}
	}
}

func TestTimes(t *testing.T) {
	for _, g := range validGrids() {
		n := gridNet(g)
		for _, n.Time = range []int{0, 1, 2, 400, 65536, 999600, 999999, 1000000} {
			wantGoodNet(t, fmt.Sprintf("the time %d", n.Time), n, 0, 0)
		}
		for _, n.Time = range []int{-1, -2, -1000000, 1000001, 1000002, 2000000, 1 << 32, 1<<32 + 1, -1 << 32, math.MaxInt, math.MinInt} {
			wantBadNet(t, fmt.Sprintf("the time %d", n.Time), n)
		}
	}
}

// sizesOf lists the ways in which one list of a network can have another number of elements.
func sizesOf(n impl.Net) map[string]func(size int) impl.Net {
	flits := func(lists [][]impl.Flit, size int) [][]impl.Flit {
		return append(cloneLists(lists), make([][]impl.Flit, 400)...)[:size]
	}
	numbers := func(list []int, size int) []int {
		return append(slices.Clone(list), make([]int, 400)...)[:size]
	}
	return map[string]func(size int) impl.Net{
		"Buffers": func(size int) impl.Net {
			n.Buffers = flits(n.Buffers, size)
			return n
		},
		"Owners": func(size int) impl.Net {
			n.Owners = numbers(n.Owners, size)
			return n
		},
		"Turns": func(size int) impl.Net {
			n.Turns = numbers(n.Turns, size)
			return n
		},
		"Sources": func(size int) impl.Net {
			n.Sources = flits(n.Sources, size)
			return n
		},
		"Arrived": func(size int) impl.Net {
			n.Arrived = flits(n.Arrived, size)
			return n
		},
	}
}

// One list has too few or too many elements, and all others are right.
func TestTheSizesOfLists(t *testing.T) {
	for _, g := range validGrids() {
		nodes := g.Width * g.Height
		right := map[string]int{"Buffers": 10 * nodes, "Owners": 10 * nodes, "Turns": 5 * nodes, "Sources": nodes, "Arrived": nodes}
		for name, size := range right {
			for _, other := range []int{0, 1, 5, 10, size - 2, size - 1, size, size + 1, size + 2, size + 5, size + 10, 2 * size, 180} {
				if other < 0 {
					continue
				}
				n := sizesOf(gridNet(g))[name](other)
				if other == size {
					wantGoodNet(t, "lists of the right sizes", n, 0, 0)
				} else {
					wantBadNet(t, fmt.Sprintf("%s with %d elements instead of %d", name, other, size), n)
				}
			}
		}
	}
}

// Two lists have wrong sizes whose sum is right.
func TestTheSizesOfTwoLists(t *testing.T) {
	names := []string{"Buffers", "Owners", "Turns", "Sources", "Arrived"}
	for _, g := range []impl.Grid{{Width: 2, Height: 2}, {Width: 4, Height: 3}} {
		nodes := g.Width * g.Height
		sizes := []int{10 * nodes, 10 * nodes, 5 * nodes, nodes, nodes}
		for i := range names {
			for j := range names {
				if i != j {
					n := sizesOf(gridNet(g))[names[i]](sizes[i] + 1)
					wantBadNet(t, "wrong sizes of two lists", sizesOf(n)[names[j]](sizes[j]-1))
				}
			}
		}
	}
}

// The lists of a grid do not fit another grid, not even one with as many nodes: the tables are others.
func TestNetsWithAnotherGrid(t *testing.T) {
	for _, g := range validGrids() {
		for _, other := range append(validGrids(), invalidGrids()...) {
			n := gridNet(g)
			n.Mesh.Grid = other
			if other == g {
				wantGoodNet(t, "the same grid", n, 0, 0)
			} else {
				wantBadNet(t, fmt.Sprintf("the lists of %v in %v", g, other), n)
			}
			if other != g && impl.GridOk(other) {
				n.Classes = gridNet(other).Classes
				// Equal numbers of nodes have equal numbers of elements.
				if other.Width*other.Height == g.Width*g.Height {
					wantGoodNet(t, "another grid with as many nodes", n, 0, 0)
				} else {
					wantBadNet(t, fmt.Sprintf("the lists of %v in %v", g, other), n)
				}
			}
		}
	}
}

func TestNetsWithMeshesAndTablesThatAreNotValid(t *testing.T) {
	for _, g := range validGrids() {
		b := boardOf(g)
		n := filledNet(gridNet(g), always(3), always(60))
		for _, broken := range [][]int{{-1}, {1000}, {4*b.nodes + 1}, {0}} {
			changed := cloneNet(n)
			changed.Mesh.Broken = broken
			// The channel 0 would lead north from the first row.
			wantBadNet(t, fmt.Sprintf("the broken channels %v", broken), changed)
		}
		for _, channel := range b.channels {
			changed := cloneNet(n)
			changed.Mesh.Broken = []int{channel}
			// Packets between neighbors take the channel between them.
			wantBadNet(t, fmt.Sprintf("the broken channel %d, which is used", channel), changed)
		}
		for _, ports := range [][]int{nil, n.Classes.A.Ports[1:], slices.Concat(n.Classes.A.Ports, []int{4}), slices.Repeat([]int{5}, b.nodes*b.nodes)} {
			for _, c := range []impl.Classes{classes(ports, n.Classes.B.Ports), classes(n.Classes.A.Ports, ports), classes(ports, ports)} {
				changed := cloneNet(n)
				changed.Classes = c
				wantBadNet(t, "a table that is not valid", changed)
			}
		}
	}
}

func TestSeveralFaultsOfANet(t *testing.T) {
	faults := []func(n *impl.Net){
		func(n *impl.Net) { n.Mesh.Broken = []int{0} },
		func(n *impl.Net) { n.Classes.B.Ports = nil },
		func(n *impl.Net) { n.Buffers = nil },
		func(n *impl.Net) { n.Owners[39] = 5 },
		func(n *impl.Net) { n.Turns = append(n.Turns, 0) },
		func(n *impl.Net) { n.Sources[3] = line(4, 0, 1) },
		func(n *impl.Net) { n.Arrived = nil },
		func(n *impl.Net) { n.Time = -1 },
	}
	for faulty := range 1 << len(faults) {
		n := gridNet(impl.Grid{Width: 2, Height: 2})
		for i, fault := range faults {
			if faulty&(1<<i) != 0 {
				fault(&n)
			}
		}
		if faulty == 0 {
			wantGoodNet(t, "no fault", n, 0, 0)
		} else {
			wantBadNet(t, "several faults", n)
		}
	}
}

// withSpare gives each list spare capacity with contents that must be kept.
func withSpare(n impl.Net) impl.Net {
	numbers := func(list []int) []int {
		return slices.Concat(list, []int{77, -7, 500})[:len(list)]
	}
	flits := func(lists [][]impl.Flit) [][]impl.Flit {
		var all [][]impl.Flit
		for _, list := range lists {
			all = append(all, slices.Concat(list, []impl.Flit{{Packet: 77}, {To: -7}})[:len(list)])
		}
		return append(all, []impl.Flit{{Packet: 500}}, []impl.Flit{{To: 77}})[:len(lists)]
	}
	return impl.Net{
		Mesh:    impl.Mesh{Grid: n.Mesh.Grid, Broken: numbers(n.Mesh.Broken)},
		Classes: classes(numbers(n.Classes.A.Ports), numbers(n.Classes.B.Ports)),
		Buffers: flits(n.Buffers),
		Owners:  numbers(n.Owners),
		Turns:   numbers(n.Turns),
		Sources: flits(n.Sources),
		Arrived: flits(n.Arrived),
		Time:    n.Time,
	}
}

// memoryOf writes out all lists of a network up to their capacity.
func memoryOf(n impl.Net) string {
	text := fmt.Sprint(n.Mesh.Grid, n.Time)
	for _, list := range [][]int{n.Mesh.Broken, n.Classes.A.Ports, n.Classes.B.Ports, n.Owners, n.Turns} {
		text += fmt.Sprint(len(list), list[:cap(list)])
	}
	for _, lists := range [][][]impl.Flit{n.Buffers, n.Sources, n.Arrived} {
		for _, list := range lists[:cap(lists)] {
			text += fmt.Sprint(len(list), list[:cap(list)])
		}
	}
	return text
}

func TestNetFunctionsKeepTheirArguments(t *testing.T) {
	for _, good := range goodNets() {
		full := filledNet(good, always(3), always(60))
		bad := cloneNet(full)
		bad.Buffers[len(bad.Buffers)-1][2].Class = 0
		for _, n := range []impl.Net{good, full, bad} {
			n = withSpare(n)
			kept := memoryOf(n)
			impl.NetOk(n)
			impl.FlitsInside(n)
			impl.FlitsWaiting(n)
			impl.NetNew(n.Mesh, n.Classes)
			if got := memoryOf(n); got != kept {
				t.Errorf("a network was changed from %s to %s", kept, got)
			}
		}
	}
}

// overwriteNet changes all memory of a network, up to the capacity of its lists, one list after another, and calls check after each one.
func overwriteNet(n impl.Net, check func(list string)) {
	numbers := []struct {
		name string
		list []int
	}{
		{"Broken", n.Mesh.Broken}, {"A", n.Classes.A.Ports}, {"B", n.Classes.B.Ports}, {"Owners", n.Owners}, {"Turns", n.Turns},
	}
	for _, x := range numbers {
		overwrite(x.list)
		check(x.name)
	}
	flits := []struct {
		name  string
		lists [][]impl.Flit
	}{
		{"Buffers", n.Buffers}, {"Sources", n.Sources}, {"Arrived", n.Arrived},
	}
	for _, x := range flits {
		for i, list := range x.lists[:cap(x.lists)] {
			for j := range list[:cap(list)] {
				list[:cap(list)][j] = impl.Flit{Packet: -7, To: -7, Class: -7}
			}
			x.lists[:cap(x.lists)][i] = []impl.Flit{{Packet: -7}}
		}
		check(x.name)
	}
}

// Results are overwritten list by list, which must be seen neither in the arguments nor in other results.
func TestANewNetIsNewMemory(t *testing.T) {
	for _, good := range goodNets() {
		argument := withSpare(good)
		kept := memoryOf(argument)
		first, _ := impl.NetNew(argument.Mesh, argument.Classes)
		second, _ := impl.NetNew(argument.Mesh, argument.Classes)
		overwriteNet(first, func(list string) {
			if got := memoryOf(argument); got != kept {
				t.Errorf("the list %s of a new network shares memory with an argument: %s became %s", list, kept, got)
			}
			if !equalNets(second, good) {
				t.Errorf("the list %s shares memory with that of another new network: %v", list, second)
			}
		})
		wantNewNet(t, argument.Mesh, argument.Classes)
	}
}

// No two lists of a result share memory, even if the arguments do.
func TestTheListsOfANewNetShareNoMemory(t *testing.T) {
	for _, good := range goodNets() {
		ports := good.Classes.A.Ports
		want := emptyNet(good.Mesh, classes(ports, ports))
		n, ok := impl.NetNew(good.Mesh, classes(ports, ports))
		if !ok {
			t.Errorf("NetNew(%v, %v) is false", good.Mesh, classes(ports, ports))
		}
		var changed []string
		overwriteNet(n, func(list string) {
			changed = append(changed, list)
			// What has been overwritten is put back for the comparison, so that only what shares memory with it differs.
			rest := n
			for _, name := range changed {
				putBack(&rest, want, name)
			}
			if !equalNets(rest, want) {
				t.Errorf("the list %s shares memory with another one: %v", list, rest)
			}
		})
	}
}

func putBack(n *impl.Net, from impl.Net, list string) {
	switch list {
	case "Broken":
		n.Mesh.Broken = from.Mesh.Broken
	case "A":
		n.Classes.A = from.Classes.A
	case "B":
		n.Classes.B = from.Classes.B
	case "Owners":
		n.Owners = from.Owners
	case "Turns":
		n.Turns = from.Turns
	case "Buffers":
		n.Buffers = from.Buffers
	case "Sources":
		n.Sources = from.Sources
	case "Arrived":
		n.Arrived = from.Arrived
	}
}

// Flits are added to each list in turn: a list with spare capacity that it shares with another one would change that one.
func TestTheBuffersOfANewNetGrowApart(t *testing.T) {
	for _, good := range goodNets() {
		n, _ := impl.NetNew(good.Mesh, good.Classes)
		want := filledNet(good, always(3), always(60))
		for i := range n.Buffers {
			n.Buffers[i] = append(n.Buffers[i], want.Buffers[i]...)
		}
		for i := range n.Sources {
			n.Sources[i] = append(n.Sources[i], want.Sources[i]...)
			n.Arrived[i] = append(n.Arrived[i], want.Arrived[i]...)
		}
		if !equalNets(n, want) {
			t.Errorf("the lists of a new network share memory: %v", n)
		}
	}
}
