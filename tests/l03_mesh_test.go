package tests

import (
	"math"
	"slices"
	"testing"

	"loop.example/g00984/impl"
)

// directions are the steps from a place to its neighbors, in the order of the ports North, East, South and West.
var directions = []place{{0, -1}, {1, 0}, {0, 1}, {-1, 0}}

// channelNumbers are channels inside, at and outside of the ranges of all grids, up to the ends of int.
func channelNumbers() []int {
	list := numbers()
	for n := 41; n <= 72; n++ {
		list = append(list, n)
	}
	return append(list, 4<<32, 1<<62+1, math.MaxInt-2, math.MinInt+2, math.MinInt+3)
}

// neighborsOf lists for each node its neighbors at the ports North to West, found by comparing places, with -1 for none.
func neighborsOf(g impl.Grid) [][4]int {
	places := placesOf(g)
	all := make([][4]int, len(places))
	for node, p := range places {
		for port, d := range directions {
			all[node][port] = slices.Index(places, place{p.x + d.x, p.y + d.y})
		}
	}
	return all
}

// channelsOf lists the channels of a grid in ascending order.
func channelsOf(g impl.Grid) []int {
	var all []int
	for node, neighbors := range neighborsOf(g) {
		for port, neighbor := range neighbors {
			if neighbor >= 0 {
				all = append(all, 4*node+port)
			}
		}
	}
	return all
}

// without lists the elements of all that are not in some.
func without(all []int, some []int) []int {
	var rest []int
	for _, n := range all {
		if !slices.Contains(some, n) {
			rest = append(rest, n)
		}
	}
	return rest
}

// wantMesh checks a valid mesh, and that it has exactly these channels.
func wantMesh(t *testing.T, m impl.Mesh, channels []int) {
	t.Helper()
	if !impl.MeshOk(m) {
		t.Errorf("a valid mesh is rejected: %v", m)
	}
	wantChannels(t, m, channels)
}

// wantNoMesh checks a mesh that is not valid, which has no channels.
func wantNoMesh(t *testing.T, m impl.Mesh) {
	t.Helper()
	if impl.MeshOk(m) {
		t.Errorf("a mesh that is not valid is accepted: %v", m)
	}
	wantChannels(t, m, nil)
}

func wantChannels(t *testing.T, m impl.Mesh, want []int) {
	t.Helper()
	if got := impl.Channels(m); !slices.Equal(got, want) {
		t.Errorf("Channels(%v) = %v; want %v", m, got, want)
	}
	for _, channel := range channelNumbers() {
		if got := impl.HasChannel(m, channel); got != slices.Contains(want, channel) {
			t.Errorf("HasChannel(%v, %d) = %v", m, channel, got)
		}
	}
}

func TestPortNumbers(t *testing.T) {
	if impl.North != 0 || impl.East != 1 || impl.South != 2 || impl.West != 3 || impl.Local != 4 {
		t.Error("ports", impl.North, impl.East, impl.South, impl.West, impl.Local)
	}
}

func TestOpposite(t *testing.T) {
	opposites := map[int]int{impl.North: impl.South, impl.East: impl.West, impl.South: impl.North, impl.West: impl.East, impl.Local: impl.Local}
	for _, port := range channelNumbers() {
		want, ok := opposites[port]
		if !ok {
			want = -1
		}
		if got := impl.Opposite(port); got != want {
			t.Errorf("Opposite(%d) = %d; want %d", port, got, want)
		}
	}
}

func TestPortName(t *testing.T) {
	names := map[int]string{impl.North: "north", impl.East: "east", impl.South: "south", impl.West: "west", impl.Local: "local"}
	for _, port := range channelNumbers() {
		if got := impl.PortName(port); got != names[port] {
			t.Errorf("PortName(%d) = %q; want %q", port, got, names[port])
		}
	}
}

func TestNextNodeExamples(t *testing.T) {
	g := impl.Grid{Width: 3, Height: 2}
	for node, next := range [][5]int{
		{-1, 1, 3, -1, 0},
		{-1, 2, 4, 0, 1},
		{-1, -1, 5, 1, 2},
		{0, 4, -1, -1, 3},
		{1, 5, -1, 3, 4},
		{2, -1, -1, 4, 5},
	} {
		for port, want := range next {
			wantInt(t, "NextNode", g, []int{node, port}, impl.NextNode(g, node, port), want)
		}
		wantInt(t, "NextNode", g, []int{node, -1}, impl.NextNode(g, node, -1), -1)
		wantInt(t, "NextNode", g, []int{node, 5}, impl.NextNode(g, node, 5), -1)
	}
	for port := range 5 {
		wantInt(t, "NextNode", g, []int{-1, port}, impl.NextNode(g, -1, port), -1)
		wantInt(t, "NextNode", g, []int{6, port}, impl.NextNode(g, 6, port), -1)
	}
}

func TestNextNodeInAllGrids(t *testing.T) {
	for _, g := range validGrids() {
		neighbors := neighborsOf(g)
		for _, node := range channelNumbers() {
			for _, port := range channelNumbers() {
				want := -1
				if node >= 0 && node < len(neighbors) {
					switch {
					case port == 4:
						want = node
					case port >= 0 && port < 4:
						want = neighbors[node][port]
					}
				}
				wantInt(t, "NextNode", g, []int{node, port}, impl.NextNode(g, node, port), want)
			}
		}
	}
}

// A grid must not continue at its border with the next row, the previous row or the other side.
func TestTheBorderHasNoNeighbors(t *testing.T) {
	for _, g := range validGrids() {
		for x := range g.Width {
			north, south := x, (g.Height-1)*g.Width+x
			wantInt(t, "NextNode", g, []int{north, impl.North}, impl.NextNode(g, north, impl.North), -1)
			wantInt(t, "NextNode", g, []int{south, impl.South}, impl.NextNode(g, south, impl.South), -1)
		}
		for y := range g.Height {
			west, east := y*g.Width, y*g.Width+g.Width-1
			wantInt(t, "NextNode", g, []int{west, impl.West}, impl.NextNode(g, west, impl.West), -1)
			wantInt(t, "NextNode", g, []int{east, impl.East}, impl.NextNode(g, east, impl.East), -1)
		}
	}
}

func TestANeighborHasTheNodeAtTheOppositePort(t *testing.T) {
	for _, g := range validGrids() {
		for node := range impl.NodeCount(g) {
			for port := impl.North; port <= impl.Local; port++ {
				next := impl.NextNode(g, node, port)
				if next < 0 {
					continue
				}
				wantInt(t, "NextNode", g, []int{next, impl.Opposite(port)}, impl.NextNode(g, next, impl.Opposite(port)), node)
				apart := 1
				if port == impl.Local {
					apart = 0
				}
				wantInt(t, "Distance", g, []int{node, next}, impl.Distance(g, node, next), apart)
			}
		}
	}
}

func TestAllNodesAtDistanceOneAreNeighbors(t *testing.T) {
	for _, g := range validGrids() {
		for a := range impl.NodeCount(g) {
			for b := range impl.NodeCount(g) {
				ports := 0
				for port := impl.North; port <= impl.West; port++ {
					if impl.NextNode(g, a, port) == b {
						ports++
					}
				}
				want := 0
				if impl.Distance(g, a, b) == 1 {
					want = 1
				}
				wantInt(t, "ports between", g, []int{a, b}, ports, want)
			}
		}
	}
}

func TestAGridThatIsNotValidHasNoNeighbors(t *testing.T) {
	for _, g := range invalidGrids() {
		for _, node := range numbers() {
			for port := -2; port <= 6; port++ {
				wantInt(t, "NextNode", g, []int{node, port}, impl.NextNode(g, node, port), -1)
			}
		}
	}
}

func TestMeshesWithoutBrokenChannels(t *testing.T) {
	for _, g := range validGrids() {
		channels := channelsOf(g)
		wantInt(t, "channels", g, nil, len(channels), 2*(g.Width*(g.Height-1)+g.Height*(g.Width-1)))
		wantMesh(t, impl.Mesh{Grid: g}, channels)
		wantMesh(t, impl.Mesh{Grid: g, Broken: []int{}}, channels)
	}
}

func TestMeshExamples(t *testing.T) {
	square := impl.Grid{Width: 2, Height: 2}
	wantMesh(t, impl.Mesh{Grid: square}, []int{1, 2, 6, 7, 8, 9, 12, 15})
	wantMesh(t, impl.Mesh{Grid: square, Broken: []int{1, 8, 15}}, []int{2, 6, 7, 9, 12})
	wantNoMesh(t, impl.Mesh{Grid: square, Broken: []int{0}})
	wantNoMesh(t, impl.Mesh{Grid: square, Broken: []int{3}})
	wantNoMesh(t, impl.Mesh{Grid: square, Broken: []int{16}})
	wantNoMesh(t, impl.Mesh{Grid: square, Broken: []int{-1}})
	wantNoMesh(t, impl.Mesh{Grid: square, Broken: []int{8, 1}})
	wantNoMesh(t, impl.Mesh{Grid: square, Broken: []int{8, 8}})
	wantNoMesh(t, impl.Mesh{Grid: impl.Grid{Width: 5, Height: 1}})
	wantNoMesh(t, impl.Mesh{})
}

func TestMeshesWithOneNode(t *testing.T) {
	g := impl.Grid{Width: 1, Height: 1}
	wantMesh(t, impl.Mesh{Grid: g}, nil)
	for _, channel := range channelNumbers() {
		wantNoMesh(t, impl.Mesh{Grid: g, Broken: []int{channel}})
	}
	for port := impl.North; port <= impl.West; port++ {
		wantInt(t, "NextNode", g, []int{0, port}, impl.NextNode(g, 0, port), -1)
	}
	wantInt(t, "NextNode", g, []int{0, impl.Local}, impl.NextNode(g, 0, impl.Local), 0)
}

func TestMeshesWithOneRow(t *testing.T) {
	wantMesh(t, impl.Mesh{Grid: impl.Grid{Width: 2, Height: 1}}, []int{1, 7})
	wantMesh(t, impl.Mesh{Grid: impl.Grid{Width: 3, Height: 1}}, []int{1, 5, 7, 11})
	g := impl.Grid{Width: 4, Height: 1}
	wantMesh(t, impl.Mesh{Grid: g}, []int{1, 5, 7, 9, 11, 15})
	wantMesh(t, impl.Mesh{Grid: g, Broken: []int{5, 15}}, []int{1, 7, 9, 11})
	for _, channel := range []int{0, 2, 3, 4, 6, 8, 10, 12, 13, 14, 16} {
		wantNoMesh(t, impl.Mesh{Grid: g, Broken: []int{channel}})
	}
}

func TestMeshesWithOneColumn(t *testing.T) {
	wantMesh(t, impl.Mesh{Grid: impl.Grid{Width: 1, Height: 2}}, []int{2, 4})
	wantMesh(t, impl.Mesh{Grid: impl.Grid{Width: 1, Height: 3}}, []int{2, 4, 6, 8})
	g := impl.Grid{Width: 1, Height: 4}
	wantMesh(t, impl.Mesh{Grid: g}, []int{2, 4, 6, 8, 10, 12})
	wantMesh(t, impl.Mesh{Grid: g, Broken: []int{2, 12}}, []int{4, 6, 8, 10})
	for _, channel := range []int{0, 1, 3, 5, 7, 9, 11, 13, 14, 15, 16} {
		wantNoMesh(t, impl.Mesh{Grid: g, Broken: []int{channel}})
	}
}

func TestAMeshWhoseGridIsNotValid(t *testing.T) {
	for _, g := range invalidGrids() {
		wantNoMesh(t, impl.Mesh{Grid: g})
		wantNoMesh(t, impl.Mesh{Grid: g, Broken: []int{1}})
		wantNoMesh(t, impl.Mesh{Grid: g, Broken: []int{2}})
	}
}

func TestOneBrokenChannel(t *testing.T) {
	for _, g := range validGrids() {
		channels := channelsOf(g)
		for _, broken := range channelNumbers() {
			m := impl.Mesh{Grid: g, Broken: []int{broken}}
			if slices.Contains(channels, broken) {
				wantMesh(t, m, without(channels, m.Broken))
			} else {
				wantNoMesh(t, m)
			}
		}
	}
}

func TestTwoBrokenChannels(t *testing.T) {
	for _, g := range validGrids() {
		channels := channelsOf(g)
		for _, a := range channelNumbers() {
			for _, b := range channelNumbers() {
				m := impl.Mesh{Grid: g, Broken: []int{a, b}}
				want := a < b && slices.Contains(channels, a) && slices.Contains(channels, b)
				if got := impl.MeshOk(m); got != want {
					t.Errorf("MeshOk(%v) = %v", m, got)
				}
				if want {
					wantInt(t, "number of Channels", g, m.Broken, len(impl.Channels(m)), len(channels)-2)
				}
			}
		}
	}
}

// A fault must be found at every place in a list of all channels.
func TestAFaultAnywhereInBroken(t *testing.T) {
	for _, g := range validGrids() {
		channels := channelsOf(g)
		for i, channel := range channels {
			wantNoMesh(t, impl.Mesh{Grid: g, Broken: slices.Insert(slices.Clone(channels), i, channel)})
			for _, port := range []int{0, 1, 2, 3} {
				none := channel/4*4 + port
				if at, found := slices.BinarySearch(channels, none); !found {
					wantNoMesh(t, impl.Mesh{Grid: g, Broken: slices.Insert(slices.Clone(channels), at, none)})
				}
			}
			if i > 0 {
				swapped := slices.Clone(channels)
				swapped[i-1], swapped[i] = swapped[i], swapped[i-1]
				wantNoMesh(t, impl.Mesh{Grid: g, Broken: swapped})
				wantNoMesh(t, impl.Mesh{Grid: g, Broken: append(slices.Clone(channels), channels[i-1])})
			}
		}
		wantNoMesh(t, impl.Mesh{Grid: g, Broken: slices.Insert(slices.Clone(channels), 0, -1)})
		wantNoMesh(t, impl.Mesh{Grid: g, Broken: append(slices.Clone(channels), 4*g.Width*g.Height)})
		wantNoMesh(t, impl.Mesh{Grid: g, Broken: append([]int{math.MinInt}, channels...)})
		wantNoMesh(t, impl.Mesh{Grid: g, Broken: append(slices.Clone(channels), math.MaxInt)})
	}
}

func TestAllChannelsBroken(t *testing.T) {
	for _, g := range validGrids() {
		channels := channelsOf(g)
		wantMesh(t, impl.Mesh{Grid: g, Broken: channels}, nil)
		for i, channel := range channels {
			wantMesh(t, impl.Mesh{Grid: g, Broken: slices.Delete(slices.Clone(channels), i, i+1)}, []int{channel})
		}
	}
}

func TestAllSetsOfBrokenChannels(t *testing.T) {
	for _, g := range []impl.Grid{{Width: 2, Height: 2}, {Width: 4, Height: 1}, {Width: 1, Height: 4}} {
		channels := channelsOf(g)
		for set := range 1 << len(channels) {
			var broken []int
			for i, channel := range channels {
				if set>>i&1 == 1 {
					broken = append(broken, channel)
				}
			}
			wantMesh(t, impl.Mesh{Grid: g, Broken: broken}, without(channels, broken))
		}
	}
}

func TestMeshFunctionsKeepTheirArguments(t *testing.T) {
	g := impl.Grid{Width: 3, Height: 2}
	for _, list := range [][]int{{1, 5, 20, 77, 78}, {20, 5, 1, 77, 78}, {5, 5, 5, 77, 78}, {0, -1, 99, 77, 78}} {
		memory := slices.Clone(list)
		m := impl.Mesh{Grid: g, Broken: memory[:3]}
		impl.MeshOk(m)
		impl.HasChannel(m, 2)
		impl.Channels(m)
		if !slices.Equal(memory, list) || m.Grid != g {
			t.Errorf("the arguments were changed from %v to %v", list, memory)
		}
	}
}

func TestChannelsIsNewMemory(t *testing.T) {
	m := impl.Mesh{Grid: impl.Grid{Width: 3, Height: 2}, Broken: []int{1, 5}}
	want := without(channelsOf(m.Grid), m.Broken)
	first, second := impl.Channels(m), impl.Channels(m)
	for i := range first {
		first[i] = -7
	}
	if !slices.Equal(second, want) || !slices.Equal(m.Broken, []int{1, 5}) {
		t.Error("a result shares memory", second, m.Broken)
	}
	wantMesh(t, m, want)
}
