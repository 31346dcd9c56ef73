package tests

import (
	"fmt"
	"math"
	"math/rand/v2"
	"slices"
	"testing"

	"loop.example/g00984/impl"
)

// view looks at a valid network with the numbers that the document writes out, and neighbors found by comparing places.
type view struct {
	n impl.Net
	b board
}

func viewOf(n impl.Net) view {
	return view{n, boardOf(n.Mesh.Grid, n.Mesh.Broken...)}
}

func (v view) wanted(node int, input int) int {
	flits := v.n.Buffers[10*node+input]
	if len(flits) == 0 {
		return -1
	}
	if flits[0].Head {
		tables := [][]int{v.n.Classes.A.Ports, v.n.Classes.B.Ports}
		return tables[input%2][node*v.b.nodes+flits[0].To]
	}
	var owners []int
	for port := range 5 {
		owners = append(owners, v.n.Owners[(5*node+port)*2+input%2])
	}
	return slices.Index(owners, input/2)
}

func (v view) room(node int, port int, class int) bool {
	if port == impl.Local {
		return true
	}
	if !slices.Contains(v.b.channels, 4*node+port) {
		return false
	}
	opposite := []int{impl.South, impl.West, impl.North, impl.East}[port]
	return len(v.n.Buffers[(5*v.b.neighbors[node][port]+opposite)*2+class]) < 3
}

func (v view) request(node int, input int, port int) bool {
	if port == -1 || v.wanted(node, input) != port || !v.room(node, port, input%2) {
		return false
	}
	owner := -1
	if !v.n.Buffers[10*node+input][0].Head {
		owner = input / 2
	}
	return v.n.Owners[(5*node+port)*2+input%2] == owner
}

func (v view) requests(node int, port int) []int {
	var inputs []int
	for input := range 10 {
		if v.request(node, input, port) {
			inputs = append(inputs, input)
		}
	}
	return inputs
}

func headTo(to int, class int) impl.Flit {
	return impl.Flit{Packet: 1, To: to, Class: class, Head: true}
}

// follower is a flit in the middle of a packet.
func follower(to int, class int) impl.Flit {
	return impl.Flit{Packet: 1, To: to, Class: class}
}

// withBuffer returns the network with other flits in a buffer.
func withBuffer(n impl.Net, number int, flits ...impl.Flit) impl.Net {
	n = cloneNet(n)
	n.Buffers[number] = flits
	return n
}

// withOwners returns the network with other owners of some outputs.
func withOwners(n impl.Net, owners map[int]int) impl.Net {
	n = cloneNet(n)
	for output, owner := range owners {
		n.Owners[output] = owner
	}
	return n
}

func wantWanted(t *testing.T, n impl.Net, node int, input int, want int) {
	t.Helper()
	if got := impl.WantedPort(n, node, input); got != want {
		t.Errorf("WantedPort(%v, %d, %d) = %d; want %d", n, node, input, got, want)
	}
}

func wantRoom(t *testing.T, n impl.Net, node int, port int, class int, want bool) {
	t.Helper()
	if got := impl.HasRoom(n, node, port, class); got != want {
		t.Errorf("HasRoom(%v, %d, %d, %d) = %v; want %v", n, node, port, class, got, want)
	}
}

func wantRequest(t *testing.T, n impl.Net, node int, input int, port int, want bool) {
	t.Helper()
	if got := impl.IsRequest(n, node, input, port); got != want {
		t.Errorf("IsRequest(%v, %d, %d, %d) = %v; want %v", n, node, input, port, got, want)
	}
}

func wantRequests(t *testing.T, n impl.Net, node int, port int, want ...int) {
	t.Helper()
	if got := impl.RequestsAt(n, node, port); !slices.Equal(got, want) {
		t.Errorf("RequestsAt(%v, %d, %d) = %v; want %v", n, node, port, got, want)
	}
}

// wantView compares all answers for a valid network with those of a view of it, and counts those of IsRequest.
func wantView(t *testing.T, n impl.Net, found map[string]int) {
	t.Helper()
	v := viewOf(n)
	for node := range v.b.nodes {
		for input := range 10 {
			wanted := v.wanted(node, input)
			wantWanted(t, n, node, input, wanted)
			wantRoom(t, n, node, input/2, input%2, v.room(node, input/2, input%2))
			// The port that is wanted, and another one; one of them may be -1.
			for _, port := range []int{wanted, (wanted+6)%6 - 1} {
				request := v.request(node, input, port)
				wantRequest(t, n, node, input, port, request)
				if wanted == port && port >= 0 {
					found[fmt.Sprintf("request %v of a flit with Head %v", request, n.Buffers[10*node+input][0].Head)]++
				}
			}
		}
		for port := -1; port <= 5; port++ {
			requests := v.requests(node, port)
			wantRequests(t, n, node, port, requests...)
			found[fmt.Sprintf("%d requests", len(requests))]++
		}
	}
}

// wantSilent checks that nothing is wanted, that there is no room, and that nothing is requested.
func wantSilent(t *testing.T, what string, n impl.Net, nodes []int, inputs []int, ports []int) {
	t.Helper()
	for _, node := range nodes {
		for _, input := range inputs {
			if got := impl.WantedPort(n, node, input); got != -1 {
				t.Errorf("%s: WantedPort(%v, %d, %d) = %d", what, n, node, input, got)
			}
			for _, port := range ports {
				if impl.IsRequest(n, node, input, port) {
					t.Errorf("%s: IsRequest(%v, %d, %d, %d) is true", what, n, node, input, port)
				}
			}
		}
		for _, port := range ports {
			for class := range 2 {
				if impl.HasRoom(n, node, port, class) {
					t.Errorf("%s: HasRoom(%v, %d, %d, %d) is true", what, n, node, port, class)
				}
			}
			if got := impl.RequestsAt(n, node, port); len(got) > 0 {
				t.Errorf("%s: RequestsAt(%v, %d, %d) = %v", what, n, node, port, got)
			}
		}
	}
}

func TestRequestExample(t *testing.T) {
	g := impl.Grid{Width: 2, Height: 1}
	tables, _ := impl.SplitClasses(g)
	n, ok := impl.NetNew(impl.Mesh{Grid: g}, tables)
	if !ok {
		t.Fatal("no network")
	}
	n.Buffers[8] = []impl.Flit{{Packet: 1, To: 1, Class: 0, Head: true}}
	n.Sources[0] = []impl.Flit{{Packet: 1, To: 1, Class: 0, Tail: true}}
	wantWanted(t, n, 0, 8, impl.East)
	wantWanted(t, n, 0, 9, -1)
	wantRoom(t, n, 0, impl.East, 0, true)
	wantRoom(t, n, 0, impl.West, 0, false)
	wantRequests(t, n, 0, impl.East, 8)
	wantRequest(t, n, 0, 8, impl.East, true)
	wantRequest(t, n, 0, 8, impl.West, false)
	wantRequest(t, n, 0, 9, impl.East, false)
	wantRequests(t, n, 0, impl.West)
	wantRequests(t, n, 1, impl.East)
}

// In an empty network, there is room wherever there is a channel, and nothing is wanted.
func TestEmptyNetsHaveRoomAndNoRequests(t *testing.T) {
	for _, n := range goodNets() {
		b := boardOf(n.Mesh.Grid, n.Mesh.Broken...)
		for node := range b.nodes {
			for port := range 5 {
				for class := range 2 {
					wantRoom(t, n, node, port, class, port == 4 || slices.Contains(b.channels, 4*node+port))
					wantWanted(t, n, node, 2*port+class, -1)
					wantRequest(t, n, node, 2*port+class, port, false)
					wantRequest(t, n, node, 2*port+class, -1, false)
				}
				wantRequests(t, n, node, port)
			}
			wantRequests(t, n, node, -1)
		}
	}
}

// Waiting flits, arrived flits and turns are nothing to the inputs.
func TestInputsOfAFullNodeWithoutBuffers(t *testing.T) {
	n := filledNet(gridNet(impl.Grid{Width: 2, Height: 2}), always(0), always(60))
	n.Turns = slices.Repeat([]int{8}, len(n.Turns))
	n.Owners = slices.Repeat([]int{4}, len(n.Owners))
	for node := range 4 {
		for input := range 10 {
			wantWanted(t, n, node, input, -1)
		}
		for port := range 5 {
			wantRequests(t, n, node, port)
		}
	}
}

// A head wants the port of the table of its class, whatever input it is at.
func TestHeadsWantThePortsOfTheTable(t *testing.T) {
	for _, n := range goodNets() {
		nodes := len(n.Sources)
		for to := range nodes {
			heads := cloneNet(n)
			for number := range heads.Buffers {
				heads.Buffers[number] = []impl.Flit{headTo(to, number%2)}
				// The mark of the tail makes no difference.
				heads.Buffers[number][0].Tail = number/2%3 == 1
			}
			for number := range heads.Buffers {
				if nodes == 16 && number%10 > 3 && number%10 < 8 {
					continue
				}
				ports := [][]int{n.Classes.A.Ports, n.Classes.B.Ports}[number%2]
				wantWanted(t, heads, number/10, number%10, ports[number/10*nodes+to])
			}
		}
	}
}

// The tables of both classes differ where neither the column nor the row is that of the destination.
func TestHeadsOfBothClasses(t *testing.T) {
	n := gridNet(impl.Grid{Width: 3, Height: 3})
	for _, c := range []struct{ node, to, rows, columns int }{
		{0, 8, impl.East, impl.South},
		{8, 0, impl.West, impl.North},
		{2, 6, impl.West, impl.South},
		{6, 2, impl.East, impl.North},
		{4, 0, impl.West, impl.North},
		{4, 2, impl.East, impl.North},
		{4, 6, impl.West, impl.South},
		{4, 8, impl.East, impl.South},
		{4, 1, impl.North, impl.North},
		{4, 3, impl.West, impl.West},
		{4, 5, impl.East, impl.East},
		{4, 7, impl.South, impl.South},
		{4, 4, impl.Local, impl.Local},
		{0, 0, impl.Local, impl.Local},
		{8, 8, impl.Local, impl.Local},
		{5, 6, impl.West, impl.South},
		{3, 7, impl.East, impl.South},
	} {
		for port := range 5 {
			for _, tail := range []bool{false, true} {
				heads := []impl.Flit{headTo(c.to, 0), headTo(c.to, 1)}
				heads[0].Tail, heads[1].Tail = tail, tail
				changed := withBuffer(n, 10*c.node+2*port, heads[0])
				wantWanted(t, changed, c.node, 2*port, c.rows)
				wantWanted(t, changed, c.node, 2*port+1, -1)
				wantRequest(t, changed, c.node, 2*port, c.rows, true)
				changed = withBuffer(n, 10*c.node+2*port+1, heads[1])
				wantWanted(t, changed, c.node, 2*port+1, c.columns)
				wantWanted(t, changed, c.node, 2*port, -1)
				wantRequest(t, changed, c.node, 2*port+1, c.columns, true)
				if c.rows != c.columns {
					wantRequest(t, changed, c.node, 2*port+1, c.rows, false)
				}
			}
		}
	}
}

// A table without a port for a destination is not valid, and neither is its network: no head wants anything there.
func TestHeadsWithoutAPort(t *testing.T) {
	good := gridNet(impl.Grid{Width: 2, Height: 2})
	for class := range 2 {
		for at := range 16 {
			for _, port := range []int{-1, 5, math.MinInt, math.MaxInt, 1<<32 + 1} {
				n := withBuffer(good, 10*(at/4)+8+class, headTo(at%4, class))
				wantRequest(t, n, at/4, 8+class, []int{n.Classes.A.Ports[at], n.Classes.B.Ports[at]}[class], true)
				[]impl.Table{n.Classes.A, n.Classes.B}[class].Ports[at] = port
				wantSilent(t, "a table without a port", n, []int{at / 4}, []int{8 + class}, append(upTo(-1, 5), port))
			}
		}
	}
}

// All sets of outputs of the class are owned by the port of the input, with other owners or none for the others.
func TestFollowersWantTheLeastPortThatTheyOwn(t *testing.T) {
	n := gridNet(impl.Grid{Width: 2, Height: 2})
	for input := range 10 {
		own, class := input/2, input%2
		for set := range 1 << 5 {
			for _, other := range []int{-1, (own + 1) % 5, (own + 4) % 5} {
				f := follower(3, class)
				f.Tail = set%3 == 0
				changed := withBuffer(n, 10+input, f)
				// Neither the outputs of the other class nor those of other nodes count.
				for output := range changed.Owners {
					changed.Owners[output] = own
				}
				want := -1
				for port := 4; port >= 0; port-- {
					output := (5*1+port)*2 + class
					changed.Owners[output] = other
					if set&(1<<port) != 0 {
						changed.Owners[output] = own
						want = port
					}
				}
				wantWanted(t, changed, 1, input, want)
				// From node 1, channels lead to the south and to the west.
				for port := -1; port <= 5; port++ {
					wantRequest(t, changed, 1, input, port, port == want && port >= 2)
				}
			}
		}
	}
}

func TestFollowerExamples(t *testing.T) {
	n := gridNet(impl.Grid{Width: 3, Height: 3})
	// The input 7 of node 4 is at the port West, for the class 1; the outputs of the class 1 are 41, 43, 45, 47 and 49.
	for _, tail := range []bool{false, true} {
		f := follower(0, 1)
		f.Tail = tail
		n = withBuffer(n, 47, f)
		for _, c := range []struct {
			owners map[int]int
			want   int
		}{
			{nil, -1},
			{map[int]int{41: 3}, impl.North},
			{map[int]int{43: 3}, impl.East},
			{map[int]int{45: 3}, impl.South},
			{map[int]int{47: 3}, impl.West},
			{map[int]int{49: 3}, impl.Local},
			{map[int]int{43: 3, 49: 3}, impl.East},
			{map[int]int{45: 3, 43: 3, 47: 3}, impl.East},
			{map[int]int{41: 2, 43: 4, 45: 3, 47: 0}, impl.South},
			{map[int]int{40: 3, 42: 3, 44: 3, 46: 3, 48: 3}, -1},
			{map[int]int{40: 3, 49: 3}, impl.Local},
			{map[int]int{41: 1, 43: 1, 45: 1, 47: 1, 49: 1}, -1},
			{map[int]int{31: 3, 33: 3, 51: 3, 53: 3, 59: 3}, -1},
			{map[int]int{41: 2, 43: 4}, -1},
		} {
			changed := withOwners(n, c.owners)
			wantWanted(t, changed, 4, 7, c.want)
			wantRequest(t, changed, 4, 7, c.want, c.want >= 0)
			for port := range 5 {
				if port == c.want {
					wantRequests(t, changed, 4, port, 7)
				} else {
					wantRequests(t, changed, 4, port)
				}
			}
		}
	}
}

// The least port that is owned may have no channel: the next one is not tried.
func TestFollowersWithOutputsWithoutChannels(t *testing.T) {
	n := gridNet(impl.Grid{Width: 2, Height: 2})
	n = withBuffer(n, 9, follower(3, 1))
	// Nothing leads north or west from node 0.
	edge := withOwners(n, map[int]int{1: 4, 3: 4})
	wantWanted(t, edge, 0, 9, impl.North)
	wantRequests(t, edge, 0, impl.North)
	wantRequests(t, edge, 0, impl.East)
	west := withOwners(n, map[int]int{7: 4})
	wantWanted(t, west, 0, 9, impl.West)
	wantRequests(t, west, 0, impl.West)
	inside := withOwners(n, map[int]int{3: 4, 5: 4})
	wantWanted(t, inside, 0, 9, impl.East)
	wantRequests(t, inside, 0, impl.East, 9)
	wantRequests(t, inside, 0, impl.South)

	// The snake of this grid does not take the channel 2 from node 0 to the south.
	g := impl.Grid{Width: 2, Height: 2}
	broken := emptyNet(impl.Mesh{Grid: g, Broken: []int{2}}, classes(alongSnake(g), alongSnake(g)))
	broken = withOwners(withBuffer(broken, 9, follower(3, 1)), map[int]int{5: 4})
	wantWanted(t, broken, 0, 9, impl.South)
	wantRequest(t, broken, 0, 9, impl.South, false)
	broken.Mesh.Broken = nil
	wantRequest(t, broken, 0, 9, impl.South, true)
}

// Only the first flit of a buffer counts.
func TestTheFirstFlitCounts(t *testing.T) {
	n := withOwners(gridNet(impl.Grid{Width: 3, Height: 3}), map[int]int{44: impl.Local, 49: impl.Local})
	east, west := headTo(5, 0), headTo(3, 0)
	middle, tail := follower(5, 0), impl.Flit{Packet: 7, To: 1, Tail: true}
	alone := headTo(4, 0)
	alone.Tail = true
	for _, c := range []struct {
		first impl.Flit
		want  int
	}{
		{east, impl.East}, {west, impl.West}, {middle, impl.South}, {tail, impl.South}, {alone, impl.Local},
	} {
		for _, second := range []impl.Flit{east, west, middle, tail, alone} {
			for _, flits := range [][]impl.Flit{{c.first}, {c.first, second}, {c.first, second, second}, {c.first, second, west}, {c.first, second, middle}} {
				changed := withBuffer(n, 48, flits...)
				wantWanted(t, changed, 4, 8, c.want)
				for port := range 5 {
					wantRequest(t, changed, 4, 8, port, port == c.want)
				}
			}
		}
	}
}

// A head may be where its table would never lead it, and go back to where it comes from.
func TestHeadsThatGoBack(t *testing.T) {
	n := gridNet(impl.Grid{Width: 3, Height: 3})
	for port, to := range []int{1, 5, 7, 3, 4} {
		for class := range 2 {
			changed := withBuffer(n, 40+2*port+class, headTo(to, class))
			wantWanted(t, changed, 4, 2*port+class, port)
			wantRequests(t, changed, 4, port, 2*port+class)
		}
	}
}

// A buffer is filled with each number of flits, while all others are empty or full.
func TestRoomIsInTheNextBuffer(t *testing.T) {
	opposite := []int{impl.South, impl.West, impl.North, impl.East}
	for _, good := range goodNets() {
		b := boardOf(good.Mesh.Grid, good.Mesh.Broken...)
		for _, others := range []int{0, 3} {
			n := filledNet(good, always(others), always(others*20))
			for i, channel := range b.channels {
				if b.nodes > 8 && i%5 != 0 {
					continue
				}
				node, port := channel/4, channel%4
				for class := range 2 {
					number := (5*b.neighbors[node][port]+opposite[port])*2 + class
					for length := range 4 {
						n.Buffers[number] = line(0, class, length)
						wantRoom(t, n, node, port, class, length < 3)
						wantRoom(t, n, node, port, 1-class, others < 3)
					}
					n.Buffers[number] = line(0, class, others)
				}
			}
		}
	}
}

// The processor takes any number of flits.
func TestThereIsAlwaysRoomForLocal(t *testing.T) {
	for _, good := range goodNets() {
		n := filledNet(good, always(3), always(60))
		n.Owners = slices.Repeat([]int{impl.Local}, len(n.Owners))
		for node := range n.Sources {
			for class := range 2 {
				wantRoom(t, n, node, impl.Local, class, true)
				wantRoom(t, n, node, impl.North, class, false)
			}
		}
	}
}

func TestNoRoomWithoutAChannel(t *testing.T) {
	g := impl.Grid{Width: 2, Height: 2}
	ports := portsOfText("LSSS", "WLWS", "NELE", "NNNL")
	// The channels 1 and 15 lead from node 0 to the east and from node 3 to the west.
	n := emptyNet(impl.Mesh{Grid: g, Broken: []int{1, 15}}, classes(ports, ports))
	for class := range 2 {
		for node, want := range [][]bool{
			{false, false, true, false, true},
			{false, false, true, true, true},
			{true, true, false, false, true},
			{true, false, false, false, true},
		} {
			for port := range 5 {
				wantRoom(t, n, node, port, class, want[port])
			}
		}
	}
	whole := gridNet(g)
	wantRoom(t, whole, 0, impl.East, 0, true)
	wantRoom(t, whole, 3, impl.West, 1, true)
}

// A head needs an output without an owner; its own port is an owner, too.
func TestHeadsNeedFreeOutputs(t *testing.T) {
	n := gridNet(impl.Grid{Width: 3, Height: 3})
	for port, to := range []int{1, 5, 7, 3, 4} {
		for input := range 10 {
			class := input % 2
			for owner := -1; owner <= 4; owner++ {
				for _, tail := range []bool{false, true} {
					f := headTo(to, class)
					f.Tail = tail
					changed := withOwners(withBuffer(n, 40+input, f), map[int]int{(5*4+port)*2 + class: owner})
					wantWanted(t, changed, 4, input, port)
					wantRequest(t, changed, 4, input, port, owner == -1)
					// The output of the other class does not matter.
					changed = withOwners(withBuffer(n, 40+input, f), map[int]int{(5*4+port)*2 + 1 - class: owner})
					wantRequest(t, changed, 4, input, port, true)
				}
			}
		}
	}
}

// Without room there is no request, for heads and for followers; the other class has a buffer of its own.
func TestRequestsNeedRoom(t *testing.T) {
	n := gridNet(impl.Grid{Width: 3, Height: 3})
	next := []struct{ to, buffer int }{{1, 14}, {5, 56}, {7, 70}, {3, 32}}
	for port, x := range next {
		for input := range 10 {
			class := input % 2
			for length := range 4 {
				for _, other := range []int{0, 3} {
					changed := withBuffer(n, x.buffer+class, line(8, class, length)...)
					changed = withBuffer(changed, x.buffer+1-class, line(8, 1-class, other)...)
					heads := withBuffer(changed, 40+input, headTo(x.to, class))
					wantWanted(t, heads, 4, input, port)
					wantRequest(t, heads, 4, input, port, length < 3)
					followers := withOwners(withBuffer(changed, 40+input, follower(0, class)), map[int]int{(5*4+port)*2 + class: input / 2})
					wantWanted(t, followers, 4, input, port)
					wantRequest(t, followers, 4, input, port, length < 3)
				}
			}
		}
	}
	// A full network still delivers.
	full := filledNet(n, always(3), always(60))
	full.Buffers[48] = []impl.Flit{headTo(4, 0), headTo(0, 0), headTo(0, 0)}
	wantRequest(t, full, 4, 8, impl.Local, true)
	full.Buffers[45] = []impl.Flit{follower(0, 1), headTo(0, 1), headTo(0, 1)}
	full.Owners[49] = impl.South
	wantRequest(t, full, 4, 5, impl.Local, true)
}

func TestRequestsOfSeveralInputs(t *testing.T) {
	n := gridNet(impl.Grid{Width: 3, Height: 3})
	for input := 9; input >= 0; input-- {
		n.Buffers[40+input] = []impl.Flit{headTo(5, input%2)}
	}
	wantRequests(t, n, 4, impl.East, 0, 1, 2, 3, 4, 5, 6, 7, 8, 9)
	for _, port := range []int{impl.North, impl.South, impl.West, impl.Local, -1, 5} {
		wantRequests(t, n, 4, port)
	}
	for _, node := range []int{0, 1, 2, 3, 5, 6, 7, 8} {
		for port := range 5 {
			wantRequests(t, n, node, port)
		}
	}

	// Each class has a buffer at node 5 of its own.
	wantRequests(t, withBuffer(n, 56, line(5, 0, 3)...), 4, impl.East, 1, 3, 5, 7, 9)
	wantRequests(t, withBuffer(n, 57, line(5, 1, 3)...), 4, impl.East, 0, 2, 4, 6, 8)
	// An output that is taken keeps the heads of its class away.
	wantRequests(t, withOwners(n, map[int]int{42: 3}), 4, impl.East, 1, 3, 5, 7, 9)
	// The port West sends a packet of the class 0.
	n = withOwners(withBuffer(n, 46, follower(0, 0)), map[int]int{42: 3})
	wantRequests(t, n, 4, impl.East, 1, 3, 5, 6, 7, 9)
	n = withBuffer(withBuffer(n, 43, headTo(1, 1)), 41, headTo(4, 1))
	n = withBuffer(withBuffer(n, 45, headTo(4, 1)), 47)
	wantRequests(t, n, 4, impl.East, 6, 9)
	wantRequests(t, n, 4, impl.North, 3)
	wantRequests(t, n, 4, impl.Local, 1, 5)
	wantRequests(t, n, 4, impl.West)
}

// Two inputs at the same port have a class each, and one of them may be in the middle of a packet.
func TestRequestsOfBothClassesOfAPort(t *testing.T) {
	n := gridNet(impl.Grid{Width: 2, Height: 2})
	n = withBuffer(withBuffer(n, 8, headTo(3, 0)), 9, follower(3, 1))
	wantRequests(t, n, 0, impl.East, 8)
	wantRequests(t, n, 0, impl.South)
	n.Owners[4] = impl.Local
	wantRequests(t, n, 0, impl.South)
	n.Owners[5] = impl.Local
	wantRequests(t, n, 0, impl.South, 9)
	n.Owners[3] = impl.Local
	wantRequests(t, n, 0, impl.East, 8, 9)
	wantRequests(t, n, 0, impl.South)
	n.Owners[2] = impl.Local
	wantRequests(t, n, 0, impl.East, 9)
}

// busyNet has at each node a head that wants Local, so that each node has requests.
func busyNet(g impl.Grid) impl.Net {
	n := gridNet(g)
	for number := range n.Buffers {
		n.Buffers[number] = []impl.Flit{headTo(number/10, number%2)}
	}
	return n
}

func TestNodesAndInputsThatDoNotExist(t *testing.T) {
	for _, g := range validGrids() {
		n := busyNet(g)
		wantRequests(t, n, 0, impl.Local, 0, 1, 2, 3, 4, 5, 6, 7, 8, 9)
		wantSilent(t, "a node that does not exist", n, badNodes(g), []int{0, 8}, []int{impl.Local})
	}
	for _, g := range []impl.Grid{{Width: 1, Height: 1}, {Width: 2, Height: 2}, {Width: 3, Height: 1}} {
		n := busyNet(g)
		for _, input := range append(channelNumbers(), 1<<8, 1<<8+8, 1<<32+8, -1<<32+8, 1<<62+8) {
			for node := range n.Sources {
				if input >= 0 && input <= 9 {
					wantWanted(t, n, node, input, impl.Local)
					wantRequest(t, n, node, input, impl.Local, true)
					continue
				}
				wantWanted(t, n, node, input, -1)
				wantRequest(t, n, node, input, impl.Local, false)
				wantRequest(t, n, node, input, -1, false)
			}
		}
	}
}

func TestPortsAndClassesThatDoNotExist(t *testing.T) {
	n := busyNet(impl.Grid{Width: 3, Height: 3})
	ports := append(channelNumbers(), 1<<8, 1<<8+4, 1<<32, 1<<32+4, -1<<32+1, 1<<62+4)
	for node := range 9 {
		for _, port := range without(ports, upTo(0, 4)) {
			wantRoom(t, n, node, port, node%2, false)
			wantRequest(t, n, node, 8, port, false)
			wantRequests(t, n, node, port)
		}
		for _, class := range badClasses() {
			for port := -1; port <= 5; port++ {
				wantRoom(t, n, node, port, class, false)
			}
		}
	}
	// From node 4, there are channels to all sides.
	for port := range 5 {
		for class := range 2 {
			wantRoom(t, n, 4, port, class, true)
		}
	}
}

// An input that wants no port does not request the port -1.
func TestNoRequestOfNoPort(t *testing.T) {
	n := gridNet(impl.Grid{Width: 3, Height: 3})
	n.Owners = slices.Repeat([]int{-1}, len(n.Owners))
	for node := range 9 {
		for input := range 10 {
			changed := withBuffer(n, 10*node+input, follower(4, input%2))
			for _, x := range []impl.Net{n, changed} {
				wantWanted(t, x, node, input, -1)
				wantRequest(t, x, node, input, -1, false)
			}
			wantRequests(t, changed, node, -1)
		}
	}
}

// busyWithFollower is a busy network in which a flit in the middle of a packet goes from the port South of node 0 to its processor.
func busyWithFollower() impl.Net {
	n := busyNet(impl.Grid{Width: 3, Height: 2})
	n.Buffers[5] = []impl.Flit{follower(0, 1)}
	n.Owners[9] = impl.South
	return n
}

// netsThatAreNotValid visits busy networks for which one condition of NetOk is broken in turn, far from node 0 where that is possible.
func netsThatAreNotValid(visit func(what string, n impl.Net)) {
	visit("the zero Net", impl.Net{})
	for what, fault := range map[string]func(n *impl.Net){
		"a grid without nodes":          func(n *impl.Net) { n.Mesh.Grid = impl.Grid{} },
		"a grid with negative sides":    func(n *impl.Net) { n.Mesh.Grid = impl.Grid{Width: -2, Height: -3} },
		"another grid":                  func(n *impl.Net) { n.Mesh.Grid = impl.Grid{Width: 2, Height: 3} },
		"a broken channel at the edge":  func(n *impl.Net) { n.Mesh.Broken = []int{0} },
		"a broken channel that is used": func(n *impl.Net) { n.Mesh.Broken = []int{11} },
		"no table for the class 0":      func(n *impl.Net) { n.Classes.A.Ports = nil },
		"no table for the class 1":      func(n *impl.Net) { n.Classes.B.Ports = nil },
		"a long table":                  func(n *impl.Net) { n.Classes.B.Ports = append(n.Classes.B.Ports, impl.Local) },
		"a table with a circle": func(n *impl.Net) {
			n.Classes.A.Ports[5*6+4], n.Classes.A.Ports[2*6+4] = impl.North, impl.South
		},
		"one buffer too few":              func(n *impl.Net) { n.Buffers = n.Buffers[:59] },
		"one buffer too many":             func(n *impl.Net) { n.Buffers = append(n.Buffers, nil) },
		"no buffers":                      func(n *impl.Net) { n.Buffers = nil },
		"one owner too few":               func(n *impl.Net) { n.Owners = n.Owners[:59] },
		"one owner too many":              func(n *impl.Net) { n.Owners = append(n.Owners, -1) },
		"one turn too few":                func(n *impl.Net) { n.Turns = n.Turns[:29] },
		"one turn too many":               func(n *impl.Net) { n.Turns = append(n.Turns, 0) },
		"one source too few":              func(n *impl.Net) { n.Sources = n.Sources[:5] },
		"one source too many":             func(n *impl.Net) { n.Sources = append(n.Sources, nil) },
		"one list of arrivals too few":    func(n *impl.Net) { n.Arrived = n.Arrived[:5] },
		"one list of arrivals too many":   func(n *impl.Net) { n.Arrived = append(n.Arrived, nil) },
		"a buffer with too many flits":    func(n *impl.Net) { n.Buffers[59] = line(0, 1, 4) },
		"a flit of the other class":       func(n *impl.Net) { n.Buffers[50][0].Class = 1 },
		"a flit of no class":              func(n *impl.Net) { n.Buffers[57][0].Class = 3 },
		"a flit to a node after the last": func(n *impl.Net) { n.Buffers[52][0].To = 6 },
		"a flit to a negative node":       func(n *impl.Net) { n.Buffers[58][0].To = -1 },
		"a waiting flit to no node":       func(n *impl.Net) { n.Sources[5] = line(6, 0, 1) },
		"a waiting flit of no class":      func(n *impl.Net) { n.Sources[5] = line(0, 2, 1) },
		"too many waiting flits":          func(n *impl.Net) { n.Sources[5] = line(0, 0, 61) },
		"an owner after the last port":    func(n *impl.Net) { n.Owners[59] = 5 },
		"a negative owner":                func(n *impl.Net) { n.Owners[50] = -2 },
		"a turn after the last input":     func(n *impl.Net) { n.Turns[29] = 10 },
		"a negative turn":                 func(n *impl.Net) { n.Turns[25] = -1 },
		"a negative time":                 func(n *impl.Net) { n.Time = -1 },
		"a time after the end":            func(n *impl.Net) { n.Time = 1000001 },
	} {
		n := busyWithFollower()
		fault(&n)
		visit(what, n)
	}
}

func TestRequestsOfNetsThatAreNotValid(t *testing.T) {
	good := busyWithFollower()
	wantRequests(t, good, 0, impl.Local, 0, 2, 4, 5, 6, 8)
	wantRequests(t, good, 3, impl.Local, 0, 1, 2, 3, 4, 5, 6, 7, 8, 9)
	nodes, inputs, ports := []int{-1, 0, 3}, []int{0, 5, 8, 9}, []int{-1, impl.North, impl.East, impl.South, impl.West, impl.Local}
	netsThatAreNotValid(func(what string, n impl.Net) {
		wantSilent(t, what, n, nodes, inputs, ports)
	})
	// The last time is a valid one, although nothing moves then.
	n := busyNet(impl.Grid{Width: 3, Height: 2})
	n.Time = 1000000
	wantRequest(t, n, 0, 8, impl.Local, true)
	wantRoom(t, n, 0, impl.East, 0, true)
}

// busyAtRandom fills the buffers of a network at random; some flits are in the middle of packets.
func busyAtRandom(r *rand.Rand, n impl.Net, taken int) impl.Net {
	n = cloneNet(n)
	for number := range n.Buffers {
		for range r.IntN(5) * r.IntN(2) % 4 {
			f := impl.Flit{Packet: 1 + r.IntN(9), To: r.IntN(len(n.Sources)), Class: number % 2, Head: r.IntN(2) == 0, Tail: r.IntN(3) == 0}
			n.Buffers[number] = append(n.Buffers[number], f)
		}
		if r.IntN(10) < taken {
			n.Owners[number] = r.IntN(5)
		}
	}
	return n
}

// netsAtRandom visits busy networks of all grids, with standard tables and with tables around broken channels.
func netsAtRandom(visit func(n impl.Net)) {
	r := rand.New(rand.NewPCG(17, 71))
	for _, g := range validGrids() {
		for taken := range 8 {
			visit(busyAtRandom(r, gridNet(g), taken))
			b := boardOf(g, brokenAt(r, g, 12)...)
			first, ok := grownTable(b, r)
			if second, also := grownTable(b, r); ok && also {
				visit(busyAtRandom(r, emptyNet(b.mesh, classes(first, second)), taken))
			}
		}
	}
}

func TestRequestsOfManyNets(t *testing.T) {
	found := map[string]int{}
	netsAtRandom(func(n impl.Net) { wantView(t, n, found) })
	for _, kind := range []string{"request true of a flit with Head true", "request false of a flit with Head true", "request true of a flit with Head false", "request false of a flit with Head false", "0 requests", "1 requests", "2 requests", "3 requests"} {
		if found[kind] < 20 {
			t.Errorf("hardly tried: %s: %v", kind, found)
		}
	}
}

// Promise 17: an input requests only the port that it wants, and only if there is room.
func TestInputsRequestOnlyWhatTheyWant(t *testing.T) {
	requests := 0
	netsAtRandom(func(n impl.Net) {
		for node := range n.Sources {
			for port := range 5 {
				for _, input := range impl.RequestsAt(n, node, port) {
					requests++
					if !impl.IsRequest(n, node, input, port) || impl.WantedPort(n, node, input) != port || !impl.HasRoom(n, node, port, input%2) {
						t.Errorf("the input %d of node %d requests the port %d in %v", input, node, port, n)
					}
				}
			}
		}
	})
	if requests < 1000 {
		t.Errorf("only %d requests", requests)
	}
}

// Arguments keep their memory, with what is behind their ends, and lists that are returned have memory of their own.
func TestRequestsKeepTheirArguments(t *testing.T) {
	for _, g := range []impl.Grid{{Width: 1, Height: 1}, {Width: 2, Height: 1}, {Width: 2, Height: 3}} {
		good := busyNet(g)
		bad := cloneNet(good)
		bad.Time = -1
		for _, n := range []impl.Net{good, bad} {
			n = withSpare(n)
			kept := memoryOf(n)
			for node := -1; node <= len(n.Sources); node++ {
				for input := -1; input <= 10; input++ {
					impl.WantedPort(n, node, input)
					impl.HasRoom(n, node, input, 0)
					impl.HasRoom(n, node, input, 1)
					impl.IsRequest(n, node, input, impl.Local)
				}
				for port := -1; port <= 5; port++ {
					first, second := impl.RequestsAt(n, node, port), impl.RequestsAt(n, node, port)
					want := slices.Clone(second)
					overwrite(first)
					if !slices.Equal(second, want) || !slices.Equal(impl.RequestsAt(n, node, port), want) {
						t.Errorf("the lists of RequestsAt share memory: %v became %v", want, second)
					}
				}
			}
			if got := memoryOf(n); got != kept {
				t.Errorf("a network was changed from %s to %s", kept, got)
			}
		}
	}
}
