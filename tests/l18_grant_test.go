package tests

import (
	"fmt"
	"math"
	"math/rand/v2"
	"slices"
	"testing"

	"loop.example/g00984/impl"
)

// firstFrom counts upward from the turn, and begins again at 0 after 9, until it meets an input of the list.
func firstFrom(list []int, turn int) int {
	for _, input := range slices.Concat(upTo(turn, 9), upTo(0, turn-1)) {
		if slices.Contains(list, input) {
			return input
		}
	}
	return -1
}

// grants goes through the outputs of a node.
func (v view) grants(node int) []impl.Grant {
	var list []impl.Grant
	var taken []int
	for port := range 5 {
		input := firstFrom(without(v.requests(node, port), taken), v.n.Turns[5*node+port])
		if input >= 0 {
			list = append(list, impl.Grant{Node: node, Port: port, Input: input})
			taken = append(taken, input, input^1)
		}
	}
	return list
}

// grantsOf lists grants of a node from pairs of a port and an input.
func grantsOf(node int, pairs ...int) []impl.Grant {
	var list []impl.Grant
	for pair := range slices.Chunk(pairs, 2) {
		list = append(list, impl.Grant{Node: node, Port: pair[0], Input: pair[1]})
	}
	return list
}

// withTurns returns the network with other turns for some ports.
func withTurns(n impl.Net, turns map[int]int) impl.Net {
	n = cloneNet(n)
	for number, turn := range turns {
		n.Turns[number] = turn
	}
	return n
}

// withHeads returns the network with a single head in each of some input buffers of node 4, from pairs of an input and a destination.
func withHeads(n impl.Net, pairs ...int) impl.Net {
	for pair := range slices.Chunk(pairs, 2) {
		n = withBuffer(n, 40+pair[0], headTo(pair[1], pair[0]%2))
	}
	return n
}

// targets are the destinations of a head that wants North, East, South, West or Local at node 4 of the grid of 3 by 3, with both classes.
var targets = []int{1, 5, 7, 3, 4}

// nextBuffers are the buffers of the class 0 to which the ports North to West of node 4 of this grid lead.
var nextBuffers = []int{14, 56, 70, 32}

func wantFirst(t *testing.T, list []int, turn int, want int) {
	t.Helper()
	if got := impl.FirstFrom(list, turn); got != want {
		t.Errorf("FirstFrom(%v, %d) = %d; want %d", list, turn, got, want)
	}
}

// wantGrants expects the grants of a node, written as pairs of a port and an input.
func wantGrants(t *testing.T, n impl.Net, node int, pairs ...int) {
	t.Helper()
	if got, want := impl.GrantsAt(n, node), grantsOf(node, pairs...); !slices.Equal(got, want) {
		t.Errorf("GrantsAt(%v, %d) = %v; want %v", n, node, got, want)
	}
}

func wantAllGrants(t *testing.T, n impl.Net, want []impl.Grant) {
	t.Helper()
	if got := impl.AllGrants(n); !slices.Equal(got, want) {
		t.Errorf("AllGrants(%v) = %v; want %v", n, got, want)
	}
}

// wantOnly expects these grants of node 4, and none of the other nodes.
func wantOnly(t *testing.T, n impl.Net, pairs ...int) {
	t.Helper()
	wantGrants(t, n, 4, pairs...)
	wantAllGrants(t, n, grantsOf(4, pairs...))
}

// wantGrantOk judges a list in both directions.
func wantGrantOk(t *testing.T, list []impl.Grant, want bool) {
	t.Helper()
	turned := slices.Clone(list)
	slices.Reverse(turned)
	for _, x := range [][]impl.Grant{list, turned} {
		if got := impl.GrantOk(x); got != want {
			t.Errorf("GrantOk(%v) = %v; want %v", x, got, want)
		}
	}
}

// wantNoGrants checks that a network that is not valid grants nothing.
func wantNoGrants(t *testing.T, what string, n impl.Net) {
	t.Helper()
	for _, node := range append(upTo(-1, 16), math.MinInt, math.MaxInt) {
		if got := impl.GrantsAt(n, node); len(got) > 0 {
			t.Errorf("%s: GrantsAt(%v, %d) = %v", what, n, node, got)
		}
	}
	if got := impl.AllGrants(n); len(got) > 0 {
		t.Errorf("%s: AllGrants(%v) = %v", what, n, got)
	}
}

func TestGrantExample(t *testing.T) {
	g := impl.Grid{Width: 2, Height: 1}
	tables, _ := impl.SplitClasses(g)
	n, ok := impl.NetNew(impl.Mesh{Grid: g}, tables)
	if !ok {
		t.Fatal("no network")
	}
	n.Buffers[8] = []impl.Flit{{Packet: 1, To: 1, Class: 0, Head: true}}
	n.Sources[0] = []impl.Flit{{Packet: 1, To: 1, Class: 0, Tail: true}}
	want := []impl.Grant{{Node: 0, Port: impl.East, Input: 8}}
	wantAllGrants(t, n, want)
	wantGrants(t, n, 0, impl.East, 8)
	wantGrants(t, n, 1)
	wantGrantOk(t, want, true)
	wantGrantOk(t, []impl.Grant{{Port: 1, Input: 8}, {Port: 2, Input: 9}}, false)
	wantFirst(t, []int{2, 7, 9}, 8, 9)
	wantFirst(t, []int{2, 7}, 8, 2)
	wantFirst(t, nil, 0, -1)
}

func TestFirstFromExamples(t *testing.T) {
	for _, c := range []struct {
		list       []int
		turn, want int
	}{
		{[]int{5}, 5, 5},
		{[]int{5}, 0, 5},
		{[]int{5}, 6, 5},
		{[]int{5}, 9, 5},
		{[]int{0}, 9, 0},
		{[]int{9}, 0, 9},
		{[]int{0, 9}, 0, 0},
		{[]int{0, 9}, 1, 9},
		{[]int{0, 9}, 9, 9},
		{[]int{0, 1, 2}, 3, 0},
		{[]int{2, 1, 0}, 3, 0},
		{[]int{7, 8, 6}, 9, 6},
		{[]int{4, 6}, 5, 6},
		{[]int{6, 4}, 5, 6},
		{[]int{4, 5, 6}, 5, 5},
		{[]int{3, 3, 3}, 4, 3},
		{[]int{3, 8, 3, 8}, 4, 8},
		{[]int{8, 3, 3, 8}, 9, 3},
		{[]int{9, 0, 9}, 9, 9},
		{[]int{}, 9, -1},
		{[]int{-1}, 0, -1},
		{[]int{10}, 0, -1},
		{[]int{3, -1}, 3, -1},
		{[]int{-1, 3}, 3, -1},
		{[]int{3, 10}, 3, -1},
		{[]int{10, 3}, 3, -1},
		{[]int{3}, -1, -1},
		{[]int{3}, 10, -1},
		{[]int{9}, -1, -1},
		{[]int{0}, 10, -1},
		{[]int{}, -1, -1},
		{[]int{}, 10, -1},
		{nil, -1, -1},
		{nil, 10, -1},
		{[]int{-1, 10}, -1, -1},
		{[]int{10}, 10, -1},
		{[]int{-1}, -1, -1},
	} {
		wantFirst(t, c.list, c.turn, c.want)
	}
}

// All sets of inputs, in several orders and with inputs that occur twice.
func TestFirstFromOfAllSets(t *testing.T) {
	r := rand.New(rand.NewPCG(18, 81))
	for _, set := range subsets(upTo(0, 9)) {
		twice := slices.Concat(set, backward(set))
		mixed := slices.Clone(twice)
		r.Shuffle(len(mixed), func(i int, j int) { mixed[i], mixed[j] = mixed[j], mixed[i] })
		for turn := range 10 {
			want := firstFrom(set, turn)
			for _, list := range [][]int{set, backward(set), twice, mixed} {
				wantFirst(t, list, turn, want)
			}
		}
	}
}

// A number out of range counts wherever it is, also one that is an input modulo 10 or in a smaller type of numbers.
func TestFirstFromOutOfRange(t *testing.T) {
	bad := without(append(channelNumbers(), 1<<8+3, 1<<32+3, -1<<32+3, 1<<62+3), upTo(0, 9))
	for _, number := range bad {
		for at := range 4 {
			wantFirst(t, slices.Insert([]int{3, 5, 7}, at, number), 5, -1)
			wantFirst(t, slices.Insert([]int{3, 5, 7}, at, number), number, -1)
		}
		for turn := range 10 {
			wantFirst(t, []int{number}, turn, -1)
			wantFirst(t, []int{turn}, number, -1)
		}
		wantFirst(t, nil, number, -1)
		wantFirst(t, []int{}, number, -1)
		wantFirst(t, upTo(0, 9), number, -1)
	}
}

// In an empty network nothing is granted, whatever the turns are.
func TestEmptyNetsGrantNothing(t *testing.T) {
	for _, n := range goodNets() {
		for _, turn := range []int{0, 9} {
			n.Turns = slices.Repeat([]int{turn}, len(n.Turns))
			for node := range n.Sources {
				wantGrants(t, n, node)
			}
			wantAllGrants(t, n, nil)
		}
	}
	// Flits that wait outside the buffers request nothing.
	n := filledNet(gridNet(impl.Grid{Width: 2, Height: 2}), always(0), always(60))
	wantAllGrants(t, n, nil)
}

// One input at each place, and one flit to each port.
func TestOneRequestIsGranted(t *testing.T) {
	n := gridNet(impl.Grid{Width: 3, Height: 3})
	for input := range 10 {
		for port, to := range targets {
			for turn := range 10 {
				wantOnly(t, withTurns(withHeads(n, input, to), map[int]int{20 + port: turn}), port, input)
			}
		}
	}
}

// The two classes of an input port request two outputs: only the first one is granted, and the second one goes to another input port or is left.
func TestAnInputPortSendsOneFlit(t *testing.T) {
	n := gridNet(impl.Grid{Width: 3, Height: 3})
	for entry := range 5 {
		for first := range 5 {
			for second := first + 1; second < 5; second++ {
				for class := range 2 {
					winner, loser := 2*entry+class, 2*entry+1-class
					both := withHeads(n, winner, targets[first], loser, targets[second])
					// The turns of the second output prefer the input that gets nothing.
					both = withTurns(both, map[int]int{20 + first: loser, 20 + second: loser})
					wantOnly(t, both, first, winner)
					for other := range 10 {
						if other/2 != entry {
							wantOnly(t, withHeads(both, other, targets[second]), first, winner, second, other)
						}
					}
				}
			}
		}
	}
}

// The two classes of an input port request the same output, which can take only one of them.
func TestBothClassesRequestOneOutput(t *testing.T) {
	n := gridNet(impl.Grid{Width: 3, Height: 3})
	for entry := range 5 {
		for port, to := range targets {
			both := withHeads(n, 2*entry, to, 2*entry+1, to)
			for turn := range 10 {
				want := 2 * entry
				if turn == 2*entry+1 {
					want = turn
				}
				wantOnly(t, withTurns(both, map[int]int{20 + port: turn}), port, want)
			}
		}
	}
}

// Each set of inputs requests one output, which takes the first one from its turn.
func TestOneOutputTakesTurns(t *testing.T) {
	n := gridNet(impl.Grid{Width: 3, Height: 3})
	for i, set := range subsets(upTo(0, 9)) {
		if i%7 != 0 && len(set) < 9 {
			continue
		}
		port := i % 5
		full := n
		for _, input := range set {
			full = withHeads(full, input, targets[port])
		}
		for turn := range 10 {
			turned := withTurns(full, map[int]int{20 + port: turn})
			if len(set) == 0 {
				wantOnly(t, turned)
			} else {
				wantOnly(t, turned, port, firstFrom(set, turn))
			}
		}
	}
}

func TestGrantsInTurn(t *testing.T) {
	n := withHeads(gridNet(impl.Grid{Width: 3, Height: 3}), 1, 5, 4, 5, 9, 5)
	for turn, want := range []int{1, 1, 4, 4, 4, 9, 9, 9, 9, 9} {
		// The turns of other outputs and of other nodes do not matter.
		for _, others := range []int{0, 4, 9} {
			turned := cloneNet(n)
			turned.Turns = slices.Repeat([]int{others}, 45)
			turned.Turns[21] = turn
			wantOnly(t, turned, impl.East, want)
		}
	}
}

// An input that has been granted to an earlier output, or whose port has, would have been the first one from the turn of a later output.
func TestInputPortsThatAreTaken(t *testing.T) {
	n := gridNet(impl.Grid{Width: 3, Height: 3})
	three := withHeads(n, 8, 1, 9, 5, 3, 5)
	for turn := range 10 {
		wantOnly(t, withTurns(three, map[int]int{21: turn}), impl.North, 8, impl.East, 3)
	}
	four := withHeads(three, 6, 5)
	for turn, want := range []int{3, 3, 3, 3, 6, 6, 6, 3, 3, 3} {
		wantOnly(t, withTurns(four, map[int]int{21: turn}), impl.North, 8, impl.East, want)
	}
	// North takes the input 1, East 2, South 5 and West 6, so that only the processor's port remains for Local.
	all := withHeads(n, 0, 5, 1, 1, 2, 5, 3, 7, 4, 3, 5, 7, 6, 3, 7, 4, 8, 4, 9, 4)
	wantOnly(t, all, 0, 1, 1, 2, 2, 5, 3, 6, 4, 8)
	wantOnly(t, withTurns(all, map[int]int{24: 9}), 0, 1, 1, 2, 2, 5, 3, 6, 4, 9)
	wantOnly(t, withTurns(all, map[int]int{22: 3, 23: 4, 24: 7}), 0, 1, 1, 2, 2, 5, 3, 6, 4, 8)
	wantOnly(t, withTurns(withBuffer(all, 41), map[int]int{21: 1, 22: 3, 23: 4}), 1, 2, 2, 5, 3, 6, 4, 8)
	wantOnly(t, withTurns(withBuffer(all, 41), map[int]int{21: 0, 22: 3, 23: 4}), 1, 0, 2, 3, 3, 4, 4, 7)
}

// An output that is requested without room takes nothing, so that its input port is still free for another output.
func TestAFullBufferLeavesTheInputPortFree(t *testing.T) {
	n := gridNet(impl.Grid{Width: 3, Height: 3})
	for port := range 4 {
		for class := range 2 {
			both := withHeads(n, 8+class, targets[port], 9-class, 4)
			for length := range 4 {
				// A line to node 4 of flits without heads, so that the next node requests nothing.
				flits := slices.Repeat([]impl.Flit{follower(4, class)}, length)
				filled := withBuffer(both, nextBuffers[port]+class, flits...)
				if length < 3 {
					wantOnly(t, filled, port, 8+class)
				} else {
					wantOnly(t, filled, impl.Local, 9-class)
				}
				// The buffer of the other class has its own room.
				wantOnly(t, withBuffer(both, nextBuffers[port]+1-class, slices.Repeat([]impl.Flit{follower(4, 1-class)}, length)...), port, 8+class)
			}
		}
	}
}

// A head waits for an output that sends another packet, while the rest of that packet goes on.
func TestGrantsInTheMiddleOfPackets(t *testing.T) {
	n := withHeads(gridNet(impl.Grid{Width: 3, Height: 3}), 0, 5, 1, 1)
	wantOnly(t, n, impl.North, 1)
	// The output East of the class 0 belongs to a packet from the west.
	east := withOwners(n, map[int]int{42: impl.West})
	wantOnly(t, withBuffer(east, 41))
	for _, tail := range []bool{false, true} {
		f := follower(5, 0)
		f.Tail = tail
		sending := withBuffer(east, 46, f)
		wantOnly(t, sending, impl.North, 1, impl.East, 6)
		for turn := range 10 {
			wantOnly(t, withTurns(withBuffer(sending, 41), map[int]int{21: turn}), impl.East, 6)
		}
		// Without its owner, the output is free for the head, but not for the rest of the packet.
		sending.Owners[42] = -1
		wantOnly(t, sending, impl.North, 1)
		wantOnly(t, withBuffer(sending, 41), impl.East, 0)
	}
	// Both classes of the port West are in the middle of packets to the south.
	south := withOwners(withBuffer(withBuffer(n, 46, follower(7, 0)), 47, follower(7, 1)), map[int]int{44: impl.West, 45: impl.West})
	wantOnly(t, south, impl.North, 1, impl.South, 6)
	wantOnly(t, withTurns(south, map[int]int{22: 7}), impl.North, 1, impl.South, 7)
	wantOnly(t, withTurns(south, map[int]int{22: 8}), impl.North, 1, impl.South, 6)
	south.Owners[45] = -1
	south.Owners[49] = impl.West
	wantOnly(t, withTurns(south, map[int]int{22: 7, 24: 7}), impl.North, 1, impl.South, 6)
	south.Owners[44] = -1
	wantOnly(t, south, impl.North, 1, impl.Local, 7)
}

// All five outputs are granted at once; what is behind the first flit of a buffer does not matter.
func TestFiveGrantsOfANode(t *testing.T) {
	n := gridNet(impl.Grid{Width: 3, Height: 3})
	for shift := range 5 {
		for class := range 2 {
			full := n
			var pairs []int
			for port, to := range targets {
				input := (port+shift)%5*2 + class
				full = withBuffer(full, 40+input, headTo(to, class), headTo(0, class), follower(8, class))
				pairs = append(pairs, port, input)
			}
			wantOnly(t, full, pairs...)
		}
	}
}

func TestGrantsOfNodesThatDoNotExist(t *testing.T) {
	for _, g := range validGrids() {
		n := busyNet(g)
		for _, node := range append(badNodes(g), 1<<8, -1<<32, 1<<62, 5, 80, 160) {
			if node < 0 || node >= g.Width*g.Height {
				wantGrants(t, n, node)
			}
		}
	}
}

func TestGrantsOfNetsThatAreNotValid(t *testing.T) {
	n := busyWithFollower()
	wantGrants(t, n, 0, impl.Local, 0)
	wantGrants(t, withTurns(n, map[int]int{4: 5}), 0, impl.Local, 5)
	wantGrants(t, n, 3, impl.Local, 0)
	netsThatAreNotValid(func(what string, n impl.Net) { wantNoGrants(t, what, n) })
	// The last time is a valid one.
	n.Time = 1000000
	wantGrants(t, n, 0, impl.Local, 0)
	if got := impl.AllGrants(n); len(got) != 6 {
		t.Errorf("AllGrants(%v) = %v", n, got)
	}
}

// All nodes of all grids, from one node to several rows, in ascending order.
func TestAllGrantsOfAllGrids(t *testing.T) {
	for _, g := range validGrids() {
		n := busyNet(g)
		var want []impl.Grant
		for node := range n.Sources {
			n.Turns[5*node+4] = 7 * node % 10
			want = append(want, grantsOf(node, impl.Local, 7*node%10)...)
		}
		wantAllGrants(t, n, want)
		// Every second node has nothing to send.
		want = nil
		for number := range n.Buffers {
			if number/10%2 == 0 {
				n.Buffers[number] = nil
			}
		}
		for node := 1; node < len(n.Sources); node += 2 {
			want = append(want, grantsOf(node, impl.Local, 7*node%10)...)
		}
		wantAllGrants(t, n, want)
	}
}

func TestAllGrantsExample(t *testing.T) {
	n := gridNet(impl.Grid{Width: 2, Height: 2})
	// From node 0 both classes want to go to node 3, and so does a head at node 2; at node 3 two packets end.
	n.Buffers[8], n.Buffers[9] = []impl.Flit{headTo(3, 0)}, []impl.Flit{headTo(3, 1)}
	n.Buffers[28] = []impl.Flit{headTo(3, 0)}
	n.Buffers[30], n.Buffers[37] = []impl.Flit{headTo(3, 0)}, []impl.Flit{headTo(3, 1)}
	n.Buffers[33] = []impl.Flit{headTo(0, 1)}
	want := []impl.Grant{{Node: 0, Port: 1, Input: 8}, {Node: 2, Port: 1, Input: 8}, {Node: 3, Port: 0, Input: 3}, {Node: 3, Port: 4, Input: 0}}
	wantAllGrants(t, n, want)
	n.Turns[19] = 3
	want[3].Input = 7
	wantAllGrants(t, n, want)
	n.Buffers[8] = nil
	want[0] = impl.Grant{Node: 0, Port: 2, Input: 9}
	wantAllGrants(t, n, want)
}

// turnedNetsAtRandom visits busy networks of all grids with turns at random.
func turnedNetsAtRandom(visit func(n impl.Net)) {
	r := rand.New(rand.NewPCG(18, 18))
	netsAtRandom(func(n impl.Net) {
		for i := range n.Turns {
			n.Turns[i] = r.IntN(10)
		}
		visit(n)
	})
}

func TestGrantsOfManyNets(t *testing.T) {
	found := map[string]int{}
	turnedNetsAtRandom(func(n impl.Net) {
		v := viewOf(n)
		var all []impl.Grant
		for node := range n.Sources {
			grants := v.grants(node)
			if got := impl.GrantsAt(n, node); !slices.Equal(got, grants) {
				t.Errorf("GrantsAt(%v, %d) = %v; want %v", n, node, got, grants)
			}
			all = append(all, grants...)
			found[fmt.Sprintf("%d grants", len(grants))]++
		}
		wantAllGrants(t, n, all)
	})
	for _, kind := range []string{"0 grants", "1 grants", "2 grants", "3 grants"} {
		if found[kind] < 20 {
			t.Errorf("hardly tried: %s: %v", kind, found)
		}
	}
}

// Promise 18: no output and no input port is used twice. Moreover, each grant is a request, and nothing that could be granted is left.
func TestNothingIsUsedTwice(t *testing.T) {
	grants := 0
	turnedNetsAtRandom(func(n impl.Net) {
		all := impl.AllGrants(n)
		wantGrantOk(t, all, true)
		outputs, entries := map[place]bool{}, map[place]bool{}
		for _, g := range all {
			grants++
			output, entry := place{g.Node, g.Port}, place{g.Node, g.Input / 2}
			if outputs[output] || entries[entry] || !impl.IsRequest(n, g.Node, g.Input, g.Port) {
				t.Errorf("AllGrants(%v) = %v", n, all)
			}
			outputs[output], entries[entry] = true, true
		}
		for node := range n.Sources {
			for port := range 5 {
				for _, input := range viewOf(n).requests(node, port) {
					if !outputs[place{node, port}] && !entries[place{node, input / 2}] {
						t.Errorf("neither the input %d nor the output %d of node %d is used in AllGrants(%v) = %v", input, port, node, n, all)
					}
				}
			}
		}
	})
	if grants < 1000 {
		t.Errorf("only %d grants", grants)
	}
}

func TestGrantOkExamples(t *testing.T) {
	for _, c := range []struct {
		list []impl.Grant
		want bool
	}{
		{nil, true},
		{[]impl.Grant{}, true},
		{[]impl.Grant{{}}, true},
		{grantsOf(3, 4, 9), true},
		{grantsOf(-1, 5, 10), true},
		{grantsOf(math.MinInt, math.MinInt, math.MinInt), true},
		{grantsOf(math.MaxInt, math.MaxInt, math.MaxInt), true},
		{[]impl.Grant{{}, {}}, false},
		// The same Node and Port.
		{grantsOf(3, 2, 0, 2, 4), false},
		{grantsOf(3, 2, 0, 1, 6, 2, 4), false},
		{grantsOf(3, 2, 0, 1, 6, 0, 8, 4, 2, 2, 4), false},
		{grantsOf(3, 1, 6, 2, 0, 0, 8, 2, 4, 4, 2), false},
		// The same Node, and the Inputs 2k and 2k+1.
		{grantsOf(3, 0, 6, 1, 7), false},
		{grantsOf(3, 0, 7, 1, 6), false},
		{grantsOf(3, 0, 6, 1, 2, 2, 7), false},
		{grantsOf(3, 0, 5, 1, 6, 2, 2, 3, 9, 4, 4), false},
		{grantsOf(3, 0, 5, 1, 5), false},
		// The Inputs 2k+1 and 2k+2.
		{grantsOf(3, 0, 1, 1, 2), true},
		{grantsOf(3, 0, 7, 1, 8), true},
		{grantsOf(3, 4, 6, 1, 5), true},
		{grantsOf(3, 0, 9, 1, 7, 2, 5, 3, 3, 4, 1), true},
		{grantsOf(3, 0, 1, 1, 2, 2, 5, 3, 6, 4, 9), true},
		// Different Nodes.
		{[]impl.Grant{{Node: 0, Port: 1, Input: 8}, {Node: 1, Port: 1, Input: 8}}, true},
		{[]impl.Grant{{Node: 0, Port: 1, Input: 8}, {Node: 1, Port: 1, Input: 9}, {Node: 2, Port: 1, Input: 8}}, true},
		{[]impl.Grant{{Node: 0, Port: 1, Input: 8}, {Node: 1, Port: 2, Input: 6}, {Node: 0, Port: 1, Input: 6}}, false},
		{[]impl.Grant{{Node: 0, Port: 1, Input: 8}, {Node: 1, Port: 2, Input: 6}, {Node: 0, Port: 2, Input: 9}}, false},
		{[]impl.Grant{{Node: 0, Port: 1, Input: 8}, {Node: 1, Port: 1, Input: 8}, {Node: 0, Port: 2, Input: 6}, {Node: 1, Port: 2, Input: 6}}, true},
	} {
		wantGrantOk(t, c.list, c.want)
	}
}

// Numbers that do not exist are compared like others. Division by 2 rounds toward 0, as it does in Go.
func TestGrantOkOfNumbersThatDoNotExist(t *testing.T) {
	for _, c := range []struct {
		first, second impl.Grant
		want          bool
	}{
		{impl.Grant{Node: 0, Port: 5, Input: 0}, impl.Grant{Node: 1, Port: 0, Input: 10}, true},
		{impl.Grant{Node: 0, Port: 0, Input: 10}, impl.Grant{Node: 1, Port: 5, Input: 0}, true},
		{impl.Grant{Node: -1, Port: -1, Input: 0}, impl.Grant{Node: -1, Port: -1, Input: 2}, false},
		{impl.Grant{Node: -1, Port: -1, Input: 10}, impl.Grant{Node: -1, Port: 5, Input: 11}, false},
		{impl.Grant{Node: -1, Port: -1, Input: 10}, impl.Grant{Node: -1, Port: 5, Input: 12}, true},
		{impl.Grant{Node: 1 << 8, Port: 1, Input: 8}, impl.Grant{Node: 0, Port: 1, Input: 8}, true},
		{impl.Grant{Node: 1 << 32, Port: 1, Input: 8}, impl.Grant{Node: 0, Port: 1, Input: 8}, true},
		{impl.Grant{Node: 3, Port: 1<<32 + 1, Input: 1<<32 + 8}, impl.Grant{Node: 3, Port: 1, Input: 8}, true},
		{impl.Grant{Node: 3, Port: 1<<8 + 1, Input: 1<<8 + 8}, impl.Grant{Node: 3, Port: 1, Input: 8}, true},
		{impl.Grant{Port: 1, Input: math.MaxInt}, impl.Grant{Port: 2, Input: math.MaxInt - 1}, false},
		{impl.Grant{Port: 1, Input: math.MaxInt - 1}, impl.Grant{Port: 2, Input: math.MaxInt - 2}, true},
		{impl.Grant{Port: 1, Input: math.MaxInt}, impl.Grant{Port: 2, Input: -1}, true},
		{impl.Grant{Port: math.MinInt, Input: 0}, impl.Grant{Port: 0, Input: math.MinInt}, true},
		{impl.Grant{Port: 1, Input: -2}, impl.Grant{Port: 2, Input: 2}, true},
		{impl.Grant{Port: 1, Input: -4}, impl.Grant{Port: 2, Input: -5}, false},
		{impl.Grant{Port: 1, Input: -1}, impl.Grant{Port: 2, Input: 0}, false},
	} {
		wantGrantOk(t, []impl.Grant{c.first, c.second}, c.want)
		wantGrantOk(t, []impl.Grant{c.first, {Node: 7, Port: 1, Input: 8}, {Node: 8, Port: 1, Input: 8}, c.second}, c.want)
	}
}

// All pairs of grants of three nodes.
func TestGrantOkOfAllPairs(t *testing.T) {
	var all []impl.Grant
	for node := range 3 {
		for port := range 5 {
			for input := range 10 {
				all = append(all, impl.Grant{Node: node, Port: port, Input: input})
			}
		}
	}
	for _, x := range all {
		for _, y := range all {
			sameEntry := slices.Contains([]int{x.Input, x.Input ^ 1}, y.Input)
			wantGrantOk(t, []impl.Grant{x, y}, x.Node != y.Node || x.Port != y.Port && !sameEntry)
		}
	}
}

// All outputs and all input ports of all nodes are used once; one grant more, anywhere, is one too many.
func TestGrantOkOfAFullGrid(t *testing.T) {
	var all []impl.Grant
	for node := range 16 {
		for port := range 5 {
			all = append(all, impl.Grant{Node: node, Port: port, Input: (3*port+node)%5*2 + (port+node)%2})
		}
	}
	wantGrantOk(t, all, true)
	for i, g := range all {
		for at := 0; at <= len(all); at += 8 {
			wantGrantOk(t, slices.Insert(slices.Clone(all), at, impl.Grant{Node: g.Node, Port: g.Port, Input: 10}), false)
			wantGrantOk(t, slices.Insert(slices.Clone(all), at, impl.Grant{Node: g.Node, Port: 5, Input: g.Input ^ 1}), false)
			wantGrantOk(t, slices.Insert(slices.Clone(all), at, impl.Grant{Node: g.Node, Port: 5, Input: 10}), true)
		}
		wantGrantOk(t, slices.Delete(slices.Clone(all), i, i+1), true)
	}
}

func TestFirstFromAndGrantOkKeepTheirArguments(t *testing.T) {
	for turn := -1; turn <= 10; turn++ {
		for _, numbers := range [][]int{{}, {9, 2, 7}, {2, 7, 2, 0}, {3, 10}} {
			list := slices.Concat(numbers, []int{77, -7, 500})[:len(numbers)]
			kept := fmt.Sprint(list[:cap(list)])
			impl.FirstFrom(list, turn)
			if got := fmt.Sprint(list[:cap(list)]); got != kept {
				t.Errorf("FirstFrom changed a list from %s to %s", kept, got)
			}
		}
	}
	for _, grants := range [][]impl.Grant{nil, grantsOf(2, 4, 1, 0, 8), grantsOf(2, 4, 1, 4, 0), grantsOf(0, 3, 9, 2, 7, 1, 8)} {
		list := slices.Concat(grants, grantsOf(77, -7, 500, 8, 8))[:len(grants)]
		kept := fmt.Sprint(list[:cap(list)])
		impl.GrantOk(list)
		if got := fmt.Sprint(list[:cap(list)]); got != kept {
			t.Errorf("GrantOk changed a list from %s to %s", kept, got)
		}
	}
}

// Networks keep their memory, with what is behind the ends of their lists, and lists that are returned have memory of their own.
func TestGrantsKeepTheirArguments(t *testing.T) {
	wantNew := func(what string, grants func() []impl.Grant) {
		first, second := grants(), grants()
		want := slices.Clone(second)
		for i := range first[:cap(first)] {
			first[:cap(first)][i] = impl.Grant{Node: -7, Port: -7, Input: -7}
		}
		if !slices.Equal(second, want) || !slices.Equal(grants(), want) {
			t.Errorf("the lists of %s share memory: %v became %v", what, want, second)
		}
	}
	for _, g := range []impl.Grid{{Width: 1, Height: 1}, {Width: 2, Height: 1}, {Width: 2, Height: 3}} {
		good := busyNet(g)
		bad := cloneNet(good)
		bad.Time = -1
		for _, n := range []impl.Net{good, bad, gridNet(g)} {
			n = withSpare(n)
			kept := memoryOf(n)
			for node := -1; node <= len(n.Sources); node++ {
				wantNew("GrantsAt", func() []impl.Grant { return impl.GrantsAt(n, node) })
			}
			wantNew("AllGrants", func() []impl.Grant { return impl.AllGrants(n) })
			if got := memoryOf(n); got != kept {
				t.Errorf("a network was changed from %s to %s", kept, got)
			}
		}
	}
}
