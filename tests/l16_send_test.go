package tests

import (
	"fmt"
	"math"
	"math/rand"
	"slices"
	"testing"

	"loop.example/g00984/impl"
)

// flitsFor returns the flits of a valid packet.
func flitsFor(p impl.Packet) []impl.Flit {
	flits := train(p.Id, p.Class, wholeTrain(p.Len))
	for i := range flits {
		flits[i].To = p.To
	}
	return flits
}

// withSent returns the network after a packet that it accepts.
func withSent(n impl.Net, p impl.Packet) impl.Net {
	n = cloneNet(n)
	n.Sources[p.From] = append(n.Sources[p.From], flitsFor(p)...)
	return n
}

// wantSent sends a packet that must be accepted, alone and in a list of one packet.
func wantSent(t *testing.T, n impl.Net, p impl.Packet) {
	t.Helper()
	want := withSent(n, p)
	if got, ok := impl.SendPacket(n, p); !ok || !equalNets(got, want) {
		t.Errorf("SendPacket(%v, %+v) = %v, %v; want %v, true", n, p, got, ok, want)
	}
	wantSentAll(t, n, []impl.Packet{p}, want, 1)
}

// wantRefused sends a packet that must be refused by a valid network, alone and in a list of one packet.
func wantRefused(t *testing.T, n impl.Net, p impl.Packet) {
	t.Helper()
	if got, ok := impl.SendPacket(n, p); ok || !equalNets(got, n) {
		t.Errorf("SendPacket(%v, %+v) = %v, %v; want the network unchanged, false", n, p, got, ok)
	}
	wantSentAll(t, n, []impl.Packet{p}, n, 0)
}

func wantSentAll(t *testing.T, n impl.Net, list []impl.Packet, want impl.Net, count int) {
	t.Helper()
	if got, accepted := impl.SendAll(n, list); accepted != count || !equalNets(got, want) {
		t.Errorf("SendAll(%v, %+v) = %v, %d; want %v, %d", n, list, got, accepted, want, count)
	}
}

// wantClosed checks that a network that is not valid accepts nothing and stays as it is.
func wantClosed(t *testing.T, what string, n impl.Net) {
	t.Helper()
	for from := range 16 {
		p := impl.Packet{Id: 1, From: from, To: (from + 1) % 2, Class: from % 2, Len: from%5 + 1}
		if got, ok := impl.SendPacket(n, p); ok || !equalNets(got, n) {
			t.Errorf("%s: SendPacket(%v, %+v) = %v, %v; want the network unchanged, false", what, n, p, got, ok)
		}
	}
	for _, length := range []int{0, 1, 2, 40, 41} {
		if got, count := impl.SendAll(n, packetsFrom(0, 1, length)); count != -1 || !equalNets(got, n) {
			t.Errorf("%s: SendAll(%v) of %d packets = %v, %d; want the network unchanged, -1", what, n, length, got, count)
		}
	}
}

// packetsFrom lists packets of one flit with the Ids 1, 2 and so on.
func packetsFrom(from int, to int, count int) []impl.Packet {
	var list []impl.Packet
	for i := range count {
		list = append(list, impl.Packet{Id: i + 1, From: from, To: to, Class: i % 2, Len: 1})
	}
	return list
}

// badPackets lists packets that PacketOk refuses, for a grid with at least two nodes: all faults of one field.
func badPackets(g impl.Grid) []impl.Packet {
	var list []impl.Packet
	last := g.Width*g.Height - 1
	for _, good := range []impl.Packet{{Id: 1, From: 0, To: last, Class: 0, Len: 1}, {Id: 9999, From: last, To: 0, Class: 1, Len: 5}} {
		for _, id := range badIds() {
			p := good
			p.Id = id
			list = append(list, p)
		}
		for _, class := range badClasses() {
			p := good
			p.Class = class
			list = append(list, p)
		}
		for _, length := range badLens() {
			p := good
			p.Len = length
			list = append(list, p)
		}
		for _, node := range badNodes(g) {
			p, q := good, good
			p.From = node
			q.To = node
			list = append(list, p, q)
		}
		p := good
		p.To = p.From
		list = append(list, p)
	}
	return append(list, impl.Packet{})
}

func TestSendExample(t *testing.T) {
	g := impl.Grid{Width: 2, Height: 1}
	tables, _ := impl.SplitClasses(g)
	n, ok := impl.NetNew(impl.Mesh{Grid: g}, tables)
	if !ok {
		t.Fatal("no network")
	}
	n, ok = impl.SendPacket(n, impl.Packet{Id: 1, From: 0, To: 1, Len: 2})
	if !ok || !slices.Equal(n.Sources[0], []impl.Flit{{Packet: 1, To: 1, Head: true}, {Packet: 1, To: 1, Tail: true}}) || len(n.Sources[1]) != 0 {
		t.Errorf("after the first packet: %v, %v", n, ok)
	}
	if got := impl.FlitsWaiting(n); got != 2 {
		t.Errorf("%d flits wait after the first packet", got)
	}
	n, count := impl.SendAll(n, []impl.Packet{{Id: 2, From: 1, To: 0, Len: 5}, {Id: 3, From: 1, To: 1, Len: 1}})
	if waiting := impl.FlitsWaiting(n); count != 1 || waiting != 7 || len(n.Sources[1]) != 5 {
		t.Errorf("SendAll accepts %d packets; %d flits wait, %d of them at node 1", count, waiting, len(n.Sources[1]))
	}

	numbered := impl.NumberPackets([]impl.Packet{{Id: 5}, {Id: 5}})
	if numbered[1].Id != 2 || !impl.IdsDistinct(numbered) || impl.IdsDistinct([]impl.Packet{{Id: 5}, {Id: 5}}) {
		t.Errorf("NumberPackets returns %+v", numbered)
	}
}

// Packets between all nodes, of both classes and all lengths, to empty and to filled networks.
func TestSendingAllPackets(t *testing.T) {
	for _, g := range validGrids() {
		nodes := g.Width * g.Height
		empty := gridNet(g)
		filled := filledNet(empty, always(3), func(node int) int { return 55 - node })
		for from := range nodes {
			for to := range nodes {
				for length := 1; length <= 5 && from != to; length++ {
					for class := range 2 {
						wantSent(t, empty, impl.Packet{Id: 1 + class*9998, From: from, To: to, Class: class, Len: length})
						wantSent(t, filled, impl.Packet{Id: 1 + (from*nodes+to)*39, From: from, To: to, Class: class, Len: length})
					}
				}
			}
		}
	}
}

// Neither broken channels nor tables with a cycle keep a valid network from accepting packets.
func TestSendingToAllKindsOfNets(t *testing.T) {
	for _, n := range goodNets() {
		for _, n.Time = range []int{0, 1, 1000000} {
			for _, p := range packetsFrom(0, len(n.Sources)-1, 2) {
				if p.From == p.To {
					wantRefused(t, n, p)
					continue
				}
				wantSent(t, n, p)
				wantSent(t, filledNet(n, always(3), always(59)), p)
				wantRefused(t, filledNet(n, always(3), always(60)), p)
			}
		}
	}
}

func TestAllIdsAreSent(t *testing.T) {
	n := gridNet(impl.Grid{Width: 2, Height: 1})
	for id := 1; id <= 9999; id++ {
		p := impl.Packet{Id: id, From: id % 2, To: 1 - id%2, Class: id / 2 % 2, Len: id%5 + 1}
		if got, ok := impl.SendPacket(n, p); !ok || !slices.Equal(got.Sources[p.From], flitsFor(p)) {
			t.Errorf("SendPacket of %+v = %v, %v", p, got, ok)
		}
	}
}

// A source may have 60 flits after a packet, and no more; how many the other ones have does not matter.
func TestSendingToASourceThatIsAlmostFull(t *testing.T) {
	for _, g := range []impl.Grid{{Width: 2, Height: 1}, {Width: 1, Height: 3}, {Width: 4, Height: 4}} {
		for _, others := range []int{0, 60} {
			n := filledNet(gridNet(g), always(1), always(others))
			for _, from := range []int{0, g.Width*g.Height - 1} {
				for waiting := range 61 {
					n.Sources[from] = line(1-from%2, 1, waiting)
					for length := 1; length <= 5; length++ {
						p := impl.Packet{Id: 300, From: from, To: 1, Class: length % 2, Len: length}
						if from == 1 {
							p.To = 0
						}
						if waiting+length <= 60 {
							wantSent(t, n, p)
						} else {
							wantRefused(t, n, p)
						}
					}
				}
			}
		}
	}
}

func TestPacketsThatAreRefused(t *testing.T) {
	for _, g := range validGrids() {
		n := filledNet(gridNet(g), always(2), func(node int) int { return node * 3 })
		for _, p := range badPackets(g) {
			wantRefused(t, n, p)
		}
	}
	// A grid with one node has no packets at all.
	n := gridNet(impl.Grid{Width: 1, Height: 1})
	for from := -1; from <= 1; from++ {
		for to := -1; to <= 1; to++ {
			wantRefused(t, n, impl.Packet{Id: 1, From: from, To: to, Len: 1})
		}
	}
}

// A packet must fit the grid of the network: a greater grid might accept it.
func TestPacketsOfAnotherGrid(t *testing.T) {
	packet := impl.Packet{Id: 9, From: 5, To: 2, Class: 1, Len: 4}
	for _, g := range validGrids() {
		if g.Width*g.Height > 5 {
			wantSent(t, gridNet(g), packet)
		} else {
			wantRefused(t, gridNet(g), packet)
		}
	}
}

func TestSendingToNetsThatAreNotValid(t *testing.T) {
	wantClosed(t, "the zero Net", impl.Net{})
	wantClosed(t, "a Net with sources alone", impl.Net{Sources: make([][]impl.Flit, 16)})
	for _, g := range validGrids() {
		n := filledNet(gridNet(g), always(1), func(node int) int { return node })
		wantClosed(t, "a network without lists", impl.Net{Mesh: n.Mesh, Classes: n.Classes})
		for name, size := range map[string]int{"Buffers": len(n.Buffers), "Owners": len(n.Owners), "Turns": len(n.Turns), "Sources": len(n.Sources), "Arrived": len(n.Arrived)} {
			for _, other := range []int{0, size - 1, size + 1, 2 * size} {
				wantClosed(t, fmt.Sprintf("%s with %d elements", name, other), sizesOf(n)[name](other))
			}
		}
		for _, time := range []int{-1, 1000001, math.MaxInt, math.MinInt} {
			changed := n
			changed.Time = time
			wantClosed(t, fmt.Sprintf("the time %d", time), changed)
		}
		changed := n
		changed.Mesh.Broken = []int{0}
		wantClosed(t, "a mesh that is not valid", changed)
		changed = n
		changed.Mesh.Grid = impl.Grid{Width: -g.Width, Height: -g.Height}
		wantClosed(t, "a grid that is not valid", changed)
		changed = n
		changed.Classes.B.Ports = n.Classes.B.Ports[1:]
		wantClosed(t, "a table that is not valid", changed)
	}
}

// One element of a list is out of its range; it need not be where the packet enters.
func TestSendingToNetsWithOneBadElement(t *testing.T) {
	for _, g := range []impl.Grid{{Width: 2, Height: 1}, {Width: 3, Height: 4}} {
		for _, last := range []bool{false, true} {
			for what, change := range map[string]func(n *impl.Net, node int){
				"a full buffer":              func(n *impl.Net, node int) { n.Buffers[10*node+9] = line(0, 1, 4) },
				"a flit of the other class":  func(n *impl.Net, node int) { n.Buffers[10*node][0].Class = 1 },
				"a flit to nowhere":          func(n *impl.Net, node int) { n.Buffers[10*node+3][0].To = 12 },
				"an owner":                   func(n *impl.Net, node int) { n.Owners[10*node] = 5 },
				"a turn":                     func(n *impl.Net, node int) { n.Turns[5*node+4] = 10 },
				"too many waiting flits":     func(n *impl.Net, node int) { n.Sources[node] = line(0, 0, 61) },
				"a waiting flit to nowhere":  func(n *impl.Net, node int) { n.Sources[node][1].To = -1 },
				"a waiting flit of no class": func(n *impl.Net, node int) { n.Sources[node][1].Class = 2 },
			} {
				n := filledNet(gridNet(g), always(2), always(2))
				node := 0
				if last {
					node = len(n.Sources) - 1
				}
				change(&n, node)
				wantClosed(t, what, n)
			}
		}
	}
}

// Flits of a new packet come after all others, also after those of the same packet or of one that is not whole.
func TestFlitsWaitInTheOrderOfTheirPackets(t *testing.T) {
	n := gridNet(impl.Grid{Width: 2, Height: 2})
	n.Sources[2] = train(4, 1, "-h")
	for _, p := range []impl.Packet{
		{Id: 7, From: 2, To: 3, Class: 0, Len: 3},
		{Id: 6, From: 2, To: 3, Class: 1, Len: 1},
		{Id: 1, From: 1, To: 3, Class: 1, Len: 2},
		{Id: 7, From: 2, To: 3, Class: 0, Len: 2},
	} {
		sent, ok := impl.SendPacket(n, p)
		if !ok {
			t.Errorf("the packet %+v is refused", p)
		}
		n = sent
	}
	want := slices.Concat(train(4, 1, "-h"), train(7, 0, "h-t"), train(6, 1, "b"), train(7, 0, "ht"))
	if !slices.Equal(n.Sources[2], want) || !slices.Equal(n.Sources[1], train(1, 1, "ht")) || len(n.Sources[0]) != 0 || len(n.Sources[3]) != 0 {
		t.Errorf("the sources are %+v; want %+v at node 2", n.Sources, want)
	}
}

// Promise 16: the flits of a packet that is sent are added to the waiting ones.
func TestSentFlitsAreWaiting(t *testing.T) {
	r := rand.New(rand.NewSource(16))
	for _, g := range validGrids() {
		nodes := g.Width * g.Height
		n, accepted, refused := gridNet(g), 0, 0
		for i := range 40 * nodes {
			p := impl.Packet{Id: i + 1, From: r.Intn(nodes), To: r.Intn(nodes), Class: r.Intn(2), Len: 1 + r.Intn(5)}
			before := impl.FlitsWaiting(n)
			sent, ok := impl.SendPacket(n, p)
			if fits := p.From != p.To && len(n.Sources[p.From])+p.Len <= 60; ok != fits {
				t.Errorf("SendPacket of %+v behind %d flits is %v", p, len(n.Sources[p.From]), ok)
			}
			if ok {
				accepted++
				wantGoodNet(t, "a network after a packet", sent, 0, before+p.Len)
			} else {
				refused++
				wantGoodNet(t, "a network after a refused packet", sent, 0, before)
			}
			n = sent
		}
		if nodes > 1 && (accepted < 10*nodes || refused < 10*nodes) {
			t.Errorf("in %v, %d packets are accepted and %d refused", g, accepted, refused)
		}
	}
}

func TestSendingNoPackets(t *testing.T) {
	for _, n := range goodNets() {
		filled := filledNet(n, always(3), always(60))
		for _, list := range [][]impl.Packet{nil, {}, packetsFrom(0, 1, 3)[:0]} {
			wantSentAll(t, n, list, n, 0)
			wantSentAll(t, filled, list, filled, 0)
		}
	}
}

func TestTheNumberOfPacketsThatAreSent(t *testing.T) {
	empty := gridNet(impl.Grid{Width: 2, Height: 2})
	for _, count := range []int{1, 2, 39, 40, 41, 42, 80, 296, 1000} {
		for _, n := range []impl.Net{empty, filledNet(empty, always(1), always(20))} {
			list := packetsFrom(1, 3, count)
			if count > 40 {
				wantSentAll(t, n, list, n, -1)
				continue
			}
			want := n
			for _, p := range list {
				want = withSent(want, p)
			}
			wantSentAll(t, n, list, want, count)
		}
	}
}

// Packets that are refused count for the limit of 40, too.
func TestManyPacketsThatAreRefused(t *testing.T) {
	n := filledNet(gridNet(impl.Grid{Width: 2, Height: 1}), always(1), always(60))
	for _, list := range [][]impl.Packet{make([]impl.Packet, 41), packetsFrom(0, 1, 41), packetsFrom(1, 1, 41)} {
		wantSentAll(t, n, list, n, -1)
		wantSentAll(t, n, list[1:], n, 0)
	}
}

// A refused packet in the middle does not keep later ones out.
func TestRefusedPacketsAmongOthers(t *testing.T) {
	g := impl.Grid{Width: 2, Height: 2}
	n := gridNet(g)
	first := impl.Packet{Id: 1, From: 3, To: 0, Class: 1, Len: 4}
	last := impl.Packet{Id: 2, From: 3, To: 1, Class: 0, Len: 3}
	for _, bad := range badPackets(g) {
		want := withSent(withSent(n, first), last)
		wantSentAll(t, n, []impl.Packet{first, bad, last}, want, 2)
		wantSentAll(t, n, []impl.Packet{bad, first, last, bad}, want, 2)
		wantSentAll(t, n, []impl.Packet{first, bad, bad, bad, last, last}, withSent(want, last), 3)
	}

	n.Sources[3] = line(0, 0, 57)
	long := impl.Packet{Id: 5, From: 3, To: 2, Class: 1, Len: 5}
	elsewhere := impl.Packet{Id: 6, From: 0, To: 3, Class: 0, Len: 5}
	single := impl.Packet{Id: 7, From: 3, To: 2, Class: 1, Len: 1}
	wantSentAll(t, n, []impl.Packet{first, last}, withSent(n, last), 1)
	wantSentAll(t, n, []impl.Packet{last, single}, withSent(n, last), 1)
	wantSentAll(t, n, []impl.Packet{single, last, elsewhere, long, single, first, single, single}, withSent(withSent(withSent(withSent(n, single), elsewhere), single), single), 4)
}

// The Ids of packets need not be distinct.
func TestSendingEqualPackets(t *testing.T) {
	n := gridNet(impl.Grid{Width: 2, Height: 1})
	want, list := n, []impl.Packet(nil)
	for range 40 {
		list = append(list, impl.Packet{Id: 8, From: 0, To: 1, Class: 1, Len: 5})
	}
	for _, p := range list[:12] {
		want = withSent(want, p)
	}
	wantSentAll(t, n, list, want, 12)
}

// SendAll is SendPacket again and again.
func TestSendAllIsSendPacketForEach(t *testing.T) {
	r := rand.New(rand.NewSource(1616))
	for _, g := range validGrids() {
		bad := badPackets(g)
		for range 20 {
			n := filledNet(gridNet(g), always(1), func(int) int { return r.Intn(61) })
			var list []impl.Packet
			for range r.Intn(41) {
				p := impl.Packet{Id: 1 + r.Intn(9999), From: r.Intn(16), To: r.Intn(16), Class: r.Intn(2), Len: 1 + r.Intn(5)}
				if r.Intn(4) == 0 {
					p = bad[r.Intn(len(bad))]
				}
				list = append(list, p)
			}
			want, count := n, 0
			for _, p := range list {
				next, ok := impl.SendPacket(want, p)
				if ok {
					count++
				}
				want = next
			}
			wantSentAll(t, n, list, want, count)
		}
	}
}

// cells lists the places in memory of all numbers and lists of a network, also behind the ends of its lists.
func cells(n impl.Net) []any {
	var all []any
	for _, list := range [][]int{n.Mesh.Broken, n.Classes.A.Ports, n.Classes.B.Ports, n.Owners, n.Turns} {
		for i := range list[:cap(list)] {
			all = append(all, &list[:cap(list)][i])
		}
	}
	for _, lists := range [][][]impl.Flit{n.Buffers, n.Sources, n.Arrived} {
		for i, list := range lists[:cap(lists)] {
			all = append(all, &lists[:cap(lists)][i])
			for j := range list[:cap(list)] {
				all = append(all, &list[:cap(list)][j])
			}
		}
	}
	return all
}

// wantNewMemory checks that no two lists of a result share memory with each other or with other networks.
func wantNewMemory(t *testing.T, what string, result impl.Net, others ...impl.Net) {
	t.Helper()
	taken := map[any]bool{}
	for _, n := range others {
		for _, cell := range cells(n) {
			taken[cell] = true
		}
	}
	for _, cell := range cells(result) {
		if taken[cell] {
			t.Errorf("the result of %s shares memory", what)
			return
		}
		taken[cell] = true
	}
}

// netsToSendTo lists networks that accept all, some or none of the packets of TestSendingIsNewMemory.
func netsToSendTo() []impl.Net {
	var all []impl.Net
	for _, good := range goodNets() {
		full := filledNet(good, always(3), always(60))
		bad := cloneNet(full)
		bad.Time = -1
		short := cloneNet(full)
		short.Sources = short.Sources[:len(short.Sources)-1]
		all = append(all, good, filledNet(good, always(2), always(57)), full, bad, short)
	}
	return all
}

// Arguments keep their memory, with what is behind their ends, and results have memory of their own.
func TestSendingIsNewMemory(t *testing.T) {
	for _, original := range netsToSendTo() {
		n := withSpare(original)
		last := len(n.Sources) - 1
		kept := memoryOf(n)
		var results []impl.Net
		add := func(what string, result impl.Net) {
			t.Helper()
			if got := memoryOf(n); got != kept {
				t.Errorf("%s changed a network from %s to %s", what, kept, got)
			}
			wantNewMemory(t, what, result, append(results, n)...)
			results = append(results, result)
		}
		for _, p := range []impl.Packet{{Id: 1, From: 0, To: last, Len: 5}, {Id: 1, From: 0, To: last, Len: 1}, {Id: 2, From: last, To: 0, Class: 1, Len: 3}, {From: 0}, {From: -1}} {
			result, _ := impl.SendPacket(n, p)
			add("SendPacket", result)
		}
		for _, list := range [][]impl.Packet{nil, packetsFrom(0, last, 1), packetsFrom(last, 0, 40), append(packetsFrom(0, last, 2), packetsFrom(last, 0, 2)...), packetsFrom(0, last, 41)} {
			room := slices.Concat(list, []impl.Packet{{Id: 77}})[:len(list)]
			result, _ := impl.SendAll(n, room)
			add("SendAll", result)
			if !slices.Equal(room, list) || room[:len(list)+1][len(list)] != (impl.Packet{Id: 77}) {
				t.Errorf("SendAll changed its packets to %+v", room[:len(list)+1])
			}
		}
	}
}

// In the argument, several lists lie in one array, one behind the other or one upon the other: flits that are sent must go to one source alone.
func TestSendingToSourcesInOneArray(t *testing.T) {
	n := gridNet(impl.Grid{Width: 2, Height: 2})
	array := line(2, 1, 20)
	for node := range n.Sources {
		n.Sources[node] = array[2*node : 2*node+2]
		n.Arrived[node] = array[:10]
		n.Buffers[2*node+1] = array[:1]
	}
	n.Classes.B.Ports = n.Classes.A.Ports
	n.Arrived[3] = n.Arrived[0]
	kept := memoryOf(n)
	list := []impl.Packet{{Id: 50, From: 0, To: 1, Len: 2}, {Id: 51, From: 1, To: 2, Len: 4}, {Id: 52, From: 0, To: 3, Class: 1, Len: 1}}

	for _, p := range list {
		wantSent(t, n, p)
		result, _ := impl.SendPacket(n, p)
		wantNewMemory(t, "SendPacket", result, n)
	}
	wantSentAll(t, n, list, withSent(withSent(withSent(n, list[0]), list[1]), list[2]), 3)
	result, _ := impl.SendAll(n, list)
	wantNewMemory(t, "SendAll", result, n)
	n.Time = -1
	refused, _ := impl.SendPacket(n, list[0])
	wantNewMemory(t, "SendPacket", refused, n)
	refused, _ = impl.SendAll(n, list)
	wantNewMemory(t, "SendAll", refused, n)
	n.Time = 0
	if got := memoryOf(n); got != kept {
		t.Errorf("a network was changed from %s to %s", kept, got)
	}
}

// A network to which two different packets are sent has two different results.
func TestTwoPacketsToOneNet(t *testing.T) {
	n := withSpare(filledNet(gridNet(impl.Grid{Width: 2, Height: 1}), always(1), always(3)))
	first := impl.Packet{Id: 1, From: 0, To: 1, Class: 0, Len: 2}
	second := impl.Packet{Id: 2, From: 0, To: 1, Class: 1, Len: 2}
	a, _ := impl.SendPacket(n, first)
	b, _ := impl.SendPacket(n, second)
	longer, _ := impl.SendPacket(a, second)
	other, _ := impl.SendPacket(a, first)
	for _, x := range []struct{ got, want impl.Net }{
		{a, withSent(n, first)},
		{b, withSent(n, second)},
		{longer, withSent(withSent(n, first), second)},
		{other, withSent(withSent(n, first), first)},
	} {
		if !equalNets(x.got, x.want) {
			t.Errorf("the network is %v; want %v", x.got, x.want)
		}
	}
}

// wantNumbered checks that all other fields are kept, and that neither the argument nor what is behind it changes.
func wantNumbered(t *testing.T, list []impl.Packet) {
	t.Helper()
	spare := impl.Packet{Id: 77, From: 7, To: 7, Class: 7, Len: 7}
	argument := slices.Concat(list, []impl.Packet{spare})[:len(list)]
	want := slices.Clone(list)
	for i := range want {
		want[i].Id = i + 1
	}
	got := impl.NumberPackets(argument)
	if !slices.Equal(got, want) {
		t.Errorf("NumberPackets(%+v) = %+v; want %+v", list, got, want)
	}
	if !impl.IdsDistinct(got) {
		t.Errorf("IdsDistinct(%+v) is false", got)
	}
	for i := range got[:cap(got)] {
		got[:cap(got)][i] = impl.Packet{Id: -7}
	}
	if !slices.Equal(argument, list) || argument[:len(list)+1][len(list)] != spare {
		t.Errorf("NumberPackets changed or kept its argument: %+v became %+v", list, argument[:len(list)+1])
	}
}

func TestNumberPackets(t *testing.T) {
	example := []impl.Packet{{Id: 5, From: 1, To: 2, Class: 1, Len: 4}, {Id: 5, From: 2, To: 1, Class: 0, Len: 3}}
	if got := impl.NumberPackets(example); !slices.Equal(got, []impl.Packet{{Id: 1, From: 1, To: 2, Class: 1, Len: 4}, {Id: 2, From: 2, To: 1, Class: 0, Len: 3}}) {
		t.Errorf("NumberPackets(%+v) = %+v", example, got)
	}
	for _, length := range []int{0, 1, 2, 3, 39, 40, 41, 42, 100, 9999, 10000, 12000} {
		wantNumbered(t, make([]impl.Packet, length))
		wantNumbered(t, packetsFrom(3, 2, length))
		backward := packetsFrom(0, 9, length)
		slices.Reverse(backward)
		wantNumbered(t, backward)
	}
	if got := impl.NumberPackets(nil); len(got) != 0 {
		t.Errorf("NumberPackets of no packets is %+v", got)
	}
}

// Packets get their numbers whether they are valid or not.
func TestNumbersOfPacketsThatAreNotValid(t *testing.T) {
	for _, g := range validGrids() {
		wantNumbered(t, badPackets(g))
	}
	wantNumbered(t, []impl.Packet{{Id: math.MaxInt, From: math.MinInt, To: math.MaxInt, Class: -1, Len: math.MinInt}, {Id: -1}, {Id: math.MinInt}})
}

func wantDistinct(t *testing.T, want bool, ids ...int) {
	t.Helper()
	var list []impl.Packet
	for i, id := range ids {
		list = append(list, impl.Packet{Id: id, From: i, To: i * i, Class: i % 3, Len: -i})
	}
	kept := slices.Clone(list)
	if got := impl.IdsDistinct(list); got != want {
		t.Errorf("IdsDistinct is %v for %v", got, ids)
	}
	if !slices.Equal(list, kept) {
		t.Errorf("IdsDistinct changed its packets from %+v to %+v", kept, list)
	}
}

func TestIdsDistinct(t *testing.T) {
	if !impl.IdsDistinct(nil) || !impl.IdsDistinct([]impl.Packet{}) || !impl.IdsDistinct([]impl.Packet{{}}) || impl.IdsDistinct([]impl.Packet{{}, {}}) {
		t.Error("packets without numbers")
	}
	far := []int{0, 1, -1, 2, -2, 9999, 10000, -9999, 1 << 8, 1<<8 + 1, 1 << 16, 1<<16 + 1, 1 << 32, 1<<32 + 1, -1 << 32, 1 << 62, -1 << 62, 1<<53 + 1, 1 << 53, math.MaxInt, math.MaxInt - 1, math.MinInt, math.MinInt + 1}
	wantDistinct(t, true, far...)
	for _, id := range far {
		wantDistinct(t, true, id)
		wantDistinct(t, false, id, id)
		wantDistinct(t, false, slices.Concat(far, []int{id})...)
		wantDistinct(t, false, slices.Concat([]int{id}, far)...)
		wantDistinct(t, false, 3, id, 4, id, 5)
		for _, other := range far {
			wantDistinct(t, id != other, id, other)
			wantDistinct(t, id != other, 3, id, 4, 5, other, 6)
		}
	}
}

// Two equal Ids at all places of lists with many packets; the packets themselves differ.
func TestTwoEqualIds(t *testing.T) {
	for _, length := range []int{2, 3, 7, 41} {
		for i := range length {
			for j := i + 1; j < length; j++ {
				ids := upTo(-3, length-4)
				wantDistinct(t, true, ids...)
				ids[j] = ids[i]
				wantDistinct(t, false, ids...)
			}
		}
	}
	long := upTo(1, 20000)
	wantDistinct(t, true, long...)
	long[19999] = 1
	wantDistinct(t, false, long...)
}
