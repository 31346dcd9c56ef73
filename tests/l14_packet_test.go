package tests

import (
	"math"
	"slices"
	"strings"
	"testing"

	"loop.example/g00984/impl"
)

// badIds lists numbers that no packet has as its Id. Some are valid in a smaller type of numbers.
func badIds() []int {
	return []int{0, -1, -2, -9999, 10000, 10001, 20000, 1<<16 + 1, 1<<32 + 1, -1<<32 + 1, 1<<62 + 1, math.MaxInt, math.MinInt, math.MinInt + 1}
}

// badClasses lists numbers that no packet has as its Class.
func badClasses() []int {
	return []int{-1, -2, 2, 3, 4, 1 << 8, 1<<8 + 1, 1 << 32, 1<<32 + 1, -1 << 32, 1 << 62, math.MaxInt, math.MinInt, math.MinInt + 1}
}

// badLens lists numbers that no packet has as its Len.
func badLens() []int {
	return []int{0, -1, -2, -5, 6, 7, 10, 1<<8 + 1, 1<<32 + 1, -1<<32 + 1, 1 << 62, 1<<62 + 1, math.MaxInt, math.MinInt, math.MinInt + 1}
}

// badNodes lists numbers that are no nodes of a grid.
func badNodes(g impl.Grid) []int {
	return without(append(numbers(), 1<<8+1, 1<<32+1, -1<<32+1, 1<<62+1), upTo(0, g.Width*g.Height-1))
}

// packets visits packets that can be sent: all ends, classes and lengths, with some Ids.
func packets(visit func(g impl.Grid, p impl.Packet)) {
	for _, g := range validGrids() {
		for from := range g.Width * g.Height {
			for to := range g.Width * g.Height {
				for _, class := range []int{0, 1} {
					for length := 1; length <= 5 && from != to; length++ {
						for _, id := range []int{1, 2, 42, 9998, 9999} {
							visit(g, impl.Packet{Id: id, From: from, To: to, Class: class, Len: length})
						}
					}
				}
			}
		}
	}
}

// train lists flits of a packet to the node 3: one for each letter, h for a head, t for a tail, b for both and - for none.
func train(packet int, class int, letters string) []impl.Flit {
	var list []impl.Flit
	for _, letter := range letters {
		f := impl.Flit{Packet: packet, To: 3, Class: class}
		switch letter {
		case 'h':
			f.Head = true
		case 't':
			f.Tail = true
		case 'b':
			f.Head, f.Tail = true, true
		}
		list = append(list, f)
	}
	return list
}

// wholeTrain returns the letters of a whole packet of some flits.
func wholeTrain(length int) string {
	if length == 1 {
		return "b"
	}
	return "h" + strings.Repeat("-", length-2) + "t"
}

// otherFlits lists flits that differ from f in exactly one field.
func otherFlits(f impl.Flit) map[string][]impl.Flit {
	others := map[string][]impl.Flit{}
	add := func(field string, change func(f *impl.Flit)) {
		other := f
		change(&other)
		others[field] = append(others[field], other)
	}
	for _, by := range []int{1, -1, 1 << 8, 1 << 32, 1 << 62, math.MinInt} {
		add("Packet", func(f *impl.Flit) { f.Packet += by })
		add("To", func(f *impl.Flit) { f.To += by })
		add("Class", func(f *impl.Flit) { f.Class += by })
	}
	add("Head", func(f *impl.Flit) { f.Head = !f.Head })
	add("Tail", func(f *impl.Flit) { f.Tail = !f.Tail })
	return others
}

func wantPacket(t *testing.T, g impl.Grid, p impl.Packet) {
	t.Helper()
	if !impl.PacketOk(g, p) {
		t.Errorf("PacketOk(%v, %+v) is false", g, p)
	}
	want := train(p.Id, p.Class, wholeTrain(p.Len))
	for i := range want {
		want[i].To = p.To
	}
	if got := impl.FlitsOf(g, p); !slices.Equal(got, want) {
		t.Errorf("FlitsOf(%v, %+v) = %+v; want %+v", g, p, got, want)
	}
}

func wantNoPacket(t *testing.T, g impl.Grid, p impl.Packet) {
	t.Helper()
	if impl.PacketOk(g, p) {
		t.Errorf("PacketOk(%v, %+v) is true", g, p)
	}
	if got := impl.FlitsOf(g, p); len(got) != 0 {
		t.Errorf("FlitsOf(%v, %+v) = %+v; want none", g, p, got)
	}
}

func wantWhole(t *testing.T, list []impl.Flit, want bool) {
	t.Helper()
	if got := impl.IsWhole(list); got != want {
		t.Errorf("IsWhole(%+v) = %v", list, got)
	}
}

func wantCount(t *testing.T, list []impl.Flit, want int) {
	t.Helper()
	if got := impl.CountPackets(list); got != want {
		t.Errorf("CountPackets(%+v) = %d; want %d", list, got, want)
	}
}

// wantSameFlits compares two lists in both orders.
func wantSameFlits(t *testing.T, a []impl.Flit, b []impl.Flit, want bool) {
	t.Helper()
	if got := impl.SameFlits(a, b); got != want {
		t.Errorf("SameFlits(%+v, %+v) = %v", a, b, got)
	}
	if got := impl.SameFlits(b, a); got != want {
		t.Errorf("SameFlits(%+v, %+v) = %v", b, a, got)
	}
}

func TestPacketLimit(t *testing.T) {
	if impl.MaxLen != 5 {
		t.Error("limit", impl.MaxLen)
	}
}

func TestFlitExamples(t *testing.T) {
	g := impl.Grid{Width: 3, Height: 2}
	for _, c := range []struct {
		packet impl.Packet
		flits  []impl.Flit
	}{
		{impl.Packet{Id: 1, From: 0, To: 5, Class: 0, Len: 1}, []impl.Flit{
			{Packet: 1, To: 5, Class: 0, Head: true, Tail: true},
		}},
		{impl.Packet{Id: 9999, From: 5, To: 0, Class: 1, Len: 1}, []impl.Flit{
			{Packet: 9999, To: 0, Class: 1, Head: true, Tail: true},
		}},
		{impl.Packet{Id: 7, From: 4, To: 2, Class: 1, Len: 2}, []impl.Flit{
			{Packet: 7, To: 2, Class: 1, Head: true, Tail: false},
			{Packet: 7, To: 2, Class: 1, Head: false, Tail: true},
		}},
		{impl.Packet{Id: 12, From: 1, To: 3, Class: 0, Len: 3}, []impl.Flit{
			{Packet: 12, To: 3, Class: 0, Head: true, Tail: false},
			{Packet: 12, To: 3, Class: 0, Head: false, Tail: false},
			{Packet: 12, To: 3, Class: 0, Head: false, Tail: true},
		}},
		{impl.Packet{Id: 345, From: 2, To: 1, Class: 1, Len: 5}, []impl.Flit{
			{Packet: 345, To: 1, Class: 1, Head: true, Tail: false},
			{Packet: 345, To: 1, Class: 1, Head: false, Tail: false},
			{Packet: 345, To: 1, Class: 1, Head: false, Tail: false},
			{Packet: 345, To: 1, Class: 1, Head: false, Tail: false},
			{Packet: 345, To: 1, Class: 1, Head: false, Tail: true},
		}},
	} {
		wantPacket(t, g, c.packet)
		if got := impl.FlitsOf(g, c.packet); !slices.Equal(got, c.flits) {
			t.Errorf("FlitsOf(%v, %+v) = %+v; want %+v", g, c.packet, got, c.flits)
		}
		wantWhole(t, c.flits, true)
		wantCount(t, c.flits, 1)
	}
}

func TestPacketsOfAllGrids(t *testing.T) {
	packets(func(g impl.Grid, p impl.Packet) {
		wantPacket(t, g, p)
	})
}

func TestAllIds(t *testing.T) {
	g := impl.Grid{Width: 4, Height: 4}
	for id := 1; id <= 9999; id++ {
		wantPacket(t, g, impl.Packet{Id: id, From: 15, To: id % 15, Class: id % 2, Len: id%5 + 1})
	}
	for _, id := range append(badIds(), upTo(10000, 11000)...) {
		wantNoPacket(t, g, impl.Packet{Id: id, From: 15, To: 0, Class: 1, Len: 5})
		wantNoPacket(t, g, impl.Packet{Id: id, From: 0, To: 1, Class: 0, Len: 1})
	}
}

func TestClassesThatNoPacketHas(t *testing.T) {
	packets(func(g impl.Grid, p impl.Packet) {
		for _, p.Class = range badClasses() {
			wantNoPacket(t, g, p)
		}
	})
}

func TestLengthsThatNoPacketHas(t *testing.T) {
	packets(func(g impl.Grid, p impl.Packet) {
		for _, p.Len = range badLens() {
			wantNoPacket(t, g, p)
		}
	})
}

// A packet from a node to itself is not valid, and neither is one between equal nodes that do not exist.
func TestPacketsFromANodeToItself(t *testing.T) {
	for _, g := range validGrids() {
		for _, node := range append(upTo(0, g.Width*g.Height-1), badNodes(g)...) {
			for length := 1; length <= 5; length++ {
				wantNoPacket(t, g, impl.Packet{Id: 1, From: node, To: node, Class: 0, Len: length})
				wantNoPacket(t, g, impl.Packet{Id: 9999, From: node, To: node, Class: 1, Len: length})
			}
		}
	}
}

func TestPacketsFromAndToNodesOutsideOfTheGrid(t *testing.T) {
	for _, g := range validGrids() {
		for _, bad := range badNodes(g) {
			for node := range g.Width * g.Height {
				wantNoPacket(t, g, impl.Packet{Id: 1, From: bad, To: node, Class: 0, Len: 1})
				wantNoPacket(t, g, impl.Packet{Id: 1, From: node, To: bad, Class: 0, Len: 1})
			}
			wantNoPacket(t, g, impl.Packet{Id: 1, From: bad, To: bad + 1, Class: 0, Len: 1})
			wantNoPacket(t, g, impl.Packet{Id: 1, From: bad, To: bad - 1, Class: 0, Len: 1})
		}
	}
}

func TestPacketsInGridsThatAreNotValid(t *testing.T) {
	for _, g := range append(invalidGrids(), impl.Grid{}) {
		for _, ends := range [][2]int{{0, 1}, {1, 0}, {0, 15}, {15, 0}, {2, 5}, {0, 0}, {-1, 0}, {0, -1}, {math.MinInt, math.MaxInt}} {
			for length := 1; length <= 5; length++ {
				wantNoPacket(t, g, impl.Packet{Id: 1, From: ends[0], To: ends[1], Class: length % 2, Len: length})
			}
		}
	}
}

// A grid with one node has no two nodes that differ.
func TestNoPacketsInAGridOfOneNode(t *testing.T) {
	for from := -1; from <= 1; from++ {
		for to := -1; to <= 1; to++ {
			wantNoPacket(t, impl.Grid{Width: 1, Height: 1}, impl.Packet{Id: 1, From: from, To: to, Len: 1})
		}
	}
}

func TestSeveralFaultsOfAPacket(t *testing.T) {
	g := impl.Grid{Width: 2, Height: 2}
	faults := []func(p *impl.Packet){
		func(p *impl.Packet) { p.Id = 10000 },
		func(p *impl.Packet) { p.From = 4 },
		func(p *impl.Packet) { p.To = -1 },
		func(p *impl.Packet) { p.Class = 2 },
		func(p *impl.Packet) { p.Len = 6 },
	}
	for faulty := 1; faulty < 1<<len(faults); faulty++ {
		p := impl.Packet{Id: 5, From: 1, To: 2, Class: 1, Len: 3}
		wantPacket(t, g, p)
		for i, fault := range faults {
			if faulty&(1<<i) != 0 {
				fault(&p)
			}
		}
		wantNoPacket(t, g, p)
	}
	wantNoPacket(t, g, impl.Packet{})
	wantNoPacket(t, impl.Grid{}, impl.Packet{})
}

// The flits of a packet are whole, and no shorter part of them is.
func TestTheFlitsOfAPacketAreWhole(t *testing.T) {
	packets(func(g impl.Grid, p impl.Packet) {
		flits := impl.FlitsOf(g, p)
		for first := range len(flits) + 1 {
			for end := first; end <= len(flits); end++ {
				wantWhole(t, flits[first:end], end-first == p.Len)
				if end == p.Len && first < end {
					wantCount(t, flits[first:end], 1)
				} else {
					wantCount(t, flits[first:end], 0)
				}
			}
		}
	})
}

func TestAnEmptyListIsNotWhole(t *testing.T) {
	wantWhole(t, nil, false)
	wantWhole(t, []impl.Flit{}, false)
	wantWhole(t, train(1, 0, "b")[:0], false)
}

// With the same Packet, To and Class everywhere, exactly one list of each length is whole.
func TestAllHeadsAndTails(t *testing.T) {
	for _, letters := range texts("-htb", 6) {
		list := train(8, 1, letters)
		wantWhole(t, list, slices.Contains([]string{"b", "ht", "h-t", "h--t", "h---t", "h----t"}, letters))
		tails := 0
		for _, letter := range letters {
			if letter == 't' || letter == 'b' {
				tails++
			}
		}
		wantCount(t, list, tails)
	}
}

func TestOneFlitAlone(t *testing.T) {
	wantWhole(t, train(1, 0, "b"), true)
	wantWhole(t, train(1, 0, "h"), false)
	wantWhole(t, train(1, 0, "t"), false)
	wantWhole(t, train(1, 0, "-"), false)
	wantWhole(t, []impl.Flit{{}}, false)
	wantWhole(t, []impl.Flit{{Head: true, Tail: true}}, true)
}

func TestFlitsOfTwoPacketsAreNotWhole(t *testing.T) {
	for first := 1; first <= 5; first++ {
		for second := 1; second <= 5; second++ {
			for _, packet := range []int{1, 2} {
				// Two packets may even have the same Id.
				list := slices.Concat(train(1, 0, wholeTrain(first)), train(packet, 0, wholeTrain(second)))
				for from := range list {
					for end := from; end <= len(list); end++ {
						wantWhole(t, list[from:end], from == 0 && end == first || from == first && end == len(list))
					}
				}
				wantCount(t, list, 2)
			}
		}
	}
	// The head of one packet and the tail of another one.
	wantWhole(t, slices.Concat(train(1, 0, "h"), train(2, 0, "t")), false)
	wantWhole(t, slices.Concat(train(1, 0, "h-"), train(2, 0, "-t")), false)
	wantWhole(t, slices.Concat(train(1, 0, "h"), train(1, 1, "t")), false)
}

func TestOneOtherFlitIsNotWhole(t *testing.T) {
	for length := 1; length <= 6; length++ {
		whole := train(8, 1, wholeTrain(length))
		wantWhole(t, whole, true)
		for i, f := range whole {
			for field, others := range otherFlits(f) {
				for _, other := range others {
					list := slices.Clone(whole)
					list[i] = other
					// The only flit of a packet has nothing to differ from.
					alone := length == 1 && field != "Head" && field != "Tail"
					if got := impl.IsWhole(list); got != alone {
						t.Errorf("IsWhole(%+v) = %v: the flit %d has another %s", list, got, i, field)
					}
				}
			}
		}
	}
}

// Two flits that differ from all others in the same way, next to each other or apart.
func TestTwoOtherFlitsAreNotWhole(t *testing.T) {
	whole := train(8, 1, "h---t")
	for i := range whole {
		for j := range i {
			for field, others := range otherFlits(impl.Flit{Packet: 8, To: 3, Class: 1}) {
				for _, other := range others {
					list := slices.Clone(whole)
					for _, at := range []int{i, j} {
						list[at].Packet, list[at].To, list[at].Class = other.Packet, other.To, other.Class
						list[at].Head = list[at].Head != other.Head
						list[at].Tail = list[at].Tail != other.Tail
					}
					if impl.IsWhole(list) {
						t.Errorf("IsWhole(%+v) is true: the flits %d and %d have another %s", list, j, i, field)
					}
				}
			}
		}
	}
}

// IsWhole compares flits with each other alone: it knows no limits of a packet.
func TestWholeFlitsOutsideOfTheLimits(t *testing.T) {
	for _, n := range []int{0, -1, 2, 10000, 1 << 40, math.MaxInt, math.MinInt} {
		for length := 1; length <= 5; length++ {
			list := train(n, n, wholeTrain(length))
			for i := range list {
				list[i].To = n
			}
			wantWhole(t, list, true)
		}
	}
	for length := 6; length <= 2000; length += 7 {
		list := slices.Concat(train(1, 0, "h"), make([]impl.Flit, length-2), train(1, 0, "t"))
		for i := range list {
			list[i].Packet, list[i].To = 1, 3
		}
		wantWhole(t, list, true)
		wantWhole(t, list[1:], false)
		wantWhole(t, list[:length-1], false)
		list[length/2].Packet = 2
		wantWhole(t, list, false)
	}
}

func TestCountPacketsExamples(t *testing.T) {
	for _, c := range []struct {
		letters string
		want    int
	}{
		{"", 0},
		{"-", 0},
		{"h", 0},
		{"h----", 0},
		{"hhhhh", 0},
		{"t", 1},
		{"b", 1},
		{"t----", 1},
		{"--t--", 1},
		{"h---t", 1},
		{"tt", 2},
		{"bb", 2},
		{"htb", 2},
		{"bhth-t", 3},
		{"t-t-t", 3},
		{"ttttt", 5},
		{"hthth", 2},
	} {
		wantCount(t, train(1, 0, c.letters), c.want)
	}
	wantCount(t, nil, 0)
	wantCount(t, []impl.Flit{}, 0)
}

// Only the tails are counted, whatever the flits have else.
func TestCountPacketsOfAllKinds(t *testing.T) {
	var list []impl.Flit
	for _, n := range []int{0, 1, -1, 10000, math.MaxInt, math.MinInt} {
		for _, head := range []bool{false, true} {
			list = append(list, impl.Flit{Packet: n, To: n, Class: n, Head: head, Tail: true}, impl.Flit{Packet: n, To: n, Class: n, Head: head})
			wantCount(t, list, len(list)/2)
		}
	}
	long := make([]impl.Flit, 70000)
	wantCount(t, long, 0)
	for i := range long {
		long[i].Tail = true
	}
	wantCount(t, long, 70000)
}

func TestEmptyListsAreSame(t *testing.T) {
	empty := [][]impl.Flit{nil, {}, train(1, 0, "h-t")[:0], train(1, 0, "h-t")[3:]}
	for _, a := range empty {
		for _, b := range empty {
			wantSameFlits(t, a, b, true)
		}
		wantSameFlits(t, a, train(1, 0, "b"), false)
		wantSameFlits(t, a, []impl.Flit{{}}, false)
	}
}

func TestListsOfDifferentLengthsAreNotSame(t *testing.T) {
	list := train(8, 1, "h-th---t")
	for a := range len(list) + 1 {
		for b := range len(list) + 1 {
			wantSameFlits(t, list[:a], list[:b], a == b)
			wantSameFlits(t, list[:a], slices.Clone(list[:b]), a == b)
		}
	}
	// Not even if all their flits are equal.
	for a := range 5 {
		for b := range 5 {
			wantSameFlits(t, make([]impl.Flit, a), make([]impl.Flit, b), a == b)
		}
	}
}

func TestListsThatDifferInOneFieldAreNotSame(t *testing.T) {
	for length := 1; length <= 5; length++ {
		for _, letters := range []string{wholeTrain(length), "-----"[:length], "bbbbb"[:length]} {
			list := train(8, 1, letters)
			wantSameFlits(t, list, slices.Clone(list), true)
			for i, f := range list {
				for _, others := range otherFlits(f) {
					for _, other := range others {
						changed := slices.Clone(list)
						changed[i] = other
						wantSameFlits(t, list, changed, false)
					}
				}
			}
		}
	}
}

func TestListsInAnotherOrderAreNotSame(t *testing.T) {
	a, b, c := train(1, 0, "b"), train(2, 1, "h-t"), train(3, 0, "ht")
	wantSameFlits(t, slices.Concat(a, b, c), slices.Concat(a, b, c), true)
	wantSameFlits(t, slices.Concat(a, b, c), slices.Concat(a, c, b), false)
	wantSameFlits(t, slices.Concat(a, b, c), slices.Concat(c, b, a), false)
	wantSameFlits(t, slices.Concat(a, a, b), slices.Concat(a, b, b), false)
	wantSameFlits(t, b, []impl.Flit{b[2], b[1], b[0]}, false)
}

// The flits of two packets are the same exactly if they have the same Id, destination, class and length: they do not say where they come from.
func TestPacketsThatDifferHaveOtherFlits(t *testing.T) {
	g := impl.Grid{Width: 2, Height: 2}
	var list []impl.Packet
	packets(func(grid impl.Grid, p impl.Packet) {
		if grid == g && p.Id < 9998 {
			list = append(list, p)
		}
	})
	for _, p := range list {
		for _, q := range list {
			same := p.Id == q.Id && p.To == q.To && p.Class == q.Class && p.Len == q.Len
			wantSameFlits(t, impl.FlitsOf(g, p), impl.FlitsOf(g, q), same)
		}
	}
}

func TestPacketFunctionsKeepTheirArguments(t *testing.T) {
	for _, letters := range texts("-htb", 4) {
		all := slices.Concat(train(1, 0, letters), train(2, 1, "h-t"))
		kept := slices.Clone(all)
		other := slices.Clone(all)
		// The last three flits are spare capacity of the arguments.
		impl.IsWhole(all[:len(letters)])
		impl.CountPackets(all[:len(letters)])
		impl.SameFlits(all[:len(letters)], other[:len(letters)])
		if !slices.Equal(all, kept) || !slices.Equal(other, kept) {
			t.Errorf("the list %+v was changed to %+v and %+v", kept, all, other)
		}
	}
}

// Results are overwritten up to their capacity, which must not be seen in other results.
func TestTheFlitsOfAPacketAreNewMemory(t *testing.T) {
	packets(func(g impl.Grid, p impl.Packet) {
		first, second := impl.FlitsOf(g, p), impl.FlitsOf(g, p)
		kept := slices.Clone(second)
		for i := range first[:cap(first)] {
			first[:cap(first)][i] = impl.Flit{Packet: -7, To: -7, Class: -7}
		}
		if !slices.Equal(second, kept) {
			t.Errorf("two results for %+v share memory", p)
		}
		wantPacket(t, g, p)
	})
}
