package tests

import (
	"math"
	"slices"
	"testing"

	"loop.example/g01110/impl"
)

// checkBestRooms takes an empty set if none has a flow.
func checkBestRooms(t *testing.T, s stock, set []int, sum int, fine bool) {
	t.Helper()
	got, number, ok := impl.BestRooms(s.f, s.rooms, s.needs)
	if ok != fine || !slices.Equal(got, set) || number != sum {
		t.Errorf("BestRooms of %s = %v, %d, %v; want %v, %d, %v", s.text(), got, number, ok, set, sum, fine)
	}
}

// checkServe takes the clients of HallClients, none if a set can serve all.
func checkServe(t *testing.T, s stock, set []int, r int, hall []int) {
	t.Helper()
	can, ok := impl.CanServe(s.f, s.rooms, s.needs, set, r)
	checkFlowReport(t, "CanServe "+listOf([]int{r}), s, set, can, ok, len(hall) == 0)
	got, ok := impl.HallClients(s.f, s.rooms, s.needs, set, r)
	if ok != (len(hall) > 0) || !slices.Equal(got, hall) {
		t.Errorf("HallClients of %s for %v and %d = %v, %v; want %v", s.text(), set, r, got, ok, hall)
	}
}

func checkRoomReach(t *testing.T, s stock, k, reach int, fine bool) {
	t.Helper()
	got, ok := impl.RoomReach(s.f, s.rooms, s.needs, k)
	checkFlowCall(t, "RoomReach", s, []int{k}, got, ok, reach, fine)
}

// The sets of this test were worked out by hand.
func TestP7BestRoomsByHand(t *testing.T) {
	for _, c := range []struct {
		field, rooms, needs string
		set                 []int
		sum                 int
	}{
		{pair, "2 3", "2 2", []int{0, 1}, 13}, {pair, "1 3", "2 2", []int{0, 1}, 17}, {pair, "4 4", "2 2", []int{0, 1}, 13}, {pair, "0 4", "2 2", []int{1}, 17}, {pair, "4 0", "2 2", []int{0}, 18}, {pair, "4 3", "2 2", []int{0, 1}, 13}, {pair, "1 4", "2 2", []int{1}, 17}, // of the same sum, fewer sites come first
		{"8 8 / 1 5 / 6 2", "4 4", "2 2", []int{0}, 22}, {"8 7 / 1 5 / 6 2", "4 4", "2 2", []int{1}, 21}, {"8 8 / 1 5 / 6 2", "3 4", "2 2", []int{1}, 22}, {"8 8 / 1 5 / 6 2", "3 3", "2 2", []int{0, 1}, 22}, {"7 8 / 1 5 / 6 2", "4 4", "2 2", []int{0}, 21}, {"9 9 / 1 5 / 6 2", "4 4", "2 2", []int{0}, 23}, {"99 99 / 1 5 / 6 2", "2 2", "2 2", []int{0, 1}, 204},
		{"0 0 / 3 3 / 3 3", "4 4", "2 2", []int{0}, 12}, {"0 0 / 3 3 / 3 3", "3 4", "2 2", []int{1}, 12}, {"0 0 / 3 3 / 3 3", "3 3", "2 2", []int{0, 1}, 12}, {"0 0 0 / 3 3 3", "2 3 3", "4", []int{0, 1}, 12}, {"0 0 0 / 3 3 3", "0 3 1", "4", []int{1, 2}, 12}, {"1 0 0 / 3 3 3", "2 3 3", "4", []int{1, 2}, 12},
		{pair, "4 4", "0 0", []int{1}, 3}, {pair, "0 0", "0 0", []int{1}, 3}, {"3 4 / 1 5 / 6 2", "0 0", "0 0", []int{0}, 3}, {"0 0 / 1 5 / 6 2", "0 0", "0 0", []int{0}, 0}, {"5", "0", "", []int{0}, 5}, {"5 2 2", "0 20 0", "", []int{1}, 2}, {"99 99 99 99 99 99 98", "0 0 0 0 0 0 0", "", []int{6}, 98}, // nothing to serve
		{"7 / 0 / 99", "10", "5 5", []int{0}, 502}, {"50 0 / 9 9", "5 0", "5", []int{0}, 95}, {"50 0 / 9 9", "5 1", "5", []int{0}, 95}, {"5 0 0 / 9 1 1", "5 2 3", "5", []int{1, 2}, 5}, {"5 0 0 / 0 1 1", "5 2 3", "5", []int{0}, 5}, {"99 0 / 0 99", "20 20", "1", []int{0}, 99},
	} {
		checkBestRooms(t, stockOf(c.field, c.rooms, c.needs), c.set, c.sum, true)
	}
	row := slices.Repeat([]int{99}, 7)
	all := stock{impl.Field{Open: row, Dist: slices.Repeat([][]int{row}, 7)}, slices.Repeat([]int{5}, 7), slices.Repeat([]int{5}, 7)}
	checkBestRooms(t, all, allBelow(7), 4158, true)
}

func TestP7NoSetHasEnoughRooms(t *testing.T) {
	for _, c := range [][3]string{
		{pair, "1 2", "2 2"}, {pair, "0 0", "0 1"}, {pair, "0 0", "5 5"}, {pair, "4 5", "5 5"}, {"7 / 3", "4", "5"}, {"7 / 0 / 99", "9", "5 5"}, {"0 0 0 / 9 9 9", "1 1 2", "5"},
		{"0 0 0 0 0 0 0 / 0 0 0 0 0 0 0 / 0 0 0 0 0 0 0", "1 1 1 1 1 1 3", "5 5"}, {"1 / 1 / 1 / 1 / 1 / 1", "20", "5 5 5 5 1"},
	} {
		s := stockOf(c[0], c[1], c[2])
		checkBestRooms(t, s, nil, 0, false)
		for k := 1; k <= len(s.rooms); k++ {
			checkRoomReach(t, s, k, 0, false)
		}
	}
}

// The clients of this test were worked out by hand.
func TestP7ServingWithinARadiusByHand(t *testing.T) {
	left, both, three := []int{0}, []int{0, 1}, []int{0, 1, 2}
	for _, c := range []struct {
		field, rooms, needs string
		set                 []int
		r                   int
		hall                []int
	}{
		{pair, "1 3", "2 2", both, 0, []int{0}}, {pair, "1 3", "2 2", both, 1, []int{0}}, {pair, "1 3", "2 2", both, 4, []int{0}}, {pair, "1 3", "2 2", both, 5, nil}, {pair, "1 3", "2 2", both, 99, nil}, {pair, "1 3", "2 2", both, 100, nil}, {pair, "1 3", "2 2", both, math.MaxInt, nil},
		{pair, "2 3", "2 2", both, 0, []int{0}}, {pair, "2 3", "2 2", both, 1, []int{1}}, {pair, "2 3", "2 2", both, 2, nil}, {pair, "2 3", "0 2", both, 0, []int{1}}, {pair, "2 3", "0 2", both, 1, []int{1}}, {pair, "2 3", "0 2", both, 2, nil},
		{pair, "4 4", "2 2", left, 0, []int{0}}, {pair, "4 4", "2 2", left, 1, []int{1}}, {pair, "4 4", "2 2", left, 5, []int{1}}, {pair, "4 4", "2 2", left, 6, nil}, {pair, "3 4", "2 2", left, 6, []int{0, 1}}, {pair, "1 4", "2 2", left, 99, []int{0}}, {pair, "4 1", "1 5", left, 99, []int{1}}, // only open sites count
		{pair, "2 1", "2 2", both, 2, []int{1}}, {pair, "2 1", "2 2", both, 5, []int{1}}, {pair, "2 1", "2 2", both, 6, []int{0, 1}}, {pair, "2 1", "2 2", both, math.MaxInt, []int{0, 1}}, {pair, "0 0", "0 1", both, 99, []int{1}}, {pair, "0 0", "1 0", both, 99, []int{0}}, {pair, "0 0", "1 1", both, 99, []int{0}}, // there is no flow
		{pair, "0 0", "0 0", both, 0, nil}, {pair, "0 0", "0 0", left, 99, nil}, {pair, "20 20", "0 0", both, 0, nil}, {"5", "0", "", left, 0, nil}, {"5 6", "0 20", "", both, math.MaxInt, nil}, // nothing to serve
		{"7 / 0 / 99", "10", "5 5", left, 0, []int{1}}, {"7 / 0 / 99", "10", "5 5", left, 98, []int{1}}, {"7 / 0 / 99", "10", "5 5", left, 99, nil}, {"7 / 0 / 0", "9", "5 5", left, 0, []int{0, 1}},
		{"0 0 / 1 1 / 1 1", "2 1", "2 2", both, 1, []int{0, 1}}, {"0 0 / 1 1 / 1 1", "2 1", "2 2", both, 0, []int{0}}, {"0 0 / 1 1 / 1 1", "2 2", "2 2", both, 1, nil},
		{"0 0 0 / 1 9 9 / 1 1 9 / 9 1 9", "1 1 5", "1 1 1", three, 1, []int{0, 1, 2}}, {"0 0 0 / 1 9 9 / 1 1 9 / 9 1 9", "1 2 5", "1 1 1", three, 1, nil}, {"0 0 0 / 1 9 9 / 1 1 9 / 9 1 9", "1 1 5", "1 1 1", three, 9, nil}, {"0 0 0 / 1 9 9 / 1 9 9 / 9 1 9", "1 1 5", "1 1 1", three, 1, []int{0, 1}}, {"0 0 0 / 9 1 9 / 1 9 9 / 1 9 9", "1 1 5", "1 1 1", three, 1, []int{1, 2}}, {"0 0 0 / 9 1 9 / 1 9 9 / 9 1 9", "1 1 5", "1 1 1", three, 1, []int{0, 2}},
		{"0 0 0 / 1 9 9 / 1 9 9 / 9 1 9 / 9 1 9", "1 1 5", "1 1 1 1", three, 1, []int{0, 1}}, {"0 0 0 / 1 9 9 / 9 1 9 / 9 1 9 / 1 9 9", "1 1 5", "1 1 1 1", three, 1, []int{0, 3}}, {"0 0 0 / 1 9 9 / 1 9 9 / 9 1 9 / 9 1 9", "1 1 5", "1 1 1 2", three, 1, []int{3}}, {"0 0 0 / 1 9 9 / 1 9 9 / 9 1 9 / 9 1 9", "1 1 5", "1 0 1 1", three, 1, []int{2, 3}}, // by their number, and then lexicographically
	} {
		checkServe(t, stockOf(c.field, c.rooms, c.needs), c.set, c.r, c.hall)
	}
	row := slices.Repeat([]int{50}, 7)
	s := stock{impl.Field{Open: row, Dist: slices.Repeat([][]int{row}, 7)}, []int{20, 14, 0, 0, 0, 0, 0}, slices.Repeat([]int{5}, 7)}
	checkServe(t, s, allBelow(7), 49, []int{0})
	checkServe(t, s, allBelow(7), 50, allBelow(7))
	s.rooms[6] = 1
	checkServe(t, s, allBelow(7), 50, nil)
	checkServe(t, s, []int{0, 1}, 50, allBelow(7))
	checkServe(t, s, []int{0}, 50, []int{0, 1, 2, 3, 4})
}

func TestP7RoomReachByHand(t *testing.T) {
	for _, c := range []struct {
		field, rooms, needs string
		k, reach            int
		fine                bool
	}{
		{pair, "1 3", "2 2", 2, 5, true}, {pair, "1 3", "2 2", 1, 0, false}, {pair, "4 4", "2 2", 1, 5, true}, {pair, "4 4", "2 2", 2, 2, true}, {pair, "4 3", "2 2", 1, 6, true}, {pair, "3 4", "2 2", 1, 5, true}, {pair, "2 3", "2 2", 2, 2, true}, {pair, "3 1", "2 2", 2, 6, true}, {pair, "2 3", "2 2", 1, 0, false},
		{pair, "0 0", "0 0", 1, 0, true}, {pair, "0 0", "0 0", 2, 0, true}, {pair, "20 20", "0 0", 1, 0, true}, {"5", "0", "", 1, 0, true}, {"5 6 7", "0 0 0", "", 3, 0, true}, {pair, "4 4", "2 0", 1, 1, true}, {pair, "4 4", "0 2", 1, 2, true}, {pair, "1 4", "2 0", 1, 5, true}, {pair, "1 4", "2 0", 2, 5, true}, // clients without a need are out of no reach
		{"7 / 0 / 99", "10", "5 5", 1, 99, true}, {"7 / 0 / 99", "10", "5 0", 1, 0, true}, {"7 / 0 / 0", "10", "5 5", 1, 0, true}, {"7 / 3", "5", "5", 1, 3, true}, {"7 / 3", "4", "5", 1, 0, false},
		{"0 0 0 / 1 9 9 / 9 2 9 / 9 9 3", "1 1 1", "1 1 1", 3, 3, true}, {"0 0 0 / 1 9 9 / 9 2 9 / 9 9 3", "3 1 1", "1 1 1", 2, 9, true}, {"0 0 0 / 1 9 9 / 9 2 9 / 9 9 3", "1 1 1", "1 1 1", 2, 0, false}, {"0 0 0 / 1 9 9 / 9 2 9 / 9 9 3", "1 1 3", "0 1 1", 1, 9, true}, {"0 0 0 / 1 9 9 / 9 2 9 / 9 9 3", "1 1 3", "0 1 1", 2, 3, true},
		{"0 0 0 / 1 2 3 / 1 2 3", "2 2 2", "2 2", 2, 2, true}, {"0 0 0 / 1 2 3 / 1 2 3", "2 1 1", "2 2", 3, 3, true}, {"0 0 0 / 1 2 3 / 1 2 3", "2 2 4", "2 2", 1, 3, true}, {"0 0 0 / 1 2 3 / 1 2 3", "0 0 4", "2 2", 3, 3, true}, {"0 0 0 / 1 2 3 / 1 2 3", "4 4 4", "2 2", 1, 1, true}, {"0 0 / 98 99", "2 3", "5", 2, 99, true}, {"0 0 / 98 99", "2 3", "5", 1, 0, false},
	} {
		checkRoomReach(t, stockOf(c.field, c.rooms, c.needs), c.k, c.reach, c.fine)
	}
}

// someRadii gives radii about the lengths of a Field.
func (s stock) someRadii(n *numbers) []int {
	radii := []int{0, 98, 99, 100, math.MaxInt}
	for _, row := range s.f.Dist {
		length := row[n.below(len(row))]
		radii = append(radii, length, max(0, length-1), length+1)
	}
	return radii
}

func TestP7ServingInManyFields(t *testing.T) {
	n := &numbers{state: 81}
	for place, s := range slices.Concat(manyStocks(1), smallStocks()) {
		sets := s.setsFor(n)
		if place%5 != 0 && len(s.rooms) == 2 {
			sets = sets[2:]
		}
		for _, set := range sets {
			for _, r := range s.someRadii(n) {
				hall, _ := s.hallClients(set, r)
				checkServe(t, s, set, r, hall)
				if can := s.canServe(set, r); can != (len(hall) == 0) {
					t.Fatalf("%v can serve %s within %d: %v; the clients with too little room are %v", set, s.text(), r, can, hall)
				}
			}
		}
	}
}

func TestP7RoomReachOfManyFields(t *testing.T) {
	n := &numbers{state: 82}
	for place, s := range slices.Concat(manyStocks(1), smallStocks()) {
		if len(s.rooms) == 2 && place%7 == 0 || len(s.rooms) < 6 && place < 1000 || place%11 == 0 {
			k := 1 + n.below(len(s.rooms))
			reach, fine := s.roomReach(k)
			checkRoomReach(t, s, k, reach, fine)
		}
	}
}

func TestP7BestRoomsOfManyFields(t *testing.T) {
	for place, s := range slices.Concat(manyStocks(1), smallStocks()) {
		if len(s.rooms) < 6 || place%9 == 0 {
			set, sum, fine := s.bestRooms()
			checkBestRooms(t, s, set, sum, fine)
		}
	}
}

// The rest of this file tells guarantees of the program's own results alone.

func TestP7NoSetCostsLessThanBestRooms(t *testing.T) {
	for _, s := range manyStocks(2) {
		best, least, one := impl.BestRooms(s.f, s.rooms, s.needs)
		for _, set := range setsModel(len(s.rooms))[1:] {
			cost, two := impl.LeastFlowCost(s.f, s.rooms, s.needs, set)
			payment, _ := impl.PaymentOf(s.f, set)
			isBest := slices.Equal(set, best)
			if two && (!one || cost+payment < least) || one && isBest && (!two || cost+payment != least) {
				t.Fatalf("BestRooms of %s = %v, %d, %v; LeastFlowCost for %v = %d, %v", s.text(), best, least, one, set, cost, two)
			}
		}
	}
}

func TestP7RoomReachIsTheLeastRadius(t *testing.T) {
	for _, s := range manyStocks(1) {
		for k := 1; k <= len(s.rooms); k++ {
			reach, one := impl.RoomReach(s.f, s.rooms, s.needs, k)
			serves, servesLess := false, false
			within := reach
			if !one {
				within = impl.MaxLength
			}
			for _, set := range setsModel(len(s.rooms))[1:] {
				if len(set) > k {
					break
				}
				can, _ := impl.CanServe(s.f, s.rooms, s.needs, set, within)
				less, _ := impl.CanServe(s.f, s.rooms, s.needs, set, reach-1)
				serves, servesLess = serves || can, servesLess || less
			}
			if servesLess || one != serves {
				t.Fatalf("RoomReach of %s for %d = %d, %v; some set can serve within %d: %v, within less: %v", s.text(), k, reach, one, within, serves, servesLess)
			}
		}
	}
}

// With rooms for all, the reach is that of chapter 5, and the best set that of chapter 2.
func TestP7RoomsForAll(t *testing.T) {
	for _, f := range manyFields(1) {
		s := stock{f, slices.Repeat([]int{len(f.Dist)}, len(f.Open)), slices.Repeat([]int{1}, len(f.Dist))}
		for k := 1; k <= len(f.Open); k++ {
			reach, _ := impl.CentreReach(f, k)
			checkRoomReach(t, s, k, reach, true)
		}
		best, _ := impl.BestSet(f)
		total, _ := impl.BestTotal(f)
		checkBestRooms(t, s, best, total, true)
	}
}
