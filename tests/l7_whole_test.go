package tests

import (
	"slices"
	"testing"

	"loop.example/g01110/impl"
)

// checkWhole takes no sites and a cost of 0 if there is no whole flow.
func checkWhole(t *testing.T, s stock, set, sites []int, cost int, fine bool) {
	t.Helper()
	got, number, ok := impl.WholeFlow(s.f, s.rooms, s.needs, set)
	if ok != fine || !slices.Equal(got, sites) || number != cost {
		t.Errorf("WholeFlow of %s for %v = %v, %d, %v; want %v, %d, %v", s.text(), set, got, number, ok, sites, cost, fine)
	}
}

// The lists of this test were worked out by hand.
func TestP7WholeFlowsByHand(t *testing.T) {
	left, right, both, three := []int{0}, []int{1}, []int{0, 1}, []int{0, 1, 2}
	for _, c := range []struct {
		field, rooms, needs string
		set, sites          []int
		cost                int
	}{
		{pair, "2 3", "2 2", both, []int{0, 1}, 6}, {pair, "4 4", "2 2", both, []int{0, 1}, 6}, {pair, "4 1", "2 2", both, []int{0, 0}, 14}, {pair, "1 4", "2 2", both, []int{1, 1}, 14}, {pair, "4 4", "2 2", left, []int{0, 0}, 14}, {pair, "4 4", "2 2", right, []int{1, 1}, 14}, {pair, "2 3", "3 2", both, []int{1, 0}, 27}, {pair, "2 3", "2 3", both, []int{0, 1}, 8}, {pair, "3 2", "2 3", both, []int{1, 0}, 28},
		{pair, "1 1", "1 1", both, []int{0, 1}, 3}, {pair, "0 2", "1 1", both, []int{1, 1}, 7}, {"0 0 0 / 1 2 9 / 9 1 2", "1 1 3", "1 1", three, []int{0, 1}, 2}, {"0 0 0 / 1 2 9 / 1 9 9", "1 1 3", "1 1", three, []int{1, 0}, 3},
		{pair, "0 0", "0 0", both, []int{0, 0}, 0}, {pair, "0 0", "0 0", right, []int{1, 1}, 0}, {pair, "4 4", "0 0", both, []int{0, 0}, 0}, {pair, "0 2", "0 2", both, []int{0, 1}, 4}, {pair, "0 2", "2 0", both, []int{1, 0}, 10}, {pair, "2 0", "2 0", both, []int{0, 0}, 2}, {"0 0 0 / 1 2 3", "0 0 0", "0", []int{1, 2}, []int{1}, 0}, // needs and rooms of 0
		{"5", "0", "", left, nil, 0}, {"5 6 7", "0 20 3", "", []int{0, 2}, nil, 0}, {"7 / 0 / 99", "10", "5 5", left, []int{0, 0}, 495}, {"7 / 3", "5", "5", left, []int{0}, 15}, {"7 / 3", "20", "5", left, []int{0}, 15},
		{"0 0 / 3 3 / 3 3", "2 2", "2 2", both, []int{0, 1}, 12}, {"0 0 / 3 3 / 3 3", "4 4", "2 2", both, []int{0, 0}, 12}, {"0 0 / 3 3 / 3 3", "3 3", "2 2", both, []int{0, 1}, 12}, {"0 0 / 3 3 / 3 3 / 3 3", "2 4", "2 2 2", both, []int{0, 1, 1}, 18}, {"0 0 / 3 3 / 3 3 / 3 3", "3 4", "3 2 2", both, []int{0, 1, 1}, 21}, {"0 0 / 3 3 / 3 3 / 3 3", "4 3", "3 2 2", both, []int{1, 0, 0}, 21}, {"0 0 / 1 2 / 1 2", "2 2", "2 2", both, []int{0, 1}, 6}, {"0 0 0 / 2 1 1 / 2 1 1", "9 9 9", "1 1", three, []int{1, 1}, 2}, // several of the same cost
		{"0 0 / 1 9 / 1 9 / 1 9", "5 5", "3 3 2", both, []int{0, 1, 0}, 32}, {"0 0 / 1 9 / 1 9 / 1 9", "6 5", "3 3 2", both, []int{0, 0, 1}, 24}, {"0 0 / 1 9 / 1 9 / 1 9", "4 5", "3 3 2", both, []int{0, 1, 1}, 48}, {"0 0 / 1 9 / 1 9 / 1 9", "3 5", "3 3 2", both, []int{0, 1, 1}, 48},
	} {
		checkWhole(t, stockOf(c.field, c.rooms, c.needs), c.set, c.sites, c.cost, true)
	}
	row := slices.Repeat([]int{99}, 7)
	s := stock{impl.Field{Open: row, Dist: slices.Repeat([][]int{row}, 7)}, slices.Repeat([]int{5}, 7), slices.Repeat([]int{5}, 7)}
	checkWhole(t, s, allBelow(7), allBelow(7), 3465, true)
	s.rooms[3] = 4
	checkWhole(t, s, allBelow(7), nil, 0, false)
	s.rooms[2] = 10
	checkWhole(t, s, allBelow(7), []int{0, 1, 2, 2, 4, 5, 6}, 3465, true)
}

// There is a flow, but some need fits no site whole.
func TestP7FlowsWithoutWholeFlow(t *testing.T) {
	both := []int{0, 1}
	for _, c := range []struct {
		field, rooms, needs string
		set                 []int
	}{
		{pair, "1 3", "2 2", both}, {pair, "3 1", "2 2", both}, {pair, "3 3", "5 0", both}, {pair, "3 3", "0 5", both}, {"0 0 / 9 4", "3 3", "5", both}, {"0 0 / 9 4", "4 4", "5", both}, {"0 0 0 / 9 4 3", "4 4 20", "5", both}, {"0 0 / 1 1 / 1 1 / 1 1", "3 3", "2 2 2", both}, {"0 0 / 1 1 / 1 1 / 1 1", "4 5", "3 3 3", both},
	} {
		s := stockOf(c.field, c.rooms, c.needs)
		checkWhole(t, s, c.set, nil, 0, false)
		if _, ok := impl.LeastFlow(s.f, s.rooms, s.needs, c.set); !ok {
			t.Errorf("LeastFlow of %s for %v fails", s.text(), c.set)
		}
	}
}

// listsCount gives how many lists of sites there are.
func (s stock) listsCount(set []int) int {
	count := 1
	for range s.needs {
		count *= len(set)
	}
	return count
}

func TestP7WholeFlowsOfManyFields(t *testing.T) {
	n := &numbers{state: 83}
	for place, s := range slices.Concat(manyStocks(2), smallStocks()) {
		for _, set := range s.setsFor(n) {
			if s.listsCount(set) < 20000 || place%100 == 0 {
				sites, cost, fine := s.wholeFlow(set)
				checkWhole(t, s, set, sites, cost, fine)
			}
		}
	}
}

// The rest of this file tells guarantees of the program's own results alone.

func TestP7WholeFlowsCostAtLeastTheLeast(t *testing.T) {
	n := &numbers{state: 84}
	for _, s := range manyStocks(2) {
		for _, set := range s.setsFor(n) {
			sites, cost, one := impl.WholeFlow(s.f, s.rooms, s.needs, set)
			least, two := impl.LeastFlowCost(s.f, s.rooms, s.needs, set)
			if one && (!two || cost < least) {
				t.Fatalf("WholeFlow of %s for %v = %v, %d; LeastFlowCost = %d, %v", s.text(), set, sites, cost, least, two)
			}
			if isSmall := sumModel(s.needs) == 0 || slices.Max(s.needs) <= 1; isSmall && (one != two || cost != least) {
				t.Fatalf("WholeFlow of %s for %v = %v, %d, %v; LeastFlowCost = %d, %v", s.text(), set, sites, cost, one, least, two)
			}
			if flow := s.rowsFor(sites); one {
				checkIsFlow(t, s, set, flow, true, cost)
			}
		}
	}
}

// rowsFor gives the flow in which each client has its whole need at a site.
func (s stock) rowsFor(sites []int) [][]int {
	flow := [][]int{}
	for client, site := range sites {
		row := make([]int, len(s.rooms))
		row[site] = s.needs[client]
		flow = append(flow, row)
	}
	return flow
}
