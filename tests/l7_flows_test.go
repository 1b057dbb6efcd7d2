package tests

import (
	"slices"
	"testing"

	"loop.example/g01110/impl"
)

// flowOf reads the rows of a flow; without any text it has no rows.
func flowOf(text string) [][]int {
	if text == "" {
		return [][]int{}
	}
	return rowsOf(text)
}

// checkFlowCall compares a number that a function returns; it is 0 beside a failure.
func checkFlowCall(t *testing.T, name string, s stock, set []int, got int, ok bool, want int, fine bool) {
	t.Helper()
	if ok != fine || got != want {
		t.Errorf("%s of %s for %v = %d, %v; want %d, %v", name, s.text(), set, got, ok, want, fine)
	}
}

func checkFlowReport(t *testing.T, name string, s stock, set []int, got, ok, want bool) {
	t.Helper()
	if !ok || got != want {
		t.Errorf("%s of %s for %v = %v, %v; want %v", name, s.text(), set, got, ok, want)
	}
}

// checkLeastFlow takes no rows and a cost of 0 if there is no flow.
func checkLeastFlow(t *testing.T, s stock, set []int, flow [][]int, cost int, fine bool) {
	t.Helper()
	got, ok := impl.LeastFlow(s.f, s.rooms, s.needs, set)
	if ok != fine || !sameRows(got, flow) {
		t.Errorf("LeastFlow of %s for %v = %v, %v; want %v, %v", s.text(), set, got, ok, flow, fine)
	}
	number, ok := impl.LeastFlowCost(s.f, s.rooms, s.needs, set)
	checkFlowCall(t, "LeastFlowCost", s, set, number, ok, cost, fine)
}

// checkIsFlow takes a cost of 0 for rows that are no flow.
func checkIsFlow(t *testing.T, s stock, set []int, flow [][]int, is bool, cost int) {
	t.Helper()
	got, ok := impl.IsFlow(s.f, s.rooms, s.needs, set, flow)
	checkFlowReport(t, "IsFlow "+rowsText(flow), s, set, got, ok, is)
	number, ok := impl.FlowCost(s.f, s.rooms, s.needs, set, flow)
	checkFlowCall(t, "FlowCost "+rowsText(flow), s, set, number, ok, cost, is)
}

// pair is the Field that most examples of the tests begin with.
const pair = "4 3 / 1 5 / 6 2"

func TestP7RoomsAndNeeds(t *testing.T) {
	for _, c := range []struct {
		field        string
		rooms, needs []int
		are          bool
	}{
		{pair, []int{2, 3}, []int{2, 2}, true}, {pair, []int{0, 0}, []int{0, 0}, true}, {pair, []int{20, 20}, []int{5, 5}, true}, {pair, []int{0, 20}, []int{5, 0}, true},
		{pair, []int{21, 3}, []int{2, 2}, false}, {pair, []int{2, 21}, []int{2, 2}, false}, {pair, []int{2, 3}, []int{6, 2}, false}, {pair, []int{2, 3}, []int{2, 6}, false}, {pair, []int{2, 3}, []int{20, 2}, false},
		{pair, []int{-1, 3}, []int{2, 2}, false}, {pair, []int{2, -1}, []int{2, 2}, false}, {pair, []int{2, 3}, []int{-1, 2}, false}, {pair, []int{2, 3}, []int{2, -1}, false},
		{pair, []int{2}, []int{2, 2}, false}, {pair, []int{2, 3, 4}, []int{2, 2}, false}, {pair, []int{2, 3}, []int{2}, false}, {pair, []int{2, 3}, []int{2, 2, 2}, false}, {pair, nil, []int{2, 2}, false}, {pair, []int{2, 3}, nil, false},
		{"5", []int{0}, nil, true}, {"5", []int{20}, []int{}, true}, {"5", nil, nil, false}, {"5", []int{0}, []int{0}, false}, {"5 6 7 / 1 1 1", []int{1, 2, 3}, []int{5}, true}, {"5 6 7 / 1 1 1", []int{5}, []int{1, 2, 3}, false}, // rooms are of the sites
	} {
		if got, ok := impl.AreNeeds(fieldOf(c.field), c.rooms, c.needs); !ok || got != c.are {
			t.Errorf("AreNeeds of %q for %v and %v = %v, %v; want %v", c.field, c.rooms, c.needs, got, ok, c.are)
		}
	}
}

// The flows of this test were worked out by hand.
func TestP7LeastFlowsByHand(t *testing.T) {
	one, both := []int{1}, []int{0, 1}
	for _, c := range []struct {
		field, rooms, needs string
		set                 []int
		flow                string
		cost                int
	}{
		{pair, "2 3", "2 2", both, "2 0 / 0 2", 6}, {pair, "1 3", "2 2", both, "1 1 / 0 2", 10}, {pair, "3 1", "2 2", both, "2 0 / 1 1", 10}, {pair, "2 2", "2 2", both, "2 0 / 0 2", 6},
		{pair, "4 0", "2 2", both, "2 0 / 2 0", 14}, {pair, "0 4", "2 2", both, "0 2 / 0 2", 14}, {pair, "4 9", "2 2", []int{0}, "2 0 / 2 0", 14}, {pair, "9 4", "2 2", one, "0 2 / 0 2", 14}, // rooms of 0, sites that are not open
		{pair, "0 0", "0 0", both, "0 0 / 0 0", 0}, {pair, "0 0", "0 0", one, "0 0 / 0 0", 0}, {pair, "20 20", "0 0", both, "0 0 / 0 0", 0}, {pair, "0 2", "0 2", both, "0 0 / 0 2", 4}, {pair, "0 2", "2 0", both, "0 2 / 0 0", 10}, {pair, "2 0", "0 2", both, "0 0 / 2 0", 12}, // needs of 0
		{pair, "20 20", "5 5", both, "5 0 / 0 5", 15}, {pair, "20 20", "5 5", one, "0 5 / 0 5", 35}, {pair, "5 5", "5 5", both, "5 0 / 0 5", 15}, {pair, "4 6", "5 5", both, "4 1 / 0 5", 19}, {pair, "6 4", "5 5", both, "5 0 / 1 4", 19},
		{"5", "0", "", []int{0}, "", 0}, {"5", "20", "", []int{0}, "", 0}, {"5 6 7", "1 2 3", "", []int{0, 2}, "", 0}, // no clients
		{"7 / 0 / 99", "0", "0 0", []int{0}, "0 / 0", 0}, {"7 / 0 / 99", "10", "5 5", []int{0}, "5 / 5", 495}, {"7 / 3 / 4 / 5", "20", "5 5 5", []int{0}, "5 / 5 / 5", 60}, {"7 / 3", "5", "5", []int{0}, "5", 15}, // one site
		{"0 0 / 3 3 / 3 3", "2 2", "2 2", both, "0 2 / 2 0", 12}, {"0 0 / 3 3 / 3 3", "3 3", "2 2", both, "0 2 / 1 1", 12}, {"0 0 / 3 3 / 3 3", "4 4", "2 2", both, "0 2 / 0 2", 12}, {"0 0 / 3 3 / 3 3", "3 3", "3 3", both, "0 3 / 3 0", 18}, {"0 0 / 3 3 / 3 3", "4 1", "2 2", both, "1 1 / 2 0", 12}, // several with the same cost
		{"0 0 / 1 2 / 1 2", "2 2", "2 2", both, "0 2 / 2 0", 6}, {"0 0 / 1 2 / 1 3", "2 2", "2 2", both, "0 2 / 2 0", 6}, {"0 0 / 1 3 / 1 2", "2 2", "2 2", both, "2 0 / 0 2", 6}, {"0 0 / 1 2 / 4 5", "3 2", "2 3", both, "0 2 / 3 0", 16},
		{"0 0 / 4 9", "3 3", "5", both, "3 2", 30}, {"0 0 / 9 4", "3 3", "5", both, "2 3", 30}, {"0 0 / 9 4", "3 2", "5", both, "3 2", 35}, {"0 0 0 / 5 5 5", "2 2 2", "5", []int{0, 1, 2}, "1 2 2", 25}, {"0 0 0 / 5 5 4", "2 2 2", "5", []int{0, 1, 2}, "1 2 2", 23}, {"0 0 0 / 4 5 5", "2 2 2", "5", []int{0, 1, 2}, "2 1 2", 23}, // a need for several sites
		{"0 0 0 / 1 2 9 / 9 1 2", "1 1 3", "2 1", []int{0, 1, 2}, "1 1 0 / 0 0 1", 5}, {"0 0 0 / 1 2 9 / 9 1 2", "2 1 3", "2 1", []int{0, 1, 2}, "2 0 0 / 0 1 0", 3}, {"0 0 0 / 1 2 9 / 9 1 2", "1 9 3", "2 1", []int{0, 2}, "1 0 1 / 0 0 1", 12},
		{"0 0 0 / 0 9 9 / 0 1 9 / 9 0 1", "1 1 1", "1 1 1", []int{0, 1, 2}, "1 0 0 / 0 1 0 / 0 0 1", 2}, {"0 0 0 / 0 1 9 / 9 0 1 / 0 9 9", "1 1 1", "1 1 1", []int{0, 1, 2}, "0 1 0 / 0 0 1 / 1 0 0", 2}, // the last client makes the others move
	} {
		checkLeastFlow(t, stockOf(c.field, c.rooms, c.needs), c.set, flowOf(c.flow), c.cost, true)
	}
	row := slices.Repeat([]int{99}, 7)
	s := stock{impl.Field{Open: row, Dist: slices.Repeat([][]int{row}, 7)}, slices.Repeat([]int{20}, 7), slices.Repeat([]int{5}, 7)}
	last, before := []int{0, 0, 0, 0, 0, 0, 5}, []int{0, 0, 0, 0, 0, 5, 0}
	checkLeastFlow(t, s, allBelow(7), [][]int{last, last, last, last, before, before, before}, 3465, true)
}

// The sum of the needs is just one more than that of the rooms of the open sites, or more.
func TestP7NoFlow(t *testing.T) {
	for _, c := range []struct {
		field, rooms, needs string
		set                 []int
	}{
		{pair, "2 3", "2 2", []int{0}}, {pair, "2 3", "2 2", []int{1}}, {pair, "1 2", "2 2", []int{0, 1}}, {pair, "20 3", "2 2", []int{1}}, {pair, "3 20", "2 2", []int{0}}, {pair, "0 0", "0 1", []int{0, 1}}, {pair, "0 0", "1 0", []int{0, 1}}, {pair, "0 0", "5 5", []int{0, 1}}, {pair, "9 9", "5 5", []int{0}}, {pair, "4 5", "5 5", []int{0, 1}},
		{"7 / 3", "4", "5", []int{0}}, {"7 / 3", "0", "1", []int{0}}, {"7 / 0 / 99", "9", "5 5", []int{0}}, {"1 / 1 / 1 / 1 / 1 / 1", "20", "5 5 5 5 1", []int{0}}, {"0 0 / 9 4", "2 2", "5", []int{0, 1}},
	} {
		s := stockOf(c.field, c.rooms, c.needs)
		checkLeastFlow(t, s, c.set, nil, 0, false)
		if u, w, ok := impl.LeastFlowPrices(s.f, s.rooms, s.needs, c.set); ok || len(u) > 0 || len(w) > 0 {
			t.Errorf("LeastFlowPrices of %s for %v = %v, %v, %v", s.text(), c.set, u, w, ok)
		}
		if sites, cost, ok := impl.WholeFlow(s.f, s.rooms, s.needs, c.set); ok || len(sites) > 0 || cost != 0 {
			t.Errorf("WholeFlow of %s for %v = %v, %d, %v", s.text(), c.set, sites, cost, ok)
		}
		for _, flow := range []string{"", "0 0 / 0 0", "2 0 / 0 2", "1 1 / 1 1"} {
			checkIsFlow(t, s, c.set, flowOf(flow), false, 0)
		}
	}
}

func TestP7FlowsByHand(t *testing.T) {
	s, both := stockOf(pair, "2 3", "2 2"), []int{0, 1}
	for flow, cost := range map[string]int{"2 0 / 0 2": 6, "1 1 / 0 2": 10, "0 2 / 1 1": 18, "0 2 / 2 0": 22, "1 1 / 1 1": 14} {
		checkIsFlow(t, s, both, flowOf(flow), true, cost)
	}
	for _, flow := range []string{
		"2 0 / 1 1", "0 2 / 0 2", // one too many at a site
		"1 0 / 0 2", "2 0 / 0 1", "2 1 / 0 2", "2 0 / 0 3", "0 0 / 0 0", "2 0 / 1 2", "0 2 / 2 1", // sums of rows
		"-1 3 / 0 2", "3 -1 / 0 2", "2 0 / -1 3", "2 0 / 3 -1", "2 0 / -1 2", "2 -1 / 0 2",
		"", "2 0", "2 0 / 0 2 / 0 0", "2 0 / 0 2 / 0 2", "2 / 2", "2 / 0 2", "2 0 / 2", "2 0 0 / 0 2 0", "2 0 / 0 2 0", "2 0 0 / 0 2",
		"9223372036854775807 -9223372036854775805 / 0 2", "-9223372036854775808 -9223372036854775806 / 0 2", "9223372036854775807 9223372036854775807 / 0 2", "4611686018427387904 4611686018427387904 / 0 2", // sums that wrap around
	} {
		checkIsFlow(t, s, both, flowOf(flow), false, 0)
	}
	checkIsFlow(t, s, both, [][]int{{2, 0}, nil}, false, 0)
	checkIsFlow(t, s, both, [][]int{nil, nil}, false, 0)
	s = stockOf(pair, "4 4", "2 2")
	for _, c := range []struct {
		set  []int
		flow string
		is   bool
		cost int
	}{
		{[]int{0}, "2 0 / 2 0", true, 14}, {[]int{1}, "0 2 / 0 2", true, 14}, {both, "2 0 / 2 0", true, 14}, {both, "0 2 / 0 2", true, 14},
		{[]int{0}, "2 0 / 0 2", false, 0}, {[]int{0}, "2 0 / 1 1", false, 0}, {[]int{1}, "2 0 / 0 2", false, 0}, {[]int{1}, "0 2 / 2 0", false, 0}, {[]int{1}, "1 1 / 0 2", false, 0}, {[]int{0}, "0 2 / 0 2", false, 0}, // numbers at sites that are not open
	} {
		checkIsFlow(t, s, c.set, flowOf(c.flow), c.is, c.cost)
	}
}

func TestP7FlowsOfNothing(t *testing.T) {
	none := stockOf("5 6", "0 20", "")
	checkIsFlow(t, none, []int{0}, nil, true, 0)
	checkIsFlow(t, none, []int{0, 1}, [][]int{}, true, 0)
	checkIsFlow(t, none, []int{0, 1}, [][]int{{0, 0}}, false, 0)
	checkIsFlow(t, none, []int{0, 1}, [][]int{nil}, false, 0)
	zero := stockOf(pair, "0 0", "0 0")
	checkIsFlow(t, zero, []int{0, 1}, flowOf("0 0 / 0 0"), true, 0)
	checkIsFlow(t, zero, []int{1}, flowOf("0 0 / 0 0"), true, 0)
	for _, flow := range []string{"", "0 0", "0 0 / 0 1", "1 0 / 0 0", "-1 1 / 0 0", "1 -1 / 0 0", "1 -1 / -1 1", "0 0 / 0 0 / 0 0"} {
		checkIsFlow(t, zero, []int{0, 1}, flowOf(flow), false, 0)
	}
	great := stockOf("0 / 99 / 99 / 99 / 99", "20", "5 5 5 5")
	checkIsFlow(t, great, []int{0}, flowOf("5 / 5 / 5 / 5"), true, 1980)
	checkIsFlow(t, great, []int{0}, flowOf("5 / 5 / 5 / 6"), false, 0)
	checkIsFlow(t, great, []int{0}, flowOf("5 / 5 / 5 / 4"), false, 0)
}

// All flows of small Fields, and all lists of rows that are like flows.
func TestP7AllFlowsOfSmallFields(t *testing.T) {
	rows := rowsBelow(-1, 3)
	for place, s := range smallStocks() {
		set := setsModel(2)[1+place%3]
		best, fine := s.triedFlow(set)
		checkLeastFlow(t, s, set, best, s.costOf(best), fine)
		if place%41 != 0 {
			continue
		}
		for _, one := range rows {
			for _, two := range rows {
				flow, cost := [][]int{one, two}, 0
				is := s.isFlow(set, flow)
				if is {
					cost = s.costOf(flow)
				}
				checkIsFlow(t, s, set, flow, is, cost)
			}
		}
	}
}

// rowsBelow gives all rows of two numbers that are at least and at most these.
func rowsBelow(least, most int) [][]int {
	rows := [][]int{}
	for one := least; one <= most; one++ {
		for two := least; two <= most; two++ {
			rows = append(rows, []int{one, two})
		}
	}
	return rows
}

// The way in which the tests tell least flows of greater Fields is true to the word.
func TestP7ModelOfLeastFlows(t *testing.T) {
	n := &numbers{state: 72}
	list := smallStocks()
	for range 300 {
		f := n.fieldFrom(1+n.below(4), n.below(4), 9, 1+n.below(5))
		list = append(list, n.tightFrom(f, 3, n.below(3)), n.stockFrom(f, 3, 3))
	}
	for place, s := range list {
		set := setsModel(len(s.rooms))[1+place%(1<<len(s.rooms)-1)]
		tried, one := s.triedFlow(set)
		told, two := s.leastFlow(set, true)
		if one != two || !sameRows(tried, told) {
			t.Fatalf("the least flow of %s for %v is %v, %v if all are tried, and told as %v, %v", s.text(), set, tried, one, told, two)
		}
		if place%17 != 0 {
			continue
		}
		for _, flow := range flowsModel(s.needs, s.roomsOnly(set)) {
			if is := s.isCheapest(set, flow, true); is != sameRows(flow, tried) {
				t.Fatalf("%v is told as the least flow of %s for %v: %v; it is %v", flow, s.text(), set, is, tried)
			}
			if is := s.isCheapest(set, flow, false); is != (s.costOf(flow) == s.costOf(tried)) {
				t.Fatalf("%v is told as a flow of %s for %v with the least cost: %v", flow, s.text(), set, is)
			}
		}
	}
}

func TestP7LeastFlowsOfManyFields(t *testing.T) {
	n := &numbers{state: 73}
	for _, s := range manyStocks(2) {
		for _, set := range s.setsFor(n) {
			flow, fine := s.leastFlow(set, true)
			checkLeastFlow(t, s, set, flow, s.costOf(flow), fine)
			if fine {
				checkIsFlow(t, s, set, flow, true, s.costOf(flow))
			}
		}
	}
}

// changedFlows gives a flow with changes of one number or two.
func changedFlows(flow [][]int, n *numbers) [][][]int {
	list := [][][]int{}
	for range 12 {
		changed := copyRows(flow)
		one, two := changed[n.below(len(flow))], changed[n.below(len(flow))]
		at := n.below(len(one))
		one[at]++
		switch n.below(4) {
		case 0: // the same row has the same sum
			one[n.below(len(one))]--
		case 1: // the same site has the same sum
			two[at]--
		case 2:
			one[at] -= 2
		}
		list = append(list, changed)
	}
	return list
}

func TestP7FlowsThatAreNearlyFlows(t *testing.T) {
	n := &numbers{state: 74}
	for _, s := range manyStocks(1) {
		for _, set := range s.setsFor(n) {
			flow, ok := impl.LeastFlow(s.f, s.rooms, s.needs, set)
			if !ok || len(flow) == 0 {
				continue
			}
			for _, changed := range changedFlows(flow, n) {
				is, cost := s.isFlow(set, changed), 0
				if is {
					cost = s.costOf(changed)
				}
				checkIsFlow(t, s, set, changed, is, cost)
			}
		}
	}
}

// The rest of this file tells guarantees of the program's own results alone.

func TestP7LeastFlowsAreFlows(t *testing.T) {
	n := &numbers{state: 75}
	for _, s := range manyStocks(3) {
		for _, set := range s.setsFor(n) {
			flow, one := impl.LeastFlow(s.f, s.rooms, s.needs, set)
			cost, two := impl.LeastFlowCost(s.f, s.rooms, s.needs, set)
			if fine := s.hasFlow(set); one != fine || two != fine {
				t.Fatalf("LeastFlow of %s for %v is %v, and LeastFlowCost is %v", s.text(), set, one, two)
			}
			is, three := impl.IsFlow(s.f, s.rooms, s.needs, set, flow)
			sum, four := impl.FlowCost(s.f, s.rooms, s.needs, set, flow)
			if one && (!three || !four || !is || sum != cost) || !one && len(s.needs) > 0 && is {
				t.Fatalf("LeastFlow of %s for %v = %v; it is a flow: %v, and its cost is %d; LeastFlowCost = %d", s.text(), set, flow, is, sum, cost)
			}
		}
	}
}

// With rooms for all, each client is served as in chapter 2.
func TestP7LeastFlowsWithRoomForAll(t *testing.T) {
	for _, f := range manyFields(1) {
		s := stock{f, slices.Repeat([]int{len(f.Dist)}, len(f.Open)), slices.Repeat([]int{1}, len(f.Dist))}
		for _, set := range setsModel(len(f.Open))[1:] {
			service, _ := impl.ServiceOf(f, set)
			cost, ok := impl.LeastFlowCost(f, s.rooms, s.needs, set)
			checkFlowCall(t, "LeastFlowCost", s, set, cost, ok, service, true)
		}
	}
}

func TestP7NamedLimits(t *testing.T) {
	got := []int{impl.MaxRoom, impl.MaxNeed, impl.MaxRoomPrice}
	if want := []int{20, 5, 999}; !slices.Equal(got, want) {
		t.Errorf("the limits are %v; want %v", got, want)
	}
}
