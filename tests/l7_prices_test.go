package tests

import (
	"slices"
	"testing"

	"loop.example/g01110/impl"
)

func checkArePrices(t *testing.T, f impl.Field, set, u, w []int, want bool) {
	t.Helper()
	if got, ok := impl.AreFlowPrices(f, set, u, w); !ok || got != want {
		t.Errorf("AreFlowPrices of %q for %v, %v and %v = %v, %v; want %v", textOf(f), set, u, w, got, ok, want)
	}
}

// checkYield takes a yield of 0 for lists that are no flow prices.
func checkYield(t *testing.T, s stock, set, u, w []int, yield int, fine bool) {
	t.Helper()
	got, ok := impl.FlowYield(s.f, s.rooms, s.needs, set, u, w)
	checkFlowCall(t, "FlowYield "+listOf(u)+listOf(w), s, set, got, ok, yield, fine)
}

func checkLeastPrices(t *testing.T, s stock, set, u, w []int, fine bool) {
	t.Helper()
	gotU, gotW, ok := impl.LeastFlowPrices(s.f, s.rooms, s.needs, set)
	if ok != fine || !slices.Equal(gotU, u) || !slices.Equal(gotW, w) {
		t.Errorf("LeastFlowPrices of %s for %v = %v, %v, %v; want %v, %v, %v", s.text(), set, gotU, gotW, ok, u, w, fine)
	}
}

func checkProof(t *testing.T, s stock, set []int, flow [][]int, u, w []int, want, fine bool) {
	t.Helper()
	got, ok := impl.IsFlowProof(s.f, s.rooms, s.needs, set, flow, u, w)
	if ok != fine || got != want {
		t.Errorf("IsFlowProof of %s for %v, %v, %v and %v = %v, %v; want %v, %v", s.text(), set, flow, u, w, got, ok, want, fine)
	}
}

// pricesCase has lists that may be flow prices, with their yield for the rooms 2
// and 3 and the needs 2 and 1.
type pricesCase struct {
	set, u, w []int
	are       bool
	yield     int
}

func pricesByHand() []pricesCase {
	zero, left, right, both := []int{0, 0}, []int{0}, []int{1}, []int{0, 1}
	return []pricesCase{
		{both, []int{1, 2}, zero, true, 4}, {both, zero, zero, true, 0}, {both, []int{2, 2}, zero, false, 0}, {both, []int{1, 3}, zero, false, 0}, // just the least length, and one more
		{left, []int{1, 6}, zero, true, 8}, {left, []int{2, 6}, zero, false, 0}, {left, []int{1, 7}, zero, false, 0}, {right, []int{5, 2}, zero, true, 12}, {right, []int{6, 2}, zero, false, 0}, {right, []int{5, 3}, zero, false, 0}, // sites that are not open do not bound u
		{both, []int{5, 2}, []int{4, 0}, true, 4}, {both, []int{6, 2}, []int{4, 0}, false, 0}, {both, []int{5, 2}, []int{3, 0}, false, 0}, {both, []int{5, 2}, []int{5, 0}, true, 2}, {both, []int{6, 2}, []int{5, 0}, false, 0}, {both, []int{1, 6}, []int{0, 4}, true, -4}, {both, []int{1, 7}, []int{0, 4}, false, 0}, {both, []int{1, 6}, []int{0, 3}, false, 0},
		{left, []int{3, 8}, []int{2, 0}, true, 10}, {left, []int{4, 8}, []int{2, 0}, false, 0}, {right, []int{6, 3}, []int{0, 1}, true, 12}, {left, zero, []int{0, 1}, false, 0}, {right, zero, []int{1, 0}, false, 0}, {right, zero, []int{999, 0}, false, 0}, {left, zero, []int{5, 5}, false, 0}, // w at sites that are not open
		{both, []int{-999, -999}, zero, true, -2997}, {both, []int{-1, -2}, zero, true, -4}, {both, []int{-1000, 0}, zero, false, 0}, {both, []int{0, -1000}, zero, false, 0}, {both, []int{-999, 2}, zero, true, -1996}, {both, zero, []int{999, 999}, true, -4995}, {both, []int{-999, -999}, []int{999, 999}, true, -7992},
		{both, []int{999, 999}, []int{999, 999}, true, -1998}, {both, []int{1000, 999}, []int{999, 999}, false, 0}, {both, []int{999, 1000}, []int{999, 999}, false, 0}, {both, []int{999, 999}, []int{998, 999}, true, -1996}, {both, []int{999, 999}, []int{998, 997}, true, -1990}, {both, []int{999, 999}, []int{998, 996}, false, 0}, {both, []int{999, 999}, []int{997, 999}, false, 0}, {left, []int{999, 999}, []int{999, 0}, true, 999}, {right, []int{999, 999}, []int{0, 999}, true, 0},
		{both, zero, []int{1000, 0}, false, 0}, {both, zero, []int{0, 1000}, false, 0}, {both, zero, []int{-1, 0}, false, 0}, {both, zero, []int{0, -1}, false, 0}, {left, zero, []int{0, -1}, false, 0}, {both, []int{-5, -5}, []int{-1, -1}, false, 0},
		{both, []int{0}, zero, false, 0}, {both, []int{0, 0, 0}, zero, false, 0}, {both, nil, zero, false, 0}, {both, zero, []int{0}, false, 0}, {both, zero, []int{0, 0, 0}, false, 0}, {both, zero, nil, false, 0}, {both, nil, nil, false, 0}, {left, zero, []int{0}, false, 0},
	}
}

func TestP7FlowPricesByHand(t *testing.T) {
	s := stockOf(pair, "2 3", "2 1")
	for _, c := range pricesByHand() {
		checkArePrices(t, s.f, c.set, c.u, c.w, c.are)
		checkYield(t, s, c.set, c.u, c.w, c.yield, c.are)
	}
	none := stockOf("5 6", "20 3", "")
	checkArePrices(t, none.f, []int{0, 1}, nil, []int{0, 0}, true)
	checkYield(t, none, []int{0, 1}, nil, []int{0, 0}, 0, true)
	checkYield(t, none, []int{0, 1}, []int{}, []int{999, 1}, -19983, true)
	checkYield(t, none, []int{1}, []int{}, []int{0, 1}, -3, true)
	checkYield(t, none, []int{1}, []int{0}, []int{0, 0}, 0, false)
}

// Prices have a yield even if there is no flow, and rooms and needs of 0 do not count.
func TestP7YieldsByHand(t *testing.T) {
	both := []int{0, 1}
	for _, c := range []struct {
		rooms, needs string
		u, w         []int
		yield        int
	}{
		{"0 0", "2 2", []int{999, 999}, []int{999, 999}, 3996}, {"0 0", "5 5", []int{1, 2}, []int{0, 0}, 15}, {"1 2", "2 2", []int{5, 2}, []int{4, 0}, 10}, {"0 0", "0 0", []int{999, 999}, []int{999, 999}, 0}, {"20 20", "0 0", []int{999, 999}, []int{999, 999}, -39960},
		{"0 20", "0 5", []int{5, 2}, []int{999, 0}, 10}, {"20 0", "5 0", []int{1, 6}, []int{0, 999}, 5}, {"20 20", "5 5", []int{-999, -999}, []int{999, 999}, -49950}, {"1 3", "2 2", []int{5, 2}, []int{4, 0}, 10}, {"1 3", "2 2", []int{5, 2}, []int{5, 0}, 9},
	} {
		checkYield(t, stockOf(pair, c.rooms, c.needs), both, c.u, c.w, c.yield, true)
	}
}

// The prices of this test were worked out by hand.
func TestP7LeastFlowPricesByHand(t *testing.T) {
	left, right, both, three := []int{0}, []int{1}, []int{0, 1}, []int{0, 1, 2}
	for _, c := range []struct {
		field, rooms, needs string
		set, u, w           []int
	}{
		{pair, "2 3", "2 2", both, []int{1, 2}, []int{0, 0}}, {pair, "2 2", "2 2", both, []int{1, 2}, []int{0, 0}}, {pair, "9 9", "2 2", both, []int{1, 2}, []int{0, 0}}, // full sites without a price, and rooms to spare
		{pair, "1 3", "2 2", both, []int{5, 2}, []int{4, 0}}, {pair, "3 1", "2 2", both, []int{1, 6}, []int{0, 4}}, {pair, "4 6", "5 5", both, []int{5, 2}, []int{4, 0}}, // full sites
		{pair, "0 4", "2 2", both, []int{5, 2}, []int{4, 0}}, {pair, "4 0", "2 2", both, []int{1, 6}, []int{0, 4}}, {pair, "0 2", "0 2", both, []int{1, 2}, []int{0, 0}}, {pair, "0 2", "2 0", both, []int{5, 2}, []int{4, 0}}, {pair, "2 0", "0 2", both, []int{1, 6}, []int{0, 4}}, // rooms of 0
		{pair, "4 9", "2 2", left, []int{1, 6}, []int{0, 0}}, {pair, "9 4", "2 2", right, []int{5, 2}, []int{0, 0}}, {pair, "0 4", "2 2", right, []int{5, 2}, []int{0, 0}}, // sites that are not open have no price
		{pair, "0 0", "0 0", both, []int{1, 2}, []int{0, 0}}, {pair, "0 0", "0 0", right, []int{5, 2}, []int{0, 0}}, {pair, "20 20", "0 0", both, []int{1, 2}, []int{0, 0}}, // nothing to serve
		{"5", "0", "", left, nil, []int{0}}, {"5 6 7", "0 20 3", "", []int{0, 2}, nil, []int{0, 0, 0}}, {"7 / 0 / 99", "10", "5 5", left, []int{0, 99}, []int{0}}, {"7 / 3", "5", "5", left, []int{3}, []int{0}},
		{"0 0 / 3 3 / 3 3", "2 2", "2 2", both, []int{3, 3}, []int{0, 0}}, {"0 0 / 1 2 / 1 2", "2 2", "2 2", both, []int{2, 2}, []int{1, 0}}, {"0 0 / 1 2 / 1 9", "2 2", "2 2", both, []int{2, 2}, []int{1, 0}}, {"0 0 / 1 2 / 1 9", "1 3", "2 2", both, []int{2, 9}, []int{8, 0}}, {"0 0 / 0 99", "0 1", "1", both, []int{99}, []int{99, 0}},
		{"0 0 0 / 1 2 9 / 9 1 2", "1 1 3", "2 1", three, []int{3, 2}, []int{2, 1, 0}}, {"0 0 0 / 1 2 9 / 9 1 2", "2 1 3", "2 1", three, []int{1, 1}, []int{0, 0, 0}}, {"0 0 0 / 1 2 9 / 9 1 2", "1 9 3", "2 1", []int{0, 2}, []int{9, 2}, []int{8, 0, 0}}, // savings that move units along several sites
		{"0 0 0 / 0 9 9 / 0 1 9 / 9 0 1", "1 1 1", "1 1 1", three, []int{2, 2, 1}, []int{2, 1, 0}}, {"0 0 0 / 0 9 9 / 0 1 9 / 9 0 1", "1 1 1", "1 1 0", three, []int{1, 1, 0}, []int{1, 0, 0}},
	} {
		checkLeastPrices(t, stockOf(c.field, c.rooms, c.needs), c.set, c.u, c.w, true)
	}
	// All clients but the first one are at a site that is full.
	far := stock{impl.Field{Open: make([]int, 7)}, []int{0, 1, 1, 1, 1, 1, 1}, slices.Repeat([]int{1}, 6)}
	for client := range 6 {
		row := slices.Repeat([]int{99}, 7)
		row[client] = 0
		far.f.Dist = append(far.f.Dist, row)
	}
	checkLeastPrices(t, far, allBelow(7), []int{99, 0, 0, 0, 0, 0}, []int{99, 0, 0, 0, 0, 0, 0}, true)
}

func TestP7FlowProofsByHand(t *testing.T) {
	s, both := stockOf(pair, "1 3", "2 2"), []int{0, 1}
	for _, c := range []struct {
		flow   string
		u, w   []int
		proves bool
		fine   bool
	}{
		{"1 1 / 0 2", []int{5, 2}, []int{4, 0}, true, true}, {"1 1 / 0 2", []int{5, 1}, []int{4, 0}, false, true}, {"1 1 / 0 2", []int{4, 2}, []int{4, 0}, false, true}, {"1 1 / 0 2", []int{5, 2}, []int{5, 0}, false, true}, // just the cost, and prices that miss it, by one also
		{"1 1 / 0 2", []int{4, 2}, []int{3, 0}, false, true}, {"1 1 / 0 2", []int{1, 2}, []int{0, 0}, false, true}, {"1 1 / 0 2", []int{0, 0}, []int{0, 0}, false, true}, {"0 2 / 1 1", []int{5, 2}, []int{4, 0}, false, true}, // a flow that costs more
		{"1 1 / 0 2", []int{5, 2}, []int{3, 0}, false, false}, {"1 1 / 0 2", []int{6, 2}, []int{4, 0}, false, false}, {"1 1 / 0 2", []int{5}, []int{4, 0}, false, false}, {"1 1 / 0 2", []int{5, 2}, []int{4}, false, false}, {"1 1 / 0 2", []int{5, 2}, []int{4, -1}, false, false}, {"1 1 / 0 2", nil, nil, false, false}, // no prices
		{"2 0 / 0 2", []int{5, 2}, []int{4, 0}, false, false}, {"1 0 / 0 2", []int{5, 2}, []int{4, 0}, false, false}, {"", []int{5, 2}, []int{4, 0}, false, false}, {"1 1", []int{5, 2}, []int{4, 0}, false, false}, {"1 1 / -1 3", []int{5, 2}, []int{4, 0}, false, false}, {"0 2 / 0 2", []int{5, 2}, []int{4, 0}, false, false}, {"", nil, nil, false, false}, // no flow
	} {
		checkProof(t, s, both, flowOf(c.flow), c.u, c.w, c.proves, c.fine)
	}
	checkProof(t, stockOf("5 6", "0 3", ""), both, nil, nil, []int{0, 0}, true, true)
	checkProof(t, stockOf("5 6", "0 3", ""), both, nil, nil, []int{999, 0}, true, true) // a room of 0 does not count
	checkProof(t, stockOf("5 6", "0 3", ""), both, nil, nil, []int{0, 1}, false, true)
	checkProof(t, stockOf(pair, "0 0", "0 0"), both, flowOf("0 0 / 0 0"), []int{-999, 999}, []int{999, 999}, true, true)
	checkProof(t, stockOf(pair, "9 4", "2 2"), []int{1}, flowOf("0 2 / 0 2"), []int{5, 2}, []int{0, 0}, true, true)
	checkProof(t, stockOf(pair, "9 4", "2 2"), []int{1}, flowOf("0 2 / 0 2"), []int{5, 2}, []int{1, 0}, false, false)
	checkProof(t, stockOf(pair, "9 4", "2 2"), []int{1}, flowOf("2 0 / 0 2"), []int{5, 2}, []int{0, 0}, false, false)
	checkProof(t, stockOf(pair, "9 4", "2 2"), []int{1}, flowOf("0 2 / 0 2"), []int{6, 3}, []int{0, 1}, true, true)
	checkProof(t, stockOf(pair, "9 5", "2 2"), []int{1}, flowOf("0 2 / 0 2"), []int{6, 3}, []int{0, 1}, false, true)
	checkProof(t, stockOf(pair, "1 2", "2 2"), both, flowOf("1 1 / 0 2"), []int{5, 2}, []int{4, 0}, false, false) // there is no flow
}

// Of all prices that prove the least cost, the least ones are sought number by number.
func TestP7LeastFlowPricesAreTheLeastOnes(t *testing.T) {
	n := &numbers{state: 76}
	for place, s := range smallStocks() {
		if place%3 != 0 {
			continue
		}
		checkLeastOfAll(t, s, setsModel(2)[1+place/3%3], 4)
	}
	for range 150 {
		s := n.tightFrom(n.fieldFrom(3, 1+n.below(3), 5, 2), 3, n.below(3))
		checkLeastOfAll(t, s, setsModel(3)[1+n.below(7)], 5)
	}
}

// checkLeastOfAll tries all w of at most a number.
func checkLeastOfAll(t *testing.T, s stock, set []int, most int) {
	t.Helper()
	cost, fine := s.leastCost(set)
	least := slices.Repeat([]int{most + 1}, len(s.rooms))
	count := 1
	for range s.rooms {
		count *= most + 1
	}
	for code := range count {
		w := []int{}
		for range s.rooms {
			w = append(w, code%(most+1))
			code /= most + 1
		}
		if u := s.highestU(set, w); fine && arePricesFor(s.f, set, u, w) && s.yieldOf(u, w) == cost {
			for site := range least {
				least[site] = min(least[site], w[site])
			}
		}
	}
	if !fine {
		checkLeastPrices(t, s, set, nil, nil, false)
		return
	}
	checkLeastPrices(t, s, set, s.highestU(set, least), least, true)
}

// manyPrices gives prices near to those that prove the least cost, and others.
func (s stock) manyPrices(set []int, n *numbers) [][2][]int {
	list := [][2][]int{}
	_, least, ok := s.leastPrices(set)
	for place := range 8 {
		w := make([]int, len(s.rooms))
		if ok && place < 5 {
			copy(w, least)
		}
		for range place % 5 {
			w[set[n.below(len(set))]] += n.below(4) - 1
		}
		u := s.highestU(set, w)
		for range n.below(3) {
			if len(u) > 0 {
				u[n.below(len(u))] += n.below(4) - 2
			}
		}
		if n.below(6) == 0 {
			w[n.below(len(w))]++
		}
		list = append(list, [2][]int{u, w})
	}
	return list
}

func TestP7PricesOfManyFields(t *testing.T) {
	n := &numbers{state: 77}
	for _, s := range manyStocks(2) {
		for _, set := range s.setsFor(n) {
			u, w, fine := s.leastPrices(set)
			checkLeastPrices(t, s, set, u, w, fine)
			flow, _ := s.leastFlow(set, false)
			for _, p := range s.manyPrices(set, n) {
				are, yield := arePricesFor(s.f, set, p[0], p[1]), 0
				if are {
					yield = s.yieldOf(p[0], p[1])
				}
				checkArePrices(t, s.f, set, p[0], p[1], are)
				checkYield(t, s, set, p[0], p[1], yield, are)
				checkProof(t, s, set, flow, p[0], p[1], are && fine && yield == s.costOf(flow), are && fine)
			}
		}
	}
}

// The rest of this file tells guarantees of the program's own results alone.

func TestP7LeastFlowsAreProvedByLeastPrices(t *testing.T) {
	n := &numbers{state: 78}
	for _, s := range manyStocks(4) {
		for _, set := range s.setsFor(n) {
			flow, one := impl.LeastFlow(s.f, s.rooms, s.needs, set)
			u, w, two := impl.LeastFlowPrices(s.f, s.rooms, s.needs, set)
			if one != two {
				t.Fatalf("LeastFlow of %s for %v is %v, LeastFlowPrices %v", s.text(), set, one, two)
			}
			if one {
				checkProof(t, s, set, flow, u, w, true, true)
				checkArePrices(t, s.f, set, u, w, true)
			}
		}
	}
}

func TestP7NoFlowCostsLessThanAYield(t *testing.T) {
	n := &numbers{state: 79}
	for _, s := range manyStocks(2) {
		for _, set := range s.setsFor(n) {
			cost, one := impl.LeastFlowCost(s.f, s.rooms, s.needs, set)
			for _, p := range s.manyPrices(set, n) {
				yield, two := impl.FlowYield(s.f, s.rooms, s.needs, set, p[0], p[1])
				if one && two && yield > cost {
					t.Fatalf("FlowYield of %s for %v, %v and %v = %d; LeastFlowCost = %d", s.text(), set, p[0], p[1], yield, cost)
				}
			}
		}
	}
}

// One more room saves at most the price of its site, and just this if it is the least price.
func TestP7OneMoreRoomSavesItsPrice(t *testing.T) {
	n := &numbers{state: 80}
	for _, s := range manyStocks(2) {
		for _, set := range s.setsFor(n) {
			cost, one := impl.LeastFlowCost(s.f, s.rooms, s.needs, set)
			_, w, two := impl.LeastFlowPrices(s.f, s.rooms, s.needs, set)
			for site, room := range s.rooms {
				if !one || !two || room == impl.MaxRoom {
					continue
				}
				more := slices.Clone(s.rooms)
				more[site]++
				if less, ok := impl.LeastFlowCost(s.f, more, s.needs, set); !ok || cost-less != w[site] {
					t.Fatalf("LeastFlowCost of %s for %v is %d, and %d, %v with one more room at %d; the prices are %v", s.text(), set, cost, less, ok, site, w)
				}
			}
		}
	}
}
