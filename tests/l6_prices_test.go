package tests

import (
	"slices"
	"testing"

	"loop.example/g01110/impl"
)

func checkFairPrices(t *testing.T, s impl.System, prices []int, scale int, want bool) {
	t.Helper()
	if got, ok := impl.ArePrices(s, prices, scale); !ok || got != want {
		t.Errorf("ArePrices of %s for %v and %d = %v, %v; want %v", systemText(s), prices, scale, got, ok, want)
	}
}

func checkRaise(t *testing.T, s impl.System, prices, paid []int) {
	t.Helper()
	gotPrices, gotPaid, ok := impl.RaisePrices(s)
	if !ok || !slices.Equal(gotPrices, prices) || !slices.Equal(gotPaid, paid) {
		t.Errorf("RaisePrices of %s = %v, %v, %v; want %v, %v", systemText(s), gotPrices, gotPaid, ok, prices, paid)
	}
}

func TestP6FairPricesByHand(t *testing.T) {
	million := slices.Repeat([]int{1000000}, 8)
	for _, c := range []struct {
		system string
		prices []int
		scale  int
		fair   bool
	}{
		{chain, []int{0, 0, 0}, 1, true}, {chain, []int{2, 0, 1}, 1, true}, {chain, []int{2, 1, 1}, 1, false}, {chain, []int{0, 0, 2}, 1, false}, {chain, []int{1, 1, 1}, 1, true}, {chain, []int{0, 2, 1}, 1, true}, {chain, []int{0, 3, 0}, 1, false},
		{chain, []int{0, 4, 2}, 2, true}, {chain, []int{0, 4, 3}, 2, false}, {chain, []int{0, 5, 1}, 2, false}, {chain, []int{840, 840, 840}, 840, true}, {chain, []int{840, 841, 840}, 840, false}, {chain, []int{840, 840, 841}, 840, false}, {chain, []int{839, 841, 840}, 840, true}, {chain, []int{840, 840, 840}, 839, false},
		{"4 / 2 0 3 / 5 1 2", []int{1, 2, 3, 1}, 1, true}, {"4 / 2 0 3 / 5 1 2", []int{1, 3, 3, 1}, 1, false}, {"4 / 2 0 3 / 5 1 2", []int{1, 2, 3, 2}, 1, false}, // the second set alone, the first one alone
		{"0", nil, 1, true}, {"0 / 5", nil, 1, true}, {"0", nil, 1000000, true}, {"1", []int{1000000}, 1, true}, {"8", million, 1, true}, // no elements, no sets
		{"1 / 99", []int{1000000}, 1, true}, {"3 / 1 / 1 1", []int{1000000, 1, 1000000}, 1, true}, {"3 / 1 / 1 1", []int{0, 2, 0}, 1, false}, // elements that are in no set
		{"1 / 1 0", []int{0}, 1, true}, {"1 / 1 0", []int{1}, 1, true}, {"1 / 1 0", []int{2}, 1, false}, {"1 / 1 0", []int{1000000}, 1, false}, {"1 / 1 0", []int{1000000}, 999999, false}, {"1 / 1 0", []int{1000000}, 1000000, true}, {"1 / 1 0", []int{999999}, 999999, true}, {"1 / 99 0", []int{1000000}, 10101, false}, {"1 / 99 0", []int{1000000}, 10102, true},
		{"8 / 8 0 1 2 3 4 5 6 7", million, 1000000, true}, {"8 / 7 0 1 2 3 4 5 6 7", million, 1000000, false}, {"8 / 8 0 1 2 3 4 5 6 7", million, 999999, false}, {"8 / 99 0 1 2 3 4 5 6 7", million, 80808, false}, {"8 / 99 0 1 2 3 4 5 6 7", million, 80809, true},
	} {
		checkFairPrices(t, systemOf(c.system), c.prices, c.scale, c.fair)
	}
}

// The prices of this test were worked out by hand.
func TestP6RaisedPricesByHand(t *testing.T) {
	for _, c := range []struct {
		system       string
		prices, paid []int
	}{
		{chain, []int{2, 0, 1}, []int{0, 2}}, {"0", nil, nil}, {"0 / 5", nil, nil}, {"0 / 1 / 99", nil, nil}, // a set without elements costs more than their sum
		{"2", []int{0, 0}, nil}, {"8", []int{0, 0, 0, 0, 0, 0, 0, 0}, nil}, {"3 / 1", []int{0, 0, 0}, nil}, {"2 / 5 0", []int{5, 0}, []int{0}}, {"2 / 5 1", []int{0, 5}, []int{0}}, {"3 / 5 0 / 7 2", []int{5, 0, 7}, []int{0, 1}}, // elements that are in no set
		{"1 / 1 0", []int{1}, []int{0}}, {"1 / 99 0", []int{99}, []int{0}}, {"1 / 3 0 / 2 0", []int{2}, []int{1}}, {"1 / 2 0 / 3 0", []int{2}, []int{0}}, {"1 / 2 0 / 2 0", []int{2}, []int{0, 1}}, {"1 / 3 0 / 2 0 / 1 0", []int{1}, []int{2}},
		{"2 / 3 0 / 2 0 1", []int{2, 0}, []int{1}}, {"2 / 1 0 / 3 0 1 / 5 1", []int{1, 2}, []int{0, 1}}, {"2 / 3 1 / 2 0 1", []int{2, 0}, []int{1}}, {"2 / 1 1 / 4 0 1", []int{4, 0}, []int{1}}, {"2 / 5 0 1 / 2 0", []int{2, 3}, []int{0, 1}},
		{"2 / 4 / 99 0 1", []int{99, 0}, []int{1}}, {"3 / 61 0 1 2 / 20 0 / 30 1 / 60 2", []int{20, 30, 11}, []int{0, 1, 2}}, {"3 / 50 0 1 2 / 20 0 / 30 1 / 60 2", []int{20, 30, 0}, []int{0, 1, 2}}, {"3 / 99 0 1 2 / 20 0 / 30 1 / 49 2", []int{20, 30, 49}, []int{0, 1, 2, 3}}, {"3 / 99 0 1 2 / 20 0 / 30 1 / 48 2", []int{20, 30, 48}, []int{1, 2, 3}},
		{"3 / 1 0 1 / 1 1 2 / 1 0 2", []int{1, 0, 0}, []int{0, 2}}, {"4 / 3 0 1 / 5 1 2 / 4 2 3", []int{3, 0, 4, 0}, []int{0, 2}}, {"8 / 1 0 1 2 3 4 5 6 7", []int{1, 0, 0, 0, 0, 0, 0, 0}, []int{0}}, {"8 / 2 7 / 3 6 7", []int{0, 0, 0, 0, 0, 0, 3, 0}, []int{1}},
	} {
		checkRaise(t, systemOf(c.system), c.prices, c.paid)
	}
}

// pricesOfSystem gives prices of many kinds, and scales for which some of them
// are just fair, or just not.
func pricesOfSystem(s impl.System, n *numbers) ([][]int, []int) {
	list := [][]int{make([]int, s.Size), slices.Repeat([]int{1}, s.Size), slices.Repeat([]int{1000000}, s.Size)}
	for _, most := range []int{1, 3, 9, 99, 999, 1000000} {
		prices := []int{}
		for range s.Size {
			prices = append(prices, n.below(most+1))
		}
		list = append(list, prices)
	}
	raised, _ := raiseModel(s)
	list = append(list, raised)
	if _, prices, fine := greedyCoverModel(s); fine {
		list = append(list, prices)
	}
	for element := range raised {
		further := slices.Clone(raised)
		further[element]++
		list = append(list, further)
	}
	return list, []int{1, 2, 3, 840, 1925, 999999, 1000000}
}

func TestP6PricesOfManySystems(t *testing.T) {
	n := &numbers{state: 63}
	for _, s := range slices.Concat(manySystems(2), allSmallSystems()) {
		prices, paid := raiseModel(s)
		checkRaise(t, s, prices, paid)
		lists, scales := pricesOfSystem(s, n)
		for _, prices := range lists {
			for _, scale := range scales {
				checkFairPrices(t, s, prices, scale, arePricesModel(s, prices, scale))
			}
		}
	}
}

// The rest of this file tells guarantees of the program's own results alone.

func TestP6FairPricesBoundCovers(t *testing.T) {
	n := &numbers{state: 64}
	for _, s := range slices.Concat(manySystems(2), allSmallSystems()) {
		least, one := impl.LeastCover(s)
		cost, _ := impl.CostOf(s, least)
		lists, scales := pricesOfSystem(s, n)
		for _, prices := range lists {
			for _, scale := range scales {
				fair, two := impl.ArePrices(s, prices, scale)
				if !two || one && fair && sumModel(prices) > scale*cost {
					t.Fatalf("ArePrices of %s for %v and %d = %v, %v; LeastCover costs %d", systemText(s), prices, scale, fair, two, cost)
				}
			}
		}
	}
}

// mostInCommon gives the greatest number of sets that have a common element.
func mostInCommon(s impl.System) int {
	most := 0
	for _, sets := range turnModel(s).Sets {
		most = max(most, len(sets))
	}
	return most
}

func TestP6RaisedPricesAreFairAndPayForACover(t *testing.T) {
	for _, s := range slices.Concat(manySystems(4), allSmallSystems()) {
		prices, paid, one := impl.RaisePrices(s)
		fair, two := impl.ArePrices(s, prices, 1)
		isCover, three := impl.IsCover(s, paid)
		cost, four := impl.CostOf(s, paid)
		if !one || !two || !three || !four || !fair || cost > sumModel(prices)*mostInCommon(s) {
			t.Fatalf("RaisePrices of %s = %v, %v, %v; the prices are fair: %v, and the choice costs %d", systemText(s), prices, paid, one, fair, cost)
		}
		if least, ok := impl.LeastCover(s); ok != isCover {
			t.Fatalf("RaisePrices of %s = %v, %v; the choice is a cover: %v; LeastCover is %v, %v", systemText(s), prices, paid, isCover, least, ok)
		}
	}
}

// The GreedyPrices are fair for a scale that the harmonic share makes greater.
func TestP6GreedyPricesAreFairForTheHarmonicShare(t *testing.T) {
	for _, s := range slices.Concat(manySystems(2), allSmallSystems()) {
		prices, ok := impl.GreedyPrices(s)
		share, _ := impl.HarmonicOf(widestOf(s))
		if fair, two := impl.ArePrices(s, prices, max(1, share)); ok && (!fair || !two) {
			t.Fatalf("ArePrices of %s for %v and %d = %v, %v", systemText(s), prices, share, fair, two)
		}
	}
}
