package tests

import (
	"slices"
	"testing"

	"loop.example/g01110/impl"
)

// checkOfSystem compares a list that a function returns; it is empty beside a failure.
func checkOfSystem(t *testing.T, name string, s impl.System, got []int, ok bool, want []int, fine bool) {
	t.Helper()
	if ok != fine || !slices.Equal(got, want) {
		t.Errorf("%s of %s = %v, %v; want %v, %v", name, systemText(s), got, ok, want, fine)
	}
}

func checkChoice(t *testing.T, s impl.System, choice, covered []int, isCover bool, cost int) {
	t.Helper()
	name := " for " + listOf(choice)
	list, ok := impl.CoveredBy(s, choice)
	checkOfSystem(t, "CoveredBy"+name, s, list, ok, covered, true)
	if got, ok := impl.IsCover(s, choice); !ok || got != isCover {
		t.Errorf("IsCover%s of %s = %v, %v; want %v", name, systemText(s), got, ok, isCover)
	}
	if got, ok := impl.CostOf(s, choice); !ok || got != cost {
		t.Errorf("CostOf%s of %s = %d, %v; want %d", name, systemText(s), got, ok, cost)
	}
}

func checkLeast(t *testing.T, s impl.System, want []int, fine bool) {
	t.Helper()
	got, ok := impl.LeastCover(s)
	checkOfSystem(t, "LeastCover", s, got, ok, want, fine)
}

func checkGreedy(t *testing.T, s impl.System, cover, prices []int, fine bool) {
	t.Helper()
	got, ok := impl.GreedyCover(s)
	checkOfSystem(t, "GreedyCover", s, got, ok, cover, fine)
	got, ok = impl.GreedyPrices(s)
	checkOfSystem(t, "GreedyPrices", s, got, ok, prices, fine)
}

// chain is the System that most examples of the tests begin with.
const chain = "3 / 2 0 1 / 3 1 2 / 1 2"

func TestP6ChoicesByHand(t *testing.T) {
	for _, c := range []struct {
		system          string
		choice, covered []int
		isCover         bool
		cost            int
	}{
		{chain, nil, nil, false, 0}, {chain, []int{}, nil, false, 0}, {chain, []int{0}, []int{0, 1}, false, 2}, {chain, []int{1}, []int{1, 2}, false, 3}, {chain, []int{2}, []int{2}, false, 1},
		{chain, []int{0, 1}, []int{0, 1, 2}, true, 5}, {chain, []int{0, 2}, []int{0, 1, 2}, true, 3}, {chain, []int{1, 2}, []int{1, 2}, false, 4}, {chain, []int{0, 1, 2}, []int{0, 1, 2}, true, 6},
		{"0", nil, nil, true, 0}, {"0 / 7", nil, nil, true, 0}, {"0 / 7", []int{0}, nil, true, 7}, {"0 / 7 / 9", []int{0, 1}, nil, true, 16}, // no elements: the empty choice is a cover
		{"1", nil, nil, false, 0}, {"8", nil, nil, false, 0}, // no sets
		{"2 / 99 / 1 0 1", []int{0}, nil, false, 99}, {"2 / 99 / 1 0 1", []int{1}, []int{0, 1}, true, 1}, {"2 / 99 / 1 0 1", []int{0, 1}, []int{0, 1}, true, 100},
		{"2 / 3 1 / 4 0", []int{0, 1}, []int{0, 1}, true, 7}, {"2 / 3 1 / 4 1 / 5 1", []int{0, 1, 2}, []int{1}, false, 12}, // in the order of the elements, and each once
		{"8 / 1 7 / 2 0", []int{0, 1}, []int{0, 7}, false, 3}, {"8 / 1 0 1 2 3 4 5 6", []int{0}, []int{0, 1, 2, 3, 4, 5, 6}, false, 1}, {"8 / 1 1 2 3 4 5 6 7", []int{0}, []int{1, 2, 3, 4, 5, 6, 7}, false, 1},
	} {
		checkChoice(t, systemOf(c.system), c.choice, c.covered, c.isCover, c.cost)
	}
	all := allBelow(8)
	full := impl.System{Size: 8, Sets: slices.Repeat([][]int{all}, 8), Costs: slices.Repeat([]int{99}, 8)}
	checkChoice(t, full, nil, nil, false, 0)
	checkChoice(t, full, []int{7}, all, true, 99)
	checkChoice(t, full, all, all, true, 792)
}

// The covers of this test were worked out by hand.
func TestP6LeastCoversByHand(t *testing.T) {
	for _, c := range []struct {
		system string
		cover  []int
	}{
		{chain, []int{0, 2}}, {"0", nil}, {"0 / 5 / 1", nil}, {"1 / 1 0", []int{0}}, {"1 / 99 0", []int{0}}, {"1 / 2 0 / 1 0 / 1 0", []int{1}}, {"2 / 1 / 99 0 1", []int{1}},
		{"2 / 1 0 / 1 1 / 2 0 1", []int{2}}, {"2 / 1 0 / 1 1 / 3 0 1", []int{0, 1}}, {"2 / 1 0 / 1 1 / 1 0 1", []int{2}}, // of the same cost, fewer sets come first; less cost comes before that
		{"2 / 50 0 / 50 1 / 99 0 1", []int{2}}, {"2 / 49 0 / 50 1 / 99 0 1", []int{2}}, {"2 / 49 0 / 49 1 / 99 0 1", []int{0, 1}},
		{"2 / 1 0 / 1 0 / 1 1", []int{0, 2}}, {"2 / 1 1 / 1 0 / 1 0", []int{0, 1}}, {"2 / 99 0 1 / 99 0 1", []int{0}}, {"2 / 99 0 1 / 98 0 1 / 98 0 1", []int{1}}, // sets that are the same
		{"4 / 1 0 1 / 1 2 3 / 1 0 2 / 1 1 3", []int{0, 1}}, {"4 / 1 0 2 / 1 0 1 / 1 2 3 / 1 1 3", []int{0, 3}}, {"3 / 1 0 1 / 1 1 2 / 1 0 2", []int{0, 1}}, // of as many sets, the lexicographically first ones
		{"3 / 3 0 1 2 / 1 0 / 1 1 / 1 2", []int{0}}, {"3 / 4 0 1 2 / 1 0 / 1 1 / 1 2", []int{1, 2, 3}}, {"3 / 61 0 1 2 / 20 0 / 30 1 / 60 2", []int{0}},
		{"6 / 1 0 1 2 / 1 3 4 5 / 1 1 2 3 4", []int{0, 1}}, {"8 / 1 0 / 1 1 / 1 2 / 1 3 / 1 4 / 1 5 / 1 6 / 1 7", []int{0, 1, 2, 3, 4, 5, 6, 7}}, {"8 / 99 7 / 99 6 / 99 5 / 99 4 / 99 3 / 99 2 / 99 1 / 99 0", []int{0, 1, 2, 3, 4, 5, 6, 7}},
		{"8 / 1 0 1 / 1 1 2 / 1 2 3 / 1 3 4 / 1 4 5 / 1 5 6 / 1 6 7 / 1 0 7", []int{0, 2, 4, 6}},
	} {
		checkLeast(t, systemOf(c.system), c.cover, true)
	}
}

// Some element is in no set.
func TestP6SystemsWithoutCover(t *testing.T) {
	for _, text := range []string{"1", "3", "8", "1 / 5", "3 / 1 / 1", "2 / 1 0", "2 / 1 1", "3 / 1 0 / 1 2", "3 / 1 0 1 / 1 1", "8 / 1 0 1 2 3 4 5 6", "8 / 1 1 2 3 4 5 6 7", "8 / 1 0 1 2 / 1 4 5 6 7"} {
		checkLeast(t, systemOf(text), nil, false)
		checkGreedy(t, systemOf(text), nil, nil, false)
	}
}

// The covers and prices of this test were worked out by hand.
func TestP6GreedyCoversByHand(t *testing.T) {
	for _, c := range []struct {
		system        string
		cover, prices []int
	}{
		{chain, []int{0, 2}, []int{840, 840, 840}}, {"0", nil, nil}, {"0 / 1", nil, nil}, {"0 / 99 / 1", nil, nil},
		{"1 / 1 0", []int{0}, []int{840}}, {"1 / 99 0", []int{0}, []int{83160}}, {"1 / 2 0 / 1 0 / 1 0", []int{1}, []int{840}}, {"2 / 1 / 5 0 1", []int{1}, []int{2100, 2100}}, // sets without elements are not chosen
		{"2 / 1 0 / 1 1 / 2 0 1", []int{0, 1}, []int{840, 840}}, {"2 / 2 0 1 / 1 0 / 1 1", []int{0}, []int{840, 840}}, {"3 / 3 0 1 2 / 2 0 1", []int{0}, []int{840, 840, 840}}, {"3 / 2 0 1 / 3 0 1 2", []int{0, 1}, []int{840, 840, 2520}}, // equal quotients
		{"3 / 2 0 1 2 / 1 0 1", []int{1, 0}, []int{420, 420, 1680}}, {"4 / 1 0 1 2 / 2 0 1 2 3 / 3 3", []int{0, 1}, []int{280, 280, 280, 1680}}, {"4 / 1 0 1 2 / 3 0 1 2 3 / 3 3", []int{0, 1}, []int{280, 280, 280, 2520}}, {"4 / 1 0 1 2 / 3 0 1 2 3 / 2 3", []int{0, 2}, []int{280, 280, 280, 1680}}, // elements that are covered do not count
		{"5 / 3 0 1 / 5 2 3 4", []int{0, 1}, []int{1260, 1260, 1400, 1400, 1400}}, {"5 / 5 2 3 4 / 3 0 1", []int{1, 0}, []int{1260, 1260, 1400, 1400, 1400}}, // 3/2 and 5/3
		{"3 / 61 0 1 2 / 20 0 / 30 1 / 60 2", []int{1, 2, 3}, []int{16800, 25200, 50400}}, {"3 / 60 0 1 2 / 20 0 / 30 1 / 60 2", []int{0}, []int{16800, 16800, 16800}},
		{"3 / 20 0 / 30 1 / 60 2 / 60 0 1 2", []int{0, 1, 2}, []int{16800, 25200, 50400}}, {"3 / 20 0 / 30 1 / 60 2 / 59 0 1 2", []int{3}, []int{16520, 16520, 16520}}, {"3 / 20 0 / 31 1 / 60 2 / 60 0 1 2", []int{0, 3}, []int{16800, 25200, 25200}},
		{"6 / 1 0 1 2 / 1 3 4 5 / 1 1 2 3 4", []int{2, 0, 1}, []int{840, 210, 210, 210, 210, 840}}, {"8 / 1 0 1 2 3 4 5 6 7", []int{0}, []int{105, 105, 105, 105, 105, 105, 105, 105}}, {"8 / 99 0 1 2 3 4 5 6 7", []int{0}, []int{10395, 10395, 10395, 10395, 10395, 10395, 10395, 10395}},
		{"7 / 1 0 1 2 3 4 5 6", []int{0}, []int{120, 120, 120, 120, 120, 120, 120}}, {"5 / 2 0 1 2 3 4", []int{0}, []int{336, 336, 336, 336, 336}}, {"6 / 1 0 1 2 3 4 5", []int{0}, []int{140, 140, 140, 140, 140, 140}},
		{"8 / 1 0 / 1 1 / 1 2 / 1 3 / 1 4 / 1 5 / 1 6 / 1 7", []int{0, 1, 2, 3, 4, 5, 6, 7}, []int{840, 840, 840, 840, 840, 840, 840, 840}},
		{"8 / 8 7 / 7 6 / 6 5 / 5 4 / 4 3 / 3 2 / 2 1 / 1 0", []int{7, 6, 5, 4, 3, 2, 1, 0}, []int{840, 1680, 2520, 3360, 4200, 5040, 5880, 6720}},
	} {
		checkGreedy(t, systemOf(c.system), c.cover, c.prices, true)
	}
}

func TestP6HarmonicNumbers(t *testing.T) {
	for k, want := range []int{0, 840, 1260, 1540, 1750, 1918, 2058, 2178, 2283} {
		if got, ok := impl.HarmonicOf(k); !ok || got != want {
			t.Errorf("HarmonicOf(%d) = %d, %v; want %d", k, got, ok, want)
		}
	}
}

func TestP6AllChoices(t *testing.T) {
	for _, s := range slices.Concat(manySystems(1), allSmallSystems()) {
		for _, choice := range setsModel(len(s.Sets)) {
			covered := coveredModel(s, choice)
			checkChoice(t, s, choice, listOfBits(covered), covered == fullOf(s), costModel(s, choice))
		}
	}
}

func TestP6CoversOfManySystems(t *testing.T) {
	for _, s := range slices.Concat(manySystems(4), allSmallSystems()) {
		least, fine := leastCoverModel(s)
		checkLeast(t, s, least, fine)
		cover, prices, fine := greedyCoverModel(s)
		checkGreedy(t, s, cover, prices, fine)
	}
}

// The rest of this file tells guarantees of the program's own results alone.

// widestOf gives the greatest number of elements of a set.
func widestOf(s impl.System) int {
	widest := 0
	for _, set := range s.Sets {
		widest = max(widest, len(set))
	}
	return widest
}

func TestP6GreedyCoversAreWithinTheirHarmonicShare(t *testing.T) {
	for _, s := range slices.Concat(manySystems(4), allSmallSystems()) {
		greedy, one := impl.GreedyCover(s)
		least, two := impl.LeastCover(s)
		if one != two {
			t.Fatalf("GreedyCover of %s is %v, LeastCover %v", systemText(s), one, two)
		}
		if !one {
			continue
		}
		ordered := slices.Sorted(slices.Values(greedy))
		isCover, three := impl.IsCover(s, ordered)
		cost, _ := impl.CostOf(s, ordered)
		bound, _ := impl.CostOf(s, least)
		share, four := impl.HarmonicOf(widestOf(s))
		if !three || !four || !isCover || cost < bound || impl.PriceScale*cost > share*bound {
			t.Fatalf("GreedyCover of %s = %v with the cost %d; LeastCover has the cost %d, and the share is %d", systemText(s), greedy, cost, bound, share)
		}
	}
}

// The share is not greater than it must be.
func TestP6GreedyCoversReachTheirHarmonicShare(t *testing.T) {
	s := systemOf("3 / 20 0 / 30 1 / 60 2 / 60 0 1 2")
	greedy, _ := impl.GreedyCover(s)
	least, _ := impl.LeastCover(s)
	cost, _ := impl.CostOf(s, greedy)
	bound, _ := impl.CostOf(s, least)
	share, _ := impl.HarmonicOf(3)
	if impl.PriceScale*cost != share*bound {
		t.Errorf("GreedyCover of %s costs %d, LeastCover %d, and the share is %d", systemText(s), cost, bound, share)
	}
}

func TestP6GreedyPricesSumUp(t *testing.T) {
	for _, s := range slices.Concat(manySystems(4), allSmallSystems()) {
		greedy, one := impl.GreedyCover(s)
		prices, two := impl.GreedyPrices(s)
		cost, three := impl.CostOf(s, slices.Sorted(slices.Values(greedy)))
		if one != two || !three || sumModel(prices) != impl.PriceScale*cost {
			t.Fatalf("GreedyPrices of %s = %v, %v; GreedyCover is %v, %v with the cost %d", systemText(s), prices, two, greedy, one, cost)
		}
		for set, elements := range s.Sets {
			sum := 0
			for _, element := range elements {
				if one {
					sum += prices[element]
				}
			}
			if share, ok := impl.HarmonicOf(len(elements)); !ok || sum > share*s.Costs[set] {
				t.Fatalf("GreedyPrices of %s are %v, which are more than %d times the cost of the set %d", systemText(s), prices, share, set)
			}
		}
	}
}

// Some set of this System has just its share as the sum of its prices.
func TestP6GreedyPricesReachTheirShare(t *testing.T) {
	s := systemOf("3 / 20 0 / 30 1 / 60 2 / 60 0 1 2")
	prices, ok := impl.GreedyPrices(s)
	if share, _ := impl.HarmonicOf(3); !ok || sumModel(prices) != share*60 {
		t.Errorf("GreedyPrices of %s = %v, %v", systemText(s), prices, ok)
	}
}

func TestP6NoCoverCostsLessThanTheLeast(t *testing.T) {
	for _, s := range slices.Concat(manySystems(1), allSmallSystems()) {
		least, one := impl.LeastCover(s)
		bound, _ := impl.CostOf(s, least)
		for _, choice := range setsModel(len(s.Sets)) {
			isCover, two := impl.IsCover(s, choice)
			cost, three := impl.CostOf(s, choice)
			if !two || !three || isCover && (!one || cost < bound) {
				t.Fatalf("the cover %v of %s costs %d; LeastCover = %v, %v with the cost %d", choice, systemText(s), cost, least, one, bound)
			}
		}
	}
}
