package tests

import (
	"slices"
	"testing"

	"loop.example/g01110/impl"
)

func checkAllowed(t *testing.T, f impl.Field, classes, limits, set []int, want bool) {
	t.Helper()
	if got, ok := impl.IsAllowed(f, classes, limits, set); !ok || got != want {
		t.Errorf("IsAllowed of %q with %v and %v for %v = %v, %v; want %v", textOf(f), classes, limits, set, got, ok, want)
	}
}

func checkUnderLimits(t *testing.T, p prize, classes, limits, best, greedy []int) {
	t.Helper()
	name := " with " + listOf(classes) + " and"
	got, ok := impl.BestAllowed(p.f, p.worth, classes, limits)
	checkGainList(t, "BestAllowed"+name, p, limits, got, ok, best)
	got, ok = impl.GreedyAllowed(p.f, p.worth, classes, limits)
	checkGainList(t, "GreedyAllowed"+name, p, limits, got, ok, greedy)
}

func checkBudget(t *testing.T, p prize, budget int, best, ratio []int) {
	t.Helper()
	got, ok := impl.BestBudget(p.f, p.worth, budget)
	checkGainList(t, "BestBudget", p, []int{budget}, got, ok, best)
	got, ok = impl.RatioGain(p.f, p.worth, budget)
	checkGainList(t, "RatioGain", p, []int{budget}, got, ok, ratio)
}

// limitsOf adds limits of 0 to the first ones.
func limitsOf(first ...int) []int {
	return append(first, make([]int, 7-len(first))...)
}

func TestP8AllowedSetsByHand(t *testing.T) {
	two, three, seven := fieldOf(duo), fieldOf(trio), impl.Field{Open: make([]int, 7)}
	for _, c := range []struct {
		f               impl.Field
		classes, limits []int
		set             []int
		is              bool
	}{
		{two, []int{0, 0}, limitsOf(1), nil, true}, {two, []int{0, 0}, limitsOf(1), []int{0}, true}, {two, []int{0, 0}, limitsOf(1), []int{1}, true}, {two, []int{0, 0}, limitsOf(1), []int{0, 1}, false}, {two, []int{0, 0}, limitsOf(2), []int{0, 1}, true}, {two, []int{0, 0}, limitsOf(7), []int{0, 1}, true},
		{two, []int{0, 0}, limitsOf(), nil, true}, {two, []int{0, 0}, limitsOf(), []int{0}, false}, {two, []int{6, 6}, limitsOf(), []int{1}, false}, {two, []int{0, 0}, limitsOf(0, 7, 7, 7, 7, 7, 7), []int{1}, false}, {two, []int{0, 0}, limitsOf(0, 7, 7, 7, 7, 7, 7), nil, true}, // limits of 0
		{two, []int{6, 6}, limitsOf(7, 7, 7, 7, 7, 7, 1), []int{0, 1}, false}, {two, []int{6, 6}, limitsOf(0, 0, 0, 0, 0, 0, 2), []int{0, 1}, true}, {two, []int{0, 6}, limitsOf(1, 0, 0, 0, 0, 0, 1), []int{0, 1}, true}, {two, []int{0, 6}, limitsOf(1), []int{0, 1}, false}, {two, []int{0, 6}, limitsOf(1), []int{0}, true}, {two, []int{0, 6}, limitsOf(1), []int{1}, false}, {two, []int{6, 0}, limitsOf(1), []int{1}, true}, // the last class
		{three, []int{1, 2, 1}, limitsOf(0, 1, 1), []int{0, 1}, true}, {three, []int{1, 2, 1}, limitsOf(0, 1, 1), []int{0, 2}, false}, {three, []int{1, 2, 1}, limitsOf(0, 1, 1), []int{1, 2}, true}, {three, []int{1, 2, 1}, limitsOf(0, 2, 1), []int{0, 1, 2}, true}, {three, []int{1, 2, 1}, limitsOf(7, 2, 0, 7, 7, 7, 7), []int{0, 1, 2}, false}, {three, []int{1, 2, 1}, limitsOf(7, 2, 0, 7, 7, 7, 7), []int{0, 2}, true},
		{seven, []int{0, 1, 2, 3, 4, 5, 6}, []int{1, 1, 1, 1, 1, 1, 1}, allBelow(7), true}, {seven, []int{0, 1, 2, 3, 4, 5, 5}, []int{1, 1, 1, 1, 1, 1, 1}, allBelow(7), false}, {seven, []int{6, 5, 4, 3, 2, 1, 0}, []int{1, 1, 1, 1, 1, 1, 0}, allBelow(7), false}, {seven, []int{6, 5, 4, 3, 2, 1, 0}, []int{1, 1, 1, 1, 1, 1, 0}, []int{1, 2, 3, 4, 5, 6}, true}, {seven, make([]int, 7), limitsOf(7), allBelow(7), true}, {seven, make([]int, 7), limitsOf(6), allBelow(7), false}, {seven, make([]int, 7), limitsOf(6), allBelow(6), true},
	} {
		checkAllowed(t, c.f, c.classes, c.limits, c.set, c.is)
	}
}

// The sets and sites of this test were worked out by hand.
func TestP8GainsUnderLimitsByHand(t *testing.T) {
	for _, c := range []struct {
		p               prize
		classes, limits []int
		best, greedy    []int
	}{
		{prizeOf(duo, 5), []int{0, 0}, limitsOf(1), []int{0}, []int{0}}, {prizeOf(duo, 5), []int{0, 0}, limitsOf(2), []int{0, 1}, []int{0, 1}}, {prizeOf(duo, 5), []int{0, 1}, limitsOf(0, 1), []int{1}, []int{1}}, {prizeOf(duo, 5), []int{6, 0}, limitsOf(0, 0, 0, 0, 0, 0, 1), []int{0}, []int{0}}, {prizeOf(duo, 5), []int{6, 6}, limitsOf(0, 0, 0, 0, 0, 0, 7), []int{0, 1}, []int{0, 1}},
		{prizeOf(duo, 5), []int{0, 0}, limitsOf(), nil, nil}, {prizeOf(duo, 5), []int{1, 2}, limitsOf(7, 0, 0, 7, 7, 7, 7), nil, nil}, {prizeOf(duo, 0), []int{0, 0}, limitsOf(7), nil, nil}, {prizeOf("5", 999), []int{6}, limitsOf(7, 7, 7, 7, 7, 7, 7), nil, nil}, {prizeOf("7 / 0 / 99", 100), []int{3}, limitsOf(0, 0, 0, 1), []int{0}, []int{0}}, {prizeOf("7 / 0 / 99", 100), []int{3}, limitsOf(1, 1, 1, 0, 1, 1, 1), nil, nil}, // nothing is allowed, or gains
		{prizeOf(trio, 10), []int{0, 0, 1}, limitsOf(1, 1), []int{0, 2}, []int{0, 2}}, {prizeOf(trio, 10), []int{0, 1, 0}, limitsOf(1, 1), []int{0, 1}, []int{0, 1}}, {prizeOf(trio, 10), []int{1, 0, 0}, limitsOf(1, 0), []int{1}, []int{1}}, {prizeOf(trio, 10), []int{1, 0, 0}, limitsOf(2, 0), []int{1, 2}, []int{1, 2}}, {prizeOf(trio, 10), []int{0, 0, 0}, limitsOf(2), []int{0, 1}, []int{0, 1}}, {prizeOf(trio, 10), []int{4, 4, 5}, limitsOf(7, 7, 7, 7, 7, 7), []int{0, 1, 2}, []int{0, 1, 2}},
		{ofGains("9 0 9 / 0 9 0"), []int{0, 0, 1}, limitsOf(1, 1), []int{1, 2}, []int{0}}, {ofGains("9 0 9 / 0 8 0"), []int{0, 0, 1}, limitsOf(1, 1), []int{1, 2}, []int{0}}, {ofGains("9 0 8 / 0 9 0"), []int{0, 0, 1}, limitsOf(1, 1), []int{1, 2}, []int{0}}, {ofGains("9 0 9 / 0 9 0"), []int{0, 1, 0}, limitsOf(1, 1), []int{0, 1}, []int{0, 1}}, // the greedy sites gain half
		{ofGains("4 4 4 / 4 4 4"), []int{0, 1, 2}, limitsOf(0, 1, 1), []int{1}, []int{1}}, {ofGains("4 0 4 / 0 4 0"), []int{0, 1, 2}, limitsOf(0, 1, 1), []int{1, 2}, []int{1, 2}}, {ofGains("4 0 4 / 0 4 4"), []int{0, 0, 1}, limitsOf(2, 1), []int{2}, []int{2}}, {ofGains("4 0 3 / 0 4 3"), []int{0, 0, 1}, limitsOf(2, 1), []int{0, 1}, []int{2, 0, 1}}, {ofGains("4 0 3 / 0 4 3"), []int{0, 0, 0}, limitsOf(2), []int{0, 1}, []int{2, 0}}, {ofGains("4 4 0 / 0 0 4"), []int{0, 1, 2}, limitsOf(1, 1, 0), []int{0}, []int{0}}, // of several the first one
		{ofGains("9 8 7 0 / 0 0 0 1"), []int{0, 0, 0, 1}, limitsOf(1, 1), []int{0, 3}, []int{0, 3}}, {ofGains("9 0 0 0 / 0 8 0 0 / 0 0 7 0 / 0 0 0 6"), []int{0, 0, 1, 1}, limitsOf(1, 1), []int{0, 2}, []int{0, 2}}, {ofGains("6 0 0 0 / 0 7 0 0 / 0 0 8 0 / 0 0 0 9"), []int{0, 1, 1, 0}, limitsOf(1, 1), []int{2, 3}, []int{3, 2}}, // sites that are not allowed are passed over
	} {
		checkUnderLimits(t, c.p, c.classes, c.limits, c.best, c.greedy)
	}
}

// underCosts has the Field with these costs, and gains for a worth of 60.
func underCosts(costs, gains string) prize {
	return prizeFor(gainsField(costs, 60, gains), 60)
}

// The sets of this test were worked out by hand.
func TestP8GainsUnderBudgetsByHand(t *testing.T) {
	none, left, right, both := []int(nil), []int{0}, []int{1}, []int{0, 1}
	for _, c := range []struct {
		p           prize
		budget      int
		best, ratio []int
	}{
		{prizeOf(duo, 5), 0, none, none}, {prizeOf(duo, 5), 1, right, right}, {prizeOf(duo, 5), 2, right, right}, {prizeOf(duo, 5), 3, left, right}, {prizeOf(duo, 5), 4, both, both}, {prizeOf(duo, 5), 5, both, both}, {prizeOf(duo, 5), 9999, both, both}, {prizeOf(duo, 0), 9999, none, none}, // just a payment, and one less; both are the same
		{prizeOf("5", 999), 9999, none, none}, {prizeOf("0", 999), 0, none, none}, {prizeOf("7 / 0 / 99", 100), 6, none, none}, {prizeOf("7 / 0 / 99", 100), 7, left, left}, {prizeOf("0 / 9", 10), 0, left, left}, {prizeOf("0 / 9", 9), 0, none, none}, {prizeOf("99 / 9", 10), 98, none, none}, {prizeOf("99 / 9", 10), 99, left, left},
		{underCosts("10 1", "50 0 / 0 10"), 0, none, none}, {underCosts("10 1", "50 0 / 0 10"), 1, right, right}, {underCosts("10 1", "50 0 / 0 10"), 9, right, right}, {underCosts("10 1", "50 0 / 0 10"), 10, left, left}, {underCosts("10 1", "50 0 / 0 10"), 11, both, both}, {underCosts("1 10", "10 0 / 0 50"), 10, right, right}, // the single site is better
		{underCosts("10 1", "10 0 / 0 10"), 10, left, right}, {underCosts("10 1", "11 0 / 0 10"), 10, left, left}, {underCosts("10 1", "9 0 / 0 10"), 10, right, right}, {underCosts("1 10", "10 0 / 0 10"), 10, left, left}, {underCosts("1 1 9", "5 0 9 / 0 4 0"), 9, []int{2}, both}, {underCosts("1 1 9", "5 0 9 / 0 4 1"), 9, []int{2}, []int{2}}, {underCosts("1 1 9", "5 0 5 / 0 4 5"), 10, []int{2}, []int{2}}, // equal gains of both, or not
		{underCosts("0 1", "1 10"), 0, left, left}, {underCosts("0 1", "1 10"), 1, right, both}, {underCosts("1 0", "10 1"), 1, left, both}, {underCosts("0 0", "1 10"), 0, right, both}, {underCosts("0 0", "10 1"), 0, left, left}, {underCosts("0 0", "10 10"), 0, left, left}, {underCosts("0 0 0", "1 2 3"), 0, []int{2}, []int{0, 1, 2}}, // a quotient by 0 is the greatest, whatever the gain
		{underCosts("0 1", "0 10"), 1, right, right}, {underCosts("1 0", "10 0"), 1, left, left}, {underCosts("0 1", "0 10"), 0, none, none}, {underCosts("0 0", "0 0"), 0, none, none}, {underCosts("0 0 2", "0 0 9"), 2, []int{2}, []int{2}}, {underCosts("0 5 0", "10 10 10"), 9, left, left}, {underCosts("0 0 1", "0 5 0 / 0 0 5"), 1, []int{1, 2}, []int{1, 2}}, // without gain
		{underCosts("2 2", "5 1 / 1 5"), 2, left, left}, {underCosts("2 2", "5 0 / 0 5"), 3, left, left}, {underCosts("2 4 2", "2 0 0 / 0 4 0 / 0 0 3"), 6, []int{1, 2}, []int{0, 2}}, {underCosts("4 2 2", "4 0 0 / 0 2 0 / 0 0 3"), 6, []int{0, 2}, []int{0, 2}}, {underCosts("3 6 2", "1 0 0 / 0 2 0 / 0 0 1"), 8, []int{1, 2}, []int{0, 2}}, {underCosts("3 6 2", "1 0 0 / 0 2 0 / 0 0 1"), 11, []int{0, 1, 2}, []int{0, 1, 2}}, // equal quotients
		{underCosts("5 6 1", "50 0 0 / 0 51 0 / 0 0 2"), 4, []int{2}, []int{2}}, {underCosts("5 6 1", "50 0 0 / 0 51 0 / 0 0 2"), 5, left, left}, {underCosts("5 6 1", "50 0 0 / 0 51 0 / 0 0 2"), 6, []int{0, 2}, []int{0, 2}}, {underCosts("5 6 1", "50 0 0 / 0 51 0 / 0 0 2"), 7, []int{1, 2}, []int{0, 2}}, {underCosts("5 6 1", "50 0 0 / 0 51 0 / 0 0 2"), 10, []int{1, 2}, []int{0, 2}}, {underCosts("5 6 1", "50 0 0 / 0 51 0 / 0 0 2"), 11, both, both}, {underCosts("5 6 1", "50 0 0 / 0 51 0 / 0 0 2"), 12, []int{0, 1, 2}, []int{0, 1, 2}}, // sites that are not affordable are passed over
		{underCosts("4 2 3", "19 9 0 / 0 0 8 / 0 4 0"), 6, both, []int{1, 2}}, {underCosts("4 2 3", "19 9 0 / 0 0 8 / 0 4 0"), 7, []int{0, 2}, []int{1, 2}}, {underCosts("4 2 3", "20 9 0 / 0 0 8 / 0 4 0"), 7, []int{0, 2}, both}, {underCosts("4 2 3", "30 9 0 / 0 0 8 / 0 4 0"), 7, []int{0, 2}, []int{0, 2}}, {underCosts("4 2 3", "30 9 0 / 0 0 8 / 0 5 0"), 6, both, both}, // for those that are taken
	} {
		checkBudget(t, c.p, c.budget, c.best, c.ratio)
	}
	row := slices.Repeat([]int{99}, 7)
	full := prizeFor(impl.Field{Open: row, Dist: slices.Repeat([][]int{row}, 7)}, 999)
	for _, budget := range []int{0, 98, 99, 100, 692, 693, 9999} {
		best := []int{0}
		if budget < 99 {
			best = nil
		}
		checkBudget(t, full, budget, best, best)
	}
	each := ofGains("9 0 0 0 0 0 0 / 0 8 0 0 0 0 0 / 0 0 7 0 0 0 0 / 0 0 0 6 0 0 0 / 0 0 0 0 5 0 0 / 0 0 0 0 0 4 0 / 0 0 0 0 0 0 3")
	each.f.Open = row
	checkBudget(t, each, 693, allBelow(7), allBelow(7))
	checkBudget(t, each, 692, allBelow(6), allBelow(6))
}

// rulesFor gives classes and limits of many kinds.
func (n *numbers) rulesFor(sites int) ([]int, []int) {
	switch n.below(5) {
	case 0:
		return n.listFrom(sites, 6), n.listFrom(7, 7)
	case 1:
		return n.listFrom(sites, 2), limitsOf(n.listFrom(3, 2)...)
	case 2:
		return n.listFrom(sites, 1), limitsOf(n.listFrom(2, 3)...)
	case 3:
		return n.listFrom(sites, 6), n.listFrom(7, 1)
	}
	return n.listFrom(sites, 3), limitsOf(1, 1, 1, n.below(8))
}

func TestP8GainsUnderLimitsOfManyFields(t *testing.T) {
	n := &numbers{state: 99}
	for _, p := range manyPrizes(1) {
		for range 6 {
			classes, limits := n.rulesFor(len(p.f.Open))
			is := isOfClasses(classes, limits)
			checkUnderLimits(t, p, classes, limits, p.best(is), p.greedy(is))
			for range 4 {
				set := n.setFrom(len(p.f.Open))
				checkAllowed(t, p.f, classes, limits, set, is(set))
			}
		}
	}
}

// budgetsFor gives budgets that are just payments, and one less and more.
func (p prize) budgetsFor(n *numbers) []int {
	budgets := []int{0, 1, 9999}
	for range 4 {
		payment := paymentModel(p.f, n.setFrom(len(p.f.Open)))
		budgets = append(budgets, max(0, payment-1), payment, payment+1)
	}
	slices.Sort(budgets)
	return slices.Compact(budgets)
}

func TestP8GainsUnderBudgetsOfManyFields(t *testing.T) {
	n := &numbers{state: 100}
	for _, p := range manyPrizes(1) {
		for _, budget := range p.budgetsFor(n) {
			checkBudget(t, p, budget, p.best(isOfBudget(p.f, budget)), p.ratio(budget))
		}
	}
}

// The rest of this file tells guarantees of the program's own results alone.

func TestP8GreedyAllowedGainsHalf(t *testing.T) {
	n := &numbers{state: 101}
	for _, p := range manyPrizes(4) {
		classes, limits := n.rulesFor(len(p.f.Open))
		best, one := impl.BestAllowed(p.f, p.worth, classes, limits)
		greedy, two := impl.GreedyAllowed(p.f, p.worth, classes, limits)
		greatest, gain := gainOfSites(t, p, best), gainOfSites(t, p, greedy)
		if !one || !two || 2*gain < greatest {
			t.Fatalf("GreedyAllowed of %s with %v and %v = %v, %v; BestAllowed is %v, %v", p.text(), classes, limits, greedy, two, best, one)
		}
		checkAllowed(t, p.f, classes, limits, best, true)
		checkAllowed(t, p.f, classes, limits, sortedSet(greedy), true)
		for _, set := range setsModel(len(p.f.Open)) {
			if is, _ := impl.IsAllowed(p.f, classes, limits, set); is && gainOfSites(t, p, set) > greatest {
				t.Fatalf("BestAllowed of %s with %v and %v = %v; %v gains more", p.text(), classes, limits, best, set)
			}
		}
	}
}

func TestP8RatioGainIsWithinItsShare(t *testing.T) {
	n := &numbers{state: 102}
	for _, p := range manyPrizes(2) {
		for _, budget := range p.budgetsFor(n) {
			best, one := impl.BestBudget(p.f, p.worth, budget)
			ratio, two := impl.RatioGain(p.f, p.worth, budget)
			pays, three := impl.PaymentOf(p.f, ratio)
			greatest, gain := gainOfSites(t, p, best), gainOfSites(t, p, ratio)
			if !one || !two || !three || pays > budget || 1000*gain < 316*greatest || gain > greatest {
				t.Fatalf("RatioGain of %s for %d = %v, %v; BestBudget is %v, %v", p.text(), budget, ratio, two, best, one)
			}
			for _, set := range setsModel(len(p.f.Open)) {
				if payment, _ := impl.PaymentOf(p.f, set); payment <= budget && gainOfSites(t, p, set) > greatest {
					t.Fatalf("BestBudget of %s for %d = %v; %v gains more", p.text(), budget, best, set)
				}
			}
		}
	}
}

// One class for all sites, or one cost for all, bounds the number of sites, as k does.
func TestP8RulesThatBoundTheNumberOfSites(t *testing.T) {
	n := &numbers{state: 103}
	for _, p := range manyPrizes(1) {
		sites, class, cost := len(p.f.Open), n.below(7), 1+n.below(99)
		p.f.Open = slices.Repeat([]int{cost}, sites)
		for k := range impl.MaxSites + 1 {
			limits := make([]int, 7)
			limits[class] = k
			best, _ := impl.BestGain(p.f, p.worth, k)
			greedy, _ := impl.GreedyGain(p.f, p.worth, k)
			checkUnderLimits(t, p, slices.Repeat([]int{class}, sites), limits, best, greedy)
			checkBudget(t, p, k*cost, best, sortedSet(greedy))
			checkBudget(t, p, k*cost+cost-1, best, sortedSet(greedy))
		}
	}
}
