package tests

import (
	"slices"
	"testing"

	"loop.example/g01110/impl"
)

func checkAllocation(t *testing.T, m [][]int, hubs []int, want bool) {
	t.Helper()
	if got, ok := impl.IsAllocation(m, hubs); !ok || got != want {
		t.Errorf("IsAllocation of %s for %v = %v, %v; want %v", rowsText(m), hubs, got, ok, want)
	}
}

func checkHubCost(t *testing.T, h hubNet, hubs []int, want int) {
	t.Helper()
	if got, ok := impl.HubCost(h.m, h.flows, hubs, h.discount); !ok || got != want {
		t.Errorf("HubCost of %s for %v = %d, %v; want %d", h.text(), hubs, got, ok, want)
	}
}

func checkBestHubs(t *testing.T, h hubNet, k int, want []int) {
	t.Helper()
	if got, ok := impl.BestHubs(h.m, h.flows, k, h.discount); !ok || !slices.Equal(got, want) {
		t.Errorf("BestHubs of %s for %d = %v, %v; want %v", h.text(), k, got, ok, want)
	}
}

// netOf reads the flows as they are, - for those of no place.
func netOf(ground, flows string, discount int) hubNet {
	if flows == "-" {
		return hubNet{groundOf(ground), nil, discount}
	}
	return hubNet{groundOf(ground), rowsOf(flows), discount}
}

const (
	// evenly has a flow of 1 between any two places.
	evenly = "0 1 1 / 1 0 1 / 1 1 0"
	// pairwise has great flows between two pairs of places, and small ones beside them.
	pairwise = "0 9 1 1 / 9 0 1 1 / 1 1 0 9 / 1 1 9 0"
	// villages has two pairs of places that are far from each other.
	villages = " / 2 / 20 20 / 20 20 2"
)

func TestP11AllocationsByHand(t *testing.T) {
	for _, c := range []struct {
		ground string
		hubs   []int
		want   bool
	}{
		{"-", nil, true}, {"-", []int{}, true}, {"-", []int{0}, false}, {" ", []int{0}, true}, {" ", nil, false}, {" ", []int{1}, false}, {" ", []int{-1}, false}, {" ", []int{0, 0}, false},
		{" / 7", []int{0, 0}, true}, {" / 7", []int{1, 1}, true}, {" / 7", []int{0, 1}, true}, {" / 7", []int{1, 0}, false}, {" / 7", []int{0}, false}, {" / 7", []int{0, 1, 1}, false}, {" / 7", []int{0, 2}, false}, {" / 7", []int{2, 2}, false}, {" / 7", []int{-1, 1}, false},
		{triangle, []int{1, 0, 2}, false}, {triangle, []int{0, 0, 0}, true}, {triangle, []int{2, 2, 2}, true}, {triangle, []int{0, 1, 2}, true}, {triangle, []int{0, 0, 2}, true}, {triangle, []int{2, 1, 2}, true}, {triangle, []int{1, 2, 2}, false}, {triangle, []int{2, 0, 0}, false}, {triangle, []int{1, 2, 0}, false}, {triangle, []int{1, 1, 0}, false}, // a hub has itself
		{roads, []int{4, 4, 4, 4, 4}, true}, {roads, []int{0, 0, 0, 3, 3}, true}, {roads, []int{0, 1, 2, 3, 4}, true}, {roads, []int{0, 0, 0, 3, 2}, false}, {roads, []int{0, 0, 0, 0, 5}, false}, {roads, []int{0, 0, 0, 0}, false}, {roads, []int{0, 0, 0, 0, 0, 0}, false},
	} {
		checkAllocation(t, groundOf(c.ground), c.hubs, c.want)
	}
}

// The costs of this test were worked out by hand.
func TestP11HubCostsByHand(t *testing.T) {
	for _, c := range []struct {
		ground, flows string
		discount      int
		hubs          []int
		cost          int
	}{
		{triangle, evenly, 5, []int{0, 0, 0}, 320}, {triangle, evenly, 5, []int{1, 1, 1}, 280}, {triangle, evenly, 5, []int{2, 2, 2}, 360}, {triangle, evenly, 0, []int{0, 0, 0}, 320}, {triangle, evenly, 10, []int{0, 0, 0}, 320}, // one hub: the discount does not count
		{triangle, evenly, 10, []int{0, 1, 2}, 240}, {triangle, evenly, 5, []int{0, 1, 2}, 120}, {triangle, evenly, 1, []int{0, 1, 2}, 24}, {triangle, evenly, 0, []int{0, 1, 2}, 0}, // each place its own hub: nothing else counts
		{triangle, evenly, 10, []int{0, 0, 2}, 320}, {triangle, evenly, 5, []int{0, 0, 2}, 220}, {triangle, evenly, 0, []int{0, 0, 2}, 120}, {triangle, evenly, 1, []int{0, 2, 2}, 180},
		{"-", "-", 5, nil, 0}, {" ", "0", 10, []int{0}, 0}, {" ", "99", 10, []int{0}, 0}, // nothing flows
		{" / 7", "0 1 / 0 0", 10, []int{0, 1}, 70}, {" / 7", "0 0 / 1 0", 10, []int{0, 1}, 70}, {" / 7", "0 2 / 3 0", 10, []int{0, 1}, 350}, {" / 7", "0 2 / 3 0", 3, []int{0, 1}, 105}, {" / 7", "0 2 / 3 0", 3, []int{0, 0}, 350}, {" / 7", "0 2 / 3 0", 0, []int{1, 1}, 350}, // both directions
		{" / 7", "9 2 / 3 99", 3, []int{0, 0}, 350}, {" / 7", "99 0 / 0 99", 10, []int{1, 1}, 0}, {" / 7", "99 0 / 0 99", 10, []int{0, 1}, 0}, // flows to itself
		{" / 99", "0 99 / 99 0", 10, []int{0, 1}, 196020}, {" / 99", "0 99 / 99 0", 10, []int{0, 0}, 196020}, {" / 99", "99 99 / 99 99", 0, []int{0, 1}, 0}, {" / 0", "0 99 / 99 0", 10, []int{0, 1}, 0},
		{triangle, "0 1 0 / 0 0 0 / 0 0 0", 4, []int{2, 1, 2}, 66}, {triangle, "0 0 0 / 0 0 2 / 0 0 0", 4, []int{0, 0, 2}, 100}, {triangle, "0 0 5 / 0 0 0 / 0 0 0", 4, []int{1, 1, 1}, 350}, {triangle, "0 0 0 / 7 0 0 / 0 0 0", 0, []int{2, 2, 2}, 630},
		{villages, pairwise, 2, []int{0, 0, 2, 2}, 1200}, {villages, pairwise, 2, []int{0, 1, 2, 3}, 464}, {villages, pairwise, 10, []int{0, 0, 2, 2}, 2480}, {villages, pairwise, 0, []int{0, 0, 0, 0}, 9240},
	} {
		checkHubCost(t, netOf(c.ground, c.flows, c.discount), c.hubs, c.cost)
	}
}

// The allocations of this test were worked out by hand.
func TestP11BestHubsByHand(t *testing.T) {
	for _, c := range []struct {
		ground, flows string
		discount, k   int
		hubs          []int
	}{
		{triangle, evenly, 5, 1, []int{1, 1, 1}}, {triangle, evenly, 0, 1, []int{1, 1, 1}}, {triangle, evenly, 10, 1, []int{1, 1, 1}}, {triangle, evenly, 5, 2, []int{1, 1, 2}}, {triangle, evenly, 0, 2, []int{0, 0, 2}}, {triangle, evenly, 5, 3, []int{0, 1, 2}}, {triangle, evenly, 5, 4, []int{0, 1, 2}}, {triangle, evenly, 5, 5, []int{0, 1, 2}}, // k greater than the number of places
		{"-", "-", 5, 1, nil}, {"-", "-", 0, 5, nil}, {" ", "0", 10, 1, []int{0}}, {" ", "7", 0, 5, []int{0}}, // no place and one place
		{" / 7", "0 1 / 0 0", 10, 1, []int{0, 0}}, {" / 7", "0 1 / 0 0", 10, 2, []int{0, 0}}, {" / 7", "0 1 / 0 0", 9, 2, []int{0, 1}}, {" / 7", "0 1 / 0 0", 9, 1, []int{0, 0}}, {" / 7", "0 0 / 0 0", 0, 2, []int{0, 0}}, {" / 0", "0 9 / 9 0", 5, 2, []int{0, 0}}, {" / 7", "9 0 / 0 9", 0, 2, []int{0, 0}}, // of several allocations the first one
		{triangle, "0 0 0 / 0 0 0 / 0 0 0", 5, 3, []int{0, 0, 0}}, {triangle, "0 9 0 / 0 0 0 / 0 0 0", 10, 1, []int{0, 0, 0}}, {triangle, "0 0 9 / 0 0 0 / 0 0 0", 10, 1, []int{0, 0, 0}}, {triangle, "0 0 0 / 0 0 9 / 0 0 0", 10, 1, []int{1, 1, 1}}, {triangle, "0 0 0 / 0 0 0 / 0 9 0", 10, 3, []int{0, 1, 1}}, {triangle, "0 0 0 / 0 0 9 / 0 0 0", 0, 2, []int{1, 1, 2}},
		{triangle, "0 0 0 / 0 0 9 / 0 0 0", 1, 2, []int{1, 1, 2}}, {triangle, "0 0 0 / 0 0 9 / 0 0 0", 1, 3, []int{0, 1, 2}},
		{villages, pairwise, 2, 1, []int{0, 0, 0, 0}}, {villages, pairwise, 2, 2, []int{0, 0, 2, 2}}, {villages, pairwise, 2, 4, []int{0, 1, 2, 3}}, {villages, pairwise, 10, 4, []int{0, 1, 2, 3}},
	} {
		checkBestHubs(t, netOf(c.ground, c.flows, c.discount), c.k, c.hubs)
	}
}

// listsModel gives all lists of so many numbers in -1..most.
func listsModel(count, most int) [][]int {
	lists := [][]int{{}}
	for range count {
		longer := [][]int{}
		for _, before := range lists {
			for n := -1; n <= most; n++ {
				longer = append(longer, append(slices.Clone(before), n))
			}
		}
		lists = longer
	}
	return lists
}

func TestP11AllSmallAllocations(t *testing.T) {
	n := &numbers{state: 162}
	for places := range impl.MaxHubs + 1 {
		m, count := n.groundFrom(places, 9), 0
		for size := range impl.MaxHubs + 1 {
			for _, hubs := range listsModel(size, places) {
				want := isAllocationModel(places, hubs)
				checkAllocation(t, m, hubs, want)
				if want {
					count++
				}
			}
		}
		if want := []int{1, 1, 3, 10, 41, 196}[places]; count != want {
			t.Errorf("there are %d allocations of %d places; want %d", count, places, want)
		}
	}
}

func TestP11HubsOfManyNetworks(t *testing.T) {
	for _, h := range manyNets(2) {
		for _, hubs := range allocationsModel(len(h.m), impl.MaxHubs) {
			checkHubCost(t, h, hubs, hubCostModel(h.m, h.flows, hubs, h.discount))
		}
		for k := 1; k <= impl.MaxHubs; k++ {
			hubs, _ := bestHubsModel(h.m, h.flows, k, h.discount)
			checkBestHubs(t, h, k, hubs)
		}
	}
}

// The rest of this file tells guarantees of the program's own results alone.

// costOfBest gives the least cost for k.
func costOfBest(t *testing.T, h hubNet, k int) int {
	t.Helper()
	hubs, one := impl.BestHubs(h.m, h.flows, k, h.discount)
	cost, two := impl.HubCost(h.m, h.flows, hubs, h.discount)
	if !one || !two {
		t.Fatalf("BestHubs of %s for %d = %v, %v with %d, %v", h.text(), k, hubs, one, cost, two)
	}
	return cost
}

func TestP11AFurtherHubNeverMakesTheLeastCostGreater(t *testing.T) {
	less := 0
	for _, h := range manyNets(4) {
		before := costOfBest(t, h, 1)
		for k := 2; k <= impl.MaxHubs; k++ {
			cost := costOfBest(t, h, k)
			if cost > before || k > len(h.m) && cost != before {
				t.Fatalf("the least cost of %s is %d for %d hubs, and %d for one less", h.text(), cost, k, before)
			}
			if cost < before {
				less++
			}
			before = cost
		}
	}
	if less < 50 {
		t.Errorf("just %d times the least cost is less", less)
	}
}

func TestP11NoAllocationCostsLess(t *testing.T) {
	for _, h := range manyNets(2) {
		for k := 1; k <= impl.MaxHubs; k++ {
			best, _ := impl.BestHubs(h.m, h.flows, k, h.discount)
			if is, _ := impl.IsAllocation(h.m, best); !is || hubsOf(best) > k {
				t.Fatalf("BestHubs of %s for %d = %v", h.text(), k, best)
			}
			least := costOfBest(t, h, k)
			for _, hubs := range allocationsModel(len(h.m), k) {
				cost, _ := impl.HubCost(h.m, h.flows, hubs, h.discount)
				if cost < least || cost == least && slices.Compare(hubs, best) < 0 {
					t.Fatalf("BestHubs of %s for %d = %v with %d; %v costs %d", h.text(), k, best, least, hubs, cost)
				}
			}
		}
	}
}

// hubsOf counts the places that have themselves.
func hubsOf(hubs []int) int {
	count := 0
	for place, hub := range hubs {
		if place == hub {
			count++
		}
	}
	return count
}

// Flows of a place to itself don't count, and neither does the direction of a
// flow, but only how much flows between two places in all.
func TestP11OtherFlowsWithTheSameCosts(t *testing.T) {
	n := &numbers{state: 163}
	for _, h := range manyNets(2) {
		loops, turned := hubNet{h.m, copyRows(h.flows), h.discount}, hubNet{h.m, copyRows(h.flows), h.discount}
		for place, flows := range h.flows {
			loops.flows[place][place] = n.below(100)
			for other, flow := range flows {
				turned.flows[other][place] = flow
			}
		}
		for _, hubs := range allocationsModel(len(h.m), impl.MaxHubs) {
			cost, _ := impl.HubCost(h.m, h.flows, hubs, h.discount)
			checkHubCost(t, loops, hubs, cost)
			checkHubCost(t, turned, hubs, cost)
		}
		for k := 1; k <= impl.MaxHubs; k++ {
			hubs, _ := impl.BestHubs(h.m, h.flows, k, h.discount)
			checkBestHubs(t, loops, k, hubs)
			checkBestHubs(t, turned, k, hubs)
		}
	}
}

// In a metric ground, without a discount that makes it less, no flow is nearer than the distance.
func TestP11HubsAreNoShortcutsInMetricGrounds(t *testing.T) {
	for _, h := range manyNets(2) {
		if metric, _ := impl.IsMetricGround(h.m); !metric || h.discount < 10 {
			continue
		}
		own, _ := impl.HubCost(h.m, h.flows, allBelow(len(h.m)), h.discount)
		if least := costOfBest(t, h, impl.MaxHubs); least != own {
			t.Fatalf("the least cost of %s is %d; if each place is its own hub it is %d", h.text(), least, own)
		}
	}
}

// A discount that is greater never makes the least cost less, and one hub alone is not concerned.
func TestP11GreaterDiscounts(t *testing.T) {
	for _, h := range manyNets(1) {
		for k := 1; k <= impl.MaxHubs; k++ {
			before := 0
			for discount := range 11 {
				cost := costOfBest(t, hubNet{h.m, h.flows, discount}, k)
				if cost < before || k == 1 && discount > 0 && cost != before {
					t.Fatalf("the least cost of %s for %d is %d for the discount %d, and %d before", h.text(), k, cost, discount, before)
				}
				before = cost
			}
		}
	}
}
