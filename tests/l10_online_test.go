package tests

import (
	"slices"
	"testing"

	"loop.example/g01110/impl"
)

func checkOnline(t *testing.T, f impl.Field, want [][]int, total int) {
	t.Helper()
	if got, ok := impl.OnlineOpenings(f); !ok || !sameRows(got, want) {
		t.Errorf("OnlineOpenings of %q = %v, %v; want %v", textOf(f), got, ok, want)
	}
	if got, ok := impl.OnlineTotal(f); !ok || got != total {
		t.Errorf("OnlineTotal of %q = %d, %v; want %d", textOf(f), got, ok, total)
	}
}

func checkNested(t *testing.T, f impl.Field, order []int, k int, numbers [2]int) {
	t.Helper()
	if got, pair, ok := impl.NestedWorst(f, order); !ok || got != k || pair != numbers {
		t.Errorf("NestedWorst of %q for %v = %d, %v, %v; want %d, %v", textOf(f), order, got, pair, ok, k, numbers)
	}
}

// The openings of this test were worked out by hand; there is a - for a client
// for which nothing is opened.
func TestP10OnlineByHand(t *testing.T) {
	for _, c := range []struct {
		field, openings string
		total           int
	}{
		{"3 1", "", 0}, {"0", "", 0}, {"99 0 99", "", 0}, // no clients
		{"3 1 / 0 4", "0", 3}, {"3 1 / 4 4", "1", 5}, {"3 1 / 0 2", "0", 3}, {"1 3 / 2 0", "0", 3}, {"2 2 / 1 1", "0", 3}, {"0 0 / 3 3", "0", 3}, {"9 / 99", "0", 108}, {"5 4 3 2 1 / 0 0 0 0 0", "4", 1}, {"5 4 3 2 1 / 0 1 2 3 4", "0", 5}, // one
		{"3 1 / 0 4 / 5 1 / 2 2", "0, 1, -", 7}, {stage, "0, 1", 10}, {"0 3 / 0 9 / 5 2", "0, -", 5}, {"0 3 / 0 9 / 6 2", "0, 1", 5}, // a wish that is just the opening cost, and one more
		{"0 5 / 0 9 / 5 2 / 5 2", "0, -, 1", 12}, {"0 6 / 0 9 / 5 2 / 5 2", "0, -, -", 10}, {"0 6 / 0 9 / 5 2 / 5 2 / 5 4", "0, -, -, 1", 20}, // wishes of those ahead, served by others till now
		{"0 2 2 / 0 9 9 / 9 3 3", "0, 1", 5}, {"0 2 2 / 0 9 9 / 9 4 3", "0, 2", 5}, {"0 5 2 / 0 9 9 / 9 1 3", "0, 2", 5}, {"0 5 2 / 0 9 9 / 9 0 3", "0, 1", 5}, {"0 4 2 / 0 9 9 / 9 0 3", "0, 1", 4}, {"0 4 1 / 0 9 9 / 9 0 2", "0, 2", 3}, // by differences
		{"0 0 / 3 3 / 5 4 / 5 5", "0, 1, -", 12}, {"0 0 / 3 3 / 5 5", "0, -", 8}, {"0 0 0 / 5 5 5 / 4 3 3 / 3 4 2", "0, 1, 2", 10}, {"0 0 / 0 0 / 0 0", "0, -", 0}, // opening costs of 0
		{"4 / 1 / 9 / 0", "0, -, -", 14}, {"4 4 / 7 7 / 7 7 / 7 7", "0, -, -", 25}, {"4 4 4 / 1 9 9 / 9 1 9 / 9 9 1", "0, 1, 2", 15}, {"8 8 / 1 9 / 9 1", "0, -", 18}, {"7 8 / 1 9 / 9 0", "0, 1", 16},
		{"2 6 / 1 3 / 4 2 / 4 2 / 4 2 / 4 2 / 9 9 / 0 1", "0, -, -, -, 1, -, -", 32}, {"99 99 / 0 99 / 99 0 / 99 0 / 0 99", "0, -, 1, -", 297},
		{"0 3 3 / 0 9 9 / 3 0 9 / 9 5 4 / 3 9 1", "0, -, 1, -", 14}, // a new wish counts just what is nearer than the sites that are open now
	} {
		checkOnline(t, fieldOf(c.field), planOf(c.openings), c.total)
	}
}

func TestP10OnlineOfManyFields(t *testing.T) {
	for _, f := range manyFields(6) {
		openings, total := onlineModel(f)
		checkOnline(t, f, openings, total)
	}
	for clients := range 4 {
		for _, f := range smallFields(2, clients, 3-clients/2-clients/3) {
			openings, total := onlineModel(f)
			checkOnline(t, f, openings, total)
		}
	}
}

// onlineFields has Fields in which sites are often opened late.
func onlineFields(count int) []impl.Field {
	list, n := []impl.Field{}, &numbers{state: 132}
	for range count {
		f := n.fieldFrom(2+n.below(6), 2+n.below(6), 20, 12)
		f.Open[n.below(len(f.Open))] = 0
		list = append(list, f)
	}
	return list
}

func TestP10OnlineOpensSitesLate(t *testing.T) {
	late := 0
	for _, f := range onlineFields(1500) {
		openings, total := onlineModel(f)
		checkOnline(t, f, openings, total)
		for _, opened := range openings[1:] {
			late += len(opened)
		}
	}
	if late < 1000 {
		t.Errorf("just %d sites are opened for later clients", late)
	}
}

func TestP10OnlineTotalsAreNotLess(t *testing.T) {
	for _, f := range append(manyFields(3), onlineFields(500)...) {
		openings, one := impl.OnlineOpenings(f)
		total, two := impl.OnlineTotal(f)
		if !one || !two || len(openings) != len(f.Dist) {
			t.Fatalf("OnlineOpenings of %q = %v, %v", textOf(f), openings, one)
		}
		if len(f.Dist) == 0 {
			continue
		}
		open := slices.Concat(openings...)
		if len(openings[0]) == 0 || len(slices.Compact(sortedSet(open))) != len(open) {
			t.Errorf("OnlineOpenings of %q = %v", textOf(f), openings)
		}
		atEnd, _ := impl.TotalOf(f, sortedSet(open))
		if least, _ := impl.BestTotal(f); total < atEnd || atEnd < least {
			t.Errorf("OnlineTotal of %q = %d, that of the sites at the end %d, the least one %d", textOf(f), total, atEnd, least)
		}
	}
}

// After an opening no other site is wished for enough: ahead of the new client
// none was, and what this client wishes for beyond the site that has been opened
// is no more than the difference by which that site went before.
func TestP10NoClientOpensTwoSites(t *testing.T) {
	for _, f := range append(manyFields(6), onlineFields(1500)...) {
		openings, _ := impl.OnlineOpenings(f)
		for _, opened := range openings {
			if len(opened) > 1 {
				t.Errorf("OnlineOpenings of %q = %v", textOf(f), openings)
			}
		}
	}
}

// Later clients change nothing for those ahead of them.
func TestP10OnlineOfTheFirstClients(t *testing.T) {
	for _, f := range manyFields(1) {
		all, _ := impl.OnlineOpenings(f)
		for count := range f.Dist {
			first := impl.Field{Open: f.Open, Dist: f.Dist[:count]}
			if got, ok := impl.OnlineOpenings(first); !ok || !sameRows(got, all[:count]) {
				t.Errorf("OnlineOpenings of %q = %v, %v; want %v", textOf(first), got, ok, all[:count])
			}
		}
	}
}

// The numbers of this test were worked out by hand.
func TestP10NestedByHand(t *testing.T) {
	const (
		even = "0 0 0 / 4 0 2 / 4 4 2"
		near = "0 0 0 / 1 3 9 / 9 5 1"
		zero = "0 0 0 / 5 3 0 / 4 2 0"
	)
	for _, c := range []struct {
		field   string
		order   []int
		k       int
		numbers [2]int
	}{
		{"3 1 / 0 4 / 5 1 / 2 2", []int{1, 0}, 1, [2]int{7, 7}}, {stage, []int{0, 1}, 1, [2]int{7, 7}}, {"5 / 3 / 4", []int{0}, 1, [2]int{7, 7}}, {"5 / 0", []int{0}, 1, [2]int{0, 0}}, {"5", []int{0}, 1, [2]int{0, 0}}, {"1 2 3 4 5 6 7", []int{6, 0, 5, 1, 4, 2, 3}, 1, [2]int{0, 0}},
		{even, []int{0, 1, 2}, 1, [2]int{8, 4}}, {even, []int{0, 2, 1}, 1, [2]int{8, 4}}, {even, []int{1, 0, 2}, 2, [2]int{4, 2}}, {even, []int{2, 0, 1}, 2, [2]int{4, 2}}, {even, []int{1, 2, 0}, 1, [2]int{4, 4}}, {even, []int{2, 1, 0}, 1, [2]int{4, 4}}, // equal quotients
		{near, []int{0, 1, 2}, 2, [2]int{6, 2}}, {near, []int{0, 2, 1}, 1, [2]int{10, 8}}, {near, []int{1, 2, 0}, 2, [2]int{4, 2}}, {near, []int{1, 0, 2}, 2, [2]int{6, 2}}, {near, []int{2, 0, 1}, 1, [2]int{10, 8}}, {near, []int{2, 1, 0}, 2, [2]int{4, 2}},
		{"0 0 / 0 5 / 0 5", []int{1, 0}, 1, [2]int{10, 0}}, {"0 0 / 0 5 / 0 5", []int{0, 1}, 1, [2]int{0, 0}}, // a value of 0
		{zero, []int{0, 1, 2}, 1, [2]int{9, 0}}, {zero, []int{1, 0, 2}, 1, [2]int{5, 0}}, {zero, []int{1, 2, 0}, 1, [2]int{5, 0}}, {zero, []int{2, 0, 1}, 1, [2]int{0, 0}}, {zero, []int{2, 1, 0}, 1, [2]int{0, 0}},
		{"0 0 0 / 0 3 9 / 9 5 0", []int{1, 0, 2}, 2, [2]int{5, 0}}, {"0 0 0 / 0 3 9 / 9 5 0", []int{0, 1, 2}, 2, [2]int{5, 0}}, {"0 0 0 / 0 3 9 / 9 5 0", []int{0, 2, 1}, 1, [2]int{9, 8}}, {"0 0 0 / 0 3 9 / 9 5 0", []int{2, 1, 0}, 2, [2]int{3, 0}},
		{"9 9 / 0 9 / 9 0", []int{0, 1}, 1, [2]int{9, 9}}, {"9 9 / 0 9 / 9 0", []int{1, 0}, 1, [2]int{9, 9}}, // 1 by numbers, and by 0 and 0
		{"0 0 0 0 0 0 0 / 1 1 1 1 1 1 9 / 0 0 0 0 0 0 0", []int{6, 5, 4, 3, 2, 1, 0}, 1, [2]int{9, 1}},
	} {
		checkNested(t, fieldOf(c.field), c.order, c.k, c.numbers)
	}
}

func TestP10NestedOfManyFields(t *testing.T) {
	n := &numbers{state: 133}
	for _, f := range append(manyFields(3), midFields(100)...) {
		orders := [][]int{allBelow(len(f.Open)), reversed(allBelow(len(f.Open)))}
		for range 4 {
			orders = append(orders, n.orderFrom(len(f.Open)))
		}
		for _, order := range orders {
			k, numbers := nestedModel(f, order)
			checkNested(t, f, order, k, numbers)
		}
	}
}

// orderFrom gives the numbers below a limit in some order.
func (n *numbers) orderFrom(limit int) []int {
	order := allBelow(limit)
	for place := range order {
		other := place + n.below(limit-place)
		order[place], order[other] = order[other], order[place]
	}
	return order
}

func TestP10NestedOfAllOrders(t *testing.T) {
	n := &numbers{state: 134}
	for sites := 1; sites <= 5; sites++ {
		for clients := range 8 {
			for _, most := range []int{1, 3, 20} {
				f := n.fieldFrom(sites, clients, 9, most)
				for _, order := range ordersModel(sites) {
					k, numbers := nestedModel(f, order)
					checkNested(t, f, order, k, numbers)
				}
			}
		}
	}
}

// No list of sites serves better than the value for its number of sites.
func TestP10NestedQuotientsAreAtLeastOne(t *testing.T) {
	for _, f := range manyFields(1) {
		order := allBelow(len(f.Open))
		k, numbers, ok := impl.NestedWorst(f, order)
		if !ok || k < 1 || k > len(order) {
			t.Fatalf("NestedWorst of %q = %d, %v, %v", textOf(f), k, numbers, ok)
		}
		service, _ := impl.ServiceOf(f, order[:k])
		value, _ := impl.MedianValue(f, k)
		if numbers != [2]int{service, value} || service < value {
			t.Errorf("NestedWorst of %q = %d, %v; the service is %d, the value %d", textOf(f), k, numbers, service, value)
		}
	}
}
