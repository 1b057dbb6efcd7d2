package tests

import (
	"slices"
	"testing"

	"loop.example/g01110/impl"
)

func checkLineField(t *testing.T, l lineOf, want impl.Field) {
	t.Helper()
	if f, ok := impl.LineField(l.sites, l.clients); !ok || !sameField(f, want) {
		t.Errorf("LineField of %v and %v = %q, %v; want %q", l.sites, l.clients, textOf(f), ok, textOf(want))
	}
}

func checkLineMedian(t *testing.T, l lineOf, k, value int, groups [][]int) {
	t.Helper()
	if got, ok := impl.LineMedian(l.sites, l.clients, k); !ok || got != value {
		t.Errorf("LineMedian of %v and %v for %d = %d, %v; want %d", l.sites, l.clients, k, got, ok, value)
	}
	if got, ok := impl.LineGroups(l.sites, l.clients, k); !ok || !sameRows(got, groups) {
		t.Errorf("LineGroups of %v and %v for %d = %v, %v; want %v", l.sites, l.clients, k, got, ok, groups)
	}
}

// The lengths of this test were worked out by hand.
func TestP4LineFieldsByHand(t *testing.T) {
	for _, c := range []struct {
		sites, clients []int
		field          string
	}{
		{[]int{0, 10}, []int{1, 4, 9}, "0 0 / 1 9 / 4 6 / 9 1"},
		{[]int{0}, nil, "0"}, {[]int{99}, nil, "0"}, {[]int{3, 4, 5}, []int{}, "0 0 0"},
		{[]int{0}, []int{0}, "0 / 0"}, {[]int{0}, []int{99}, "0 / 99"}, {[]int{99}, []int{0}, "0 / 99"}, {[]int{99}, []int{99}, "0 / 0"}, {[]int{0, 99}, []int{0, 0, 99, 99}, "0 0 / 0 99 / 0 99 / 99 0 / 99 0"},
		{[]int{5}, []int{5, 5, 5}, "0 / 0 / 0 / 0"}, {[]int{5, 6}, []int{5, 5, 6}, "0 0 / 0 1 / 0 1 / 1 0"}, {[]int{7}, []int{2, 2}, "0 / 5 / 5"},
		{[]int{0, 1, 2, 3, 4, 5, 6}, []int{6}, "0 0 0 0 0 0 0 / 6 5 4 3 2 1 0"}, {[]int{50}, []int{0, 25, 49, 50, 51, 75, 99}, "0 / 50 / 25 / 1 / 0 / 1 / 25 / 49"},
	} {
		checkLineField(t, lineOf{c.sites, c.clients}, fieldOf(c.field))
	}
}

// The values and groups of this test were worked out by hand.
func TestP4LineMediansByHand(t *testing.T) {
	for _, c := range []struct {
		sites, clients []int
		k, value       int
		groups         [][]int
	}{
		{[]int{0, 10}, []int{1, 4, 9}, 1, 14, [][]int{{0, 1, 2}}},
		{[]int{0, 10}, []int{1, 4, 9}, 2, 6, [][]int{{0, 1}, {2}}},
		{[]int{0}, nil, 1, 0, [][]int{{}}}, {[]int{3, 4}, nil, 1, 0, [][]int{{}}}, {[]int{3, 4}, nil, 2, 0, [][]int{{}, {}}}, // no clients
		{[]int{7}, []int{0, 99}, 1, 99, [][]int{{0, 1}}}, {[]int{0}, []int{99}, 1, 99, [][]int{{0}}}, {[]int{99}, []int{0, 0, 0, 0, 0, 0, 0}, 1, 693, [][]int{{0, 1, 2, 3, 4, 5, 6}}},
		{[]int{5}, []int{5, 5, 5}, 1, 0, [][]int{{0, 1, 2}}}, {[]int{2, 5}, []int{5, 5, 5}, 1, 0, [][]int{{0, 1, 2}}}, {[]int{2, 5}, []int{5, 5, 5}, 2, 0, [][]int{{}, {0, 1, 2}}},
		{[]int{0, 99}, []int{0, 0, 99, 99}, 1, 198, [][]int{{0, 1, 2, 3}}}, {[]int{0, 99}, []int{0, 0, 99, 99}, 2, 0, [][]int{{0, 1}, {2, 3}}},
		{[]int{0, 10}, []int{5, 5}, 1, 10, [][]int{{0, 1}}}, {[]int{0, 10}, []int{5, 5}, 2, 10, [][]int{{0, 1}, {}}}, // in the middle: the first site
		{[]int{0, 10, 20}, []int{5, 15}, 1, 10, [][]int{{0, 1}}}, {[]int{0, 10, 20}, []int{5, 15}, 2, 10, [][]int{{0}, {1}}}, {[]int{0, 10, 20}, []int{5, 15}, 3, 10, [][]int{{0}, {1}, {}}},
		{[]int{0, 50, 99}, []int{1, 2, 98}, 2, 4, [][]int{{0, 1}, {2}}}, {[]int{0, 50, 99}, []int{1, 2, 98}, 1, 101, [][]int{{0, 1, 2}}},
		{[]int{10, 20, 30, 40}, []int{0, 12, 18, 33, 45}, 2, 10 + 2 + 8 + 7 + 5, [][]int{{0, 1, 2}, {3, 4}}},
		{[]int{0, 1, 2, 3, 4, 5, 6}, []int{0, 1, 2, 3, 4, 5, 6}, 7, 0, [][]int{{0}, {1}, {2}, {3}, {4}, {5}, {6}}}, {[]int{0, 1, 2, 3, 4, 5, 6}, []int{0, 1, 2, 3, 4, 5, 6}, 1, 12, [][]int{{0, 1, 2, 3, 4, 5, 6}}},
		{[]int{0, 1, 2, 3, 4, 5, 6}, []int{3, 3, 3, 3, 3, 3, 3}, 3, 0, [][]int{{}, {}, {0, 1, 2, 3, 4, 5, 6}}}, // sites without clients
	} {
		checkLineMedian(t, lineOf{c.sites, c.clients}, c.k, c.value, c.groups)
	}
}

func TestP4ManyLines(t *testing.T) {
	for _, l := range append(manyLines(6), smallLines()...) {
		f := lineModel(l.sites, l.clients)
		checkLineField(t, l, f)
		for k := 1; k <= len(l.sites); k++ {
			median, value := medianModel(f, k)
			checkLineMedian(t, l, k, value, groupsModel(servedModel(f, median), median))
		}
	}
}

func checkTreeField(t *testing.T, parents, lengths []int, want impl.Field) {
	t.Helper()
	f, ok := impl.TreeField(parents, lengths)
	if isShort := longest(want) <= impl.MaxLength; ok != isShort || isShort && !sameField(f, want) || !isShort && (len(f.Open) != 0 || len(f.Dist) != 0) {
		t.Errorf("TreeField of %v and %v = %q, %v; the lengths are %q", parents, lengths, textOf(f), ok, textOf(want))
	}
}

func longest(f impl.Field) int {
	greatest := 0
	for _, row := range f.Dist {
		greatest = max(greatest, slices.Max(row))
	}
	return greatest
}

// The lengths of this test were worked out by hand; those that are too great make TreeField fail.
func TestP4TreeFieldsByHand(t *testing.T) {
	for _, c := range []struct {
		parents, lengths []int
		field            string
	}{
		{[]int{-1}, []int{0}, "0 / 0"}, // one node
		{[]int{-1, 0}, []int{0, 0}, "0 0 / 0 0 / 0 0"}, {[]int{-1, 0}, []int{0, 1}, "0 0 / 0 1 / 1 0"}, {[]int{-1, 0}, []int{0, 99}, "0 0 / 0 99 / 99 0"},
		{[]int{-1, 0, 0}, []int{0, 2, 3}, "0 0 0 / 0 2 3 / 2 0 5 / 3 5 0"}, {[]int{-1, 0, 1}, []int{0, 2, 3}, "0 0 0 / 0 2 5 / 2 0 3 / 5 3 0"},
		{[]int{-1, 0, 1}, []int{0, 99, 0}, "0 0 0 / 0 99 99 / 99 0 0 / 99 0 0"}, {[]int{-1, 0, 1}, []int{0, 98, 1}, "0 0 0 / 0 98 99 / 98 0 1 / 99 1 0"},
		{[]int{-1, 0, 1}, []int{0, 98, 2}, "0 0 0 / 0 98 100 / 98 0 2 / 100 2 0"}, {[]int{-1, 0, 1}, []int{0, 99, 99}, "0 0 0 / 0 99 198 / 99 0 99 / 198 99 0"},
		{[]int{-1, 0, 0}, []int{0, 50, 49}, "0 0 0 / 0 50 49 / 50 0 99 / 49 99 0"}, {[]int{-1, 0, 0}, []int{0, 50, 50}, "0 0 0 / 0 50 50 / 50 0 100 / 50 100 0"},
		{[]int{-1, 0, 0, 1, 1}, []int{0, 1, 2, 4, 8}, "0 0 0 0 0 / 0 1 2 5 9 / 1 0 3 4 8 / 2 3 0 7 11 / 5 4 7 0 12 / 9 8 11 12 0"},
		{[]int{-1, 0, 1, 2, 3, 4, 5}, []int{0, 16, 16, 16, 17, 17, 17}, "0 0 0 0 0 0 0 / 0 16 32 48 65 82 99 / 16 0 16 32 49 66 83 / 32 16 0 16 33 50 67 / 48 32 16 0 17 34 51 / 65 49 33 17 0 17 34 / 82 66 50 34 17 0 17 / 99 83 67 51 34 17 0"},
		{[]int{-1, 0, 0, 0, 0, 0, 0}, []int{0, 0, 0, 0, 0, 0, 0}, "0 0 0 0 0 0 0 / 0 0 0 0 0 0 0 / 0 0 0 0 0 0 0 / 0 0 0 0 0 0 0 / 0 0 0 0 0 0 0 / 0 0 0 0 0 0 0 / 0 0 0 0 0 0 0 / 0 0 0 0 0 0 0"},
	} {
		checkTreeField(t, c.parents, c.lengths, fieldOf(c.field))
	}
}

func checkMajority(t *testing.T, parents, weights []int, want int) {
	t.Helper()
	if node, ok := impl.MajorityNode(parents, weights); !ok || node != want {
		t.Errorf("MajorityNode of %v and %v = %d, %v; want %d", parents, weights, node, ok, want)
	}
}

// The nodes of this test were worked out by hand.
func TestP4MajorityNodesByHand(t *testing.T) {
	for _, c := range []struct {
		parents, weights []int
		node             int
	}{
		{[]int{-1, 0, 0}, []int{1, 5, 1}, 1},
		{[]int{-1}, []int{0}, 0}, {[]int{-1}, []int{1}, 0}, {[]int{-1}, []int{99}, 0}, // one node
		{[]int{-1, 0}, []int{0, 0}, 0}, {[]int{-1, 0}, []int{1, 1}, 0}, {[]int{-1, 0}, []int{0, 1}, 1}, {[]int{-1, 0}, []int{1, 2}, 1}, {[]int{-1, 0}, []int{2, 1}, 0}, // just half
		{[]int{-1, 0}, []int{99, 99}, 0}, {[]int{-1, 0}, []int{98, 99}, 1}, {[]int{-1, 0}, []int{0, 99}, 1}, {[]int{-1, 0}, []int{99, 0}, 0},
		{[]int{-1, 0, 1}, []int{1, 1, 1}, 1}, {[]int{-1, 0, 1}, []int{2, 1, 1}, 0}, {[]int{-1, 0, 1}, []int{1, 1, 2}, 1}, {[]int{-1, 0, 1}, []int{1, 0, 2}, 2}, {[]int{-1, 0, 1}, []int{1, 0, 1}, 0}, {[]int{-1, 0, 1}, []int{0, 1, 1}, 1},
		{[]int{-1, 0, 1}, []int{1, 1, 3}, 2}, {[]int{-1, 0, 1}, []int{0, 0, 1}, 2}, {[]int{-1, 0, 1}, []int{0, 0, 0}, 0}, // without weights
		{[]int{-1, 0, 0}, []int{0, 1, 1}, 0}, {[]int{-1, 0, 0}, []int{0, 1, 2}, 2}, {[]int{-1, 0, 0}, []int{1, 1, 2}, 0}, {[]int{-1, 0, 0}, []int{1, 0, 2}, 2},
		{[]int{-1, 0, 1, 1, 1}, []int{1, 0, 1, 1, 1}, 1}, {[]int{-1, 0, 1, 1, 1}, []int{3, 0, 1, 1, 1}, 0}, {[]int{-1, 0, 1, 1, 1}, []int{2, 0, 1, 1, 1}, 1}, {[]int{-1, 0, 1, 1, 1}, []int{1, 0, 1, 3, 1}, 1}, {[]int{-1, 0, 1, 1, 1}, []int{1, 0, 1, 4, 1}, 3},
		{[]int{-1, 0, 1, 2, 3, 4, 5}, []int{1, 1, 1, 1, 1, 1, 1}, 3}, {[]int{-1, 0, 1, 2, 3, 4, 5}, []int{0, 1, 1, 1, 1, 1, 1}, 3}, {[]int{-1, 0, 1, 2, 3, 4, 5}, []int{0, 0, 0, 0, 0, 0, 1}, 6},
		{[]int{-1, 0, 0, 0, 0, 0, 0}, []int{0, 99, 99, 99, 99, 99, 99}, 0}, {[]int{-1, 0, 0, 1, 1, 2, 2}, []int{1, 1, 1, 1, 1, 1, 1}, 0}, {[]int{-1, 0, 0, 1, 1, 2, 2}, []int{1, 1, 1, 3, 3, 1, 1}, 1}, // 7 of 11
	} {
		checkMajority(t, c.parents, c.weights, c.node)
	}
}

func TestP4ManyTrees(t *testing.T) {
	n := &numbers{state: 44}
	for _, parents := range allTrees(impl.MaxSites) {
		for _, lengths := range n.lengthsFrom(len(parents)) {
			checkTreeField(t, parents, lengths, treeModel(parents, lengths))
		}
		for _, weights := range n.weightsFrom(len(parents)) {
			checkMajority(t, parents, weights, majorityModel(parents, weights))
		}
	}
}

// All weights in 0..3 for all trees with at most four nodes.
func TestP4MajorityNodesOfSmallTrees(t *testing.T) {
	for _, parents := range allTrees(4) {
		for code := range 1 << (2 * len(parents)) {
			weights := []int{}
			for node := range parents {
				weights = append(weights, code>>(2*node)&3)
			}
			checkMajority(t, parents, weights, majorityModel(parents, weights))
		}
	}
}

// The rest of this file tells guarantees of the program's own results alone.

func TestP4LinesAreToldByTables(t *testing.T) {
	for _, l := range append(manyLines(4), smallLines()...) {
		f, one := impl.LineField(l.sites, l.clients)
		metric, two := impl.IsMetric(f)
		if !one || !two || !metric {
			t.Fatalf("LineField of %v and %v = %q, %v; IsMetric is %v, %v", l.sites, l.clients, textOf(f), one, metric, two)
		}
		for k := 1; k <= len(l.sites); k++ {
			value, one := impl.MedianValue(f, k)
			sum, two := impl.LineMedian(l.sites, l.clients, k)
			if !one || !two || value != sum {
				t.Fatalf("LineMedian of %v and %v for %d = %d, %v; MedianValue of the Field is %d, %v", l.sites, l.clients, k, sum, two, value, one)
			}
			checkLineGroups(t, l, k, sum)
		}
	}
}

// checkLineGroups tests that the groups have all clients, one after the other,
// and that they are those of a set with the value.
func checkLineGroups(t *testing.T, l lineOf, k, value int) {
	t.Helper()
	groups, ok := impl.LineGroups(l.sites, l.clients, k)
	f, _ := impl.LineField(l.sites, l.clients)
	all := []int{}
	for client := range l.clients {
		all = append(all, client)
	}
	reached := false
	for _, set := range setsModel(len(l.sites)) {
		service, _ := impl.ServiceOf(f, set)
		served, _ := impl.ClientsOf(f, set)
		reached = reached || len(set) == k && service == value && sameRows(served, groups)
	}
	if !ok || len(groups) != k || !slices.Equal(slices.Concat(groups...), all) || !reached {
		t.Errorf("LineGroups of %v and %v for %d = %v, %v; the value is %d", l.sites, l.clients, k, groups, ok, value)
	}
}

func TestP4TreesAreMetricAndMajorityNodesAreMedians(t *testing.T) {
	n := &numbers{state: 45}
	for _, parents := range allTrees(6) {
		for _, lengths := range n.lengthsFrom(len(parents)) {
			f, ok := impl.TreeField(parents, lengths)
			if !ok {
				continue
			}
			if metric, ok := impl.IsMetric(f); !ok || !metric {
				t.Fatalf("TreeField of %v and %v = %q; IsMetric is %v, %v", parents, lengths, textOf(f), metric, ok)
			}
			for _, weights := range n.weightsFrom(len(parents)) {
				checkIsMedian(t, f, parents, weights)
			}
		}
	}
}

func checkIsMedian(t *testing.T, f impl.Field, parents, weights []int) {
	t.Helper()
	middle, ok := impl.MajorityNode(parents, weights)
	sums := []int{}
	for node := range parents {
		sum := 0
		for client, row := range f.Dist {
			sum += weights[client] * row[node]
		}
		sums = append(sums, sum)
	}
	if !ok || middle < 0 || middle >= len(sums) || sums[middle] > slices.Min(sums) {
		t.Fatalf("MajorityNode of %v and %v = %d, %v; the sums of %q are %v", parents, weights, middle, ok, textOf(f), sums)
	}
}

// Where each node counts once, the majority node has the value for 1.
func TestP4MajorityNodesHaveTheValueForOne(t *testing.T) {
	n := &numbers{state: 46}
	for _, parents := range allTrees(impl.MaxSites) {
		middle, _ := impl.MajorityNode(parents, slices.Repeat([]int{1}, len(parents)))
		for _, lengths := range n.lengthsFrom(len(parents)) {
			f, ok := impl.TreeField(parents, lengths)
			value, fine := impl.MedianValue(f, 1)
			service, _ := impl.ServiceOf(f, []int{middle})
			if ok && (!fine || service != value) {
				t.Fatalf("MajorityNode of %v = %d; its service in %q is %d, and the value for 1 %d", parents, middle, textOf(f), service, value)
			}
		}
	}
}
