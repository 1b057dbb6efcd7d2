package tests

import (
	"slices"
	"testing"

	"loop.example/g01110/impl"
)

func checkMedians(t *testing.T, f impl.Field, k int, median []int, value int, greedy, reverse []int) {
	t.Helper()
	got, ok := impl.MedianOf(f, k)
	checkList(t, "MedianOf", f, []int{k}, got, ok, median)
	number, ok := impl.MedianValue(f, k)
	checkNumber(t, "MedianValue", f, []int{k}, number, ok, value)
	got, ok = impl.GreedyMedian(f, k)
	checkList(t, "GreedyMedian", f, []int{k}, got, ok, greedy)
	got, ok = impl.ReverseMedian(f, k)
	checkList(t, "ReverseMedian", f, []int{k}, got, ok, reverse)
}

func checkSteps(t *testing.T, f impl.Field, want []int) {
	t.Helper()
	got, ok := impl.MedianSteps(f)
	checkList(t, "MedianSteps", f, nil, got, ok, want)
}

// apart has 7 clients at 7 sites that are all far from each other.
const apart = "1 2 3 4 5 6 7 / 0 99 99 99 99 99 99 / 99 0 99 99 99 99 99 / 99 99 0 99 99 99 99 / 99 99 99 0 99 99 99 / 99 99 99 99 0 99 99 / 99 99 99 99 99 0 99 / 99 99 99 99 99 99 0"

// The sets of this test were worked out by hand.
func TestP4MediansByHand(t *testing.T) {
	const middle = "0 0 0 / 0 9 4 / 0 9 4 / 9 0 4 / 9 0 4" // the last site is the best one, but for one site alone
	for _, c := range []struct {
		field           string
		k               int
		median          []int
		value           int
		greedy, reverse []int
	}{
		{"3 1 / 0 4 / 5 1 / 2 2", 1, []int{0}, 7, []int{0}, []int{1}}, // the same service: the first site is taken, and given up
		{"3 1 / 0 4 / 5 1 / 2 2", 2, []int{0, 1}, 3, []int{0, 1}, []int{0, 1}},
		{middle, 1, []int{2}, 16, []int{2}, []int{1}},
		{middle, 2, []int{0, 1}, 0, []int{2, 0}, []int{0, 1}},
		{middle, 3, []int{0, 1, 2}, 0, []int{2, 0, 1}, []int{0, 1, 2}},
		{"5", 1, []int{0}, 0, []int{0}, []int{0}}, // one site, and no clients
		{"5 / 9", 1, []int{0}, 9, []int{0}, []int{0}}, {"0 / 0", 1, []int{0}, 0, []int{0}, []int{0}}, {"0 / 99 / 99 / 99 / 99 / 99 / 99 / 99", 1, []int{0}, 693, []int{0}, []int{0}},
		{"3 1 2", 1, []int{0}, 0, []int{0}, []int{2}}, {"3 1 2", 2, []int{0, 1}, 0, []int{0, 1}, []int{1, 2}}, // opening costs do not count
		{"3 1 2", 3, []int{0, 1, 2}, 0, []int{0, 1, 2}, []int{0, 1, 2}},
		{"99 0 / 1 2", 1, []int{0}, 1, []int{0}, []int{0}}, {"0 99 / 2 1", 1, []int{1}, 1, []int{1}, []int{1}}, {"0 99 / 2 1", 2, []int{0, 1}, 1, []int{1, 0}, []int{0, 1}},
		{"0 0 0 / 5 5 5", 1, []int{0}, 5, []int{0}, []int{2}}, {"0 0 0 / 5 5 5", 2, []int{0, 1}, 5, []int{0, 1}, []int{1, 2}}, // all sets have the same service
		{"0 0 0 / 5 3 3", 1, []int{1}, 3, []int{1}, []int{2}}, {"0 0 0 / 5 3 3", 2, []int{0, 1}, 3, []int{1, 0}, []int{1, 2}},
		{"0 0 0 / 9 9 1 / 1 9 9", 2, []int{0, 2}, 2, []int{0, 2}, []int{0, 2}},
		{apart, 1, []int{0}, 594, []int{0}, []int{6}}, {apart, 6, []int{0, 1, 2, 3, 4, 5}, 99, []int{0, 1, 2, 3, 4, 5}, []int{1, 2, 3, 4, 5, 6}},
		{apart, 7, []int{0, 1, 2, 3, 4, 5, 6}, 0, []int{0, 1, 2, 3, 4, 5, 6}, []int{0, 1, 2, 3, 4, 5, 6}},
	} {
		checkMedians(t, fieldOf(c.field), c.k, c.median, c.value, c.greedy, c.reverse)
	}
	for text, want := range map[string][]int{
		"3 1 / 0 4 / 5 1 / 2 2": {7, 3}, middle: {16, 0, 0}, "5": {0}, "5 / 9": {9}, "3 1 2": {0, 0, 0}, "0 0 0 / 5 5 5": {5, 5, 5}, apart: {594, 495, 396, 297, 198, 99, 0},
	} {
		checkSteps(t, fieldOf(text), want)
	}
}

func TestP4MediansOfManyFields(t *testing.T) {
	for _, list := range [][]impl.Field{manyFields(3), sparseFields()[:150], smallFields(1, 2, 4), smallFields(2, 1, 5), smallFields(2, 2, 2), smallFields(3, 1, 2), smallFields(3, 2, 1)} {
		for _, f := range list {
			sites, greedy, reverse := len(f.Open), greedyModel(f), reverseModel(f)
			for k := 1; k <= sites; k++ {
				median, value := medianModel(f, k)
				left := slices.Clone(reverse[sites-k:])
				slices.Sort(left)
				checkMedians(t, f, k, median, value, greedy[:k], left)
			}
			checkSteps(t, f, valuesModel(f))
		}
	}
}

func checkBound(t *testing.T, f impl.Field, k, price, want int) {
	t.Helper()
	bound, ok := impl.PriceBound(f, k, price)
	checkNumber(t, "PriceBound", f, []int{k, price}, bound, ok, want)
}

func checkBestPrice(t *testing.T, f impl.Field, k, price, bound int) {
	t.Helper()
	gotPrice, gotBound, ok := impl.BestPrice(f, k)
	if !ok || gotPrice != price || gotBound != bound {
		t.Errorf("BestPrice of %q for %d = %d, %d, %v; want %d, %d", textOf(f), k, gotPrice, gotBound, ok, price, bound)
	}
}

// The bounds of this test were worked out by hand.
func TestP4PriceBoundsByHand(t *testing.T) {
	for _, c := range []struct {
		field           string
		k, price, bound int
	}{
		{"3 1 / 0 4 / 5 1 / 2 2", 1, 0, 3}, {"3 1 / 0 4 / 5 1 / 2 2", 1, 3, 6}, {"3 1 / 0 4 / 5 1 / 2 2", 1, 4, 7},
		{"3 1 / 0 4 / 5 1 / 2 2", 1, 5, 7}, {"3 1 / 0 4 / 5 1 / 2 2", 1, 999, 7},
		{"3 1 / 0 4 / 5 1 / 2 2", 2, 0, 3}, {"3 1 / 0 4 / 5 1 / 2 2", 2, 1, 3}, {"3 1 / 0 4 / 5 1 / 2 2", 2, 4, 3},
		{"3 1 / 0 4 / 5 1 / 2 2", 2, 5, 2}, {"3 1 / 0 4 / 5 1 / 2 2", 2, 999, -992},
		{"5", 1, 0, 0}, {"5", 1, 999, 0}, // one site has no other number of sites
		{"5 / 9", 1, 0, 9}, {"5 / 9", 1, 999, 9},
		{"5 6 7", 1, 0, 0}, {"5 6 7", 1, 999, 0}, {"5 6 7", 2, 1, -1}, {"5 6 7", 3, 999, -1998}, // no clients: a set has one site at least
		{apart, 1, 98, 588}, {apart, 1, 99, 594}, {apart, 1, 100, 594}, {apart, 7, 99, 0}, {apart, 7, 100, -6}, {apart, 7, 999, 594 - 6*999}, {apart, 4, 99, 297}, {apart, 4, 98, 294}, {apart, 4, 100, 294},
	} {
		checkBound(t, fieldOf(c.field), c.k, c.price, c.bound)
	}
	for _, c := range []struct {
		field           string
		k, price, bound int
	}{
		{"3 1 / 0 4 / 5 1 / 2 2", 1, 4, 7},
		{"3 1 / 0 4 / 5 1 / 2 2", 2, 0, 3}, // of several prices the least one
		{"5", 1, 0, 0}, {"5 / 9", 1, 0, 9}, {"5 6 7", 1, 0, 0}, {"5 6 7", 2, 0, 0}, {"5 6 7", 3, 0, 0},
		{"0 0 0 / 5 5 5", 2, 0, 5},
		{apart, 1, 99, 594}, {apart, 4, 99, 297}, {apart, 7, 0, 0},
		{"0 0 / 99 0 / 99 0 / 99 0 / 0 99 / 0 99 / 0 99 / 0 99", 1, 297, 297},
		{"0 0 0 / 0 9 4 / 0 9 4 / 9 0 4 / 9 0 4", 1, 16, 16}, {"0 0 0 / 0 9 4 / 0 9 4 / 9 0 4 / 9 0 4", 2, 0, 0},
		// the values are 12, 8, 0 and 0, and no bound for 2 reaches the value
		{"0 0 0 0 / 4 0 9 9 / 4 9 0 9 / 4 9 9 0", 2, 6, 6}, {"0 0 0 0 / 4 0 9 9 / 4 9 0 9 / 4 9 9 0", 1, 6, 12}, {"0 0 0 0 / 4 0 9 9 / 4 9 0 9 / 4 9 9 0", 3, 0, 0},
	} {
		checkBestPrice(t, fieldOf(c.field), c.k, c.price, c.bound)
	}
}

func TestP4PriceBoundsOfManyFields(t *testing.T) {
	for _, list := range [][]impl.Field{manyFields(1), sparseFields()[:60], smallFields(2, 1, 3), smallFields(2, 2, 1), smallFields(3, 1, 1)} {
		for _, f := range list {
			for k := 1; k <= len(f.Open); k++ {
				bounds := boundsModel(f, k)
				best, bound := bestPriceModel(bounds)
				checkBestPrice(t, f, k, best, bound)
				for _, price := range []int{0, 1, 2, 3, best, best + 1, 50, 99, 200, 500, 998, impl.MaxMedianPrice} {
					checkBound(t, f, k, price, bounds[price])
				}
			}
		}
	}
}

// The rest of this file tells guarantees of the program's own results alone.

func TestP4ValuesNeverAscend(t *testing.T) {
	for _, f := range append(manyFields(2), sparseFields()...) {
		steps, ok := impl.MedianSteps(f)
		if !ok || len(steps) != len(f.Open) {
			t.Fatalf("MedianSteps of %q = %v, %v", textOf(f), steps, ok)
		}
		for k := 1; k <= len(f.Open); k++ {
			value, ok := impl.MedianValue(f, k)
			if !ok || steps[k-1] != value || k > 1 && value > steps[k-2] {
				t.Fatalf("MedianSteps of %q = %v; MedianValue for %d = %d, %v", textOf(f), steps, k, value, ok)
			}
		}
	}
}

func TestP4NoSetIsBelowItsMedian(t *testing.T) {
	for _, f := range append(manyFields(2), sparseFields()...) {
		steps, _ := impl.MedianSteps(f)
		for _, set := range setsModel(len(f.Open))[1:] {
			if service, ok := impl.ServiceOf(f, set); !ok || service < steps[len(set)-1] {
				t.Fatalf("ServiceOf %q for %v = %d, %v; MedianSteps are %v", textOf(f), set, service, ok, steps)
			}
		}
	}
}

func TestP4PriceBoundsAreAtMostTheValue(t *testing.T) {
	for _, f := range manyFields(1) {
		for k := 1; k <= len(f.Open); k++ {
			value, _ := impl.MedianValue(f, k)
			_, best, ok := impl.BestPrice(f, k)
			if !ok || best > value || best < 0 {
				t.Fatalf("BestPrice of %q for %d has the bound %d, %v; the value is %d", textOf(f), k, best, ok, value)
			}
			for price := 0; price <= impl.MaxMedianPrice; price += 37 {
				if bound, ok := impl.PriceBound(f, k, price); !ok || bound > best {
					t.Fatalf("PriceBound of %q for %d and %d = %d, %v; the greatest one is %d", textOf(f), k, price, bound, ok, best)
				}
			}
		}
	}
}

func TestP4GreedyForOneAndReverseForAllAreMedians(t *testing.T) {
	for _, f := range append(manyFields(3), sparseFields()...) {
		one, _ := impl.MedianOf(f, 1)
		greedy, ok := impl.GreedyMedian(f, 1)
		checkList(t, "GreedyMedian", f, []int{1}, greedy, ok, one)
		all, _ := impl.MedianOf(f, len(f.Open))
		reverse, ok := impl.ReverseMedian(f, len(f.Open))
		checkList(t, "ReverseMedian", f, []int{len(f.Open)}, reverse, ok, all)
	}
}

func TestP4OpeningCostsDoNotCount(t *testing.T) {
	n := &numbers{state: 42}
	for _, f := range manyFields(1) {
		other := n.fieldFrom(len(f.Open), 0, 99, 0)
		other.Dist = f.Dist
		for k := 1; k <= len(f.Open); k++ {
			for name, of := range medianCalls() {
				if got, want := of(other, k).text(), of(f, k).text(); got != want {
					t.Fatalf("%s of %q for %d = %s; with other opening costs %s", name, textOf(f), k, want, got)
				}
			}
		}
	}
}
