package tests

import (
	"slices"
	"testing"

	"loop.example/g01110/impl"
)

func checkReport(t *testing.T, name string, f impl.Field, list []int, got, ok, want bool) {
	t.Helper()
	if !ok || got != want {
		t.Errorf("%s of %q for %v = %v, %v; want %v", name, textOf(f), list, got, ok, want)
	}
}

func checkNoList(t *testing.T, name string, f impl.Field, list, got []int, ok bool) {
	t.Helper()
	if ok || len(got) != 0 {
		t.Errorf("%s of %q for %v = %v, %v; want none, false", name, textOf(f), list, got, ok)
	}
}

// checkRests compares everything that follows from the rest costs, which are
// less than 0 for claims that are too great.
func checkRests(t *testing.T, f impl.Field, prices, rests []int) {
	t.Helper()
	claims, tight, fair := []int{}, []int{}, true
	for site, rest := range rests {
		claims = append(claims, f.Open[site]-rest)
		if rest == 0 {
			tight = append(tight, site)
		}
		fair = fair && rest >= 0
	}
	got, ok := impl.ClaimsOf(f, prices)
	checkList(t, "ClaimsOf", f, prices, got, ok, claims)
	got, ok = impl.TightSites(f, prices)
	checkList(t, "TightSites", f, prices, got, ok, tight)
	report, ok := impl.AreFair(f, prices)
	checkReport(t, "AreFair", f, prices, report, ok, fair)
	got, ok = impl.RestCosts(f, prices)
	if fair {
		checkList(t, "RestCosts", f, prices, got, ok, rests)
	} else {
		checkNoList(t, "RestCosts", f, prices, got, ok)
	}
	checkClosedSites(t, f, prices, rests, fair)
}

func checkClosedSites(t *testing.T, f impl.Field, prices, rests []int, fair bool) {
	t.Helper()
	sum := sumModel(prices)
	values := []int{0, 1, 1399, 1400, sum - 1, sum, sum + 1}
	for _, rest := range rests {
		values = append(values, sum+rest-1, sum+rest, sum+rest+1)
	}
	for _, value := range values {
		got, ok := impl.ClosedSites(f, prices, value)
		if !fair || value < 0 || value > 1400 {
			checkNoList(t, "ClosedSites", f, prices, got, ok)
			continue
		}
		closed := []int{}
		for site, rest := range rests {
			if sum+rest > value {
				closed = append(closed, site)
			}
		}
		checkList(t, "ClosedSites", f, append(slices.Clone(prices), value), got, ok, closed)
	}
}

func checkGap(t *testing.T, f impl.Field, prices, set []int, gap int, meet bool) {
	t.Helper()
	got, ok := impl.PriceGap(f, prices, set)
	checkNumber(t, "PriceGap for "+listOf(prices), f, set, got, ok, gap)
	report, ok := impl.PricesMeet(f, prices, set)
	checkReport(t, "PricesMeet for "+listOf(prices), f, set, report, ok, meet)
}

func checkNoGap(t *testing.T, f impl.Field, prices, set []int) {
	t.Helper()
	if got, ok := impl.PriceGap(f, prices, set); ok || got != 0 {
		t.Errorf("PriceGap of %q for %v and %v = %d, %v; want 0, false", textOf(f), prices, set, got, ok)
	}
	if got, ok := impl.PricesMeet(f, prices, set); ok || got {
		t.Errorf("PricesMeet of %q for %v and %v = %v, %v; want false, false", textOf(f), prices, set, got, ok)
	}
}

// The numbers of this test were worked out by hand.
func TestP3RestCostsByHand(t *testing.T) {
	for _, c := range []struct {
		field         string
		prices, rests []int
	}{
		{"4 3 / 1 5 / 6 2", []int{5, 5}, []int{0, 0}},
		{"4 3 / 1 5 / 6 2", []int{0, 0}, []int{4, 3}},
		{"4 3 / 1 5 / 6 2", []int{1, 2}, []int{4, 3}}, // a price that is equal to a length claims nothing
		{"4 3 / 1 5 / 6 2", []int{2, 3}, []int{3, 2}},
		{"4 3 / 1 5 / 6 2", []int{6, 5}, []int{-1, -1}},
		{"4 3 / 1 5 / 6 2", []int{5, 6}, []int{0, -1}},
		{"4 3 / 1 5 / 6 2", []int{6, 0}, []int{-1, 2}},
		{"4 3 / 1 5 / 6 2", []int{0, 5}, []int{4, 0}},
		{"5", []int{}, []int{5}}, {"0", []int{}, []int{0}}, {"2 0 7 0", []int{}, []int{2, 0, 7, 0}},
		{"0 / 0", []int{0}, []int{0}}, {"0 / 0", []int{1}, []int{-1}}, {"0 / 7", []int{7}, []int{0}}, {"0 / 7", []int{8}, []int{-1}},
		{"99 / 99", []int{198}, []int{0}}, {"99 / 99", []int{199}, []int{-1}}, {"99 / 0", []int{99}, []int{0}}, {"99 / 0", []int{100}, []int{-1}},
		{"99 / 0", []int{500}, []int{-401}}, {"0 / 99", []int{500}, []int{-401}}, {"9 / 1 / 1 / 1", []int{4, 4, 4}, []int{0}}, {"9 / 1 / 1 / 1", []int{4, 4, 5}, []int{-1}},
		{"99 99 / 0 99 / 0 99 / 0 99 / 0 99 / 0 99 / 0 99 / 0 99", []int{500, 500, 500, 500, 500, 500, 500}, []int{99 - 3500, 99 - 2807}},
		{"1 0 5 / 3 3 4 / 0 9 2", []int{3, 1}, []int{0, 0, 5}}, // a site that costs 0 is tight
	} {
		checkRests(t, fieldOf(c.field), c.prices, c.rests)
	}
}

// Totals, prices and what they prove, worked out by hand.
func TestP3PriceGapsByHand(t *testing.T) {
	for _, c := range []struct {
		field       string
		prices, set []int
		gap         int
		meet        bool
	}{
		{"4 3 / 1 5 / 6 2", []int{5, 5}, []int{1}, 0, true},
		{"4 3 / 1 5 / 6 2", []int{5, 5}, []int{0}, 1, false}, // the second client pays less than its length
		{"4 3 / 1 5 / 6 2", []int{5, 5}, []int{0, 1}, 0, true},
		{"4 3 / 1 5 / 6 2", []int{0, 0}, []int{1}, 10, false},
		{"4 3 / 1 5 / 6 2", []int{5, 4}, []int{1}, 1, false}, // the site is not tight
		{"2 2 / 0 0", []int{2}, []int{0}, 0, true},           // both are tight
		{"2 2 / 0 0", []int{2}, []int{1}, 0, true},           // and each one alone is least
		{"2 2 / 0 0", []int{2}, []int{0, 1}, 2, false},       // the price is greater than the other length
		{"3 2 / 0 1", []int{3}, []int{0, 1}, 2, false},       // here, too, though not by as much
		{"3 0 / 0 3", []int{3}, []int{0, 1}, 0, true},        // but it may be equal to it
		{"3 0 / 3 0", []int{0}, []int{0, 1}, 3, false},       // not tight
		{"0 3 / 3 0", []int{3}, []int{0}, 0, true},
		{"0 0 / 3 3", []int{3}, []int{0, 1}, 0, true},                         // several sets with the same total
		{"0 0 / 3 3", []int{2}, []int{0, 1}, 1, false},                        // less than all lengths
		{"5", []int{}, []int{0}, 5, false}, {"0", []int{}, []int{0}, 0, true}, // no clients
		{"0 0", []int{}, []int{0, 1}, 0, true}, {"0 1", []int{}, []int{0, 1}, 1, false}, {"0 1", []int{}, []int{1}, 1, false}, {"1 0", []int{}, []int{1}, 0, true},
		{"99 / 99", []int{198}, []int{0}, 0, true}, {"99 / 99", []int{197}, []int{0}, 1, false}, {"0 / 0", []int{0}, []int{0}, 0, true},
		{"0 / 99 / 99 / 99 / 99 / 99 / 99 / 99", []int{99, 99, 99, 99, 99, 99, 99}, []int{0}, 0, true},
	} {
		checkGap(t, fieldOf(c.field), c.prices, c.set, c.gap, c.meet)
	}
	for _, c := range []struct {
		field       string
		prices, set []int
	}{
		{"4 3 / 1 5 / 6 2", []int{6, 5}, []int{0}}, {"4 3 / 1 5 / 6 2", []int{6, 0}, []int{1}}, {"4 3 / 1 5 / 6 2", []int{5, 6}, []int{0, 1}}, {"0 / 0", []int{1}, []int{0}},
		{"9 0 / 9 3", []int{4}, []int{0}}, {"99 / 0", []int{500}, []int{0}}, {"4 3 / 1 5 / 6 2", []int{5, 5}, []int{}}, {"5", []int{}, []int{}},
	} {
		checkNoGap(t, fieldOf(c.field), c.prices, c.set)
	}
}

func TestP3AscentPricesByHand(t *testing.T) {
	for text, want := range map[string][]int{
		"5": {}, "0": {}, "3 0 2": {}, "0 / 0": {0}, "0 / 5": {5}, "5 / 0": {5}, "99 / 99": {198}, "99 99 / 99 99": {198}, "99 0 / 99 99": {99},
		"4 3 / 1 5 / 6 2": {5, 5},
		"0 5 / 3 1":       {3},    // a site that costs 0 holds the price back
		"2 / 0 / 0":       {2, 0}, // the first client takes all
		"0 0 / 0 9 / 9 0": {0, 0}, "7 7 / 0 0": {7}, "7 3 / 0 0": {3},
		"4 9 / 1 3 / 2 1":       {5, 2},        // 3 and 2 in the first round, 5 and 2 in the second one
		"9 9 / 1 3 / 2 1":       {10, 2},       // 3 and 2, and then all that is left of the first site
		"1 1 1 / 0 9 9 / 9 0 9": {1, 1},        // a rest before the next length
		"3 3 / 0 3 / 3 0":       {3, 3},        // a rest that leads just as far as the next length
		"6 6 / 1 1 / 1 1 / 1 1": {7, 1, 1},     // all lengths are the same
		"2 2 / 0 2 / 0 4 / 4 0": {2, 0, 2},     // up to the next length, and no further
		"0 0 0 / 1 2 3 / 3 2 1": {1, 1},        // sites without a cost
		"5 0 / 0 4 / 0 4":       {4, 1},        // one is held back by each site
		"1 2 3 4 5 6 7":         {},            // 7 sites without clients
		"50 / 9 / 8 / 7 / 6":    {59, 8, 7, 6}, // one site
	} {
		got, ok := impl.AscentPrices(fieldOf(text))
		checkList(t, "AscentPrices", fieldOf(text), nil, got, ok, want)
	}
}

// checkAllPrices compares everything that chapter 3 says of prices with the model.
func checkAllPrices(t *testing.T, f impl.Field, prices []int) {
	t.Helper()
	checkRests(t, f, prices, restsModel(f, prices))
	for _, set := range setsModel(len(f.Open))[1:] {
		if !fairModel(f, prices) {
			checkNoGap(t, f, prices, set)
			continue
		}
		gap, meet := totalModel(f, set)-sumModel(prices), meetModel(f, prices, set)
		if gap < 0 || meet != (gap == 0) {
			t.Fatalf("the model has the gap %d and %v for %q, %v and %v", gap, meet, textOf(f), prices, set)
		}
		checkGap(t, f, prices, set, gap, meet)
	}
}

func TestP3PricesOfManyFields(t *testing.T) {
	n := &numbers{state: 31}
	for _, f := range manyFields(1) {
		for _, prices := range pricesFor(f, n) {
			checkAllPrices(t, f, prices)
		}
	}
}

func TestP3AllPricesOfSmallFields(t *testing.T) {
	for _, f := range append(smallFields(1, 1, 3), append(smallFields(2, 1, 3), smallFields(2, 2, 1)...)...) {
		for first := range 6 {
			for second := range 6 {
				prices := []int{first, second}[:len(f.Dist)]
				checkAllPrices(t, f, prices)
			}
		}
	}
}

func TestP3AscentPricesOfManyFields(t *testing.T) {
	for _, list := range [][]impl.Field{manyFields(8), sparseFields(), smallFields(1, 2, 4), smallFields(2, 1, 5), smallFields(2, 2, 3), smallFields(3, 2, 1)} {
		for _, f := range list {
			got, ok := impl.AscentPrices(f)
			checkList(t, "AscentPrices", f, nil, got, ok, ascentModel(f))
		}
	}
}

// The promise, of the program's own results alone.
func TestP3FairPricesAreAtMostEachTotal(t *testing.T) {
	n := &numbers{state: 32}
	for _, f := range manyFields(1) {
		for _, prices := range pricesFor(f, n) {
			if fair, ok := impl.AreFair(f, prices); !ok || !fair {
				continue
			}
			for _, set := range setsModel(len(f.Open))[1:] {
				total, _ := impl.TotalOf(f, set)
				gap, one := impl.PriceGap(f, prices, set)
				meet, two := impl.PricesMeet(f, prices, set)
				if !one || !two || gap < 0 || gap != total-sumModel(prices) || meet != (gap == 0) {
					t.Fatalf("%q: for %v and %v the gap is %d, %v, and PricesMeet %v, %v", textOf(f), prices, set, gap, one, meet, two)
				}
			}
		}
	}
}

func TestP3AscentPricesAreFair(t *testing.T) {
	for _, f := range manyFields(4) {
		prices, ok := impl.AscentPrices(f)
		fair, fine := impl.AreFair(f, prices)
		least, _ := impl.BestTotal(f)
		if !ok || !fine || !fair || sumModel(prices) > least {
			t.Fatalf("AscentPrices of %q = %v, %v; AreFair is %v, %v, and BestTotal %d", textOf(f), prices, ok, fair, fine, least)
		}
		// No price alone can be raised any more.
		for client := range prices {
			prices[client]++
			if fair, ok := impl.AreFair(f, prices); !ok || fair {
				t.Fatalf("%q: %v is fair, too", textOf(f), prices)
			}
			prices[client]--
		}
	}
}

func TestP3NoSetWithAClosedSiteHasTheValue(t *testing.T) {
	n := &numbers{state: 33}
	for _, f := range manyFields(1) {
		sets := setsModel(len(f.Open))[1:]
		for _, prices := range pricesFor(f, n) {
			for _, set := range sets {
				total, _ := impl.TotalOf(f, set)
				closed, ok := impl.ClosedSites(f, prices, total)
				if !ok && fairModel(f, prices) {
					t.Fatalf("ClosedSites of %q for %v and %d fails", textOf(f), prices, total)
				}
				for _, site := range closed {
					if slices.Contains(set, site) {
						t.Fatalf("%q: %v has the total %d, but %v are closed for it by %v", textOf(f), set, total, closed, prices)
					}
				}
			}
		}
	}
}
