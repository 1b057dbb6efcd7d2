package tests

import (
	"slices"
	"testing"

	"loop.example/g01110/impl"
)

// rowsOfPairs gives the pairs as lists that have the memory of the pairs themselves.
func rowsOfPairs(pairs [][2]int) [][]int {
	rows := [][]int{}
	for place := range pairs {
		rows = append(rows, pairs[place][:])
	}
	return rows
}

func checkGrowth(t *testing.T, f impl.Field, prices, times, witnesses []int, conflicts [][]int, set []int) {
	t.Helper()
	got, ok := impl.GrowthPrices(f)
	checkList(t, "GrowthPrices", f, nil, got, ok, prices)
	got, ok = impl.TightTimes(f)
	checkList(t, "TightTimes", f, nil, got, ok, times)
	got, ok = impl.WitnessesOf(f)
	checkList(t, "WitnessesOf", f, nil, got, ok, witnesses)
	got, ok = impl.GrowthSet(f)
	checkList(t, "GrowthSet", f, nil, got, ok, set)
	if pairs, ok := impl.ConflictsOf(f); !ok || !sameRows(rowsOfPairs(pairs), conflicts) {
		t.Errorf("ConflictsOf %q = %v, %v; want %v", textOf(f), pairs, ok, conflicts)
	}
}

// The numbers of this test were worked out by hand.
func TestP3GrowthByHand(t *testing.T) {
	for _, c := range []struct {
		field                    string
		prices, times, witnesses []int
		conflicts                [][]int
		set                      []int
	}{
		{"4 3 / 1 5 / 6 2", []int{12600, 12600}, []int{12600, 12600}, []int{0, 1}, nil, []int{0, 1}},
		{"1 / 0", []int{2520}, []int{2520}, []int{0}, nil, []int{0}},
		{"1 / 0 / 0 / 0 / 0 / 0 / 0 / 0", []int{360, 360, 360, 360, 360, 360, 360}, []int{360}, []int{0, 0, 0, 0, 0, 0, 0}, nil, []int{0}},
		{"99 / 99", []int{498960}, []int{498960}, []int{0}, nil, []int{0}},
		// sites that cost 0 are tight at once, and far prices stop at them
		{"0 / 0", []int{0}, []int{0}, []int{0}, nil, []int{0}},
		{"0 / 5", []int{12600}, []int{0}, []int{0}, nil, []int{0}},
		{"0 / 5 / 0 / 99", []int{12600, 0, 249480}, []int{0}, []int{0, 0, 0}, nil, []int{0}},
		{"0 0 / 5 5", []int{12600}, []int{0, 0}, []int{0}, nil, []int{0, 1}},
		{"0 0 / 5 4", []int{10080}, []int{0, 0}, []int{1}, nil, []int{0, 1}},
		{"0 1 / 5 0", []int{2520}, []int{0, 2520}, []int{1}, nil, []int{0, 1}},
		{"1 9 / 0 9", []int{2520}, []int{2520, -1}, []int{0}, nil, []int{0}},
		// a price stops at both sites: the witness is the one that became tight first
		{"0 2 / 3 1", []int{7560}, []int{0, 7560}, []int{0}, nil, []int{0, 1}},
		{"2 0 / 1 3", []int{7560}, []int{7560, 0}, []int{1}, nil, []int{0, 1}},
		{"3 3 / 1 1", []int{10080}, []int{10080, 10080}, []int{0}, [][]int{{0, 1}}, []int{0}},
		{"3 2 / 0 1", []int{7560}, []int{7560, 7560}, []int{0}, [][]int{{0, 1}}, []int{0}},
		{"2 1 / 1 1", []int{5040}, []int{-1, 5040}, []int{1}, nil, []int{1}},
		// no conflict as long as a price is equal to a length
		{"3 0 / 0 3", []int{7560}, []int{7560, 0}, []int{1}, nil, []int{0, 1}},
		{"3 2 / 0 3 / 99 1", []int{7560, 7560}, []int{7560, 7560}, []int{0, 1}, nil, []int{0, 1}},
		// three prices stop at 1/3, and with them four others make a site tight at 5/12
		{"1 2 / 0 0 / 0 99 / 0 99 / 99 0 / 99 0 / 99 0 / 99 0", []int{840, 840, 840, 1050, 1050, 1050, 1050}, []int{840, 1050}, []int{0, 0, 0, 1, 1, 1, 1}, [][]int{{0, 1}}, []int{0}},
		{"2 1 / 0 0 / 99 0 / 99 0 / 0 99 / 0 99 / 0 99 / 0 99", []int{840, 840, 840, 1050, 1050, 1050, 1050}, []int{1050, 840}, []int{1, 1, 1, 0, 0, 0, 0}, [][]int{{0, 1}}, []int{1}},
		// three sites at the same time, of which the one in the middle is in conflict with both others
		{"1 3 1 / 0 0 9 / 9 0 9 / 9 0 0", []int{2520, 2520, 2520}, []int{2520, 2520, 2520}, []int{0, 1, 1}, [][]int{{0, 1}, {1, 2}}, []int{0, 2}},
		{"2 1 2 / 0 0 9 / 9 0 0", []int{1260, 1260}, []int{-1, 1260, -1}, []int{1, 1}, nil, []int{1}},
		// no clients: growth ends where it begins
		{"5", nil, []int{-1}, nil, nil, []int{0}}, {"0", nil, []int{0}, nil, nil, []int{0}}, {"0 3 0", nil, []int{0, -1, 0}, nil, nil, []int{0}},
		{"3 0 2 0", nil, []int{-1, 0, -1, 0}, nil, nil, []int{1}}, {"3 1 1", nil, []int{-1, -1, -1}, nil, nil, []int{1}},
	} {
		checkGrowth(t, fieldOf(c.field), c.prices, c.times, c.witnesses, c.conflicts, c.set)
	}
}

// lowFields have small costs and many lengths of 0, for times with all denominators.
func lowFields() []impl.Field {
	list := []impl.Field{}
	n := &numbers{state: 34}
	for range 1500 {
		f := n.fieldFrom(1+n.below(7), 4+n.below(4), 5, 4)
		for _, row := range f.Dist {
			for site := range row {
				if n.below(2) == 0 {
					row[site] = n.below(2) * 99
				}
			}
		}
		list = append(list, f)
	}
	return list
}

func TestP3GrowthOfManyFields(t *testing.T) {
	for _, list := range [][]impl.Field{manyFields(4), sparseFields(), lowFields(), smallFields(1, 2, 4), smallFields(2, 1, 5), smallFields(2, 2, 3), smallFields(3, 2, 1)} {
		for _, f := range list {
			g := growthModel(f)
			checkGrowth(t, f, g.prices, g.times, g.witnesses, g.conflicts(), g.set())
		}
	}
}

// The rest of this file tells guarantees of the program's own results alone.

func TestP3GrowthPricesAreFairInTheirUnits(t *testing.T) {
	for _, f := range append(manyFields(4), lowFields()...) {
		prices, one := impl.GrowthPrices(f)
		times, two := impl.TightTimes(f)
		least, _ := impl.BestTotal(f)
		if !one || !two || sumModel(prices) > least*impl.GrowthUnit {
			t.Fatalf("GrowthPrices of %q = %v, %v; BestTotal is %d", textOf(f), prices, one, least)
		}
		for site, cost := range f.Open {
			claim := 0
			for client, row := range f.Dist {
				claim += max(0, prices[client]-row[site]*impl.GrowthUnit)
			}
			if rest := cost*impl.GrowthUnit - claim; rest < 0 || (rest == 0) != (times[site] >= 0) {
				t.Fatalf("%q: the prices %v leave the rest %d at the site %d, which is tight at %d", textOf(f), prices, rest, site, times[site])
			}
		}
	}
}

func TestP3WitnessesAreNear(t *testing.T) {
	for _, f := range append(manyFields(4), lowFields()...) {
		prices, _ := impl.GrowthPrices(f)
		times, _ := impl.TightTimes(f)
		witnesses, ok := impl.WitnessesOf(f)
		for client, witness := range witnesses {
			if !ok || times[witness] < 0 || times[witness] > prices[client] || f.Dist[client][witness]*impl.GrowthUnit > prices[client] {
				t.Fatalf("%q: the client %d has the price %d and the witness %d", textOf(f), client, prices[client], witness)
			}
		}
	}
}

// metricFields are Fields with least ways as their lengths.
func metricFields() []impl.Field {
	list := []impl.Field{}
	for _, f := range append(append(manyFields(4), sparseFields()...), lowFields()...) {
		list = append(list, closeModel(f))
	}
	return list
}

func TestP3GrowthSetIsWithinThreeTimesThePrices(t *testing.T) {
	for _, f := range metricFields() {
		if len(f.Dist) == 0 {
			continue
		}
		prices, _ := impl.GrowthPrices(f)
		set, ok := impl.GrowthSet(f)
		service, one := impl.ServiceOf(f, set)
		payment, two := impl.PaymentOf(f, set)
		if !ok || !one || !two || (3*payment+service)*impl.GrowthUnit > 3*sumModel(prices) {
			t.Fatalf("GrowthSet of %q = %v, %v with the payment %d and the service %d; the prices are %v", textOf(f), set, ok, payment, service, prices)
		}
	}
}

func TestP3GrowthSetHasNoConflicts(t *testing.T) {
	for _, f := range append(manyFields(4), lowFields()...) {
		set, _ := impl.GrowthSet(f)
		times, _ := impl.TightTimes(f)
		pairs, _ := impl.ConflictsOf(f)
		dropped := map[int]bool{}
		for _, pair := range pairs {
			one, two := slices.Contains(set, pair[0]), slices.Contains(set, pair[1])
			if one && two {
				t.Fatalf("GrowthSet of %q = %v has the pair %v", textOf(f), set, pair)
			}
			dropped[pair[0]] = dropped[pair[0]] || two
			dropped[pair[1]] = dropped[pair[1]] || one
		}
		for site, time := range times {
			if len(f.Dist) > 0 && time >= 0 && !dropped[site] && !slices.Contains(set, site) {
				t.Fatalf("GrowthSet of %q = %v is without %d, which is in no conflict with it", textOf(f), set, site)
			}
		}
	}
}
