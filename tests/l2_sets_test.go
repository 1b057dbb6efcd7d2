package tests

import (
	"slices"
	"testing"

	"loop.example/g01110/impl"
)

func checkNumber(t *testing.T, name string, f impl.Field, set []int, got int, ok bool, want int) {
	t.Helper()
	if !ok || got != want {
		t.Errorf("%s of %q for %v = %d, %v; want %d", name, textOf(f), set, got, ok, want)
	}
}

func checkList(t *testing.T, name string, f impl.Field, set, got []int, ok bool, want []int) {
	t.Helper()
	if !ok || !slices.Equal(got, want) {
		t.Errorf("%s of %q for %v = %v, %v; want %v", name, textOf(f), set, got, ok, want)
	}
}

func checkServed(t *testing.T, f impl.Field, set, served []int) {
	t.Helper()
	got, ok := impl.ServedBy(f, set)
	checkList(t, "ServedBy", f, set, got, ok, served)
	groups, idle := groupsModel(served, set), []int{}
	for place, group := range groups {
		if len(group) == 0 {
			idle = append(idle, set[place])
		}
	}
	if got, ok := impl.ClientsOf(f, set); !ok || !sameRows(got, groups) {
		t.Errorf("ClientsOf %q for %v = %v, %v; want %v", textOf(f), set, got, ok, groups)
	}
	got, ok = impl.IdleSites(f, set)
	checkList(t, "IdleSites", f, set, got, ok, idle)
}

func checkPayment(t *testing.T, f impl.Field, set []int, want int) {
	t.Helper()
	payment, ok := impl.PaymentOf(f, set)
	checkNumber(t, "PaymentOf", f, set, payment, ok, want)
}

func checkSums(t *testing.T, f impl.Field, set []int, service, payment, reach int) {
	t.Helper()
	got, ok := impl.ServiceOf(f, set)
	checkNumber(t, "ServiceOf", f, set, got, ok, service)
	checkPayment(t, f, set, payment)
	got, ok = impl.TotalOf(f, set)
	checkNumber(t, "TotalOf", f, set, got, ok, service+payment)
	got, ok = impl.ReachOf(f, set)
	checkNumber(t, "ReachOf", f, set, got, ok, reach)
}

func checkBest(t *testing.T, f impl.Field, set []int, total int) {
	t.Helper()
	best, ok := impl.BestSet(f)
	checkList(t, "BestSet", f, nil, best, ok, set)
	least, ok := impl.BestTotal(f)
	checkNumber(t, "BestTotal", f, nil, least, ok, total)
}

func checkNeeded(t *testing.T, f impl.Field, want []int) {
	t.Helper()
	needed, ok := impl.NeededSites(f)
	checkList(t, "NeededSites", f, nil, needed, ok, want)
}

// The numbers of this test were worked out by hand.
func TestP2SetsByHand(t *testing.T) {
	for _, c := range []struct {
		field                   string
		set, served             []int
		service, payment, reach int
	}{
		{"3 1 / 0 4 / 5 1 / 2 2", []int{0}, []int{0, 0, 0}, 7, 3, 5},
		{"3 1 / 0 4 / 5 1 / 2 2", []int{1}, []int{1, 1, 1}, 7, 1, 4},
		{"3 1 / 0 4 / 5 1 / 2 2", []int{0, 1}, []int{0, 1, 0}, 3, 4, 2},
		{"5", []int{0}, []int{}, 0, 5, 0},
		{"5 6", []int{0, 1}, []int{}, 0, 11, 0},
		{"0 / 0", []int{0}, []int{0}, 0, 0, 0},
		{"99 / 99", []int{0}, []int{0}, 99, 99, 99},
		{"1 2 4 / 9 9 9 / 9 8 8 / 7 8 9", []int{0, 1, 2}, []int{0, 1, 0}, 24, 7, 9},
		{"1 2 4 / 9 9 9 / 9 8 8 / 7 8 9", []int{1, 2}, []int{1, 1, 1}, 25, 6, 9},
		{"1 2 4 / 9 9 9 / 9 8 8 / 7 8 9", []int{2}, []int{2, 2, 2}, 26, 4, 9},
		{"1 2 4 / 9 9 9 / 9 8 8 / 7 8 9", []int{0, 2}, []int{0, 2, 0}, 24, 5, 9},
		{"0 0 0 / 3 2 1 / 1 2 3", []int{0, 1, 2}, []int{2, 0}, 2, 0, 1},
	} {
		f := fieldOf(c.field)
		checkServed(t, f, c.set, c.served)
		checkSums(t, f, c.set, c.service, c.payment, c.reach)
	}
}

func TestP2BestSetsByHand(t *testing.T) {
	for _, c := range []struct {
		field string
		set   []int
		total int
	}{
		{"3 1 / 0 4 / 5 1 / 2 2", []int{0, 1}, 7},
		{"5", []int{0}, 5},
		{"0 / 0", []int{0}, 0},
		{"99 / 99", []int{0}, 198},
		{"3 1 2", []int{1}, 1},                         // no clients: one site, the cheapest one
		{"2 1 1", []int{1}, 1},                         // the first one of two
		{"0 0 0 / 4 4 4", []int{0}, 4},                 // all sets have the same total
		{"2 2 / 1 0 / 0 1", []int{0}, 3},               // and so have {0} and {1}, but not {0, 1}
		{"1 1 9 / 0 1 0 / 1 0 1", []int{0}, 2},         // {0} and {1} and {0, 1} have it: fewer sites come first
		{"0 2 / 2 0", []int{0}, 2},                     // {0} and {1} and {0, 1} again, and {0, 1} is before {1} as a list
		{"1 0 / 0 1", []int{0}, 1},                     // {0}, {1} and {0, 1}
		{"5 0 0 / 9 0 8 / 9 8 0", []int{1, 2}, 0},      // two sites that are the last ones
		{"0 0 0 / 5 0 9 / 9 0 5 / 9 9 9", []int{1}, 9}, // one in the middle
		{"0 0 0 / 1 0 2 / 1 2 0 / 0 9 9", []int{0, 1, 2}, 0},
		{"0 0 0 0 / 0 9 9 0 / 9 0 0 9", []int{0, 1}, 0}, // four pairs have the same total
		{"1 0 / 5 6", []int{0}, 6},                      // the first one has the greater cost
		{"7 0 9 / 0 9 1", []int{0}, 7},
	} {
		checkBest(t, fieldOf(c.field), c.set, c.total)
	}
}

func TestP2NeededSitesByHand(t *testing.T) {
	for _, c := range []struct {
		field  string
		needed []int
	}{
		{"5", []int{0}}, {"5 / 3", []int{0}}, {"3 1 / 0 4 / 5 1 / 2 2", []int{0, 1}},
		{"4 4 2 2 3 2 4", []int{2}},                                      // no clients: the first one of the cheapest
		{"0 0 0 / 0 0 0", []int{0}}, {"4 4 4 / 2 2 2 / 5 5 5", []int{0}}, // the same
		{"5 4 4 / 2 2 2 / 5 5 5", []int{1}}, {"4 5 4 / 2 2 2 / 5 5 5", []int{0}},
		{"4 4 / 2 2 / 5 4", []int{1}}, {"4 4 / 2 2 / 4 5", []int{0}}, // one length less
		{"4 3 / 2 2 / 5 5", []int{1}}, {"3 4 / 2 2 / 5 5", []int{0}}, // the cost less
		{"4 3 / 2 3 / 5 5", []int{0, 1}}, {"4 4 / 2 3 / 5 4", []int{0, 1}}, {"3 4 / 3 2 / 5 5", []int{0, 1}},
		{"1 2 3 / 3 2 1", []int{0, 1, 2}}, {"3 2 1 / 3 2 1", []int{2}}, {"1 2 3 / 1 2 3", []int{0}},
		{"2 3 1 / 2 3 1", []int{2}}, {"1 1 2 2 / 3 3 0 0", []int{0, 2}}, {"99 0 / 0 99", []int{0, 1}},
	} {
		checkNeeded(t, fieldOf(c.field), c.needed)
	}
}

func TestP2SwapSitesByHand(t *testing.T) {
	f := fieldOf("1 1 1 1 1 / 2 2 2 2 2")
	for _, c := range []struct {
		set     []int
		out, in int
		want    []int
	}{
		{[]int{0}, 0, 1, []int{1}}, {[]int{4}, 4, 0, []int{0}}, {[]int{0, 1}, 0, 4, []int{1, 4}}, {[]int{3, 4}, 4, 0, []int{0, 3}},
		{[]int{1, 3}, 1, 2, []int{2, 3}}, {[]int{1, 3}, 3, 2, []int{1, 2}}, {[]int{0, 1, 2, 3}, 0, 4, []int{1, 2, 3, 4}},
		{[]int{0, 2, 4}, 2, 3, []int{0, 3, 4}}, {[]int{0, 2, 4}, 4, 1, []int{0, 1, 2}}, {[]int{1, 2, 3, 4}, 4, 0, []int{0, 1, 2, 3}},
	} {
		got, ok := impl.SwapSites(f, c.set, c.out, c.in)
		checkList(t, "SwapSites", f, c.set, got, ok, c.want)
	}
	for _, c := range [][]int{{0, 0}, {1, 1}, {0, 1}, {2, 0}, {2, 4}, {1, -1}, {1, 5}, {-1, 0}, {5, 0}, {0, 2}, {-1, -1}, {5, 5}, {3, 3}} {
		checkNoSwap(t, f, []int{1, 3}, c[0], c[1])
	}
	checkNoSwap(t, f, []int{0, 1, 2, 3, 4}, 2, 2)
}

func checkNoSwap(t *testing.T, f impl.Field, set []int, out, in int) {
	t.Helper()
	if got, ok := impl.SwapSites(f, set, out, in); ok || len(got) != 0 {
		t.Errorf("SwapSites(%q, %v, %d, %d) = %v, %v; want none, false", textOf(f), set, out, in, got, ok)
	}
}

// checkAllSets compares everything that chapter 2 says of the sets of a Field with the model.
func checkAllSets(t *testing.T, f impl.Field) {
	t.Helper()
	if !impl.IsField(f) {
		t.Errorf("IsField(%q) = false", textOf(f))
	}
	checkPayment(t, f, nil, 0)
	checkPayment(t, f, []int{}, 0)
	for _, set := range setsModel(len(f.Open))[1:] {
		service, reach := serviceModel(f, set)
		checkServed(t, f, set, servedModel(f, set))
		checkSums(t, f, set, service, paymentModel(f, set), reach)
	}
	best, least := bestModel(f)
	checkBest(t, f, best, least)
	checkNeeded(t, f, neededModel(f))
}

func TestP2AllSetsOfNamedFields(t *testing.T) {
	for _, f := range namedFields() {
		checkAllSets(t, f)
	}
}

func TestP2AllSetsOfManyFields(t *testing.T) {
	for _, f := range manyFields(2) {
		checkAllSets(t, f)
	}
}

func TestP2AllSetsOfSmallFields(t *testing.T) {
	for _, list := range [][]impl.Field{
		smallFields(1, 0, 5), smallFields(1, 2, 3), smallFields(2, 0, 5), smallFields(2, 1, 4), smallFields(2, 2, 2), smallFields(3, 1, 2), smallFields(3, 2, 1),
	} {
		for _, f := range list {
			checkAllSets(t, f)
		}
	}
}

func TestP2AllSwaps(t *testing.T) {
	n := &numbers{state: 9}
	for sites := 1; sites <= impl.MaxSites; sites++ {
		f := n.fieldFrom(sites, sites%3, 9, 9)
		for _, set := range setsModel(sites) {
			for out := -2; out <= sites+1; out++ {
				for in := -2; in <= sites+1; in++ {
					checkSwap(t, f, set, out, in)
				}
			}
		}
	}
}

func checkSwap(t *testing.T, f impl.Field, set []int, out, in int) {
	t.Helper()
	if !slices.Contains(set, out) || in < 0 || in >= len(f.Open) || slices.Contains(set, in) {
		checkNoSwap(t, f, set, out, in)
		return
	}
	want := []int{}
	for site := range f.Open {
		if site == in || site != out && slices.Contains(set, site) {
			want = append(want, site)
		}
	}
	got, ok := impl.SwapSites(f, set, out, in)
	checkList(t, "SwapSites", f, set, got, ok, want)
}

// The guarantee at the chapter's end, of the program's own results alone.
func TestP2FurtherSitesNeverMakeServiceOrReachGreater(t *testing.T) {
	for _, f := range manyFields(1) {
		least, ok := impl.BestTotal(f)
		if !ok {
			t.Fatalf("BestTotal of %q fails", textOf(f))
		}
		for _, set := range setsModel(len(f.Open))[1:] {
			service, _ := impl.ServiceOf(f, set)
			reach, _ := impl.ReachOf(f, set)
			if total, ok := impl.TotalOf(f, set); !ok || total < least {
				t.Fatalf("TotalOf %q for %v = %d, %v; BestTotal is %d", textOf(f), set, total, ok, least)
			}
			for site := range f.Open {
				if slices.Contains(set, site) {
					continue
				}
				more := append(slices.Clone(set), site)
				slices.Sort(more)
				further, one := impl.ServiceOf(f, more)
				farthest, two := impl.ReachOf(f, more)
				if !one || !two || further > service || farthest > reach {
					t.Fatalf("%q: %v has service %d and reach %d, %v has %d, %v and %d, %v", textOf(f), set, service, reach, more, further, one, farthest, two)
				}
			}
		}
	}
}

func TestP2BestSetOfNeededSitesAlone(t *testing.T) {
	for _, f := range manyFields(1) {
		needed, ok := impl.NeededSites(f)
		if !ok || len(needed) == 0 {
			t.Fatalf("NeededSites of %q = %v, %v", textOf(f), needed, ok)
		}
		least, _ := impl.BestTotal(f)
		found := false
		for _, places := range setsModel(len(needed))[1:] {
			set := []int{}
			for _, place := range places {
				set = append(set, needed[place])
			}
			total, ok := impl.TotalOf(f, set)
			found = found || ok && total == least
		}
		if !found {
			t.Fatalf("%q: no set of %v has the total %d", textOf(f), needed, least)
		}
	}
}
