package tests

import (
	"slices"
	"strings"
	"testing"

	"loop.example/g01110/impl"
)

// gainArguments has what the functions of chapter 8 take, but for tables, each a part of it.
type gainArguments struct {
	f               impl.Field
	worth           int
	set             []int
	site, k         int
	classes, limits []int
	budget, part    int
}

// gainCalls has the functions of chapter 8 that take a Field. Behind a name come
// those parts of the arguments for which, beside the Field, the function fails
// if they are not valid: w for the worth, s for the set, e if it fails for the
// set without sites, too, i for the site, k, c for classes, l for limits, b for
// the budget and p for the part.
func gainCalls() map[string]func(a gainArguments) outcome {
	return map[string]func(a gainArguments) outcome{
		"GainOf ws":        func(a gainArguments) outcome { return ofNumber(impl.GainOf(a.f, a.worth, a.set)) },
		"MarginalGain wsi": func(a gainArguments) outcome { return ofNumber(impl.MarginalGain(a.f, a.worth, a.set, a.site)) },
		"GainTable w":      func(a gainArguments) outcome { return ofList(impl.GainTable(a.f, a.worth)) },
		"BestGain wk":      func(a gainArguments) outcome { return ofList(impl.BestGain(a.f, a.worth, a.k)) },
		"GreedyGain wk":    func(a gainArguments) outcome { return ofList(impl.GreedyGain(a.f, a.worth, a.k)) },
		"LazyGain wk":      func(a gainArguments) outcome { return ofPartial(impl.LazyGain(a.f, a.worth, a.k)) },
		"UpperGain wsk":    func(a gainArguments) outcome { return ofNumber(impl.UpperGain(a.f, a.worth, a.set, a.k)) },
		"LeastUpper wk":    func(a gainArguments) outcome { return ofNumber(impl.LeastUpper(a.f, a.worth, a.k)) },
		"IsAllowed scl":    func(a gainArguments) outcome { return ofReport(impl.IsAllowed(a.f, a.classes, a.limits, a.set)) },
		"BestAllowed wcl":  func(a gainArguments) outcome { return ofList(impl.BestAllowed(a.f, a.worth, a.classes, a.limits)) },
		"GreedyAllowed wcl": func(a gainArguments) outcome {
			return ofList(impl.GreedyAllowed(a.f, a.worth, a.classes, a.limits))
		},
		"BestBudget wb":    func(a gainArguments) outcome { return ofList(impl.BestBudget(a.f, a.worth, a.budget)) },
		"RatioGain wb":     func(a gainArguments) outcome { return ofList(impl.RatioGain(a.f, a.worth, a.budget)) },
		"WorthReached sep": func(a gainArguments) outcome { return ofNumber(impl.WorthReached(a.f, a.set, a.part)) },
	}
}

// gainSamples has valid arguments of all sizes; the set has all sites but one.
func gainSamples(state uint32) []gainArguments {
	list := []gainArguments{}
	n := &numbers{state: state}
	for _, f := range fieldsOfAllSizes(state) {
		sites := len(f.Open)
		site := n.below(sites)
		set := slices.Delete(allBelow(sites), site, site+1)
		list = append(list, gainArguments{f, n.below(1000), set, site, n.below(8), n.listFrom(sites, 6), n.listFrom(7, 7), n.below(10000), n.below(1001)})
	}
	return list
}

// checkGainParts calls all functions that take a part that is not valid.
func checkGainParts(t *testing.T, name, part string, bad gainArguments) {
	t.Helper()
	checkFailures(t, name, part, textOf(bad.f)+" for "+listOf(bad.set), gainCalls(), bad)
}

// checkFailures calls those of some functions that take a part of arguments,
// which is not valid; the text tells the other parts.
func checkFailures[A any](t *testing.T, name, part, text string, calls map[string]func(a A) outcome, bad A) {
	t.Helper()
	for call, of := range calls {
		if !strings.Contains(partsOf(call), part) {
			continue
		}
		if got := of(bad); !got.isZero() {
			t.Errorf("%s: %s of %s = %s", name, call, text, got.text())
		}
	}
}

func TestP8ArgumentsThatAreValid(t *testing.T) {
	for _, a := range gainSamples(104) {
		for _, number := range []int{0, 1, 6, 7} { // each number is at one of its ends, too
			for _, end := range []int{0, 1} {
				a.k, a.worth, a.budget, a.part = number, end*impl.MaxWorth, end*9999, end*1000
				a.classes, a.limits = slices.Repeat([]int{min(number, 6)}, len(a.f.Open)), slices.Repeat([]int{number}, 7)
				for call, of := range gainCalls() {
					got := of(a)
					mayFail := call == "WorthReached sep" && (len(a.set) == 0 || len(a.f.Dist) < 2)
					if !got.ok && (!mayFail || !got.isZero()) {
						t.Errorf("%s of %q for %v = %s", call, textOf(a.f), a.set, got.text())
					}
				}
			}
		}
	}
}

func TestP8FieldsThatAreNotValid(t *testing.T) {
	for name, f := range badFields() {
		for _, sites := range []int{len(f.Open), 1, 2, 3, 7} {
			for _, set := range [][]int{nil, {0}, {0, 1}, {1}, {7}, {-1}, allBelow(7)} {
				for _, k := range []int{0, 1, 7} {
					bad := gainArguments{f, 100 * k, set, k, k, make([]int, min(sites, 1000)), slices.Repeat([]int{7}, 7), 1000 * k, k}
					for call, of := range gainCalls() {
						if got := of(bad); !got.isZero() {
							t.Errorf("%s: %s for %v and %d = %s", name, call, set, k, got.text())
						}
					}
				}
			}
		}
	}
}

func TestP8NumbersThatAreNotValid(t *testing.T) {
	for _, a := range gainSamples(105) {
		sites := len(a.f.Open)
		for _, worth := range outside(impl.MaxWorth) {
			bad := a
			bad.worth = worth
			checkGainParts(t, "worth "+listOf([]int{worth}), "w", bad)
		}
		for _, site := range append(outside(sites-1), a.set...) {
			bad := a
			bad.site = site
			checkGainParts(t, "site "+listOf([]int{site}), "i", bad)
		}
		for _, k := range outside(impl.MaxSites) {
			bad := a
			bad.k = k
			checkGainParts(t, "k "+listOf([]int{k}), "k", bad)
		}
		for _, budget := range outside(9999) {
			bad := a
			bad.budget = budget
			checkGainParts(t, "budget "+listOf([]int{budget}), "b", bad)
		}
		for _, part := range outside(1000) {
			bad := a
			bad.part = part
			checkGainParts(t, "part "+listOf([]int{part}), "p", bad)
		}
	}
}

func TestP8ListsThatAreNotValid(t *testing.T) {
	for _, a := range gainSamples(106) {
		sites := len(a.f.Open)
		for _, set := range badSets(sites) {
			bad := a
			bad.set = set
			checkGainParts(t, "set", "s", bad)
		}
		for _, set := range [][]int{nil, {}} {
			bad := a
			bad.set, bad.part = set, 0
			checkGainParts(t, "set without sites", "e", bad)
		}
		for _, classes := range badLists(sites, 6) {
			bad := a
			bad.classes = classes
			checkGainParts(t, "classes "+listOf(classes[:min(9, len(classes))]), "c", bad)
		}
		for _, limits := range badLists(7, 7) {
			bad := a
			bad.limits = limits
			checkGainParts(t, "limits "+listOf(limits[:min(9, len(limits))]), "l", bad)
		}
	}
}

// With one site and one client, there is little that could be taken at all.
func TestP8ArgumentsOfLeastFieldsThatAreNotValid(t *testing.T) {
	good := gainArguments{fieldOf("0 / 0"), 0, nil, 0, 0, []int{0}, make([]int, 7), 0, 0}
	for _, n := range []int{-1, 10000} {
		bad := good
		bad.worth, bad.site, bad.k, bad.budget, bad.part = n, n, n, n, n
		bad.classes, bad.limits, bad.set = []int{n}, slices.Repeat([]int{n}, 7), []int{n}
		for _, part := range []string{"w", "i", "k", "b", "p", "c", "l", "s"} {
			checkGainParts(t, "all", part, bad)
		}
		one := good
		one.k = n
		checkGainParts(t, "k", "k", one)
		one = good
		one.budget = n
		checkGainParts(t, "budget", "b", one)
		one = good
		one.worth = n
		checkGainParts(t, "worth", "w", one)
	}
}

// A nil slice is the same as an empty one.
func TestP8NilAndEmptyListsAreTheSame(t *testing.T) {
	for _, open := range [][]int{{5}, {3, 1}, {0, 0, 0}} {
		one := gainArguments{impl.Field{Open: open}, 9, nil, 0, 1, make([]int, len(open)), limitsOf(1), 5, 0}
		two := one
		two.f.Dist, two.set = [][]int{}, []int{}
		for call, of := range gainCalls() {
			if a, b := of(one), of(two); a.text() != b.text() || !a.ok && call != "WorthReached sep" {
				t.Errorf("%s of %v = %s and %s", call, open, a.text(), b.text())
			}
		}
	}
}
