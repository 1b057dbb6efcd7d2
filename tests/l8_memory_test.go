package tests

import (
	"slices"
	"testing"

	"loop.example/g01110/impl"
)

// checkGainMemory tells checkMemory all lists of the arguments as lengths of a
// Field, behind those of the clients.
func checkGainMemory(t *testing.T, name string, a gainArguments, of func(a gainArguments) outcome) {
	t.Helper()
	clients := len(a.f.Dist)
	lists := slices.Concat(a.f.Dist, [][]int{a.classes, a.limits})
	checkMemory(t, name, impl.Field{Open: a.f.Open, Dist: lists}, a.set, func(f impl.Field, set []int) outcome {
		given, rest := f.Dist[:clients], f.Dist[clients:]
		return of(gainArguments{impl.Field{Open: f.Open, Dist: given}, a.worth, set, a.site, a.k, rest[0], rest[1], a.budget, a.part})
	})
}

// checkAllGainMemory calls all functions of chapter 8 that take a Field.
func checkAllGainMemory(t *testing.T, a gainArguments) {
	t.Helper()
	for call, of := range gainCalls() {
		checkGainMemory(t, call, a, of)
	}
}

func checkTableMemory(t *testing.T, n int, table []int) {
	t.Helper()
	checkMemory(t, "IsMonotone", impl.Field{}, table, func(_ impl.Field, table []int) outcome { return ofReport(impl.IsMonotone(n, table)) })
	checkMemory(t, "IsSubmodular", impl.Field{}, table, func(_ impl.Field, table []int) outcome { return ofReport(impl.IsSubmodular(n, table)) })
}

func TestP13GainFunctionsModifyAndShareNothing(t *testing.T) {
	n := &numbers{state: 107}
	for _, p := range manyPrizes(1) {
		sites := len(p.f.Open)
		classes, limits := n.rulesFor(sites)
		for range 2 {
			checkAllGainMemory(t, gainArguments{p.f, p.worth, n.setFrom(sites), n.below(sites), n.below(8), classes, limits, n.below(50 * sites), n.below(200)})
		}
		checkTableMemory(t, sites, p.gains)
		checkTableMemory(t, sites, n.listFrom(1<<sites, 1000000))
	}
}

func TestP13FailuresOfChapter8ModifyNothing(t *testing.T) {
	limits := slices.Repeat([]int{7}, 7)
	for _, f := range badFields() {
		checkAllGainMemory(t, gainArguments{f, 9, []int{0}, 1, 1, make([]int, len(f.Open)), limits, 9, 9})
	}
	good := gainArguments{fieldOf(trio), 10, []int{1}, 0, 2, []int{2, 0, 1}, limits, 11, 9}
	for _, set := range badSets(3) {
		a := good
		a.set = set
		checkAllGainMemory(t, a)
	}
	for _, classes := range badLists(3, 6) {
		a := good
		a.classes = classes
		checkAllGainMemory(t, a)
	}
	for _, limits := range badLists(7, 7) {
		a := good
		a.limits = limits
		checkAllGainMemory(t, a)
	}
	for _, number := range outside(9999) {
		checkAllGainMemory(t, gainArguments{good.f, number, good.set, number, number, good.classes, good.limits, number, number})
		checkTableMemory(t, number, make([]int, 8))
		checkTableMemory(t, 3, []int{0, 1, 2, 3, 4, 5, 6, 1000001 + max(number, 0)>>1})
	}
	checkTableMemory(t, 3, []int{0, 1, 2, 3, 4, 5, 6})
}

// One list may be an argument in several places.
func TestP13ListsOfChapter8ThatAreGivenSeveralTimes(t *testing.T) {
	list := []int{0, 1, 2, 3, 4, 5, 6}
	apart := func() []int { return []int{0, 1, 2, 3, 4, 5, 6} }
	one := gainArguments{impl.Field{Open: list, Dist: [][]int{list, list, list}}, 9, list, 0, 3, list, list, 9, 5}
	two := gainArguments{impl.Field{Open: apart(), Dist: [][]int{apart(), apart(), apart()}}, 9, apart(), 0, 3, apart(), apart(), 9, 5}
	for range 2 {
		for call, of := range gainCalls() {
			if got, want := of(one).text(), of(two).text(); got != want {
				t.Errorf("%s = %s; want %s", call, got, want)
			}
		}
		one.set, two.set = list[1:], apart()[1:] // without the site 0
	}
	sites, ok := impl.GreedyAllowed(one.f, 9, list, list)
	if !ok || !slices.Equal(sites, []int{1}) {
		t.Errorf("GreedyAllowed = %v, %v; want [1]", sites, ok)
	}
	if !slices.Equal(list, apart()) {
		t.Errorf("the list is now %v", list)
	}
}
