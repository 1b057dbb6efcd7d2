package tests

import (
	"slices"
	"testing"

	"loop.example/g01110/impl"
)

func TestP13MedianFunctionsModifyAndShareNothing(t *testing.T) {
	for _, f := range memoryFields() {
		checkMemory(t, "MedianSteps", f, nil, func(f impl.Field, _ []int) outcome { return ofList(impl.MedianSteps(f)) })
		for name, of := range medianCalls() {
			for _, k := range []int{0, 1, 2, len(f.Open), len(f.Open) + 1} {
				checkMemory(t, name, f, nil, func(f impl.Field, _ []int) outcome { return of(f, k) })
			}
		}
	}
}

func TestP13SwapFunctionsModifyAndShareNothing(t *testing.T) {
	for _, f := range memoryFields() {
		for name, of := range swapCalls() {
			for _, set := range setsModel(len(f.Open)) {
				checkMemory(t, name, f, set, of)
			}
		}
	}
}

// checkTwoLists tells checkMemory two lists as the opening costs of a Field and a set.
func checkTwoLists(t *testing.T, name string, one, two []int, of func(one, two []int) outcome) {
	t.Helper()
	checkMemory(t, name, impl.Field{Open: one}, two, func(f impl.Field, set []int) outcome { return of(f.Open, set) })
}

func TestP13LineFunctionsModifyAndShareNothing(t *testing.T) {
	for _, l := range append(manyLines(1), badLines()...) {
		for name, of := range lineCalls() {
			for k := range 4 {
				checkTwoLists(t, name, l.sites, l.clients, func(sites, clients []int) outcome { return of(lineOf{sites, clients}, k) })
			}
		}
	}
}

func TestP13TreeFunctionsModifyAndShareNothing(t *testing.T) {
	n := &numbers{state: 49}
	for _, parents := range append(allTrees(5), badParents()...) {
		for name, of := range treeCalls() {
			for _, list := range append(n.lengthsFrom(max(1, len(parents))), badForTree(min(3, len(parents)))...) {
				checkTwoLists(t, name, parents, list, of)
			}
		}
	}
}

func TestP13FailuresOfChapter4ModifyNothing(t *testing.T) {
	for _, f := range badFields() {
		for name, of := range medianCalls() {
			checkMemory(t, name, f, nil, func(f impl.Field, _ []int) outcome { return of(f, 1) })
		}
		for name, of := range swapCalls() {
			checkMemory(t, name, f, []int{0}, of)
		}
	}
	f := fieldOf("3 1 4 / 0 4 2 / 5 1 3")
	for name, of := range swapCalls() {
		for _, set := range badSets(3) {
			checkMemory(t, name, f, set, of)
		}
	}
}

// One list may be an argument in several places.
func TestP13ListsOfChapter4ThatAreGivenSeveralTimes(t *testing.T) {
	list := []int{0, 1, 2}
	f := impl.Field{Open: list, Dist: [][]int{list, list, list}}
	apart := fieldOf("0 1 2 / 0 1 2 / 0 1 2 / 0 1 2")
	for name, of := range medianCalls() {
		if got, want := of(f, 2).text(), of(apart, 2).text(); got != want {
			t.Errorf("%s = %s; want %s", name, got, want)
		}
	}
	for name, of := range swapCalls() {
		for from := range 3 {
			if got, want := of(f, list[from:]).text(), of(apart, []int{0, 1, 2}[from:]).text(); got != want {
				t.Errorf("%s = %s; want %s", name, got, want)
			}
		}
	}
	for name, of := range lineCalls() {
		if got, want := of(lineOf{list, list}, 2).text(), of(lineOf{[]int{0, 1, 2}, []int{0, 1, 2}}, 2).text(); got != want {
			t.Errorf("%s = %s; want %s", name, got, want)
		}
	}
	if !slices.Equal(list, []int{0, 1, 2}) {
		t.Errorf("the list is now %v", list)
	}
}
