package tests

import (
	"math"
	"slices"
	"testing"

	"loop.example/g01110/impl"
)

func TestP13CentreFunctionsModifyAndShareNothing(t *testing.T) {
	for _, f := range memoryFields() {
		checkMemory(t, "LengthsOf", f, nil, func(f impl.Field, _ []int) outcome { return ofList(impl.LengthsOf(f)) })
		for name, of := range centreCalls() {
			for _, k := range []int{0, 1, 2, len(f.Open), len(f.Open) + 1} {
				checkMemory(t, name, f, nil, func(f impl.Field, _ []int) outcome { return of(f, k) })
			}
		}
		for name, of := range radiusCalls() {
			for _, r := range []int{-1, 0, 2, 9, 99, math.MaxInt} {
				checkMemory(t, name, f, nil, func(f impl.Field, _ []int) outcome { return of(f, r) })
			}
		}
	}
}

func TestP13GapsModifyNothing(t *testing.T) {
	for _, f := range memoryFields() {
		for i := -1; i <= len(f.Dist); i++ {
			for j := -1; j <= len(f.Dist); j++ {
				checkMemory(t, "GapOf", f, nil, func(f impl.Field, _ []int) outcome { return ofNumber(impl.GapOf(f, i, j)) })
			}
		}
	}
}

func TestP13ReachFunctionsModifyAndShareNothing(t *testing.T) {
	for _, f := range memoryFields() {
		for name, of := range reachCalls() {
			for _, set := range setsModel(len(f.Open)) {
				checkMemory(t, name, f, set, of)
			}
		}
		for name, of := range farCalls() {
			for _, clients := range setsModel(len(f.Dist)) {
				checkMemory(t, name, f, clients, of)
			}
		}
	}
}

func TestP13LineSitesModifyAndShareNothing(t *testing.T) {
	for _, l := range append(manyLines(1), badLines()...) {
		for _, r := range []int{-1, 0, 1, 5, 30, 99, math.MaxInt} {
			checkTwoLists(t, "LineSites", l.sites, l.clients, func(sites, clients []int) outcome { return ofLineSites(lineOf{sites, clients}, r) })
		}
	}
}

func TestP13FailuresOfChapter5ModifyNothing(t *testing.T) {
	for _, f := range badFields() {
		checkMemory(t, "LengthsOf", f, nil, func(f impl.Field, _ []int) outcome { return ofList(impl.LengthsOf(f)) })
		checkMemory(t, "GapOf", f, nil, func(f impl.Field, _ []int) outcome { return ofNumber(impl.GapOf(f, 0, 0)) })
		for _, calls := range []map[string]func(impl.Field, int) outcome{centreCalls(), radiusCalls()} {
			for name, of := range calls {
				checkMemory(t, name, f, nil, func(f impl.Field, _ []int) outcome { return of(f, 1) })
			}
		}
	}
	f := fieldOf("3 1 4 / 0 4 2 / 5 1 3 / 2 2 9")
	for _, calls := range []map[string]func(impl.Field, []int) outcome{reachCalls(), farCalls()} {
		for name, of := range calls {
			for _, list := range badSets(3) {
				checkMemory(t, name, f, list, of)
			}
			for _, bad := range badFields() {
				checkMemory(t, name, bad, []int{0}, of)
			}
		}
	}
}

// One list may be an argument in several places.
func TestP13ListsOfChapter5ThatAreGivenSeveralTimes(t *testing.T) {
	list := []int{0, 1, 2}
	f := impl.Field{Open: list, Dist: [][]int{list, list, list}}
	other := fieldOf("0 1 2 / 0 1 2 / 0 1 2 / 0 1 2")
	for _, calls := range []map[string]func(impl.Field, int) outcome{centreCalls(), radiusCalls()} {
		for name, of := range calls {
			if got, want := of(f, 2).text(), of(other, 2).text(); got != want {
				t.Errorf("%s = %s; want %s", name, got, want)
			}
		}
	}
	for _, calls := range []map[string]func(impl.Field, []int) outcome{reachCalls(), farCalls()} {
		for name, of := range calls {
			for from := range 3 {
				if got, want := of(f, list[from:]).text(), of(other, []int{0, 1, 2}[from:]).text(); got != want {
					t.Errorf("%s = %s; want %s", name, got, want)
				}
			}
		}
	}
	if got, want := ofLineSites(lineOf{list, list}, 1).text(), ofLineSites(lineOf{[]int{0, 1, 2}, []int{0, 1, 2}}, 1).text(); got != want {
		t.Errorf("LineSites = %s; want %s", got, want)
	}
	if !slices.Equal(list, []int{0, 1, 2}) {
		t.Errorf("the list is now %v", list)
	}
}
