package tests

import (
	"slices"
	"testing"

	"loop.example/g01110/impl"
)

func TestP13GrowthFunctionsModifyAndShareNothing(t *testing.T) {
	for _, f := range append(memoryFields(), lowFields()[:100]...) {
		for name, of := range growthCalls() {
			checkMemory(t, name, f, nil, func(f impl.Field, _ []int) outcome { return of(f) })
		}
	}
}

func TestP13PriceFunctionsModifyAndShareNothing(t *testing.T) {
	n := &numbers{state: 37}
	for _, f := range memoryFields() {
		for _, prices := range pricesFor(f, n) {
			for _, calls := range []map[string]func(impl.Field, []int) outcome{priceCalls(), fairCalls()} {
				for name, of := range calls {
					checkMemory(t, name, f, prices, of)
				}
			}
		}
	}
}

func TestP13OpeningFunctionsModifyAndShareNothing(t *testing.T) {
	for _, f := range memoryFields() {
		for name, of := range openingCalls() {
			for _, set := range setsModel(len(f.Open)) {
				checkMemory(t, name, f, set, of)
			}
		}
	}
}

func TestP13PricesBesideSetsAreNotModified(t *testing.T) {
	for _, f := range memoryFields() {
		prices := ascentModel(f)
		given := roomy(prices)
		for _, set := range setsModel(len(f.Open)) {
			checkMemory(t, "PriceGap", f, set, func(f impl.Field, set []int) outcome { return ofNumber(impl.PriceGap(f, given, set)) })
			checkMemory(t, "PricesMeet", f, set, func(f impl.Field, set []int) outcome { return ofReport(impl.PricesMeet(f, given, set)) })
		}
		if !asRoomy(given, prices) {
			t.Errorf("PriceGap or PricesMeet of %q modifies the prices: %v", textOf(f), given)
		}
	}
}

func TestP13FailuresOfChapter3ModifyNothing(t *testing.T) {
	for _, f := range badFields() {
		for name, of := range growthCalls() {
			checkMemory(t, name, f, nil, func(f impl.Field, _ []int) outcome { return of(f) })
		}
		for name, of := range openingCalls() {
			checkMemory(t, name, f, []int{0}, of)
		}
	}
	f := fieldOf("3 1 4 / 0 4 2 / 5 1 3")
	for _, calls := range []map[string]func(impl.Field, []int) outcome{priceCalls(), fairCalls()} {
		for name, of := range calls {
			for _, prices := range badPrices(2) {
				checkMemory(t, name, f, prices, of)
			}
		}
	}
	for name, of := range openingCalls() {
		for _, set := range badSets(3) {
			checkMemory(t, name, f, set, of)
		}
	}
}

// One list may be an argument in several places.
func TestP13ListsOfChapter3ThatAreGivenSeveralTimes(t *testing.T) {
	list := []int{0, 1, 2}
	f := impl.Field{Open: list, Dist: [][]int{list, list, list}}
	apart := fieldOf("0 1 2 / 0 1 2 / 0 1 2 / 0 1 2")
	for name, of := range growthCalls() {
		if got, want := of(f).text(), of(apart).text(); got != want {
			t.Errorf("%s = %s; want %s", name, got, want)
		}
	}
	for _, calls := range []map[string]func(impl.Field, []int) outcome{priceCalls(), fairCalls(), openingCalls()} {
		for name, of := range calls {
			if got, want := of(f, list).text(), of(apart, []int{0, 1, 2}).text(); got != want {
				t.Errorf("%s = %s; want %s", name, got, want)
			}
		}
	}
	if !slices.Equal(list, []int{0, 1, 2}) {
		t.Errorf("the list is now %v", list)
	}
}
