package tests

import (
	"math"
	"slices"
	"strconv"
	"testing"

	"loop.example/g01110/impl"
)

// growthCalls has the functions of chapter 3 that take a Field alone.
func growthCalls() map[string]func(f impl.Field) outcome {
	return map[string]func(f impl.Field) outcome{
		"AscentPrices": func(f impl.Field) outcome { return ofList(impl.AscentPrices(f)) },
		"GrowthPrices": func(f impl.Field) outcome { return ofList(impl.GrowthPrices(f)) },
		"TightTimes":   func(f impl.Field) outcome { return ofList(impl.TightTimes(f)) },
		"WitnessesOf":  func(f impl.Field) outcome { return ofList(impl.WitnessesOf(f)) },
		"ConflictsOf": func(f impl.Field) outcome {
			pairs, ok := impl.ConflictsOf(f)
			return ofRows(rowsOfPairs(pairs), ok)
		},
		"GrowthSet":   func(f impl.Field) outcome { return ofList(impl.GrowthSet(f)) },
		"GreedyStars": func(f impl.Field) outcome { return ofList(impl.GreedyStars(f)) },
	}
}

// priceCalls has the functions that take a Field and any prices.
func priceCalls() map[string]func(f impl.Field, prices []int) outcome {
	return map[string]func(f impl.Field, prices []int) outcome{
		"ClaimsOf":   func(f impl.Field, prices []int) outcome { return ofList(impl.ClaimsOf(f, prices)) },
		"AreFair":    func(f impl.Field, prices []int) outcome { return ofReport(impl.AreFair(f, prices)) },
		"TightSites": func(f impl.Field, prices []int) outcome { return ofList(impl.TightSites(f, prices)) },
	}
}

// fairCalls has the functions that take a Field and fair prices, and perhaps a
// set with the site 0 alone or a value.
func fairCalls() map[string]func(f impl.Field, prices []int) outcome {
	return map[string]func(f impl.Field, prices []int) outcome{
		"PriceGap":         func(f impl.Field, prices []int) outcome { return ofNumber(impl.PriceGap(f, prices, []int{0})) },
		"PricesMeet":       func(f impl.Field, prices []int) outcome { return ofReport(impl.PricesMeet(f, prices, []int{0})) },
		"RestCosts":        func(f impl.Field, prices []int) outcome { return ofList(impl.RestCosts(f, prices)) },
		"ClosedSites 0":    func(f impl.Field, prices []int) outcome { return ofList(impl.ClosedSites(f, prices, 0)) },
		"ClosedSites 1400": func(f impl.Field, prices []int) outcome { return ofList(impl.ClosedSites(f, prices, 1400)) },
	}
}

// openingCalls has the functions that take a Field and a set; those of prices
// take fair ones.
func openingCalls() map[string]func(f impl.Field, set []int) outcome {
	return map[string]func(f impl.Field, set []int) outcome{
		"PriceGap":       func(f impl.Field, set []int) outcome { return ofNumber(impl.PriceGap(f, lowPrices(f), set)) },
		"PricesMeet":     func(f impl.Field, set []int) outcome { return ofReport(impl.PricesMeet(f, lowPrices(f), set)) },
		"IsLocalOpening": func(f impl.Field, set []int) outcome { return ofReport(impl.IsLocalOpening(f, set)) },
		"LocalOpening": func(f impl.Field, set []int) outcome {
			end, moves, ok := impl.LocalOpening(f, set)
			result := ofList(end, ok)
			result.rest = strconv.Itoa(moves)
			return result
		},
	}
}

// lowPrices are fair in any Field: its least lengths, or 0.
func lowPrices(f impl.Field) []int {
	prices := []int{}
	for _, row := range f.Dist {
		if len(row) == 0 {
			return make([]int, len(f.Dist))
		}
		prices = append(prices, min(max(0, slices.Min(row)), impl.MaxLength))
	}
	return prices
}

func TestP3FieldsThatAreNotValid(t *testing.T) {
	for name, f := range badFields() {
		for call, of := range growthCalls() {
			if got := of(f); !got.isZero() {
				t.Errorf("%s: %s = %s", name, call, got.text())
			}
		}
		for _, calls := range []map[string]func(impl.Field, []int) outcome{priceCalls(), fairCalls()} {
			for call, of := range calls {
				for _, prices := range [][]int{nil, {0}, {0, 0}, {1, 1, 1}, {-1}, make([]int, len(f.Dist)), lowPrices(f)} {
					if got := of(f, prices); !got.isZero() {
						t.Errorf("%s: %s for %.60s = %s", name, call, listOf(prices), got.text())
					}
				}
			}
		}
		for call, of := range openingCalls() {
			for _, set := range [][]int{nil, {0}, {0, 1}, {1}, {7}, {-1}} {
				if got := of(f, set); !got.isZero() {
					t.Errorf("%s: %s for %v = %s", name, call, set, got.text())
				}
			}
		}
	}
}

// badPrices gives lists that are no prices for so many clients.
func badPrices(clients int) [][]int {
	list := [][]int{make([]int, clients+1), slices.Repeat([]int{1}, clients+1), make([]int, clients+100), make([]int, 100000), {0, 0, 0, 0, 0, 0, 0, 0}, {-1, 0, 0, 0, 0, 0, 0, 0}}
	for less := range clients {
		list = append(list, make([]int, less))
	}
	if clients > 0 {
		list = append(list, nil)
	}
	for _, n := range []int{-1, impl.MaxClientPrice + 1, -2, 502, 1000, math.MinInt, math.MaxInt, math.MinInt + 1, 1 << 32, -1 << 32, 1<<32 + 1, 1 << 62, 1260000} {
		list = append(list, slices.Repeat([]int{n}, max(clients, 1)))
		for client := range clients {
			prices := make([]int, clients)
			prices[client] = n
			list = append(list, prices)
		}
	}
	return list
}

func TestP3PricesThatAreNotValid(t *testing.T) {
	n := &numbers{state: 35}
	for sites := 1; sites <= impl.MaxSites; sites++ {
		for clients := 0; clients <= impl.MaxClients; clients++ {
			f := n.fieldFrom(sites, clients, 99, 99)
			for _, prices := range badPrices(clients) {
				for _, calls := range []map[string]func(impl.Field, []int) outcome{priceCalls(), fairCalls()} {
					for call, of := range calls {
						if got := of(f, prices); !got.isZero() {
							t.Errorf("%s of %q for %.60s = %s", call, textOf(f), listOf(prices), got.text())
						}
					}
				}
			}
		}
	}
}

// Prices of 0 and of MaxClientPrice are prices, fair or not.
func TestP3LimitsOfPrices(t *testing.T) {
	for _, f := range manyFields(1) {
		for client := range f.Dist {
			for _, price := range []int{0, 1, impl.MaxClientPrice - 1, impl.MaxClientPrice} {
				prices := lowPrices(f)
				prices[client] = price
				fair := fairModel(f, prices)
				for call, of := range priceCalls() {
					if got := of(f, prices); !got.ok {
						t.Errorf("%s of %q for %v = %s", call, textOf(f), prices, got.text())
					}
				}
				for call, of := range fairCalls() {
					if got := of(f, prices); got.ok != fair || !fair && !got.isZero() {
						t.Errorf("%s of %q for %v = %s; they are fair: %v", call, textOf(f), prices, got.text(), fair)
					}
				}
			}
		}
	}
}

func TestP3SetsThatAreNotValid(t *testing.T) {
	n := &numbers{state: 36}
	for sites := 1; sites <= impl.MaxSites; sites++ {
		for _, clients := range []int{0, 1, 3, 7} {
			f := n.fieldFrom(sites, clients, 9, 9)
			for call, of := range openingCalls() {
				for _, set := range append(badSets(sites), nil, []int{}) {
					if got := of(f, set); !got.isZero() {
						t.Errorf("%s of %q for %.60s = %s", call, textOf(f), listOf(set), got.text())
					}
				}
			}
		}
	}
}

func TestP3ValuesThatAreNotValid(t *testing.T) {
	for _, text := range []string{"5", "0", "0 0 / 0 0", "4 3 / 1 5 / 6 2", "99 / 99"} {
		f := fieldOf(text)
		prices := lowPrices(f)
		for _, value := range []int{-1, 1401, -2, 1402, 2000, math.MinInt, math.MaxInt, math.MinInt + 1, math.MaxInt - 1, 1 << 32, -1 << 32, 1<<32 + 700} {
			got, ok := impl.ClosedSites(f, prices, value)
			checkNoList(t, "ClosedSites", f, append(prices, value), got, ok)
		}
		for _, value := range []int{0, 1, 700, 1399, 1400} {
			if got, ok := impl.ClosedSites(f, prices, value); !ok {
				t.Errorf("ClosedSites of %q for %v and %d = %v, %v", text, prices, value, got, ok)
			}
		}
	}
}

func TestP3NamedLimits(t *testing.T) {
	if impl.GrowthUnit != 2520 || impl.MaxClientPrice != 500 {
		t.Errorf("GrowthUnit is %d and MaxClientPrice %d", impl.GrowthUnit, impl.MaxClientPrice)
	}
}
