package tests

import (
	"math"
	"slices"
	"strconv"
	"testing"

	"loop.example/g01110/impl"
)

// ofPair gives two numbers as one text, which is that of a single 0 if both are 0.
func ofPair(a, b int, ok bool) outcome {
	if a == 0 && b == 0 {
		return outcome{nil, "0", ok}
	}
	return outcome{nil, strconv.Itoa(a) + " and " + strconv.Itoa(b), ok}
}

// medianCalls has the functions of chapter 4 that take a Field and a number of sites.
func medianCalls() map[string]func(f impl.Field, k int) outcome {
	return map[string]func(f impl.Field, k int) outcome{
		"MedianOf":       func(f impl.Field, k int) outcome { return ofList(impl.MedianOf(f, k)) },
		"MedianValue":    func(f impl.Field, k int) outcome { return ofNumber(impl.MedianValue(f, k)) },
		"GreedyMedian":   func(f impl.Field, k int) outcome { return ofList(impl.GreedyMedian(f, k)) },
		"ReverseMedian":  func(f impl.Field, k int) outcome { return ofList(impl.ReverseMedian(f, k)) },
		"PriceBound 0":   func(f impl.Field, k int) outcome { return ofNumber(impl.PriceBound(f, k, 0)) },
		"PriceBound 7":   func(f impl.Field, k int) outcome { return ofNumber(impl.PriceBound(f, k, 7)) },
		"PriceBound 999": func(f impl.Field, k int) outcome { return ofNumber(impl.PriceBound(f, k, impl.MaxMedianPrice)) },
		"BestPrice":      func(f impl.Field, k int) outcome { return ofPair(impl.BestPrice(f, k)) },
	}
}

// swapCalls has the functions that take a Field and a set; SwapGain takes the
// first or last site of the set, and the first one beside it.
func swapCalls() map[string]func(f impl.Field, set []int) outcome {
	return map[string]func(f impl.Field, set []int) outcome{
		"SwapGain of first": func(f impl.Field, set []int) outcome {
			return ofNumber(impl.SwapGain(f, set, append(slices.Clone(set), 0)[0], siteBeside(f, set)))
		},
		"SwapGain of last": func(f impl.Field, set []int) outcome {
			return ofNumber(impl.SwapGain(f, set, append([]int{0}, set...)[len(set)], siteBeside(f, set)))
		},
		"BestSwap":    func(f impl.Field, set []int) outcome { return ofPair(impl.BestSwap(f, set)) },
		"IsSwapLocal": func(f impl.Field, set []int) outcome { return ofReport(impl.IsSwapLocal(f, set)) },
		"SwapMedian": func(f impl.Field, set []int) outcome {
			end, swaps, ok := impl.SwapMedian(f, set)
			result := ofList(end, ok)
			result.rest = strconv.Itoa(swaps)
			return result
		},
	}
}

// lineCalls has the functions that take a line, and those that take a number of sites beside it.
func lineCalls() map[string]func(l lineOf, k int) outcome {
	return map[string]func(l lineOf, k int) outcome{
		"LineField":  func(l lineOf, k int) outcome { return ofField(impl.LineField(l.sites, l.clients)) },
		"LineMedian": func(l lineOf, k int) outcome { return ofNumber(impl.LineMedian(l.sites, l.clients, k)) },
		"LineGroups": func(l lineOf, k int) outcome { return ofRows(impl.LineGroups(l.sites, l.clients, k)) },
	}
}

// treeCalls has the functions that take a list of parents and one of lengths or weights.
func treeCalls() map[string]func(parents, list []int) outcome {
	return map[string]func(parents, list []int) outcome{
		"TreeField":    func(parents, list []int) outcome { return ofField(impl.TreeField(parents, list)) },
		"MajorityNode": func(parents, list []int) outcome { return ofNumber(impl.MajorityNode(parents, list)) },
	}
}

// farNumbers are outside of all limits from 0 on.
func farNumbers() []int {
	return []int{-1, -2, 1000, 1001, math.MinInt, math.MaxInt, math.MinInt + 1, math.MaxInt - 1, 1 << 32, -1 << 32, 1<<32 + 1, 1 << 62, -1 << 62, 1<<62 + 1}
}

func TestP4FieldsThatAreNotValid(t *testing.T) {
	for name, f := range badFields() {
		if got := ofList(impl.MedianSteps(f)); !got.isZero() {
			t.Errorf("%s: MedianSteps = %s", name, got.text())
		}
		for call, of := range medianCalls() {
			for _, k := range append(farNumbers(), 0, 1, 2, 3, 7, 8, len(f.Open)) {
				if got := of(f, k); !got.isZero() {
					t.Errorf("%s: %s for %d = %s", name, call, k, got.text())
				}
			}
		}
		for call, of := range swapCalls() {
			for _, set := range [][]int{nil, {0}, {0, 1}, {1}, {7}, {-1}} {
				if got := of(f, set); !got.isZero() {
					t.Errorf("%s: %s for %v = %s", name, call, set, got.text())
				}
			}
		}
	}
}

func TestP4NumbersOfSitesThatAreNotValid(t *testing.T) {
	n := &numbers{state: 47}
	for sites := 1; sites <= impl.MaxSites; sites++ {
		for clients := 0; clients <= impl.MaxClients; clients++ {
			f := n.fieldFrom(sites, clients, 99, 99)
			for call, of := range medianCalls() {
				for _, k := range append(farNumbers(), 0, sites+1, sites+2, 8, 100) {
					if got := of(f, k); !got.isZero() {
						t.Errorf("%s of %q for %d = %s", call, textOf(f), k, got.text())
					}
				}
				for k := 1; k <= sites; k++ {
					if got := of(f, k); !got.ok {
						t.Errorf("%s of %q for %d = %s", call, textOf(f), k, got.text())
					}
				}
			}
		}
	}
}

func TestP4MedianPricesThatAreNotValid(t *testing.T) {
	for _, text := range []string{"5", "0 / 0", "3 1 / 0 4 / 5 1 / 2 2", "99 / 99", apart} {
		f := fieldOf(text)
		for k := 1; k <= len(f.Open); k++ {
			for _, price := range farNumbers() {
				if got, ok := impl.PriceBound(f, k, price); ok || got != 0 {
					t.Errorf("PriceBound of %q for %d and %d = %d, %v", text, k, price, got, ok)
				}
			}
			for _, price := range []int{0, 1, 500, 998, 999} {
				if _, ok := impl.PriceBound(f, k, price); !ok {
					t.Errorf("PriceBound of %q for %d and %d fails", text, k, price)
				}
			}
		}
	}
}

func TestP4SetsThatAreNotValid(t *testing.T) {
	n := &numbers{state: 48}
	for sites := 1; sites <= impl.MaxSites; sites++ {
		for _, clients := range []int{0, 1, 3, 7} {
			f := n.fieldFrom(sites, clients, 9, 9)
			for call, of := range swapCalls() {
				for _, set := range append(badSets(sites), nil, []int{}) {
					if got := of(f, set); !got.isZero() {
						t.Errorf("%s of %q for %.60s = %s", call, textOf(f), listOf(set), got.text())
					}
				}
			}
		}
	}
}

func TestP4SwapsThatAreNotThere(t *testing.T) {
	f := fieldOf("1 2 3 / 4 5 6 / 6 5 1")
	for _, n := range append(farNumbers(), 3, 4, 7, 99, 100) {
		checkNoGain(t, f, []int{0, 1}, n, 2)
		checkNoGain(t, f, []int{0, 1}, 0, n)
		checkNoGain(t, f, []int{0, 1}, n, n)
		checkNoGain(t, f, []int{0, 1, 2}, 0, n)
		checkNoGain(t, f, nil, n, 0)
	}
	for _, set := range badSets(3) {
		for out := range 4 {
			for in := range 4 {
				checkNoGain(t, f, set, out, in)
			}
		}
	}
}

func badLines() []lineOf {
	eight := []int{0, 1, 2, 3, 4, 5, 6, 7}
	list := []lineOf{
		{}, {[]int{}, []int{}}, {nil, []int{1}}, {[]int{}, []int{1, 2, 3}}, // no sites
		{eight, nil}, {eight, []int{1}}, {[]int{1}, eight}, {eight, eight}, {[]int{1}, make([]int, 8)}, {eight[1:], make([]int, 8)}, {[]int{0}, make([]int, 100000)}, {make([]int, 100000), nil},
		{[]int{1, 1}, nil}, {[]int{2, 1}, nil}, {[]int{0, 0}, []int{0}}, {[]int{1, 2, 2}, []int{1}}, {[]int{1, 3, 2}, []int{1}}, {[]int{5, 1, 9}, []int{1}}, {[]int{0, 99, 98}, []int{1}}, // sites that do not ascend
		{[]int{1}, []int{2, 1}}, {[]int{1, 2}, []int{1, 1, 0}}, {[]int{1, 2}, []int{5, 4, 5}}, {[]int{1, 2}, []int{0, 99, 98}}, {[]int{1}, []int{6, 5, 4, 3, 2, 1, 0}}, // clients that do not ascend
	}
	for _, n := range append(farNumbers(), 100, 101, 256) {
		list = append(list, lineOf{[]int{n}, nil}, lineOf{[]int{n}, []int{1}}, lineOf{[]int{n, 5}, []int{1}}, lineOf{[]int{5, n}, []int{1}}, lineOf{[]int{1, 5, n}, nil}, lineOf{[]int{1, n, 5}, nil},
			lineOf{[]int{1}, []int{n}}, lineOf{[]int{1, 2}, []int{n, 5}}, lineOf{[]int{1, 2}, []int{5, n}}, lineOf{[]int{1}, []int{5, n, 5}}, lineOf{[]int{n}, []int{n}}, lineOf{[]int{1, 2}, []int{n, n}})
	}
	return list
}

func TestP4LinesThatAreNotValid(t *testing.T) {
	for _, l := range badLines() {
		for call, of := range lineCalls() {
			for _, k := range append(farNumbers(), 0, 1, 2, 3, 7, 8) {
				if got := of(l, k); !got.isZero() {
					t.Errorf("%s of %.60s and %.60s for %d = %s", call, listOf(l.sites), listOf(l.clients), k, got.text())
				}
			}
		}
	}
}

func TestP4NumbersOfSitesOfLinesThatAreNotValid(t *testing.T) {
	for _, l := range manyLines(1) {
		for call, of := range lineCalls() {
			for _, k := range append(farNumbers(), 0, len(l.sites)+1, len(l.sites)+2, 8, 100) {
				if got := of(l, k); got.ok != (call == "LineField") || !got.ok && !got.isZero() {
					t.Errorf("%s of %v and %v for %d = %s", call, l.sites, l.clients, k, got.text())
				}
			}
		}
	}
}

// badParents gives lists of parents that are those of no tree.
func badParents() [][]int {
	list := [][]int{nil, {}, {0}, {1}, {-2}, {0, 0}, {0, -1}, {1, 0}, {-1, 1}, {-1, 2}, {-1, -1}, {-1, 0, 2}, {-1, 0, 3}, {-1, 2, 0}, {-1, 2, 1}, {-1, 0, -1}, {-1, -1, 0}, {-1, 0, 1, 3}, {-1, 0, 1, 2, 3, 4, 6}, {0, 0, 1},
		{-1, 0, 0, 0, 0, 0, 0, 0}, {-1, 0, 1, 2, 3, 4, 5, 6}, append([]int{-1}, make([]int, 99999)...)}
	for _, n := range farNumbers() {
		if n != -1 {
			list = append(list, []int{n}, []int{n, 0})
		}
		list = append(list, []int{-1, n}, []int{-1, 0, n}, []int{-1, n, 0}, []int{-1, 0, 1, 2, 3, 4, n})
	}
	return list
}

func TestP4TreesThatAreNotValid(t *testing.T) {
	for _, parents := range badParents() {
		for call, of := range treeCalls() {
			for _, list := range [][]int{nil, {0}, {0, 1}, make([]int, len(parents)), make([]int, len(parents)+1), append([]int{0}, slices.Repeat([]int{1}, max(0, len(parents)-1))...)} {
				if got := of(parents, list); !got.isZero() {
					t.Errorf("%s of %.60s and %.60s = %s", call, listOf(parents), listOf(list), got.text())
				}
			}
		}
	}
}

// badForTree gives lists that are neither lengths nor weights for so many nodes.
func badForTree(nodes int) [][]int {
	list := [][]int{make([]int, nodes+1), make([]int, nodes+7), make([]int, 100000)}
	for less := range nodes {
		list = append(list, make([]int, less))
	}
	for _, n := range append(farNumbers(), 100, 101, 256) {
		for node := range nodes {
			numbers := make([]int, nodes)
			numbers[node] = n
			list = append(list, numbers)
		}
		list = append(list, slices.Repeat([]int{n}, nodes))
	}
	return append(list, nil)
}

func TestP4LengthsAndWeightsThatAreNotValid(t *testing.T) {
	for _, parents := range allTrees(5) {
		for call, of := range treeCalls() {
			for _, list := range badForTree(len(parents)) {
				if got := of(parents, list); !got.isZero() {
					t.Errorf("%s of %v and %.60s = %s", call, parents, listOf(list), got.text())
				}
			}
		}
		// The first length is 0, which the first weight need not be.
		for _, first := range []int{1, 2, 98, 99} {
			list := make([]int, len(parents))
			list[0] = first
			if got := ofField(impl.TreeField(parents, list)); !got.isZero() {
				t.Errorf("TreeField of %v and %v = %s", parents, list, got.text())
			}
			checkMajority(t, parents, list, 0)
		}
	}
}

func TestP4LimitsOfLengthsAndWeights(t *testing.T) {
	for _, n := range []int{0, 1, 98, 99} {
		checkTreeField(t, []int{-1, 0}, []int{0, n}, impl.Field{Open: []int{0, 0}, Dist: [][]int{{0, n}, {n, 0}}})
		checkMajority(t, []int{-1}, []int{n}, 0)
		checkMajority(t, []int{-1, 0}, []int{n, n}, 0)
		checkLineField(t, lineOf{[]int{n}, []int{n}}, impl.Field{Open: []int{0}, Dist: [][]int{{0}}})
	}
}

func TestP4NamedLimits(t *testing.T) {
	if impl.MaxMedianPrice != 999 || impl.MaxPlace != 99 {
		t.Errorf("MaxMedianPrice is %d and MaxPlace %d", impl.MaxMedianPrice, impl.MaxPlace)
	}
}
