package tests

import (
	"math"
	"slices"
	"strconv"
	"testing"

	"loop.example/g01110/impl"
)

func ofPartial(set []int, reach int, ok bool) outcome {
	result := ofList(set, ok)
	result.rest = strconv.Itoa(reach)
	return result
}

// centreCalls has the functions of chapter 5 that take a Field and a number of sites.
func centreCalls() map[string]func(f impl.Field, k int) outcome {
	return map[string]func(f impl.Field, k int) outcome{
		"BestCentres":     func(f impl.Field, k int) outcome { return ofList(impl.BestCentres(f, k)) },
		"CentreReach":     func(f impl.Field, k int) outcome { return ofNumber(impl.CentreReach(f, k)) },
		"FarReach":        func(f impl.Field, k int) outcome { return ofNumber(impl.FarReach(f, k)) },
		"FarthestClients": func(f impl.Field, k int) outcome { return ofList(impl.FarthestClients(f, k)) },
		"FarthestSites":   func(f impl.Field, k int) outcome { return ofList(impl.FarthestSites(f, k)) },
		"BestPartial 0":   func(f impl.Field, k int) outcome { return ofPartial(impl.BestPartial(f, k, 0)) },
		"BestPartial 1":   func(f impl.Field, k int) outcome { return ofPartial(impl.BestPartial(f, k, 1)) },
		"BestPartial 7":   func(f impl.Field, k int) outcome { return ofPartial(impl.BestPartial(f, k, impl.MaxClients)) },
	}
}

// radiusCalls has the functions that take a Field and a radius, and perhaps a
// set with the site 0 alone or a list of no clients or of the first one.
func radiusCalls() map[string]func(f impl.Field, r int) outcome {
	return map[string]func(f impl.Field, r int) outcome{
		"ClientsWithin":         func(f impl.Field, r int) outcome { return ofList(impl.ClientsWithin(f, []int{0}, r)) },
		"CoveringSites":         func(f impl.Field, r int) outcome { return ofList(impl.CoveringSites(f, r)) },
		"LargestFar":            func(f impl.Field, r int) outcome { return ofList(impl.LargestFar(f, r)) },
		"ThresholdClients":      func(f impl.Field, r int) outcome { return ofList(impl.ThresholdClients(f, r)) },
		"ThresholdSites":        func(f impl.Field, r int) outcome { return ofList(impl.ThresholdSites(f, r)) },
		"AreFarClients of none": func(f impl.Field, r int) outcome { return ofReport(impl.AreFarClients(f, nil, r)) },
		"AreFarClients of one": func(f impl.Field, r int) outcome {
			return ofReport(impl.AreFarClients(f, []int{0}[:min(1, len(f.Dist))], r))
		},
	}
}

// reachCalls has the functions that take a Field and a set.
func reachCalls() map[string]func(f impl.Field, set []int) outcome {
	return map[string]func(f impl.Field, set []int) outcome{
		"ClientsWithin 0":  func(f impl.Field, set []int) outcome { return ofList(impl.ClientsWithin(f, set, 0)) },
		"ClientsWithin 5":  func(f impl.Field, set []int) outcome { return ofList(impl.ClientsWithin(f, set, 5)) },
		"ClientsWithin 99": func(f impl.Field, set []int) outcome { return ofList(impl.ClientsWithin(f, set, 99)) },
		"RadiiOf":          func(f impl.Field, set []int) outcome { return ofList(impl.RadiiOf(f, set)) },
	}
}

// farCalls has the function that takes a Field and a list of clients.
func farCalls() map[string]func(f impl.Field, clients []int) outcome {
	return map[string]func(f impl.Field, clients []int) outcome{
		"AreFarClients 0":  func(f impl.Field, clients []int) outcome { return ofReport(impl.AreFarClients(f, clients, 0)) },
		"AreFarClients 5":  func(f impl.Field, clients []int) outcome { return ofReport(impl.AreFarClients(f, clients, 5)) },
		"AreFarClients 99": func(f impl.Field, clients []int) outcome { return ofReport(impl.AreFarClients(f, clients, 99)) },
	}
}

func ofLineSites(l lineOf, r int) outcome {
	return ofList(impl.LineSites(l.sites, l.clients, r))
}

// lowNumbers are less than 0, so that they are no radii.
func lowNumbers() []int {
	return []int{-1, -2, -99, -100, -1 << 32, -1 << 62, math.MinInt, math.MinInt + 1}
}

func TestP5FieldsThatAreNotValid(t *testing.T) {
	for name, f := range badFields() {
		if got := ofList(impl.LengthsOf(f)); !got.isZero() {
			t.Errorf("%s: LengthsOf = %s", name, got.text())
		}
		for _, calls := range []map[string]func(impl.Field, int) outcome{centreCalls(), radiusCalls()} {
			for call, of := range calls {
				for _, n := range append(farNumbers(), 0, 1, 2, 3, 7, 8, 99, len(f.Open)) {
					if got := of(f, n); !got.isZero() {
						t.Errorf("%s: %s for %d = %s", name, call, n, got.text())
					}
				}
			}
		}
		for _, calls := range []map[string]func(impl.Field, []int) outcome{reachCalls(), farCalls()} {
			for call, of := range calls {
				for _, list := range [][]int{nil, {0}, {0, 1}, {1}, {7}, {-1}} {
					if got := of(f, list); !got.isZero() {
						t.Errorf("%s: %s for %v = %s", name, call, list, got.text())
					}
				}
			}
		}
		for _, pair := range [][2]int{{0, 0}, {0, 1}, {1, 0}, {1, 1}, {-1, 0}, {7, 7}, {8, 8}, {99999, 99999}} {
			if got := ofNumber(impl.GapOf(f, pair[0], pair[1])); !got.isZero() {
				t.Errorf("%s: GapOf for %v = %s", name, pair, got.text())
			}
		}
	}
}

// fieldsOfAllSizes has a Field with each number of sites and of clients.
func fieldsOfAllSizes(state uint32) []impl.Field {
	list := []impl.Field{}
	n := &numbers{state: state}
	for sites := 1; sites <= impl.MaxSites; sites++ {
		for clients := 0; clients <= impl.MaxClients; clients++ {
			list = append(list, n.fieldFrom(sites, clients, 99, 99))
		}
	}
	return list
}

func TestP5NumbersOfSitesThatAreNotValid(t *testing.T) {
	for _, f := range fieldsOfAllSizes(53) {
		sites := len(f.Open)
		for call, of := range centreCalls() {
			for _, k := range append(farNumbers(), 0, sites+1, sites+2, 8, 100) {
				if got := of(f, k); !got.isZero() {
					t.Errorf("%s of %q for %d = %s", call, textOf(f), k, got.text())
				}
			}
			for k := 1; k <= sites; k++ {
				if got := of(f, k); !got.ok {
					t.Errorf("%s of %q for %d = %s", call, textOf(f), k, got.text())
				}
			}
		}
	}
}

// Radii have no upper bound, so that every function returns a result for the
// greatest ones, since each client has a site within MaxLength.
func TestP5RadiiThatAreNotValid(t *testing.T) {
	for _, f := range fieldsOfAllSizes(54) {
		for call, of := range radiusCalls() {
			for _, r := range lowNumbers() {
				if got := of(f, r); !got.isZero() {
					t.Errorf("%s of %q for %d = %s", call, textOf(f), r, got.text())
				}
			}
			for _, r := range []int{99, 100, 198, 199, 1000, 1 << 32, 1 << 62, math.MaxInt - 1, math.MaxInt} {
				if got := of(f, r); !got.ok || got.text() != of(f, impl.MaxLength).text() {
					t.Errorf("%s of %q for %d = %s", call, textOf(f), r, got.text())
				}
			}
		}
	}
}

func TestP5NumbersOfClientsThatAreNotValid(t *testing.T) {
	for _, f := range fieldsOfAllSizes(55) {
		for k := 1; k <= len(f.Open); k++ {
			for _, z := range append(farNumbers(), impl.MaxClients+1, impl.MaxClients+2, 99, 100) {
				if got := ofPartial(impl.BestPartial(f, k, z)); !got.isZero() {
					t.Errorf("BestPartial of %q for %d and %d = %s", textOf(f), k, z, got.text())
				}
			}
			for z := range impl.MaxClients + 1 {
				if got := ofPartial(impl.BestPartial(f, k, z)); !got.ok {
					t.Errorf("BestPartial of %q for %d and %d = %s", textOf(f), k, z, got.text())
				}
			}
		}
	}
}

func TestP5SetsThatAreNotValid(t *testing.T) {
	for _, f := range fieldsOfAllSizes(56) {
		for call, of := range reachCalls() {
			for _, set := range append(badSets(len(f.Open)), nil, []int{}) {
				if got := of(f, set); !got.isZero() {
					t.Errorf("%s of %q for %.60s = %s", call, textOf(f), listOf(set), got.text())
				}
			}
		}
	}
}

// Lists of clients are bounded by the number of clients, not by that of sites,
// and may be empty, as sets may not.
func TestP5ListsOfClientsThatAreNotValid(t *testing.T) {
	for _, f := range fieldsOfAllSizes(57) {
		for call, of := range farCalls() {
			lists := [][]int{{0}, {-1}, {0, 0}, {math.MaxInt}, {math.MinInt}}
			if len(f.Dist) > 0 {
				lists = badSets(len(f.Dist))
			}
			for _, clients := range lists {
				if got := of(f, clients); !got.isZero() {
					t.Errorf("%s of %q for %.60s = %s", call, textOf(f), listOf(clients), got.text())
				}
			}
			for _, clients := range setsModel(len(f.Dist)) {
				if got := of(f, clients); !got.ok {
					t.Errorf("%s of %q for %v = %s", call, textOf(f), clients, got.text())
				}
			}
		}
	}
}

func TestP5ClientsThatAreNotThere(t *testing.T) {
	for _, f := range fieldsOfAllSizes(58) {
		clients := len(f.Dist)
		for _, n := range append(farNumbers(), clients, clients+1, 8, 100) {
			pairs := [][2]int{{n, n}}
			for client := range clients {
				pairs = append(pairs, [2]int{client, n}, [2]int{n, client})
			}
			for _, pair := range pairs {
				if got := ofNumber(impl.GapOf(f, pair[0], pair[1])); !got.isZero() {
					t.Errorf("GapOf %q for %v = %s", textOf(f), pair, got.text())
				}
			}
		}
	}
}

func TestP5LinesThatAreNotValid(t *testing.T) {
	for _, l := range badLines() {
		for _, r := range append(farNumbers(), 0, 1, 2, 99, 100) {
			if got := ofLineSites(l, r); !got.isZero() {
				t.Errorf("LineSites of %.60s and %.60s for %d = %s", listOf(l.sites), listOf(l.clients), r, got.text())
			}
		}
	}
}

func TestP5RadiiOfLinesThatAreNotValid(t *testing.T) {
	for _, l := range manyLines(1) {
		for _, r := range lowNumbers() {
			if got := ofLineSites(l, r); !got.isZero() {
				t.Errorf("LineSites of %v and %v for %d = %s", l.sites, l.clients, r, got.text())
			}
		}
		for _, r := range []int{99, 100, 1 << 32, 1 << 62, math.MaxInt - 1, math.MaxInt} {
			want := []int{len(l.sites) - 1}
			if len(l.clients) == 0 {
				want = nil
			}
			if got, ok := impl.LineSites(l.sites, l.clients, r); !ok || !slices.Equal(got, want) {
				t.Errorf("LineSites of %v and %v for %d = %v, %v; want %v", l.sites, l.clients, r, got, ok, want)
			}
		}
	}
}
