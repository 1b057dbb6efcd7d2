package tests

import (
	"math"
	"slices"
	"strconv"
	"testing"

	"loop.example/g01110/impl"
)

// frontArguments has what the functions of chapter 11 take that are told for a
// Field, each a part of it.
type frontArguments struct {
	f            impl.Field
	set, weights []int
	objective    int
	a, b, limit  int
	k            int
}

// frontCalls has these functions. Behind a name come those parts of the
// arguments for which, beside the Field, the function fails if they are not
// valid: s for the set, o for the objective, a and b, w for the weights, and k.
func frontCalls() map[string]func(a frontArguments) outcome {
	return map[string]func(a frontArguments) outcome{
		"ObjectiveOf so":  func(a frontArguments) outcome { return ofNumber(impl.ObjectiveOf(a.f, a.set, a.objective)) },
		"FrontOf ab":      func(a frontArguments) outcome { return ofPoints(impl.FrontOf(a.f, a.a, a.b)) },
		"FrontSets ab":    func(a frontArguments) outcome { return ofRows(impl.FrontSets(a.f, a.a, a.b)) },
		"BestUnder ab":    func(a frontArguments) outcome { return ofList(impl.BestUnder(a.f, a.a, a.b, a.limit)) },
		"OrderedValue sw": func(a frontArguments) outcome { return ofNumber(impl.OrderedValue(a.f, a.set, a.weights)) },
		"OrderedBest kw":  func(a frontArguments) outcome { return ofList(impl.OrderedBest(a.f, a.k, a.weights)) },
	}
}

// ofPoints writes points as a text, since they are not lists.
func ofPoints(points [][2]int, ok bool) outcome {
	if len(points) == 0 {
		return outcome{nil, "", ok}
	}
	return outcome{nil, rowsText(rowsOfPairs(points)), ok}
}

// groundArguments has what the functions of chapter 11 take that are told for a ground.
type groundArguments struct {
	m, groups, flows [][]int
	set, hubs        []int
	k, d             int
	most, discount   int
}

// groundCalls has these functions, with s for the set, k, d, h for the hubs, f
// for the flows, m for the greatest number of hubs and c for the discount.
// Those with n fail for grounds with more than MaxHubs places.
func groundCalls() map[string]func(a groundArguments) outcome {
	return map[string]func(a groundArguments) outcome{
		"IsMetricGround":   func(a groundArguments) outcome { return ofReport(impl.IsMetricGround(a.m)) },
		"DispersionOf s":   func(a groundArguments) outcome { return ofNumber(impl.DispersionOf(a.m, a.set)) },
		"BestDispersion k": func(a groundArguments) outcome { return ofList(impl.BestDispersion(a.m, a.k)) },
		"FarthestFirst k":  func(a groundArguments) outcome { return ofList(impl.FarthestFirst(a.m, a.k)) },
		"ProvesApart d":    func(a groundArguments) outcome { return ofReport(impl.ProvesApart(a.m, a.groups, a.d)) },
		"NearGroups d":     func(a groundArguments) outcome { return ofRows(impl.NearGroups(a.m, a.d)) },
		"IsAllocation n":   func(a groundArguments) outcome { return ofReport(impl.IsAllocation(a.m, a.hubs)) },
		"HubCost nfhc":     func(a groundArguments) outcome { return ofNumber(impl.HubCost(a.m, a.flows, a.hubs, a.discount)) },
		"BestHubs nfmc":    func(a groundArguments) outcome { return ofList(impl.BestHubs(a.m, a.flows, a.most, a.discount)) },
	}
}

// frontSamples has valid arguments of all sizes.
func frontSamples(state uint32) []frontArguments {
	list, n := []frontArguments{}, &numbers{state: state}
	for _, f := range fieldsOfAllSizes(state) {
		sets := setsModel(len(f.Open))[1:]
		list = append(list, frontArguments{f, sets[n.below(len(sets))], n.listFrom(len(f.Dist), 99), 1 + n.below(5), 1 + n.below(5), 1 + n.below(5), 2000, 1 + n.below(len(f.Open))})
	}
	return list
}

// groundSamples has valid arguments of all sizes, but with less than two places
// there are none of a dispersion, and with more than MaxHubs none of hubs.
func groundSamples(state uint32) []groundArguments {
	list, n := []groundArguments{}, &numbers{state: state}
	for places := range impl.MaxSites + 1 {
		for _, most := range []int{3, 30, 99} {
			sets := setsModel(places)[min(places+1, 1<<places-1):]
			allocations := allocationsModel(places, 5)
			list = append(list, groundArguments{
				m: n.groundFrom(places, most), groups: n.groupsFrom(places), flows: n.flowsFrom(places, 99),
				set: sets[n.below(len(sets))], hubs: allocations[n.below(len(allocations))],
				k: 2 + n.below(max(1, places-1)), d: 1 + n.below(100), most: 1 + n.below(5), discount: n.below(11),
			})
		}
	}
	return list
}

// groundMayFail tells whether a function fails for arguments that are valid but for the number of places.
func groundMayFail(call string, places int) bool {
	switch call {
	case "DispersionOf s", "BestDispersion k", "FarthestFirst k":
		return places < 2
	case "IsAllocation n", "HubCost nfhc", "BestHubs nfmc":
		return places > impl.MaxHubs
	}
	return false
}

func checkFrontParts(t *testing.T, name, part string, bad frontArguments) {
	t.Helper()
	checkFailures(t, name, part, textOf(bad.f), frontCalls(), bad)
}

func checkGroundParts(t *testing.T, name, part string, bad groundArguments) {
	t.Helper()
	checkFailures(t, name, part, rowsText(bad.m), groundCalls(), bad)
}

func TestP11FrontArgumentsThatAreValid(t *testing.T) {
	for _, a := range frontSamples(164) {
		sites, clients := len(a.f.Open), len(a.f.Dist)
		low := frontArguments{a.f, []int{0}, make([]int, clients), 1, 1, 1, math.MaxInt, 1}
		high := frontArguments{a.f, allBelow(sites), slices.Repeat([]int{99}, clients), 5, 5, 5, sites, sites}
		for _, good := range []frontArguments{a, low, high} {
			for call, of := range frontCalls() {
				if got := of(good); !got.ok {
					t.Errorf("%s of %q for %+v = %s", call, textOf(a.f), good, got.text())
				}
			}
		}
		for _, limit := range []int{-1, 0, math.MinInt, math.MinInt + 1, -1 << 32} { // any limit is valid, but no set keeps these
			if set, ok := impl.BestUnder(a.f, a.a, impl.ObjCount, limit); ok || len(set) > 0 {
				t.Errorf("BestUnder of %q for %d = %v, %v", textOf(a.f), limit, set, ok)
			}
		}
		for _, limit := range []int{1400, 1 << 32, math.MaxInt - 1, math.MaxInt} {
			if set, ok := impl.BestUnder(a.f, a.a, a.b, limit); !ok || len(set) == 0 {
				t.Errorf("BestUnder of %q for %d, %d and %d = %v, %v", textOf(a.f), a.a, a.b, limit, set, ok)
			}
		}
	}
}

func TestP11GroundArgumentsThatAreValid(t *testing.T) {
	for _, a := range groundSamples(165) {
		places := len(a.m)
		low, high := a, a
		low.groups, low.flows, low.set, low.hubs = nil, slices.Repeat([][]int{make([]int, places)}, places), allBelow(min(2, places)), make([]int, places)
		low.k, low.d, low.most, low.discount = 2, 1, 1, 0
		high.groups, high.flows, high.set, high.hubs = [][]int{allBelow(places)}, slices.Repeat([][]int{slices.Repeat([]int{99}, places)}, places), allBelow(places), allBelow(places)
		high.k, high.d, high.most, high.discount = places, 100, 5, 10
		for _, good := range []groundArguments{a, low, high} {
			if !impl.IsGround(good.m) {
				t.Errorf("IsGround of %s is false", rowsText(good.m))
			}
			for call, of := range groundCalls() {
				if got := of(good); got.ok == groundMayFail(call, places) || !got.ok && !got.isZero() {
					t.Errorf("%s of %s for %+v = %s", call, rowsText(a.m), good, got.text())
				}
			}
		}
	}
}

func TestP11FieldsThatAreNotValid(t *testing.T) {
	for name, f := range badFields() {
		for _, clients := range []int{len(f.Dist), 0, 1, 2} {
			for _, set := range [][]int{nil, {0}, {0, 1}, {1}, {7}, allBelow(7), allBelow(8)} {
				for _, number := range []int{0, 1, 2, 5} {
					bad := frontArguments{f, set, make([]int, min(clients, 1000)), number, number, 1, 2000, number}
					for call, of := range frontCalls() {
						if got := of(bad); !got.isZero() {
							t.Errorf("%s: %s for %v and %d = %s", name, call, set, number, got.text())
						}
					}
				}
			}
		}
	}
}

func TestP11SetsAndObjectivesThatAreNotValid(t *testing.T) {
	for _, a := range frontSamples(166) {
		for _, set := range append(badSets(len(a.f.Open)), nil, []int{}) {
			for objective := 1; objective <= objectives; objective++ {
				bad := a
				bad.set, bad.objective = set, objective
				checkFrontParts(t, "set "+listOf(set[:min(9, len(set))]), "s", bad)
			}
		}
		for _, objective := range append(outside(objectives), 0) {
			bad := a
			bad.objective, bad.a = objective, objective
			checkFrontParts(t, "objective "+strconv.Itoa(objective), "o", bad)
			checkFrontParts(t, "a "+strconv.Itoa(objective), "a", bad)
			bad.b = objective
			checkFrontParts(t, "a and b "+strconv.Itoa(objective), "b", bad)
			bad.a = a.a
			checkFrontParts(t, "b "+strconv.Itoa(objective), "b", bad)
		}
	}
}

func TestP11WeightsAndNumbersOfSitesThatAreNotValid(t *testing.T) {
	for _, a := range frontSamples(167) {
		for _, weights := range badLists(len(a.f.Dist), 99) {
			bad := a
			bad.weights = weights
			checkFrontParts(t, "weights "+listOf(weights[:min(9, len(weights))]), "w", bad)
		}
		for _, k := range append(outside(len(a.f.Open)), 0, 8, 99) {
			bad := a
			bad.k = k
			checkFrontParts(t, "k "+strconv.Itoa(k), "k", bad)
		}
	}
}

// badGrounds has what is no ground.
func badGrounds() map[string][][]int {
	bad := map[string][][]int{
		"8 places": groundOf(seven + " / 99 99 99 99 99 99 99"), "8 places at one": slices.Repeat([][]int{make([]int, 8)}, 8), "9 places": (&numbers{state: 168}).groundFrom(9, 9),
		"many places": slices.Repeat([][]int{make([]int, 100000)}, 1000), "many places without distances": make([][]int, 100000),
		"an empty list": {{}}, "a nil list": {nil}, "empty lists": {{}, {}}, "a nil list at the end": {{0, 1}, nil}, "a distance too many": {{0, 0}}, "a list too many": {{0}, {0}}, "a list too few": {{0, 1, 2}, {1, 0, 2}}, "many distances": {make([]int, 100000)},
		"short and long": {{0}, {0, 0, 0}},
	}
	for places := 1; places <= impl.MaxSites; places++ {
		for place := range places {
			name := " of place " + strconv.Itoa(place) + " of " + strconv.Itoa(places)
			short, long, missing := (&numbers{state: 169}).groundFrom(places, 9), (&numbers{state: 169}).groundFrom(places, 9), (&numbers{state: 169}).groundFrom(places, 9)
			short[place], long[place], missing[place] = short[place][1:], append(long[place], 0), nil
			bad["short list"+name], bad["long list"+name], bad["no list"+name] = short, long, missing
			for _, distance := range append(outside(99), 1, 99) {
				m := (&numbers{state: 170}).groundFrom(places, 9)
				m[place][place] = distance
				bad["distance to itself "+strconv.Itoa(distance)+name] = m
			}
			for other := range place {
				name := name + " and " + strconv.Itoa(other)
				for _, distance := range outside(99) {
					m := (&numbers{state: 171}).groundFrom(places, 9)
					m[place][other], m[other][place] = distance, distance
					bad["distance "+strconv.Itoa(distance)+name] = m
				}
				for _, more := range []int{1, -1, 90} {
					m := (&numbers{state: 172}).groundFrom(places, 9)
					m[place][other], m[other][place] = 5, 5+more
					bad["one way "+strconv.Itoa(more)+name] = m
				}
			}
		}
	}
	return bad
}

func TestP11GroundsThatAreNotValid(t *testing.T) {
	for name, m := range badGrounds() {
		if impl.IsGround(m) {
			t.Errorf("%s: IsGround is true", name)
		}
		places := min(len(m), 9)
		for _, fit := range []groundArguments{
			{m, [][]int{allBelow(places)}, slices.Repeat([][]int{make([]int, places)}, places), allBelow(places), make([]int, places), 2, 100, 1, 5},
			{m, nil, nil, allBelow(2), nil, max(2, places), 1, 5, 10},
			{m, [][]int{{0}}, [][]int{{0}}, []int{0}, []int{0}, 1, 50, 2, 0},
		} {
			for call, of := range groundCalls() {
				if got := of(fit); !got.isZero() {
					t.Errorf("%s: %s = %s", name, call, got.text())
				}
			}
		}
	}
}

func TestP11PlacesAndNumbersThatAreNotValid(t *testing.T) {
	for _, a := range groundSamples(173) {
		places := len(a.m)
		sets := append(badSets(places), nil, []int{})
		for place := range places { // sets of one place
			sets = append(sets, []int{place})
		}
		for _, set := range sets {
			bad := a
			bad.set = set
			checkGroundParts(t, "set "+listOf(set[:min(9, len(set))]), "s", bad)
		}
		for _, k := range append(outside(places), 0, 1, 8) {
			bad := a
			bad.k = k
			checkGroundParts(t, "k "+strconv.Itoa(k), "k", bad)
		}
		for _, d := range append(outside(impl.MaxLength+1), 0) {
			bad := a
			bad.d = d
			checkGroundParts(t, "d "+strconv.Itoa(d), "d", bad)
			bad.groups = nil
			checkGroundParts(t, "d without groups "+strconv.Itoa(d), "d", bad)
		}
	}
}

// badGroups gives lists that are no groups.
func badGroups(places int) [][][]int {
	list := [][][]int{{{}}, {nil}, {{}, {}}, make([][]int, 100000), {make([]int, 100000)}, slices.Repeat([][]int{make([]int, 100000)}, 100000)}
	for _, order := range badOrders(places) {
		list = append(list, [][]int{order})
		single := [][]int{}
		for _, place := range order[:min(9, len(order))] {
			single = append(single, []int{place})
		}
		if !slices.Equal(sortedSet(order[:min(9, len(order))]), allBelow(places)) {
			list = append(list, single)
		}
	}
	if places > 0 {
		list = append(list, nil, [][]int{allBelow(places), {}}, [][]int{nil, allBelow(places)}, [][]int{allBelow(places), allBelow(places)}, [][]int{allBelow(places), {0}})
	}
	return list
}

// Any lists may be held against a ground, and any hubs: those that are not valid are no failures.
func TestP11GroupsAndAllocationsThatAreNotValid(t *testing.T) {
	for _, a := range groundSamples(174) {
		places := len(a.m)
		for place, groups := range badGroups(places) {
			for _, d := range []int{1, a.d, 100} {
				if got, ok := impl.ProvesApart(a.m, groups, d); !ok || got {
					t.Errorf("ProvesApart of %s for bad groups %d and %d = %v, %v", rowsText(a.m), place, d, got, ok)
				}
			}
		}
		for _, hubs := range badHubs(places) {
			bad := a
			bad.hubs = hubs
			checkGroundParts(t, "hubs "+listOf(hubs[:min(9, len(hubs))]), "h", bad)
			if got, ok := impl.IsAllocation(a.m, hubs); got || ok != (places <= impl.MaxHubs) {
				t.Errorf("IsAllocation of %s for %v = %v, %v", rowsText(a.m), hubs[:min(9, len(hubs))], got, ok)
			}
		}
	}
}

// badHubs gives lists that are no allocations.
func badHubs(places int) [][]int {
	list := [][]int{make([]int, places+1), allBelow(places + 1), make([]int, 100000)}
	for fewer := range places {
		list = append(list, make([]int, fewer), allBelow(fewer))
	}
	for place := range places {
		for _, hub := range append(outside(places-1), places+1) {
			zero, own := make([]int, places), allBelow(places)
			zero[place], own[place] = hub, hub
			list = append(list, zero, own)
		}
		if place > 0 { // a hub that has not itself
			turned, other := make([]int, places), allBelow(places)
			turned[0], other[0], other[place] = place, place, 0
			list = append(list, turned, other)
		}
	}
	return list
}

// badFlowTables gives flows that are too few or too many, or have one beyond the limits.
func badFlowTables(places int) [][][]int {
	fit := func() [][]int { return (&numbers{state: 175}).flowsFrom(places, 9) }
	list := [][][]int{append(fit(), make([]int, places)), append(fit(), nil), append(fit(), fit()...), append(fit(), []int{0}), make([][]int, 100000), slices.Repeat([][]int{make([]int, 100000)}, places+1)}
	if places == 0 {
		return slices.DeleteFunc(list, func(flows [][]int) bool { return len(flows) == 0 })
	}
	list = append(list, nil, [][]int{}, fit()[1:], slices.Repeat([][]int{make([]int, 100000)}, places))
	for place := range places {
		for _, other := range [][]int{nil, {}, make([]int, places-1), make([]int, places+1), make([]int, 100000)} {
			flows := fit()
			flows[place] = other
			list = append(list, flows)
		}
		for at := range places { // those of a place to itself, too
			for _, flow := range outside(99) {
				flows := fit()
				flows[place][at] = flow
				list = append(list, flows)
			}
		}
	}
	return list
}

func TestP11NetworksThatAreNotValid(t *testing.T) {
	for _, a := range groundSamples(176) {
		for place, flows := range badFlowTables(len(a.m)) {
			bad := a
			bad.flows = flows
			checkGroundParts(t, "flows "+strconv.Itoa(place), "f", bad)
		}
		for _, discount := range outside(10) {
			bad := a
			bad.discount = discount
			checkGroundParts(t, "discount "+strconv.Itoa(discount), "c", bad)
		}
		for _, most := range append(outside(impl.MaxHubs), 0) {
			bad := a
			bad.most = most
			checkGroundParts(t, "most "+strconv.Itoa(most), "m", bad)
		}
		if len(a.m) > impl.MaxHubs {
			checkGroundParts(t, "many places", "n", a)
			for _, fewer := range [][]int{nil, {0}, make([]int, impl.MaxHubs)} {
				bad := a
				bad.hubs, bad.flows = fewer, a.flows[:len(fewer)]
				checkGroundParts(t, "many places, "+strconv.Itoa(len(fewer))+" hubs", "n", bad)
			}
		}
	}
}

// A nil slice is the same as an empty one.
func TestP11NilAndEmptyListsAreTheSame(t *testing.T) {
	one := frontArguments{impl.Field{Open: []int{5, 4}}, []int{1}, nil, 1, 2, 3, 100, 1}
	two := frontArguments{impl.Field{Open: []int{5, 4}, Dist: [][]int{}}, []int{1}, []int{}, 1, 2, 3, 100, 1}
	for call, of := range frontCalls() {
		if a, b := of(one), of(two); a.text() != b.text() || !a.ok {
			t.Errorf("%s = %s and %s", call, a.text(), b.text())
		}
	}
	three, four := groundArguments{k: 2, d: 1, most: 1}, groundArguments{[][]int{}, [][]int{}, [][]int{}, []int{}, []int{}, 2, 1, 1, 0}
	for call, of := range groundCalls() {
		if a, b := of(three), of(four); a.text() != b.text() || a.ok == groundMayFail(call, 0) {
			t.Errorf("%s = %s and %s", call, a.text(), b.text())
		}
	}
	if !impl.IsGround(nil) || !impl.IsGround([][]int{}) {
		t.Error("IsGround without places is false")
	}
}

func TestP11NamedLimits(t *testing.T) {
	if impl.ObjService != 1 || impl.ObjPayment != 2 || impl.ObjTotal != 3 || impl.ObjReach != 4 || impl.ObjCount != 5 || impl.MaxHubs != 5 {
		t.Errorf("the limits are %v", []int{impl.ObjService, impl.ObjPayment, impl.ObjTotal, impl.ObjReach, impl.ObjCount, impl.MaxHubs})
	}
}
