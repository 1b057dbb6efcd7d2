package tests

import (
	"math"
	"slices"
	"strings"
	"testing"

	"loop.example/g01110/impl"
)

// flowArguments has what the functions of chapter 7 take, each a part of it.
type flowArguments struct {
	s    stock
	set  []int
	flow [][]int
	u, w []int
	r, k int
}

// flowCalls has the functions of chapter 7. Behind a name come those parts of
// the arguments for which, beside the Field, the function fails if they are not
// valid: n for rooms and needs, s for the set, f for the flow, p for prices, r
// and k; a great letter if it reports this instead; and ? if it can fail for
// valid ones.
func flowCalls() map[string]func(a flowArguments) outcome {
	return map[string]func(a flowArguments) outcome{
		"AreNeeds N": func(a flowArguments) outcome { return ofReport(impl.AreNeeds(a.s.f, a.s.rooms, a.s.needs)) },
		"IsFlow nsF": func(a flowArguments) outcome {
			return ofReport(impl.IsFlow(a.s.f, a.s.rooms, a.s.needs, a.set, a.flow))
		},
		"FlowCost nsf": func(a flowArguments) outcome {
			return ofNumber(impl.FlowCost(a.s.f, a.s.rooms, a.s.needs, a.set, a.flow))
		},
		"LeastFlowCost ns?": func(a flowArguments) outcome {
			return ofNumber(impl.LeastFlowCost(a.s.f, a.s.rooms, a.s.needs, a.set))
		},
		"LeastFlow ns?":    func(a flowArguments) outcome { return ofRows(impl.LeastFlow(a.s.f, a.s.rooms, a.s.needs, a.set)) },
		"AreFlowPrices sP": func(a flowArguments) outcome { return ofReport(impl.AreFlowPrices(a.s.f, a.set, a.u, a.w)) },
		"FlowYield nsp": func(a flowArguments) outcome {
			return ofNumber(impl.FlowYield(a.s.f, a.s.rooms, a.s.needs, a.set, a.u, a.w))
		},
		"LeastFlowPrices ns?": func(a flowArguments) outcome {
			return ofTwoLists(impl.LeastFlowPrices(a.s.f, a.s.rooms, a.s.needs, a.set))
		},
		"IsFlowProof nsfp": func(a flowArguments) outcome {
			return ofReport(impl.IsFlowProof(a.s.f, a.s.rooms, a.s.needs, a.set, a.flow, a.u, a.w))
		},
		"BestRooms n?": func(a flowArguments) outcome { return ofPartial(impl.BestRooms(a.s.f, a.s.rooms, a.s.needs)) },
		"CanServe nsr": func(a flowArguments) outcome {
			return ofReport(impl.CanServe(a.s.f, a.s.rooms, a.s.needs, a.set, a.r))
		},
		"HallClients nsr?": func(a flowArguments) outcome {
			return ofList(impl.HallClients(a.s.f, a.s.rooms, a.s.needs, a.set, a.r))
		},
		"RoomReach nk?": func(a flowArguments) outcome { return ofNumber(impl.RoomReach(a.s.f, a.s.rooms, a.s.needs, a.k)) },
		"WholeFlow ns?": func(a flowArguments) outcome {
			return ofPartial(impl.WholeFlow(a.s.f, a.s.rooms, a.s.needs, a.set))
		},
	}
}

// partsOf gives what stands behind the name of a function.
func partsOf(call string) string {
	_, parts, _ := strings.Cut(call, " ")
	return parts
}

// flowSamples has valid arguments of all sizes, with a flow. No set can serve
// clients that have a need within the radius, which is 0.
func flowSamples(state uint32) []flowArguments {
	list := []flowArguments{}
	n := &numbers{state: state}
	for _, f := range fieldsOfAllSizes(state) {
		for _, row := range f.Dist {
			for site := range row {
				row[site] = max(1, row[site])
			}
		}
		need := 5
		if len(f.Open) == 1 { // so that all needs are at most one room
			need = 2
		}
		s := n.tightFrom(f, need, n.below(5))
		list = append(list, s.argumentsFor(allBelow(len(s.rooms))))
	}
	return list
}

func (s stock) argumentsFor(set []int) flowArguments {
	a := flowArguments{s: s, set: set, r: 0, k: len(s.rooms)}
	a.flow, _ = s.leastFlow(set, true)
	a.u, a.w, _ = s.leastPrices(set)
	return a
}

// checkParts calls all functions that take a part that is not valid.
func checkParts(t *testing.T, name, part string, bad flowArguments) {
	t.Helper()
	for call, of := range flowCalls() {
		fails, reports := strings.Contains(partsOf(call), part), strings.Contains(partsOf(call), strings.ToUpper(part))
		if !fails && !reports {
			continue
		}
		if got := of(bad); fails && !got.isZero() || reports && got.text() != "false true" {
			t.Errorf("%s: %s of %s for %v = %s", name, call, bad.s.text(), bad.set, got.text())
		}
	}
}

func TestP7ArgumentsThatAreValid(t *testing.T) {
	for _, a := range flowSamples(85) {
		for call, of := range flowCalls() {
			got := of(a)
			mayFail := call == "HallClients nsr?" && sumModel(a.s.needs) == 0 || call == "WholeFlow ns?"
			if !got.ok && (!mayFail || !got.isZero()) {
				t.Errorf("%s of %s = %s", call, a.s.text(), got.text())
			}
		}
	}
}

func TestP7FieldsThatAreNotValid(t *testing.T) {
	for name, f := range badFields() {
		for _, sites := range []int{len(f.Open), 1, 2, 7} {
			s := stock{f, slices.Repeat([]int{20}, min(sites, 1000)), slices.Repeat([]int{1}, min(len(f.Dist), 1000))}
			rows := slices.Repeat([][]int{make([]int, len(s.rooms))}, len(s.needs))
			for _, set := range [][]int{nil, {0}, {0, 1}, {1}, {7}, {-1}, allBelow(7)} {
				bad := flowArguments{s, set, rows, make([]int, len(s.needs)), make([]int, len(s.rooms)), 99, 1}
				for call, of := range flowCalls() {
					if got := of(bad); !got.isZero() {
						t.Errorf("%s: %s for %v = %s", name, call, set, got.text())
					}
				}
			}
		}
	}
}

// badLists gives lists that have not so many numbers, or one that is below 0 or above a limit.
func badLists(count, most int) [][]int {
	list := [][]int{make([]int, count+1), slices.Repeat([]int{1}, count+1), make([]int, count+100), make([]int, 100000)}
	for fewer := range count {
		list = append(list, make([]int, fewer), slices.Repeat([]int{1}, fewer))
	}
	if count > 0 {
		list = append(list, nil)
	}
	for place := range count {
		for _, n := range []int{-1, most + 1, -2, most + 2, 1000, 9999, math.MinInt, math.MaxInt, math.MinInt + 1, math.MaxInt - 1, 1 << 32, -1 << 32, 1<<32 + 1, 1 << 62} {
			zero, one := make([]int, count), slices.Repeat([]int{1}, count)
			zero[place], one[place] = n, n
			list = append(list, zero, one)
		}
	}
	return list
}

func TestP7RoomsAndNeedsThatAreNotValid(t *testing.T) {
	for _, a := range flowSamples(86) {
		for _, rooms := range badLists(len(a.s.rooms), impl.MaxRoom) {
			bad := a
			bad.s.rooms = rooms
			checkParts(t, "rooms", "n", bad)
		}
		for _, needs := range badLists(len(a.s.needs), impl.MaxNeed) {
			bad := a
			bad.s.needs = needs
			checkParts(t, "needs", "n", bad)
		}
		if len(a.s.rooms) != len(a.s.needs) {
			bad := a
			bad.s.rooms, bad.s.needs = make([]int, len(a.s.needs)), make([]int, len(a.s.rooms))
			checkParts(t, "turned", "n", bad)
		}
	}
}

func TestP7SetsThatAreNotValid(t *testing.T) {
	for _, a := range flowSamples(87) {
		for _, set := range append(badSets(len(a.s.rooms)), nil, []int{}) {
			bad := a
			bad.set = set
			checkParts(t, "set", "s", bad)
		}
	}
}

// badFlowsFor gives lists of rows that are no flows for arguments that have one.
func badFlowsFor(a flowArguments) [][][]int {
	sites := len(a.s.rooms)
	list := [][][]int{append(copyRows(a.flow), make([]int, sites)), append(copyRows(a.flow), nil), make([][]int, len(a.flow)+1), make([][]int, 100000)}
	for place := range a.flow {
		list = append(list, copyRows(a.flow)[:place], slices.Delete(copyRows(a.flow), place, place+1))
		for _, row := range [][]int{nil, {}, a.flow[place][:sites-1], append(slices.Clone(a.flow[place]), 0), make([]int, 100000)} {
			changed := copyRows(a.flow)
			changed[place] = row
			list = append(list, changed)
		}
		for site := range sites {
			for _, n := range []int{-1, a.s.needs[place] + 1, 21, math.MinInt, math.MaxInt, 1 << 62, -1 << 62} {
				one, two := copyRows(a.flow), copyRows(a.flow)
				one[place][site] = n
				two[place] = slices.Repeat([]int{n}, sites)
				list = append(list, one, two)
			}
		}
	}
	return list
}

func TestP7FlowsThatAreNotValid(t *testing.T) {
	for _, a := range flowSamples(88) {
		for _, flow := range badFlowsFor(a) {
			bad := a
			bad.flow = flow
			checkParts(t, "flow "+rowsText(flow[:min(9, len(flow))]), "f", bad)
		}
	}
}

// badFlowPrices gives pairs of lists that are no flow prices for any set.
func badFlowPrices(sites, clients int) [][2][]int {
	list := [][2][]int{}
	for _, w := range badLists(sites, impl.MaxRoomPrice) {
		list = append(list, [2][]int{make([]int, clients), w}, [2][]int{slices.Repeat([]int{-999}, clients), w})
	}
	for _, u := range badLists(clients, impl.MaxRoomPrice) {
		if !slices.Contains(u, -1) && !slices.Contains(u, -2) { // a price u may be below 0
			list = append(list, [2][]int{u, make([]int, sites)}, [2][]int{u, slices.Repeat([]int{999}, sites)})
		}
	}
	for client := range clients {
		for _, n := range []int{-1000, -1001, 1000, 1001} {
			u := make([]int, clients)
			u[client] = n
			list = append(list, [2][]int{u, make([]int, sites)}, [2][]int{u, slices.Repeat([]int{999}, sites)})
		}
	}
	return list
}

func TestP7PricesThatAreNotValid(t *testing.T) {
	for _, a := range flowSamples(89) {
		for _, prices := range badFlowPrices(len(a.s.rooms), len(a.s.needs)) {
			bad := a
			bad.u, bad.w = prices[0], prices[1]
			checkParts(t, "prices "+listOf(bad.u[:min(9, len(bad.u))])+listOf(bad.w[:min(9, len(bad.w))]), "p", bad)
		}
	}
}

func TestP7RadiiAndNumbersOfSitesThatAreNotValid(t *testing.T) {
	for _, a := range flowSamples(90) {
		for _, r := range lowNumbers() {
			bad := a
			bad.r = r
			checkParts(t, "radius", "r", bad)
		}
		for _, k := range append(farNumbers(), 0, len(a.s.rooms)+1, len(a.s.rooms)+2, 8, 100) {
			bad := a
			bad.k = k
			checkParts(t, "k", "k", bad)
		}
	}
}

// Several parts that are not valid are not valid together, either.
func TestP7SeveralPartsThatAreNotValid(t *testing.T) {
	a := stockOf(pair, "2 3", "2 2").argumentsFor([]int{0, 1})
	bad := flowArguments{stock{a.s.f, []int{-1}, nil}, []int{5}, [][]int{{1}}, nil, []int{-1}, -1, 0}
	for call, of := range flowCalls() {
		got := of(bad)
		if isReport := call == "AreNeeds N" && got.text() == "false true"; !isReport && !got.isZero() {
			t.Errorf("%s = %s", call, got.text())
		}
	}
}

// A nil slice is the same as an empty one.
func TestP7NilAndEmptyFlowsAreTheSame(t *testing.T) {
	for _, open := range [][]int{{5}, {3, 1}, {0, 0, 0}} {
		rooms, w := make([]int, len(open)), make([]int, len(open))
		one := flowArguments{stock{impl.Field{Open: open}, rooms, nil}, []int{0}, nil, nil, w, 0, 1}
		two := flowArguments{stock{impl.Field{Open: open, Dist: [][]int{}}, rooms, []int{}}, []int{0}, [][]int{}, []int{}, w, 0, 1}
		for call, of := range flowCalls() {
			if a, b := of(one), of(two); a.text() != b.text() || !a.ok && call != "HallClients nsr?" {
				t.Errorf("%s of %v = %s and %s", call, open, a.text(), b.text())
			}
		}
	}
}
