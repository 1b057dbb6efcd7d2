package tests

import (
	"math"
	"slices"
	"strconv"
	"testing"

	"loop.example/g01110/impl"
)

// seasonArguments has what the functions of chapter 10 take that are told for a
// Season, each a part of it.
type seasonArguments struct {
	s           impl.Season
	round       int
	before, set []int
	plan, table [][]int
}

// seasonCalls has these functions. Behind a name come those parts of the
// arguments for which, beside the Season, the function fails if they are not
// valid: r for the round, b for the set before, s for the set, and p for the plan.
func seasonCalls() map[string]func(a seasonArguments) outcome {
	return map[string]func(a seasonArguments) outcome{
		"IsPlan":        func(a seasonArguments) outcome { return ofReport(impl.IsPlan(a.s, a.plan)) },
		"MoveCost rbs":  func(a seasonArguments) outcome { return ofNumber(impl.MoveCost(a.s, a.round, a.before, a.set)) },
		"PlanCost p":    func(a seasonArguments) outcome { return ofNumber(impl.PlanCost(a.s, a.plan)) },
		"PlanMoves p":   func(a seasonArguments) outcome { return ofList(impl.PlanMoves(a.s, a.plan)) },
		"BestPlan":      func(a seasonArguments) outcome { return ofRows(impl.BestPlan(a.s)) },
		"BestPlanCost":  func(a seasonArguments) outcome { return ofNumber(impl.BestPlanCost(a.s)) },
		"StaticPlan":    func(a seasonArguments) outcome { return ofRows(impl.StaticPlan(a.s)) },
		"GreedyPlan":    func(a seasonArguments) outcome { return ofRows(impl.GreedyPlan(a.s)) },
		"FutureCosts":   func(a seasonArguments) outcome { return ofRows(impl.FutureCosts(a.s)) },
		"ArePotentials": func(a seasonArguments) outcome { return ofReport(impl.ArePotentials(a.s, a.table)) },
		"PlanProof p":   func(a seasonArguments) outcome { return ofReport(impl.PlanProof(a.s, a.plan, a.table)) },
	}
}

// ofNested writes a failure without results as 0.
func ofNested(k int, numbers [2]int, ok bool) outcome {
	rest := strconv.Itoa(k)
	if numbers != [2]int{} || ok {
		rest += " " + listOf(numbers[:])
	}
	return outcome{nil, rest, ok}
}

// onlineCalls has the functions of chapter 10 that are told for a Field, with o
// behind a name if the function fails for an order that is not valid.
func onlineCalls() map[string]func(f impl.Field, order []int) outcome {
	return map[string]func(f impl.Field, order []int) outcome{
		"OnlineOpenings": func(f impl.Field, _ []int) outcome { return ofRows(impl.OnlineOpenings(f)) },
		"OnlineTotal":    func(f impl.Field, _ []int) outcome { return ofNumber(impl.OnlineTotal(f)) },
		"NestedWorst o":  func(f impl.Field, order []int) outcome { return ofNested(impl.NestedWorst(f, order)) },
	}
}

// argumentsFor gives valid arguments, if there is a round.
func argumentsFor(s impl.Season, n *numbers) seasonArguments {
	a := seasonArguments{s, 0, n.setFrom(len(s.Open)), nil, n.planFrom(s), futureModel(s)}
	if len(s.Rounds) > 0 {
		a.round = n.below(len(s.Rounds))
		sets := roundSets(s, a.round)
		a.set = sets[n.below(len(sets))]
	}
	return a
}

// seasonSamples has valid arguments of all sizes; without rounds there is none for MoveCost.
func seasonSamples(state uint32) []seasonArguments {
	list, n := []seasonArguments{}, &numbers{state: state}
	for sites := 1; sites <= impl.MaxShort; sites++ {
		for rounds := range impl.MaxRounds + 1 {
			list = append(list, argumentsFor(n.seasonFrom(sites, n.clientsOfRounds(rounds), 20, 9, 9, 30), n))
		}
	}
	for _, s := range []impl.Season{seasonOf(pairSeason), seasonOf(restSeason), seasonOf(loneSeason), seasonOf("0 0 / 0 0 / 0 0 | - | - | -")} {
		list = append(list, argumentsFor(s, n))
	}
	return list
}

// checkSeasonParts calls all functions that take a part that is not valid.
func checkSeasonParts(t *testing.T, name, part string, bad seasonArguments) {
	t.Helper()
	checkFailures(t, name, part, seasonText(bad.s), seasonCalls(), bad)
}

func TestP10ArgumentsThatAreValid(t *testing.T) {
	for _, a := range seasonSamples(135) {
		if !impl.IsSeason(a.s) {
			t.Errorf("IsSeason of %q is false", seasonText(a.s))
		}
		all := allBelow(len(a.s.Open))
		ends := a // each part at one of its ends
		ends.round, ends.before, ends.set, ends.plan = len(a.s.Rounds)-1, nil, all, slices.Repeat([][]int{all}, len(a.s.Rounds))
		for _, good := range []seasonArguments{a, ends} {
			for call, of := range seasonCalls() {
				if got := of(good); !got.ok && (call != "MoveCost rbs" || len(a.s.Rounds) > 0) {
					t.Errorf("%s of %q for %+v = %s", call, seasonText(a.s), good, got.text())
				}
			}
		}
	}
	for _, s := range append(manySeasons(1), seasonOf("0 99 0 99 0 / 99 0 99 0 99 / 0 0 99 99 0 | 0 99 0 99 99 / 99 0 0 0 0 | -")) {
		if !impl.IsSeason(s) {
			t.Errorf("IsSeason of %q is false", seasonText(s))
		}
	}
}

// badSeasons has what is no Season.
func badSeasons() map[string]impl.Season {
	bad := map[string]impl.Season{"nothing": {}, "no site, but rounds": {Rounds: [][][]int{{}, {{}}}}, "no site, but a client": {Rounds: [][][]int{{{3}}}}}
	for name, text := range map[string]string{
		"six sites": "1 2 3 4 5 6 / 1 2 3 4 5 6 / 1 2 3 4 5 6", "six sites and a round": "1 2 3 4 5 6 / 1 2 3 4 5 6 / 1 2 3 4 5 6 | 1 2 3 4 5 6", "seven sites": "1 2 3 4 5 6 7 / 1 2 3 4 5 6 7 / 1 2 3 4 5 6 7 | -",
		"few to open": "1 / 1 2 / 1 2 | 1 2", "few to close": "1 2 / 1 / 1 2 | 1 2", "few to keep": "1 2 / 1 2 / 1 | 1 2", "many to open": "1 2 3 / 1 2 / 1 2 | 1 2", "many to close": "1 2 / 1 2 3 / 1 2 | 1 2", "many to keep": "1 2 / 1 2 / 1 2 3 | 1 2", "all different": "1 / 1 2 / 1 2 3 | 1",
		"few to open, no rounds": "1 / 1 2 / 1 2", "few to close, no rounds": "1 2 / 1 / 1 2", "few to keep, no rounds": "1 2 / 1 2 / 1", "few lengths of open sites alone": "1 2 3 / 1 2 / 1 2 | 1 2 3", "few to keep and few lengths": "1 2 / 1 2 / 1 | 1",
		"none to open": " / 1 / 1 | 3", "none to close": "1 /  / 1 | 3", "none to keep": "1 / 1 /  | 3", "none but to keep": " /  / 1 | 3", "six to close": "1 2 3 4 5 / 1 2 3 4 5 6 / 1 2 3 4 5 | -",
		"six rounds": "1 2 / 3 4 / 5 6 | - | - | - | - | - | -", "six rounds with clients": "1 / 1 / 1 | 1 | 2 | 3 | 4 | 5 | 6", "seven rounds": "1 / 1 / 1 | - | - | - | - | - | - | 3",
		"six clients": "1 / 2 / 3 | 1 / 2 / 3 / 4 / 5 / 6", "six clients later": "1 / 2 / 3 | 1 | - | 1 / 2 / 3 / 4 / 5 / 6", "seven clients": "1 / 2 / 3 | - | 1 / 2 / 3 / 4 / 5 / 6 / 7 | 0", "eight clients": "1 / 2 / 3 | 1 / 2 / 3 / 4 / 5 / 6 / 7 / 8",
		"few lengths": "1 2 / 1 2 / 1 2 | 1", "few lengths later": "1 2 / 1 2 / 1 2 | 1 2 | 1 2 / 1", "few lengths at the end": "1 2 / 1 2 / 1 2 | 1 2 | - | 1", "many lengths": "1 2 / 1 2 / 1 2 | 1 2 3", "many lengths later": "1 2 / 1 2 / 1 2 | - | 1 2 / 1 2 3 / 1 2", "few and many lengths": "1 2 / 1 2 / 1 2 | 1 2 3 / 1",
	} {
		bad[name] = seasonOf(text)
	}
	bad["no lengths"] = impl.Season{Open: []int{1}, Close: []int{1}, Keep: []int{1}, Rounds: [][][]int{{nil}}}
	bad["no lengths at the end"] = impl.Season{Open: []int{1}, Close: []int{1}, Keep: []int{1}, Rounds: [][][]int{{{1}}, {{1}, {}}}}
	bad["many sites"] = impl.Season{Open: make([]int, 100000), Close: make([]int, 100000), Keep: make([]int, 100000)}
	bad["many to close only"] = impl.Season{Open: []int{1}, Close: make([]int, 100000), Keep: []int{1}}
	bad["many rounds"] = impl.Season{Open: []int{1}, Close: []int{1}, Keep: []int{1}, Rounds: make([][][]int, 100000)}
	bad["many clients"] = impl.Season{Open: []int{1}, Close: []int{1}, Keep: []int{1}, Rounds: [][][]int{slices.Repeat([][]int{{1}}, 100000)}}
	for _, number := range []int{-1, 100, -2, 101, 1000, math.MinInt, math.MaxInt, math.MinInt + 1, math.MaxInt - 1, 1 << 32, -1 << 32, 1<<32 + 1, 1 << 62, 256} {
		for list := range 3 {
			for site := range 3 {
				for _, rounds := range []string{"", " | 1 2 3 | -"} {
					s := seasonOf("1 2 3 / 4 5 6 / 7 8 9" + rounds)
					[][]int{s.Open, s.Close, s.Keep}[list][site] = number
					bad[seasonText(s)] = s
				}
			}
		}
		for round, clients := range seasonOf("1 2 / 3 4 / 5 6 | 1 2 | 3 4 / 5 6 / 7 8 | 9 0").Rounds {
			for client := range clients {
				for site := range 2 {
					s := seasonOf("1 2 / 3 4 / 5 6 | 1 2 | 3 4 / 5 6 / 7 8 | 9 0")
					s.Rounds[round][client][site] = number
					bad[seasonText(s)] = s
				}
			}
		}
	}
	return bad
}

// fitArguments gives arguments that would be valid if the Season were so.
func fitArguments(s impl.Season) seasonArguments {
	rounds, places := min(len(s.Rounds), 10), 1<<min(len(s.Open), 8)
	return seasonArguments{s, 0, nil, []int{0}, slices.Repeat([][]int{{0}}, rounds), slices.Repeat([][]int{slices.Repeat([]int{-1000}, places)}, rounds+1)}
}

func TestP10SeasonsThatAreNotValid(t *testing.T) {
	for name, s := range badSeasons() {
		if impl.IsSeason(s) {
			t.Errorf("%s: IsSeason is true", name)
		}
		fit := fitArguments(s)
		empty := seasonArguments{s: s, before: []int{}, set: []int{}}
		zero := fit
		zero.table = [][]int{{0}}
		for _, bad := range []seasonArguments{fit, empty, zero} {
			for call, of := range seasonCalls() {
				if got := of(bad); !got.isZero() {
					t.Errorf("%s: %s = %s", name, call, got.text())
				}
			}
		}
	}
}

func TestP10RoundsAndSetsThatAreNotValid(t *testing.T) {
	for _, a := range seasonSamples(136) {
		sites, rounds := len(a.s.Open), len(a.s.Rounds)
		for _, round := range append(outside(rounds-1), rounds, rounds+1) {
			if round >= 0 && round < rounds {
				continue
			}
			bad := a
			bad.round = round
			checkSeasonParts(t, "round "+strconv.Itoa(round), "r", bad)
			bad.before, bad.set = nil, []int{0}
			checkSeasonParts(t, "round "+strconv.Itoa(round), "r", bad)
		}
		for _, set := range badSets(sites) {
			bad := a
			bad.set = set
			checkSeasonParts(t, "set "+listOf(set[:min(9, len(set))]), "s", bad)
			bad.before = set
			checkSeasonParts(t, "both sets "+listOf(set[:min(9, len(set))]), "s", bad)
			bad.set = a.set
			checkSeasonParts(t, "set before "+listOf(set[:min(9, len(set))]), "b", bad)
		}
		for round, clients := range a.s.Rounds {
			for _, set := range [][]int{nil, {}} {
				bad := a
				bad.round, bad.set = round, set
				if len(clients) > 0 {
					checkSeasonParts(t, "no sites", "s", bad)
				} else if _, ok := impl.MoveCost(a.s, round, a.before, set); !ok {
					t.Errorf("MoveCost of %q in round %d to no sites fails", seasonText(a.s), round)
				}
			}
		}
	}
}

// badPlans gives lists that are no plans.
func badPlans(s impl.Season, plan [][]int) [][][]int {
	sites, rounds := len(s.Open), len(s.Rounds)
	list := [][][]int{append(slices.Clone(plan), []int{0}), append(slices.Clone(plan), []int{}), append(slices.Clone(plan), nil, nil), slices.Repeat([][]int{{0}}, rounds+1), make([][]int, 100000), slices.Repeat([][]int{{0}}, 1000)}
	for fewer := range rounds {
		list = append(list, plan[:fewer], plan[rounds-fewer:])
	}
	for round, clients := range s.Rounds {
		sets := badSets(sites)
		if len(clients) > 0 {
			sets = append(sets, nil, []int{})
		}
		for _, set := range sets {
			other := slices.Clone(plan)
			other[round] = set
			list = append(list, other)
		}
	}
	return list
}

func TestP10PlansThatAreNotValid(t *testing.T) {
	for _, a := range seasonSamples(137) {
		for place, plan := range badPlans(a.s, a.plan) {
			bad := a
			bad.plan = plan
			checkSeasonParts(t, "plan "+strconv.Itoa(place), "p", bad)
			if is, ok := impl.IsPlan(a.s, plan); !ok || is {
				t.Errorf("IsPlan of %q for bad plan %d = %v, %v", seasonText(a.s), place, is, ok)
			}
			bad.table = nil
			checkSeasonParts(t, "plan and table "+strconv.Itoa(place), "p", bad)
		}
	}
}

// Tables of any numbers are no failures, neither for ArePotentials nor for a proof.
func TestP10TablesThatAreNotValid(t *testing.T) {
	for _, a := range seasonSamples(138) {
		tables := [][][]int{nil, {}, a.table[1:], a.table[:len(a.table)-1], append(slices.Clone(a.table), a.table[len(a.table)-1]), append([][]int{a.table[0]}, a.table...), make([][]int, len(a.table))}
		for round, list := range a.table {
			for _, other := range [][]int{nil, {}, list[1:], list[:len(list)/2], append(slices.Clone(list), 0), append(slices.Clone(list), list...), make([]int, 100000)} {
				table := slices.Clone(a.table)
				table[round] = other
				tables = append(tables, table)
			}
			for place := range list {
				for _, number := range []int{-1000001, 1000001, math.MinInt, math.MaxInt} {
					table := copyRows(a.table)
					table[round][place] = number
					tables = append(tables, table)
				}
			}
		}
		best, _ := reachedPlan(a.s)
		for _, table := range tables {
			checkPotentials(t, a.s, table, false)
			checkPlanProof(t, a.s, best, table, false)
		}
	}
}

// The numbers of all tables here are so low that no move breaks a limit.
func TestP10PotentialsJustBeyondTheLimit(t *testing.T) {
	for _, a := range seasonSamples(139) {
		low := slices.Repeat([][]int{slices.Repeat([]int{-impl.MaxPotential}, 1<<len(a.s.Open))}, len(a.s.Rounds)+1)
		checkPotentials(t, a.s, low, true)
		for round := range low {
			for place := range low[round] {
				table := copyRows(low)
				table[round][place]--
				checkPotentials(t, a.s, table, false)
			}
		}
	}
}

func TestP10FieldsThatAreNotValid(t *testing.T) {
	for name, f := range badFields() {
		for _, order := range [][]int{nil, {0}, {0, 1}, {1, 0}, {0, 1, 2}, {2, 0, 1}, allBelow(7), allBelow(8), allBelow(len(f.Open))} {
			for call, of := range onlineCalls() {
				if got := of(f, order); !got.isZero() {
					t.Errorf("%s: %s for %v = %s", name, call, order[:min(9, len(order))], got.text())
				}
			}
		}
	}
}

func TestP10OrdersThatAreNotValid(t *testing.T) {
	n := &numbers{state: 140}
	for sites := 1; sites <= impl.MaxSites; sites++ {
		for _, clients := range []int{0, 1, 7} {
			f := n.fieldFrom(sites, clients, 20, 20)
			orders := append(badOrders(sites), nil, []int{}, allBelow(sites-1))
			for _, order := range orders {
				if k, numbers, ok := impl.NestedWorst(f, order); ok || k != 0 || numbers != [2]int{} {
					t.Errorf("NestedWorst of %q for %v = %d, %v, %v", textOf(f), order[:min(9, len(order))], k, numbers, ok)
				}
			}
			for call, of := range onlineCalls() {
				if got := of(f, reversed(allBelow(sites))); !got.ok {
					t.Errorf("%s of %q = %s", call, textOf(f), got.text())
				}
			}
		}
	}
}

// A nil slice is the same as an empty one.
func TestP10NilAndEmptyListsAreTheSame(t *testing.T) {
	one := seasonArguments{seasonOf("3 1 / 1 1 / 0 0 | - | 0 4 | -"), 0, nil, nil, [][]int{nil, {0}, nil}, nil}
	two := seasonArguments{seasonOf("3 1 / 1 1 / 0 0 | - | 0 4 | -"), 0, []int{}, []int{}, [][]int{{}, {0}, {}}, [][]int{}}
	two.s.Rounds[0], two.s.Rounds[2] = [][]int{}, [][]int{}
	three := seasonArguments{s: impl.Season{Open: []int{1}, Close: []int{2}, Keep: []int{3}}, table: [][]int{{0, 0}}}
	four := three
	four.s.Rounds, four.before, four.set, four.plan = [][][]int{}, []int{}, []int{}, [][]int{}
	for call, of := range seasonCalls() {
		if a, b := of(one), of(two); a.text() != b.text() || !a.ok {
			t.Errorf("%s = %s and %s", call, a.text(), b.text())
		}
		if a, b := of(three), of(four); a.text() != b.text() || !a.ok && call != "MoveCost rbs" {
			t.Errorf("%s = %s and %s", call, a.text(), b.text())
		}
	}
	for call, of := range onlineCalls() {
		if a, b := of(impl.Field{Open: []int{5}}, []int{0}), of(impl.Field{Open: []int{5}, Dist: [][]int{}}, []int{0}); a.text() != b.text() || !a.ok {
			t.Errorf("%s = %s and %s", call, a.text(), b.text())
		}
	}
}

func TestP10NamedLimits(t *testing.T) {
	if impl.MaxRounds != 5 || impl.MaxShort != 5 || impl.MaxPotential != 1000000 {
		t.Errorf("the limits are %d, %d and %d", impl.MaxRounds, impl.MaxShort, impl.MaxPotential)
	}
}
