package tests

import (
	"slices"
	"testing"

	"loop.example/g01110/impl"
)

func checkBestPlan(t *testing.T, s impl.Season, want [][]int, cost int) {
	t.Helper()
	if got, ok := impl.BestPlan(s); !ok || !sameRows(got, want) {
		t.Errorf("BestPlan of %q = %v, %v; want %v", seasonText(s), got, ok, want)
	}
	if got, ok := impl.BestPlanCost(s); !ok || got != cost {
		t.Errorf("BestPlanCost of %q = %d, %v; want %d", seasonText(s), got, ok, cost)
	}
}

func checkStaticPlan(t *testing.T, s impl.Season, want [][]int) {
	t.Helper()
	if got, ok := impl.StaticPlan(s); !ok || !sameRows(got, want) {
		t.Errorf("StaticPlan of %q = %v, %v; want %v", seasonText(s), got, ok, want)
	}
}

func checkGreedyPlan(t *testing.T, s impl.Season, want [][]int) {
	t.Helper()
	if got, ok := impl.GreedyPlan(s); !ok || !sameRows(got, want) {
		t.Errorf("GreedyPlan of %q = %v, %v; want %v", seasonText(s), got, ok, want)
	}
}

func checkPlanCost(t *testing.T, s impl.Season, plan [][]int, moves []int) {
	t.Helper()
	if got, ok := impl.PlanMoves(s, plan); !ok || !slices.Equal(got, moves) {
		t.Errorf("PlanMoves of %q for %v = %v, %v; want %v", seasonText(s), plan, got, ok, moves)
	}
	if got, ok := impl.PlanCost(s, plan); !ok || got != sumModel(moves) {
		t.Errorf("PlanCost of %q for %v = %d, %v; want %d", seasonText(s), plan, got, ok, sumModel(moves))
	}
}

// The plans of this test were worked out by hand.
func TestP10PlansByHand(t *testing.T) {
	for _, c := range []struct {
		season, best         string
		cost                 int
		static, greedy       string
		staticCost, greedyBy int
	}{
		{"3 1 / 1 1 / 0 0", "", 0, "", "", 0, 0}, {"99 / 99 / 99", "", 0, "", "", 0, 0}, // no rounds
		{"3 1 / 1 1 / 0 0 | -", "-", 0, "-", "-", 0, 0}, {"5 / 6 / 7 | 4", "0", 16, "0", "0", 16, 16}, {"0 / 0 / 0 | 0", "0", 0, "0", "0", 0, 0}, {"99 / 99 / 99 | 99", "0", 297, "0", "0", 297, 297}, // one round
		{pairSeason, "0, 0 1", 5, "0 1, 0 1", "0, 0 1", 5, 5},
		{"1 / 1 / 9 | 0 | - | 0", "0, -, 0", 21, "0, 0, 0", "0, -, 0", 28, 21}, // closed and opened again
		{"5 / 5 / 1 | 0 | - | 0", "0, 0, 0", 8, "0, 0, 0", "0, 0, 0", 8, 8},    // kept open
		{"5 / 2 / 3 | 0 | - | 0", "0, 0, 0", 14, "0, 0, 0", "0, -, 0", 14, 18}, // closed too soon
		{"1 / 1 / 9 | 0 | - | 0 | - | 0", "0, -, 0, -, 0", 32, "0, 0, 0, 0, 0", "0, -, 0, -, 0", 46, 32},
		{"5 / 9 / 1 | 3", "0", 9, "0", "0", 9, 9},                 // open at the end
		{"5 / 9 / 1 | 3 | -", "0, 0", 10, "0, 0", "0, 0", 10, 10}, // to keep is cheaper than to close
		{"5 / 0 / 1 | 3 | -", "0, -", 9, "0, 0", "0, -", 10, 9},
		{"5 / 0 / 0 | 3 | -", "0, -", 8, "0, 0", "0, -", 8, 8}, // as cheap, and fewer sites
		{"1 5 / 9 9 / 0 0 | 0 0 | 9 0 | 9 0", "1, 1, 1", 5, "1, 1, 1", "0, 0 1, 0 1", 5, 6},
		{"0 0 / 0 0 / 3 3 | 0 9 | 9 0", "0, 1", 6, "0 1, 0 1", "0, 1", 12, 6},
		{"2 2 / 0 0 / 0 0 | 0 0 | 0 0", "0, 0", 2, "0, 0", "0, 0", 2, 2},                    // the sites alone differ, in the first round
		{"0 0 0 / 0 0 0 / 1 1 1 | 9 9 0 | 9 0 0", "2, 1", 2, "2, 2", "2, 1", 2, 2},          // in a later round
		{"0 0 / 0 0 / 0 0 | 9 0", "1", 0, "1", "1", 0, 0},                                   // fewer sites come first, not a less list
		{"0 0 0 / 0 0 0 / 1 1 2 | 0 9 0 / 9 0 0", "2", 2, "2", "2", 2, 2},                   // even if there are no common ones
		{"0 0 0 / 0 0 0 / 0 0 0 | - | 5 5 5 | -", "-, 0, -", 5, "0, 0, 0", "-, 0, -", 5, 5}, // the number of sites, in each round
		{"1 2 / 9 9 / 0 0 | 0 0 | 1 0", "0, 0", 2, "0, 0", "0, 0", 2, 2},                    // paid first or last
		{"0 3 / 9 9 / 0 0 | 4 0 | 4 0", "1, 1", 3, "1, 1", "1, 1", 3, 3},
		{"0 2 / 0 0 / 0 0 | 2 0 | 2 0 | 2 0", "1, 1, 1", 2, "1, 1, 1", "0, 0, 0", 2, 6}, // greedy takes the first one of the same cost
		{"4 4 / 0 0 / 0 0 | 0 6 | 6 0 | 0 6", "0, 0 1, 0", 8, "0 1, 0 1, 0 1", "0, 1, 0", 8, 12},
		{"3 1 / 1 1 / 0 0 | - | -", "-, -", 0, "-, -", "-, -", 0, 0},
		{"3 1 / 1 1 / 0 0 | - | 0 4", "-, 0", 3, "0, 0", "-, 0", 3, 3}, // the set without sites is none for all rounds
		{"3 1 / 1 1 / 1 1 | - | 0 4", "-, 0", 4, "0, 0", "-, 0", 5, 4},
		{"3 1 / 1 1 / 1 1 | 0 4 | -", "0, -", 5, "0, 0", "0, -", 5, 5},
		{"2 2 / 2 2 / 1 1 | - | 0 5 | - | 5 0 | -", "-, 0, -, 1, 1", 9, "0, 0, 0, 0, 0", "-, 0, 0, 0 1, 0 1", 12, 10},
	} {
		s := seasonOf(c.season)
		checkBestPlan(t, s, planOf(c.best), c.cost)
		checkStaticPlan(t, s, planOf(c.static))
		checkGreedyPlan(t, s, planOf(c.greedy))
		for plan, cost := range map[string]int{c.best: c.cost, c.static: c.staticCost, c.greedy: c.greedyBy} {
			if got, ok := impl.PlanCost(s, planOf(plan)); !ok || got != cost {
				t.Errorf("PlanCost of %q for %q = %d, %v; want %d", c.season, plan, got, ok, cost)
			}
		}
	}
}

// The moves of this test were worked out by hand.
func TestP10MovesByHand(t *testing.T) {
	for _, c := range []struct {
		season, plan string
		moves        []int
	}{
		{"3 1 / 1 1 / 0 0", "", nil}, {pairSeason, "1, 1", []int{5, 1}}, {pairSeason, "0 1, 1", []int{4, 2}}, {pairSeason, "0, 1", []int{3, 3}}, {pairSeason, "1, 0", []int{5, 9}}, {pairSeason, "0, 0", []int{3, 5}},
		{restSeason, "0, -, 1, 0 1", []int{4, 7, 8, 8}}, {restSeason, "0 1, 0 1, 0 1, 0 1", []int{9, 5, 8, 5}}, {restSeason, "1, 0, 0, -", []int{9, 6, 8, 7}}, {restSeason, "0 1, -, 0 1, -", []int{9, 9, 12, 9}},
		{restSeason, "0, 0 1, 1, 0", []int{4, 6, 14, 6}}, {loneSeason, "0, -", []int{7, 3}}, {loneSeason, "0, 0", []int{7, 1}}, {"5 / 6 / 7 | - | - | 1 / 2", "-, 0, 0", []int{0, 12, 10}}, {"5 / 6 / 7 | - | - | -", "0, -, 0", []int{12, 6, 12}},
		{"1 2 4 / 8 16 32 / 0 0 0 | 9 5 7 / 7 9 5", "0 2", []int{5 + 7 + 5}}, {"1 2 4 / 8 16 32 / 0 0 0 | 9 5 7 / 7 9 5 | - | 9 9 9", "1, 0 2, 1", []int{2 + 5 + 9, 5 + 16, 2 + 40 + 9}},
		{"99 / 99 / 99 | 99 | - | 99 / 99 / 99 / 99 / 99", "0, -, 0", []int{297, 99, 99 + 99 + 5*99}},
	} {
		checkPlanCost(t, seasonOf(c.season), planOf(c.plan), c.moves)
	}
	for _, c := range []struct {
		season      string
		round       int
		before, set []int
		cost        int
	}{
		{pairSeason, 1, []int{0}, []int{1}, 3}, {pairSeason, 0, nil, []int{0}, 3}, {pairSeason, 0, []int{}, []int{0, 1}, 4}, {pairSeason, 0, []int{0}, []int{0}, 0}, {pairSeason, 0, []int{0}, []int{1}, 6}, {pairSeason, 1, []int{0, 1}, []int{0}, 6},
		{pairSeason, 1, nil, []int{1}, 2}, // any set may have been open, even behind a round with clients
		{restSeason, 0, []int{0, 1}, []int{1}, 15}, {restSeason, 1, nil, nil, 0}, {restSeason, 1, []int{}, []int{0, 1}, 9}, {restSeason, 1, []int{0, 1}, nil, 9}, {restSeason, 1, []int{0}, []int{}, 7}, {restSeason, 1, []int{1}, nil, 2},
		{restSeason, 2, nil, []int{0}, 11}, {restSeason, 2, []int{0, 1}, []int{0, 1}, 8}, {restSeason, 2, []int{1}, []int{0}, 13}, {restSeason, 3, []int{0}, []int{1}, 12}, {restSeason, 3, []int{1}, []int{1}, 4}, {restSeason, 3, nil, nil, 0},
		{"5 / 6 / 7 | 4 / 0 / 99 / 8 / 1", 0, nil, []int{0}, 12 + 112}, {"5 / 6 / 7 | 4 / 0 / 99 / 8 / 1", 0, []int{0}, []int{0}, 7 + 112},
	} {
		if got, ok := impl.MoveCost(seasonOf(c.season), c.round, c.before, c.set); !ok || got != c.cost {
			t.Errorf("MoveCost of %q in round %d from %v to %v = %d, %v; want %d", c.season, c.round, c.before, c.set, got, ok, c.cost)
		}
	}
}

func TestP10PlansAreRecognized(t *testing.T) {
	for _, c := range []struct {
		season, plan string
		want         bool
	}{
		{"3 1 / 1 1 / 0 0", "", true}, {"3 1 / 1 1 / 0 0", "-", false}, {"3 1 / 1 1 / 0 0", "0", false}, {pairSeason, "", false}, {pairSeason, "0", false}, {pairSeason, "0, 1", true}, {pairSeason, "0, 1, 0", false}, {pairSeason, "0, 1, -", false},
		{pairSeason, "-, 1", false}, {pairSeason, "1, -", false}, {pairSeason, "-, -", false}, {pairSeason, "0 1, 0 1", true}, {pairSeason, "1 0, 0", false}, {pairSeason, "0, 1 0", false}, {pairSeason, "0 0, 1", false}, {pairSeason, "0, 1 1", false},
		{pairSeason, "0, 2", false}, {pairSeason, "2, 0", false}, {pairSeason, "-1, 0", false}, {pairSeason, "0, -1", false}, {pairSeason, "0 1 2, 0", false}, {pairSeason, "0, -1 0 1", false},
		{restSeason, "0, -, 0, -", true}, {restSeason, "0, 1, 0, 1", true}, {restSeason, "-, -, 0, -", false}, {restSeason, "0, -, -, -", false}, {restSeason, "0, -, 0", false}, {restSeason, "0, 2, 0, -", false}, {restSeason, "0, -, 0, 1 0", false},
		{"1 / 1 / 1 | - | - | - | - | -", "-, -, -, -, -", true}, {"1 / 1 / 1 | - | - | - | - | -", "0, -, 0, -, 0", true}, {"1 / 1 / 1 | - | - | - | - | -", "0, -, 0, -, 1", false}, {"1 / 1 / 1 | - | - | - | - | -", "-, -, -, -, -, -", false},
	} {
		if got, ok := impl.IsPlan(seasonOf(c.season), planOf(c.plan)); !ok || got != c.want {
			t.Errorf("IsPlan of %q for %q = %v, %v; want %v", c.season, c.plan, got, ok, c.want)
		}
	}
}

func TestP10MovesOfManySeasons(t *testing.T) {
	n := &numbers{state: 123}
	for _, s := range manySeasons(2) {
		sets := setsModel(len(s.Open))
		for round := range s.Rounds {
			for range 20 {
				before, set := sets[n.below(len(sets))], sets[n.below(len(sets))]
				fine, want := len(set) > 0 || len(s.Rounds[round]) == 0, 0
				if fine {
					want = moveModel(s, round, before, set)
				}
				if got, ok := impl.MoveCost(s, round, before, set); ok != fine || got != want {
					t.Errorf("MoveCost of %q in round %d from %v to %v = %d, %v; want %d, %v", seasonText(s), round, before, set, got, ok, want, fine)
				}
			}
		}
		for range 10 {
			plan := n.planFrom(s)
			if is, ok := impl.IsPlan(s, plan); !ok || !is {
				t.Errorf("IsPlan of %q for %v = %v, %v", seasonText(s), plan, is, ok)
			}
			checkPlanCost(t, s, plan, planMovesModel(s, plan))
		}
	}
}

// The lists of this test are plans or not.
func TestP10ListsThatMayBePlans(t *testing.T) {
	n := &numbers{state: 124}
	for _, s := range manySeasons(1) {
		sets := setsModel(len(s.Open))
		for range 30 {
			list := [][]int{}
			for range max(0, len(s.Rounds)+min(n.below(12), 2)-1) {
				list = append(list, sets[n.below(len(sets))])
			}
			want := isPlanModel(s, list)
			if got, ok := impl.IsPlan(s, list); !ok || got != want {
				t.Errorf("IsPlan of %q for %v = %v, %v; want %v", seasonText(s), list, got, ok, want)
			}
			if _, ok := impl.PlanCost(s, list); ok != want {
				t.Errorf("PlanCost of %q for %v is told: %v", seasonText(s), list, ok)
			}
		}
	}
}

func TestP10PlansOfAllSmallSeasons(t *testing.T) {
	for rounds := range 4 {
		for _, s := range smallSeasons(rounds, 2-rounds/3) {
			best, cost := triedPlan(s)
			checkBestPlan(t, s, best, cost)
			static, _ := staticModel(s)
			checkStaticPlan(t, s, static)
			checkGreedyPlan(t, s, greedyPlanModel(s))
		}
	}
}

// All plans of these Seasons are tried.
func TestP10PlansThatAreTried(t *testing.T) {
	for _, s := range fewPlans(manySeasons(2), 1100) {
		best, cost := triedPlan(s)
		checkBestPlan(t, s, best, cost)
	}
}

func TestP10PlansOfManySeasons(t *testing.T) {
	for _, s := range manySeasons(2) {
		best, cost := reachedPlan(s)
		checkBestPlan(t, s, best, cost)
		static, staticCost := staticModel(s)
		checkStaticPlan(t, s, static)
		greedy := greedyPlanModel(s)
		checkGreedyPlan(t, s, greedy)
		if staticCost < cost || planCostModel(s, greedy) < cost {
			t.Errorf("%q has other plans that cost less than %d", seasonText(s), cost)
		}
	}
}

func TestP10NoPlanCostsLess(t *testing.T) {
	n := &numbers{state: 125}
	for _, s := range manySeasons(2) {
		least, one := impl.BestPlanCost(s)
		best, two := impl.BestPlan(s)
		static, three := impl.StaticPlan(s)
		greedy, four := impl.GreedyPlan(s)
		if !one || !two || !three || !four {
			t.Fatalf("%q has no plans", seasonText(s))
		}
		if cost, ok := impl.PlanCost(s, best); !ok || cost != least {
			t.Errorf("the best plan %v of %q costs %d, %v; not %d", best, seasonText(s), cost, ok, least)
		}
		for _, plan := range [][][]int{static, greedy, n.planFrom(s), n.planFrom(s), n.planFrom(s)} {
			if cost, ok := impl.PlanCost(s, plan); !ok || cost < least {
				t.Errorf("the plan %v of %q costs %d, %v; the best one %d", plan, seasonText(s), cost, ok, least)
			}
		}
		for round := range static {
			if !slices.Equal(static[round], static[0]) {
				t.Errorf("StaticPlan of %q = %v", seasonText(s), static)
			}
		}
	}
}

// The Seasons of this test have so many ties that most of their best plans are not alone.
func TestP10FirstPlansOfSeveral(t *testing.T) {
	n := &numbers{state: 126}
	for sites := 2; sites <= 4; sites++ {
		for range 60 {
			s := n.seasonFrom(sites, n.clientsOfRounds(1+n.below(3)), 1, 1, 1, 1)
			if n.below(2) == 0 { // the same cost for all sites
				s.Open, s.Close, s.Keep = slices.Repeat(s.Open[:1], sites), slices.Repeat(s.Close[:1], sites), slices.Repeat(s.Keep[:1], sites)
			}
			best, cost := reachedPlan(s)
			if len(fewPlans([]impl.Season{s}, 600)) > 0 {
				best, cost = triedPlan(s)
			}
			checkBestPlan(t, s, best, cost)
			static, _ := staticModel(s)
			checkStaticPlan(t, s, static)
			checkGreedyPlan(t, s, greedyPlanModel(s))
		}
	}
}

// A Season with one round is a Field whose opening costs are those to open and to keep.
func TestP10OneRoundIsAField(t *testing.T) {
	n := &numbers{state: 127}
	for sites := 1; sites <= impl.MaxShort; sites++ {
		for clients := 1; clients <= impl.MaxShort; clients++ {
			for range 4 {
				s := n.seasonFrom(sites, []int{clients}, 40, 99, 40, 60)
				f := impl.Field{Open: slices.Clone(s.Open), Dist: s.Rounds[0]}
				for site, keep := range s.Keep {
					f.Open[site] += keep
				}
				best, total := bestModel(f)
				checkBestPlan(t, s, [][]int{best}, total)
				checkStaticPlan(t, s, [][]int{best})
				checkGreedyPlan(t, s, [][]int{best})
			}
		}
	}
}
