package tests

import (
	"math"
	"slices"
	"testing"

	"loop.example/g01110/impl"
)

func checkFuture(t *testing.T, s impl.Season, want [][]int) {
	t.Helper()
	if got, ok := impl.FutureCosts(s); !ok || !sameRows(got, want) {
		t.Errorf("FutureCosts of %q = %v, %v; want %v", seasonText(s), got, ok, want)
	}
}

func checkPotentials(t *testing.T, s impl.Season, table [][]int, want bool) {
	t.Helper()
	if got, ok := impl.ArePotentials(s, table); !ok || got != want {
		t.Errorf("ArePotentials of %q for %v = %v, %v; want %v", seasonText(s), table, got, ok, want)
	}
}

func checkPlanProof(t *testing.T, s impl.Season, plan, table [][]int, want bool) {
	t.Helper()
	if got, ok := impl.PlanProof(s, plan, table); !ok || got != want {
		t.Errorf("PlanProof of %q for %v and %v = %v, %v; want %v", seasonText(s), plan, table, got, ok, want)
	}
}

// The costs of this test were worked out by hand.
func TestP10FutureCostsByHand(t *testing.T) {
	for _, c := range []struct{ season, table string }{
		{"3 1 / 1 1 / 0 0", "0 0 0 0"}, {"99 / 99 / 99", "0 0"}, {"0 0 0 0 0 / 0 0 0 0 0 / 0 0 0 0 0", "0 0 0 0 0 0 0 0 0 0 0 0 0 0 0 0 0 0 0 0 0 0 0 0 0 0 0 0 0 0 0 0"}, // no rounds
		{pairSeason, "5 2 4 1 / 2 2 1 1 / 0 0 0 0"}, {loneSeason, "8 6 / 0 1 / 0 0"}, {"5 / 6 / 7 | -", "0 6 / 0 0"}, {"5 / 6 / 7 | 4", "16 11 / 0 0"}, {"5 / 8 / 7 | -", "0 7 / 0 0"},
		{"1 / 1 / 9 | 0 | - | 0", "21 20 / 10 11 / 10 9 / 0 0"}, {"99 / 99 / 99 | 99", "297 198 / 0 0"}, {"99 / 99 / 99 | - | 99", "297 297 / 297 198 / 0 0"},
		{"1 2 / 4 8 / 0 0 | - | 7 5", "7 7 5 5 / 7 7 5 5 / 0 0 0 0"},
	} {
		s, want := seasonOf(c.season), rowsOf(c.table)
		checkFuture(t, s, want)
		checkPotentials(t, s, want, true)
	}
}

func TestP10FutureCostsOfManySeasons(t *testing.T) {
	for _, s := range manySeasons(2) {
		want := futureModel(s)
		checkFuture(t, s, want)
		checkPotentials(t, s, want, true)
	}
	for rounds := range 4 {
		for _, s := range smallSeasons(rounds, 2-rounds/3) {
			checkFuture(t, s, futureModel(s))
		}
	}
}

// The first number in each list of FutureCosts is the cost of a best plan for
// the rounds from there on, before which no site is open.
func TestP10FutureCostsAreThoseOfBestPlans(t *testing.T) {
	for _, s := range manySeasons(2) {
		table, _ := impl.FutureCosts(s)
		for round := range len(s.Rounds) + 1 {
			later := s
			later.Rounds = s.Rounds[round:]
			if cost, ok := impl.BestPlanCost(later); !ok || cost != table[round][0] {
				t.Errorf("FutureCosts of %q in round %d = %v; want %d, %v", seasonText(s), round, table[round], cost, ok)
			}
		}
	}
}

// These tables were worked out by hand.
func TestP10PotentialsByHand(t *testing.T) {
	for _, c := range []struct {
		season, table string
		want          bool
	}{
		{loneSeason, "8 6 / 0 1 / 0 0", true}, {loneSeason, "9 6 / 0 1 / 0 0", false}, {loneSeason, "8 7 / 0 1 / 0 0", false}, {loneSeason, "8 6 / 1 1 / 0 0", false}, {loneSeason, "8 6 / 0 2 / 0 0", false}, // one too great
		{loneSeason, "8 6 / 0 1 / 1 0", false}, {loneSeason, "8 6 / 0 1 / 0 1", false}, {loneSeason, "0 0 / 0 0 / 1 1", false}, {loneSeason, "0 0 / 0 0 / 0 1", false}, {loneSeason, "-9 -9 / -9 -9 / 1 -9", false}, // the last list
		{loneSeason, "7 5 / 0 0 / 0 0", true}, {loneSeason, "8 5 / 0 0 / 0 0", false}, {loneSeason, "7 6 / 0 0 / 0 0", false}, {loneSeason, "0 0 / 0 0 / 0 0", true}, {loneSeason, "7 5 / 0 0 / 0 -1", true}, {loneSeason, "7 5 / 0 0 / 0 -3", false}, {loneSeason, "7 5 / -1 0 / -1 -1", true},
		{loneSeason, "8 6 / -1000000 1 / 0 0", true}, {loneSeason, "8 6 / -1000001 1 / 0 0", false}, // no move leads to the set without sites
		{loneSeason, "8 6 / 0 -1000000 / 0 0", false}, {loneSeason, "-999993 -999995 / 0 -1000000 / 0 0", true}, {loneSeason, "-999992 -999995 / 0 -1000000 / 0 0", false}, {loneSeason, "-999993 -999994 / 0 -1000000 / 0 0", false},
		{loneSeason, "-1000000 -1000000 / -1000000 -1000000 / -1000000 -1000000", true}, {loneSeason, "-1000000 -1000000 / -1000000 -1000000 / -1000000 -1000001", false}, {loneSeason, "-1000001 -1000000 / -1000000 -1000000 / -1000000 -1000000", false},
		{loneSeason, "-1000000 -1000001 / -1000000 -1000000 / -1000000 -1000000", false}, {loneSeason, "-1000000 -1000000 / -1000000 -1000001 / -1000000 -1000000", false}, {loneSeason, "-1000000 -1000000 / -1000000 -1000000 / -1000001 -1000000", false},
		{loneSeason, "1000000 6 / 0 1 / 0 0", false}, {loneSeason, "8 1000000 / 0 1 / 0 0", false}, {loneSeason, "8 6 / 1000000 1 / 0 0", false}, {loneSeason, "1000000 1000000 / 1000000 1000000 / 1000000 1000000", false}, {loneSeason, "1000001 1000000 / 1000000 1000000 / 0 0", false},
		{loneSeason, "8 6 / 0 1", false}, {loneSeason, "8 6", false}, {loneSeason, "8 6 / 0 1 / 0 0 / 0 0", false}, {loneSeason, "0 1 / 0 0", false}, {loneSeason, "8 6 / 0 1 / 0", false}, {loneSeason, "8 / 0 1 / 0 0", false}, {loneSeason, "8 6 0 / 0 1 / 0 0", false}, {loneSeason, "8 6 / 0 1 / 0 0 0 0", false}, // other tables
		{"5 / 6 / 7", "0 0", true}, {"5 / 6 / 7", "-1 0", true}, {"5 / 6 / 7", "0 -1000000", true}, {"5 / 6 / 7", "0 -1000001", false}, {"5 / 6 / 7", "1 0", false}, {"5 / 6 / 7", "0 1", false}, {"5 / 6 / 7", "0", false}, {"5 / 6 / 7", "0 0 0", false}, {"5 / 6 / 7", "", false}, {"5 / 6 / 7", "0 0 / 0 0", false}, // no rounds
		{pairSeason, "5 2 4 1 / 2 2 1 1 / 0 0 0 0", true}, {pairSeason, "5 2 4 1 / -7 2 1 1 / 0 0 0 0", true}, {pairSeason, "5 2 4 1 / 1 2 1 1 / 0 0 0 0", true}, {pairSeason, "5 2 4 1 / 2 1 1 1 / 0 0 0 0", false}, {pairSeason, "5 2 4 1 / 2 2 0 1 / 0 0 0 0", true}, // sets that are not those of the best plan
		{pairSeason, "5 2 4 1 / 2 0 1 1 / 0 0 0 0", false}, {pairSeason, "5 2 4 1 / 2 2 1 0 / 0 0 0 0", false}, {pairSeason, "5 2 4 1 / 2 2 1 1 / -9 0 0 0", true}, {pairSeason, "5 2 4 1 / 2 2 1 1 / 0 -1 0 0", true}, {pairSeason, "5 2 4 1 / 2 2 1 1 / 0 0 0 -1", false}, {pairSeason, "5 2 4 1 / 2 2 1 1 / 0 0 -1 0", false},
	} {
		checkPotentials(t, seasonOf(c.season), rowsOf(c.table), c.want)
	}
	for _, table := range [][][]int{nil, {}, {nil}, {{}}, {nil, nil, nil}, {{8, 6}, nil, {0, 0}}, {{8, 6}, {0, 1}, nil}, {make([]int, 100000)}, make([][]int, 100000), {make([]int, 2), make([]int, 2), make([]int, 100000)}} {
		checkPotentials(t, seasonOf(loneSeason), table, false)
		checkPlanProof(t, seasonOf(loneSeason), planOf("0, -"), table, false)
	}
}

func TestP10PotentialsThatAreFarTooGreatOrSmall(t *testing.T) {
	s := seasonOf(loneSeason)
	for _, number := range []int{1000000, 1000001, 1000002, -1000001, -1000002, 1 << 32, -1 << 32, 1<<32 + 1, 1 << 62, -1 << 62, math.MinInt, math.MaxInt, math.MinInt + 1, math.MaxInt - 1} {
		for _, others := range []int{0, -1000000} {
			for round := range 3 {
				for place := range 2 {
					table := [][]int{{others, others}, {others, others}, {others, others}}
					table[round][place] = number
					checkPotentials(t, s, table, false)
					checkPlanProof(t, s, planOf("0, -"), table, false)
				}
			}
		}
	}
}

// Tables that are just safe are so no more if one number is too great by 1, for one move or more.
func TestP10PotentialsThatAreJustSafe(t *testing.T) {
	n := &numbers{state: 128}
	alone := 0
	for _, s := range manySeasons(1) {
		for _, least := range []int{0, 3, 40} {
			table := n.safeTable(s, least)
			checkPotentials(t, s, table, true)
			for round := range table {
				place := n.below(len(table[round]))
				limit := 0
				if round < len(s.Rounds) {
					limit = limitModel(s, round, place, table[round+1])
				}
				raised := copyRows(table)
				raised[round][place] = limit
				checkPotentials(t, s, raised, arePotentialsModel(s, raised))
				raised[round][place]++
				checkPotentials(t, s, raised, false)
				if broken := brokenMoves(s, raised); len(broken) == 1 {
					alone++
				}
			}
		}
	}
	if alone < 200 {
		t.Errorf("just %d tables are too great for one move alone", alone)
	}
}

func TestP10PotentialsOfManySeasons(t *testing.T) {
	n := &numbers{state: 129}
	count := map[bool]int{}
	for _, s := range manySeasons(1) {
		for range 6 {
			table := n.safeTable(s, 2)
			for range n.below(3) { // more or less somewhere
				list := table[n.below(len(table))]
				list[n.below(len(list))] += n.below(9) - 4
			}
			want := arePotentialsModel(s, table)
			count[want]++
			checkPotentials(t, s, table, want)
		}
	}
	if count[true] < 100 || count[false] < 100 {
		t.Errorf("the tables are %v", count)
	}
}

// A set without sites is none for a round with clients, so that its number in
// the next list is no limit for this round.
func TestP10NumbersOfSetsThatCannotBe(t *testing.T) {
	for _, s := range manySeasons(1) {
		table := futureModel(s)
		for round, clients := range s.Rounds {
			lower := copyRows(table)
			lower[round+1][0] = -1000000
			checkPotentials(t, s, lower, len(clients) > 0)
			lower[round+1][0] = table[round+1][0] + 1 // but there are moves from it
			checkPotentials(t, s, lower, false)
		}
	}
}

// These proofs were worked out by hand.
func TestP10ProofsByHand(t *testing.T) {
	for _, c := range []struct {
		season, plan, table string
		want                bool
	}{
		{pairSeason, "0, 0 1", "5 2 4 1 / 2 2 1 1 / 0 0 0 0", true}, {pairSeason, "0 1, 0 1", "5 2 4 1 / 2 2 1 1 / 0 0 0 0", true}, {pairSeason, "1, 1", "5 2 4 1 / 2 2 1 1 / 0 0 0 0", false}, {pairSeason, "0, 1", "5 2 4 1 / 2 2 1 1 / 0 0 0 0", false},
		{pairSeason, "0, 0 1", "4 2 4 1 / 2 2 1 1 / 0 0 0 0", false}, {pairSeason, "1, 1", "6 2 4 1 / 2 2 1 1 / 0 0 0 0", false}, {pairSeason, "0, 0 1", "5 2 4 2 / 2 2 1 1 / 0 0 0 0", false}, {pairSeason, "0, 0 1", "5 -9 -9 -9 / -9 2 0 1 / -9 0 0 0", true}, // one less, and one that is not safe
		{pairSeason, "0, 0 1", "2 5 4 1 / 2 2 1 1 / 0 0 0 0", false}, {pairSeason, "0, 0 1", "5 2 4 1 / 2 2 1 1", false}, {pairSeason, "0, 0 1", "5 2 4 1 / 2 2 1 / 0 0 0 0", false}, {pairSeason, "0, 0 1", "5", false},
		{"5 / 6 / 7", "", "0 0", true}, {"5 / 6 / 7", "", "-1 0", false}, {"5 / 6 / 7", "", "0 -5", true}, {"5 / 6 / 7", "", "0 1", false}, {"5 / 6 / 7", "", "1 0", false}, {"5 / 6 / 7", "", "0", false},
		{loneSeason, "0, -", "8 6 / 0 1 / 0 0", false}, {loneSeason, "0, 0", "8 6 / 0 1 / 0 0", true}, {loneSeason, "0, 0", "7 5 / 0 0 / 0 0", false}, {loneSeason, "0, 0", "8 6 / -1000000 1 / 0 0", true}, {loneSeason, "0, -", "10 6 / 0 1 / 0 0", false},
		{"5 / 6 / 7 | - | -", "-, -", "0 6 / 0 6 / 0 0", true}, {"5 / 6 / 7 | - | -", "-, -", "0 -1 / 0 -2 / 0 -3", true}, {"5 / 6 / 7 | - | -", "0, 0", "0 6 / 0 6 / 0 0", false}, {"5 / 6 / 7 | - | -", "-, -", "-1 6 / 0 6 / 0 0", false},
	} {
		checkPlanProof(t, seasonOf(c.season), planOf(c.plan), rowsOf(c.table), c.want)
	}
}

func TestP10FutureCostsProveBestPlans(t *testing.T) {
	n := &numbers{state: 130}
	for _, s := range manySeasons(2) {
		best, _ := impl.BestPlan(s)
		cost, _ := impl.BestPlanCost(s)
		table, _ := impl.FutureCosts(s)
		checkPlanProof(t, s, best, table, true)
		static, _ := impl.StaticPlan(s)
		greedy, _ := impl.GreedyPlan(s)
		for _, plan := range [][][]int{static, greedy, n.planFrom(s), n.planFrom(s)} {
			checkPlanProof(t, s, plan, table, planCostModel(s, plan) == cost)
		}
		less := copyRows(table)
		less[0][0]--
		checkPlanProof(t, s, best, less, false)
		less[0][0] += 2
		checkPlanProof(t, s, best, less, false)
	}
}

// Whatever the potentials are, no plan costs less than they say, and those that
// prove a plan prove that it is best.
func TestP10PotentialsBoundAllPlans(t *testing.T) {
	n := &numbers{state: 131}
	proofs := 0
	for _, s := range manySeasons(1) {
		cost, _ := impl.BestPlanCost(s)
		for _, least := range []int{0, 1, 9} {
			table := n.safeTable(s, least)
			if safe, ok := impl.ArePotentials(s, table); !ok || !safe || table[0][0] > cost {
				t.Errorf("%v are potentials of %q: %v, %v; the least cost is %d", table, seasonText(s), safe, ok, cost)
			}
			best, _ := impl.BestPlan(s)
			for _, plan := range [][][]int{best, n.planFrom(s), n.planFrom(s)} {
				want := planCostModel(s, plan) == table[0][0]
				checkPlanProof(t, s, plan, table, want)
				if want {
					proofs++
				}
			}
		}
	}
	if proofs < 100 {
		t.Errorf("just %d tables prove a plan", proofs)
	}
}

// Potentials and proofs of a Season with MaxRounds, MaxShort sites and clients
// and the greatest numbers are within the limits.
func TestP10GreatestSeasons(t *testing.T) {
	row := slices.Repeat([]int{99}, 5)
	full := impl.Season{Open: row, Close: row, Keep: row, Rounds: slices.Repeat([][][]int{slices.Repeat([][]int{row}, 5)}, 5)}
	one := slices.Repeat([][]int{{0}}, 5)
	checkBestPlan(t, full, one, 99+5*99+25*99)
	checkStaticPlan(t, full, one)
	checkGreedyPlan(t, full, one)
	checkPlanCost(t, full, slices.Repeat([][]int{{0, 1, 2, 3, 4}}, 5), []int{15 * 99, 10 * 99, 10 * 99, 10 * 99, 10 * 99})
	table, ok := impl.FutureCosts(full)
	if !ok || len(table) != 6 || len(table[0]) != 32 || table[0][0] != 31*99 || table[4][0] != 7*99 || table[4][31] != 10*99 || table[4][1] != 6*99 {
		t.Errorf("FutureCosts = %v, %v", table, ok)
	}
	checkPlanProof(t, full, one, table, true)
	zero := make([]int, 5)
	none := impl.Season{Open: zero, Close: zero, Keep: zero, Rounds: slices.Repeat([][][]int{slices.Repeat([][]int{zero}, 5)}, 5)}
	checkBestPlan(t, none, one, 0)
	checkFuture(t, none, slices.Repeat([][]int{make([]int, 32)}, 6))
}
