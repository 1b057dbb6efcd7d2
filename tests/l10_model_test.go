package tests

import (
	"cmp"
	"math/big"
	"slices"
	"strings"

	"loop.example/g01110/impl"
)

// The functions here tell chapter 10 again, as near to the words of the document
// as can be and apart from the program.

// seasonOf reads the three lists of costs, and behind each | the clients of a
// round, - if there are none.
func seasonOf(text string) impl.Season {
	parts := strings.Split(text, " | ")
	costs := rowsOf(parts[0])
	s := impl.Season{Open: costs[0], Close: costs[1], Keep: costs[2]}
	for _, part := range parts[1:] {
		if part == "-" {
			s.Rounds = append(s.Rounds, nil)
		} else {
			s.Rounds = append(s.Rounds, rowsOf(part))
		}
	}
	return s
}

func seasonText(s impl.Season) string {
	text := textOf(impl.Field{Open: s.Open, Dist: [][]int{s.Close, s.Keep}})
	for _, clients := range s.Rounds {
		if len(clients) == 0 {
			text += " | -"
		} else {
			text += " | " + textOf(impl.Field{Open: clients[0], Dist: clients[1:]})
		}
	}
	return text
}

// planOf reads sets of sites with commas between them, - for a set without sites.
func planOf(text string) [][]int {
	plan := [][]int{}
	if text == "" {
		return plan
	}
	for _, part := range strings.Split(text, ", ") {
		if part == "-" {
			plan = append(plan, []int{})
		} else {
			plan = append(plan, rowsOf(part)[0])
		}
	}
	return plan
}

// moveModel adds up what each site and each client costs.
func moveModel(s impl.Season, round int, before, set []int) int {
	cost := 0
	for site := range s.Open {
		was, is := slices.Contains(before, site), slices.Contains(set, site)
		if is && !was {
			cost += s.Open[site]
		}
		if was && !is {
			cost += s.Close[site]
		}
		if is {
			cost += s.Keep[site]
		}
	}
	for _, lengths := range s.Rounds[round] {
		cost += leastModel(lengths, set)
	}
	return cost
}

// roundSets gives the sets that may be that of a round, in their order.
func roundSets(s impl.Season, round int) [][]int {
	sets := setsModel(len(s.Open))
	if len(s.Rounds[round]) > 0 {
		return sets[1:]
	}
	return sets
}

func isPlanModel(s impl.Season, plan [][]int) bool {
	if len(plan) != len(s.Rounds) {
		return false
	}
	for round, set := range plan {
		if !slices.ContainsFunc(roundSets(s, round), func(other []int) bool { return slices.Equal(set, other) }) {
			return false
		}
	}
	return true
}

func planMovesModel(s impl.Season, plan [][]int) []int {
	moves, before := []int{}, []int{}
	for round, set := range plan {
		moves, before = append(moves, moveModel(s, round, before, set)), set
	}
	return moves
}

func planCostModel(s impl.Season, plan [][]int) int {
	return sumModel(planMovesModel(s, plan))
}

// allPlans gives all plans, in their order.
func allPlans(s impl.Season) [][][]int {
	plans := [][][]int{{}}
	for round := range s.Rounds {
		longer := [][][]int{}
		for _, plan := range plans {
			for _, set := range roundSets(s, round) {
				longer = append(longer, append(slices.Clone(plan), set))
			}
		}
		plans = longer
	}
	return plans
}

// triedPlan tries all plans, which must not be too many.
func triedPlan(s impl.Season) ([][]int, int) {
	best, least := [][]int{}, -1
	for _, plan := range allPlans(s) {
		if cost := planCostModel(s, plan); least < 0 || cost < least {
			best, least = plan, cost
		}
	}
	return best, least
}

// reached is a plan up to some round, by the ranks of its sets among all sets.
type reached struct {
	ranks []int
	cost  int
}

func (r reached) compare(other reached) int {
	return cmp.Or(cmp.Compare(r.cost, other.cost), slices.Compare(r.ranks, other.ranks))
}

// reachedPlan goes from the first round to the last one, with the first best
// plan that leads to each set.
func reachedPlan(s impl.Season) ([][]int, int) {
	sets, all := setsModel(len(s.Open)), []reached{{}}
	for round := range s.Rounds {
		next := []reached{}
		for rank, set := range sets {
			if len(set) == 0 && len(s.Rounds[round]) > 0 {
				continue
			}
			longer := []reached{}
			for _, r := range all {
				before := []int{}
				if round > 0 {
					before = sets[r.ranks[round-1]]
				}
				longer = append(longer, reached{append(slices.Clone(r.ranks), rank), r.cost + moveModel(s, round, before, set)})
			}
			next = append(next, slices.MinFunc(longer, reached.compare))
		}
		all = next
	}
	best := slices.MinFunc(all, reached.compare)
	plan := [][]int{}
	for _, rank := range best.ranks {
		plan = append(plan, sets[rank])
	}
	return plan, best.cost
}

// staticModel tries the sets that may be those of all rounds.
func staticModel(s impl.Season) ([][]int, int) {
	best, least := [][]int{}, -1
	for _, set := range setsModel(len(s.Open)) {
		plan := slices.Repeat([][]int{set}, len(s.Rounds))
		if !isPlanModel(s, plan) {
			continue
		}
		if cost := planCostModel(s, plan); least < 0 || cost < least {
			best, least = plan, cost
		}
	}
	return best, least
}

func greedyPlanModel(s impl.Season) [][]int {
	plan, before := [][]int{}, []int{}
	for round := range s.Rounds {
		best, least := []int{}, -1
		for _, set := range roundSets(s, round) {
			if cost := moveModel(s, round, before, set); least < 0 || cost < least {
				best, least = set, cost
			}
		}
		plan, before = append(plan, best), best
	}
	return plan
}

// futureModel goes back from the last round to the first one over all moves.
func futureModel(s impl.Season) [][]int {
	table := [][]int{make([]int, 1<<len(s.Open))}
	for round := len(s.Rounds) - 1; round >= 0; round-- {
		list := slices.Repeat([]int{-1}, 1<<len(s.Open))
		for place := range list {
			for _, set := range roundSets(s, round) {
				sum := moveModel(s, round, listOfBits(uint(place)), set) + table[0][bitsOf(set)]
				if list[place] < 0 || sum < list[place] {
					list[place] = sum
				}
			}
		}
		table = append([][]int{list}, table...)
	}
	return table
}

// arePotentialsModel looks at every number, and then at every move.
func arePotentialsModel(s impl.Season, table [][]int) bool {
	if len(table) != len(s.Rounds)+1 {
		return false
	}
	for _, list := range table {
		if len(list) != 1<<len(s.Open) || slices.Min(list) < -1000000 || slices.Max(list) > 1000000 {
			return false
		}
	}
	return len(brokenMoves(s, table)) == 0 && slices.Max(table[len(s.Rounds)]) <= 0
}

// brokenMoves gives the round and the places of the two sets of each move for
// which a table is not safe.
func brokenMoves(s impl.Season, table [][]int) [][3]int {
	moves := [][3]int{}
	for round := range s.Rounds {
		for _, before := range setsModel(len(s.Open)) {
			for _, set := range roundSets(s, round) {
				from, to := int(bitsOf(before)), int(bitsOf(set))
				if table[round][from] > moveModel(s, round, before, set)+table[round+1][to] {
					moves = append(moves, [3]int{round, from, to})
				}
			}
		}
	}
	return moves
}

// onlineModel gives the sites that are opened for each client, and the total.
func onlineModel(f impl.Field) ([][]int, int) {
	openings, open, lengths := [][]int{}, []int{}, 0
	for client, row := range f.Dist {
		opened := []int{}
		if client == 0 {
			opened = append(opened, firstModel(f.Open, row))
		}
		for {
			next := wishedModel(f, client, append(slices.Clone(open), opened...))
			if next < 0 {
				break
			}
			opened = append(opened, next)
		}
		open = append(open, opened...)
		openings, lengths = append(openings, opened), lengths+leastModel(row, open)
	}
	return openings, lengths + paymentModel(f, open)
}

// firstModel gives the first site with the least sum of two numbers.
func firstModel(costs, lengths []int) int {
	sums := []int{}
	for site, cost := range costs {
		sums = append(sums, cost+lengths[site])
	}
	return slices.Index(sums, slices.Min(sums))
}

// wishedModel adds up the wishes up to a client, and gives -1 if no site is opened.
func wishedModel(f impl.Field, last int, open []int) int {
	next, most := -1, 0
	for _, site := range othersModel(f, open) {
		wishes := 0
		for _, row := range f.Dist[:last+1] {
			wishes += max(0, leastModel(row, open)-row[site])
		}
		if wishes-f.Open[site] > most {
			next, most = site, wishes-f.Open[site]
		}
	}
	return next
}

// quotientModel gives nil for a quotient that is greater than all others.
func quotientModel(service, value int) *big.Rat {
	switch {
	case value > 0:
		return big.NewRat(int64(service), int64(value))
	case service == 0:
		return big.NewRat(1, 1)
	}
	return nil
}

func nestedModel(f impl.Field, order []int) (int, [2]int) {
	worst, most, numbers := 0, big.NewRat(0, 1), [2]int{}
	for fewer, value := range valuesModel(f) {
		service, _ := serviceModel(f, order[:fewer+1])
		quotient := quotientModel(service, value)
		if most != nil && (quotient == nil || quotient.Cmp(most) > 0) {
			worst, most, numbers = fewer+1, quotient, [2]int{service, value}
		}
	}
	return worst, numbers
}

// seasonFrom makes a Season with so many clients in each round, and with costs
// and lengths of at most these numbers.
func (n *numbers) seasonFrom(sites int, clients []int, open, closing, keep, length int) impl.Season {
	s := impl.Season{Open: n.listFrom(sites, open), Close: n.listFrom(sites, closing), Keep: n.listFrom(sites, keep)}
	for _, count := range clients {
		s.Rounds = append(s.Rounds, n.fieldFrom(sites, count, 0, length).Dist)
	}
	return s
}

const (
	// pairSeason is that of the document's tests, with two sites and a client in each of two rounds.
	pairSeason = "3 1 / 1 1 / 0 0 | 0 4 | 5 1"
	// restSeason has rounds without clients between others and at the end.
	restSeason = "3 1 / 7 2 / 1 4 | 0 4 | - | 5 1 / 2 2 | -"
	// loneSeason has one site, and no client in the last round.
	loneSeason = "2 / 3 / 1 | 4 | -"
)

// namedSeasons has the edges that the document names.
func namedSeasons() []impl.Season {
	list := []impl.Season{}
	for _, text := range []string{
		"0 / 0 / 0", "99 / 99 / 99", "3 1 / 1 1 / 0 0", "1 2 3 4 5 / 5 4 3 2 1 / 0 0 0 0 0", // no rounds
		"0 / 0 / 0 | -", "5 / 6 / 7 | -", "5 / 6 / 7 | 4", "5 / 6 / 7 | 4 / 0 / 99 / 8 / 1", "1 2 3 4 5 / 5 4 3 2 1 / 0 0 0 0 0 | -", "1 2 3 4 5 / 5 4 3 2 1 / 1 0 1 0 1 | 5 4 3 2 1 / 1 2 3 4 5", // one round
		"1 / 1 / 9 | 0 | - | 0", "1 / 1 / 9 | 0 | - | 0 | - | 0", "5 / 5 / 1 | 0 | - | 0", "5 / 0 / 0 | 3 | -", "5 / 9 / 0 | 3 | - | - | 3", // closed and opened again, or kept
		pairSeason, restSeason, loneSeason, "3 1 / 1 1 / 0 0 | - | 0 4 | 5 1", "3 1 / 1 1 / 0 0 | 0 4 | 5 1 | -", "3 1 / 1 1 / 0 0 | 0 4 | - | 5 1", "3 1 / 1 1 / 0 0 | - | - | 0 4", "2 2 / 2 2 / 1 1 | - | 0 5 | - | 5 0 | -",
		"3 1 / 1 1 / 0 0 | - | - | - | - | -", "0 0 0 / 0 0 0 / 0 0 0 | - | -", // no clients at all
		"2 2 / 0 0 / 0 0 | 0 0 | 0 0", "0 0 0 / 0 0 0 / 1 1 1 | 9 9 0 | 9 0 0", "0 0 / 0 0 / 0 0 | 9 0", "0 0 0 / 0 0 0 / 1 1 2 | 0 9 0 / 9 0 0", "1 2 / 9 9 / 0 0 | 0 0 | 1 0", "0 0 0 / 0 0 0 / 0 0 0 | - | 5 5 5 | -", // plans with the same cost
		"1 5 / 9 9 / 0 0 | 0 0 | 9 0 | 9 0", "0 0 / 0 0 / 3 3 | 0 9 | 9 0", "0 0 0 0 0 / 0 0 0 0 0 / 9 9 9 9 9 | 0 99 99 99 99 | 99 0 99 99 99 | 99 99 0 99 99 | 99 99 99 0 99 | 99 99 99 99 0",
	} {
		list = append(list, seasonOf(text))
	}
	for _, number := range []int{0, 1, 98, 99} { // one list several times is an argument, too
		row := slices.Repeat([]int{number}, impl.MaxShort)
		clients := slices.Repeat([][]int{row}, impl.MaxShort)
		list = append(list, impl.Season{Open: row, Close: row, Keep: row, Rounds: slices.Repeat([][][]int{clients}, impl.MaxRounds)})
		list = append(list, impl.Season{Open: row[:1], Close: row[:1], Keep: row[:1], Rounds: [][][]int{{row[:1], row[:1]}, nil, {row[:1]}}})
	}
	return list
}

// clientsOfRounds gives varied numbers of clients of some rounds, often none.
func (n *numbers) clientsOfRounds(rounds int) []int {
	clients := []int{}
	for range rounds {
		clients = append(clients, max(0, n.below(impl.MaxShort+3)-2))
	}
	return clients
}

// manySeasons adds Seasons of all sizes, with few different numbers and with many.
func manySeasons(each int) []impl.Season {
	list := namedSeasons()
	n := &numbers{state: 122}
	for sites := 1; sites <= impl.MaxShort; sites++ {
		for rounds := range impl.MaxRounds + 1 {
			for range each {
				for _, most := range [][4]int{{1, 1, 1, 1}, {3, 2, 1, 4}, {9, 9, 4, 9}, {40, 10, 5, 30}, {0, 0, 9, 9}, {9, 0, 9, 9}, {99, 99, 99, 99}} {
					list = append(list, n.seasonFrom(sites, n.clientsOfRounds(rounds), most[0], most[1], most[2], most[3]))
				}
			}
		}
	}
	return list
}

// fewPlans gives the Seasons of a list with at most so many plans.
func fewPlans(list []impl.Season, most int) []impl.Season {
	return slices.DeleteFunc(list, func(s impl.Season) bool {
		plans := 1
		for round := range s.Rounds {
			plans *= len(roundSets(s, round))
		}
		return plans > most
	})
}

// smallSeasons gives all Seasons of one site with these numbers, and no client
// or one in each of some rounds.
func smallSeasons(rounds, most int) []impl.Season {
	list := []impl.Season{}
	for code := range power(most+1, 3) * power(most+2, rounds) {
		next := func(limit int) int {
			number := code % limit
			code /= limit
			return number
		}
		s := impl.Season{Open: []int{next(most + 1)}, Close: []int{next(most + 1)}, Keep: []int{next(most + 1)}}
		for range rounds {
			clients := [][]int{}
			if length := next(most + 2); length <= most {
				clients = append(clients, []int{length})
			}
			s.Rounds = append(s.Rounds, clients)
		}
		list = append(list, s)
	}
	return list
}

// planFrom gives some plan.
func (n *numbers) planFrom(s impl.Season) [][]int {
	plan := [][]int{}
	for round := range s.Rounds {
		sets := roundSets(s, round)
		plan = append(plan, sets[n.below(len(sets))])
	}
	return plan
}

// safeTable gives potentials that are safe: some numbers are as great as they
// may be, others are less.
func (n *numbers) safeTable(s impl.Season, least int) [][]int {
	less := func() int { return max(0, n.below(least+3)-2) }
	last := make([]int, 1<<len(s.Open))
	for place := range last {
		last[place] = -less()
	}
	table := [][]int{last}
	for round := len(s.Rounds) - 1; round >= 0; round-- {
		list := make([]int, len(last))
		for place := range list {
			list[place] = limitModel(s, round, place, table[0]) - less()
		}
		table = append([][]int{list}, table...)
	}
	return table
}

// limitModel gives the greatest number that a set may have in a round, before
// a list for the next one.
func limitModel(s impl.Season, round, place int, next []int) int {
	sums := []int{}
	for _, set := range roundSets(s, round) {
		sums = append(sums, moveModel(s, round, listOfBits(uint(place)), set)+next[bitsOf(set)])
	}
	return slices.Min(sums)
}
