package tests

import (
	"slices"
	"testing"

	"loop.example/g01110/impl"
)

func checkCost(t *testing.T, f impl.Field, clients []int, want int) {
	t.Helper()
	if got, ok := impl.CostOfClients(f, clients); !ok || got != want {
		t.Errorf("CostOfClients of %q for %v = %d, %v; want %d", textOf(f), clients, got, ok, want)
	}
}

func checkCosts(t *testing.T, f impl.Field, want []int) {
	t.Helper()
	if got, ok := impl.CostTable(f); !ok || !slices.Equal(got, want) {
		t.Errorf("CostTable of %q = %v, %v; want %v", textOf(f), got, ok, want)
	}
	for number, cost := range want {
		checkCost(t, f, listOfBits(uint(number)), cost)
	}
}

// checkCore compares the reports about shares; there is no greatest excess
// without clients, and the list of the break is empty if there is none.
func checkCore(t *testing.T, f impl.Field, shares []int, isCore bool, first []int, greatest int) {
	t.Helper()
	if got, ok := impl.IsCoreShare(f, shares); !ok || got != isCore {
		t.Errorf("IsCoreShare of %q for %v = %v, %v; want %v", textOf(f), shares, got, ok, isCore)
	}
	if got, ok := impl.CoreBreak(f, shares); ok != (len(first) > 0) || !slices.Equal(got, first) {
		t.Errorf("CoreBreak of %q for %v = %v, %v; want %v", textOf(f), shares, got, ok, first)
	}
	if got, ok := impl.GreatestExcess(f, shares); ok != (len(shares) > 0) || got != greatest {
		t.Errorf("GreatestExcess of %q for %v = %d, %v; want %d", textOf(f), shares, got, ok, greatest)
	}
}

func checkMarginals(t *testing.T, f impl.Field, order, want []int) {
	t.Helper()
	if got, ok := impl.MarginalShares(f, order); !ok || !slices.Equal(got, want) {
		t.Errorf("MarginalShares of %q for %v = %v, %v; want %v", textOf(f), order, got, ok, want)
	}
}

func checkFair(t *testing.T, f impl.Field, want []int, count int) {
	t.Helper()
	if got, orders, ok := impl.FairShares(f); !ok || !slices.Equal(got, want) || orders != count {
		t.Errorf("FairShares of %q = %v, %d, %v; want %v, %d", textOf(f), got, orders, ok, want, count)
	}
}

const (
	// rounds has a site that costs 2 for each two of its clients, which the third one cannot reach.
	rounds = "2 2 2 / 0 0 99 / 99 0 0 / 0 99 0"
	// joint has one site, which costs 99 for any of its clients.
	joint = "99 / 0 / 0 / 0 / 0 / 0 / 0 / 0"
	stage = "4 3 / 1 5 / 6 2"
)

// The costs of this test were worked out by hand.
func TestP9CostsByHand(t *testing.T) {
	for _, c := range []struct {
		field string
		costs []int
	}{
		{stage, []int{0, 5, 5, 10}}, {duo, []int{0, 3, 2, 5, 3, 5, 4, 7}}, {trio, []int{0, 6, 8, 14, 10, 15, 17, 23}}, {rounds, []int{0, 2, 2, 2, 2, 2, 2, 4}},
		{"5", []int{0}}, {"3 1", []int{0}}, {"99 99 99 99 99 99 99", []int{0}}, {"0", []int{0}}, // no clients: no site is opened
		{"7 / 4", []int{0, 11}}, {"0 / 0", []int{0, 0}}, {"99 / 99", []int{0, 198}}, {"3 1 / 0 4", []int{0, 3}}, {"3 1 / 9 4", []int{0, 5}}, {"5 5 / 1 1", []int{0, 6}},
		{"7 / 0 / 99", []int{0, 7, 106, 106}}, {"0 0 / 3 1 / 2 5", []int{0, 1, 2, 3}}, {"0 9 / 3 1 / 2 5", []int{0, 3, 2, 5}}, {"2 2 / 1 0 / 0 1", []int{0, 2, 2, 3}}, {"3 3 / 4 4 / 4 4", []int{0, 7, 7, 11}},
	} {
		checkCosts(t, fieldOf(c.field), c.costs)
	}
	most := impl.Field{Open: slices.Repeat([]int{99}, 7), Dist: slices.Repeat([][]int{slices.Repeat([]int{99}, 7)}, 7)}
	checkCosts(t, most, sizeTable(0, 198, 297, 396, 495, 594, 693, 792))
	checkCosts(t, fieldOf(joint), sizeTable(0, 99, 99, 99, 99, 99, 99, 99))
}

func TestP9CostsOfManyFields(t *testing.T) {
	for _, f := range manyGames(2) {
		checkCosts(t, f, gameFor(f).costs)
	}
}

// The reports of this test were worked out by hand.
func TestP9CoresByHand(t *testing.T) {
	for _, c := range []struct {
		field    string
		shares   []int
		isCore   bool
		first    []int
		greatest int
	}{
		{stage, []int{5, 5}, true, nil, 0}, {stage, []int{6, 4}, false, []int{0}, 1}, {stage, []int{4, 6}, false, []int{1}, 1}, {stage, []int{5, 4}, false, nil, 0}, {stage, []int{4, 4}, false, nil, -1}, {stage, []int{6, 6}, false, []int{0}, 2},
		{duo, []int{3, 2, 2}, true, nil, 0}, {duo, []int{3, 2, 3}, false, []int{0, 2}, 1}, {duo, []int{3, 2, 1}, false, nil, 0}, {duo, []int{2, 1, 2}, false, nil, -1}, {duo, []int{0, 0, 0}, false, nil, -2},
		{duo, []int{3, 1, 3}, false, []int{0, 2}, 1}, {duo, []int{2, 2, 3}, false, []int{1, 2}, 1}, // just one set, by one
		{duo, []int{4, 2, 1}, false, []int{0}, 1}, {duo, []int{3, 3, 1}, false, []int{1}, 1}, {duo, []int{2, 2, 4}, false, []int{2}, 2}, // sets of several sizes
		{duo, []int{4, 4, -1}, false, []int{0}, 3}, {duo, []int{3, 5, -1}, false, []int{1}, 3}, {duo, []int{-1, 4, 4}, false, []int{1}, 4}, // below 0, with the cost of all
		{duo, []int{1400, 1400, 1400}, false, []int{0}, 4193}, {duo, []int{-1400, -1400, -1400}, false, nil, -1402}, {duo, []int{1400, -1400, 7}, false, []int{0}, 1402}, {duo, []int{-1400, 1400, 7}, false, []int{1}, 1403},
		{rounds, []int{1, 1, 2}, false, []int{0, 2}, 1}, {rounds, []int{1, 2, 1}, false, []int{0, 1}, 1}, {rounds, []int{2, 1, 1}, false, []int{0, 1}, 1}, {rounds, []int{2, 2, 0}, false, []int{0, 1}, 2}, {rounds, []int{2, 0, 2}, false, []int{0, 2}, 2}, {rounds, []int{0, 2, 2}, false, []int{1, 2}, 2}, // without any core
		{rounds, []int{1, 1, 1}, false, nil, 0}, {rounds, []int{2, 1, 2}, false, []int{0, 1}, 2}, {rounds, []int{0, 0, 4}, false, []int{2}, 2}, {rounds, []int{1, 1, 3}, false, []int{2}, 2}, {rounds, []int{0, 0, 0}, false, nil, -2},
		{trio, []int{6, 8, 9}, true, nil, 0}, {trio, []int{6, 8, 10}, false, []int{0, 2}, 1}, {trio, []int{6, 7, 10}, false, []int{0, 2}, 1}, {trio, []int{5, 8, 10}, false, []int{1, 2}, 1}, {trio, []int{7, 8, 8}, false, []int{0}, 1}, {trio, []int{6, 9, 8}, false, []int{1}, 1}, {trio, []int{6, 8, 8}, false, nil, 0},
		{"2 2 / 1 0 / 0 1", []int{2, 1}, true, nil, 0}, {"2 2 / 1 0 / 0 1", []int{1, 2}, true, nil, 0}, {"2 2 / 1 0 / 0 1", []int{2, 2}, false, []int{0, 1}, 1}, {"2 2 / 1 0 / 0 1", []int{1, 1}, false, nil, -1}, {"2 2 / 1 0 / 0 1", []int{3, 0}, false, []int{0}, 1}, {"2 2 / 1 0 / 0 1", []int{0, 3}, false, []int{1}, 1},
		{"7 / 0 / 99", []int{0, 106}, true, nil, 0}, {"7 / 0 / 99", []int{3, 103}, true, nil, 0}, {"7 / 0 / 99", []int{7, 99}, true, nil, 0}, {"7 / 0 / 99", []int{8, 98}, false, []int{0}, 1}, {"7 / 0 / 99", []int{-1, 107}, false, []int{1}, 1}, {"7 / 0 / 99", []int{0, 105}, false, nil, -1}, {"7 / 0 / 99", []int{7, 100}, false, []int{0, 1}, 1},
		{"7 / 4", []int{11}, true, nil, 0}, {"7 / 4", []int{10}, false, nil, -1}, {"7 / 4", []int{12}, false, []int{0}, 1}, {"7 / 4", []int{0}, false, nil, -11}, {"7 / 4", []int{1400}, false, []int{0}, 1389}, {"7 / 4", []int{-1400}, false, nil, -1411}, // one client
		{"0 / 0", []int{0}, true, nil, 0}, {"0 / 0", []int{1}, false, []int{0}, 1}, {"0 / 0", []int{-1}, false, nil, -1}, {"0 0 / 0 0 / 0 0", []int{0, 0}, true, nil, 0}, {"0 0 / 0 0 / 0 0", []int{1, -1}, false, []int{0}, 1}, {"0 0 / 0 0 / 0 0", []int{-1, 1}, false, []int{1}, 1}, {"99 / 99", []int{198}, true, nil, 0},
		{"5", nil, true, nil, 0}, {"5", []int{}, true, nil, 0}, {"0", nil, true, nil, 0}, {"99 99 99", nil, true, nil, 0}, // no clients
		{joint, []int{99, 0, 0, 0, 0, 0, 0}, true, nil, 0}, {joint, []int{15, 15, 15, 15, 15, 15, 9}, true, nil, 0}, {joint, []int{15, 15, 15, 15, 15, 15, 15}, false, []int{0, 1, 2, 3, 4, 5, 6}, 6}, {joint, []int{0, 0, 0, 0, 0, 0, 100}, false, []int{6}, 1}, {joint, []int{100, -1, 0, 0, 0, 0, 0}, false, []int{0}, 1},
		{joint, []int{0, 0, 0, 50, 0, 50, 0}, false, []int{3, 5}, 1}, {joint, []int{1, 2, 3, 4, 5, 6, 79}, false, []int{0, 1, 2, 3, 4, 5, 6}, 1}, {joint, []int{0, 20, 20, 20, 20, 20, 0}, false, []int{1, 2, 3, 4, 5}, 1}, {joint, []int{20, 20, 20, 20, 20, 20, -21}, false, []int{0, 1, 2, 3, 4}, 21},
		{joint, slices.Repeat([]int{1400}, 7), false, []int{0}, 9701}, {joint, slices.Repeat([]int{-1400}, 7), false, nil, -1499}, {joint, []int{14, 14, 14, 14, 14, 14, 14}, false, nil, -1}, {joint, []int{-1400, 0, 0, 0, 0, 0, 1400}, false, []int{6}, 1301}, {joint, []int{0, 0, 1400, -1400, 0, 0, 99}, false, []int{2}, 1400},
	} {
		checkCore(t, fieldOf(c.field), c.shares, c.isCore, c.first, c.greatest)
	}
}

// checkCoreModel compares the reports about shares with the second telling.
func checkCoreModel(t *testing.T, g game, shares []int) {
	t.Helper()
	first, greatest := []int{}, 0
	if breaks := g.breaks(shares); len(breaks) > 0 {
		first = breaks[0]
	}
	if len(shares) > 0 {
		greatest = g.greatestExcess(shares)
	}
	checkCore(t, g.f, shares, g.isCore(shares), first, greatest)
}

func TestP9CoresOfManyFields(t *testing.T) {
	n := &numbers{state: 109}
	for _, f := range manyGames(2) {
		g := gameFor(f)
		for _, shares := range g.shareSamples(n) {
			checkCoreModel(t, g, shares)
		}
	}
}

// sharesAround gives all shares of so many clients from a least number to a greatest one.
func sharesAround(clients, least, most int) [][]int {
	list := [][]int{{}}
	for range clients {
		longer := [][]int{}
		for _, shares := range list {
			for share := least; share <= most; share++ {
				longer = append(longer, append(slices.Clone(shares), share))
			}
		}
		list = longer
	}
	return list
}

func TestP9AllSharesOfSmallFields(t *testing.T) {
	for _, text := range []string{"0", "2", "1 3", "2 / 1", "0 / 0", "3 1 / 0 4", "2 2 / 1 0 / 0 1", "3 / 0 / 1", "0 0 / 1 2 / 2 1", "1 2 / 0 0 / 0 0", "3 3 / 0 2 / 1 0", rounds, duo, "1 1 1 / 0 1 2 / 2 1 0 / 1 0 1", "3 / 0 / 0 / 0"} {
		g := gameFor(fieldOf(text))
		for _, shares := range sharesAround(len(g.f.Dist), -2, 5) {
			checkCoreModel(t, g, shares)
		}
	}
}

// The shares of this test were worked out by hand.
func TestP9MarginalSharesByHand(t *testing.T) {
	for _, c := range []struct {
		field          string
		orders, shares [][]int
		fair           []int
		count          int
	}{
		{stage, [][]int{{0, 1}, {1, 0}}, [][]int{{5, 5}, {5, 5}}, []int{10, 10}, 2},
		{duo, [][]int{{0, 1, 2}, {0, 2, 1}, {1, 0, 2}, {1, 2, 0}, {2, 0, 1}, {2, 1, 0}}, [][]int{{3, 2, 2}, {3, 2, 2}, {3, 2, 2}, {3, 2, 2}, {2, 2, 3}, {3, 1, 3}}, []int{17, 11, 14}, 6},
		{trio, [][]int{{0, 1, 2}, {0, 2, 1}, {1, 0, 2}, {1, 2, 0}, {2, 0, 1}, {2, 1, 0}}, [][]int{{6, 8, 9}, {6, 8, 9}, {6, 8, 9}, {6, 8, 9}, {5, 8, 10}, {6, 7, 10}}, []int{35, 47, 56}, 6},
		{rounds, [][]int{{0, 1, 2}, {0, 2, 1}, {1, 0, 2}, {1, 2, 0}, {2, 0, 1}, {2, 1, 0}}, [][]int{{2, 0, 2}, {2, 2, 0}, {0, 2, 2}, {2, 2, 0}, {0, 2, 2}, {2, 0, 2}}, []int{8, 8, 8}, 6},
		{"7 / 0 / 99", [][]int{{0, 1}, {1, 0}}, [][]int{{7, 99}, {0, 106}}, []int{7, 205}, 2}, {"2 2 / 1 0 / 0 1", [][]int{{0, 1}, {1, 0}}, [][]int{{2, 1}, {1, 2}}, []int{3, 3}, 2},
		{"7 / 4", [][]int{{0}}, [][]int{{11}}, []int{11}, 1}, {"0 / 0", [][]int{{0}}, [][]int{{0}}, []int{0}, 1}, {"3 1 / 9 4", [][]int{{0}}, [][]int{{5}}, []int{5}, 1}, // one client
		{"5", [][]int{{}, nil}, [][]int{{}, {}}, nil, 1}, {"3 1 0", [][]int{{}}, [][]int{{}}, nil, 1}, // no clients, in one order
		{"0 0 / 3 1 / 2 5", [][]int{{0, 1}, {1, 0}}, [][]int{{1, 2}, {1, 2}}, []int{2, 4}, 2}, {"99 / 99 / 99", [][]int{{0, 1}, {1, 0}}, [][]int{{198, 99}, {99, 198}}, []int{297, 297}, 2},
		{joint, [][]int{{0, 1, 2, 3, 4, 5, 6}, {6, 5, 4, 3, 2, 1, 0}, {3, 0, 1, 2, 4, 5, 6}}, [][]int{{99, 0, 0, 0, 0, 0, 0}, {0, 0, 0, 0, 0, 0, 99}, {0, 0, 0, 99, 0, 0, 0}}, slices.Repeat([]int{720 * 99}, 7), 5040},
	} {
		f := fieldOf(c.field)
		for place, order := range c.orders {
			checkMarginals(t, f, order, c.shares[place])
		}
		checkFair(t, f, c.fair, c.count)
	}
}

func TestP9MarginalSharesOfAllOrders(t *testing.T) {
	for place, f := range manyGames(1) {
		g := gameFor(f)
		orders := ordersModel(len(f.Dist))
		for at := 0; at < len(orders); at += 1 + len(orders)/200 { // all orders of up to five clients
			checkMarginals(t, f, orders[at], g.marginals(orders[at]))
		}
		if len(f.Dist) < 7 || place%4 == 0 {
			fair, count := g.fair()
			checkFair(t, f, fair, count)
		}
	}
}

// The rest of this file tells guarantees of the program's own results alone.

// gameTable gives the program's own costs.
func gameTable(t *testing.T, f impl.Field) []int {
	t.Helper()
	table, ok := impl.CostTable(f)
	if !ok || len(table) != 1<<len(f.Dist) || table[0] != 0 {
		t.Fatalf("CostTable of %q = %v, %v", textOf(f), table, ok)
	}
	return table
}

// Costs never fall, two sets together cost at most as much as each alone, and
// the cost of all clients is the least total.
func TestP9CostsNeverFallAndAddUp(t *testing.T) {
	for _, f := range manyGames(2) {
		table := gameTable(t, f)
		for a, cost := range table {
			for b, other := range table {
				if table[a|b] > cost+other || table[a&b] > cost {
					t.Fatalf("the costs of %q are %v: see %d and %d", textOf(f), table, a, b)
				}
			}
		}
		if total, ok := impl.BestTotal(f); !ok || len(f.Dist) > 0 && table[len(table)-1] != total {
			t.Errorf("the costs of %q are %v; the least total is %d", textOf(f), table, total)
		}
	}
}

// checkCoreIsFair compares the core shares of at least 0 with fair prices whose
// sum is the cost of all clients, and that is the least total.
func checkCoreIsFair(t *testing.T, f impl.Field, shares []int) {
	t.Helper()
	core, ok := impl.IsCoreShare(f, shares)
	fair, fine := impl.AreFair(f, shares)
	total, _ := impl.BestTotal(f)
	if len(f.Dist) == 0 {
		total = 0
	}
	if !ok || !fine || core != (fair && sumModel(shares) == total) {
		t.Errorf("IsCoreShare of %q for %v = %v, %v; as prices they are fair: %v, %v, with the least total %d", textOf(f), shares, core, ok, fair, fine, total)
	}
}

func TestP9CoreSharesAreFairPrices(t *testing.T) {
	n := &numbers{state: 110}
	cores, others := 0, 0
	for _, f := range manyGames(2) {
		g := gameFor(f)
		for _, shares := range append(g.shareSamples(n), g.coreShares()...) {
			if !slices.ContainsFunc(shares, func(share int) bool { return share < 0 || share > impl.MaxClientPrice }) {
				checkCoreIsFair(t, f, shares)
			}
		}
		if prices, ok := impl.AscentPrices(f); ok {
			checkCoreIsFair(t, f, prices)
			if core, _ := impl.IsCoreShare(f, prices); core {
				cores++
			} else {
				others++
			}
		}
	}
	if cores < 20 || others < 20 {
		t.Errorf("%d core shares and %d others", cores, others)
	}
}

func TestP9CoreSharesOfSmallFieldsAreFairPrices(t *testing.T) {
	for _, f := range slices.Concat(smallFields(1, 2, 3), smallFields(2, 1, 3), smallFields(2, 2, 2)) {
		for _, shares := range sharesAround(len(f.Dist), 0, 5) {
			checkCoreIsFair(t, f, shares)
		}
	}
	for _, f := range []impl.Field{fieldOf(rounds), fieldOf(duo), fieldOf("1 1 1 / 0 1 2 / 2 1 0 / 1 0 1"), fieldOf("3 2 / 1 1 / 0 2 / 2 0")} {
		for _, shares := range sharesAround(3, 0, 6) {
			checkCoreIsFair(t, f, shares)
		}
	}
}

// Who has less than 0 lets the others pay more than they cost, since costs never fall.
func TestP9CoreSharesAreNeverBelow0(t *testing.T) {
	n := &numbers{state: 111}
	for _, f := range manyGames(1) {
		for _, base := range gameFor(f).coreShares() {
			client, other := n.below(len(f.Dist)+1), n.below(len(f.Dist)+1)
			if client == other || max(client, other) == len(f.Dist) {
				continue
			}
			shares := moved(base, map[int]int{client: -base[client] - 1, other: base[client] + 1})
			core, ok := impl.IsCoreShare(f, shares)
			if set, broken := impl.CoreBreak(f, shares); !ok || core || !broken || slices.Contains(set, client) {
				t.Errorf("IsCoreShare of %q for %v = %v, %v; CoreBreak = %v, %v", textOf(f), shares, core, ok, set, broken)
			}
		}
	}
}

// A break is there just if the greatest excess is above 0, and costs less than its shares.
func TestP9BreaksShowWhatIsNoCore(t *testing.T) {
	n := &numbers{state: 112}
	for _, f := range manyGames(1) {
		for _, shares := range gameFor(f).shareSamples(n) {
			set, broken := impl.CoreBreak(f, shares)
			greatest, ok := impl.GreatestExcess(f, shares)
			sum := 0
			for _, client := range set {
				sum += shares[client]
			}
			cost, fine := impl.CostOfClients(f, set)
			if broken != (greatest > 0) || ok != (len(f.Dist) > 0) || !fine || broken && (sum <= cost || sum-cost > greatest) {
				t.Errorf("CoreBreak of %q for %v = %v, %v, which costs %d; GreatestExcess = %d, %v", textOf(f), shares, set, broken, cost, greatest, ok)
			}
			table := gameTable(t, f)
			core, fine := impl.IsCoreShare(f, shares)
			if !fine || core != (!broken && sumModel(shares) == table[len(table)-1]) {
				t.Errorf("IsCoreShare of %q for %v = %v, %v; CoreBreak = %v", textOf(f), shares, core, fine, set)
			}
		}
	}
}

// Marginal shares of all clients are their cost together, and so are fair ones by the number of orders.
func TestP9SharesAddUpToTheCostOfAll(t *testing.T) {
	counts := []int{1, 1, 2, 6, 24, 120, 720, 5040}
	for _, f := range manyGames(2) {
		clients, table := len(f.Dist), gameTable(t, f)
		all := table[len(table)-1]
		for _, order := range [][]int{allBelow(clients), reversed(allBelow(clients))} {
			shares, ok := impl.MarginalShares(f, order)
			if !ok || len(shares) != clients || sumModel(shares) != all || clients > 0 && slices.Min(shares) < 0 {
				t.Errorf("MarginalShares of %q for %v = %v, %v; the cost of all is %d", textOf(f), order, shares, ok, all)
			}
		}
		fair, count, ok := impl.FairShares(f)
		if !ok || len(fair) != clients || count != counts[clients] || sumModel(fair) != count*all {
			t.Errorf("FairShares of %q = %v, %d, %v; the cost of all is %d", textOf(f), fair, count, ok, all)
		}
	}
}

func reversed(list []int) []int {
	list = slices.Clone(list)
	slices.Reverse(list)
	return list
}

func TestP9FairSharesOfFewClientsAreThoseOfAllOrders(t *testing.T) {
	for _, f := range manyGames(1) {
		if len(f.Dist) > 4 {
			continue
		}
		sums, count := make([]int, len(f.Dist)), 0
		for _, order := range ordersModel(len(f.Dist)) {
			shares, ok := impl.MarginalShares(f, order)
			if !ok {
				t.Fatalf("MarginalShares of %q for %v fails", textOf(f), order)
			}
			for client, share := range shares {
				sums[client] += share
			}
			count++
		}
		checkFair(t, f, sums, count)
	}
}

// Clients with the same lengths have the same fair shares.
func TestP9EqualClientsHaveEqualFairShares(t *testing.T) {
	for _, f := range manyGames(1) {
		if len(f.Dist) == 0 || len(f.Dist) == impl.MaxClients {
			continue
		}
		twice := impl.Field{Open: f.Open, Dist: slices.Insert(slices.Clone(f.Dist), 0, f.Dist[len(f.Dist)-1])}
		if fair, _, ok := impl.FairShares(twice); !ok || fair[0] != fair[len(fair)-1] {
			t.Errorf("FairShares of %q = %v, %v", textOf(twice), fair, ok)
		}
	}
}
