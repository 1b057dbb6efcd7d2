package tests

import (
	"slices"

	"loop.example/g01110/impl"
)

// The functions here tell chapter 9 again, as near to the words of the document
// as can be and apart from the program.

// game is a Field with the costs of all sets of its clients, by the numbers
// whose bits are their clients.
type game struct {
	f     impl.Field
	costs []int
}

func gameFor(f impl.Field) game {
	g := game{f, nil}
	for number := range 1 << len(f.Dist) {
		g.costs = append(g.costs, groupCostModel(f, listOfBits(uint(number))))
	}
	return g
}

// groupCostModel gives the least total of the Field with some clients alone.
func groupCostModel(f impl.Field, clients []int) int {
	if len(clients) == 0 {
		return 0
	}
	alone := impl.Field{Open: f.Open}
	for _, client := range clients {
		alone.Dist = append(alone.Dist, f.Dist[client])
	}
	_, least := bestModel(alone)
	return least
}

func (g game) cost(clients []int) int {
	return g.costs[bitsOf(clients)]
}

func (g game) costOfAll() int {
	return g.costs[len(g.costs)-1]
}

// excess gives what the shares of some clients are more than their cost.
func (g game) excess(shares, clients []int) int {
	sum := 0
	for _, client := range clients {
		sum += shares[client]
	}
	return sum - g.cost(clients)
}

// breaks gives all sets of clients with an excess of more than 0, in their order.
func (g game) breaks(shares []int) [][]int {
	list := [][]int{}
	for _, clients := range setsModel(len(g.f.Dist)) {
		if g.excess(shares, clients) > 0 {
			list = append(list, clients)
		}
	}
	return list
}

func (g game) isCore(shares []int) bool {
	return sumModel(shares) == g.costOfAll() && len(g.breaks(shares)) == 0
}

// greatestExcess is told for at least one client.
func (g game) greatestExcess(shares []int) int {
	excesses := []int{}
	for _, clients := range setsModel(len(g.f.Dist))[1:] {
		excesses = append(excesses, g.excess(shares, clients))
	}
	return slices.Max(excesses)
}

// marginals gives the MarginalShares of an order.
func (g game) marginals(order []int) []int {
	shares := make([]int, len(order))
	for place, client := range order {
		shares[client] = g.cost(order[:place+1]) - g.cost(order[:place])
	}
	return shares
}

// ordersModel gives all orders of so many clients, in ascending order.
func ordersModel(clients int) [][]int {
	orders := [][]int{{}}
	for range clients {
		longer := [][]int{}
		for _, order := range orders {
			for client := range clients {
				if !slices.Contains(order, client) {
					longer = append(longer, append(slices.Clone(order), client))
				}
			}
		}
		orders = longer
	}
	return orders
}

// fair adds up the marginal shares of all orders.
func (g game) fair() ([]int, int) {
	sums, orders := make([]int, len(g.f.Dist)), ordersModel(len(g.f.Dist))
	for _, order := range orders {
		for client, share := range g.marginals(order) {
			sums[client] += share
		}
	}
	return sums, len(orders)
}

// firmsModel gives the numbers of clients of the two firms if the sites of a
// play are open, of which they have opened every second one.
func firmsModel(f impl.Field, play []int) [2]int {
	counts := [2]int{}
	for _, site := range servedModel(f, play) {
		counts[slices.Index(play, site)%2]++
	}
	return counts
}

// playModel goes on with a play up to so many sites, where each firm opens the
// first site of those that lead to the most clients for it.
func playModel(f impl.Field, play []int, turns int) []int {
	if len(play) == turns {
		return play
	}
	best, most, firm := []int{}, -1, len(play)%2
	for _, site := range othersModel(f, play) {
		whole := playModel(f, append(slices.Clone(play), site), turns)
		if count := firmsModel(f, whole)[firm]; count > most {
			best, most = whole, count
		}
	}
	return best
}

// leastModel gives the least length of a client to some sites, one that is
// greater than all lengths if there are none.
func leastModel(lengths, sites []int) int {
	least := 100
	for _, site := range sites {
		least = min(least, lengths[site])
	}
	return least
}

func takenModel(f impl.Field, leader, follower []int) []int {
	taken := []int{}
	for client, lengths := range f.Dist {
		if leastModel(lengths, follower) < leastModel(lengths, leader) {
			taken = append(taken, client)
		}
	}
	return taken
}

// followerModel gives the first one of the best sets of k sites that the leader
// has left, and the number of clients that go to them.
func followerModel(f impl.Field, leader []int, k int) ([]int, int) {
	best, most := []int{}, -1
	for _, set := range setsModel(len(f.Open)) {
		isFree := bitsOf(set)&bitsOf(leader) == 0
		if taken := takenModel(f, leader, set); isFree && len(set) == k && len(taken) > most {
			best, most = set, len(taken)
		}
	}
	return best, most
}

func leaderModel(f impl.Field, m, k int) ([]int, int) {
	best, least := []int{}, 100
	for _, set := range setsModel(len(f.Open)) {
		if len(set) != m {
			continue
		}
		if _, lost := followerModel(f, set, k); lost < least {
			best, least = set, lost
		}
	}
	return best, least
}

func votesModel(f impl.Field, a, b int) (int, int) {
	forA, forB := 0, 0
	for _, lengths := range f.Dist {
		switch {
		case lengths[a] < lengths[b]:
			forA++
		case lengths[b] < lengths[a]:
			forB++
		}
	}
	return forA, forB
}

func unbeatenModel(f impl.Field) []int {
	beaten := map[int]bool{}
	for a := range f.Open {
		for b := range f.Open {
			if forA, forB := votesModel(f, a, b); forA > forB {
				beaten[b] = true
			}
		}
	}
	return slices.DeleteFunc(allBelow(len(f.Open)), func(site int) bool { return beaten[site] })
}

// coreShares tries to find core shares: those of an ascent, and of all orders,
// which are few for few clients.
func (g game) coreShares() [][]int {
	clients, list := len(g.f.Dist), [][]int{}
	candidates := [][]int{ascentModel(g.f)}
	for _, order := range ordersModel(min(clients, 5)) {
		for client := 5; client < clients; client++ {
			order = append(order, client)
		}
		candidates = append(candidates, g.marginals(order))
	}
	for _, shares := range candidates {
		if g.isCore(shares) {
			list = append(list, shares)
		}
	}
	slices.SortFunc(list, slices.Compare)
	return slices.CompactFunc(list, slices.Equal)
}

// moved gives shares of which some others have by so much more.
func moved(shares []int, by map[int]int) []int {
	list := slices.Clone(shares)
	for client, more := range by {
		list[client] += more
	}
	return list
}

// shareSamples gives varied shares: core shares and those that are nearly so,
// with the cost of all clients as the sum and with one more or less, shares that
// just some set breaks, and the least and the greatest ones.
func (g game) shareSamples(n *numbers) [][]int {
	clients := len(g.f.Dist)
	list := [][]int{make([]int, clients), slices.Repeat([]int{impl.MaxShare}, clients), slices.Repeat([]int{-impl.MaxShare}, clients)}
	bases := append(g.coreShares(), ascentModel(g.f))
	bases = append(bases, slices.Repeat([]int{g.costOfAll() / max(1, clients)}, clients))
	for _, base := range bases[max(0, len(bases)-4):] {
		list = append(list, base)
		if clients == 0 {
			continue
		}
		one, other, far := n.below(clients), n.below(clients), 1+n.below(9)
		list = append(list, moved(base, map[int]int{one: 1}), moved(base, map[int]int{other: -1}))
		if one != other {
			list = append(list, moved(base, map[int]int{one: 1, other: -1}), moved(base, map[int]int{one: -far, other: far}))
		}
	}
	for _, most := range []int{9, 60, 200, impl.MaxShare} {
		shares := n.listFrom(clients, most)
		list = append(list, shares)
		for client, share := range shares {
			if n.below(3) == 0 {
				shares[client] = -share
			}
		}
	}
	if clients > 0 { // all of it for one client
		shares := make([]int, clients)
		shares[n.below(clients)] = g.costOfAll()
		list = append(list, shares)
	}
	return list
}

// namedGames has the edges that the document names, beside namedFields.
func namedGames() []impl.Field {
	list := namedFields()
	for _, text := range []string{
		rounds, "4 3 / 1 5 / 6 2", duo, trio, "5 6 7 / 1 9 9", "0 0 0 / 1 2 3 / 3 1 2 / 2 3 1", "2 2 2 2 / 0 9 9 9 / 9 0 9 9 / 9 9 0 9 / 9 9 9 0",
		"0 0 0 0 0 / 1 1 2 2 2 / 2 1 1 2 2 / 2 2 1 1 2 / 2 2 2 1 1 / 1 2 2 2 1", "3 3 / 4 4 / 4 4 / 5 5", "0 0 0 0 0 0 / 3 3 3 3 3 3 / 1 2 3 1 2 3 / 3 2 1 3 2 1",
		"9 0 9 0 9 0 9 / 1 1 9 9 1 1 9 / 9 1 1 9 9 1 1 / 1 9 9 1 1 9 9", "1 1 1 1 1 1 1 / 0 1 2 3 4 5 6 / 6 5 4 3 2 1 0 / 3 2 1 0 1 2 3",
	} {
		list = append(list, fieldOf(text))
	}
	return list
}

// manyGames adds Fields of all sizes, with few different lengths and with many.
func manyGames(each int) []impl.Field {
	list := append(namedGames(), placeFields(20*each)...)
	n := &numbers{state: 108}
	for sites := 1; sites <= impl.MaxSites; sites++ {
		for clients := 0; clients <= impl.MaxClients; clients++ {
			for range each {
				list = append(list, n.fieldFrom(sites, clients, 2, 1), n.fieldFrom(sites, clients, 6, 3), n.fieldFrom(sites, clients, 12, 9), n.fieldFrom(sites, clients, 99, 99))
			}
		}
	}
	return list
}
