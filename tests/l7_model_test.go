package tests

import (
	"math"
	"slices"
	"strconv"

	"loop.example/g01110/impl"
)

// The functions here tell chapter 7 again, as near to the words of the document
// as can be and apart from the program.

// stock is a Field with rooms and needs.
type stock struct {
	f     impl.Field
	rooms []int
	needs []int
}

// stockOf reads a Field, its rooms and its needs.
func stockOf(field, rooms, needs string) stock {
	return stock{fieldOf(field), rowsOf(rooms)[0], rowsOf(needs)[0]}
}

func (s stock) text() string {
	return strconv.Quote(textOf(s.f)) + " with the rooms " + listOf(s.rooms) + " and the needs " + listOf(s.needs)
}

func rowsText(rows [][]int) string {
	text := ""
	for _, row := range rows {
		text += listOf(row)
	}
	return "{" + text + "}"
}

// roomIn gives the room of all sites of a set.
func (s stock) roomIn(set []int) int {
	sum := 0
	for _, site := range set {
		sum += s.rooms[site]
	}
	return sum
}

func (s stock) hasFlow(set []int) bool {
	return sumModel(s.needs) <= s.roomIn(set)
}

func (s stock) isFlow(set []int, flow [][]int) bool {
	if len(flow) != len(s.needs) {
		return false
	}
	for client, row := range flow {
		if len(row) != len(s.rooms) || slices.Min(row) < 0 || slices.Max(row) > 100 || sumModel(row) != s.needs[client] {
			return false
		}
	}
	for site, room := range s.rooms {
		sum := 0
		for _, row := range flow {
			sum += row[site]
		}
		if sum > room || sum > 0 && !slices.Contains(set, site) {
			return false
		}
	}
	return true
}

func (s stock) costOf(flow [][]int) int {
	cost := 0
	for client, row := range flow {
		for site, units := range row {
			cost += units * s.f.Dist[client][site]
		}
	}
	return cost
}

// rowsModel gives all rows with this sum and at most these numbers, in their order.
func rowsModel(sum int, most []int) [][]int {
	if len(most) == 0 {
		if sum == 0 {
			return [][]int{{}}
		}
		return nil
	}
	rows := [][]int{}
	for first := range min(sum, most[0]) + 1 {
		for _, rest := range rowsModel(sum-first, most[1:]) {
			rows = append(rows, append([]int{first}, rest...))
		}
	}
	return rows
}

// roomsOnly gives the rooms, 0 for sites that are not open.
func (s stock) roomsOnly(set []int) []int {
	rooms := make([]int, len(s.rooms))
	for _, site := range set {
		rooms[site] = s.rooms[site]
	}
	return rooms
}

// flowsModel gives all flows, in their order.
func flowsModel(needs, rooms []int) [][][]int {
	if len(needs) == 0 {
		return [][][]int{{}}
	}
	flows := [][][]int{}
	for _, row := range rowsModel(needs[0], rooms) {
		left := slices.Clone(rooms)
		for site, units := range row {
			left[site] -= units
		}
		for _, rest := range flowsModel(needs[1:], left) {
			flows = append(flows, append([][]int{row}, rest...))
		}
	}
	return flows
}

// triedFlow tries all flows.
func (s stock) triedFlow(set []int) ([][]int, bool) {
	best, found := [][]int{}, false
	for _, flow := range flowsModel(s.needs, s.roomsOnly(set)) {
		if !found || s.costOf(flow) < s.costOf(best) {
			best, found = flow, true
		}
	}
	return best, found
}

// unitModel is what a unit from a client to a site costs: its length and, if
// the first flow is asked for, a number more for each client and each site.
func (s stock) unitModel(client, site int, first bool) []int {
	cost := []int{s.f.Dist[client][site]}
	if first {
		cost = append(cost, make([]int, len(s.needs)*len(s.rooms))...)
		cost[1+client*len(s.rooms)+site] = 1
	}
	return cost
}

func addModel(a, b []int, sign int) []int {
	sum := slices.Clone(a)
	for place, n := range b {
		sum[place] += sign * n
	}
	return sum
}

// change is what it costs to give a unit of the client to another site; no
// client is needed to fill a room that is left, or to leave one that is full.
type change struct {
	cost   []int
	client int
}

// changesModel gives for each two sites, or none, the cheapest change from the
// first one to the second one. Behind the sites comes the rooms that are left.
func (s stock) changesModel(set []int, flow [][]int, first bool) [][]change {
	left, sites := s.roomsOnly(set), len(s.rooms)
	changes := make([][]change, sites+1)
	for from := range changes {
		changes[from] = make([]change, sites+1)
	}
	for client, row := range flow {
		for from, units := range row {
			left[from] -= units
			for _, to := range set {
				cost := addModel(s.unitModel(client, to, first), s.unitModel(client, from, first), -1)
				if old := changes[from][to].cost; units > 0 && to != from && (old == nil || slices.Compare(cost, old) < 0) {
					changes[from][to] = change{cost, client}
				}
			}
		}
	}
	for site := range sites {
		changes[sites][site] = change{s.zeroCost(first), -1}
		if left[site] > 0 {
			changes[site][sites] = change{s.zeroCost(first), -1}
		}
	}
	return changes
}

func (s stock) zeroCost(first bool) []int {
	if first {
		return make([]int, 1+len(s.needs)*len(s.rooms))
	}
	return []int{0}
}

// roundModel gives sites, each of which gives a unit to the next one, and the
// last one to the first one, so that the cost becomes less; or none.
func (s stock) roundModel(changes [][]change, first bool) []int {
	costs, from := make([][]int, len(changes)), make([]int, len(changes))
	for site := range costs {
		costs[site], from[site] = s.zeroCost(first), -1
	}
	last := -1
	for range changes {
		last = -1
		for a, row := range changes {
			for b, c := range row {
				if c.cost == nil {
					continue
				}
				if next := addModel(costs[a], c.cost, 1); slices.Compare(next, costs[b]) < 0 {
					costs[b], from[b], last = next, a, b
				}
			}
		}
	}
	if last < 0 {
		return nil
	}
	for range changes { // into the round
		last = from[last]
	}
	round := []int{last}
	for site := from[last]; site != last; site = from[site] {
		round = append(round, site)
	}
	slices.Reverse(round)
	return round
}

// isCheapest tells whether no round of changes makes a flow cheaper, or one with the same cost less.
func (s stock) isCheapest(set []int, flow [][]int, first bool) bool {
	return s.roundModel(s.changesModel(set, flow, first), first) == nil
}

// leastFlow begins with any flow and makes rounds of changes as long as there are any.
func (s stock) leastFlow(set []int, first bool) ([][]int, bool) {
	if !s.hasFlow(set) {
		return [][]int{}, false
	}
	flow, left := [][]int{}, s.roomsOnly(set)
	for _, need := range s.needs {
		row := make([]int, len(left))
		for site := range row {
			row[site] = min(need, left[site])
			need -= row[site]
			left[site] -= row[site]
		}
		flow = append(flow, row)
	}
	s.makeRounds(set, flow, false)
	if first {
		s.makeRounds(set, flow, true)
	}
	return flow, true
}

func (s stock) makeRounds(set []int, flow [][]int, first bool) {
	for {
		changes := s.changesModel(set, flow, first)
		round := s.roundModel(changes, first)
		if round == nil {
			return
		}
		for place, from := range round {
			to := round[(place+1)%len(round)]
			if client := changes[from][to].client; client >= 0 {
				flow[client][from]--
				flow[client][to]++
			}
		}
	}
}

func (s stock) leastCost(set []int) (int, bool) {
	flow, ok := s.leastFlow(set, false)
	return s.costOf(flow), ok
}

// highestU gives for each client the greatest u that a w leaves it.
func (s stock) highestU(set, w []int) []int {
	u := []int{}
	for _, row := range s.f.Dist {
		least := math.MaxInt
		for _, site := range set {
			least = min(least, row[site]+w[site])
		}
		u = append(u, least)
	}
	return u
}

// leastPrices raises each w, from 0 on, as far as a flow with the least cost
// forces it: what a client sends goes to sites of least length and w together.
func (s stock) leastPrices(set []int) ([]int, []int, bool) {
	flow, ok := s.leastFlow(set, false)
	if !ok {
		return []int{}, []int{}, false
	}
	w := make([]int, len(s.rooms))
	for raised := true; raised; {
		raised = false
		for client, row := range flow {
			for from, units := range row {
				for _, to := range set {
					if forced := s.f.Dist[client][from] + w[from] - s.f.Dist[client][to]; units > 0 && forced > w[to] {
						w[to], raised = forced, true
					}
				}
			}
		}
	}
	return s.highestU(set, w), w, true
}

func (s stock) yieldOf(u, w []int) int {
	yield := 0
	for client, need := range s.needs {
		yield += need * u[client]
	}
	for site, room := range s.rooms {
		yield -= room * w[site]
	}
	return yield
}

func arePricesFor(f impl.Field, set, u, w []int) bool {
	if len(u) != len(f.Dist) || len(w) != len(f.Open) {
		return false
	}
	for site, price := range w {
		if price < 0 || price > 999 || price > 0 && !slices.Contains(set, site) {
			return false
		}
	}
	for client, price := range u {
		if price < -999 || price > 999 {
			return false
		}
		for _, site := range set {
			if price > f.Dist[client][site]+w[site] {
				return false
			}
		}
	}
	return true
}

// canServe gives one unit after the other to a site, and lets those that have
// a site move on for it.
func (s stock) canServe(set []int, r int) bool {
	clients, sites := []int{}, []int{}
	for client, need := range s.needs {
		for range need {
			clients, sites = append(clients, client), append(sites, -1)
		}
	}
	left := s.roomsOnly(set)
	for unit := range clients {
		if !s.giveSite(clients, sites, left, make([]bool, len(left)), unit, r) {
			return false
		}
	}
	return true
}

func (s stock) giveSite(clients, sites, left []int, tried []bool, unit, r int) bool {
	for site := range left {
		if s.f.Dist[clients[unit]][site] > r || tried[site] {
			continue
		}
		tried[site] = true
		if left[site] > 0 {
			left[site]--
			sites[unit] = site
			return true
		}
		for other, at := range sites {
			if at == site && s.giveSite(clients, sites, left, tried, other, r) {
				sites[unit] = site
				return true
			}
		}
	}
	return false
}

func (s stock) hallClients(set []int, r int) ([]int, bool) {
	for _, clients := range setsModel(len(s.needs)) {
		need, near := 0, []int{}
		for _, client := range clients {
			need += s.needs[client]
			for _, site := range set {
				if s.f.Dist[client][site] <= r && !slices.Contains(near, site) {
					near = append(near, site)
				}
			}
		}
		if need > s.roomIn(near) {
			return clients, true
		}
	}
	return []int{}, false
}

func (s stock) roomReach(k int) (int, bool) {
	for r := range 100 {
		if r > 0 && !slices.Contains(slices.Concat(s.f.Dist...), r) { // nothing is nearer than for r-1
			continue
		}
		for _, set := range setsModel(len(s.rooms)) {
			if len(set) > 0 && len(set) <= k && s.hasFlow(set) && s.canServe(set, r) {
				return r, true
			}
		}
	}
	return 0, false
}

func (s stock) bestRooms() ([]int, int, bool) {
	best, least, found := []int{}, 0, false
	for _, set := range setsModel(len(s.rooms)) {
		cost, ok := s.leastCost(set)
		if sum := cost + paymentModel(s.f, set); ok && len(set) > 0 && (!found || sum < least) {
			best, least, found = set, sum, true
		}
	}
	return best, least, found
}

// wholeFlow tries all lists of sites, in their order.
func (s stock) wholeFlow(set []int) ([]int, int, bool) {
	best, least, found := []int{}, 0, false
	places := make([]int, len(s.needs))
	for {
		left, cost := slices.Clone(s.rooms), 0
		for client, place := range places {
			left[set[place]] -= s.needs[client]
			cost += s.needs[client] * s.f.Dist[client][set[place]]
		}
		if slices.Min(left) >= 0 && (!found || cost < least) {
			best, least, found = []int{}, cost, true
			for _, place := range places {
				best = append(best, set[place])
			}
		}
		at := len(places) - 1
		for ; at >= 0 && places[at] == len(set)-1; at-- {
			places[at] = 0
		}
		if at < 0 {
			return best, least, found
		}
		places[at]++
	}
}

// namedStocks has the edges that the document names.
func namedStocks() []stock {
	list := []stock{}
	for _, c := range [][3]string{
		{"4 3 / 1 5 / 6 2", "2 3", "2 2"}, {"4 3 / 1 5 / 6 2", "1 3", "2 2"}, {"4 3 / 1 5 / 6 2", "3 1", "2 2"}, {"4 3 / 1 5 / 6 2", "4 4", "2 2"}, {"4 3 / 1 5 / 6 2", "1 2", "2 2"},
		{"4 3 / 1 5 / 6 2", "0 4", "2 2"}, {"4 3 / 1 5 / 6 2", "4 0", "2 2"}, {"4 3 / 1 5 / 6 2", "0 0", "0 0"}, {"4 3 / 1 5 / 6 2", "0 0", "0 1"}, {"4 3 / 1 5 / 6 2", "0 2", "2 0"}, {"4 3 / 1 5 / 6 2", "20 20", "5 5"},
		{"5", "0", ""}, {"5", "20", ""}, {"3 1 2", "0 0 0", ""}, {"2 2", "20 20", ""}, {"0 0 0", "0 1 2", ""}, // no clients
		{"7 / 0 / 99", "0", "0 0"}, {"7 / 0 / 99", "10", "5 5"}, {"7 / 0 / 99", "9", "5 5"}, {"7 / 3 / 4 / 5", "20", "5 5 5"}, {"7 / 3", "5", "5"}, {"7 / 3", "4", "5"}, {"7 / 3", "0", "1"}, // one site
		{"0 0 / 3 3 / 3 3", "2 2", "2 2"}, {"0 0 / 3 3 / 3 3", "3 3", "2 2"}, {"0 0 / 3 3 / 3 3", "4 4", "2 2"}, {"0 0 / 3 3 / 3 3", "3 3", "3 3"}, {"8 8 / 1 5 / 6 2", "4 4", "2 2"}, {"9 9 / 1 5 / 6 2", "4 4", "2 2"},
		{"0 0 0 / 1 2 9 / 9 1 2", "1 1 3", "2 1"}, {"0 0 0 / 9 2 1 / 2 1 9", "3 1 1", "2 1"}, {"1 1 1 / 0 0 0 / 1 1 1 / 0 1 0", "1 1 1", "1 1 1"}, {"0 0 / 4 9", "3 3", "5"}, {"0 0 / 9 4", "3 3", "5"}, {"0 0 / 9 4", "3 2", "5"}, {"0 0 / 9 4", "2 2", "5"},
		{"0 0 0 0 0 0 0 / 1 1 99 99 99 99 99 / 99 1 1 99 99 99 99 / 99 99 1 1 99 99 99 / 99 99 99 1 1 99 99 / 99 99 99 99 1 1 99 / 99 99 99 99 99 1 1", "0 1 1 1 1 1 20", "1 1 1 1 1 1"},
		{"0 0 0 0 0 0 0 / 99 0 99 99 99 99 99 / 99 99 0 99 99 99 99 / 99 99 99 0 99 99 99 / 99 99 99 99 0 99 99 / 99 99 99 99 99 0 99 / 99 99 99 99 99 99 0 / 0 99 99 99 99 99 99", "5 5 5 5 5 5 5", "5 5 5 5 5 5 5"},
		{"0 0 0 0 0 0 0 / 0 99 99 99 99 99 99 / 0 99 99 99 99 99 99 / 99 0 99 99 99 99 99 / 99 99 0 99 99 99 99 / 99 99 99 0 99 99 99 / 99 99 99 99 0 99 99 / 99 99 99 99 99 0 99", "5 5 5 5 5 5 5", "5 5 5 5 5 5 5"},
	} {
		list = append(list, stockOf(c[0], c[1], c[2]))
	}
	for _, length := range []int{0, 1, 98, 99} {
		row := slices.Repeat([]int{length}, 7)
		for _, room := range []int{0, 1, 4, 5, 19, 20} {
			for _, need := range []int{0, 1, 5} { // one list several times is an argument, too
				list = append(list, stock{impl.Field{Open: row, Dist: slices.Repeat([][]int{row}, 7)}, slices.Repeat([]int{room}, 7), slices.Repeat([]int{need}, 7)})
			}
		}
	}
	return list
}

// stockFrom makes rooms and needs of at most these numbers for a Field.
func (n *numbers) stockFrom(f impl.Field, most, need int) stock {
	s := stock{f: f}
	for range f.Open {
		s.rooms = append(s.rooms, n.below(most+1))
	}
	for range f.Dist {
		s.needs = append(s.needs, n.below(need+1))
	}
	return s
}

// tightFrom makes rooms whose sum is that of the needs and so much more, or
// less, as far as the limits of rooms let it be.
func (n *numbers) tightFrom(f impl.Field, need, more int) stock {
	s := n.stockFrom(f, 0, need)
	for range max(0, min(20*len(s.rooms), sumModel(s.needs)+more)) {
		site := n.below(len(s.rooms))
		for s.rooms[site] == 20 {
			site = (site + 1) % len(s.rooms)
		}
		s.rooms[site]++
	}
	return s
}

// manyStocks adds Fields of all sizes with rooms and needs of many kinds.
func manyStocks(each int) []stock {
	list := namedStocks()
	n := &numbers{state: 71}
	for sites := 1; sites <= impl.MaxSites; sites++ {
		for clients := 0; clients <= impl.MaxClients; clients++ {
			for range each {
				few, some, all := n.fieldFrom(sites, clients, 3, 2), n.fieldFrom(sites, clients, 12, 9), n.fieldFrom(sites, clients, 99, 99)
				list = append(list, n.tightFrom(few, 5, 0), n.tightFrom(few, 2, 1), n.tightFrom(some, 5, 0), n.tightFrom(some, 1, 0), n.tightFrom(some, 3, 4), n.tightFrom(some, 4, -1),
					n.stockFrom(few, 4, 1), n.stockFrom(some, 6, 3), n.stockFrom(all, 20, 5), n.stockFrom(all, 8, 5), n.tightFrom(all, 5, 2), n.stockFrom(some, 1, 0))
			}
		}
	}
	return list
}

// smallStocks gives all Fields of two clients and two sites with lengths, rooms
// and needs of at most 2, and some opening costs.
func smallStocks() []stock {
	list := []stock{}
	for code := range 6561 {
		open, digits := []int{code % 5 % 3, code % 7 % 3}, []int{}
		for range 8 {
			digits = append(digits, code%3)
			code /= 3
		}
		list = append(list, stock{impl.Field{Open: open, Dist: [][]int{digits[:2], digits[2:4]}}, digits[4:6], digits[6:]})
	}
	return list
}

// setsFor gives all sets with a site of a small Field, and some sets of another one.
func (s stock) setsFor(n *numbers) [][]int {
	all := setsModel(len(s.rooms))[1:]
	if len(all) <= 7 {
		return all
	}
	sets := [][]int{all[len(all)-1]}
	for range 3 {
		sets = append(sets, all[n.below(len(all))])
	}
	return sets
}
