package tests

import (
	"cmp"
	"fmt"
	"slices"
	"sort"

	"loop.example/g01110/impl"
)

// The functions here tell chapter 3 again, as near to the words of the document
// as can be and apart from the program.

const growthUnit = 2520

func totalModel(f impl.Field, set []int) int {
	service, _ := serviceModel(f, set)
	return service + paymentModel(f, set)
}

func sumModel(list []int) int {
	sum := 0
	for _, n := range list {
		sum += n
	}
	return sum
}

func claimModel(f impl.Field, prices []int, site int) int {
	claim := 0
	for i, row := range f.Dist {
		if prices[i] > row[site] {
			claim += prices[i] - row[site]
		}
	}
	return claim
}

// restsModel gives the opening cost less the claim of each site, for any prices.
func restsModel(f impl.Field, prices []int) []int {
	rests := []int{}
	for site, cost := range f.Open {
		rests = append(rests, cost-claimModel(f, prices, site))
	}
	return rests
}

func fairModel(f impl.Field, prices []int) bool {
	for _, rest := range restsModel(f, prices) {
		if rest < 0 {
			return false
		}
	}
	return true
}

// meetModel takes the three conditions of PricesMeet one after the other.
func meetModel(f impl.Field, prices, set []int) bool {
	meet := true
	for _, site := range set {
		meet = meet && claimModel(f, prices, site) == f.Open[site]
	}
	for i, by := range servedModel(f, set) {
		meet = meet && prices[i] >= f.Dist[i][by]
		for _, site := range set {
			meet = meet && (site == by || prices[i] <= f.Dist[i][site])
		}
	}
	return meet
}

func ascentModel(f impl.Field) []int {
	prices := []int{}
	for _, row := range f.Dist {
		prices = append(prices, slices.Min(row))
	}
	for raised := true; raised; {
		raised = false
		for i, row := range f.Dist {
			greater, rests := []int{}, []int{}
			for site, length := range row {
				if length > prices[i] {
					greater = append(greater, length)
				} else {
					rests = append(rests, f.Open[site]-claimModel(f, prices, site))
				}
			}
			to := prices[i] + slices.Min(rests)
			if len(greater) > 0 && slices.Min(greater) <= to {
				to = slices.Min(greater)
			}
			raised = raised || to > prices[i]
			prices[i] = to
		}
	}
	return prices
}

// grown is growth as the model tells it; -1 stands for what has not come about.
type grown struct {
	field                    impl.Field
	prices, times, witnesses []int
}

// pricesAt gives the prices at a time, if no further price stops before it.
func (g grown) pricesAt(time int) []int {
	prices := slices.Clone(g.prices)
	for i, price := range prices {
		if price < 0 {
			prices[i] = time
		}
	}
	return prices
}

func (g grown) nearTight(client, price int) []int {
	near := []int{}
	for site, length := range g.field.Dist[client] {
		if g.times[site] >= 0 && length <= price {
			near = append(near, site)
		}
	}
	return near
}

// hasNews tells whether a site becomes tight or a price stops up to a time.
func (g grown) hasNews(time int) bool {
	for site, rest := range restsModel(g.field, g.pricesAt(time)) {
		if g.times[site] < 0 && rest <= 0 {
			return true
		}
	}
	for i, price := range g.prices {
		if price < 0 && len(g.nearTight(i, time)) > 0 {
			return true
		}
	}
	return false
}

// growthModel searches for one time after the other at which there are news, of
// which it knows only that there are some at all later times, too.
func growthModel(f impl.Field) grown {
	g := grown{field: impl.Field{Open: scaleModel(f.Open)}}
	for _, row := range f.Dist {
		g.field.Dist = append(g.field.Dist, scaleModel(row))
		g.prices, g.witnesses = append(g.prices, -1), append(g.witnesses, -1)
	}
	g.times = slices.Repeat([]int{-1}, len(f.Open))
	for time := 0; ; time += 1 + sort.Search(1<<20, func(more int) bool { return g.hasNews(time + 1 + more) }) {
		for site, rest := range restsModel(g.field, g.pricesAt(time)) {
			if rest < 0 {
				panic(fmt.Sprintf("a site of %q becomes tight between whole times", textOf(f)))
			}
			if rest == 0 && g.times[site] < 0 {
				g.times[site] = time
			}
		}
		for i, price := range g.prices {
			near := g.nearTight(i, time)
			if price >= 0 || len(near) == 0 {
				continue
			}
			slices.SortFunc(near, func(a, b int) int { return cmp.Or(cmp.Compare(g.times[a], g.times[b]), cmp.Compare(a, b)) })
			g.prices[i], g.witnesses[i] = time, near[0]
		}
		if !slices.Contains(g.prices, -1) {
			return g
		}
	}
}

func scaleModel(list []int) []int {
	scaled := []int{}
	for _, n := range list {
		scaled = append(scaled, n*growthUnit)
	}
	return scaled
}

func (g grown) inConflict(a, b int) bool {
	conflict := false
	for i, row := range g.field.Dist {
		conflict = conflict || g.prices[i] > row[a] && g.prices[i] > row[b]
	}
	return conflict && g.times[a] >= 0 && g.times[b] >= 0
}

func (g grown) conflicts() [][]int {
	pairs := [][]int{}
	for a := range g.times {
		for b := a + 1; b < len(g.times); b++ {
			if g.inConflict(a, b) {
				pairs = append(pairs, []int{a, b})
			}
		}
	}
	return pairs
}

// set takes the site that became tight first, again and again, and drops the
// sites that are in conflict with it.
func (g grown) set() []int {
	if len(g.prices) == 0 {
		return cheapestModel(g.field)
	}
	left, kept := []int{}, []int{}
	for site, time := range g.times {
		if time >= 0 {
			left = append(left, site)
		}
	}
	for len(left) > 0 {
		first := slices.MinFunc(left, func(a, b int) int { return cmp.Compare(g.times[a], g.times[b]) })
		kept = append(kept, first)
		left = slices.DeleteFunc(left, func(site int) bool { return site == first || g.inConflict(site, first) })
	}
	slices.Sort(kept)
	return kept
}

func cheapestModel(f impl.Field) []int {
	first := 0
	for site, cost := range f.Open {
		if cost < f.Open[first] {
			first = site
		}
	}
	return []int{first}
}

// starsModel tries all lists of clients that are not reached, not the nearest ones alone.
func starsModel(f impl.Field) []int {
	if len(f.Dist) == 0 {
		return cheapestModel(f)
	}
	opened, reached := []int{}, []int{}
	for len(reached) < len(f.Dist) {
		best, bestSite, bestCost := []int{}, 0, 0
		for site, cost := range f.Open {
			if slices.Contains(opened, site) {
				cost = 0
			}
			for _, clients := range setsModel(len(f.Dist))[1:] {
				if slices.ContainsFunc(clients, func(i int) bool { return slices.Contains(reached, i) }) {
					continue
				}
				sum := cost
				for _, i := range clients {
					sum += f.Dist[i][site]
				}
				here, there := sum*len(best), bestCost*len(clients)
				if len(best) == 0 || here < there || here == there && site == bestSite && len(clients) > len(best) {
					best, bestSite, bestCost = clients, site, sum
				}
			}
		}
		reached = append(reached, best...)
		if !slices.Contains(opened, bestSite) {
			opened = append(opened, bestSite)
		}
	}
	slices.Sort(opened)
	return opened
}

// movesModel gives the sets behind all moves, in the order of the moves.
func movesModel(f impl.Field, set []int) [][]int {
	opens, closes, changes := [][]int{}, [][]int{}, [][]int{}
	for out := -1; out < len(f.Open); out++ {
		for in := -1; in < len(f.Open); in++ {
			if out >= 0 && !slices.Contains(set, out) || in >= 0 && slices.Contains(set, in) {
				continue
			}
			moved := []int{}
			for site := range f.Open {
				if site == in || site != out && slices.Contains(set, site) {
					moved = append(moved, site)
				}
			}
			switch {
			case out < 0 && in >= 0:
				opens = append(opens, moved)
			case in < 0 && out >= 0 && len(moved) > 0:
				closes = append(closes, moved)
			case out >= 0 && in >= 0:
				changes = append(changes, moved)
			}
		}
	}
	return slices.Concat(opens, closes, changes)
}

// localModel gives the set at the end of LocalOpening, and the number of moves.
func localModel(f impl.Field, set []int) ([]int, int) {
	moves := movesModel(f, set)
	at := slices.IndexFunc(moves, func(moved []int) bool { return totalModel(f, moved) < totalModel(f, set) })
	if at < 0 {
		return set, 0
	}
	end, count := localModel(f, moves[at])
	return end, count + 1
}

// pricesFor gives varied prices for a Field: the least and the greatest ones, some that are
// fair and meet a set, and some that are just fair or just not fair.
func pricesFor(f impl.Field, n *numbers) [][]int {
	clients := len(f.Dist)
	ascent, half, grown := ascentModel(f), []int{}, []int{}
	for i, price := range growthModel(f).prices {
		half = append(half, ascent[i]/2)
		grown = append(grown, price/growthUnit)
	}
	list := [][]int{make([]int, clients), slices.Repeat([]int{impl.MaxClientPrice}, clients), ascent, half, grown}
	for i := range clients {
		for _, by := range []int{-1, 1} {
			changed := slices.Clone(ascent)
			changed[i] = max(0, changed[i]+by)
			list = append(list, changed)
		}
	}
	for _, most := range []int{20, 120, impl.MaxClientPrice} {
		prices := []int{}
		for range clients {
			prices = append(prices, n.below(most+1))
		}
		list = append(list, prices)
	}
	return list
}
