package tests

import (
	"cmp"
	"math"
	"math/big"
	"slices"
	"strconv"

	"loop.example/g01110/impl"
)

// The functions here tell chapter 8 again, as near to the words of the document
// as can be and apart from the program.

// prize is a Field with what each client is worth, and the gains of all sets, by
// the numbers whose bits are their sites.
type prize struct {
	f     impl.Field
	worth int
	gains []int
}

func prizeFor(f impl.Field, worth int) prize {
	p := prize{f, worth, nil}
	for number := range 1 << len(f.Open) {
		p.gains = append(p.gains, gainModel(f, worth, listOfBits(uint(number))))
	}
	return p
}

func prizeOf(field string, worth int) prize {
	return prizeFor(fieldOf(field), worth)
}

func (p prize) text() string {
	return strconv.Quote(textOf(p.f)) + " with the worth " + strconv.Itoa(p.worth)
}

func gainModel(f impl.Field, worth int, set []int) int {
	gain := 0
	for client, site := range servedModel(f, set) {
		if site >= 0 && f.Dist[client][site] < worth {
			gain += worth - f.Dist[client][site]
		}
	}
	return gain
}

// gain takes the sites in any order.
func (p prize) gain(sites []int) int {
	return p.gains[bitsOf(sites)]
}

// more gives the marginal gain of a site.
func (p prize) more(sites []int, site int) int {
	return p.gain(append(slices.Clone(sites), site)) - p.gain(sites)
}

func (p prize) moreOfOthers(sites []int) []int {
	gains := []int{}
	for _, site := range othersModel(p.f, sites) {
		gains = append(gains, p.more(sites, site))
	}
	return gains
}

// sortedSet gives the set of the sites of a list.
func sortedSet(sites []int) []int {
	return slices.Sorted(slices.Values(sites))
}

func isOfSize(k int) func(set []int) bool {
	return func(set []int) bool { return len(set) <= k }
}

func isOfClasses(classes, limits []int) func(set []int) bool {
	return func(set []int) bool {
		for class, limit := range limits {
			count := 0
			for _, site := range set {
				if classes[site] == class {
					count++
				}
			}
			if count > limit {
				return false
			}
		}
		return true
	}
}

func isOfBudget(f impl.Field, budget int) func(set []int) bool {
	return func(set []int) bool { return paymentModel(f, set) <= budget }
}

func (p prize) best(is func(set []int) bool) []int {
	best := []int{}
	for _, set := range setsModel(len(p.f.Open)) {
		if is(set) && p.gain(set) > p.gain(best) {
			best = set
		}
	}
	return best
}

func (p prize) greedy(is func(set []int) bool) []int {
	taken := []int{}
	for {
		next, most := -1, 0
		for _, site := range othersModel(p.f, taken) {
			if is(append(slices.Clone(taken), site)) && p.more(taken, site) > most {
				next, most = site, p.more(taken, site)
			}
		}
		if next < 0 {
			return taken
		}
		taken = append(taken, next)
	}
}

// telling is the last one of a site's marginal gain, for so many taken sites.
type telling struct{ site, gain, taken int }

// lazy has the sites that are not taken in a list, the one that is looked at first.
func (p prize) lazy(k int) ([]int, int) {
	waiting, taken := []telling{}, []int{}
	for site := range p.f.Open {
		waiting = append(waiting, telling{site, p.more(nil, site), 0})
	}
	count := len(waiting)
	for len(taken) < k && len(waiting) > 0 {
		slices.SortFunc(waiting, func(a, b telling) int { return cmp.Or(cmp.Compare(b.gain, a.gain), cmp.Compare(a.site, b.site)) })
		first := waiting[0]
		if first.gain == 0 {
			break
		}
		if first.taken < len(taken) {
			waiting[0] = telling{first.site, p.more(taken, first.site), len(taken)}
			count++
			continue
		}
		taken, waiting = append(taken, first.site), waiting[1:]
	}
	return taken, count
}

func (p prize) upper(sites []int, k int) int {
	gains := p.moreOfOthers(sites)
	slices.SortFunc(gains, func(a, b int) int { return b - a })
	return p.gain(sites) + sumModel(gains[:min(k, len(gains))])
}

func (p prize) leastUpper(k int) int {
	least := p.upper(nil, k)
	sites := p.greedy(isOfSize(k))
	for count := range sites {
		least = min(least, p.upper(sites[:count+1], k))
	}
	return least
}

// quotient has gains of more than 0 for no cost above all others.
func (p prize) quotient(sites []int, site int) *big.Rat {
	gain, cost := p.more(sites, site), p.f.Open[site]
	if gain == 0 {
		return big.NewRat(0, 1)
	}
	if cost == 0 {
		return big.NewRat(1000000, 1)
	}
	return big.NewRat(int64(gain), int64(cost))
}

// byQuotients gives the first one of the two sets of RatioGain.
func (p prize) byQuotients(budget int) []int {
	taken, left := []int{}, allBelow(len(p.f.Open))
	for len(left) > 0 {
		at := 0
		for place, site := range left {
			if p.quotient(taken, site).Cmp(p.quotient(taken, left[at])) > 0 {
				at = place
			}
		}
		if with := append(slices.Clone(taken), left[at]); p.gain(with) > p.gain(taken) && paymentModel(p.f, with) <= budget {
			taken = with
		}
		left = slices.Delete(left, at, at+1)
	}
	return sortedSet(taken)
}

func (p prize) ratio(budget int) []int {
	first := p.byQuotients(budget)
	second := p.best(func(set []int) bool { return len(set) <= 1 && paymentModel(p.f, set) <= budget })
	if p.gain(second) > p.gain(first) {
		return second
	}
	return first
}

// worthModel tries all worths.
func worthModel(f impl.Field, set []int, part int) (int, bool) {
	for worth := range 1000 {
		if gainModel(f, worth, set) >= part {
			return worth, true
		}
	}
	return 0, false
}

// monotoneModel adds one number after the other to a set.
func monotoneModel(n int, table []int) bool {
	for set := range table {
		for number := range n {
			if table[set] > table[set|1<<number] {
				return false
			}
		}
	}
	return true
}

// submodularModel adds two numbers to a set, each alone and both together.
func submodularModel(n int, table []int) bool {
	for set := range table {
		for a := range n {
			for b := range a {
				with, other := set|1<<a, set|1<<b
				if set&(1<<a|1<<b) == 0 && table[with]-table[set] < table[with|other]-table[other] {
					return false
				}
			}
		}
	}
	return true
}

// worthsFor gives worths about the lengths of a Field, and the least and the greatest ones.
func worthsFor(f impl.Field, n *numbers) []int {
	worths := []int{0, 999, 100 + n.below(900), 1 + n.below(99)}
	if lengths := lengthsModel(f); len(lengths) > 0 {
		length := lengths[n.below(len(lengths))]
		worths = append(worths, lengths[0], lengths[0]+1, length, length+1+n.below(9), lengths[len(lengths)-1]+1)
	}
	slices.Sort(worths)
	return slices.Compact(worths)
}

// gainsField has for each client a row of what its sites gain, in a Field with
// this worth, so that gains can be written as they are.
func gainsField(costs string, worth int, gains string) impl.Field {
	f := impl.Field{Open: rowsOf(costs)[0]}
	for _, row := range rowsOf(gains) {
		lengths := []int{}
		for _, gain := range row {
			lengths = append(lengths, worth-gain)
		}
		f.Dist = append(f.Dist, lengths)
	}
	return f
}

// namedPrizes has the edges that the document names.
func namedPrizes() []prize {
	list := []prize{}
	for _, worth := range []int{0, 1, 4, 5, 6, 98, 99, 100, 999} {
		for _, f := range namedFields() {
			list = append(list, prizeFor(f, worth))
		}
	}
	for _, gains := range []string{
		"4 0 / 0 4", "4 4", "4 4 / 0 1", "4 4 / 1 0", "5 2 / 0 3", "3 3 3 / 3 0 0 / 0 3 0 / 0 0 3", "6 6 0 / 0 6 6 / 6 0 6", "2 0 8 / 4 0 0 / 0 4 0", "0 2 8 / 0 4 0 / 4 0 0", "9 0 1 / 0 9 1 / 0 0 2",
		"1 1 0 0 / 1 0 1 0 / 0 1 0 1 / 0 0 1 1", "9 9 0 0 0 0 0 / 0 9 9 0 0 0 0 / 0 0 9 9 0 0 0 / 0 0 0 9 9 0 0 / 0 0 0 0 9 9 0 / 0 0 0 0 0 9 9 / 9 0 0 0 0 0 9", "1 2 3 4 5 6 7 / 7 6 5 4 3 2 1 / 1 7 1 7 1 7 1",
		"9 0 0 0 0 0 0 / 0 8 0 0 0 0 0 / 0 0 7 0 0 0 0 / 0 0 0 6 0 0 0 / 0 0 0 0 5 0 0 / 0 0 0 0 0 4 0 / 0 0 0 0 0 0 3", "5 5 5 5 5 5 5 / 5 5 5 5 5 5 5 / 5 5 5 5 5 5 5",
	} {
		for _, costs := range []string{"1 1 1 1 1 1 1", "0 0 0 0 0 0 0", "0 1 0 1 0 1 0", "1 2 3 4 5 6 7", "7 6 5 4 3 2 1", "99 9 99 9 99 9 99"} {
			f := gainsField(costs, 10, gains)
			f.Open = f.Open[:len(f.Dist[0])]
			list = append(list, prizeFor(f, 10))
		}
	}
	return list
}

// manyPrizes adds Fields of all sizes, with worths about their lengths.
func manyPrizes(each int) []prize {
	list := namedPrizes()
	n := &numbers{state: 92}
	for sites := 1; sites <= impl.MaxSites; sites++ {
		for clients := 0; clients <= impl.MaxClients; clients++ {
			for range each {
				few, some, all := n.fieldFrom(sites, clients, 3, 4), n.fieldFrom(sites, clients, 9, 12), n.fieldFrom(sites, clients, 99, 99)
				list = append(list, prizeFor(few, 2), prizeFor(few, 3), prizeFor(few, 5), prizeFor(some, 6), prizeFor(some, 9), prizeFor(some, 13), prizeFor(all, 30), prizeFor(all, 60))
				for _, worth := range worthsFor(all, n)[:4] {
					list = append(list, prizeFor(all, worth))
				}
			}
		}
	}
	return list
}

// setFrom gives any set of so many sites.
func (n *numbers) setFrom(sites int) []int {
	return listOfBits(uint(n.below(1 << sites)))
}

// listFrom gives a list of so many numbers of at most a limit.
func (n *numbers) listFrom(count, most int) []int {
	list := []int{}
	for range count {
		list = append(list, n.below(most+1))
	}
	return list
}

// outside gives numbers that are not in 0..most.
func outside(most int) []int {
	return []int{-1, most + 1, -2, most + 2, -most - 1, 1 << 20, -1 << 20, 1 << 32, -1 << 32, 1<<32 + 1, 1 << 62, -1 << 62, 1<<62 + 1, math.MinInt, math.MaxInt, math.MinInt + 1, math.MaxInt - 1}
}
