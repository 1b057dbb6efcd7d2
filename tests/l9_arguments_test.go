package tests

import (
	"math"
	"slices"
	"strconv"
	"testing"

	"loop.example/g01110/impl"
)

// gameArguments has what the functions of chapter 9 take, each a part of it.
type gameArguments struct {
	f                impl.Field
	shares           []int
	clients, order   []int
	leader, follower []int
	firms            int // k in the game of two firms
	m, k             int // in the game of a leader
	reply            int // k of BestFollower
	a, b             int
}

// gameCalls has the functions of chapter 9. Behind a name come those parts of
// the arguments for which, beside the Field, the function fails if they are not
// valid: s for the shares, c for the clients, o for the order, l for the
// leader, f for the follower, t for the k of two firms, m and k, r for the k of
// a reply, and a and b.
func gameCalls() map[string]func(a gameArguments) outcome {
	return map[string]func(a gameArguments) outcome{
		"CostOfClients c":  func(a gameArguments) outcome { return ofNumber(impl.CostOfClients(a.f, a.clients)) },
		"CostTable":        func(a gameArguments) outcome { return ofList(impl.CostTable(a.f)) },
		"IsCoreShare s":    func(a gameArguments) outcome { return ofReport(impl.IsCoreShare(a.f, a.shares)) },
		"CoreBreak s":      func(a gameArguments) outcome { return ofList(impl.CoreBreak(a.f, a.shares)) },
		"GreatestExcess s": func(a gameArguments) outcome { return ofNumber(impl.GreatestExcess(a.f, a.shares)) },
		"MarginalShares o": func(a gameArguments) outcome { return ofList(impl.MarginalShares(a.f, a.order)) },
		"FairShares":       func(a gameArguments) outcome { return ofPartial(impl.FairShares(a.f)) },
		"FirmValue t":      func(a gameArguments) outcome { return ofNumber(impl.FirmValue(a.f, a.firms)) },
		"FirmPlay t":       func(a gameArguments) outcome { return ofList(impl.FirmPlay(a.f, a.firms)) },
		"ClientsTaken lf":  func(a gameArguments) outcome { return ofList(impl.ClientsTaken(a.f, a.leader, a.follower)) },
		"BestFollower lr":  func(a gameArguments) outcome { return ofList(impl.BestFollower(a.f, a.leader, a.reply)) },
		"BestLeader mk":    func(a gameArguments) outcome { return ofPartial(impl.BestLeader(a.f, a.m, a.k)) },
		"VotesOf ab":       func(a gameArguments) outcome { return ofPair(impl.VotesOf(a.f, a.a, a.b)) },
		"UnbeatenSites":    func(a gameArguments) outcome { return ofList(impl.UnbeatenSites(a.f)) },
	}
}

// gameSamples has valid arguments of all sizes, but with one site there are none
// of two firms, of a reply and of a leader.
func gameSamples(state uint32) []gameArguments {
	list := []gameArguments{}
	n := &numbers{state: state}
	for _, f := range fieldsOfAllSizes(state) {
		sites, clients := len(f.Open), len(f.Dist)
		orders := ordersModel(min(clients, 4))
		order := append(orders[n.below(len(orders))], allBelow(clients)[min(clients, 4):]...)
		leader, follower := []int{}, []int{}
		for site := range sites {
			if len(leader) == 0 || n.below(2) == 0 && site+1 < sites {
				leader = append(leader, site)
			} else if n.below(2) == 0 {
				follower = append(follower, site)
			}
		}
		a := gameArguments{f, n.listFrom(clients, impl.MaxShare), listOfBits(uint(n.below(1 << clients))), order, leader, follower, 1, 1, 1, 1, n.below(sites), n.below(sites)}
		if sites > 1 {
			a.firms, a.m, a.reply = 1+n.below(sites/2), 1+n.below(sites-1), 1+n.below(sites-len(leader))
			a.k = 1 + n.below(sites-a.m)
		}
		list = append(list, a)
	}
	return list
}

// mayFail tells whether a function may fail for valid arguments.
func mayFail(call string, a gameArguments) bool {
	switch call {
	case "CoreBreak s":
		return true
	case "GreatestExcess s":
		return len(a.f.Dist) == 0
	case "FirmValue t", "FirmPlay t", "BestFollower lr", "BestLeader mk":
		return len(a.f.Open) == 1
	}
	return false
}

// checkGameParts calls all functions that take a part that is not valid.
func checkGameParts(t *testing.T, name, part string, bad gameArguments) {
	t.Helper()
	checkFailures(t, name, part, textOf(bad.f), gameCalls(), bad)
}

func TestP9ArgumentsThatAreValid(t *testing.T) {
	for _, a := range gameSamples(116) {
		sites, clients := len(a.f.Open), len(a.f.Dist)
		ends := a // each part at one of its ends
		ends.shares, ends.clients, ends.order = slices.Repeat([]int{-impl.MaxShare}, clients), allBelow(clients), reversed(allBelow(clients))
		ends.leader, ends.follower, ends.reply = []int{sites - 1}, allBelow(sites-1), sites-1
		ends.firms, ends.m, ends.k, ends.a, ends.b = max(1, sites/2), 1, max(1, sites-1), 0, sites-1
		others := ends
		others.shares, others.clients, others.leader, others.follower = slices.Repeat([]int{impl.MaxShare}, clients), nil, []int{0}, nil
		others.firms, others.m, others.k, others.reply, others.a, others.b = 1, max(1, sites-1), 1, 1, sites-1, 0
		for _, good := range []gameArguments{a, ends, others} {
			for call, of := range gameCalls() {
				if got := of(good); !got.ok && (!mayFail(call, good) || !got.isZero()) {
					t.Errorf("%s of %q for %+v = %s", call, textOf(good.f), good, got.text())
				}
			}
		}
	}
}

func TestP9FieldsThatAreNotValid(t *testing.T) {
	for name, f := range badFields() {
		for _, clients := range []int{len(f.Dist), 0, 1, 2} {
			for _, set := range [][]int{nil, {0}, {0, 1}, {1}, {7}, {-1}, allBelow(7)} {
				for _, k := range []int{0, 1, 3} {
					list := make([]int, min(clients, 1000))
					bad := gameArguments{f, list, set, allBelow(len(list)), set, []int{2}, k, k, k, k, k, 0}
					for call, of := range gameCalls() {
						if got := of(bad); !got.isZero() {
							t.Errorf("%s: %s for %v and %d = %s", name, call, set, k, got.text())
						}
					}
				}
			}
		}
	}
}

// badShares gives shares that are too few or too many, or have one beyond the limits.
func badShares(clients int) [][]int {
	list := badLists(clients, impl.MaxShare)[:4]
	for fewer := range clients {
		list = append(list, make([]int, fewer))
	}
	for place := range clients {
		for _, share := range []int{-1401, 1401, -1402, 1402, 9999, -9999, math.MinInt, math.MaxInt, math.MinInt + 1, math.MaxInt - 1, 1 << 32, -1 << 32, 1<<32 + 1, 1 << 62, -1 << 62} {
			for _, others := range []int{0, 1400, -1400} {
				shares := slices.Repeat([]int{others}, clients)
				shares[place] = share
				list = append(list, shares)
			}
		}
	}
	return list
}

// badOrders gives lists that name a client twice, leave one out, or name one that is not there.
func badOrders(clients int) [][]int {
	list := [][]int{{-1}, {clients}, {math.MaxInt}, {math.MinInt}, allBelow(clients + 1), append(allBelow(clients), 0), make([]int, 100000), allBelow(1000)}
	for place := range clients {
		list = append(list, slices.Delete(allBelow(clients), place, place+1), append(allBelow(clients), place))
		for _, client := range []int{-1, clients, -clients, clients + 7, 64, -64, math.MinInt, math.MaxInt, 1 << 32, 1<<32 + place} {
			order := allBelow(clients)
			order[place] = client
			list = append(list, order)
		}
		for other := range clients {
			if other != place {
				order := reversed(allBelow(clients))
				order[place] = order[other]
				list = append(list, order)
			}
		}
	}
	return list
}

func TestP9SharesClientsAndOrdersThatAreNotValid(t *testing.T) {
	for _, a := range gameSamples(117) {
		clients := len(a.f.Dist)
		for _, shares := range badShares(clients) {
			bad := a
			bad.shares = shares
			checkGameParts(t, "shares "+listOf(shares[:min(9, len(shares))]), "s", bad)
		}
		for _, set := range badSets(clients) {
			bad := a
			bad.clients = set
			checkGameParts(t, "clients "+listOf(set[:min(9, len(set))]), "c", bad)
		}
		for _, order := range badOrders(clients) {
			bad := a
			bad.order = order
			checkGameParts(t, "order "+listOf(order[:min(9, len(order))]), "o", bad)
		}
	}
}

func TestP9LeadersAndFollowersThatAreNotValid(t *testing.T) {
	for _, a := range gameSamples(118) {
		sites := len(a.f.Open)
		for _, set := range append(badSets(sites), nil, []int{}) { // a leader has at least one site
			bad := a
			bad.leader = set
			checkGameParts(t, "leader "+listOf(set[:min(9, len(set))]), "l", bad)
			bad.follower = nil
			checkGameParts(t, "leader "+listOf(set[:min(9, len(set))]), "l", bad)
			if bad = a; len(set) > 0 {
				bad.follower = set
				checkGameParts(t, "follower "+listOf(set[:min(9, len(set))]), "f", bad)
			}
		}
		for _, site := range a.leader { // a common site
			bad := a
			bad.follower = sortedSet(append(slices.Clone(a.follower), site))
			checkGameParts(t, "follower "+listOf(bad.follower), "f", bad)
			bad.follower = []int{site}
			checkGameParts(t, "follower "+listOf(bad.follower), "f", bad)
		}
		bad := a
		bad.leader, bad.follower = allBelow(sites), allBelow(sites)
		checkGameParts(t, "all sites", "f", bad)
		for _, reply := range []int{0, 1, sites, -1} {
			bad.reply = reply
			checkGameParts(t, "no site is left", "r", bad)
		}
	}
}

func TestP9NumbersThatAreNotValid(t *testing.T) {
	for _, a := range gameSamples(119) {
		sites := len(a.f.Open)
		for _, number := range append(outside(sites), 0) {
			bad := a
			bad.firms, bad.reply = number, number
			checkGameParts(t, strconv.Itoa(number), "t", bad)
			checkGameParts(t, strconv.Itoa(number), "r", bad)
			bad.m = number
			checkGameParts(t, "m "+strconv.Itoa(number), "m", bad)
			bad.k = number
			checkGameParts(t, "m and k "+strconv.Itoa(number), "m", bad)
			bad.m = a.m
			checkGameParts(t, "k "+strconv.Itoa(number), "m", bad)
		}
		for more := 1; more <= sites; more++ {
			bad := a
			bad.firms, bad.reply, bad.k = sites/2+more, sites-len(a.leader)+more, sites-a.m+more
			checkGameParts(t, "too many by "+strconv.Itoa(more), "t", bad)
			checkGameParts(t, "too many by "+strconv.Itoa(more), "r", bad)
			checkGameParts(t, "too many by "+strconv.Itoa(more), "m", bad)
			bad.m, bad.k = sites-a.k+more, a.k
			checkGameParts(t, "too many by "+strconv.Itoa(more), "m", bad)
		}
		for _, m := range []int{-1, 0, -7, math.MinInt, math.MaxInt, 1 << 62} { // together as many as may be
			bad := a
			bad.m, bad.k = m, sites-m
			checkGameParts(t, "m "+strconv.Itoa(m), "m", bad)
			bad.m, bad.k = sites-m, m
			checkGameParts(t, "k "+strconv.Itoa(m), "m", bad)
		}
		for _, site := range outside(sites - 1) {
			bad := a
			bad.a = site
			checkGameParts(t, "a "+strconv.Itoa(site), "a", bad)
			bad.b = site
			checkGameParts(t, "a and b "+strconv.Itoa(site), "a", bad)
			bad.a = a.a
			checkGameParts(t, "b "+strconv.Itoa(site), "a", bad)
		}
	}
}

// A nil slice is the same as an empty one.
func TestP9NilAndEmptyListsAreTheSame(t *testing.T) {
	for _, open := range [][]int{{5}, {3, 1}, {0, 0, 0}} {
		one := gameArguments{impl.Field{Open: open}, nil, nil, nil, []int{0}, nil, 1, 1, 1, 1, 0, 0}
		two := one
		two.f.Dist, two.shares, two.clients, two.order, two.follower = [][]int{}, []int{}, []int{}, []int{}, []int{}
		for call, of := range gameCalls() {
			if a, b := of(one), of(two); a.text() != b.text() || !a.ok && !mayFail(call, one) {
				t.Errorf("%s of %v = %s and %s", call, open, a.text(), b.text())
			}
		}
	}
}

func TestP9NamedLimits(t *testing.T) {
	if impl.MaxShare != 1400 {
		t.Errorf("MaxShare is %d", impl.MaxShare)
	}
}
