package tests

import (
	"slices"
	"testing"

	"loop.example/g01110/impl"
)

func checkFirms(t *testing.T, f impl.Field, k, value int, play []int) {
	t.Helper()
	if got, ok := impl.FirmValue(f, k); !ok || got != value {
		t.Errorf("FirmValue of %q for %d = %d, %v; want %d", textOf(f), k, got, ok, value)
	}
	if got, ok := impl.FirmPlay(f, k); !ok || !slices.Equal(got, play) {
		t.Errorf("FirmPlay of %q for %d = %v, %v; want %v", textOf(f), k, got, ok, play)
	}
}

func checkNoFirms(t *testing.T, f impl.Field, k int) {
	t.Helper()
	if got, ok := impl.FirmValue(f, k); ok || got != 0 {
		t.Errorf("FirmValue of %q for %d = %d, %v", textOf(f), k, got, ok)
	}
	if got, ok := impl.FirmPlay(f, k); ok || len(got) > 0 {
		t.Errorf("FirmPlay of %q for %d = %v, %v", textOf(f), k, got, ok)
	}
}

func checkVotes(t *testing.T, f impl.Field, a, b, forA, forB int) {
	t.Helper()
	if one, two, ok := impl.VotesOf(f, a, b); !ok || one != forA || two != forB {
		t.Errorf("VotesOf of %q for %d and %d = %d, %d, %v; want %d, %d", textOf(f), a, b, one, two, ok, forA, forB)
	}
}

func checkUnbeaten(t *testing.T, f impl.Field, want []int) {
	t.Helper()
	if got, ok := impl.UnbeatenSites(f); !ok || !slices.Equal(got, want) {
		t.Errorf("UnbeatenSites of %q = %v, %v; want %v", textOf(f), got, ok, want)
	}
}

const (
	// cycle has sites of which each one beats the next one, and the last one the first.
	cycle = "0 0 0 / 1 2 3 / 3 1 2 / 2 3 1"
	// street has a client at each of its four sites, which are in a row.
	street = "0 0 0 0 / 0 1 2 3 / 1 0 1 2 / 2 1 0 1 / 3 2 1 0"
	// homes has a client at each of its five sites, which are all as far from the others.
	homes = "0 0 0 0 0 / 0 9 9 9 9 / 9 0 9 9 9 / 9 9 0 9 9 / 9 9 9 0 9 / 9 9 9 9 0"
	same  = "3 3 / 4 4 / 4 4"
)

// The plays of this test were worked out by hand.
func TestP9FirmsByHand(t *testing.T) {
	for _, c := range []struct {
		field    string
		k, value int
		play     []int
	}{
		{stage, 1, 1, []int{0, 1}}, {"0 0 / 1 2 / 1 2 / 2 1", 1, 2, []int{0, 1}}, {"0 0 / 2 1 / 2 1 / 1 2", 1, 2, []int{1, 0}}, {"9 0 / 1 2", 1, 1, []int{0, 1}}, {"0 9 / 2 1", 1, 1, []int{1, 0}},
		{same, 1, 2, []int{0, 1}}, {"0 0 0 / 5 5 5 / 5 5 5", 1, 2, []int{0, 1}}, {"3 3", 1, 0, []int{0, 1}}, {"3 3 3 3 3", 2, 0, []int{0, 1, 2, 3}}, {"0 0 0 0 0 0 0", 3, 0, []int{0, 1, 2, 3, 4, 5}}, // equal lengths go to the least site
		{cycle, 1, 1, []int{0, 2}}, {"0 0 0 / 9 1 1 / 9 1 1", 1, 2, []int{1, 0}}, {"0 0 0 / 9 1 1", 1, 1, []int{1, 0}}, // an odd number of sites
		{street, 1, 2, []int{1, 2}}, {street, 2, 2, []int{0, 1, 2, 3}}, {homes, 1, 4, []int{0, 1}}, {homes, 2, 3, []int{0, 1, 2, 3}},
		{"0 0 0 0 / 0 9 9 9 / 9 0 9 9 / 9 9 0 9 / 9 9 9 0", 1, 3, []int{0, 1}}, {"0 0 0 0 / 0 9 9 9 / 9 0 9 9 / 9 9 0 9 / 9 9 9 0", 2, 2, []int{0, 1, 2, 3}},
		{"0 0 0 0 / 9 9 9 1 / 9 9 1 2 / 9 9 1 2", 1, 2, []int{2, 0}}, {"0 0 0 0 / 9 9 9 1 / 9 9 1 9 / 9 9 9 1", 2, 2, []int{3, 2, 0, 1}}, // the second firm takes what is left of worth
	} {
		checkFirms(t, fieldOf(c.field), c.k, c.value, c.play)
	}
	for _, text := range []string{"0", "7 / 4", "7 / 0 / 99"} { // one site alone
		for _, k := range []int{-1, 0, 1, 2} {
			checkNoFirms(t, fieldOf(text), k)
		}
	}
	for _, sites := range []int{2, 3, 4, 5, 6, 7} {
		f := impl.Field{Open: make([]int, sites), Dist: [][]int{make([]int, sites)}}
		checkNoFirms(t, f, sites/2+1)
		checkNoFirms(t, f, 0)
		checkFirms(t, f, sites/2, 1, allBelow(sites/2*2)) // the one client goes to the site 0
	}
}

func TestP9FirmsOfManyFields(t *testing.T) {
	for _, f := range manyGames(1) {
		for k := range len(f.Open) {
			if k < 1 || 2*k > len(f.Open) {
				checkNoFirms(t, f, k)
				continue
			}
			play := playModel(f, nil, 2*k)
			checkFirms(t, f, k, firmsModel(f, play)[0], play)
		}
	}
}

// The clients of this test were worked out by hand.
func TestP9ClientsTakenByHand(t *testing.T) {
	for _, c := range []struct {
		field                    string
		leader, follower, client []int
	}{
		{stage, []int{0}, []int{1}, []int{1}}, {stage, []int{1}, []int{0}, []int{0}}, {duo, []int{0}, []int{1}, []int{1}}, {duo, []int{1}, []int{0}, []int{0}}, // a client with equal lengths stays
		{stage, []int{0}, nil, nil}, {stage, []int{0, 1}, []int{}, nil}, {same, []int{1}, []int{0}, nil}, {same, []int{0}, []int{1}, nil}, {"5", []int{0}, nil, nil}, {"5 5", []int{1}, []int{0}, nil},
		{rounds, []int{0}, []int{1, 2}, []int{1}}, {rounds, []int{0, 1}, []int{2}, nil}, {trio, []int{1}, []int{0, 2}, []int{0, 2}}, {trio, []int{0, 2}, []int{1}, []int{1}}, {trio, []int{0}, []int{2}, []int{2}},
		{cycle, []int{0}, []int{1}, []int{1}}, {cycle, []int{0}, []int{2}, []int{1, 2}}, {cycle, []int{0}, []int{1, 2}, []int{1, 2}}, {cycle, []int{1, 2}, []int{0}, []int{0}},
		{street, []int{0}, []int{1, 2, 3}, []int{1, 2, 3}}, {street, []int{0, 3}, []int{1}, []int{1}}, {street, []int{0, 3}, []int{1, 2}, []int{1, 2}}, {street, []int{1}, []int{3}, []int{3}}, {street, []int{1, 2}, []int{0, 3}, []int{0, 3}},
		{"0 0 0 / 4 5 9 / 5 4 3 / 4 4 4 / 6 5 5 / 9 9 0", []int{0, 1}, []int{2}, []int{1, 4}}, {"0 0 0 / 4 5 9 / 5 4 3 / 4 4 4 / 6 5 5 / 9 9 0", []int{2}, []int{0, 1}, []int{0}},
	} {
		if got, ok := impl.ClientsTaken(fieldOf(c.field), c.leader, c.follower); !ok || !slices.Equal(got, c.client) {
			t.Errorf("ClientsTaken of %q for %v and %v = %v, %v; want %v", c.field, c.leader, c.follower, got, ok, c.client)
		}
	}
}

func TestP9ClientsTakenOfManyFields(t *testing.T) {
	for _, f := range manyGames(1) {
		sets := setsModel(len(f.Open))
		for at := 0; at < len(sets)*len(sets); at += 1 + len(sets)/20 {
			leader, follower := sets[at/len(sets)], sets[at%len(sets)]
			want := takenModel(f, leader, follower)
			fine := len(leader) > 0 && bitsOf(leader)&bitsOf(follower) == 0
			if !fine {
				want = nil
			}
			if got, ok := impl.ClientsTaken(f, leader, follower); ok != fine || !slices.Equal(got, want) {
				t.Errorf("ClientsTaken of %q for %v and %v = %v, %v; want %v, %v", textOf(f), leader, follower, got, ok, want, fine)
			}
		}
	}
}

func checkFollower(t *testing.T, f impl.Field, leader []int, k int, want []int) {
	t.Helper()
	if got, ok := impl.BestFollower(f, leader, k); ok != (len(want) > 0) || !slices.Equal(got, want) {
		t.Errorf("BestFollower of %q for %v and %d = %v, %v; want %v", textOf(f), leader, k, got, ok, want)
	}
}

func checkLeader(t *testing.T, f impl.Field, m, k int, want []int, lost int) {
	t.Helper()
	if got, count, ok := impl.BestLeader(f, m, k); ok != (len(want) > 0) || !slices.Equal(got, want) || count != lost {
		t.Errorf("BestLeader of %q for %d and %d = %v, %d, %v; want %v, %d", textOf(f), m, k, got, count, ok, want, lost)
	}
}

// The sets of this test were worked out by hand; nil stands for a failure.
func TestP9FollowersByHand(t *testing.T) {
	for _, c := range []struct {
		field    string
		leader   []int
		k        int
		follower []int
	}{
		{stage, []int{0}, 1, []int{1}}, {stage, []int{1}, 1, []int{0}}, {stage, []int{0}, 2, nil}, {stage, []int{0, 1}, 1, nil}, {stage, []int{0, 1}, 0, nil}, {stage, []int{0}, 0, nil}, {"7 / 4", []int{0}, 1, nil}, {"7 / 4", []int{0}, 0, nil},
		{trio, []int{0}, 1, []int{1}}, {trio, []int{0}, 2, []int{1, 2}}, {trio, []int{1}, 1, []int{0}}, {trio, []int{1}, 2, []int{0, 2}}, {trio, []int{0, 2}, 1, []int{1}}, {trio, []int{0, 2}, 2, nil}, // as many clients: the first set
		{cycle, []int{0}, 1, []int{2}}, {cycle, []int{1}, 1, []int{0}}, {cycle, []int{2}, 1, []int{1}}, {cycle, []int{0, 1}, 1, []int{2}}, {"3 1 2", []int{0}, 1, []int{1}}, {"3 1 2", []int{0}, 2, []int{1, 2}}, {"3 1 2", []int{1}, 2, []int{0, 2}},
		{street, []int{0}, 1, []int{1}}, {street, []int{1}, 1, []int{2}}, {street, []int{2}, 1, []int{1}}, {street, []int{3}, 1, []int{2}}, {street, []int{1}, 2, []int{0, 2}}, {street, []int{2}, 2, []int{1, 3}}, {street, []int{2}, 3, []int{0, 1, 3}}, {street, []int{1, 2}, 1, []int{0}}, {street, []int{1, 2}, 2, []int{0, 3}}, {street, []int{0, 1}, 1, []int{2}},
		{homes, []int{0}, 1, []int{1}}, {homes, []int{1}, 2, []int{0, 2}}, {homes, []int{1, 3}, 2, []int{0, 2}}, {homes, []int{2}, 4, []int{0, 1, 3, 4}}, {"0 0 0 0 / 1 1 1 0 / 1 1 1 1", []int{0}, 2, []int{1, 3}}, {"0 0 0 0 / 1 1 1 0 / 1 1 1 1", []int{3}, 2, []int{0, 1}},
	} {
		checkFollower(t, fieldOf(c.field), c.leader, c.k, c.follower)
	}
}

// The sets of this test were worked out by hand; nil stands for a failure.
func TestP9LeadersByHand(t *testing.T) {
	for _, c := range []struct {
		field  string
		m, k   int
		leader []int
		lost   int
	}{
		{stage, 1, 1, []int{0}, 1}, {stage, 2, 1, nil, 0}, {stage, 1, 2, nil, 0}, {stage, 2, 0, nil, 0}, {stage, 0, 1, nil, 0}, {"7 / 4", 1, 1, nil, 0}, {"7 / 4", 1, 0, nil, 0}, {"5 5", 1, 1, []int{0}, 0}, {same, 1, 1, []int{0}, 0},
		{cycle, 1, 1, []int{0}, 2}, {cycle, 2, 1, []int{0, 1}, 1}, {cycle, 1, 2, []int{0}, 2}, {cycle, 2, 2, nil, 0}, {trio, 1, 1, []int{0}, 1}, {trio, 1, 2, []int{0}, 2}, {trio, 2, 1, []int{0, 1}, 1},
		{street, 1, 1, []int{1}, 2}, {street, 2, 1, []int{0, 2}, 1}, {street, 2, 2, []int{0, 1}, 2}, {street, 3, 1, []int{0, 1, 2}, 1}, {street, 1, 3, []int{0}, 3}, {street, 3, 2, nil, 0}, {street, 4, 1, nil, 0}, {street, 1, 4, nil, 0},
		{"0 0 0 / 9 1 1 / 9 1 1", 1, 1, []int{1}, 0}, {"0 0 0 / 9 9 1 / 9 9 1 / 1 9 9", 1, 1, []int{2}, 1}, {"0 0 0 / 9 9 1 / 9 9 1 / 1 9 9", 2, 1, []int{0, 2}, 0}, {"0 0 0 / 9 9 1 / 9 9 1 / 1 9 9", 1, 2, []int{2}, 1},
	} {
		checkLeader(t, fieldOf(c.field), c.m, c.k, c.leader, c.lost)
	}
}

func TestP9FollowersOfManyFields(t *testing.T) {
	for place, f := range manyGames(1) {
		sites := len(f.Open)
		for at, leader := range setsModel(sites)[1:] {
			if sites > 5 && (at+place)%5 > 0 { // of many sets, every fifth one
				continue
			}
			for k := range sites + 1 {
				want := []int{}
				if k > 0 && k+len(leader) <= sites {
					want, _ = followerModel(f, leader, k)
				}
				checkFollower(t, f, leader, k, want)
			}
		}
	}
}

func TestP9LeadersOfManyFields(t *testing.T) {
	for place, f := range manyGames(1) {
		sites := len(f.Open)
		if sites == impl.MaxSites && place%6 > 0 {
			continue
		}
		for m := range sites + 1 {
			for k := range sites + 1 {
				want, lost := []int{}, 0
				if m > 0 && k > 0 && m+k <= sites {
					want, lost = leaderModel(f, m, k)
				}
				checkLeader(t, f, m, k, want, lost)
			}
		}
	}
}

// The votes of this test were worked out by hand.
func TestP9VotesByHand(t *testing.T) {
	for _, c := range []struct {
		field            string
		a, b, forA, forB int
	}{
		{stage, 0, 1, 1, 1}, {stage, 1, 0, 1, 1}, {duo, 0, 1, 1, 1}, {same, 0, 1, 0, 0}, {"3 1", 0, 1, 0, 0}, {"7 / 4", 0, 0, 0, 0}, {stage, 0, 0, 0, 0}, {stage, 1, 1, 0, 0}, {street, 3, 3, 0, 0},
		{cycle, 0, 1, 2, 1}, {cycle, 1, 2, 2, 1}, {cycle, 2, 0, 2, 1}, {cycle, 0, 2, 1, 2}, {cycle, 1, 0, 1, 2}, {cycle, 2, 1, 1, 2}, {"0 0 / 1 2 / 1 2 / 2 1", 0, 1, 2, 1}, {"0 0 / 1 2 / 1 2 / 2 1", 1, 0, 1, 2},
		{street, 0, 1, 1, 3}, {street, 1, 2, 2, 2}, {street, 0, 2, 1, 2}, {street, 0, 3, 2, 2}, {street, 3, 1, 1, 2}, {street, 2, 3, 3, 1}, {homes, 4, 2, 1, 1}, {"99 0 / 0 99 / 0 99 / 0 99 / 0 99 / 0 99 / 0 99 / 0 99", 0, 1, 7, 0},
	} {
		checkVotes(t, fieldOf(c.field), c.a, c.b, c.forA, c.forB)
	}
	for field, want := range map[string][]int{
		cycle: nil, stage: {0, 1}, duo: {0, 1}, trio: {0, 1, 2}, street: {1, 2}, same: {0, 1}, homes: {0, 1, 2, 3, 4}, "5": {0}, "7 / 4": {0}, "7 / 0 / 99": {0}, "3 1 2": {0, 1, 2},
		"0 0 / 1 2 / 1 2 / 2 1": {0}, "0 0 / 2 1 / 2 1 / 1 2": {1}, "0 9 9 / 2 1 1": {1, 2}, "0 0 0 0 / 1 2 3 9 / 3 1 2 9 / 2 3 1 9": nil, "0 0 0 0 / 1 2 3 0 / 3 1 2 0 / 2 3 1 9": {3}, // a further site that all others beat, or that beats them
		"0 0 0 / 1 2 2 / 2 1 9 / 2 9 1": {0}, "0 0 0 / 1 2 3 / 1 2 3 / 3 1 1": {0},
	} {
		checkUnbeaten(t, fieldOf(field), want)
	}
}

func TestP9VotesOfManyFields(t *testing.T) {
	for _, f := range manyGames(2) {
		for a := range f.Open {
			for b := range f.Open {
				forA, forB := votesModel(f, a, b)
				checkVotes(t, f, a, b, forA, forB)
			}
		}
		checkUnbeaten(t, f, unbeatenModel(f))
	}
}

// The rest of this file tells guarantees of the program's own results alone.

// firmCounts gives how many clients each firm has by the program's own services.
func firmCounts(t *testing.T, f impl.Field, play []int) [2]int {
	t.Helper()
	counts, open := [2]int{}, sortedSet(play)
	groups, ok := impl.ClientsOf(f, open)
	if !ok {
		t.Fatalf("ClientsOf of %q for %v fails", textOf(f), open)
	}
	for place, site := range open {
		counts[slices.Index(play, site)%2] += len(groups[place])
	}
	return counts
}

// A play leads to the value of its game, and no other last site is better for the second firm.
func TestP9PlaysLeadToTheValue(t *testing.T) {
	for _, f := range manyGames(1) {
		for k := 1; 2*k <= len(f.Open); k++ {
			value, one := impl.FirmValue(f, k)
			play, two := impl.FirmPlay(f, k)
			if !one || !two || len(play) != 2*k || len(slices.Compact(sortedSet(play))) != 2*k {
				t.Fatalf("the game of %q for %d has %d, %v, %v", textOf(f), k, value, play, two)
			}
			if counts := firmCounts(t, f, play); counts[0] != value || counts[0]+counts[1] != len(f.Dist) {
				t.Errorf("FirmPlay of %q for %d = %v with %v; FirmValue = %d", textOf(f), k, play, counts, value)
			}
			for _, last := range othersModel(f, play[:2*k-1]) {
				other := append(slices.Clone(play[:2*k-1]), last)
				if count := firmCounts(t, f, other)[1]; count > len(f.Dist)-value || last < play[2*k-1] && count == len(f.Dist)-value {
					t.Errorf("FirmPlay of %q for %d = %v; the site %d is better at the end", textOf(f), k, play, last)
				}
			}
		}
	}
}

// With one site each, the first firm gets the most of what the second one leaves to it.
func TestP9FirmsWithOneSiteEach(t *testing.T) {
	for _, f := range manyGames(1) {
		if len(f.Open) < 2 {
			continue
		}
		most := 0
		for first := range f.Open {
			left := len(f.Dist)
			for _, second := range othersModel(f, []int{first}) {
				left = min(left, firmCounts(t, f, []int{first, second})[0])
			}
			most = max(most, left)
		}
		if value, ok := impl.FirmValue(f, 1); !ok || value != most {
			t.Errorf("FirmValue of %q for 1 = %d, %v; want %d", textOf(f), value, ok, most)
		}
	}
}

func takenCount(t *testing.T, f impl.Field, leader, follower []int) int {
	t.Helper()
	clients, ok := impl.ClientsTaken(f, leader, follower)
	if !ok {
		t.Fatalf("ClientsTaken of %q for %v and %v fails", textOf(f), leader, follower)
	}
	return len(clients)
}

// To no other set of as many sites more clients go than to the best one.
func TestP9NoFollowerTakesMore(t *testing.T) {
	n := &numbers{state: 113}
	for _, f := range manyGames(1) {
		leader := n.setFrom(len(f.Open))
		if len(leader) == 0 || len(leader) == len(f.Open) {
			continue
		}
		for _, set := range setsModel(len(f.Open))[1:] {
			if bitsOf(leader)&bitsOf(set) > 0 {
				continue
			}
			best, ok := impl.BestFollower(f, leader, len(set))
			order := slices.Compare(best, set)
			if most, count := takenCount(t, f, leader, best), takenCount(t, f, leader, set); !ok || most < count || most == count && order > 0 {
				t.Errorf("BestFollower of %q for %v = %v, %v with %d; %v has %d", textOf(f), leader, best, ok, most, set, count)
			}
		}
	}
}

// The leader loses what it is told, and loses no less with another set of as many sites.
func TestP9NoLeaderLosesLess(t *testing.T) {
	n := &numbers{state: 114}
	for _, f := range manyGames(1) {
		sites := len(f.Open)
		if sites < 2 {
			continue
		}
		m := 1 + n.below(sites-1)
		k := 1 + n.below(sites-m)
		leader, lost, ok := impl.BestLeader(f, m, k)
		if !ok || len(leader) != m {
			t.Fatalf("BestLeader of %q for %d and %d = %v, %d, %v", textOf(f), m, k, leader, lost, ok)
		}
		for _, set := range setsModel(sites) {
			if len(set) != m {
				continue
			}
			follower, _ := impl.BestFollower(f, set, k)
			count, order := takenCount(t, f, set, follower), slices.Compare(set, leader)
			if count < lost || count == lost && order < 0 || count != lost && order == 0 {
				t.Errorf("BestLeader of %q for %d and %d = %v, %d; %v loses %d", textOf(f), m, k, leader, lost, set, count)
			}
		}
	}
}

// Votes are the clients that one site takes from another one, and both at most all.
func TestP9VotesAreClientsTaken(t *testing.T) {
	for _, f := range manyGames(1) {
		for a := range f.Open {
			for b := range a {
				forA, forB, ok := impl.VotesOf(f, a, b)
				back, there, fine := impl.VotesOf(f, b, a)
				if !ok || !fine || forA != there || forB != back || forA != takenCount(t, f, []int{b}, []int{a}) || forB != takenCount(t, f, []int{a}, []int{b}) {
					t.Errorf("VotesOf of %q for %d and %d = %d, %d and %d, %d", textOf(f), a, b, forA, forB, back, there)
				}
			}
			checkVotes(t, f, a, a, 0, 0)
		}
	}
}

// In the Field of a tree, no site beats one with the least service.
func TestP9MediansOfTreesAreUnbeaten(t *testing.T) {
	n := &numbers{state: 115}
	for place, parents := range allTrees(impl.MaxSites) {
		if len(parents) == impl.MaxSites && place%4 > 0 {
			continue
		}
		for _, lengths := range n.lengthsFrom(len(parents)) {
			f, ok := impl.TreeField(parents, lengths)
			if !ok {
				continue
			}
			median, _ := impl.MedianOf(f, 1)
			least, _ := impl.ServiceOf(f, median)
			unbeaten, fine := impl.UnbeatenSites(f)
			for site := range f.Open {
				service, _ := impl.ServiceOf(f, []int{site})
				if !fine || service == least && !slices.Contains(unbeaten, site) {
					t.Errorf("UnbeatenSites of the tree %v with %v = %v, %v; the site %d has the least service", parents, lengths, unbeaten, fine, site)
				}
			}
		}
	}
}
