package tests

import (
	"slices"
	"strconv"
	"strings"
	"testing"

	"loop.example/g01110/impl"
)

func checkScript(t *testing.T, c impl.Console, text string, want []string) {
	t.Helper()
	before := consoleText(c)
	if got, ok := impl.RunScript(c, text); !ok || !slices.Equal(got, want) {
		t.Errorf("RunScript of %q in %s = %q, %v; want %q", text, before, got, ok, want)
	}
	if consoleText(c) != before {
		t.Errorf("RunScript of %q in %s leaves %s", text, before, consoleText(c))
	}
}

func checkNoScript(t *testing.T, c impl.Console, text string) {
	t.Helper()
	if got, ok := impl.RunScript(c, text); ok || len(got) != 0 {
		t.Errorf("RunScript of %.60q in %s = %q, %v", text, consoleText(c), got, ok)
	}
}

func TestP12ScriptsByHand(t *testing.T) {
	c := impl.Console{Atlas: atlasOf("4 3 / 1 5 / 6 2 | none | 0")}
	for text, want := range map[string][]string{
		"total": {"?"}, "open 0\ntotal": {"0", "11"}, "open 0\ntotal\ngap\nimprove\ntotal\nbest\nserved": {"0", "11", "1", "0 1", "10", "1", "1 1"},
		"": {"bad"}, "\n": {"bad", "bad"}, "best\n": {"1", "bad"}, "\nbest": {"bad", "1"}, "best\n\ntotal": {"1", "bad", "10"}, "best\n \ntotal": {"1", "?", "10"}, "best\r\ntotal": {"bad", "?"},
		"open 0@\nopen 0\nopen 0\nopen#\nopen 1": {"bad", "0", "?", "bad", "0 1"}, "field": {"4 3 / 1 5 / 6 2"}, "metric\ncentres 1": {"yes", "1"}, "total\x00\ntotal": {"bad", "?"},
		"dropclient 0\ndropclient 0\ndropclient 0\nbest\ntotal": {"1", "0", "?", "1", "3"}, "site 1 1 1\nsite 0 0\nbest\nswap 2 0\ndropsite 2\nfield": {"3", "?", "2", "0", "2", "4 3 / 1 5 / 6 2"},
	} {
		checkScript(t, c, text, want)
	}
}

func TestP12ScriptsOfManyLines(t *testing.T) {
	c := impl.Console{Atlas: atlasOf("4 3 / 1 5 / 6 2 | 1 | 0")}
	lines := slices.Repeat([]string{"total", "gap"}, 15)
	want := slices.Repeat([]string{"10", "0"}, 15)
	for count := 1; count <= 30; count++ {
		checkScript(t, c, strings.Join(lines[:count], "\n"), want[:count])
	}
	checkScript(t, c, strings.Repeat("\n", 29), slices.Repeat([]string{"bad"}, 30))
	for _, text := range []string{strings.Join(lines, "\n") + "\ngap", strings.Join(lines, "\n") + "\n", "\n" + strings.Join(lines, "\n"), strings.Repeat("\n", 30), strings.Repeat("\n", 31), strings.Repeat("\n", 4000), strings.Repeat("gap\n", 100000)} {
		checkNoScript(t, c, text)
	}
}

func TestP12ScriptsOfManyBytes(t *testing.T) {
	c := impl.Console{Atlas: atlasOf("4 3 / 1 5 / 6 2 | 1 | 0")}
	for _, size := range []int{160, 161, 3999, 4000} {
		reply := "bad"
		if size == 160 {
			reply = "?"
		}
		checkScript(t, c, strings.Repeat("x", size), []string{reply})
	}
	line := strings.Repeat("x", 160) + "\n"
	checkScript(t, c, strings.Repeat(line, 24)+strings.Repeat("x", 4000-24*161), slices.Repeat([]string{"?"}, 25))
	checkScript(t, c, "total\n"+strings.Repeat("x", 3988)+"\ntotal", []string{"10", "bad", "10"})
	for _, text := range []string{strings.Repeat("x", 4001), strings.Repeat(line, 24) + strings.Repeat("x", 4001-24*161), "total\n" + strings.Repeat("x", 3989) + "\ntotal", strings.Repeat(" ", 100000), strings.Repeat(line, 30)} {
		checkNoScript(t, c, text)
	}
}

// A script goes on where the log is full, and begins with what is in it.
func TestP12ScriptsInConsolesWithLogs(t *testing.T) {
	for count := range 61 {
		l := logOf(count/2, slices.Repeat([]string{"open 1", "?"}, count)...)
		replies := []string{}
		for _, reply := range slices.Repeat([]string{"0 1", "10", "0", "11"}, 3) { // open, total, close and total again
			replies = append(replies, reply)
			if count+len(replies) > 60 {
				replies[len(replies)-1] = "full"
			}
		}
		checkScript(t, impl.Console{Atlas: atlasOf("4 3 / 1 5 / 6 2 | 0 | 0"), Log: l}, strings.TrimSuffix(strings.Repeat("open 1\ntotal\nclose 1\ntotal\n", 3), "\n"), replies)
	}
	for _, c := range []impl.Console{{}, {Atlas: atlasOf("4 3 | 1 0 | 0")}, {Atlas: atlasOf("4 3 | 0 | 1001")}, {Atlas: atlasOf("4 3 | 0 | 0"), Log: impl.Log{Count: 1}}, {Atlas: atlasOf("4 3 | 0 | 0"), Log: impl.Log{Pending: "a"}}, {Atlas: atlasOf("4 3 | 0 | 0"), Log: longLog(61, 61)}} {
		for _, text := range []string{"total", "", "field\nmetric", "\n\n"} {
			checkNoScript(t, c, text)
		}
	}
}

func TestP12ScriptsAreCommandsOneAfterTheOther(t *testing.T) {
	n := &numbers{state: 205}
	for _, x := range append(namedAtlases(), atlasesOfAllSizes(206)...) {
		c := impl.Console{Atlas: x}
		want, lines, replies := c, []string{}, []string{}
		for range 1 + n.below(30) {
			line := n.lineFrom(want.Atlas)
			if n.below(9) == 0 {
				line = refusedLines()[n.below(13)]
			}
			if strings.Contains(line, "\n") || len(line) > 200 {
				line = ""
			}
			next, reply := executeModel(want, line)
			want, lines, replies = next, append(lines, line), append(replies, reply)
		}
		checkScript(t, c, strings.Join(lines, "\n"), replies)
	}
}

func checkReplay(t *testing.T, x impl.Atlas, l impl.Log, want int) {
	t.Helper()
	before := atlasText(x)
	if got, ok := impl.ReplayLog(x, l); !ok || got != want {
		t.Errorf("ReplayLog of %s from %q = %d, %v; want %d", logText(l), before, got, ok, want)
	}
	if atlasText(x) != before {
		t.Errorf("ReplayLog from %q leaves %q", before, atlasText(x))
	}
}

func TestP12ReplaysByHand(t *testing.T) {
	x, other := atlasOf("4 3 / 1 5 / 6 2 | none | 0"), atlasOf("4 3 / 2 5 / 6 2 | none | 0")
	right := []string{"open 0", "0", "total", "11", "improve", "0 1", "what", "?", "total", "10", "best", "1", "reach", "5"}
	for durable := range 8 {
		checkReplay(t, x, logOf(durable, right...), 7)
	}
	checkReplay(t, x, impl.Log{}, 0)
	checkReplay(t, other, impl.Log{}, 0)
	for place := range 7 { // the first, each middle and the last reply is another one
		for _, reply := range []string{"", "12", "no", right[2*place+1] + " "} {
			changed := slices.Clone(right)
			changed[2*place+1] = reply
			checkReplay(t, x, logOf(0, changed...), place)
			changed[13] = "6"
			checkReplay(t, x, logOf(0, changed...), place)
		}
	}
	checkReplay(t, other, logOf(0, right...), 1)                                            // the total is 12 there
	checkReplay(t, atlasOf("4 3 / 1 5 / 6 2 | 0 | 0"), logOf(0, right...), 0)               // the site 0 is open already
	checkReplay(t, atlasOf("4 3 / 1 5 / 6 2 | none | 1000"), logOf(0, right...), 0)         // no Edit is possible any more
	checkReplay(t, atlasOf("4 3 / 1 5 / 6 2 | none | 999"), logOf(0, right...), 2)          // and here only one
	checkReplay(t, atlasOf("4 3 / 1 5 / 6 2 | none | 5"), logOf(0, right...), 7)            // the Count is in no reply
	checkReplay(t, atlasOf("4 3 5 / 1 5 9 / 6 2 9 | none | 0"), logOf(0, right...), 7)      // and neither is a site that is never opened
	checkReplay(t, x, logOf(0, "total", "?", "open 1", "1", "total", "10", "total", ""), 3) // even a reply that there never is
	checkReplay(t, x, logOf(0, "total", "long"), 0)
	checkReplay(t, x, logOf(0, "total", "full"), 0)
	checkReplay(t, x, longLog(30, 60), 0)
	checkReplay(t, x, logOf(0, slices.Repeat([]string{"x", "?"}, 60)...), 60)
}

func TestP12ReplaysThatFail(t *testing.T) {
	x, l := atlasOf("4 3 / 1 5 / 6 2 | none | 0"), logOf(1, "open 0", "0", "total", "11")
	for _, bad := range []impl.Atlas{{}, {Field: x.Field, Count: -1}, {Field: x.Field, Count: 1001}, {Field: x.Field, Open: []int{2}}, {Field: x.Field, Open: []int{1, 0}}, {Field: fieldOf("100")}} {
		for _, log := range []impl.Log{l, {}, longLog(0, 60)} {
			if got, ok := impl.ReplayLog(bad, log); ok || got != 0 {
				t.Errorf("ReplayLog from %q = %d, %v", atlasText(bad), got, ok)
			}
		}
	}
	for _, bad := range []impl.Log{{Count: 1}, {Pending: "a"}, {Durable: l.Durable, Pending: l.Pending, Count: 3}, {Durable: l.Pending, Pending: l.Durable, Count: 2}, longLog(61, 61), {Durable: l.Durable + l.Pending[:3], Pending: l.Pending[3:], Count: 2}} {
		if got, ok := impl.ReplayLog(x, bad); ok || got != 0 {
			t.Errorf("ReplayLog of %s = %d, %v", logText(bad), got, ok)
		}
	}
}

// replayModel gives the first place at which a log has another reply than the model.
func replayModel(x impl.Atlas, l impl.Log) int {
	records, _ := recordsModel(l.Durable + l.Pending)
	c := impl.Console{Atlas: x}
	for place, e := range records {
		next, reply := executeModel(c, e.Command)
		if reply != e.Reply {
			return place
		}
		c = next
	}
	return len(records)
}

// changedReply gives a log with one reply that is another one.
func changedReply(l impl.Log, place int, reply string) impl.Log {
	records, _ := recordsModel(l.Durable + l.Pending)
	pairs := []string{}
	for at, e := range records {
		if at == place {
			e.Reply = reply
		}
		pairs = append(pairs, e.Command, e.Reply)
	}
	return logOf(place, pairs...)
}

// Replaying reproduces all replies of a log, wherever it is durable, up to the
// first one that has been changed, and from another Atlas as far as the model does.
func TestP12ReplaysReproduceAllReplies(t *testing.T) {
	n := &numbers{state: 207}
	atlases := append(namedAtlases(), atlasesOfAllSizes(208)...)
	for at, x := range atlases {
		count := n.below(61)
		c := checkWalk(t, x, n, count)
		checkReplay(t, x, c.Log, count)
		synced, _ := impl.SyncLog(c.Log)
		checkReplay(t, x, synced, count)
		left, _ := impl.CrashLog(c.Log, n.below(len(c.Log.Pending)+1), n.below(2) == 0)
		if recovered, _, ok := impl.RecoverLog(left); ok {
			checkReplay(t, x, recovered, recovered.Count)
		}
		if count > 0 {
			for _, place := range []int{0, n.below(count), count - 1} {
				checkReplay(t, x, changedReply(c.Log, place, "changed"), place)
				checkReplay(t, x, changedReply(c.Log, place, ""), place)
			}
		}
		other := atlases[(at+1)%len(atlases)]
		checkReplay(t, other, c.Log, replayModel(other, c.Log))
		x.Count = min(1000, x.Count+n.below(30))
		checkReplay(t, x, c.Log, replayModel(x, c.Log))
	}
}

// A Console goes on behind a crash: what is recovered is appended to again.
func TestP12ConsolesGoOnBehindCrashes(t *testing.T) {
	x := atlasOf("4 3 / 1 5 / 6 2 | none | 0")
	lines := []string{"open 0", "total", "improve", "cost 0 9", "best", "total", "field"}
	c, _ := impl.NewConsole(x)
	for _, line := range lines {
		c, _ = impl.ExecuteCommand(c, line)
	}
	for keep := range len(c.Log.Pending) + 1 {
		left, _ := impl.CrashLog(c.Log, keep, keep%2 == 0)
		l, _, _ := impl.RecoverLog(left)
		records, _ := impl.LogRecords(l)
		again, _ := impl.NewConsole(x)
		for _, e := range records {
			again, _ = impl.ExecuteCommand(again, e.Command)
		}
		for _, line := range lines[len(records):] {
			again, _ = impl.ExecuteCommand(again, line)
		}
		if consoleText(again) != consoleText(c) {
			t.Errorf("with "+strconv.Itoa(keep)+" bytes kept, the Console is %s; want %s", consoleText(again), consoleText(c))
		}
	}
}
