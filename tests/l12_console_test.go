package tests

import (
	"slices"
	"strings"
	"testing"

	"loop.example/g01110/impl"
)

func consoleText(c impl.Console) string {
	return atlasText(c.Atlas) + " | " + logText(c.Log)
}

func copyOfConsole(c impl.Console) impl.Console {
	return impl.Console{Atlas: copyOfAtlas(c.Atlas), Log: c.Log}
}

// checkExecuted compares the Console behind a command, and the reply.
func checkExecuted(t *testing.T, c impl.Console, line string, want impl.Console, reply string) {
	t.Helper()
	before := consoleText(c)
	next, got := impl.ExecuteCommand(c, line)
	if got != reply || consoleText(next) != consoleText(want) {
		t.Errorf("%q in %s gives %q and %s; want %q and %s", line, before, got, consoleText(next), reply, consoleText(want))
	}
	if consoleText(c) != before {
		t.Errorf("%q in %s leaves %s", line, before, consoleText(c))
	}
}

// checkCommand compares the reply to a command and the Atlas behind it, "" if it is unchanged.
func checkCommand(t *testing.T, before, line, reply, behind string) {
	t.Helper()
	if behind == "" {
		behind = before
	}
	for _, l := range []impl.Log{{}, logOf(1, "total", "?", "gap", "1")} {
		want := impl.Console{Atlas: atlasOf(behind), Log: l}
		want.Log.Pending += encodingModel(l.Count, impl.LogRecord{Command: line, Reply: reply})
		want.Log.Count++
		checkExecuted(t, impl.Console{Atlas: atlasOf(before), Log: l}, line, want, reply)
	}
}

func TestP12NewConsole(t *testing.T) {
	for _, x := range append(namedAtlases(), atlasesOfAllSizes(200)...) {
		c, ok := impl.NewConsole(x)
		if !ok || consoleText(c) != consoleText(impl.Console{Atlas: x}) || !impl.IsValidConsole(c) {
			t.Errorf("NewConsole of %q = %s, %v", atlasText(x), consoleText(c), ok)
		}
	}
}

// All commands with an Edit, in the Atlas with the Field 4 3 6 / 1 5 2 / 6 2 9
// and the open sites 0 and 2; behind each command come the reply, the Field and Open.
func TestP12CommandsWithEditsByHand(t *testing.T) {
	for _, c := range [][3]string{
		{"open 1", "0 1 2", "4 3 6 / 1 5 2 / 6 2 9 | 0 1 2"}, {"close 0", "2", "4 3 6 / 1 5 2 / 6 2 9 | 2"}, {"close 2", "0", "4 3 6 / 1 5 2 / 6 2 9 | 0"},
		{"swap 0 1", "1 2", "4 3 6 / 1 5 2 / 6 2 9 | 1 2"}, {"swap 2 1", "0 1", "4 3 6 / 1 5 2 / 6 2 9 | 0 1"},
		{"cost 1 0", "0", "4 0 6 / 1 5 2 / 6 2 9 | 0 2"}, {"cost 2 99", "99", "4 3 99 / 1 5 2 / 6 2 9 | 0 2"}, {"cost 0 4", "4", "4 3 6 / 1 5 2 / 6 2 9 | 0 2"},
		{"length 0 2 0", "0", "4 3 6 / 1 5 0 / 6 2 9 | 0 2"}, {"length 1 2 99", "99", "4 3 6 / 1 5 2 / 6 2 99 | 0 2"}, {"length 1 0 17", "17", "4 3 6 / 1 5 2 / 17 2 9 | 0 2"},
		{"site 7 8 9", "4", "4 3 6 7 / 1 5 2 8 / 6 2 9 9 | 0 2"}, {"site 0 0 0", "4", "4 3 6 0 / 1 5 2 0 / 6 2 9 0 | 0 2"}, {"site 99 99 99", "4", "4 3 6 99 / 1 5 2 99 / 6 2 9 99 | 0 2"},
		{"client 7 8 9", "3", "4 3 6 / 1 5 2 / 6 2 9 / 7 8 9 | 0 2"}, {"client 0 0 0", "3", "4 3 6 / 1 5 2 / 6 2 9 / 0 0 0 | 0 2"}, {"client 99 99 99", "3", "4 3 6 / 1 5 2 / 6 2 9 / 99 99 99 | 0 2"},
		{"dropsite 1", "2", "4 6 / 1 2 / 6 9 | 0 1"}, {"dropclient 0", "1", "4 3 6 / 6 2 9 | 0 2"}, {"dropclient 1", "1", "4 3 6 / 1 5 2 | 0 2"},
		{"improve", "1", "4 3 6 / 1 5 2 / 6 2 9 | 1"}, {"best", "1", "4 3 6 / 1 5 2 / 6 2 9 | 1"},
	} {
		checkCommand(t, twoOpen, c[0], c[1], c[2]+" | 11")
		checkCommand(t, strings.Replace(twoOpen, "| 10", "| 999", 1), c[0], c[1], c[2]+" | 1000")
		checkCommand(t, strings.Replace(twoOpen, "| 10", "| 1000", 1), c[0], "?", "")
	}
	checkCommand(t, "4 3 | 1 | 0", "close 1", "none", "4 3 | none | 1")
	checkCommand(t, "4 | 0 | 0", "site 5", "2", "4 5 | 0 | 1")
	checkCommand(t, "8 / 1 | 0 | 0", "dropclient 0", "0", "8 | 0 | 1")
	checkCommand(t, "8 | none | 0", "client 5", "1", "8 / 5 | none | 1")
	checkCommand(t, "8 9 | 1 | 0", "dropsite 0", "1", "9 | 0 | 1")
	checkCommand(t, "3 1 | none | 0", "best", "1", "3 1 | 1 | 1")
}

// The same Atlas stays as it is behind these commands.
func TestP12CommandsWithEditsThatAreNotPossible(t *testing.T) {
	for _, line := range []string{
		"open 0", "open 2", "open 3", "open -1", "open 999999", "open -999999", "close 1", "close 3", "close -1", "swap 0 0", "swap 0 2", "swap 1 0", "swap 1 1", "swap 0 3", "swap 3 1", "swap -1 1", "swap 0 -1",
		"cost 1 100", "cost 1 -1", "cost 3 0", "cost -1 0", "length 0 2 100", "length 0 2 -1", "length 2 0 1", "length 0 3 1", "length -1 0 1", "length 0 -1 1",
		"site 7 8", "site 7", "site 7 8 9 10", "site 100 8 9", "site -1 8 9", "site 7 100 9", "site 7 8 -1", "client", "client 7 8", "client 7 8 9 10", "client 7 8 100", "client -1 8 9",
		"dropsite 0", "dropsite 2", "dropsite 3", "dropsite -1", "dropclient 2", "dropclient -1",
	} {
		checkCommand(t, twoOpen, line, "?", "")
	}
	for _, c := range [][2]string{
		{"8 | none | 0", "close 0"}, {"8 | none | 0", "improve"}, {"8 | none | 0", "swap 0 0"}, {"8 | none | 0", "dropsite 0"}, {"8 | none | 0", "dropclient 0"}, {"8 | none | 0", "length 0 0 0"}, {"8 | none | 0", "client"},
		{"8 | none | 0", "site 1 1"}, {"8 | none | 0", "site"}, {fullMap + " | none | 0", "site 1 1 1 1 1 1 1 1"}, {fullMap + " | none | 0", "client 1 1 1 1 1 1 1"}, {"8 | 0 | 1000", "best"}, {"8 | 0 | 1000", "improve"},
	} {
		checkCommand(t, c[0], c[1], "?", "")
	}
}

func TestP12CommandsWithoutEditsByHand(t *testing.T) {
	for before, pairs := range map[string][]string{
		"4 3 / 1 5 / 6 2 | 0 | 1000": {
			"total", "11", "gap", "1", "service", "7", "reach", "6", "served", "0 0", "metric", "yes", "field", "4 3 / 1 5 / 6 2", "prices", "5 5", "growth", "0 1", "local", "no", "unbeaten", "0 1",
			"median 1", "0", "median 2", "0 1", "median 0", "?", "median 3", "?", "median -1", "?", "centres 1", "1", "centres 2", "0 1", "centres 0", "?", "centres 3", "?", "centres -1", "?",
			"far 0", "0 1", "far 4", "0 1", "far 5", "0", "far 99", "0", "far 999999", "0", "far -1", "?",
		},
		"4 3 / 1 5 / 6 2 | 1 | 0":   {"total", "10", "gap", "0", "service", "7", "reach", "5", "served", "1 1", "local", "yes"},
		"4 3 / 1 5 / 6 2 | 0 1 | 0": {"total", "10", "gap", "0", "service", "3", "reach", "2", "served", "0 1", "local", "yes"},
		"4 3 / 1 5 / 6 2 | none | 0": {
			"total", "?", "gap", "?", "service", "?", "reach", "?", "served", "?", "local", "?", "metric", "yes", "field", "4 3 / 1 5 / 6 2", "prices", "5 5", "growth", "0 1", "unbeaten", "0 1", "median 1", "0", "centres 1", "1", "far 4", "0 1",
		},
		"3 1 | 0 | 0": {
			"total", "3", "gap", "3", "service", "0", "reach", "0", "served", "none", "metric", "yes", "field", "3 1", "prices", "none", "growth", "1", "local", "no", "unbeaten", "0 1", "median 1", "0", "centres 2", "0", "far 0", "none",
		},
		"0 | none | 0": {"total", "?", "field", "0", "growth", "0", "median 1", "0", "median 2", "?", "prices", "none", "far 3", "none", "unbeaten", "0"},
		"0 0 0 / 1 2 3 / 3 1 2 / 2 3 1 | 0 1 2 | 0": {"unbeaten", "none", "served", "0 1 2", "service", "3"},
		"0 0 / 0 9 / 0 0 | 1 | 0":                   {"metric", "no", "service", "9", "served", "1 1"},
		"0 9 / 50 0 | 0 | 0":                        {"gap", "41", "prices", "9", "total", "50", "served", "0"},
	} {
		for at := 0; at < len(pairs); at += 2 {
			checkCommand(t, before, pairs[at], pairs[at+1], "")
		}
	}
}

// Every command fails with one argument too few and with one too many, and with
// numbers and spaces that are not as they should be.
func TestP12MalformedCommands(t *testing.T) {
	for _, fine := range []string{
		"open 1", "close 0", "swap 0 1", "cost 1 1", "length 0 1 1", "site 7 8 9", "client 7 8 9", "dropsite 1", "dropclient 1", "improve", "best", "total", "gap", "service", "reach", "served", "metric", "field", "prices", "growth", "local", "median 1", "centres 1", "far 1", "unbeaten",
	} {
		if _, reply := impl.ExecuteCommand(impl.Console{Atlas: atlasOf(twoOpen)}, fine); reply == "?" {
			t.Errorf("%q gives %q", fine, reply)
		}
		words := strings.Split(fine, " ")
		bad := []string{
			fine + " 0", fine + " 1", fine + " ", " " + fine, fine + "  ", strings.ToUpper(fine), fine + ".", fine + " x", fine + " 0 0 0 0 0 0 0 0", "x" + fine, fine + "x", fine[1:],
		}
		for place := 1; place < len(words); place++ {
			for _, word := range []string{"", "x", "01", "00", "+1", "-0", "1.0", "1e0", "0x1", "1000000", "-1000000", "9223372036854775808", "18446744073709551617", "4294967296", "--1", "1-", "none", "'1'", "1/1", "-"} {
				changed := slices.Clone(words)
				changed[place] = word
				bad = append(bad, strings.Join(changed, " "))
			}
			bad = append(bad, strings.Join(words[:place], " ")+"  "+strings.Join(words[place:], " "), strings.Join(words[:place], " ")+","+strings.Join(words[place:], " "))
			bad = append(bad, strings.Join(slices.Delete(slices.Clone(words), place, place+1), " "))
		}
		for _, line := range bad {
			checkCommand(t, twoOpen, line, "?", "")
		}
	}
	for _, line := range []string{" ", "  ", "?", "0", "1 2", "what", "-", "none", "yes", "no", "undo", "totals", "tota", "total?", "Total", "TOTAL", "reset", "site8", "opens 1", "open1", "op en 1", strings.Repeat("x", 160), strings.Repeat(" ", 160), "open " + strings.Repeat("1", 155), "client" + strings.Repeat(" 1", 77), "client" + strings.Repeat(" 999999", 22)} {
		checkCommand(t, twoOpen, line, "?", "")
	}
}

// A field as large as it may be has the longest reply that there is.
func TestP12LongestReplies(t *testing.T) {
	row := "99 99 99 99 99 99 99"
	text := row + strings.Repeat(" / "+row, 7)
	if len(text) != 181 {
		t.Errorf("the text of the largest Field has %d bytes", len(text))
	}
	checkCommand(t, text+" | 0 1 2 3 4 5 6 | 0", "field", text, "")
	checkCommand(t, text+" | 0 1 2 3 4 5 6 | 0", "total", "1386", "")
	checkCommand(t, text+" | 0 1 2 3 4 5 6 | 0", "served", "0 0 0 0 0 0 0", "")
	checkCommand(t, text+" | 0 1 2 3 4 5 6 | 0", "best", "0", text+" | 0 | 1")
}

// refusedLines gives texts that are no commands.
func refusedLines() []string {
	list := []string{"", strings.Repeat("x", 161), strings.Repeat("x", 4001), "total\n", "\n", "total\r", "open\t1", "total#", "#", "total@", "@", "open 1@0", "0 total@?#401684", "\x00", "total\x00", "\u00e9", "\x7f", "\x1f", "\xff", "total\u00a0"}
	for n := range 256 {
		if b := string([]byte{byte(n)}); n < 32 || n > 126 || b == "#" || b == "@" {
			list = append(list, b, "total"+b, b+"total", "open"+b+"1")
		}
	}
	return list
}

func TestP12RefusedCommands(t *testing.T) {
	fine := impl.Console{Atlas: atlasOf(twoOpen), Log: logOf(1, "total", "?", "gap", "1")}
	full, wrongLog, wrongAtlas := fine, fine, fine
	full.Log = logOf(30, slices.Repeat([]string{"gap", "?"}, 60)...)
	wrongLog.Log.Count++
	wrongAtlas.Atlas.Open = []int{2, 0}
	both := wrongAtlas
	both.Log = full.Log
	more := full
	more.Log = logOf(30, slices.Repeat([]string{"gap", "?"}, 61)...)
	for _, line := range append(refusedLines(), "total", "open 1", "what", " ") {
		for _, c := range []impl.Console{wrongLog, wrongAtlas, both, more, {}, {Log: full.Log}} {
			checkExecuted(t, c, line, c, "no")
		}
		if !slices.Contains(refusedLines(), line) {
			checkExecuted(t, full, line, full, "full")
			continue
		}
		checkExecuted(t, fine, line, fine, "bad")
		checkExecuted(t, full, line, full, "bad")
	}
}

// checkWalk executes commands one after the other, and compares each reply and
// each Console with those of the model.
func checkWalk(t *testing.T, x impl.Atlas, n *numbers, count int) impl.Console {
	t.Helper()
	c, ok := impl.NewConsole(x)
	if !ok {
		t.Errorf("NewConsole of %q fails", atlasText(x))
	}
	want := impl.Console{Atlas: x}
	for range count {
		line := n.lineFrom(want.Atlas)
		next, reply := impl.ExecuteCommand(c, line)
		wantNext, wantReply := executeModel(want, line)
		if reply != wantReply || consoleText(next) != consoleText(wantNext) || impl.IsValidConsole(next) != (isAtlasModel(next.Atlas) && isLogModel(next.Log)) {
			t.Errorf("%q in %s gives %q and %s; want %q and %s", line, consoleText(want), reply, consoleText(next), wantReply, consoleText(wantNext))
			return c
		}
		c, want = next, wantNext
	}
	return c
}

func TestP12CommandsInManyAtlases(t *testing.T) {
	n := &numbers{state: 201}
	for _, x := range append(namedAtlases(), atlasesOfAllSizes(202)...) {
		c := checkWalk(t, x, n, 62)
		if c.Log.Count != 60 {
			t.Errorf("the log of a walk from %q has %d records", atlasText(x), c.Log.Count)
		}
	}
}

// Each command that is given alone is answered as by the model.
func TestP12AnswersInManyAtlases(t *testing.T) {
	for _, x := range append(namedAtlases(), atlasesOfAllSizes(204)...) {
		for command, shape := range commandShapes() {
			for _, arguments := range []string{"", " 0", " 1", " 2", " 7", " 8", " 20", " -1", " 0 1", " 1 0", " 0 0 5"} {
				line := command + arguments
				want, reply := executeModel(impl.Console{Atlas: x}, line)
				checkExecuted(t, impl.Console{Atlas: x}, line, want, reply)
				if shape == "" && arguments != "" {
					break
				}
			}
		}
	}
}
