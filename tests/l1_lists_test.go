package tests

import (
	"slices"
	"strings"
	"testing"

	"loop.example/g01110/impl"
)

func checkSplit(t *testing.T, s, sep string, want []string) {
	t.Helper()
	if parts, ok := impl.SplitString(s, sep); !ok || !slices.Equal(parts, want) {
		t.Errorf("SplitString(%.40q, %q) = %d parts, %v", s, sep, len(parts), ok)
	}
}

func checkNoSplit(t *testing.T, s, sep string) {
	t.Helper()
	if parts, ok := impl.SplitString(s, sep); ok || len(parts) != 0 {
		t.Errorf("SplitString(%.40q, %q) = %d parts, %v; want none, false", s, sep, len(parts), ok)
	}
}

func checkJoin(t *testing.T, parts []string, sep, want string) {
	t.Helper()
	before := slices.Clone(parts)
	if s, ok := impl.JoinStrings(parts, sep); !ok || s != want {
		t.Errorf("JoinStrings(%.40q, %q) = %.40q, %v", parts, sep, s, ok)
	}
	if !slices.Equal(parts, before) {
		t.Errorf("JoinStrings modified %.40q", before)
	}
}

func checkNoJoin(t *testing.T, parts []string, sep string) {
	t.Helper()
	before := slices.Clone(parts)
	if s, ok := impl.JoinStrings(parts, sep); ok || s != "" {
		t.Errorf("JoinStrings of %d parts by %q = %.40q, %v; want none, false", len(parts), sep, s, ok)
	}
	if !slices.Equal(parts, before) {
		t.Error("JoinStrings modified its parts")
	}
}

func TestP1SplitAndJoin(t *testing.T) {
	for _, c := range []struct {
		s, sep string
		parts  []string
	}{
		{"a,,b", ",", []string{"a", "", "b"}},
		{"a;;b", ";", []string{"a", "", "b"}},
		{"", ",", []string{""}},
		{",", ",", []string{"", ""}},
		{",,,", ",", []string{"", "", "", ""}},
		{",a", ",", []string{"", "a"}},
		{"a,", ",", []string{"a", ""}},
		{",a,", ",", []string{"", "a", ""}},
		{"abc", ",", []string{"abc"}},
		{"a,b;c", ";", []string{"a,b", "c"}},
		{"1 -2 03", " ", []string{"1", "-2", "03"}},
		{"one\ntwo\n", "\n", []string{"one", "two", ""}},
		{"a\x00b", "\x00", []string{"a", "b"}},
		{"aaa", "a", []string{"", "", "", ""}},
		{"a#1#2", "#", []string{"a", "1", "2"}},
		{"\u00e9", "\xa9", []string{"\xc3", ""}},
		{"\xff\xfe\xff", "\xff", []string{"", "\xfe", ""}},
		{"\u20ac,\U0001f600", ",", []string{"\u20ac", "\U0001f600"}},
	} {
		checkSplit(t, c.s, c.sep, c.parts)
		checkJoin(t, c.parts, c.sep, c.s)
	}
}

func TestP1SeparatorsOfNotOneByte(t *testing.T) {
	for _, sep := range []string{"", ",,", ", ", "\u00e9", "\u20ac", strings.Repeat(",", 5000)} {
		for _, s := range []string{"", "a", "a,,b", "a, b", "a\u00e9b"} {
			checkNoSplit(t, s, sep)
			checkNoJoin(t, []string{s, "c"}, sep)
		}
		checkNoJoin(t, nil, sep)
	}
}

func TestP1JoinRefuses(t *testing.T) {
	for _, parts := range [][]string{
		nil, {}, {","}, {"a,b"}, {"a", "b,"}, {",a", "b"}, {"a", ",", "b"}, {"a", "b", "c,"}, {"\xff,\xff"},
		{strings.Repeat("a", 3000) + ","},
	} {
		checkNoJoin(t, parts, ",")
	}
	checkNoJoin(t, []string{"a", "\u00e9"}, "\xa9")
	checkNoJoin(t, []string{"\x00"}, "\x00")
}

func TestP1SplitLongTexts(t *testing.T) {
	long := strings.Repeat("a", impl.MaxString)
	checkSplit(t, long, ",", []string{long})
	checkSplit(t, long[:3998]+",b", ",", []string{long[:3998], "b"})
	checkSplit(t, long, "a", make([]string, impl.MaxString+1))
	for _, s := range []string{long + "a", long + ",", long[:3999] + ",b", "," + long, strings.Repeat("a,", 100000)} {
		checkNoSplit(t, s, ",")
	}
}

func TestP1JoinLongTexts(t *testing.T) {
	long := strings.Repeat("a", impl.MaxString)
	checkJoin(t, []string{long}, ",", long)
	checkJoin(t, []string{long[:3998], "b"}, ",", long[:3998]+",b")
	checkJoin(t, []string{long[:3999], ""}, ",", long[:3999]+",")
	checkJoin(t, make([]string, impl.MaxString+1), ",", strings.Repeat(",", impl.MaxString))
	for _, parts := range [][]string{
		{long + "a"}, {long, ""}, {"", long}, {long[:3999], "b"}, {long[:2000], long[:2000]}, {long, long},
		make([]string, impl.MaxString+2), make([]string, 100000), {strings.Repeat("a", 100000), "b"},
	} {
		checkNoJoin(t, parts, ",")
	}
}

// texts gives the same varied texts at each call, without a random source.
func texts(count int, bytes string, size int) []string {
	list := []string{}
	state := uint32(1)
	next := func(below int) int {
		state = state*1664525 + 1013904223
		return int(state>>8) % below
	}
	for range count {
		b := make([]byte, next(size+1))
		for i := range b {
			b[i] = bytes[next(len(bytes))]
		}
		list = append(list, string(b))
	}
	return list
}

func allBytes() string {
	b := make([]byte, 256)
	for i := range b {
		b[i] = byte(i)
	}
	return string(b)
}

func TestP1SplitThenJoin(t *testing.T) {
	for _, s := range append(texts(200, "ab,; ", 12), texts(200, allBytes(), 600)...) {
		for i := range 256 {
			sep := string([]byte{byte(i)})
			parts, ok := impl.SplitString(s, sep)
			if !ok || !slices.Equal(parts, strings.Split(s, sep)) {
				t.Fatalf("SplitString(%q, %q) = %q, %v", s, sep, parts, ok)
			}
			if joined, fine := impl.JoinStrings(parts, sep); !fine || joined != s {
				t.Fatalf("%q split at %q is joined to %q, %v", s, sep, joined, fine)
			}
		}
	}
}

func TestP1JoinThenSplit(t *testing.T) {
	parts := texts(60, "ab; \xff", 8)
	for from := range parts {
		for to := from + 1; to <= len(parts); to++ {
			s, ok := impl.JoinStrings(parts[from:to], ",")
			back, fine := impl.SplitString(s, ",")
			if !ok || !fine || !slices.Equal(back, parts[from:to]) {
				t.Fatalf("%q is joined to %q, %v and split to %q, %v", parts[from:to], s, ok, back, fine)
			}
		}
	}
}

func TestP13SplitResultsAreNew(t *testing.T) {
	for _, s := range []string{"a,,b", "", "a", ","} {
		first, _ := impl.SplitString(s, ",")
		want := slices.Clone(first)
		for i := range first {
			first[i] = "changed"
		}
		_ = append(first[:0], "changed", "changed")
		checkSplit(t, s, ",", want)
	}
}
