package tests

import (
	"strconv"
	"strings"
	"testing"

	"loop.example/g01110/impl"
)

func checkChecksum(t *testing.T, s string, want int, fine bool) {
	t.Helper()
	if n, ok := impl.Checksum(s); n != want || ok != fine {
		t.Errorf("Checksum(%.40q) = %d, %v; want %d, %v", s, n, ok, want, fine)
	}
}

func checkNoAppend(t *testing.T, s string) {
	t.Helper()
	if sealed, ok := impl.AppendChecksum(s); ok || sealed != "" {
		t.Errorf("AppendChecksum(%.40q) = %.40q, %v; want none, false", s, sealed, ok)
	}
}

func checkNoVerify(t *testing.T, s string) {
	t.Helper()
	if text, ok := impl.VerifyChecksum(s); ok || text != "" {
		t.Errorf("VerifyChecksum(%.40q) = %.40q, %v; want none, false", s, text, ok)
	}
}

// checkSealed checks that want is the sealed s, and that it is opened to s.
func checkSealed(t *testing.T, s, want string) {
	t.Helper()
	if sealed, ok := impl.AppendChecksum(s); !ok || sealed != want {
		t.Errorf("AppendChecksum(%.40q) = %.40q, %v; want %.40q", s, sealed, ok, want)
	}
	if text, ok := impl.VerifyChecksum(want); !ok || text != s {
		t.Errorf("VerifyChecksum(%.40q) = %.40q, %v; want %.40q", want, text, ok, s)
	}
}

// sumOf is the checksum as the document tells it, for texts of any length.
func sumOf(s string) int {
	return sumFrom(7, s)
}

func sumFrom(h int, s string) int {
	for _, c := range []byte(s) {
		h = (41*h + int(c) + 1) % 999979
	}
	return h
}

func sealedOf(s string) string {
	return s + "#" + strconv.Itoa(sumOf(s))
}

// The numbers here were computed apart from the program and from sumOf.
func TestP1Checksum(t *testing.T) {
	for s, want := range map[string]int{
		"": 7, "a": 385, "ab": 15884, "ba": 15924, "\x00": 288, "\xff": 543, "a b": 648637, "open 1": 130762,
		"hello, world": 588687, "h\u00e9\u00e9": 524345, allBytes(): 750103,
		strings.Repeat("x", 4000): 185545, strings.Repeat("\xff", 4000): 55992,
	} {
		checkChecksum(t, s, want, true)
	}
	for _, s := range append(texts(200, allBytes(), 4000), "#", "a#385", "##") {
		checkChecksum(t, s, sumOf(s), true)
	}
}

func TestP1ChecksumOfLongTexts(t *testing.T) {
	for _, size := range []int{4001, 4002, 8000, 100000} {
		checkChecksum(t, strings.Repeat("x", size), 0, false)
		checkNoAppend(t, strings.Repeat("x", size))
		checkNoVerify(t, strings.Repeat("x", size))
	}
}

func TestP1AppendAndVerify(t *testing.T) {
	for s, want := range map[string]string{
		"": "#7", "a": "a#385", "ab": "ab#15884", "ba": "ba#15924", "\x00": "\x00#288", "\xff": "\xff#543",
		"a b": "a b#648637", "h\u00e9\u00e9": "h\u00e9\u00e9#524345", "open 1": "open 1#130762",
	} {
		checkSealed(t, s, want)
	}
	for _, s := range texts(300, strings.ReplaceAll(allBytes(), "#", ""), 300) {
		checkSealed(t, s, sealedOf(s))
	}
}

func TestP1AppendRefusesMarks(t *testing.T) {
	for _, s := range []string{"#", "a#", "#a", "a#b", "##", "a#385", "#7", strings.Repeat("x", 3000) + "#"} {
		checkNoAppend(t, s)
		checkNoVerify(t, sealedOf(s))
	}
}

func TestP1VerifyRefuses(t *testing.T) {
	for _, s := range []string{
		"", "a", "#", "##", "a#", "#385", "a#384", "a#386", "a#0385", "a#+385", "a#-385", "a# 385", "a#385 ", "a#385\n",
		" a#385", "a #385", "A#385", "b#385", "a##385", "a#385#", "a#385#1", "a#385#385", "a385", "a#38", "a#3855",
		"#07", "#6", "#8", "#-7", "#", "7", "a#" + strconv.Itoa(385+999979), "a#" + strconv.Itoa(385-999979),
		"a#\u0663\u0668\u0665", "a#3x5", "a#0x181",
	} {
		checkNoVerify(t, s)
	}
}

// textWithDigits gives a text of this size whose checksum has this many digits.
func textWithDigits(t *testing.T, size, digits int) string {
	t.Helper()
	start := strings.Repeat("x", size-4)
	sum := sumOf(start)
	for i := range 26 * 26 * 26 * 26 {
		end := string([]byte{byte('a' + i/17576), byte('a' + i/676%26), byte('a' + i/26%26), byte('a' + i%26)})
		if len(strconv.Itoa(sumFrom(sum, end))) == digits {
			return start + end
		}
	}
	t.Fatalf("no text of %d bytes with %d digits", size, digits)
	return ""
}

func TestP1LongestSealedTexts(t *testing.T) {
	for digits := 4; digits <= 6; digits++ {
		fits := textWithDigits(t, impl.MaxString-1-digits, digits)
		checkSealed(t, fits, sealedOf(fits))
		long := textWithDigits(t, impl.MaxString-digits, digits)
		checkNoAppend(t, long)
		checkNoVerify(t, sealedOf(long))
	}
	full := strings.Repeat("x", impl.MaxString)
	for _, s := range []string{full, full[1:], full[2:], full + "x"} {
		checkNoAppend(t, s)
		checkNoVerify(t, sealedOf(s))
	}
}

func checkChangesDetected(t *testing.T, sealed string, at int, step int) {
	t.Helper()
	b := []byte(sealed)
	right := b[at]
	for c := 0; c < 256; c += step {
		if byte(c) == right {
			continue
		}
		b[at] = byte(c)
		if text, ok := impl.VerifyChecksum(string(b)); ok || text != "" {
			t.Fatalf("byte %d of %.40q changed to %d is not detected: %.40q, %v", at, sealed, c, text, ok)
		}
	}
}

func TestP1AnyChangedByteIsDetected(t *testing.T) {
	list := []string{"", "a", "ab", "0", "7", "-0", "open 1@0 1", "\x00", "\xff\xfe", "h\u00e9\u20ac", strings.ReplaceAll(allBytes(), "#", "")}
	list = append(list, texts(20, strings.ReplaceAll(allBytes(), "#", ""), 40)...)
	for _, s := range list {
		sealed, ok := impl.AppendChecksum(s)
		if !ok {
			t.Fatalf("AppendChecksum(%q) fails", s)
		}
		for at := range len(sealed) {
			checkChangesDetected(t, sealed, at, 1)
		}
	}
}

func TestP1AnyChangedByteOfALongTextIsDetected(t *testing.T) {
	sealed, ok := impl.AppendChecksum(textWithDigits(t, impl.MaxString-7, 6))
	if !ok || len(sealed) != impl.MaxString {
		t.Fatal("AppendChecksum fails")
	}
	for at := 0; at < len(sealed); at += 7 {
		checkChangesDetected(t, sealed, at, 37)
	}
	for at := len(sealed) - 8; at < len(sealed); at++ {
		checkChangesDetected(t, sealed, at, 1)
	}
}

// A byte of a sealed text that is missing or added makes another text of it.
func TestP1ShortenedTextsAreRefused(t *testing.T) {
	sealed := sealedOf("open 1@0 1")
	for end := range len(sealed) {
		checkNoVerify(t, sealed[:end])
	}
	for _, more := range []string{"0", " ", "#", "\n", "\x00"} {
		checkNoVerify(t, sealed+more)
	}
}

func TestP13SameResultsForSameArguments(t *testing.T) {
	for range 3 {
		checkFormat(t, -12, "-12", true)
		checkParse(t, "-12", -12, true)
		checkSplit(t, "a,,b", ",", []string{"a", "", "b"})
		checkJoin(t, []string{"a", "", "b"}, ";", "a;;b")
		checkChecksum(t, "a", 385, true)
		checkSealed(t, "a", "a#385")
		checkNoVerify(t, "a#384")
		if !impl.LessString("a", "ab") || impl.LessString("ab", "a") {
			t.Error("LessString")
		}
	}
}
