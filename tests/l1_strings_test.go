package tests

import (
	"bytes"
	"math"
	"regexp"
	"slices"
	"strings"
	"testing"

	"loop.example/g01183/impl"
)

// textsOf returns all strings of at most most bytes of an alphabet.
func textsOf(alphabet string, most int) []string {
	all := []string{""}
	for first := 0; most > 0; most-- {
		last := len(all)
		for _, s := range all[first:last] {
			for i := range len(alphabet) {
				all = append(all, s+alphabet[i:i+1])
			}
		}
		first = last
	}
	return all
}

// listsOf returns all lists of 1 to most elements of a choice.
func listsOf[T any](choice []T, most int) [][]T {
	all := [][]T{}
	for _, one := range choice {
		all = append(all, []T{one})
	}
	for first := 0; most > 1; most-- {
		last := len(all)
		for _, l := range all[first:last] {
			for _, one := range choice {
				all = append(all, append(slices.Clone(l), one))
			}
		}
		first = last
	}
	return all
}

// checksumByRule computes a checksum as chapter 1 says it, beside the program.
func checksumByRule(s string) int {
	h := uint64(7)
	for _, c := range []byte(s) {
		h = (41*h + uint64(c) + 1) % 999979
	}
	return int(h)
}

// textWithChecksum returns a string of size bytes whose checksum is in low..high.
func textWithChecksum(t *testing.T, size int, low int, high int) string {
	t.Helper()
	head := strings.Repeat("x", size-4)
	for i := range 41 * 41 * 41 * 41 {
		// Four digits to the base of the checksum, the highest changing first, reach all sums soon.
		s := head + string([]byte{byte('A' + i%41), byte('A' + i/41%41), byte('A' + i/1681%41), byte('A' + i/68921)})
		if sum := checksumByRule(s); low <= sum && sum <= high {
			return s
		}
	}
	t.Fatal("no text", size, low, high)
	return ""
}

// awkwardTexts are strings on which functions of strings may trip.
func awkwardTexts() []string {
	return []string{"", "#", "##", "#7", "-", "+", "a#385", "\x00", "\xff", "\xc3", "\xc3\xa9", "\xff\xfe#0",
		strings.Repeat("#", impl.MaxString), strings.Repeat("9", impl.MaxString), strings.Repeat(",", impl.MaxString),
		strings.Repeat("9", impl.MaxString+1), strings.Repeat(",", impl.MaxString+1), strings.Repeat("\xff", 1<<20)}
}

func TestPromise1EveryDecimalRoundTrips(t *testing.T) {
	for n := -impl.MaxDecimal; n <= impl.MaxDecimal; n++ {
		s, ok := impl.FormatInt(n)
		if !ok {
			t.Fatal("not formatted", n)
		}
		if m, ok := impl.ParseInt(s); !ok || m != n {
			t.Fatal("not the same", n, s, m, ok)
		}
	}
}

func TestPromise1FormatInt(t *testing.T) {
	for n, want := range map[int]string{0: "0", 7: "7", 10: "10", -1: "-1", -12: "-12", 100: "100", -9990: "-9990",
		999998: "999998", 999999: "999999", -999998: "-999998", -999999: "-999999"} {
		if s, ok := impl.FormatInt(n); !ok || s != want {
			t.Error("formatted", n, s, ok)
		}
	}
	for _, n := range []int{1000000, -1000000, 1000001, 1 << 32, 1<<32 + 5, -1 << 32, math.MaxInt, math.MinInt} {
		if s, ok := impl.FormatInt(n); ok || s != "" {
			t.Error("beyond the bounds", n, s, ok)
		}
	}
}

func TestPromise1ParseIntReadsDecimalsAlone(t *testing.T) {
	decimal := regexp.MustCompile(`^(0|-?[1-9][0-9]{0,5})$`)
	texts := textsOf("-+019_x .\xff", 4)
	for _, head := range []string{"99999", "-99999", "00000", "-10000", "0x", "+12345"} {
		for _, tail := range textsOf("09-x", 2) {
			texts = append(texts, head+tail)
		}
	}
	for _, s := range texts {
		n, ok := impl.ParseInt(s)
		if ok != decimal.MatchString(s) {
			t.Errorf("parsed %q: %d %t", s, n, ok)
		}
		if back, fine := impl.FormatInt(n); ok && (!fine || back != s) || !ok && n != 0 {
			t.Errorf("parsed %q to %d", s, n)
		}
	}
}

func TestPromise1ParseIntRefusesOthers(t *testing.T) {
	for _, s := range []string{"", "-", "+", "-0", "+0", "+1", "00", "01", "-01", "007", "--1", "- 1", " 1", "1 ", "1\n", "1\x00",
		"1000000", "-1000000", "0999999", "9223372036854775807", "-9223372036854775808", "18446744073709551617",
		"1_000", "0b1", "0x1f", "1e3", "1.0", "a", "\xd9\xa3", "\xe2\x88\x921", strings.Repeat("1", 1<<20)} {
		if n, ok := impl.ParseInt(s); ok || n != 0 {
			t.Errorf("no decimal %.20q: %d %t", s, n, ok)
		}
	}
}

func TestPromise1EverySplitTextIsJoinedAgain(t *testing.T) {
	for _, s := range textsOf("a,;\xff\xc3\xa9", 5) {
		for _, sep := range []string{",", ";", "a", "\xff", "\xc3", "\xa9", "x"} {
			parts, ok := impl.SplitString(s, sep)
			if !ok || !slices.Equal(parts, strings.Split(s, sep)) || len(parts) != strings.Count(s, sep)+1 {
				t.Fatalf("split %q at %q: %q %t", s, sep, parts, ok)
			}
			if back, ok := impl.JoinStrings(parts, sep); !ok || back != s {
				t.Fatalf("joined %q with %q: %q %t", parts, sep, back, ok)
			}
		}
	}
}

func TestPromise1EveryJoinedListIsSplitAgain(t *testing.T) {
	for _, parts := range listsOf([]string{"", "a", "bc", "a,b", ",", "\xc3\xa9", "\xff"}, 4) {
		for _, sep := range []string{",", ";", "\xc3", "\xa9", "\xff"} {
			apart := true
			for _, part := range parts {
				apart = apart && !strings.Contains(part, sep)
			}
			s, ok := impl.JoinStrings(parts, sep)
			if ok != apart || ok && s != strings.Join(parts, sep) || !ok && s != "" {
				t.Fatalf("joined %q with %q: %q %t", parts, sep, s, ok)
			}
			if back, fine := impl.SplitString(s, sep); ok && (!fine || !slices.Equal(back, parts)) {
				t.Fatalf("split %q at %q: %q %t", s, sep, back, fine)
			}
		}
	}
}

func TestPromise1EachSingleByteSeparates(t *testing.T) {
	for b := range 256 {
		sep, other := string([]byte{byte(b)}), string([]byte{byte(b + 1)})
		parts := []string{"", other + other, other, "", ""}
		s, ok := impl.JoinStrings(parts, sep)
		if !ok || s != sep+other+other+sep+other+sep+sep {
			t.Errorf("joined with %q: %q %t", sep, s, ok)
		}
		if back, ok := impl.SplitString(s, sep); !ok || !slices.Equal(back, parts) {
			t.Errorf("split at %q: %q %t", sep, back, ok)
		}
	}
}

func TestPromise1OtherSeparatorsFail(t *testing.T) {
	for _, sep := range []string{"", ",,", ", ", "ab", "\xc3\xa9", "\xe2\x82\xac", strings.Repeat(",", 5000)} {
		for _, s := range []string{"", "a", "a,b", ",,", "\xc3\xa9"} {
			if parts, ok := impl.SplitString(s, sep); ok || len(parts) != 0 {
				t.Errorf("split %q at %.20q: %q", s, sep, parts)
			}
			if joined, ok := impl.JoinStrings([]string{s, "x"}, sep); ok || joined != "" {
				t.Errorf("joined with %.20q: %q", sep, joined)
			}
		}
	}
}

func TestPromise1SplitStringUpToMaxString(t *testing.T) {
	for _, unit := range []string{",", "a", "\xff", "a,"} {
		for _, size := range []int{impl.MaxString - 2, impl.MaxString, impl.MaxString + 1, impl.MaxString + 2, 1 << 20} {
			s := strings.Repeat(unit, size)[:size]
			parts, ok := impl.SplitString(s, ",")
			if ok != (size <= impl.MaxString) {
				t.Errorf("split %d bytes: %t", size, ok)
			}
			if ok && !slices.Equal(parts, strings.Split(s, ",")) || !ok && len(parts) != 0 {
				t.Errorf("split %d bytes: %d parts", size, len(parts))
			}
			if back, fine := impl.JoinStrings(parts, ","); ok && (!fine || back != s) {
				t.Errorf("joined %d parts: %d bytes", len(parts), len(back))
			}
		}
	}
}

func TestPromise1JoinStringsUpToMaxString(t *testing.T) {
	long := strings.Repeat("y", impl.MaxString)
	for size, parts := range map[int][]string{
		4000: {long}, 4001: {long + "y"}, 3999: {long[1:]},
		4002: {"y", long}, 4003: {"", "", "", long}, 3998: {long[4:], "", "y"},
	} {
		s, ok := impl.JoinStrings(parts, ",")
		if ok != (size <= impl.MaxString) || ok && s != strings.Join(parts, ",") || !ok && s != "" {
			t.Errorf("joined %d bytes: %d %t", size, len(s), ok)
		}
	}
	for count := impl.MaxString - 2; count <= impl.MaxString+3; count++ {
		s, ok := impl.JoinStrings(make([]string, count), ",")
		if ok != (count-1 <= impl.MaxString) || ok && s != strings.Repeat(",", count-1) || !ok && s != "" {
			t.Errorf("joined %d empty elements: %d bytes %t", count, len(s), ok)
		}
	}
	if s, ok := impl.JoinStrings([]string{long[2:], "", ""}, ","); !ok || len(s) != impl.MaxString {
		t.Errorf("joined with two separators: %d bytes %t", len(s), ok)
	}
	if s, ok := impl.JoinStrings([]string{long[1:], "", ""}, ","); ok || s != "" {
		t.Errorf("joined beyond the bound: %d bytes %t", len(s), ok)
	}
}

func TestPromise1JoinStringsRefusesOthers(t *testing.T) {
	long := strings.Repeat("y", impl.MaxString+1)
	for _, parts := range [][]string{nil, {}, {","}, {"a,"}, {",a"}, {"a", "b,c"}, {"a,b", "c"}, {"", "", ","},
		{long, ","}, {",", long}, {long[1:] + ","}} {
		if s, ok := impl.JoinStrings(parts, ","); ok || s != "" {
			t.Errorf("joined %d elements: %.20q", len(parts), s)
		}
	}
	if s, ok := impl.JoinStrings([]string{""}, ","); !ok || s != "" {
		t.Errorf("joined one empty element: %q %t", s, ok)
	}
	if parts, ok := impl.SplitString("", ","); !ok || !slices.Equal(parts, []string{""}) {
		t.Errorf("split the empty string: %q %t", parts, ok)
	}
}

func TestPromise1LessStringByBytes(t *testing.T) {
	texts := append(textsOf("aB\x00\xff\x80", 3), "\xc3\xa9", "z", "Z", "ab", "abc", "10", "9")
	for _, a := range texts {
		for _, b := range texts {
			if impl.LessString(a, b) != (bytes.Compare([]byte(a), []byte(b)) < 0) {
				t.Errorf("less %q %q", a, b)
			}
		}
	}
	long := strings.Repeat("a", impl.MaxString+5)
	if !impl.LessString(long, long+"a") || impl.LessString(long+"a", long) || impl.LessString(long, long) {
		t.Error("long strings")
	}
}

func TestPromise1Checksum(t *testing.T) {
	for s, want := range map[string]int{"": 7, "a": 385, "ab": 15884, "\x00": 288, "\xff": 543} {
		if sum, ok := impl.Checksum(s); !ok || sum != want {
			t.Errorf("sum of %q: %d %t", s, sum, ok)
		}
	}
	texts := append(textsOf("a#\x00\xff", 5), "put 0 0 3 0 0", "\xc3\xa9", strings.Repeat("\xff", impl.MaxString-1),
		strings.Repeat("#", impl.MaxString), strings.Repeat("\xff", impl.MaxString))
	for _, s := range texts {
		if sum, ok := impl.Checksum(s); !ok || sum != checksumByRule(s) {
			t.Errorf("sum of %.20q: %d %t", s, sum, ok)
		}
	}
	for _, size := range []int{impl.MaxString + 1, impl.MaxString + 2, 1 << 20} {
		if sum, ok := impl.Checksum(strings.Repeat("a", size)); ok || sum != 0 {
			t.Error("sum of a string that is too long", size, sum)
		}
	}
}

func TestPromise1SealedStringsAreOpened(t *testing.T) {
	texts := append(textsOf("a7 \n\x00\xff", 4), "a@b", "385", "-1", "\xc3\xa9",
		textWithChecksum(t, 3993, 100000, 999978), textWithChecksum(t, 3994, 10000, 99999), textWithChecksum(t, 3995, 1000, 9999))
	for _, s := range texts {
		sealed, ok := impl.AppendChecksum(s)
		digits, _ := impl.FormatInt(checksumByRule(s))
		if !ok || sealed != s+"#"+digits {
			t.Fatalf("sealed %.20q: %.40q %t", s, sealed, ok)
		}
		if back, ok := impl.VerifyChecksum(sealed); !ok || back != s {
			t.Fatalf("opened %.40q: %.20q %t", sealed, back, ok)
		}
	}
}

func TestPromise1AppendChecksumRefusesOthers(t *testing.T) {
	texts := []string{"#", "a#", "#a", "a#b", "a#385", "##", strings.Repeat("#", impl.MaxString),
		strings.Repeat("a", impl.MaxString-1), strings.Repeat("a", impl.MaxString), strings.Repeat("a", impl.MaxString+1),
		strings.Repeat("a", 1<<20),
		textWithChecksum(t, 3994, 100000, 999978), textWithChecksum(t, 3995, 10000, 99999), textWithChecksum(t, 3996, 1000, 9999)}
	for _, s := range texts {
		if sealed, ok := impl.AppendChecksum(s); ok || sealed != "" {
			t.Errorf("sealed %d bytes %.20q", len(s), s)
		}
		digits, _ := impl.FormatInt(checksumByRule(s))
		if back, ok := impl.VerifyChecksum(s + "#" + digits); ok || back != "" {
			t.Errorf("opened %d bytes %.20q", len(s), s)
		}
	}
}

func TestPromise1EachChangedByteIsDetected(t *testing.T) {
	for _, s := range []string{"", "a", "7", "12", "put 0 0 3 0 0@1", "\x00\xff\n", "\xc3\xa9", strings.Repeat("0", 60)} {
		sealed, ok := impl.AppendChecksum(s)
		if !ok {
			t.Fatalf("not sealed %q", s)
		}
		for at := range len(sealed) {
			for b := range 256 {
				changed := []byte(sealed)
				changed[at] = byte(b)
				if back, ok := impl.VerifyChecksum(string(changed)); ok != (string(changed) == sealed) || !ok && back != "" {
					t.Fatalf("opened %q of %q: %q %t", changed, sealed, back, ok)
				}
			}
		}
	}
}

func TestPromise1EachChangedByteOfTheLongestIsDetected(t *testing.T) {
	sealed, ok := impl.AppendChecksum(textWithChecksum(t, 3993, 100000, 999978))
	if !ok || len(sealed) != impl.MaxString {
		t.Fatal("not sealed", len(sealed), ok)
	}
	for at := range len(sealed) {
		for _, b := range []byte{1, 128, 255, '#' ^ sealed[at]} {
			changed := []byte(sealed)
			changed[at] ^= b
			if back, ok := impl.VerifyChecksum(string(changed)); string(changed) != sealed && (ok || back != "") {
				t.Fatalf("opened with another byte at %d", at)
			}
		}
	}
}

func TestPromise1VerifyChecksumRefusesOthers(t *testing.T) {
	for _, s := range []string{"", "a", "#", "a#", "#8", "#07", "# 7", "#7 ", "#+7", "#-7", "#7#", "##7", "7", "7#",
		"a#384", "a#0385", "a#+385", "a#-385", "a#385 ", "a# 385", "a#385\n", "a#385#", "a#385#1", "a#385#385", "b#385",
		"a385", "#385", "a#1000364", "a#-999594", "A#385", "aa#385"} {
		if back, ok := impl.VerifyChecksum(s); ok || back != "" {
			t.Errorf("opened %q: %q", s, back)
		}
	}
	for _, s := range textsOf("a#7", 6) {
		back, ok := impl.VerifyChecksum(s)
		if sealed, fine := impl.AppendChecksum(back); ok && (!fine || sealed != s) || !ok && back != "" {
			t.Errorf("opened %q: %q", s, back)
		}
	}
}

func TestPromise13StringsReturnForAllArguments(t *testing.T) {
	texts := awkwardTexts()
	for _, a := range texts {
		n, ok := impl.ParseInt(a)
		m, fine := impl.ParseInt(a)
		sum, summed := impl.Checksum(a)
		again, twice := impl.Checksum(a)
		if n != m || ok != fine || sum != again || summed != twice || !ok && n != 0 || !summed && sum != 0 {
			t.Errorf("numbers of %.20q", a)
		}
		sealed, ok := impl.AppendChecksum(a)
		opened, fine := impl.VerifyChecksum(a)
		if s, again := impl.AppendChecksum(a); s != sealed || again != ok || !ok && s != "" {
			t.Errorf("sealed %.20q", a)
		}
		if s, again := impl.VerifyChecksum(a); s != opened || again != fine || !fine && s != "" {
			t.Errorf("opened %.20q", a)
		}
		for _, b := range texts {
			parts, ok := impl.SplitString(a, b)
			more, fine := impl.SplitString(a, b)
			if !slices.Equal(parts, more) || ok != fine || !ok && len(parts) != 0 {
				t.Errorf("split %.20q at %.20q", a, b)
			}
			if impl.LessString(a, b) && impl.LessString(b, a) || impl.LessString(a, b) != impl.LessString(a, b) {
				t.Errorf("less %.20q %.20q", a, b)
			}
		}
	}
	for _, n := range []int{math.MinInt, -1 << 32, -1000000, -999999, 0, 999999, 1000000, 1 << 32, math.MaxInt} {
		s, ok := impl.FormatInt(n)
		if again, fine := impl.FormatInt(n); again != s || fine != ok || !ok && s != "" {
			t.Error("formatted", n, s, again)
		}
	}
}

func TestPromise13JoinStringsModifiesNothing(t *testing.T) {
	lists := [][]string{nil, {}, {""}, {"a"}, {"a", "", "b"}, {"b", "a", "b,"}, awkwardTexts(), make([]string, 1<<20)}
	for _, list := range lists {
		for _, sep := range awkwardTexts() {
			whole := append(slices.Clone(list), "behind", "it")
			before := slices.Clone(whole)
			s, ok := impl.JoinStrings(whole[:len(list)], sep)
			again, fine := impl.JoinStrings(whole[:len(list)], sep)
			if s != again || ok != fine || !ok && s != "" {
				t.Errorf("joined %d elements with %.20q", len(list), sep)
			}
			if !slices.Equal(whole, before) {
				t.Errorf("modified %d elements with %.20q", len(list), sep)
			}
		}
	}
}

func TestPromise13SplitStringResultsAreApart(t *testing.T) {
	s := "a,,b,c"
	first, _ := impl.SplitString(s, ",")
	want := slices.Clone(first)
	second, _ := impl.SplitString(s, ",")
	for i := range first {
		first[i] = "other"
	}
	if s != "a,,b,c" || !slices.Equal(second, want) {
		t.Error("a result shares memory", s, second)
	}
	if third, ok := impl.SplitString(s, ","); !ok || !slices.Equal(third, want) {
		t.Error("a result is kept", third)
	}
	joined, _ := impl.JoinStrings(second, ",")
	second[0] = "other"
	if joined != s {
		t.Error("joined strings share memory", joined)
	}
}
