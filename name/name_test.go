package name

import (
	"math"
	"strconv"
	"strings"
	"testing"

	"banyan/api"
	"banyan/letter"
)

// texts tells all texts of up to so many of the bytes.
func texts(most int, bytes string) []string {
	l := []string{""}
	for from := 0; most > 0; most-- {
		to := len(l)
		for _, s := range l[from:to] {
			for i := range len(bytes) {
				l = append(l, s+bytes[i:i+1])
			}
		}
		from = to
	}
	return l
}

func times(s string, n int) string { return strings.Repeat(s, n) }

// some tells names, and texts that are none, at the edges of what a name may be.
func some() []string {
	l := []string{
		"a", "b", "a~2", "a~1", "a~0", "a~02", "a~", "~", "~2", "~~2", "a~2~3", "...", ".a", "a.", "-", " ", "\n", "%", "%41", "lost+found",
		"\u20ac", "\xff", "\xc0\x80", "\xc0\xaf", "\xe2\x82", "\xe2\x82/", "\xe2\x82\x00", "a/b", "/", "//", "a\x00", "\x00",
	}
	for _, n := range []int{250, 251, 252, 253, 254, 255, 256, 257, 300} {
		l = append(l, times("a", n), times("a", n-1)+"\xff", times("a", n-3)+"\u20ac", times("a", n-4)+"\U0001f600", "a"+times("\u20ac", n/3), times("~2", n/2), times("/", n), times("a", n)+"/")
	}
	return append(l, texts(3, "a.~2/\x00%\x7f\xff")...)
}

// P2.1

func TestCheckByExample(t *testing.T) {
	for _, x := range []struct {
		s    string
		want api.Errno
	}{
		{"", api.Invalid},
		{".", api.Invalid},
		{"..", api.Invalid},
		{"/", api.Invalid},
		{"a/b", api.Invalid},
		{"a/", api.Invalid},
		{"\x00", api.Invalid},
		{"ab\x00", api.Invalid},
		{"\xe2\x82/", api.Invalid},
		{"\xe2\x82\x00", api.Invalid},
		{"a", api.OK},
		{"...", api.OK},
		{".a", api.OK},
		{". ", api.OK},
		{" ", api.OK},
		{"\\", api.OK},
		{"\xff", api.OK},
		{"\xc0\x80", api.OK},
		{"\xc0\xaf", api.OK},
		{"\u2215", api.OK},
		{"lost+found", api.OK},
		{times("a", 255), api.OK},
		{times("\u20ac", 85), api.OK},
		{times("a", 256), api.TooLong},
		{times("\u20ac", 86), api.TooLong},
		{times(".", 256), api.TooLong},
		{times("a", 256) + "/", api.Invalid},
		{times("a", 256) + "\x00", api.Invalid},
		{times("/", 256), api.Invalid},
	} {
		if got := Check(x.s); got != x.want {
			t.Errorf("Check(%q) = %d, not %d", x.s, got, x.want)
		}
	}
}

func TestCheckOfEachByte(t *testing.T) {
	for c := range 256 {
		want := api.OK
		if c == '/' || c == 0 {
			want = api.Invalid
		}
		s := string([]byte{byte(c)})
		for _, x := range []string{s + "x", "x" + s, "x" + s + "x", "\xe2\x82" + s} {
			if got := Check(x); got != want {
				t.Errorf("Check(%q) = %d, not %d", x, got, want)
			}
		}
	}
}

func TestDigits(t *testing.T) {
	for n, want := range map[int]string{
		0: "0", 1: "1", 9: "9", 10: "10", 100: "100", 4096: "4096", 1 << 48: "281474976710656",
		-1: "0", -10: "0", math.MinInt: "0", math.MaxInt: "9223372036854775807",
	} {
		if got := Digits(n); got != want {
			t.Errorf("Digits(%d) = %q, not %q", n, got, want)
		}
	}
}

func TestNumberByExample(t *testing.T) {
	for _, x := range []struct {
		s  string
		n  int
		ok bool
	}{
		{"0", 0, true},
		{"7", 7, true},
		{"10", 10, true},
		{"1000", 1000, true},
		{times("9", 18), 999999999999999999, true},
		{"1" + times("0", 17), 100000000000000000, true},
		{"1" + times("0", 18), 0, false},
		{times("9", 19), 0, false},
		{times("9", 64), 0, false},
		{"", 0, false},
		{"00", 0, false},
		{"01", 0, false},
		{"+1", 0, false},
		{"-1", 0, false},
		{"-0", 0, false},
		{" 1", 0, false},
		{"1 ", 0, false},
		{"1_0", 0, false},
		{"0x1", 0, false},
		{"1e3", 0, false},
		{"/", 0, false},
		{":", 0, false},
		{"1\x00", 0, false},
		{"1\xff", 0, false},
		{"\u0661", 0, false},
		{"1\uff11", 0, false},
	} {
		if n, ok := Number(x.s); n != x.n || ok != x.ok {
			t.Errorf("Number(%q) = %d, %v, not %d, %v", x.s, n, ok, x.n, x.ok)
		}
	}
}

func TestNumberIsThatOfWhichATextIsDigits(t *testing.T) {
	of := map[string]int{}
	for n := range 10000 {
		of[strconv.Itoa(n)] = n
	}
	for _, s := range texts(4, "0129/:a -\xff") {
		want, is := of[s]
		if n, ok := Number(s); n != want || ok != is {
			t.Errorf("Number(%q) = %d, %v, not %d, %v", s, n, ok, want, is)
		}
	}
	for s, n := range of {
		if got, ok := Number(s); got != n || !ok || Digits(n) != s {
			t.Errorf("%q is %d, %v, and back %q", s, got, ok, Digits(n))
		}
	}
}

// P2.2

func TestSuffixedByExample(t *testing.T) {
	for _, x := range []struct {
		s    string
		k    int
		want string
	}{
		{"a", 2, "a~2"},
		{"a", 3, "a~3"},
		{"a", 10, "a~10"},
		{"a~2", 2, "a~2~2"},
		{"", 2, "~2"},
		{"a", 1, "a~2"},
		{"a", 0, "a~2"},
		{"a", -1, "a~2"},
		{"a", math.MinInt, "a~2"},
		{"a", math.MaxInt, "a~9223372036854775807"},
		{times("a", 255), 10, times("a", 252) + "~10"},
		{times("a", 253), 2, times("a", 253) + "~2"},
		{times("a", 254), 2, times("a", 253) + "~2"},
		{times("a", 255), math.MaxInt, times("a", 235) + "~9223372036854775807"},
		{times("\u20ac", 85), 2, times("\u20ac", 84) + "~2"},
		{times("\u20ac", 84) + "a", 2, times("\u20ac", 84) + "a~2"},
		{times("\u20ac", 84) + "a", 10, times("\u20ac", 84) + "~10"},
		{times("a", 251) + "\U0001f600", 2, times("a", 251) + "~2"},
		{times("a", 300), 2, times("a", 253) + "~2"},
	} {
		if got := Suffixed(x.s, x.k); got != x.want {
			t.Errorf("Suffixed(%q, %d) = %q, not %q", x.s, x.k, got, x.want)
		}
	}
}

func TestSuffixed(t *testing.T) {
	for _, s := range some() {
		for _, k := range []int{-1, 0, 1, 2, 9, 10, 99, 100, 12345} {
			suffix := "~" + strconv.Itoa(max(k, 2))
			if got, want := Suffixed(s, k), letter.Fit(s, 255-len(suffix))+suffix; got != want {
				t.Errorf("Suffixed(%q, %d) = %q, not %q", s, k, got, want)
			}
		}
	}
}

func TestBase(t *testing.T) {
	for _, x := range []struct {
		s, base string
		k       int
	}{
		{"a~2", "a", 2},
		{"a~10", "a", 10},
		{"a~2~3", "a~2", 3},
		{"~~2", "~", 2},
		{"a~~2", "a~", 2},
		{"a~" + times("9", 18), "a", 999999999999999999},
		{"\xff~2", "\xff", 2},
		{"a~1" + times("0", 18), "a~1" + times("0", 18), 0},
		{"", "", 0},
		{"a", "a", 0},
		{"~", "~", 0},
		{"~2", "~2", 0},
		{"a~", "a~", 0},
		{"a~0", "a~0", 0},
		{"a~1", "a~1", 0},
		{"a~02", "a~02", 0},
		{"a~2 ", "a~2 ", 0},
		{"a~2b", "a~2b", 0},
		{"a~2~", "a~2~", 0},
		{"a~2~1", "a~2~1", 0},
		{"a~2~x", "a~2~x", 0},
		{"a~-2", "a~-2", 0},
		{"a2", "a2", 0},
	} {
		if base, k := Base(x.s); base != x.base || k != x.k {
			t.Errorf("Base(%q) = %q, %d, not %q, %d", x.s, base, k, x.base, x.k)
		}
	}
}

// baseOf seeks the two parts among all there might be, and holds them together.
func baseOf(s string) (string, int) {
	for at := 1; at < len(s); at++ {
		for k := 2; k < 1000; k++ {
			if s == s[:at]+"~"+strconv.Itoa(k) {
				return s[:at], k
			}
		}
	}
	return s, 0
}

func TestBaseOfAll(t *testing.T) {
	for _, s := range texts(5, "a~012") {
		base, k := Base(s)
		if b, n := baseOf(s); base != b || k != n {
			t.Errorf("Base(%q) = %q, %d, not %q, %d", s, base, k, b, n)
		}
	}
}

func TestBaseOfSuffixed(t *testing.T) {
	for _, s := range []string{"a", "~", "a~2", "\xff", times("a", 200)} {
		for _, k := range []int{2, 3, 10, 999999999999999999} {
			if base, n := Base(Suffixed(s, k)); base != s || n != k {
				t.Errorf("Base(Suffixed(%q, %d)) = %q, %d", s, k, base, n)
			}
		}
	}
}

// P2.3

func TestQuoteOfEachByte(t *testing.T) {
	for c := range 256 {
		s := string([]byte{byte(c)})
		want := s
		if c < 33 || c > 126 || c == '%' {
			want = strings.ToUpper(strconv.FormatInt(int64(c), 16))
			want = "%" + times("0", 2-len(want)) + want
		}
		for _, ahead := range []string{"", "x", "\xe2\x82", "%"} {
			if got := Quote(ahead + s); got != Quote(ahead)+want {
				t.Errorf("Quote(%q) = %q", ahead+s, got)
			}
		}
		if got, ok := Unquote(want); got != s || !ok {
			t.Errorf("Unquote(%q) = %q, %v", want, got, ok)
		}
	}
}

func TestQuoteByExample(t *testing.T) {
	for s, want := range map[string]string{
		"":           "",
		" ":          "%20",
		"a":          "a",
		"/b c/":      "/b%20c/",
		"%41":        "%2541",
		"\u20ac":     "%E2%82%AC",
		"\x00\xff":   "%00%FF",
		"~!\x7f":     "~!%7F",
		"\"\\+'":     "\"\\+'",
		"\n\r\t":     "%0A%0D%09",
		"lost+a\xab": "lost+a%AB",
	} {
		if got := Quote(s); got != want {
			t.Errorf("Quote(%q) = %q, not %q", s, got, want)
		}
		if got, ok := Unquote(want); got != s || !ok {
			t.Errorf("Unquote(%q) = %q, %v", want, got, ok)
		}
	}
}

func TestUnquoteOfWhatIsNone(t *testing.T) {
	for _, s := range []string{
		" ", "a b", "\n", "\x7f", "\x80", "\xff", "\u20ac", "\x00", "%", "a%", "%2", "%20%", "%2%20", "%%", "%%20", "%25%", "%g0", "%0g", "%0G", "%e2", "%E2%8a",
		"%41", "%61", "%21", "%7E", "%2F", "%24", "%26", "% 0", "%0 ", "%+0", "%-1", "%20 ", " %20", "%0", "%/0", "%0/", "%:0", "%0:", "%@0", "%0@",
	} {
		if got, ok := Unquote(s); got != "" || ok {
			t.Errorf("Unquote(%q) = %q, %v", s, got, ok)
		}
	}
}

func TestUnquoteIsThatOfWhichATextIsQuote(t *testing.T) {
	of := map[string]string{}
	for _, s := range texts(1, every()) {
		of[quoteOf(s)] = s
		for c := range 256 {
			of[quoteOf(s)+quoteOf(string([]byte{byte(c)}))] = s + string([]byte{byte(c)})
		}
	}
	for _, s := range texts(2, every()) {
		holdUnquote(t, s, of)
	}
	for _, s := range texts(4, "%0129:@AFGaf \x7f") {
		holdUnquote(t, s, of)
	}
}

func every() string {
	var b []byte
	for c := range 256 {
		b = append(b, byte(c))
	}
	return string(b)
}

// quoteOf quotes at most one byte.
func quoteOf(s string) string {
	if s == "" || s[0] >= 33 && s[0] <= 126 && s[0] != '%' {
		return s
	}
	n := strings.ToUpper(strconv.FormatInt(256+int64(s[0]), 16))
	return "%" + n[1:]
}

// holdUnquote holds a text against what texts of up to two bytes are quoted as; what has three bytes is left to the text itself.
func holdUnquote(t *testing.T, s string, of map[string]string) {
	t.Helper()
	got, ok := Unquote(s)
	if ok && len(got) > 2 {
		if Quote(got) != s {
			t.Errorf("Unquote(%q) = %q, but that is quoted %q", s, got, Quote(got))
		}
		return
	}
	want, is := of[s]
	if got != want || ok != is {
		t.Errorf("Unquote(%q) = %q, %v, not %q, %v", s, got, ok, want, is)
	}
}

// P2.4

func TestCleanByExample(t *testing.T) {
	for _, x := range []struct{ s, want string }{
		{"", "_"},
		{".", "_."},
		{"..", "_.."},
		{"...", "..."},
		{"/", "_"},
		{"\x00", "_"},
		{"//", "__"},
		{"a/b\x00c", "a_b_c"},
		{"./", "._"},
		{"../a", ".._a"},
		{"a", "a"},
		{"\xff/\xe2\x82", "\xff_\xe2\x82"},
		{"\xe2\x82/", "\xe2\x82_"},
		{times("a", 255), times("a", 255)},
		{times("a", 256), times("a", 255)},
		{times("a", 255) + "/", times("a", 255)},
		{times("/", 300), times("_", 255)},
		{times(".", 256), times(".", 255)},
		{times("\u20ac", 86), times("\u20ac", 85)},
		{"a" + times("\u20ac", 85), "a" + times("\u20ac", 84)},
		{times("\U0001f600", 64), times("\U0001f600", 63)},
		{times("a", 254) + "\xff\xff", times("a", 254) + "\xff"},
	} {
		if got := Clean(x.s); got != x.want {
			t.Errorf("Clean(%q) = %q, not %q", x.s, got, x.want)
		}
	}
}

func TestClean(t *testing.T) {
	for _, s := range some() {
		want := strings.ReplaceAll(strings.ReplaceAll(s, "/", "_"), "\x00", "_")
		if want == "" || want == "." || want == ".." {
			want = "_" + want
		}
		if got := Clean(s); got != letter.Fit(want, 255) {
			t.Errorf("Clean(%q) = %q, not %q", s, got, letter.Fit(want, 255))
		}
	}
}

// P2.5

func TestSuffixedOfANameIsAName(t *testing.T) {
	for _, s := range some() {
		if Check(s) != api.OK {
			continue
		}
		told := map[string]int{}
		for _, k := range []int{2, 3, 9, 10, 11, 22, 99, 100, 222, 1000, 123456789, 999999999999999999, 1000000000000000000, math.MaxInt - 1, math.MaxInt} {
			got := Suffixed(s, k)
			if e := Check(got); e != api.OK {
				t.Errorf("Suffixed(%q, %d) = %q: %d", s, k, got, e)
			}
			if other, is := told[got]; is {
				t.Errorf("Suffixed(%q, ..) is %q of %d and of %d", s, got, other, k)
			}
			told[got] = k
		}
	}
}

func TestCleanTellsAName(t *testing.T) {
	for _, s := range some() {
		got := Clean(s)
		if e := Check(got); e != api.OK {
			t.Errorf("Clean(%q) = %q: %d", s, got, e)
		}
		if Check(s) == api.OK && got != s || Clean(got) != got {
			t.Errorf("Clean(%q) = %q, of which it is %q", s, got, Clean(got))
		}
	}
}

func TestQuotedIsToldBack(t *testing.T) {
	for _, s := range append(some(), texts(2, every())...) {
		q := Quote(s)
		if got, ok := Unquote(q); got != s || !ok {
			t.Errorf("%q is quoted %q, and that is %q, %v", s, q, got, ok)
		}
		for i := range len(q) {
			if q[i] < 33 || q[i] > 126 {
				t.Errorf("Quote(%q) = %q", s, q)
			}
		}
	}
}

func TestConstants(t *testing.T) {
	if Mark != "~" || Found != "lost+found" || Check(Mark) != api.OK || Check(Found) != api.OK {
		t.Errorf("Mark %q, Found %q", Mark, Found)
	}
}
