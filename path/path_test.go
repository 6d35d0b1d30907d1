package path

import (
	"slices"
	"strings"
	"testing"

	"banyan/api"
	"banyan/letter"
)

// of tells the parts that stand with blanks between.
func of(s string) []string { return strings.Fields(s) }

// texts tells all texts of up to so many of the bytes.
func texts(most int, bytes string) []string {
	l := []string{""}
	for from := 0; most > 0; most-- {
		to := len(l)
		for _, s := range l[from:to] {
			for i := range len(bytes) {
				l = append(l, s+bytes[i:i+1])
			}
		}
		from = to
	}
	return l
}

// lists tells all lists of up to so many of the words.
func lists(most int, words []string) [][]string {
	l := [][]string{nil}
	for from := 0; most > 0; most-- {
		to := len(l)
		for _, x := range l[from:to] {
			for _, w := range words {
				l = append(l, append(slices.Clone(x), w))
			}
		}
		from = to
	}
	return l
}

// P22.1

func TestParseByExample(t *testing.T) {
	for s, want := range map[string][]string{
		"/":                     nil,
		"/a":                    {"a"},
		"/a/b":                  {"a", "b"},
		"/a/b/c/d":              {"a", "b", "c", "d"},
		"/...":                  {"..."},
		"/.a/..b/a./ ":          {".a", "..b", "a.", " "},
		"/lost+found/~":         {"lost+found", "~"},
		"/\\/*/?/**":            {"\\", "*", "?", "**"},
		"/\u20ac/\xff\xfe/\x01": {"\u20ac", "\xff\xfe", "\x01"},
	} {
		if got, e := Parse(s); !slices.Equal(got, want) || e != api.OK {
			t.Errorf("Parse(%q) = %q, %d, not %q", s, got, e, want)
		}
	}
	for _, s := range []string{
		"", "a", "a/", "a/b", " /", "./a", "../a", ".", "~/a", "\x00", "//", "///", "//a", "/a/", "/a//", "/a//b", "/.", "/..", "/a/.", "/a/..", "/./a", "/../a", "/a/../b", "/a\x00", "/\x00", "/a/\x00b/c", "\\a",
	} {
		if got, e := Parse(s); len(got) != 0 || e != api.Invalid {
			t.Errorf("Parse(%q) = %q, %d", s, got, e)
		}
	}
}

func TestParseOfLongPaths(t *testing.T) {
	n := func(k int) string { return "/" + strings.Repeat("n", k) }
	most := strings.Repeat(n(255), 16) // 4096 bytes
	for _, x := range []struct {
		s    string
		want api.Errno
	}{
		{n(255), api.OK},
		{n(256), api.TooLong},
		{"/a" + n(256) + "/b", api.TooLong},
		{n(256) + n(300), api.TooLong},
		{most, api.OK},
		{most + "/", api.Invalid},
		{most + "/a", api.TooLong},
		{most[1:] + "a", api.Invalid},
		{strings.Repeat("/n", 2048), api.OK},
		{strings.Repeat("/n", 2048) + "n", api.TooLong},
		{strings.Repeat("/n", 2049), api.TooLong},
		// What is no name at all is told ahead of what is too long.
		{n(256) + "/.", api.Invalid},
		{n(256) + "/", api.Invalid},
		{n(256) + "//a", api.Invalid},
		{"/.." + n(256), api.Invalid},
		{n(300) + "\x00", api.Invalid},
		{"/a\x00b" + n(300), api.Invalid},
		{n(256) + "/b/a\x00b/c", api.Invalid},
		{most + "/a/..", api.Invalid},
		{strings.Repeat("/n", 3000) + "/", api.Invalid},
		{strings.Repeat("n", 5000), api.Invalid},
		{n(5000), api.TooLong},
	} {
		got, e := Parse(x.s)
		if e != x.want || e != api.OK && len(got) != 0 || e == api.OK && Text(got) != x.s {
			t.Errorf("Parse of %d bytes that end in %q = %d, %d parts, not %d", len(x.s), x.s[max(0, len(x.s)-9):], e, len(got), x.want)
		}
	}
}

func TestTextByExample(t *testing.T) {
	for _, x := range []struct {
		parts []string
		want  string
	}{
		{nil, "/"},
		{[]string{}, "/"},
		{of("a"), "/a"},
		{of("a b c"), "/a/b/c"},
		{of(".. . a/b"), "/.././a/b"},
		{[]string{""}, "/"},
		{[]string{"", ""}, "//"},
		{[]string{"a", ""}, "/a/"},
		{[]string{"/"}, "//"},
		{[]string{strings.Repeat("a", 5000)}, "/" + strings.Repeat("a", 5000)},
	} {
		if got := Text(x.parts); got != x.want {
			t.Errorf("Text(%q) = %q, not %q", x.parts, got, x.want)
		}
	}
}

// P22.2

func TestUp(t *testing.T) {
	for _, x := range []struct {
		parts, up []string
		last      string
	}{
		{nil, nil, ""},
		{[]string{}, nil, ""},
		{of("a"), nil, "a"},
		{of("a b"), of("a"), "b"},
		{of("a b b"), of("a b"), "b"},
		{[]string{"", "", ""}, []string{"", ""}, ""},
	} {
		if up, last := Up(x.parts); !slices.Equal(up, x.up) || last != x.last {
			t.Errorf("Up(%q) = %q, %q", x.parts, up, last)
		}
	}
	parts := of("a b c")
	up, _ := Up(parts)
	_ = append(up, "x")
	up[0] = "y"
	if !slices.Equal(parts, of("a b c")) {
		t.Errorf("what was handed in became %q", parts)
	}
}

func TestSameAndWithin(t *testing.T) {
	l := lists(3, []string{"a", "b", ""})
	for _, a := range l {
		for _, b := range l {
			same := len(a) == len(b)
			within := len(a) < len(b)
			for i := range min(len(a), len(b)) {
				same = same && a[i] == b[i]
				within = within && a[i] == b[i]
			}
			if Same(a, b) != same {
				t.Errorf("Same(%q, %q) = %v", a, b, !same)
			}
			if Within(a, b) != within {
				t.Errorf("Within(%q, %q) = %v", a, b, !within)
			}
		}
	}
	for _, x := range []struct {
		a, b string
		want bool
	}{
		{"d", "d x", true}, {"d", "d x y", true}, {"", "d", true}, {"d", "d", false}, {"d x", "d", false}, {"d", "dx", false}, {"d", "e x", false}, {"", "", false}, {"d e", "d f x", false},
	} {
		if Within(of(x.a), of(x.b)) != x.want {
			t.Errorf("Within(%q, %q) = %v", x.a, x.b, !x.want)
		}
	}
	if !Same(nil, []string{}) || !Same([]string{}, nil) {
		t.Error("lists that are nil, and empty ones, are alike")
	}
}

// P22.3

func TestMatchByExample(t *testing.T) {
	for _, x := range []struct {
		parts, pattern string
		want           bool
	}{
		{"", "", true},
		{"", "**", true},
		{"", "** **", true},
		{"", "*", false},
		{"a", "", false},
		{"a", "a", true},
		{"a", "b", false},
		{"a", "A", false},
		{"a", "*", true},
		{"a", "**", true},
		{"a", "***", true},
		{"a", "?", true},
		{"a", "??", false},
		{"a", "a b", false},
		{"a b", "a", false},
		{"a b", "*", false},
		{"a b", "***", false},
		{"a b", "a**", false},
		{"a b", "* *", true},
		{"a b", "**", true},
		{"a b c", "a ** ?", true},
		{"a c", "a ** ?", true},
		{"a", "a ** ?", false},
		{"a b cc", "a ** ?", false},
		{"a b c", "** c", true},
		{"a b c", "** b", false},
		{"a b c", "a **", true},
		{"a b c", "b **", false},
		{"a b c b c", "** b **", true},
		{"a b c", "** ** c **", true},
		{"a x b y c", "** a ** b ** c **", true},
		{"a x b y c", "** b ** a ** c **", false},
		{"abc", "a*c", true},
		{"ac", "a*c", true},
		{"abcbc", "a*bc", true},
		{"abcb", "a*bc", false},
		{"abc", "*b*", true},
		{"abc", "*?*?*?*", true},
		{"abc", "*?*?*?*?*", false},
		{"abc", "a?c", true},
		{"abc", "ab", false},
		{"ab", "abc", false},
		{"a*", "a*", true},
		{"a?", "a?", true},
		{"ab", "a[b]", false},
		{"a[b]", "a[b]", true},
		{"\\a", "\\*", true},
		{".a", "*", true},
		{"..", "**", true},
		{"a~2", "a~?", true},
		{"a~10", "a~?", false},
		{"\u20ac", "?", true},
		{"\u20ac", "???", false},
		{"\u20ac\u20ac", "??", true},
		{"\u20aca", "\u20ac?", true},
		{"\u20aca", "?a", true},
		{"\u20ac", "\u20ad", false},
		// Bytes that are no letter are each one by itself.
		{"\xff\xff", "??", true},
		{"\xff\xff", "?", false},
		{"\xe2\x82", "??", true},
		{"\u20ac", "\xe2??", true},
		{"\u20ac", "\xe2?", false},
		{"\xe2", "?", true},
		// A * may end within a letter, and what is left of that is no letter any more.
		{"\u20ac", "*??", true},
		{"\u20ac", "*???", false},
		{"\u20ac", "*?", true},
		{"\u20ac", "*?*?", true},
		{"\u20ac", "?*?", false},
		{"\u20ac", "*?*?*?", false},
		{"\U0001f600", "*?*?*?", true},
		{"\U0001f600", "*\x9f?*?", true},
		{"\U0001f600", "*?\x9f", false},
		{"\U0001f600\U0001f600", "*?*?\x98*", true},
		{"\U0001f600\U0001f600", "*?*?\x9f*", false},
	} {
		if got := Match(of(x.parts), of(x.pattern)); got != x.want {
			t.Errorf("Match(%q, %q) = %v", x.parts, x.pattern, got)
		}
	}
	for _, x := range []struct {
		parts, pattern []string
		want           bool
	}{
		{nil, nil, true},
		{[]string{}, nil, true},
		{[]string{""}, []string{""}, true},
		{[]string{""}, []string{"*"}, true},
		{[]string{""}, []string{"?"}, false},
		{[]string{""}, nil, false},
		{nil, []string{""}, false},
		{[]string{""}, []string{"**"}, true},
		{[]string{"", "a"}, []string{"", "a"}, true},
		{[]string{"a"}, []string{""}, false},
		{[]string{"a/b"}, []string{"a*"}, true},
		{[]string{"a/b"}, []string{"a?b"}, true},
		{[]string{"\x00"}, []string{"?"}, true},
	} {
		if got := Match(x.parts, x.pattern); got != x.want {
			t.Errorf("Match(%q, %q) = %v", x.parts, x.pattern, got)
		}
	}
}

// likeByHand cuts a part in each way that there is.
func likeByHand(part, text string) bool {
	if text == "" {
		return part == ""
	}
	switch text[0] {
	case '*':
		for at := range len(part) + 1 {
			if likeByHand(part[at:], text[1:]) {
				return true
			}
		}
		return false
	case '?':
		n := letter.Next(part, 0).Len
		return n > 0 && likeByHand(part[n:], text[1:])
	}
	return part != "" && part[0] == text[0] && likeByHand(part[1:], text[1:])
}

// matchByHand cuts parts in each way that there is.
func matchByHand(parts, pattern []string) bool {
	if len(pattern) == 0 {
		return len(parts) == 0
	}
	if pattern[0] != "**" {
		return len(parts) > 0 && likeByHand(parts[0], pattern[0]) && matchByHand(parts[1:], pattern[1:])
	}
	for at := range len(parts) + 1 {
		if matchByHand(parts[at:], pattern[1:]) {
			return true
		}
	}
	return false
}

func TestMatchOfOnePartByHand(t *testing.T) {
	like := 0
	for _, part := range texts(4, "a\xe2\x82\xac") {
		for _, text := range texts(4, "a*?\x82") {
			if text == "**" {
				continue
			}
			want := likeByHand(part, text)
			if got := Match([]string{part}, []string{text}); got != want {
				t.Fatalf("Match(%q, %q) = %v", part, text, got)
			}
			if want {
				like++
			}
		}
	}
	for _, part := range []string{"\u20ac\u20ac", "\U0001f600", "\u20aca\xe2\x82", "\u00e4\u20ac\U0001f600"} {
		for _, text := range texts(6, "*?\x82") {
			if text == "**" {
				continue
			}
			if got := Match([]string{part}, []string{text}); got != likeByHand(part, text) {
				t.Fatalf("Match(%q, %q) = %v", part, text, got)
			}
		}
	}
	if like < 1000 {
		t.Errorf("only %d are like the text", like)
	}
}

func TestMatchOfManyPartsByHand(t *testing.T) {
	for _, parts := range lists(5, []string{"a", "ab", "b"}) {
		for _, pattern := range lists(4, []string{"a", "**", "*", "?b"}) {
			if got := Match(parts, pattern); got != matchByHand(parts, pattern) {
				t.Fatalf("Match(%q, %q) = %v", parts, pattern, got)
			}
		}
	}
}

func TestMatchOfMuchEnds(t *testing.T) {
	part, text := strings.Repeat("a", 255), strings.Repeat("*a", 120)
	if !Match([]string{part}, []string{text}) || Match([]string{part}, []string{text + "b"}) {
		t.Error("Match of many *")
	}
	parts, pattern := slices.Repeat([]string{"a"}, 2000), slices.Repeat([]string{"**", "a"}, 100)
	if !Match(parts, pattern) || Match(parts, append(pattern, "b")) {
		t.Error("Match of many **")
	}
}

func TestNothingIsChanged(t *testing.T) {
	room := of("a b c d e f")
	Match(room[:2], room[3:5])
	Within(room[:1], room[3:5])
	Text(room[:2])
	if !slices.Equal(room, of("a b c d e f")) {
		t.Errorf("what was handed in became %q", room)
	}
}

// P22.4

func TestPathsAreParsedAsTheyWereTold(t *testing.T) {
	for _, parts := range lists(4, []string{"a", "...", "b c", "\u20ac", "\xff", strings.Repeat("n", 255)}) {
		if got, e := Parse(Text(parts)); !slices.Equal(got, parts) || e != api.OK {
			t.Fatalf("Parse(%q) = %q, %d", Text(parts), got, e)
		}
	}
	for _, s := range texts(6, "/a.\x00") {
		if got, e := Parse(s); e == api.OK && Text(got) != s {
			t.Fatalf("Text of Parse(%q) = %q", s, Text(got))
		} else if e == api.OK != right(s) {
			t.Fatalf("Parse(%q) = %d", s, e)
		}
	}
}

// right asks whether a short text is a path.
func right(s string) bool {
	if s == "/" {
		return true
	}
	s += "/"
	for _, wrong := range []string{"//", "/./", "/../", "\x00"} {
		if strings.Contains(s, wrong) {
			return false
		}
	}
	return s[0] == '/' && s != "/"
}
