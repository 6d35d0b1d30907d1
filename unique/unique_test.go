package unique

import (
	"slices"
	"strconv"
	"strings"
	"testing"

	"banyan/api"
	"banyan/name"
)

func words(s string) []string { return strings.Fields(s) }

// lists tells all lists of up to so many of the words.
func lists(most int, words []string) [][]string {
	l := [][]string{nil}
	for from := 0; most > 0; most-- {
		to := len(l)
		for _, x := range l[from:to] {
			for _, w := range words {
				l = append(l, append(slices.Clone(x), w))
			}
		}
		from = to
	}
	return l
}

// byHand tells names by the document's words.
func byHand(raw, taken []string) []string {
	var told []string
	for i, s := range raw {
		keeps := true
		for _, other := range append(slices.Clone(taken), raw[:i]...) {
			keeps = keeps && other != s
		}
		for k := 2; !keeps; k++ {
			s = name.Suffixed(raw[i], k)
			keeps = !slices.Contains(slices.Concat(taken, raw, told), s)
		}
		told = append(told, s)
	}
	return told
}

func check(t *testing.T, raw, taken []string) {
	t.Helper()
	if got, want := Names(raw, taken), byHand(raw, taken); !slices.Equal(got, want) {
		t.Fatalf("Names(%q, %q) = %q, not %q", raw, taken, got, want)
	}
}

// P18.1

func TestKeptByExample(t *testing.T) {
	for _, x := range []struct {
		raw, taken, want string
	}{
		{"a", "", "y"},
		{"a a", "", "yn"},
		{"a b a b c", "", "yynny"},
		{"a b c", "b", "yny"},
		{"a a a", "a", "nnn"},
		{"a a~2 a", "", "yyn"},
		{"a a~2 a", "a~2", "ynn"},
		{"a", "b c", "y"},
		{"a", "b c a", "n"},
		{"A a", "", "yy"},
		{"", "a", ""},
	} {
		raw, taken := words(x.raw), words(x.taken)
		for i, c := range x.want {
			if got := Kept(raw, taken, i); got != (c == 'y') {
				t.Errorf("Kept(%q, %q, %d) = %v", raw, taken, i, got)
			}
		}
		for _, i := range []int{-1, -1 << 63, len(raw), len(raw) + 1, 1<<63 - 1} {
			if Kept(raw, taken, i) {
				t.Errorf("Kept(%q, %q, %d): there is no such place", raw, taken, i)
			}
		}
	}
	if !Kept([]string{""}, nil, 0) || Kept([]string{"", ""}, nil, 1) || Kept([]string{""}, []string{""}, 0) {
		t.Error("Kept of the empty text")
	}
	if Kept(nil, nil, 0) {
		t.Error("of nothing nothing is kept")
	}
}

func TestNamesByExample(t *testing.T) {
	for _, x := range []struct {
		raw, taken, want string
	}{
		{"", "", ""},
		{"", "a", ""},
		{"a", "", "a"},
		{"a b c", "", "a b c"},
		{"b a", "", "b a"},
		{"a a", "", "a a~2"},
		{"a a a a", "", "a a~2 a~3 a~4"},
		{"a a a~2 a", "", "a a~3 a~2 a~4"},
		{"a a~2 a", "", "a a~2 a~3"},
		{"a~2 a~2 a a", "", "a~2 a~2~2 a a~3"},
		{"a", "a", "a~2"},
		{"a a", "a", "a~2 a~3"},
		{"a a", "a a~2", "a~3 a~4"},
		{"a a", "a~2", "a a~3"},
		{"a b a b", "a~2 b", "a b~2 a~3 b~3"},
		{"a~3 a a a a", "", "a~3 a a~2 a~4 a~5"},
		{"a a a~2~2 a~2", "a~2", "a a~3 a~2~2 a~2~3"},
		{"lost+found x lost+found", "lost+found", "lost+found~2 x lost+found~3"},
		{"a a a a a a a a a a a", "", "a a~2 a~3 a~4 a~5 a~6 a~7 a~8 a~9 a~10 a~11"},
		{"a a~1 a", "", "a a~1 a~2"},
		{"a a~02 a", "", "a a~02 a~2"},
	} {
		raw, taken := words(x.raw), words(x.taken)
		if got := Names(raw, taken); !slices.Equal(got, words(x.want)) {
			t.Errorf("Names(%q, %q) = %q, not %q", raw, taken, got, words(x.want))
		}
	}
	if got := Names([]string{"", "", "\x00/", "\x00/"}, []string{"~2"}); !slices.Equal(got, []string{"", "~3", "\x00/", "\x00/~2"}) {
		t.Errorf("Names of what are no names = %q", got)
	}
}

func TestNamesOfLongNames(t *testing.T) {
	long := strings.Repeat("x", 253)
	raw := []string{long + "ab", long + "cd", long + "ab", long + "cd", long + "ab", long + "~2", long + "~2"}
	// Of both the first 253 bytes are left ahead of a suffix, so both ask for the same ones.
	want := []string{raw[0], raw[1], long + "~3", long + "~4", long + "~5", long + "~2", long + "~6"}
	if got := Names(raw, nil); !slices.Equal(got, want) {
		t.Errorf("Names = %q", got)
	}
	check(t, raw, nil)
	check(t, append(raw, raw...), []string{long + "~4", raw[0]})
	letters := strings.Repeat("\u20ac", 85)
	got := Names([]string{letters, letters}, nil)
	if got[1] != strings.Repeat("\u20ac", 84)+"~2" {
		t.Errorf("Names of letters = %q", got)
	}
}

func TestNamesOfManyOfOneName(t *testing.T) {
	raw := slices.Repeat([]string{"a", "b"}, 5000)
	got := Names(raw, []string{"a~7"})
	for i, k := range []int{0, 0, 2, 2, 3, 3} {
		if want := []string{"a", "b"}[i%2] + suffix(k); got[i] != want {
			t.Errorf("the %d. is %q, not %q", i, got[i], want)
		}
	}
	if got[9998] != "a~5001" || got[9999] != "b~5000" {
		t.Errorf("the last ones are %q", got[9998:])
	}
}

func suffix(k int) string {
	if k == 0 {
		return ""
	}
	return "~" + strconv.Itoa(k)
}

func TestNamesAndKeptByHand(t *testing.T) {
	for _, raw := range lists(5, words("a a~2 a~3 a~2~2")) {
		for _, taken := range lists(2, words("a a~2 a~4 b")) {
			check(t, raw, taken)
			told := Names(raw, taken)
			for i := range raw {
				keeps := !slices.Contains(append(slices.Clone(taken), raw[:i]...), raw[i])
				if Kept(raw, taken, i) != keeps || keeps != (told[i] == raw[i]) {
					t.Fatalf("Kept(%q, %q, %d) = %v, and it is told as %q", raw, taken, i, !keeps, told[i])
				}
			}
		}
	}
}

func TestNothingIsChanged(t *testing.T) {
	room := words("a a b b c c c c")
	raw, taken := room[:3], room[4:6]
	got := Names(raw, taken)
	got = got[:cap(got)]
	for i := range got {
		got[i] = "z"
	}
	Kept(raw, taken, 2)
	if !slices.Equal(room, words("a a b b c c c c")) {
		t.Errorf("what was handed in became %q", room)
	}
}

// P18.2

func TestWhatIsToldIsUnlike(t *testing.T) {
	for _, raw := range lists(4, words("a b a~2 a~3 b~2")) {
		for _, taken := range lists(2, words("a b~2 a~3")) {
			told := Names(raw, taken)
			if len(told) != len(raw) {
				t.Fatalf("Names(%q, %q) = %q", raw, taken, told)
			}
			for i, s := range told {
				if slices.Contains(told[:i], s) || slices.Contains(taken, s) {
					t.Fatalf("Names(%q, %q) = %q", raw, taken, told)
				}
				if name.Check(s) != api.OK {
					t.Fatalf("%q is no name", s)
				}
			}
			for _, s := range raw {
				if !slices.Contains(told, s) && !slices.Contains(taken, s) {
					t.Fatalf("Names(%q, %q) = %q: %q is neither told nor taken", raw, taken, told, s)
				}
			}
		}
	}
}

func TestOneMoreNameChangesNoOtherOne(t *testing.T) {
	for _, raw := range lists(4, words("a b a~2")) {
		for _, taken := range lists(1, words("a a~2 a~3")) {
			told := Names(raw, taken)
			for _, more := range words("c a~9 b~3 a~2~7 a~4") {
				if slices.Contains(told, more) || slices.Contains(taken, more) {
					continue
				}
				for i := range len(raw) + 1 {
					got := Names(slices.Insert(slices.Clone(raw), i, more), taken)
					if !slices.Equal(got, slices.Insert(slices.Clone(told), i, more)) {
						t.Fatalf("of %q, with %q as the %d., %q: %q", raw, more, i, taken, got)
					}
				}
			}
		}
	}
}
