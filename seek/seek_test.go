package seek

import (
	"slices"
	"strings"
	"testing"

	"banyan/api"
	"banyan/letter"
	"banyan/listing"
	"banyan/path"
	"banyan/stamp"
	"banyan/table"
	"banyan/view"
)

func at(time int) api.Stamp { return api.Stamp{Time: time} }

// of tells the places of paths, of which all but the last part are directories.
func of(paths ...string) []view.Place {
	t := table.New()
	nodes := map[string]api.Stamp{"": stamp.Root()}
	for i, s := range paths {
		cut := strings.LastIndex(s, "/")
		nodes[s] = at(i + 1)
		t.Set(at(i+1), table.Entry{Parent: nodes[s[:cut]], Name: s[cut+1:], Dir: true})
	}
	return view.Of(t)
}

// same asks for just these numbers.
func same(t *testing.T, what string, got []int, want ...int) {
	t.Helper()
	if !slices.Equal(got, want) {
		t.Errorf("%s: %v, not %v", what, got, want)
	}
}

// sample tells places: 0 /, 1 /A, 2 /A/a, 3 /A/ab, 4 /a, 5 /a/AB, 6 /a/a, 7 /ab, 8 /lost+found, 9 /É, 10 /é
func sample() []view.Place {
	return of("/A", "/A/a", "/A/ab", "/a", "/a/AB", "/a/a", "/ab", "/\u00c9", "/\u00e9")
}

// P42.1

func TestIndexByExample(t *testing.T) {
	x := New(of("/a", "/ab"))
	same(t, "Prefix", x.Prefix("a"), 1, 2)
}

func TestIndex(t *testing.T) {
	x := New(sample())
	if x.Len() != 11 {
		t.Errorf("Len() = %d", x.Len())
	}
	same(t, "Name a", x.Name("a"), 2, 4, 6)
	same(t, "Name A", x.Name("A"), 1)
	same(t, "Name ab", x.Name("ab"), 3, 7)
	same(t, "Name /", x.Name("/"), 0)
	same(t, "Name lost+found", x.Name("lost+found"), 8)
	same(t, "Name lost", x.Name("lost"))
	same(t, "Name nothing", x.Name(""))
	same(t, "Name z", x.Name("zzz\xff"))
	same(t, "Prefix a", x.Prefix("a"), 2, 3, 4, 6, 7)
	same(t, "Prefix ab", x.Prefix("ab"), 3, 7)
	same(t, "Prefix abc", x.Prefix("abc"))
	same(t, "Prefix A", x.Prefix("A"), 1, 5)
	same(t, "Prefix lost", x.Prefix("lost"), 8)
	same(t, "Prefix nothing", x.Prefix(""), 0, 1, 2, 3, 4, 5, 6, 7, 8, 9, 10)
	same(t, "Prefix of one byte of a letter", x.Prefix("\xc3"), 9, 10)
	same(t, "Fold a", x.Fold("a"), 1, 2, 4, 6)
	same(t, "Fold A", x.Fold("A"), 1, 2, 4, 6)
	same(t, "Fold aB", x.Fold("aB"), 3, 5, 7)
	same(t, "Fold LOST+FOUND", x.Fold("LOST+FOUND"), 8)
	same(t, "Fold of a letter that is not from a to z", x.Fold("\u00e9"), 10)
	same(t, "Fold /", x.Fold("/"), 0)
	same(t, "Fold nothing", x.Fold(""))
}

func TestTheNamesByWhichPlacesAreSeenCount(t *testing.T) {
	x := table.New()
	x.Set(at(1), table.Entry{Name: "a", Dir: true})
	x.Set(at(2), table.Entry{Name: "a"})
	l := New(view.Of(x))
	same(t, "Name a", l.Name("a"), 1)
	same(t, "Name a~2", l.Name("a~2"), 2)
	same(t, "Prefix a", l.Prefix("a"), 1, 2)
}

func TestIndexesWithoutPlaces(t *testing.T) {
	for _, x := range []*Index{nil, New(nil)} {
		if x.Len() != 0 || len(x.Name("a")) != 0 || len(x.Name("")) != 0 || len(x.Prefix("")) != 0 || len(x.Prefix("a")) != 0 || len(x.Fold("")) != 0 || len(x.Fold("A")) != 0 {
			t.Error("it has places")
		}
	}
}

func TestAnIndexIsOfPlacesAsTheyWere(t *testing.T) {
	l := sample()
	x := New(l)
	for i := range l {
		l[i] = view.Place{Path: "/x", Row: listing.Row{Name: "x"}}
	}
	for range 2 {
		got := x.Name("a")
		same(t, "Name a", got, 2, 4, 6)
		same(t, "Name x", x.Name("x"))
		clear(got)
	}
}

// P42.2

func TestSplit(t *testing.T) {
	for s, want := range map[string][]string{
		"/": nil, "/a": {"a"}, "/a/b": {"a", "b"}, "/lost+found/a b": {"lost+found", "a b"}, "//": {"", ""}, "/a/": {"a", ""}, "/a//b": {"a", "", "b"}, "": nil,
	} {
		if got := Split(s); !slices.Equal(got, want) {
			t.Errorf("Split(%q) = %q, not %q", s, got, want)
		}
	}
}

func TestMatch(t *testing.T) {
	l := sample()
	for _, x := range []struct {
		pattern []string
		want    []int
	}{
		{nil, []int{0}},
		{[]string{"a"}, []int{4}},
		{[]string{"*"}, []int{1, 4, 7, 8, 9, 10}},
		{[]string{"?"}, []int{1, 4, 9, 10}},
		{[]string{"a*"}, []int{4, 7}},
		{[]string{"*", "*"}, []int{2, 3, 5, 6}},
		{[]string{"**"}, []int{0, 1, 2, 3, 4, 5, 6, 7, 8, 9, 10}},
		{[]string{"**", "a"}, []int{2, 4, 6}},
		{[]string{"A", "**"}, []int{1, 2, 3}},
		{[]string{"a", "?"}, []int{6}},
		{[]string{"x"}, nil},
		{[]string{""}, nil},
		{[]string{"/"}, nil},
	} {
		same(t, strings.Join(x.pattern, "/"), Match(l, x.pattern), x.want...)
	}
	same(t, "of no place", Match(nil, []string{"**"}))
}

// P42.3

func TestEachPlaceIsToldByItsOwn(t *testing.T) {
	for seed := range 100 {
		n := seed
		x := table.New()
		for i := range 14 {
			n = (n*75 + 74) % 65537
			parent := stamp.Root()
			if n%4 > 0 {
				parent = at(n / 4 % (i + 1))
			}
			x.Set(at(i+1), table.Entry{Parent: parent, Name: []string{"a", "A", "ab", "*", "?b", "B\xff"}[n/7%6], Dir: n%5 > 0})
		}
		l := view.Of(x)
		index := New(l)
		for i, p := range l {
			s := p.Row.Name
			byName, byPrefix, byFold := index.Name(s), index.Prefix(s), index.Fold(s)
			if !slices.Contains(byName, i) {
				t.Fatalf("%s is not told by its name", p.Path)
			}
			for j, q := range l {
				if slices.Contains(byName, j) != (q.Row.Name == s) || slices.Contains(byPrefix, j) != strings.HasPrefix(q.Row.Name, s) || slices.Contains(byFold, j) != (letter.Lower(q.Row.Name) == letter.Lower(s)) {
					t.Fatalf("of %s %s is told, or not", s, q.Path)
				}
			}
			for _, k := range byName {
				if !slices.Contains(byPrefix, k) || !slices.Contains(byFold, k) {
					t.Fatalf("%d is told by its name alone", k)
				}
			}
			for _, k := range [][]int{byName, byPrefix, byFold} {
				if !slices.IsSorted(k) || len(slices.Compact(slices.Clone(k))) != len(k) {
					t.Fatalf("%v", k)
				}
			}
			if parts := Split(p.Path); path.Text(parts) != p.Path || !strings.ContainsAny(p.Path, "*?") && !slices.Contains(Match(l, parts), i) {
				t.Fatalf("%s is not told by its parts, %q", p.Path, parts)
			}
			same(t, "Match", Match(l, []string{"**", s, "**"}), matches(l, []string{"**", s, "**"})...)
		}
	}
}

// matches goes by path.Match, place by place.
func matches(l []view.Place, pattern []string) []int {
	var n []int
	for i, p := range l {
		parts, _ := path.Parse(p.Path)
		if path.Match(parts, pattern) {
			n = append(n, i)
		}
	}
	return n
}
