package view

import (
	"slices"
	"strconv"
	"strings"
	"testing"

	"banyan/api"
	"banyan/fate"
	"banyan/listing"
	"banyan/stamp"
	"banyan/table"
)

func at(time int) api.Stamp { return api.Stamp{Time: time} }

func root() api.Stamp { return stamp.Root() }

// hang puts a node at a parent; the name of a directory has a / behind it.
func hang(t *table.Table, node, parent api.Stamp, s string) {
	n, dir := strings.CutSuffix(s, "/")
	t.Set(node, table.Entry{Parent: parent, Name: n, Dir: dir})
}

// sample tells a table with something of all that may stand in one.
func sample() *table.Table {
	t := table.New()
	hang(t, at(1), root(), "d/")
	hang(t, at(2), root(), "d/")
	hang(t, at(3), at(1), "f")
	hang(t, at(4), at(2), "f")
	hang(t, at(5), at(2), "sub/")
	hang(t, at(6), at(5), "deep")
	hang(t, at(7), root(), "d")
	hang(t, at(8), stamp.Trash(), "gone/")
	hang(t, at(9), at(8), "x/")
	hang(t, at(10), at(9), "y")
	hang(t, at(11), root(), "z")
	hang(t, at(12), at(11), "x/")
	return t
}

// lines tells the places of sample, with the place of the directory in which each stands.
func lines() []string {
	return []string{
		"-1 0 / / true 0",
		"0 1 /d d true 1 2",
		"1 2 /d/f f false 3",
		"1 2 /d/f~2 f false 4",
		"1 2 /d/sub sub true 5",
		"4 3 /d/sub/deep deep false 6",
		"0 1 /d~2 d false 7",
		"0 1 /lost+found lost+found true 0",
		"7 2 /lost+found/x x true 9 12",
		"8 3 /lost+found/x/y y false 10",
		"0 1 /z z false 11",
	}
}

// line tells a place as text.
func line(p Place) string {
	parts := []string{strconv.Itoa(p.Up), strconv.Itoa(p.Depth), p.Path, p.Row.Raw, strconv.FormatBool(p.Row.Dir)}
	for _, n := range p.Row.Nodes {
		parts = append(parts, strconv.Itoa(n.Time))
	}
	return strings.Join(parts, " ")
}

// check holds places against lines.
func check(t *testing.T, l []Place, want []string) {
	t.Helper()
	var got []string
	for _, p := range l {
		got = append(got, line(p))
	}
	if !slices.Equal(got, want) {
		t.Errorf("%s\nnot\n%s", strings.Join(got, "\n"), strings.Join(want, "\n"))
	}
}

// some tells a table of nodes that hang at each other, at the root, at the trash, or at nobody.
func some(n, seed int) *table.Table {
	t := table.New()
	for i := range n {
		seed = (seed*75 + 74) % 65537
		parent := root()
		switch k := seed % 9; {
		case k == 0:
			parent = stamp.Trash()
		case k == 1:
			parent = at(500)
		case k < 7:
			parent = at(1 + seed/9%n)
		}
		t.Set(at(i+1), table.Entry{Parent: parent, Name: []string{"a", "b", "a~2", "lost+found"}[seed/7%4], Dir: seed%5 > 0})
	}
	return t
}

// P20.1

func TestOfByExample(t *testing.T) {
	check(t, Of(sample()), lines())
}

func TestOfNothing(t *testing.T) {
	for _, x := range []*table.Table{nil, {}, table.New()} {
		l := Of(x)
		check(t, l, []string{"-1 0 / / true 0", "0 1 /lost+found lost+found true 0"})
		if l[0].Row.Name != "/" || l[0].Row.Nodes[0] != root() || l[1].Row.Name != "lost+found" || l[1].Row.Nodes[0] != stamp.Lost() {
			t.Errorf("%v", l)
		}
	}
}

func TestDirectoriesThatBecameOne(t *testing.T) {
	x := table.New()
	hang(x, at(1), root(), "d/")
	hang(x, at(2), root(), "d/")
	hang(x, at(3), at(1), "f")
	hang(x, at(4), at(2), "f")
	check(t, Of(x), []string{"-1 0 / / true 0", "0 1 /d d true 1 2", "1 2 /d/f f false 3", "1 2 /d/f~2 f false 4", "0 1 /lost+found lost+found true 0"})
}

func TestWhatIsMadeInADirectoryThatIsThrownAway(t *testing.T) {
	x := table.New()
	hang(x, at(1), stamp.Trash(), "d/")
	hang(x, at(2), at(1), "x")
	check(t, Of(x), []string{"-1 0 / / true 0", "0 1 /lost+found lost+found true 0", "1 2 /lost+found/x x false 2"})
}

func TestARingIsNotSeen(t *testing.T) {
	x := table.New()
	hang(x, at(1), at(2), "a/")
	hang(x, at(2), at(1), "b/")
	hang(x, at(3), at(3), "c/")
	hang(x, at(4), at(4), "file")
	check(t, Of(x), []string{"-1 0 / / true 0", "0 1 /lost+found lost+found true 0", "1 2 /lost+found/file file false 4"})
}

func TestAsDeepAsOneLikes(t *testing.T) {
	x, path := table.New(), ""
	up := root()
	for i := range 700 {
		hang(x, at(i+1), up, "a/")
		up = at(i + 1)
	}
	l := Of(x)
	for i, p := range l[:701] {
		if p.Depth != i || p.Up != i-1 || i > 0 && p.Path != path {
			t.Fatalf("the %d. place: %s", i, line(p))
		}
		path += "/a"
	}
	if len(l) != 702 || l[701].Path != "/lost+found" || l[701].Up != 0 || l[701].Depth != 1 {
		t.Errorf("there are %d places, the last one is %v", len(l), l[len(l)-1])
	}
}

func TestWhatStandsInEachPlaceIsItsListing(t *testing.T) {
	for seed := range 400 {
		x := some(14, seed)
		was := x.Clone()
		l := Of(x)
		for i, p := range l {
			var rows []listing.Row
			for j, q := range l {
				if q.Up != i {
					continue
				}
				rows = append(rows, q.Row)
				ahead := p.Path
				if i > 0 {
					ahead += "/"
				}
				if q.Path != ahead+q.Row.Name || q.Depth != p.Depth+1 || j <= i {
					t.Fatalf("%s stands in %s", line(q), line(p))
				}
			}
			var want []listing.Row
			if p.Row.Dir {
				want = listing.Of(x, p.Row.Nodes)
			}
			if !listing.Same(rows, want) {
				t.Fatalf("in %s stand %v, not %v", line(p), rows, want)
			}
			// Each place is followed by what stands in it, so what stands ahead of it is at most as deep.
			if i > 0 && p.Up != i-1 && l[i-1].Depth < p.Depth {
				t.Fatalf("%s stands behind %s", line(p), line(l[i-1]))
			}
		}
		if !table.Same(x, was) {
			t.Fatal("the table was changed")
		}
	}
}

func TestWhatIsToldMayBeChanged(t *testing.T) {
	x := sample()
	l := Of(x)
	for i := range l {
		nodes := l[i].Row.Nodes[:cap(l[i].Row.Nodes)]
		for j := range nodes {
			nodes[j] = at(1000 + i)
		}
	}
	for i, p := range l {
		for _, n := range p.Row.Nodes {
			if n != at(1000+i) {
				t.Errorf("%s has the memory of another one", line(p))
			}
		}
	}
	check(t, Of(x), lines())
}

// P20.2

func TestFind(t *testing.T) {
	l := Of(sample())
	for i, p := range l {
		if got, ok := Find(l, p.Path); got != i || !ok {
			t.Errorf("Find(%q) = %d, %v, not %d", p.Path, got, ok, i)
		}
	}
	for _, s := range []string{"", "d", "/d/", "//", "/D", "/lost+found/", "/d~3", "/d/f~3", "/ "} {
		if got, ok := Find(l, s); got != 0 || ok {
			t.Errorf("Find(%q) = %d, %v", s, got, ok)
		}
	}
	if got, ok := Find(nil, "/"); got != 0 || ok {
		t.Errorf("Find in nothing = %d, %v", got, ok)
	}
	twice := []Place{{Path: "/a"}, {Path: "/b"}, {Path: "/b"}}
	if got, ok := Find(twice, "/b"); got != 1 || !ok {
		t.Errorf("Find of one that is there twice = %d, %v", got, ok)
	}
}

func TestWhere(t *testing.T) {
	l := Of(sample())
	for node, want := range map[api.Stamp]int{
		root(): 0, stamp.Lost(): 7, at(1): 1, at(2): 1, at(3): 2, at(4): 3, at(5): 4, at(6): 5, at(7): 6, at(9): 8, at(12): 8, at(10): 9, at(11): 10,
	} {
		if got, ok := Where(l, node); got != want || !ok {
			t.Errorf("Where(%v) = %d, %v, not %d", node, got, ok, want)
		}
	}
	for _, node := range []api.Stamp{at(8), stamp.Trash(), at(13), {Time: 1, Rep: 1}, at(-1)} {
		if got, ok := Where(l, node); got != 0 || ok {
			t.Errorf("Where(%v) = %d, %v", node, got, ok)
		}
	}
	if got, ok := Where(nil, root()); got != 0 || ok {
		t.Errorf("Where in nothing = %d, %v", got, ok)
	}
	nodes := []api.Stamp{at(1)}
	twice := []Place{{}, {Row: listing.Row{Nodes: nodes}}, {Row: listing.Row{Nodes: nodes}}}
	if got, ok := Where(twice, at(1)); got != 1 || !ok {
		t.Errorf("Where of one that is there twice = %d, %v", got, ok)
	}
}

func TestUnderByExample(t *testing.T) {
	l := Of(sample())
	for i, n := range []int{11, 5, 1, 1, 2, 1, 1, 3, 2, 1, 1} {
		check(t, Under(l, i), lines()[i:i+n])
	}
	for _, i := range []int{-1, -1 << 63, 11, 12, 1<<63 - 1} {
		if got := Under(l, i); len(got) != 0 {
			t.Errorf("Under(%d) = %v", i, got)
		}
	}
	if got := Under(nil, 0); len(got) != 0 {
		t.Errorf("Under in nothing = %v", got)
	}
}

func TestUnderIsAllThatHasThePathAhead(t *testing.T) {
	for seed := range 200 {
		l := Of(some(14, seed))
		for i, p := range l {
			var want []string
			for _, q := range l {
				if q.Path == p.Path || strings.HasPrefix(q.Path, strings.TrimSuffix(p.Path, "/")+"/") {
					want = append(want, line(q))
				}
			}
			check(t, Under(l, i), want)
		}
	}
}

func TestWhoAppendsToWhatIsUnderChangesNothing(t *testing.T) {
	l := Of(sample())
	for i := range l {
		part := append(Under(l, i), Place{Path: "/other"})
		if part[len(part)-1].Path != "/other" {
			t.Error("it was not appended")
		}
	}
	check(t, l, lines())
}

func TestSame(t *testing.T) {
	row := listing.Row{Name: "a", Raw: "b", Dir: true, Nodes: []api.Stamp{at(1)}}
	// Of these no two are the same.
	l := []Place{
		{"/a", 0, 1, row},
		{"/b", 0, 1, row},
		{"/a", 1, 1, row},
		{"/a", 0, 2, row},
		{"/a", 0, 1, listing.Row{}},
		{"/a", 0, 1, listing.Row{Name: "x", Raw: "b", Dir: true, Nodes: row.Nodes}},
		{"/a", 0, 1, listing.Row{Name: "a", Raw: "x", Dir: true, Nodes: row.Nodes}},
		{"/a", 0, 1, listing.Row{Name: "a", Raw: "b", Nodes: row.Nodes}},
		{"/a", 0, 1, listing.Row{Name: "a", Raw: "b", Dir: true, Nodes: []api.Stamp{at(2)}}},
	}
	for i, a := range l {
		for j, b := range l {
			if Same([]Place{a}, []Place{b}) != (i == j) || Same([]Place{l[0], a}, []Place{l[0], b}) != (i == j) || Same([]Place{a, l[0]}, []Place{b, l[0]}) != (i == j) {
				t.Errorf("Same of %v and %v", a, b)
			}
		}
		if Same(l[:i], l[:i+1]) || Same(l[:i+1], l[:i]) || !Same(l[:i], slices.Clone(l[:i])) {
			t.Errorf("Same of the first %d", i)
		}
	}
	if !Same(nil, []Place{}) || !Same(nil, nil) || !Same(Of(sample()), Of(sample().Clone())) || Same(Of(sample()), Of(nil)) {
		t.Error("Same of whole namespaces")
	}
}

// P20.3

func TestEachNodeThatIsNotGoneIsSeenAtJustOnePlace(t *testing.T) {
	trees := 0
	for seed := range 2000 {
		x := some(10, seed)
		if slices.ContainsFunc(x.Nodes(), func(node api.Stamp) bool { return x.Above(node, node) }) {
			continue
		}
		trees++
		l := Of(x)
		var seen []api.Stamp
		paths := map[string]int{}
		for _, p := range l {
			seen = append(seen, p.Row.Nodes...)
			if paths[p.Path]++; paths[p.Path] > 1 {
				t.Fatalf("two places are %s", p.Path)
			}
		}
		want := []api.Stamp{root(), stamp.Lost()}
		for _, node := range x.Nodes() {
			if fate.Of(x, node) == fate.Gone {
				continue
			}
			want = append(want, node)
			i, ok := Where(l, node)
			below := strings.HasPrefix(l[i].Path, "/lost+found/")
			if !ok || below != (fate.Top(x, node) != root()) {
				t.Fatalf("%v is seen at %s, and one comes out at %v", node, l[i].Path, fate.Top(x, node))
			}
		}
		slices.SortFunc(seen, stamp.Compare)
		if !slices.Equal(seen, want) {
			t.Fatalf("%v are seen, not %v", seen, want)
		}
	}
	if trees < 200 {
		t.Errorf("only %d are trees", trees)
	}
}
