package watch

import (
	"slices"
	"strings"
	"testing"

	"banyan/api"
	"banyan/listing"
	"banyan/stamp"
	"banyan/table"
	"banyan/view"
)

func at(time int) api.Stamp { return api.Stamp{Time: time} }

func root() api.Stamp { return stamp.Root() }

// hang puts a node at a parent; the name of a directory has a / behind it.
func hang(t *table.Table, node, parent api.Stamp, s string) {
	n, dir := strings.CutSuffix(s, "/")
	t.Set(node, table.Entry{Parent: parent, Name: n, Dir: dir})
}

// some tells a table of nodes that hang at each other, at the root, at the trash, or at nobody.
func some(n, seed int) *table.Table {
	t := table.New()
	for i := range n {
		seed = (seed*75 + 74) % 65537
		parent := root()
		switch k := seed % 9; {
		case k == 0:
			parent = stamp.Trash()
		case k == 1:
			parent = at(500)
		case k < 7:
			parent = at(1 + seed/9%n)
		}
		if seed%11 > 0 {
			t.Set(at(i+1), table.Entry{Parent: parent, Name: []string{"a", "b", "a~2", "lost+found"}[seed/7%4], Dir: seed%5 > 0})
		}
	}
	return t
}

// texts tells events as texts.
func texts(l []Event) []string {
	var s []string
	for _, e := range l {
		s = append(s, Text(e))
	}
	return s
}

// check holds events against texts.
func check(t *testing.T, l []Event, want ...string) {
	t.Helper()
	if got := texts(l); !slices.Equal(got, want) {
		t.Errorf("%q is told, not %q", got, want)
	}
}

// P34.1

func TestPaths(t *testing.T) {
	x := table.New()
	hang(x, at(7), root(), "d/")
	hang(x, at(2), root(), "d/")
	hang(x, at(5), at(7), "f")
	hang(x, at(1), at(2), "f")
	hang(x, at(4), stamp.Trash(), "gone/")
	hang(x, at(3), at(4), "x y/")
	hang(x, at(6), at(6), "ring/")
	l := Paths(view.Of(x))
	check(t, l, "+ 1.0 /d/f", "+ 2.0 dir /d", "+ 3.0 dir /lost+found/x%20y", "+ 5.0 /d/f~2", "+ 7.0 dir /d")
	if l[1] != (Event{Made, at(2), true, "", "/d"}) || l[0] != (Event{Made, at(1), false, "", "/d/f"}) {
		t.Errorf("%v", l)
	}
	// The root, and what was lost, are no nodes that count.
	check(t, Paths(view.Of(nil)))
	check(t, Paths(nil))
}

func TestDiffByExample(t *testing.T) {
	x := table.New()
	hang(x, at(1), root(), "a/")
	hang(x, at(2), at(1), "f")
	hang(x, at(3), root(), "b/")
	hang(x, at(4), root(), "g")
	hang(x, at(5), root(), "same")
	y := x.Clone()
	hang(y, at(1), at(3), "c/")
	hang(y, at(4), stamp.Trash(), "g")
	hang(y, at(6), root(), "new/")
	hang(y, at(7), at(6), "h")
	a, b := view.Of(x), view.Of(y)
	l := Diff(a, b)
	check(t, l, "> 1.0 dir /a /b/c", "> 2.0 /a/f /b/c/f", "- 4.0 /g", "+ 6.0 dir /new", "+ 7.0 /new/h")
	if l[0] != (Event{Moved, at(1), true, "/a", "/b/c"}) || l[2] != (Event{Gone, at(4), false, "/g", ""}) || l[3] != (Event{Made, at(6), true, "", "/new"}) {
		t.Errorf("%v", l)
	}
	check(t, Diff(b, a), "> 1.0 dir /b/c /a", "> 2.0 /b/c/f /a/f", "+ 4.0 /g", "- 6.0 dir /new", "- 7.0 /new/h")
	check(t, Diff(nil, nil))
	check(t, Diff(nil, a), texts(Paths(a))...)
}

func TestOfANodeThatMovedItsPlaceIsToldAsItIsNow(t *testing.T) {
	x, y := table.New(), table.New()
	hang(x, at(1), root(), "a")
	hang(y, at(1), root(), "b/")
	check(t, Diff(view.Of(x), view.Of(y)), "> 1.0 dir /a /b")
	check(t, Diff(view.Of(y), view.Of(x)), "> 1.0 /b /a")
	// Where the path is the same one nothing is told, whatever stands there.
	hang(y, at(1), root(), "a/")
	check(t, Diff(view.Of(x), view.Of(y)))
}

func TestTheFirstPlaceOfANodeCounts(t *testing.T) {
	row := func(node api.Stamp) listing.Row { return listing.Row{Nodes: []api.Stamp{node}} }
	l := []view.Place{{Path: "/x", Row: row(at(1))}, {Path: "/y", Row: listing.Row{Dir: true, Nodes: []api.Stamp{at(1), at(2)}}}}
	check(t, Paths(l), "+ 1.0 /x", "+ 2.0 dir /y")
	for _, node := range []api.Stamp{root(), stamp.Trash(), stamp.Lost(), {Time: 1, Rep: 64}, {Time: -1}, {Time: api.MaxTime + 1}} {
		check(t, Paths([]view.Place{{Path: "/x", Row: row(node)}}))
		check(t, Diff([]view.Place{{Path: "/x", Row: row(node)}}, nil))
	}
}

func TestNodesRiseByTimesAndReplicas(t *testing.T) {
	x := table.New()
	for _, node := range []api.Stamp{{Time: 10, Rep: 0}, {Time: 9, Rep: 2}, {Time: 9, Rep: 1}, {Time: 100, Rep: 0}} {
		hang(x, node, root(), "f"+stamp.Text(node))
	}
	check(t, Paths(view.Of(x)), "+ 9.1 /f9.1", "+ 9.2 /f9.2", "+ 10.0 /f10.0", "+ 100.0 /f100.0")
}

// P34.2

func TestBack(t *testing.T) {
	l := []Event{{Made, at(1), true, "", "/a"}, {Gone, at(2), false, "/b", ""}, {Moved, at(3), true, "/c", "/d"}, {0, at(4), false, "/e", "/f"}, {9, at(5), true, "", ""}, {Made, at(6), false, "/g", "/h"}}
	want := []Event{{Gone, at(1), true, "/a", ""}, {Made, at(2), false, "", "/b"}, {Moved, at(3), true, "/d", "/c"}, {0, at(4), false, "/f", "/e"}, {9, at(5), true, "", ""}, {Gone, at(6), false, "/h", "/g"}}
	was := slices.Clone(l)
	back := Back(l)
	if !slices.Equal(back, want) || !slices.Equal(l, was) {
		t.Errorf("Back = %v", back)
	}
	if again := Back(back); !slices.Equal(again, l) {
		t.Errorf("there and back it is %v", again)
	}
	if len(Back(nil)) != 0 {
		t.Error("of nothing")
	}
}

func TestText(t *testing.T) {
	for want, e := range map[string]Event{
		"+ 1.0 dir /a":       {Made, at(1), true, "", "/a"},
		"- 2.7 /b":           {Gone, api.Stamp{Time: 2, Rep: 7}, false, "/b", ""},
		"> 3.0 dir /c%20 /d": {Moved, at(3), true, "/c ", "/d"},
		"? 4.0 /e /f":        {0, at(4), false, "/e", "/f"},
		"? 4.0":              {4, at(4), false, "", ""},
		"? 0.0 dir":          {-1, root(), true, "", ""},
		"+ 5.0 x%25 y":       {Made, at(5), false, "x%", "y"},
	} {
		if got := Text(e); got != want {
			t.Errorf("Text(%v) = %q, not %q", e, got, want)
		}
	}
	if Made != 1 || Gone != 2 || Moved != 3 {
		t.Error("kinds")
	}
}

// P34.3

// apply does to paths what events tell.
func apply(t *testing.T, paths map[api.Stamp]string, l []Event) {
	t.Helper()
	for _, e := range l {
		was, ok := paths[e.Node]
		if ok != (e.Kind != Made) || was != e.From {
			t.Fatalf("%v is told of %q", e, was)
		}
		if e.Kind == Gone {
			delete(paths, e.Node)
		} else {
			paths[e.Node] = e.To
		}
	}
}

func pathsOf(l []view.Place) map[api.Stamp]string {
	paths := map[api.Stamp]string{}
	for _, e := range Paths(l) {
		paths[e.Node] = e.To
	}
	return paths
}

func TestWhoDoesWhatIsToldHasTheOtherPaths(t *testing.T) {
	for seed := range 300 {
		a, b := view.Of(some(12, seed)), view.Of(some(12, seed+1000))
		check(t, Diff(a, a))
		paths := pathsOf(a)
		l := Diff(a, b)
		apply(t, paths, l)
		want := pathsOf(b)
		if len(paths) != len(want) {
			t.Fatalf("%v, not %v", paths, want)
		}
		for node, s := range want {
			if paths[node] != s {
				t.Fatalf("%v is at %s, not at %s", node, paths[node], s)
			}
			if i, ok := view.Where(b, node); !ok || b[i].Path != s {
				t.Fatalf("%v is seen at %s, not at %s", node, b[i].Path, s)
			}
		}
		back := Back(l)
		for i, e := range Diff(b, a) {
			e.Dir, back[i].Dir = false, false
			if e != back[i] {
				t.Fatalf("%v, not %v", e, back[i])
			}
		}
		if !slices.IsSortedFunc(l, func(a, b Event) int { return stamp.Compare(a.Node, b.Node) }) {
			t.Fatalf("%v", l)
		}
	}
}
