package tidy

import (
	"slices"
	"strings"
	"testing"

	"banyan/api"
	"banyan/call"
	"banyan/listing"
	"banyan/stamp"
	"banyan/table"
	"banyan/view"
)

func at(time int) api.Stamp { return api.Stamp{Time: time} }

func root() api.Stamp { return stamp.Root() }

func trash() api.Stamp { return stamp.Trash() }

// hang puts a node at a parent; the name of a directory has a / behind it.
func hang(t *table.Table, node, parent api.Stamp, s string) {
	n, dir := strings.CutSuffix(s, "/")
	t.Set(node, table.Entry{Parent: parent, Name: n, Dir: dir})
}

// put tells the change that puts a node somewhere; the name of a directory has a / behind it.
func put(node, parent api.Stamp, s string) call.Change {
	n, dir := strings.CutSuffix(s, "/")
	return call.Change{Node: node, Parent: parent, Name: n, Dir: dir}
}

// plan asks for just these changes.
func plan(t *testing.T, x *table.Table, want ...call.Change) {
	t.Helper()
	was := x.Clone()
	if got := Plan(x); !slices.Equal(got, want) {
		t.Errorf("%v is planned, not %v", got, want)
	}
	if !table.Same(x, was) {
		t.Error("the table was changed")
	}
}

// row tells the place of a row.
func row(name, raw string, nodes int) view.Place {
	return view.Place{Row: listing.Row{Name: name, Raw: raw, Nodes: make([]api.Stamp, nodes)}}
}

// P41.1

func TestOddPlainSingle(t *testing.T) {
	ok, named, double, both, none := row("a", "a", 1), row("a~2", "a", 1), row("b", "b", 2), row("b~2", "b", 3), row("c", "c", 0)
	for _, x := range []struct {
		l      []view.Place
		odd    []int
		plain  bool
		single bool
	}{
		{nil, nil, true, true},
		{[]view.Place{ok, ok}, nil, true, true},
		{[]view.Place{ok, named}, []int{1}, false, true},
		{[]view.Place{double, ok}, []int{0}, true, false},
		{[]view.Place{both}, []int{0}, false, false},
		{[]view.Place{none}, nil, true, false},
		{[]view.Place{ok, named, ok, double, both, none, named}, []int{1, 3, 4, 6}, false, false},
		{[]view.Place{row("", "", 1), row("A", "a", 1)}, []int{1}, false, true},
	} {
		if got := Odd(x.l); !slices.Equal(got, x.odd) {
			t.Errorf("Odd = %v, not %v", got, x.odd)
		}
		if Plain(x.l) != x.plain || Single(x.l) != x.single {
			t.Errorf("of %v: Plain = %v, Single = %v", x.l, Plain(x.l), Single(x.l))
		}
	}
}

// P41.2

func TestPlanOfNothing(t *testing.T) {
	plan(t, nil)
	plan(t, table.New())
	x := table.New()
	hang(x, at(1), root(), "a/")
	hang(x, at(2), at(1), "b")
	hang(x, at(3), trash(), "gone/")
	hang(x, at(4), at(3), "lost/")
	hang(x, at(5), at(4), "in")
	plan(t, x)
}

func TestPlanByExample(t *testing.T) {
	x := table.New()
	hang(x, at(1), root(), "a")
	hang(x, at(2), root(), "a")
	plan(t, x, put(at(2), root(), "a~2"))
}

func TestPlan(t *testing.T) {
	x := table.New()
	hang(x, at(1), root(), "d/")
	hang(x, at(2), root(), "d/")
	hang(x, at(3), root(), "d/")
	hang(x, at(4), root(), "d")
	hang(x, at(5), at(2), "f")
	hang(x, at(6), at(1), "f")
	hang(x, at(7), at(3), "e/")
	hang(x, at(8), at(1), "e/")
	hang(x, at(9), at(7), "deep")
	hang(x, at(10), at(8), "deeper")
	plan(t, x,
		put(at(2), trash(), "d/"), put(at(3), trash(), "d/"),
		put(at(7), at(1), "e/"), put(at(8), trash(), "e/"),
		put(at(10), at(7), "deeper"),
		put(at(5), at(1), "f"),
		put(at(6), at(1), "f~2"),
		put(at(4), root(), "d~2"))
}

func TestADirectoryWhoseNameIsNotItsOwn(t *testing.T) {
	x := table.New()
	hang(x, at(1), root(), "a")
	hang(x, at(2), root(), "a/")
	hang(x, at(3), root(), "a/")
	hang(x, at(4), root(), "lost+found/")
	plan(t, x, put(at(2), root(), "a~2/"), put(at(3), trash(), "a/"), put(at(4), root(), "lost+found~2/"))
}

func TestWhatWasLostStaysWhereItHangs(t *testing.T) {
	x := table.New()
	hang(x, at(1), trash(), "d/")
	hang(x, at(2), at(1), "x/")
	hang(x, at(3), at(99), "x/")
	hang(x, at(4), at(3), "y")
	hang(x, at(5), root(), "file")
	hang(x, at(6), at(5), "z")
	hang(x, at(7), at(1), "z")
	plan(t, x, put(at(3), trash(), "x/"), put(at(4), at(2), "y"), put(at(7), at(1), "z~2"))
}

// P41.3

// some tells a table of nodes that hang at each other, at the root, at the trash, or at nobody.
func some(n, seed int) *table.Table {
	t := table.New()
	for i := range n {
		seed = (seed*75 + 74) % 65537
		parent := root()
		switch k := seed % 9; {
		case k == 0:
			parent = trash()
		case k == 1:
			parent = at(500)
		case k < 7:
			parent = at(1 + seed/9%n)
		}
		t.Set(at(i+1), table.Entry{Parent: parent, Name: []string{"a", "a~2", "b", "lost+found"}[seed/7%4], Dir: seed%4 > 0})
	}
	return t
}

func TestBehindAPlanNothingIsOdd(t *testing.T) {
	trees, changed := 0, 0
	for seed := range 3000 {
		x := some(11, seed)
		if slices.ContainsFunc(x.Nodes(), func(node api.Stamp) bool { return x.Above(node, node) }) {
			continue
		}
		trees++
		was := view.Of(x)
		for _, c := range Plan(x) {
			changed++
			if c.New {
				t.Fatalf("%v is new", c)
			}
			x.Set(c.Node, table.Entry{Parent: c.Parent, Name: c.Name, Dir: c.Dir})
		}
		now := view.Of(x)
		same := slices.EqualFunc(was, now, func(a, b view.Place) bool { return a.Path == b.Path && a.Row.Dir == b.Row.Dir })
		if !same || len(Odd(now)) != 0 || !Plain(now) || !Single(now) {
			t.Fatalf("from %v to %v", was, now)
		}
		plan(t, x)
	}
	if trees < 300 || changed < 1000 {
		t.Errorf("only %d trees, and %d changes", trees, changed)
	}
}
