package listing

import (
	"slices"
	"strconv"
	"strings"
	"testing"

	"banyan/api"
	"banyan/fate"
	"banyan/name"
	"banyan/stamp"
	"banyan/table"
	"banyan/unique"
)

func at(time int) api.Stamp { return api.Stamp{Time: time} }

func root() api.Stamp { return stamp.Root() }

func lost() api.Stamp { return stamp.Lost() }

// hang puts a node at a parent; the name of a directory has a / behind it.
func hang(t *table.Table, node, parent api.Stamp, s string) {
	n, dir := strings.CutSuffix(s, "/")
	t.Set(node, table.Entry{Parent: parent, Name: n, Dir: dir})
}

// text tells rows as text: the name, what was given if that is another one, a / of a directory, and the nodes' times.
func text(l []Row) string {
	var parts []string
	for _, r := range l {
		s := r.Name
		if r.Raw != r.Name {
			s += "(" + r.Raw + ")"
		}
		if r.Dir {
			s += "/"
		}
		for _, n := range r.Nodes {
			if n == lost() {
				s += " lost"
			} else {
				s += " " + strconv.Itoa(n.Time)
			}
		}
		parts = append(parts, s)
	}
	return strings.Join(parts, ", ")
}

// shows holds what a directory shows against a text.
func shows(t *testing.T, x *table.Table, want string, nodes ...api.Stamp) {
	t.Helper()
	if got := text(Of(x, nodes)); got != want {
		t.Errorf("of %v: %s, not %s", nodes, got, want)
	}
}

// some tells a table of nodes that hang at each other, at the root, at the trash, or at nobody.
func some(n, seed int) *table.Table {
	t := table.New()
	for i := range n {
		seed = (seed*75 + 74) % 65537
		parent := root()
		switch k := seed % 9; {
		case k == 0:
			parent = stamp.Trash()
		case k == 1:
			parent = at(500)
		case k == 2:
			parent = lost()
		case k < 7:
			parent = at(1 + seed/9%n)
		}
		t.Set(at(i+1), table.Entry{Parent: parent, Name: []string{"a", "b", "a~2", "lost+found"}[seed/7%4], Dir: seed%5 > 1})
	}
	return t
}

// byHand tells what a directory shows by the document's words.
func byHand(t *table.Table, nodes []api.Stamp) []Row {
	var rows []Row
	for _, node := range t.Nodes() {
		e, _ := t.Get(node)
		if !slices.Contains(nodes, e.Parent) && !(slices.Contains(nodes, lost()) && fate.Of(t, node) == fate.Lost) {
			continue
		}
		i := slices.IndexFunc(rows, func(r Row) bool { return r.Dir && e.Dir && r.Raw == e.Name })
		if i < 0 {
			rows = append(rows, Row{Raw: e.Name, Dir: e.Dir})
			i = len(rows) - 1
		}
		rows[i].Nodes = append(rows[i].Nodes, node)
	}
	// They stand by the times of their first nodes, so those of one name do, too, behind this.
	slices.SortStableFunc(rows, func(a, b Row) int { return strings.Compare(a.Raw, b.Raw) })
	var names, taken []string
	for _, r := range rows {
		names = append(names, r.Raw)
	}
	if slices.Contains(nodes, root()) {
		taken = []string{"lost+found"}
	}
	for i, s := range unique.Names(names, taken) {
		rows[i].Name = s
	}
	if len(taken) > 0 {
		rows = append(rows, Row{"lost+found", "lost+found", true, []api.Stamp{lost()}})
	}
	slices.SortStableFunc(rows, func(a, b Row) int { return strings.Compare(a.Name, b.Name) })
	return rows
}

// P19.1

func TestOfNothing(t *testing.T) {
	for _, x := range []*table.Table{nil, {}, table.New()} {
		shows(t, x, "lost+found/ lost", root())
		shows(t, x, "lost+found/ lost", root(), root())
		shows(t, x, "lost+found/ lost", lost(), root())
		shows(t, x, "", lost())
		shows(t, x, "", stamp.Trash())
		shows(t, x, "", at(1))
		shows(t, x, "")
	}
}

func TestTheRoot(t *testing.T) {
	x := table.New()
	hang(x, at(2), root(), "a")
	hang(x, at(1), root(), "a")
	shows(t, x, "a 1, a~2(a) 2, lost+found/ lost", root())
	hang(x, at(5), root(), "z/")
	hang(x, at(4), root(), "a/")
	hang(x, at(3), root(), "z/")
	hang(x, at(6), at(5), "deep")
	hang(x, at(7), at(3), "deep/")
	hang(x, at(8), stamp.Trash(), "gone")
	shows(t, x, "a 1, a~2(a) 2, a~3(a)/ 4, lost+found/ lost, z/ 3 5", root())
	shows(t, x, "deep 6, deep~2(deep)/ 7", at(3), at(5))
	shows(t, x, "deep 6, deep~2(deep)/ 7", at(5), at(3), at(5))
	shows(t, x, "deep 6", at(5))
	shows(t, x, "deep/ 7", at(3))
	shows(t, x, "", at(6))
	shows(t, x, "gone 8", stamp.Trash())
	shows(t, x, "", lost())
}

func TestLostAndFoundIsTaken(t *testing.T) {
	x := table.New()
	hang(x, at(1), root(), "lost+found/")
	hang(x, at(2), root(), "lost+found")
	hang(x, at(3), root(), "lost+found/")
	hang(x, at(4), root(), "lost+found~3")
	shows(t, x, "lost+found/ lost, lost+found~2(lost+found)/ 1 3, lost+found~3 4, lost+found~4(lost+found) 2", root())
	// Nowhere else.
	hang(x, at(5), at(1), "lost+found")
	shows(t, x, "lost+found 5", at(1))
	hang(x, at(6), at(99), "lost+found/")
	shows(t, x, "lost+found/ 6", lost())
}

func TestRowsStandByTheNamesByWhichTheyAreSeen(t *testing.T) {
	x, d := table.New(), at(90)
	for i, s := range []string{"a", "a", "a b", "a~", "a~2~", "b", "B", "\u20ac", "\xff", "a/", "a~2"} {
		hang(x, at(i+1), d, s)
	}
	shows(t, x, "B 7, a 1, a b 3, a~ 4, a~2 11, a~2~ 5, a~3(a) 2, a~4(a)/ 10, b 6, \u20ac 8, \xff 9", d)
}

func TestWhatWasLost(t *testing.T) {
	x := table.New()
	hang(x, at(1), stamp.Trash(), "d/")
	hang(x, at(2), at(1), "x")
	hang(x, at(3), at(1), "sub/")
	hang(x, at(4), at(3), "below")
	hang(x, at(5), at(99), "x")
	hang(x, at(6), root(), "f")
	hang(x, at(7), at(6), "sub/")
	hang(x, at(8), lost(), "x")
	shows(t, x, "sub/ 3 7, x 2, x~2(x) 5, x~3(x) 8", lost())
	shows(t, x, "below 4", at(3), at(7))
	shows(t, x, "f 6, lost+found/ lost", root())
	// The directory that was thrown away is asked beside it: each node is told once.
	shows(t, x, "sub/ 3 7, x 2, x~2(x) 5, x~3(x) 8", lost(), at(1))
	shows(t, x, "sub/ 3 7, x 2, x~2(x) 5, x~3(x) 8", at(1), lost(), lost())
	shows(t, x, "f 6, lost+found/ lost, sub/ 3 7, x 2, x~2(x) 5, x~3(x) 8", root(), lost())
	shows(t, x, "sub/ 3, x 2", at(1))
	shows(t, x, "d/ 1", stamp.Trash())
}

func TestOneThatHangsAtItself(t *testing.T) {
	x := table.New()
	hang(x, at(1), at(1), "a/")
	hang(x, at(2), at(2), "b")
	shows(t, x, "a/ 1", at(1))
	shows(t, x, "b 2", lost())
	shows(t, x, "b 2", at(2), lost())
}

func TestOfManyAsByHand(t *testing.T) {
	for seed := range 800 {
		x := some(12, seed)
		was := x.Clone()
		for _, nodes := range [][]api.Stamp{{root()}, {lost()}, {stamp.Trash()}, {at(1)}, {at(2), at(5)}, {at(5), at(2), at(9)}, {root(), at(3)}, {at(3), lost()}, {lost(), root(), at(500)}, {at(500)}, nil} {
			if got, want := Of(x, nodes), byHand(x, nodes); !slices.EqualFunc(got, want, func(a, b Row) bool {
				return a.Name == b.Name && a.Raw == b.Raw && a.Dir == b.Dir && slices.Equal(a.Nodes, b.Nodes)
			}) {
				t.Fatalf("of %v: %s, not %s", nodes, text(got), text(want))
			}
		}
		if !table.Same(x, was) {
			t.Fatal("the table was changed")
		}
	}
}

func TestWhatIsToldMayBeChanged(t *testing.T) {
	x := some(12, 8)
	room := []api.Stamp{root(), lost(), at(5), at(77)}
	nodes := room[:2]
	was := text(Of(x, nodes))
	rows := Of(x, nodes)
	for i := range rows {
		l := rows[i].Nodes[:cap(rows[i].Nodes)]
		others := text(slices.Delete(slices.Clone(rows), i, i+1))
		for j := range l {
			l[j] = at(1000 + i)
		}
		if text(slices.Delete(slices.Clone(rows), i, i+1)) != others {
			t.Errorf("to change the %d. row changed another one", i)
		}
	}
	if text(Of(x, nodes)) != was || !slices.Equal(room, []api.Stamp{root(), lost(), at(5), at(77)}) {
		t.Error("what was told is not the asker's own")
	}
}

// P19.2

func TestFind(t *testing.T) {
	l := []Row{
		{"a", "a", true, []api.Stamp{at(1), at(2)}},
		{"b", "a", false, []api.Stamp{at(3)}},
		{"b", "b", true, []api.Stamp{at(4)}},
		{"", "x", false, nil},
	}
	for _, x := range []struct {
		s    string
		want int
	}{
		{"a", 0}, {"b", 1}, {"", 3}, {"x", -1}, {"c", -1}, {"A", -1}, {"aa", -1},
	} {
		got, ok := Find(l, x.s)
		if x.want < 0 {
			if ok || !One(got, Row{}) {
				t.Errorf("Find(%q) = %v, %v", x.s, got, ok)
			}
		} else if !ok || !One(got, l[x.want]) {
			t.Errorf("Find(%q) = %v, %v", x.s, got, ok)
		}
	}
	if got, ok := Find(nil, ""); ok || !One(got, Row{}) {
		t.Errorf("Find in nothing = %v, %v", got, ok)
	}
	got, _ := Find(l, "a")
	got.Nodes[0] = at(9)
	if l[0].Nodes[0] != at(1) {
		t.Error("what was handed in was changed")
	}
}

// unlike tells rows of which no two are the same.
func unlike() []Row {
	return []Row{
		{},
		{"a", "a", true, []api.Stamp{at(1)}},
		{"b", "a", true, []api.Stamp{at(1)}},
		{"a", "b", true, []api.Stamp{at(1)}},
		{"a", "a", false, []api.Stamp{at(1)}},
		{"a", "a", true, []api.Stamp{at(2)}},
		{"a", "a", true, []api.Stamp{{Time: 1, Rep: 1}}},
		{"a", "a", true, []api.Stamp{at(1), at(2)}},
		{"a", "a", true, []api.Stamp{at(2), at(1)}},
		{"a", "a", true, nil},
	}
}

func TestOne(t *testing.T) {
	for i, a := range unlike() {
		for j, b := range unlike() {
			if got := One(a, b); got != (i == j) {
				t.Errorf("One(%v, %v) = %v", a, b, got)
			}
		}
	}
	if !One(Row{Name: "a"}, Row{Name: "a", Nodes: []api.Stamp{}}) {
		t.Error("lists that are nil, and empty ones, are alike")
	}
}

func TestSame(t *testing.T) {
	if !Same(nil, nil) || !Same(nil, []Row{}) || !Same([]Row{}, nil) {
		t.Error("lists that are nil, and empty ones, are alike")
	}
	l := unlike()
	for i, a := range l {
		for j, b := range l {
			if Same([]Row{l[1], a}, []Row{l[1], b}) != (i == j) || Same([]Row{a, l[1]}, []Row{b, l[1]}) != (i == j) {
				t.Errorf("Same of lists with %v, and with %v", a, b)
			}
		}
		if Same(l[:i], l[:i+1]) || Same(l[:i+1], l[:i]) || !Same(l[:i], slices.Clone(l[:i])) {
			t.Errorf("Same of the first %d", i)
		}
	}
}

// P19.3

func TestRowsHaveUnlikeNamesAndEachNodeIsInOne(t *testing.T) {
	for seed := range 500 {
		x := some(15, seed)
		for _, nodes := range [][]api.Stamp{{root()}, {lost()}, {at(1), at(4)}, {at(2)}} {
			var all []api.Stamp
			names := map[string]int{}
			for _, r := range Of(x, nodes) {
				if names[r.Name]++; names[r.Name] > 1 || name.Check(r.Name) != api.OK {
					t.Fatalf("of %v: %s", nodes, text(Of(x, nodes)))
				}
				all = append(all, r.Nodes...)
			}
			var want []api.Stamp
			for _, node := range x.Nodes() {
				e, _ := x.Get(node)
				if slices.Contains(nodes, e.Parent) || nodes[0] == lost() && fate.Of(x, node) == fate.Lost {
					want = append(want, node)
				}
			}
			if nodes[0] == root() {
				want = append(want, lost())
			}
			slices.SortFunc(all, stamp.Compare)
			slices.SortFunc(want, stamp.Compare)
			if !slices.Equal(all, want) {
				t.Fatalf("of %v: %v, not %v", nodes, all, want)
			}
		}
	}
}
