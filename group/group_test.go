package group

import (
	"slices"
	"strings"
	"testing"

	"banyan/api"
	"banyan/stamp"
)

func at(time, rep int) api.Stamp { return api.Stamp{Time: time, Rep: rep} }

// dir tells an item that is a directory; file one that is none.
func dir(time int, name string) Item  { return Item{at(time, 0), name, true} }
func file(time int, name string) Item { return Item{at(time, 0), name, false} }

// dirs tells the group of directories of one name, that were made at some times; lone tells that of a file.
func dirs(name string, times ...int) Group {
	g := Group{Name: name, Dir: true}
	for _, time := range times {
		g.Nodes = append(g.Nodes, at(time, 0))
	}
	return g
}
func lone(name string, time int) Group { return Group{name, false, []api.Stamp{at(time, 0)}} }

// some tells items of few names.
func some(n, seed int) []Item {
	var l []Item
	for i := range n {
		seed = (seed*75 + 74) % 65537
		l = append(l, Item{at(1+i/3, i%3*31), []string{"a", "b", "a~2", ""}[seed%4], seed/4%3 > 0})
	}
	return l
}

// shuffled tells a list in another order.
func shuffled(l []Item, seed int) []Item {
	l = slices.Clone(l)
	for i := range l {
		seed = (seed*75 + 74) % 65537
		j := seed % (i + 1)
		l[i], l[j] = l[j], l[i]
	}
	return l
}

// P17.1

func TestOfByExample(t *testing.T) {
	for _, x := range []struct {
		l    []Item
		want []Group
	}{
		{nil, nil},
		{[]Item{}, nil},
		{[]Item{dir(3, "a"), dir(1, "a"), file(2, "a")}, []Group{dirs("a", 1, 3), lone("a", 2)}},
		{[]Item{dir(3, "a"), file(1, "a"), dir(2, "a")}, []Group{lone("a", 1), dirs("a", 2, 3)}},
		{[]Item{file(3, "a"), file(1, "a"), file(2, "a")}, []Group{lone("a", 1), lone("a", 2), lone("a", 3)}},
		{[]Item{dir(9, "a"), dir(5, "b"), dir(1, "b"), dir(7, "a")}, []Group{dirs("a", 7, 9), dirs("b", 1, 5)}},
		{[]Item{file(1, "b"), file(2, "a"), file(3, "B"), file(4, "")}, []Group{lone("", 4), lone("B", 3), lone("a", 2), lone("b", 1)}},
		{[]Item{dir(1, "aa"), dir(2, "a"), dir(3, "a\x00"), dir(4, "\xff"), dir(5, "\u20ac")}, []Group{dirs("a", 2), dirs("a\x00", 3), dirs("aa", 1), dirs("\u20ac", 5), dirs("\xff", 4)}},
		{[]Item{file(4, "a"), dir(5, "a"), file(6, "a"), dir(3, "a"), file(2, "a")}, []Group{lone("a", 2), dirs("a", 3, 5), lone("a", 4), lone("a", 6)}},
		{[]Item{dir(1, "")}, []Group{dirs("", 1)}},
	} {
		was := slices.Clone(x.l)
		got := Of(x.l)
		if !slices.EqualFunc(got, x.want, func(a, b Group) bool {
			return a.Name == b.Name && a.Dir == b.Dir && slices.Equal(a.Nodes, b.Nodes)
		}) {
			t.Errorf("Of(%v) = %v, not %v", x.l, got, x.want)
		}
		if !slices.Equal(x.l, was) {
			t.Errorf("%v became %v", was, x.l)
		}
	}
}

func TestNodesRiseByTimesThenByReplicas(t *testing.T) {
	l := []Item{{at(2, 1), "a", true}, {at(1, 63), "a", true}, {at(2, 0), "a", true}, {at(10, 0), "a", true}, {at(1, 9), "a", true}}
	want := []api.Stamp{at(1, 9), at(1, 63), at(2, 0), at(2, 1), at(10, 0)}
	if got := Of(l); len(got) != 1 || !slices.Equal(got[0].Nodes, want) {
		t.Errorf("Of(%v) = %v", l, got)
	}
}

func TestCompareByExample(t *testing.T) {
	// Each is behind the one ahead of it; what Dir is does not matter.
	l := []Group{
		{"", true, nil},
		{"", false, []api.Stamp{at(9, 0)}},
		{"A", true, []api.Stamp{at(9, 0)}},
		{"a", false, []api.Stamp{}},
		{"a", true, []api.Stamp{at(-1, 0)}},
		{"a", true, []api.Stamp{at(0, 0)}},
		{"a", false, []api.Stamp{at(1, 5), at(0, 0)}},
		{"a", true, []api.Stamp{at(1, 6)}},
		{"a", true, []api.Stamp{at(2, 0)}},
		{"a\x00", true, nil},
		{"aa", true, nil},
		{"b", true, nil},
		{"\u20ac", true, nil},
		{"\xff", false, nil},
	}
	for i, a := range l {
		for j, b := range l {
			want := 0
			if i < j {
				want = -1
			} else if i > j {
				want = 1
			}
			if got := Compare(a, b); got != want {
				t.Errorf("Compare(%v, %v) = %d, not %d", a, b, got, want)
			}
		}
	}
	for _, x := range [][2]Group{
		{dirs("a", 1), lone("a", 1)},
		{dirs("a", 1, 2), dirs("a", 1, 3, 4)},
		{dirs("a", 1), dirs("a", 1, 2)},
		{dirs("a"), {Name: "a", Nodes: []api.Stamp{}}},
		{{}, {}},
	} {
		if Compare(x[0], x[1]) != 0 || Compare(x[1], x[0]) != 0 {
			t.Errorf("of %v and %v none is ahead", x[0], x[1])
		}
	}
}

func TestGroupsStandByCompare(t *testing.T) {
	for seed := range 300 {
		l := Of(some(20, seed))
		for i := 1; i < len(l); i++ {
			a, b := l[i-1], l[i]
			if Compare(a, b) != -1 || strings.Compare(a.Name, b.Name) > 0 || a.Name == b.Name && stamp.Compare(a.Nodes[0], b.Nodes[0]) >= 0 {
				t.Fatalf("%v stands ahead of %v", a, b)
			}
		}
	}
}

// P17.2

func TestItemsByExample(t *testing.T) {
	for _, x := range []struct {
		l    []Group
		want []Item
	}{
		{nil, nil},
		{[]Group{{}, dirs("a")}, nil},
		{[]Group{dirs("a", 1, 3), lone("a", 2)}, []Item{dir(1, "a"), dir(3, "a"), file(2, "a")}},
		{[]Group{dirs("b", 5, 4), dirs("a", 1)}, []Item{dir(5, "b"), dir(4, "b"), dir(1, "a")}},
		{[]Group{{"f", false, []api.Stamp{at(1, 0), at(1, 0)}}}, []Item{file(1, "f"), file(1, "f")}},
	} {
		if got := Items(x.l); !slices.Equal(got, x.want) {
			t.Errorf("Items(%v) = %v, not %v", x.l, got, x.want)
		}
	}
}

func TestSame(t *testing.T) {
	// Of these no two are the same.
	l := [][]Group{
		nil,
		{{}},
		{{}, {}},
		{dirs("a")},
		{dirs("a", 1)},
		{dirs("a", 2)},
		{dirs("a", 1, 2)},
		{dirs("a", 2, 1)},
		{dirs("b", 1)},
		{lone("a", 1)},
		{{"a", true, []api.Stamp{at(1, 1)}}},
		{dirs("a", 1), lone("a", 2)},
		{lone("a", 2), dirs("a", 1)},
		{dirs("a", 1), dirs("a", 2)},
		{dirs("a", 1), lone("a", 3)},
	}
	for i, a := range l {
		for j, b := range l {
			b = slices.Clone(b)
			if got := Same(a, b); got != (i == j) {
				t.Errorf("Same(%v, %v) = %v", a, b, got)
			}
		}
	}
	if !Same(nil, []Group{}) || !Same([]Group{}, nil) || !Same([]Group{{Name: "a"}}, []Group{{Name: "a", Nodes: []api.Stamp{}}}) {
		t.Error("lists that are nil, and empty ones, are alike")
	}
}

func TestWhatIsToldMayBeChanged(t *testing.T) {
	l := some(12, 5)
	was := slices.Clone(l)
	groups := Of(l)
	items := Items(groups)
	for _, g := range groups {
		nodes := g.Nodes[:cap(g.Nodes)]
		for i := range nodes {
			nodes[i] = at(99, 9)
		}
	}
	if !slices.Equal(l, was) {
		t.Error("the items that were handed in were changed")
	}
	for i, x := range Items(Of(l)) {
		if x != items[i] {
			t.Fatal("the items that were told were changed")
		}
	}
}

func TestNoTwoGroupsShareMemory(t *testing.T) {
	groups := Of(some(12, 5))
	for i := range groups {
		others := Items(slices.Delete(slices.Clone(groups), i, i+1))
		nodes := groups[i].Nodes[:cap(groups[i].Nodes)]
		for j := range nodes {
			nodes[j] = at(99, i)
		}
		if !slices.Equal(others, Items(slices.Delete(slices.Clone(groups), i, i+1))) {
			t.Fatalf("to change the %d. group changed another one", i)
		}
	}
}

// P17.3

func TestEachItemIsInJustOneGroupWhateverTheOrder(t *testing.T) {
	for seed := range 300 {
		l := some(seed%25, seed)
		groups := Of(l)
		if !Same(groups, Of(shuffled(l, seed+1))) {
			t.Fatalf("%v is told another way in another order", l)
		}
		items := Items(groups)
		if len(items) != len(l) {
			t.Fatalf("%d items became %d", len(l), len(items))
		}
		for _, x := range l {
			if !slices.Contains(items, x) {
				t.Fatalf("%v is in no group of %v", x, groups)
			}
		}
		if !Same(Of(items), groups) {
			t.Fatalf("the items of %v have other groups", groups)
		}
		names := map[string]int{}
		for _, g := range groups {
			if g.Dir {
				names[g.Name]++
			} else if len(g.Nodes) != 1 {
				t.Fatalf("files are put together: %v", g)
			}
		}
		for name, n := range names {
			if n != 1 {
				t.Fatalf("directories %q are %d groups", name, n)
			}
		}
	}
}
