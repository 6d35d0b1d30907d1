package cache

import (
	"slices"
	"strconv"
	"testing"

	"banyan/api"
	"banyan/listing"
	"banyan/stamp"
	"banyan/table"
)

func at(time int) api.Stamp { return api.Stamp{Time: time} }

func root() api.Stamp { return stamp.Root() }

func lost() api.Stamp { return stamp.Lost() }

func trash() api.Stamp { return stamp.Trash() }

// dir tells the entry of a directory at a node.
func dir(parent api.Stamp, name string) table.Entry {
	return table.Entry{Parent: parent, Name: name, Dir: true}
}

// set gives a node an entry, which is to be OK.
func set(t *testing.T, c *Cache, node api.Stamp, e table.Entry) {
	t.Helper()
	if got := c.Set(node, e); got != api.OK {
		t.Fatalf("Set(%v, %v) = %d", node, e, got)
	}
}

// list asks what a directory shows, which is to be what its table says, and whether that was made anew.
func list(t *testing.T, c *Cache, anew bool, nodes ...api.Stamp) {
	t.Helper()
	was := c.Made()
	rows := c.List(nodes)
	if want := listing.Of(c.Table(), nodes); !listing.Same(rows, want) {
		t.Fatalf("List(%v) = %v, not %v", nodes, rows, want)
	}
	if got := c.Made() - was; got > 1 || (got == 1) != anew {
		t.Fatalf("of %v %d were made anew", nodes, got)
	}
}

// asked is a directory that one asked for, and whether anything of it was changed since.
type asked struct {
	nodes   []api.Stamp
	changed bool
}

// note writes down that the entry of a node that hung, or hangs now, at a parent was changed.
func note(l []asked, parent api.Stamp) {
	for i := range l {
		if slices.Contains(l[i].nodes, parent) || slices.Contains(l[i].nodes, lost()) {
			l[i].changed = true
		}
	}
}

// P21.1

func TestNewIsEmpty(t *testing.T) {
	c := New()
	if c.Len() != 0 || c.Made() != 0 || c.Table().Len() != 0 {
		t.Errorf("Len() = %d, Made() = %d, Table() has %d", c.Len(), c.Made(), c.Table().Len())
	}
	if e := c.Table().Set(at(1), dir(root(), "a")); e != api.OK || c.Len() != 0 {
		t.Errorf("Set of its Table = %d, and it has %d entries", e, c.Len())
	}
}

func TestSetAndDropAsThoseOfATable(t *testing.T) {
	c, x, n := New(), table.New(), 1
	for range 2000 {
		n = n * 75 % 65537
		node, parent := at(1+n%7), []api.Stamp{root(), trash(), at(1 + n/7%7), at(99)}[n/3%4]
		if n%5 == 0 {
			if got, want := c.Drop(node), x.Drop(node); got != want {
				t.Fatalf("Drop(%v) = %v", node, got)
			}
		} else {
			e := table.Entry{Parent: parent, Name: []string{"a", "b"}[n/2%2], Dir: n%3 > 0}
			x.Set(node, e)
			set(t, c, node, e)
		}
		if !table.Same(c.Table(), x) || c.Len() != x.Len() {
			t.Fatalf("it has %v, not %v", c.Table().Nodes(), x.Nodes())
		}
	}
}

func TestFollowByExample(t *testing.T) {
	c, x := New(), table.New()
	if n := c.Follow(x); n != 0 {
		t.Errorf("Follow of nothing = %d", n)
	}
	x.Set(at(1), dir(root(), "a"))
	x.Set(at(2), dir(at(1), "b"))
	x.Set(at(3), dir(at(1), "c"))
	for _, s := range []struct {
		do   func()
		want int
	}{
		{func() {}, 3},
		{func() {}, 0},
		{func() { x.Drop(at(2)) }, 1},
		{func() { x.Set(at(3), dir(at(1), "d")) }, 1},
		{func() { x.Set(at(3), table.Entry{Parent: at(1), Name: "d"}) }, 1},
		{func() { x.Set(at(3), table.Entry{Parent: root(), Name: "d"}) }, 1},
		{func() { x.Drop(at(1)); x.Set(at(4), table.Entry{}); x.Set(at(3), dir(root(), "")) }, 3},
		{func() { x.Set(at(3), dir(root(), "z")); x.Set(at(3), dir(root(), "")) }, 0},
		{func() { x.Drop(at(3)); x.Drop(at(4)) }, 2},
	} {
		s.do()
		was := x.Clone()
		if n := c.Follow(x); n != s.want || !table.Same(c.Table(), x) || c.Len() != x.Len() {
			t.Errorf("Follow = %d, not %d", n, s.want)
		}
		if !table.Same(x, was) {
			t.Error("what it follows was changed")
		}
	}
	set(t, c, at(7), dir(root(), "g"))
	if x.Len() != 0 || c.Len() != 1 {
		t.Error("they have something in common")
	}
	for _, none := range []*table.Table{nil, {}} {
		set(t, c, at(7), dir(root(), "g"))
		if n := c.Follow(none); n != 1 || c.Len() != 0 {
			t.Errorf("Follow of no table = %d", n)
		}
	}
}

func TestWhatIsToldMayBeChanged(t *testing.T) {
	c := New()
	set(t, c, at(1), dir(root(), "a"))
	set(t, c, at(2), dir(root(), "a"))
	c.Table().Drop(at(1))
	if c.Len() != 2 {
		t.Error("its Table is not another one")
	}
	room := []api.Stamp{root(), at(1), at(9)}
	for range 3 {
		rows := c.List(room[:2])
		if len(rows) != 2 || !slices.Equal(rows[0].Nodes, []api.Stamp{at(1), at(2)}) || rows[1].Name != "lost+found" {
			t.Fatalf("List = %v", rows)
		}
		for i := range rows {
			for j := range rows[i].Nodes {
				rows[i].Nodes[j] = at(50)
			}
			rows[i] = listing.Row{}
		}
		_ = append(rows[:0], listing.Row{Name: "x"})
	}
	if c.Made() != 1 || !slices.Equal(room, []api.Stamp{root(), at(1), at(9)}) {
		t.Errorf("Made() = %d, and what was handed in is %v", c.Made(), room)
	}
	// Who changes the nodes that were asked for does not change what was told of.
	room[1] = at(2)
	list(t, c, true, root(), at(2))
	list(t, c, false, root(), at(1))
	set(t, c, at(3), dir(at(1), "x"))
	list(t, c, true, root(), at(1))
}

func TestACacheThatNewDidNotMake(t *testing.T) {
	for _, c := range []*Cache{nil, {}, new(Cache)} {
		for range 2 {
			if e := c.Set(at(1), dir(root(), "a")); e != api.ErrNil {
				t.Errorf("Set = %d", e)
			}
			x := table.New()
			x.Set(at(1), dir(root(), "a"))
			if c.Drop(at(1)) || c.Follow(x) != 0 || c.Len() != 0 || c.Made() != 0 {
				t.Error("it has something")
			}
			if rows := c.List([]api.Stamp{root()}); len(rows) != 0 || c.Made() != 0 {
				t.Errorf("List = %v, Made() = %d", rows, c.Made())
			}
			if l := c.Table(); l.Len() != 0 || l.Set(at(1), table.Entry{}) != api.OK {
				t.Error("its Table is no empty one")
			}
		}
	}
}

// P21.2

func TestWhatIsMadeAnew(t *testing.T) {
	c := New()
	list(t, c, true, root())
	list(t, c, false, root())
	set(t, c, at(1), dir(root(), "d"))
	list(t, c, true, root())
	list(t, c, false, root())
	list(t, c, true, at(1))
	// A node in a directory below it.
	set(t, c, at(2), dir(at(1), "x"))
	list(t, c, false, root())
	list(t, c, true, at(1))
	list(t, c, true, at(2))
	// The entry that it has.
	set(t, c, at(2), dir(at(1), "x"))
	list(t, c, false, at(1))
	// Each part of an entry.
	set(t, c, at(2), dir(at(1), "y"))
	list(t, c, true, at(1))
	set(t, c, at(2), table.Entry{Parent: at(1), Name: "y"})
	list(t, c, true, at(1))
	// From one directory to another one.
	set(t, c, at(2), table.Entry{Parent: root(), Name: "y"})
	list(t, c, true, root())
	list(t, c, true, at(1))
	list(t, c, false, at(2))
	// To and fro: it was changed, though it is as it was.
	set(t, c, at(2), table.Entry{Parent: at(9), Name: "y"})
	set(t, c, at(2), table.Entry{Parent: root(), Name: "y"})
	list(t, c, true, root())
	list(t, c, false, at(1))
	// One that hung there once does not, any more.
	set(t, c, at(2), table.Entry{Parent: at(9), Name: "y"})
	list(t, c, true, root())
	list(t, c, true, at(9))
	set(t, c, at(2), table.Entry{Parent: at(9), Name: "z"})
	list(t, c, false, root())
	list(t, c, true, at(9))
	// Taken away.
	if !c.Drop(at(2)) || c.Drop(at(2)) {
		t.Error("Drop")
	}
	list(t, c, true, at(9))
	list(t, c, false, root())
	if !c.Drop(at(1)) {
		t.Error("Drop")
	}
	list(t, c, true, root())
	list(t, c, false, at(1))
	list(t, c, false, at(9))
}

func TestOneThatHadNoEntryDidNotHangAtTheRoot(t *testing.T) {
	c := New()
	list(t, c, true, root())
	set(t, c, at(5), dir(at(4), "x"))
	list(t, c, false, root())
	if c.Drop(at(6)) {
		t.Error("Drop of what there is not")
	}
	list(t, c, false, root())
}

func TestEachListOfNodesIsOneOfItsOwn(t *testing.T) {
	c := New()
	set(t, c, at(3), dir(at(1), "x"))
	lists := [][]api.Stamp{nil, {at(1)}, {at(2)}, {at(1), at(2)}, {at(2), at(1)}, {at(1), at(1)}, {at(1), at(2), at(1)}, {at(12)}, {at(1), at(12)}, {at(11), at(2)}, {{Time: 1, Rep: 1}}, {{Time: 1, Rep: 12}}, {{Time: 11, Rep: 2}}, {{Time: 1, Rep: 1}, at(12)}, {{Time: 1, Rep: 11}, at(2)}, {root()}, {trash()}}
	for i, nodes := range lists {
		list(t, c, true, nodes...)
		for _, other := range lists[:i+1] {
			list(t, c, false, other...)
		}
	}
	list(t, c, false, []api.Stamp{}...)
	if c.Made() != len(lists) {
		t.Errorf("Made() = %d, not %d", c.Made(), len(lists))
	}
	// What changes at one of the nodes changes all lists that have it.
	set(t, c, at(4), dir(at(2), "y"))
	for _, nodes := range lists {
		list(t, c, slices.Contains(nodes, at(2)), nodes...)
	}
}

func TestWhatWasLostIsMadeAnewWhateverChanges(t *testing.T) {
	c := New()
	list(t, c, true, lost())
	list(t, c, true, root(), lost())
	list(t, c, false, lost())
	for _, s := range []func(){
		func() { set(t, c, at(1), dir(trash(), "d")) },
		func() { set(t, c, at(2), dir(at(1), "x")) },
		func() { set(t, c, at(1), dir(root(), "d")) },
		func() { set(t, c, at(1), dir(root(), "e")) },
		func() { set(t, c, at(3), dir(at(2), "deep")) },
		func() { c.Drop(at(1)) },
		func() { c.Follow(nil) },
	} {
		s()
		list(t, c, true, lost())
		list(t, c, true, root(), lost())
		list(t, c, false, root(), lost())
		list(t, c, false, lost())
	}
	c.Drop(at(1))
	c.Follow(nil)
	list(t, c, false, lost())
}

func TestFollowMakesAnewOnlyWhereSomethingChanged(t *testing.T) {
	c, x := New(), table.New()
	for i := range 20 {
		x.Set(at(i+1), dir(root(), "d"+strconv.Itoa(i)))
		x.Set(at(i+101), dir(at(i+1), "x"))
	}
	c.Follow(x)
	all := func(anew func(i int) bool) {
		t.Helper()
		for i := range 20 {
			list(t, c, anew(i), at(i+1))
		}
	}
	all(func(int) bool { return true })
	list(t, c, true, root())
	c.Follow(x)
	all(func(int) bool { return false })
	x.Set(at(105), dir(at(8), "y"))
	x.Drop(at(110))
	x.Set(at(200), dir(at(13), "z"))
	c.Follow(x)
	all(func(i int) bool { return i == 4 || i == 7 || i == 9 || i == 12 })
	list(t, c, false, root())
	x.Set(at(3), dir(root(), "other"))
	c.Follow(x)
	all(func(int) bool { return false })
	list(t, c, true, root())
}

// P21.3

func TestManyChangesAsTheyAreWritten(t *testing.T) {
	some := [][]api.Stamp{{root()}, {lost()}, {at(1)}, {at(2)}, {at(3), at(1)}, {trash()}, {at(5)}, {root(), at(2)}, {at(2), lost()}}
	for seed := 1; seed < 30; seed++ {
		c, n := New(), seed
		var told []asked
		change := func(node api.Stamp, e table.Entry, put bool) bool {
			was, had := c.Table().Get(node)
			if had && put && was == e || !had && !put {
				return false
			}
			if had {
				note(told, was.Parent)
			}
			if put {
				note(told, e.Parent)
			}
			return true
		}
		for range 300 {
			n = n * 75 % 65537
			node := at(1 + n%5)
			e := table.Entry{Parent: []api.Stamp{root(), trash(), at(1 + n/5%5), at(1 + n/25%5), lost()}[n/7%5], Name: []string{"a", "b"}[n/3%2], Dir: n%4 > 0}
			switch n % 11 {
			case 0, 1:
				had := change(node, e, false)
				if c.Drop(node) != had {
					t.Fatalf("Drop(%v) = %v", node, !had)
				}
			case 2:
				x := c.Table()
				want := 0
				for i := range 1 + n/13%3 {
					other := at(1 + (n+i)%5)
					if change(other, e, i != 1) {
						want++
					}
					if i != 1 {
						x.Set(other, e)
					} else {
						x.Drop(other)
					}
				}
				if got := c.Follow(x); got != want {
					t.Fatalf("Follow = %d, not %d", got, want)
				}
			case 3, 4, 5, 6:
				change(node, e, true)
				set(t, c, node, e)
			default:
				nodes := some[n/11%len(some)]
				i := slices.IndexFunc(told, func(a asked) bool { return slices.Equal(a.nodes, nodes) })
				if i < 0 {
					told = append(told, asked{nodes, true})
					i = len(told) - 1
				}
				list(t, c, told[i].changed, nodes...)
				told[i].changed = false
			}
		}
	}
}
