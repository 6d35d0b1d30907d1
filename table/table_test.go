package table

import (
	"math"
	"slices"
	"testing"

	"banyan/api"
	"banyan/stamp"
)

func at(time, rep int) api.Stamp { return api.Stamp{Time: time, Rep: rep} }

// in tells the entry of a directory at a node.
func in(parent api.Stamp, name string) Entry {
	return Entry{Parent: parent, Name: name, Dir: true}
}

func same(a, b []api.Stamp) bool { return slices.Equal(a, b) }

// put gives a node an entry, which is to be OK.
func put(t *testing.T, x *Table, node api.Stamp, e Entry) {
	t.Helper()
	if got := x.Set(node, e); got != api.OK {
		t.Fatalf("Set(%v, %v) = %d", node, e, got)
	}
}

// chain tells a table in which each node hangs at the one ahead of it, and the first one at the root.
func chain(t *testing.T, nodes ...api.Stamp) *Table {
	t.Helper()
	x := New()
	up := stamp.Root()
	for _, node := range nodes {
		put(t, x, node, in(up, "n"))
		up = node
	}
	return x
}

// line is what is written of a node.
type line struct {
	node api.Stamp
	e    Entry
}

// paper is a table as one writes it down: by lines, in any order.
type paper []line

func (p paper) find(node api.Stamp) int {
	return slices.IndexFunc(p, func(l line) bool { return l.node == node })
}

func (p paper) set(node api.Stamp, e Entry) paper {
	if i := p.find(node); i >= 0 {
		p[i].e = e
		return p
	}
	return append(p, line{node, e})
}

func (p paper) drop(node api.Stamp) (paper, bool) {
	if i := p.find(node); i >= 0 {
		return slices.Delete(p, i, i+1), true
	}
	return p, false
}

// nodes tells those that are asked for, rising.
func (p paper) nodes(which func(line) bool) []api.Stamp {
	var l []api.Stamp
	for _, x := range p {
		if which(x) {
			l = stamp.Put(l, x.node)
		}
	}
	return l
}

// above goes up, and notes all that it comes to.
func (p paper) above(node, of api.Stamp) bool {
	var been []api.Stamp
	for {
		i := p.find(of)
		if i < 0 {
			return false
		}
		of = p[i].e.Parent
		if of == node {
			return true
		}
		if slices.Contains(been, of) {
			return false
		}
		been = append(been, of)
	}
}

// few tells the nodes of which the tests are made: reserved ones, right ones, and those that are neither.
func few() []api.Stamp {
	return []api.Stamp{at(-1, 5), stamp.Root(), stamp.Trash(), stamp.Lost(), at(1, 0), at(1, 63), at(2, 0), at(3, -7), at(1<<48, 3), at(math.MaxInt, math.MaxInt)}
}

// check holds a table against what is written.
func check(t *testing.T, x *Table, p paper) {
	t.Helper()
	if x.Len() != len(p) {
		t.Fatalf("Len() = %d, not %d", x.Len(), len(p))
	}
	all := p.nodes(func(line) bool { return true })
	if got := x.Nodes(); !same(got, all) {
		t.Fatalf("Nodes() = %v, not %v", got, all)
	}
	for _, node := range append(few(), at(77, 7)) {
		var want Entry
		i := p.find(node)
		if i >= 0 {
			want = p[i].e
		}
		if got, ok := x.Get(node); got != want || ok != (i >= 0) {
			t.Fatalf("Get(%v) = %v, %v, not %v", node, got, ok, want)
		}
		kids := p.nodes(func(l line) bool { return l.e.Parent == node })
		if got := x.Kids(node); !same(got, kids) {
			t.Fatalf("Kids(%v) = %v, not %v", node, got, kids)
		}
		for _, of := range few() {
			if got, want := x.Above(node, of), p.above(node, of); got != want {
				t.Fatalf("of %v: Above(%v, %v) = %v", p, node, of, got)
			}
		}
	}
}

// P13.1

func TestNewIsEmpty(t *testing.T) {
	check(t, New(), nil)
}

func TestSetGetDropByExample(t *testing.T) {
	x, a, b := New(), at(1, 0), at(2, 0)
	put(t, x, a, in(stamp.Root(), "a"))
	put(t, x, b, Entry{a, "b", false})
	check(t, x, paper{{a, in(stamp.Root(), "a")}, {b, Entry{a, "b", false}}})
	put(t, x, b, Entry{stamp.Trash(), "", true})
	check(t, x, paper{{a, in(stamp.Root(), "a")}, {b, Entry{stamp.Trash(), "", true}}})
	put(t, x, b, Entry{})
	check(t, x, paper{{a, in(stamp.Root(), "a")}, {b, Entry{}}})
	if !x.Drop(a) || x.Drop(a) || x.Drop(at(3, 0)) {
		t.Error("Drop of one that there is, of the same one again, of one that never was")
	}
	check(t, x, paper{{b, Entry{}}})
	if !x.Drop(b) {
		t.Error("Drop of the last one")
	}
	check(t, x, nil)
	put(t, x, a, in(b, "a"))
	check(t, x, paper{{a, in(b, "a")}})
}

func TestNodesRise(t *testing.T) {
	x := New()
	for _, node := range []api.Stamp{at(2, 1), at(10, 0), at(1, 63), at(2, 0), at(1, 7)} {
		put(t, x, node, in(stamp.Root(), "n"))
	}
	if got := x.Nodes(); !same(got, []api.Stamp{at(1, 7), at(1, 63), at(2, 0), at(2, 1), at(10, 0)}) {
		t.Errorf("Nodes() = %v", got)
	}
}

func TestATableAsItIsWritten(t *testing.T) {
	x, l, n := New(), few(), 1
	var p paper
	for range 1500 {
		n = n * 75 % 65537
		node, parent := l[n%len(l)], l[n/len(l)%len(l)]
		if n%7 < 2 {
			var was bool
			p, was = p.drop(node)
			if got := x.Drop(node); got != was {
				t.Fatalf("Drop(%v) = %v", node, got)
			}
		} else {
			e := Entry{parent, string(rune('a' + n%3)), n%2 == 0}
			put(t, x, node, e)
			p = p.set(node, e)
		}
		check(t, x, p)
	}
}

func TestATableThatNewDidNotMake(t *testing.T) {
	for _, x := range []*Table{nil, {}, new(Table)} {
		for range 2 {
			check(t, x, nil)
			if e := x.Set(at(1, 0), in(stamp.Root(), "a")); e != api.ErrNil {
				t.Errorf("Set = %d", e)
			}
			if x.Drop(at(1, 0)) {
				t.Error("it dropped what it never had")
			}
		}
	}
}

func TestTwoTablesHaveNothingInCommon(t *testing.T) {
	a, b := New(), New()
	put(t, a, at(1, 0), in(stamp.Root(), "a"))
	check(t, b, nil)
}

func TestWhatIsToldMayBeChanged(t *testing.T) {
	x := chain(t, at(1, 0), at(2, 0))
	put(t, x, at(3, 0), in(at(1, 0), "n"))
	for _, l := range [][]api.Stamp{x.Nodes(), x.Kids(at(1, 0))} {
		l = l[:cap(l)]
		for i := range l {
			l[i] = at(9, 9)
		}
	}
	if !same(x.Nodes(), []api.Stamp{at(1, 0), at(2, 0), at(3, 0)}) || !same(x.Kids(at(1, 0)), []api.Stamp{at(2, 0), at(3, 0)}) {
		t.Errorf("it has %v now", x.Nodes())
	}
}

// P13.2

func TestKidsByExample(t *testing.T) {
	x := New()
	for _, node := range []api.Stamp{at(9, 0), at(3, 2), at(3, 1), at(4, 0)} {
		put(t, x, node, in(stamp.Root(), "n"))
	}
	put(t, x, at(1, 0), in(at(9, 0), "n"))
	put(t, x, at(2, 0), in(stamp.Trash(), "n"))
	for parent, want := range map[api.Stamp][]api.Stamp{
		stamp.Root():  {at(3, 1), at(3, 2), at(4, 0), at(9, 0)},
		stamp.Trash(): {at(2, 0)},
		at(9, 0):      {at(1, 0)},
		at(3, 1):      nil,
		at(8, 8):      nil,
		stamp.Lost():  nil,
	} {
		if got := x.Kids(parent); !same(got, want) {
			t.Errorf("Kids(%v) = %v, not %v", parent, got, want)
		}
	}
	// Who hangs at itself is a kid of its own; and a node at which one hangs need not have an entry.
	put(t, x, at(5, 0), in(at(5, 0), "n"))
	put(t, x, at(6, 0), in(at(50, 0), "n"))
	if !same(x.Kids(at(5, 0)), []api.Stamp{at(5, 0)}) || !same(x.Kids(at(50, 0)), []api.Stamp{at(6, 0)}) {
		t.Errorf("Kids: %v, %v", x.Kids(at(5, 0)), x.Kids(at(50, 0)))
	}
}

func TestAboveByExample(t *testing.T) {
	a, b, c := at(1, 0), at(2, 0), at(3, 0)
	x := chain(t, a, b)
	for _, q := range []struct {
		node, of api.Stamp
		want     bool
	}{
		{a, b, true},
		{stamp.Root(), b, true},
		{stamp.Root(), a, true},
		{b, a, false},
		{a, a, false},
		{b, b, false},
		{a, stamp.Root(), false},
		{stamp.Root(), stamp.Root(), false},
		{c, a, false},
		{a, c, false},
		{c, c, false},
		{stamp.Root(), c, false},
		{stamp.Trash(), b, false},
	} {
		if got := x.Above(q.node, q.of); got != q.want {
			t.Errorf("Above(%v, %v) = %v", q.node, q.of, got)
		}
	}
}

func TestAboveInARing(t *testing.T) {
	a, b, c, d := at(1, 0), at(2, 0), at(3, 0), at(4, 0)
	x := New()
	put(t, x, a, in(c, "a"))
	put(t, x, b, in(a, "b"))
	put(t, x, c, in(b, "c"))
	put(t, x, d, in(a, "d"))
	for _, of := range []api.Stamp{a, b, c, d} {
		for _, node := range []api.Stamp{a, b, c} {
			if !x.Above(node, of) {
				t.Errorf("going up from %v one comes to %v", of, node)
			}
		}
		if x.Above(d, of) || x.Above(stamp.Root(), of) {
			t.Errorf("going up from %v one stays in the ring", of)
		}
	}
	put(t, x, d, in(d, "d"))
	if !x.Above(d, d) || x.Above(a, d) {
		t.Error("who hangs at itself is above itself, and nobody else is")
	}
}

func TestAboveGoesAsFarAsThereAreEntries(t *testing.T) {
	var nodes []api.Stamp
	for i := range 300 {
		nodes = append(nodes, at(i+1, i%64))
	}
	x := chain(t, nodes...)
	last := nodes[len(nodes)-1]
	// As many steps as there are entries lead just to the root.
	if !x.Above(stamp.Root(), last) || !x.Above(nodes[0], last) || x.Above(last, nodes[0]) || x.Above(last, last) {
		t.Error("a long chain")
	}
	x.Drop(nodes[100])
	if x.Above(stamp.Root(), last) || !x.Above(nodes[100], last) || x.Above(nodes[99], last) || !x.Above(stamp.Root(), nodes[99]) {
		t.Error("a chain that was cut")
	}
}

// P13.3

func TestClone(t *testing.T) {
	a := chain(t, at(1, 0), at(2, 0))
	b := a.Clone()
	if !Same(a, b) || !Same(b, a) {
		t.Errorf("%v, %v", a.Nodes(), b.Nodes())
	}
	put(t, b, at(3, 0), in(stamp.Root(), "c"))
	b.Drop(at(1, 0))
	put(t, b, at(2, 0), in(stamp.Root(), "b"))
	check(t, a, paper{{at(1, 0), in(stamp.Root(), "n")}, {at(2, 0), in(at(1, 0), "n")}})
	a.Drop(at(2, 0))
	check(t, b, paper{{at(2, 0), in(stamp.Root(), "b")}, {at(3, 0), in(stamp.Root(), "c")}})
}

func TestCloneOfNoneIsOneThatNewMade(t *testing.T) {
	for _, x := range []*Table{nil, {}, New()} {
		c := x.Clone()
		check(t, c, nil)
		put(t, c, at(1, 0), in(stamp.Root(), "a"))
		check(t, c, paper{{at(1, 0), in(stamp.Root(), "a")}})
		check(t, x, nil)
	}
}

func TestSame(t *testing.T) {
	one := func(node api.Stamp, e Entry) *Table {
		x := New()
		put(t, x, node, e)
		return x
	}
	two := one(at(1, 0), Entry{stamp.Root(), "a", true})
	put(t, two, at(2, 0), Entry{})
	// Of these no two are the same.
	l := []*Table{
		New(),
		one(at(1, 0), Entry{stamp.Root(), "a", true}),
		one(at(1, 1), Entry{stamp.Root(), "a", true}),
		one(at(2, 0), Entry{stamp.Root(), "a", true}),
		one(at(1, 0), Entry{stamp.Trash(), "a", true}),
		one(at(1, 0), Entry{at(7, 0), "a", true}),
		one(at(1, 0), Entry{stamp.Root(), "b", true}),
		one(at(1, 0), Entry{stamp.Root(), "a", false}),
		one(at(1, 0), Entry{}),
		one(at(2, 0), Entry{}),
		two,
	}
	for i, a := range l {
		for j, b := range l {
			if Same(a, b) != (i == j) || Same(a, b.Clone()) != (i == j) {
				t.Errorf("of the %d. and the %d.: Same = %v", i, j, Same(a, b))
			}
		}
	}
	for _, a := range []*Table{nil, {}, New()} {
		for _, b := range []*Table{nil, {}, New()} {
			if !Same(a, b) {
				t.Error("tables that have nothing are the same")
			}
		}
		if Same(a, two) || Same(two, a) {
			t.Error("nothing is not the same as something")
		}
	}
}

func TestSameIsOfEntriesAloneHoweverTheyCame(t *testing.T) {
	a, b := New(), New()
	for i := range 50 {
		put(t, a, at(i+1, 0), in(at(i, 0), "n"))
		put(t, b, at(50-i, 0), in(at(7, 7), "m"))
	}
	for i := range 50 {
		if Same(a, b) {
			t.Fatal("some are another way")
		}
		put(t, b, at(50-i, 0), in(at(49-i, 0), "n"))
	}
	if !Same(a, b) {
		t.Error("all are the same")
	}
}
