package tree

import (
	"math"
	"slices"
	"testing"

	"banyan/api"
	"banyan/op"
	"banyan/stamp"
	"banyan/table"
)

func at(time, rep int) api.Stamp { return api.Stamp{Time: time, Rep: rep} }

func root() api.Stamp { return stamp.Root() }

// move tells the op that at a stamp puts a node, a directory, at a parent.
func move(when, node, parent api.Stamp, name string) api.Op {
	return api.Op{At: when, Seq: 1, Node: node, Parent: parent, Name: name, Dir: true}
}

// made tells the op that makes a directory.
func made(when, parent api.Stamp, name string) api.Op {
	return move(when, when, parent, name)
}

// add adds an op, which is to be OK, and to have so many ops behind it.
func add(t *testing.T, x *Tree, o api.Op, behind int) {
	t.Helper()
	if n, e := x.Add(o); n != behind || e != api.OK {
		t.Fatalf("Add(%s) = %d, %d, not %d", op.Text(o), n, e, behind)
	}
}

// paper is ops as one writes them down, and does them anew each time one is asked.
type paper struct {
	base  map[api.Stamp]table.Entry
	floor api.Stamp
	ops   []api.Op
}

// written tells what a table is behind those ops that are not behind a stamp, and which of these did nothing.
func (p paper) written(upto api.Stamp) (map[api.Stamp]table.Entry, []api.Stamp) {
	now := map[api.Stamp]table.Entry{}
	for node, e := range p.base {
		now[node] = e
	}
	var idle []api.Stamp
	for _, o := range op.Sorted(p.ops) {
		if stamp.Compare(o.At, upto) > 0 {
			break
		}
		ring := false
		for up, steps := o.Parent, 0; steps <= len(now) && !ring; steps++ {
			ring = up == o.Node
			e, ok := now[up]
			if !ok {
				break
			}
			up = e.Parent
		}
		if ring {
			idle = append(idle, o.At)
			continue
		}
		now[o.Node] = table.Entry{Parent: o.Parent, Name: o.Name, Dir: o.Dir}
	}
	return now, idle
}

func (p *paper) cut(upto api.Stamp) int {
	if stamp.Compare(upto, p.floor) <= 0 {
		return 0
	}
	p.base, _ = p.written(upto)
	was := len(p.ops)
	p.ops = slices.DeleteFunc(p.ops, func(o api.Op) bool { return stamp.Compare(o.At, upto) <= 0 })
	p.floor = upto
	return was - len(p.ops)
}

func end() api.Stamp { return at(math.MaxInt, math.MaxInt) }

// tableOf tells the table of what is written.
func tableOf(m map[api.Stamp]table.Entry) *table.Table {
	t := table.New()
	for node, e := range m {
		t.Set(node, e)
	}
	return t
}

// check holds a tree against what is written.
func check(t *testing.T, x *Tree, p paper) {
	t.Helper()
	now, idle := p.written(end())
	want := tableOf(now)
	if !table.Same(x.Table(), want) || x.Nodes() != want.Len() {
		t.Fatalf("the table has %d nodes %v, not %v", x.Nodes(), x.Table().Nodes(), want.Nodes())
	}
	if !table.Same(x.Base(), tableOf(p.base)) {
		t.Fatalf("at the floor there were %v", x.Base().Nodes())
	}
	if x.Floor() != p.floor {
		t.Fatalf("Floor() = %v, not %v", x.Floor(), p.floor)
	}
	if ops := op.Sorted(p.ops); x.Len() != len(ops) || !slices.Equal(x.Ops(), ops) {
		t.Fatalf("Len() = %d, Ops() = %v, not %v", x.Len(), x.Ops(), ops)
	}
	for _, o := range p.ops {
		if got := x.Did(o.At); got != !slices.Contains(idle, o.At) {
			t.Fatalf("Did(%v) = %v", o.At, got)
		}
	}
	nodes := append(want.Nodes(), root(), stamp.Trash(), stamp.Lost(), at(99, 9))
	for _, node := range nodes {
		e, ok := want.Get(node)
		if got, is := x.Get(node); got != e || is != ok {
			t.Fatalf("Get(%v) = %v, %v", node, got, is)
		}
		if got := x.Kids(node); !slices.Equal(got, want.Kids(node)) {
			t.Fatalf("Kids(%v) = %v", node, got)
		}
		for _, of := range nodes {
			if x.Above(node, of) != want.Above(node, of) {
				t.Fatalf("Above(%v, %v) = %v", node, of, x.Above(node, of))
			}
		}
	}
}

// some tells ops of a few nodes, moved to and fro, so that many of them would make rings: by their stamps.
func some(n, seed int) []api.Op {
	nodes := []api.Stamp{at(1, 0), at(2, 5), at(3, 0), at(4, 63), at(5, 1)}
	var l []api.Op
	for i, node := range nodes {
		l = append(l, made(node, root(), string(rune('a'+i))))
	}
	for i := range n {
		seed = seed * 75 % 65537
		node, parent := nodes[seed%5], nodes[seed/5%5]
		switch {
		case seed%11 == 0:
			parent = stamp.Trash()
		case node == parent:
			parent = root()
		}
		o := move(at(6+i/2, 10+i%2), node, parent, string(rune('a'+seed%4)))
		o.Seq, o.Dir = i+1, seed%3 > 0
		l = append(l, o)
	}
	return l
}

// shuffled tells a list in another order.
func shuffled(l []api.Op, seed int) []api.Op {
	l = slices.Clone(l)
	for i := range l {
		seed = seed * 75 % 65537
		j := seed % (i + 1)
		l[i], l[j] = l[j], l[i]
	}
	return l
}

// P14.1

func TestNewIsEmpty(t *testing.T) {
	check(t, New(), paper{})
}

func TestLoad(t *testing.T) {
	from := table.New()
	from.Set(at(1, 0), table.Entry{Parent: root(), Name: "a", Dir: true})
	from.Set(at(2, 0), table.Entry{Parent: at(1, 0), Name: "b"})
	base := map[api.Stamp]table.Entry{at(1, 0): {Parent: root(), Name: "a", Dir: true}, at(2, 0): {Parent: at(1, 0), Name: "b"}}
	for _, cut := range []api.Stamp{{}, at(7, 3), at(1<<48, 63), at(-4, -4), end()} {
		x := Load(from, cut)
		check(t, x, paper{base: base, floor: cut})
	}
	x := Load(from, at(7, 3))
	o := move(at(8, 0), at(1, 0), root(), "c")
	add(t, x, o, 0)
	check(t, x, paper{base, at(7, 3), []api.Op{o}})
	if e, _ := from.Get(at(1, 0)); e.Name != "a" {
		t.Error("the table that was handed in was changed")
	}
	from.Drop(at(2, 0))
	check(t, x, paper{base, at(7, 3), []api.Op{o}})
}

func TestLoadOfNoTable(t *testing.T) {
	for _, from := range []*table.Table{nil, {}, table.New()} {
		x := Load(from, at(3, 0))
		check(t, x, paper{floor: at(3, 0)})
		o := made(at(4, 0), root(), "a")
		add(t, x, o, 0)
		check(t, x, paper{floor: at(3, 0), ops: []api.Op{o}})
	}
}

func TestAddTellsHowManyAreBehind(t *testing.T) {
	x := New()
	for _, s := range []struct {
		time, rep, behind int
	}{
		{50, 0, 0}, {60, 0, 0}, {40, 0, 2}, {50, 1, 1}, {49, 63, 3}, {50, 2, 1}, {1, 0, 6}, {1 << 48, 63, 0}, {1<<48 - 1, 63, 1},
	} {
		add(t, x, made(at(s.time, s.rep), root(), "a"), s.behind)
	}
}

func TestAddTellsWhatIsWrong(t *testing.T) {
	x := Load(nil, at(10, 5))
	there := made(at(12, 0), root(), "a")
	add(t, x, there, 0)
	add(t, x, made(at(14, 0), root(), "b"), 0)
	was := paper{floor: at(10, 5), ops: x.Ops()}
	wrong := made(at(13, 0), root(), "c")
	wrong.Seq = 0
	late := made(at(13, 0), root(), "c/")
	both := made(at(10, 5), root(), "c")
	both.Seq = 0
	again := there
	again.Name = ""
	other := move(at(12, 0), at(11, 0), root(), "z")
	for _, s := range []struct {
		o    api.Op
		want api.Errno
	}{
		{api.Op{}, api.ErrArg},
		{wrong, api.ErrArg},
		{late, api.ErrArg},
		{both, api.ErrArg},
		{again, api.ErrArg},
		{move(at(13, 0), at(13, 1), root(), "c"), api.ErrArg},
		{move(at(13, 0), at(12, 0), at(12, 0), "c"), api.ErrArg},
		{made(at(13, 0), stamp.Trash(), "c"), api.ErrArg},
		{made(at(13, 0), stamp.Lost(), "c"), api.ErrArg},
		{made(at(10, 5), root(), "c"), api.ErrOld},
		{made(at(10, 4), root(), "c"), api.ErrOld},
		{made(at(9, 63), root(), "c"), api.ErrOld},
		{made(at(1, 0), root(), "c"), api.ErrOld},
		{there, api.ErrTwice},
		{other, api.ErrTwice},
		{made(at(14, 0), root(), "x"), api.ErrTwice},
	} {
		if n, e := x.Add(s.o); n != 0 || e != s.want {
			t.Errorf("Add(%s) = %d, %d, not %d", op.Text(s.o), n, e, s.want)
		}
		check(t, x, was)
	}
	for _, o := range []api.Op{made(at(10, 6), root(), "c"), made(at(11, 0), root(), "c")} {
		if _, e := x.Add(o); e != api.OK {
			t.Errorf("Add(%s) = %d", op.Text(o), e)
		}
	}
}

// P14.2

func TestAskingByExample(t *testing.T) {
	a, b, f := at(1, 0), at(2, 0), at(3, 0)
	x := New()
	add(t, x, made(a, root(), "a"), 0)
	add(t, x, made(b, a, "b"), 0)
	file := made(f, b, "f")
	file.Dir = false
	add(t, x, file, 0)
	add(t, x, move(at(9, 0), a, b, "r"), 0)
	if x.Len() != 4 || x.Nodes() != 3 {
		t.Errorf("Len() = %d, Nodes() = %d", x.Len(), x.Nodes())
	}
	if e, ok := x.Get(f); !ok || e != (table.Entry{Parent: b, Name: "f"}) {
		t.Errorf("Get = %v, %v", e, ok)
	}
	if e, ok := x.Get(at(9, 0)); ok || e != (table.Entry{}) {
		t.Errorf("Get of the stamp of a move = %v, %v", e, ok)
	}
	if !slices.Equal(x.Kids(root()), []api.Stamp{a}) || !slices.Equal(x.Kids(a), []api.Stamp{b}) || len(x.Kids(f)) != 0 {
		t.Error("Kids")
	}
	if !x.Above(a, f) || x.Above(f, a) || !x.Above(root(), a) {
		t.Error("Above")
	}
	for s, want := range map[api.Stamp]bool{a: true, b: true, f: true, at(9, 0): false, at(8, 0): false, at(9, 1): false, at(10, 0): false, {}: false} {
		if x.Did(s) != want {
			t.Errorf("Did(%v) = %v", s, !want)
		}
	}
}

func TestToHaveTheEntryThatOneHasIsToDoSomething(t *testing.T) {
	x := New()
	add(t, x, made(at(1, 0), root(), "a"), 0)
	add(t, x, move(at(2, 0), at(1, 0), root(), "a"), 0)
	if !x.Did(at(2, 0)) {
		t.Error("it was no ring")
	}
}

func TestWhatIsToldMayBeChanged(t *testing.T) {
	p := paper{ops: some(20, 7)}
	x := New()
	for _, o := range p.ops {
		add(t, x, o, 0)
	}
	ops := x.Ops()
	for i := range ops {
		ops[i] = api.Op{}
	}
	for _, l := range []*table.Table{x.Table(), x.Base()} {
		for _, node := range l.Nodes() {
			l.Drop(node)
		}
		l.Set(at(77, 7), table.Entry{})
	}
	check(t, x, p)
	table := x.Table()
	nodes := table.Nodes()
	x.Add(made(at(1000, 0), root(), "new"))
	if !slices.Equal(table.Nodes(), nodes) {
		t.Error("the table that was told goes on with the tree")
	}
}

func TestATreeThatNobodyMade(t *testing.T) {
	for _, x := range []*Tree{nil, {}, new(Tree)} {
		for range 2 {
			for _, o := range []api.Op{made(at(1, 0), root(), "a"), {}} {
				if n, e := x.Add(o); n != 0 || e != api.ErrNil {
					t.Errorf("Add = %d, %d", n, e)
				}
			}
			if n := x.Cut(at(5, 0)); n != 0 {
				t.Errorf("Cut = %d", n)
			}
			if x.Did(at(1, 0)) || x.Did(api.Stamp{}) {
				t.Error("an op did something")
			}
			check(t, x, paper{})
			if e := x.Table().Set(at(1, 0), table.Entry{}); e != api.OK {
				t.Errorf("Set of its Table = %d", e)
			}
			if e := x.Base().Set(at(1, 0), table.Entry{}); e != api.OK {
				t.Errorf("Set of its Base = %d", e)
			}
			check(t, x, paper{})
		}
	}
}

// P14.3

func TestCutByExample(t *testing.T) {
	a, b := at(1, 0), at(2, 0)
	x := New()
	p := paper{ops: []api.Op{made(a, root(), "a"), made(b, root(), "b"), move(at(5, 0), a, b, "a"), move(at(6, 0), b, a, "b"), move(at(9, 1), b, root(), "c")}}
	for _, o := range p.ops {
		add(t, x, o, 0)
	}
	for _, s := range []struct {
		upto api.Stamp
		went int
	}{
		{api.Stamp{}, 0}, {at(-3, 0), 0}, {at(1, -1), 0}, {a, 1}, {a, 0}, {at(0, 5), 0}, {at(5, 0), 2}, {at(4, 0), 0}, {at(5, 1), 0}, {at(9, 0), 1}, {end(), 1}, {end(), 0}, {at(1<<48, 63), 0},
	} {
		if n := p.cut(s.upto); n != s.went {
			t.Fatalf("what is written: %d went, not %d", n, s.went)
		}
		if n := x.Cut(s.upto); n != s.went {
			t.Errorf("Cut(%v) = %d, not %d", s.upto, n, s.went)
		}
		check(t, x, p)
	}
	if n, e := x.Add(made(at(1<<48, 63), root(), "z")); n != 0 || e != api.ErrOld {
		t.Errorf("Add that is not behind the floor = %d, %d", n, e)
	}
}

func TestBehindACutAllGoesOn(t *testing.T) {
	ops := some(40, 3)
	for k := range ops {
		x, y := New(), New()
		for _, o := range shuffled(ops[:k], 5) {
			x.Add(o)
			y.Add(o)
		}
		if k > 0 {
			if n := y.Cut(ops[k-1].At); n != k {
				t.Fatalf("Cut = %d, not %d", n, k)
			}
			if !table.Same(y.Base(), x.Table()) || y.Len() != 0 {
				t.Fatal("the floor is not what there was")
			}
		}
		for _, o := range shuffled(ops[k:], k+9) {
			n, e := x.Add(o)
			m, f := y.Add(o)
			if e != api.OK || f != api.OK || n != m {
				t.Fatalf("Add = %d, %d and %d, %d", n, e, m, f)
			}
		}
		if !table.Same(x.Table(), y.Table()) || y.Len() != len(ops)-k {
			t.Fatalf("behind a Cut of %d ops it is another one", k)
		}
		for _, o := range ops[k:] {
			if x.Did(o.At) != y.Did(o.At) {
				t.Fatalf("Did(%v) = %v without a Cut", o.At, x.Did(o.At))
			}
		}
	}
}

// P14.4

func TestTheExample(t *testing.T) {
	a, b := at(1, 0), at(2, 0)
	ops := []api.Op{made(a, root(), "a"), made(b, root(), "b"), move(at(5, 0), a, b, "a"), move(at(6, 0), b, a, "b")}
	early := move(at(4, 0), a, b, "a")
	for seed := range 30 {
		x := New()
		for _, o := range shuffled(ops, seed+1) {
			x.Add(o)
		}
		for range 2 {
			e, _ := x.Get(b)
			if e.Parent != root() || !x.Above(b, a) || x.Above(a, b) || x.Did(at(6, 0)) || !x.Did(at(5, 0)) {
				t.Errorf("b hangs at %v", e.Parent)
			}
			x.Add(early)
		}
	}
}

func TestAnOpThatComesLateChangesWhatTheLaterOnesDo(t *testing.T) {
	a, b := at(1, 0), at(2, 0)
	x := New()
	add(t, x, made(a, root(), "a"), 0)
	add(t, x, made(b, root(), "b"), 0)
	add(t, x, move(at(6, 0), a, b, "a"), 0)
	if !x.Did(at(6, 0)) {
		t.Error("a goes below b")
	}
	add(t, x, move(at(5, 0), b, a, "b"), 1)
	if x.Did(at(6, 0)) || !x.Did(at(5, 0)) {
		t.Error("b went below a ahead of that")
	}
	add(t, x, move(at(4, 0), a, b, "a"), 2)
	if !x.Did(at(6, 0)) || x.Did(at(5, 0)) || !x.Did(at(4, 0)) {
		t.Error("a went below b ahead of that")
	}
}

func TestAnOpOfANodeThatIsMadeLater(t *testing.T) {
	x := New()
	add(t, x, move(at(6, 0), at(3, 0), at(2, 0), "a"), 0)
	check(t, x, paper{ops: x.Ops()})
	add(t, x, made(at(3, 0), root(), "a"), 1)
	add(t, x, made(at(2, 0), root(), "b"), 2)
	check(t, x, paper{ops: x.Ops()})
}

func TestTheOrderInWhichOpsComeDoesNotMatter(t *testing.T) {
	idle := 0
	for seed := 1; seed < 60; seed++ {
		p := paper{ops: some(20, seed)}
		_, none := p.written(end())
		idle += len(none)
		x := New()
		come := shuffled(p.ops, seed+100)
		for i, o := range come {
			behind := 0
			for _, other := range come[:i] {
				if stamp.Compare(other.At, o.At) > 0 {
					behind++
				}
			}
			add(t, x, o, behind)
			for _, node := range x.Table().Nodes() {
				if x.Above(node, node) {
					t.Fatalf("%v is above itself", node)
				}
			}
			if i%5 == 0 {
				check(t, x, paper{ops: come[:i+1]})
			}
		}
		check(t, x, p)
	}
	if idle < 60 {
		t.Errorf("only %d ops would have made rings", idle)
	}
}

func TestAddsAndCutsAsTheyAreWritten(t *testing.T) {
	for seed := 1; seed < 40; seed++ {
		x, p := New(), paper{}
		for i, o := range shuffled(some(40, seed), seed*3) {
			_, e := x.Add(o)
			if stamp.Compare(o.At, p.floor) <= 0 {
				if e != api.ErrOld {
					t.Fatalf("Add of an old one = %d", e)
				}
			} else {
				if e != api.OK {
					t.Fatalf("Add = %d", e)
				}
				p.ops = append(p.ops, o)
			}
			if i%6 == 5 {
				upto := at(i/3, seed%20)
				if n, m := x.Cut(upto), p.cut(upto); n != m {
					t.Fatalf("Cut(%v) = %d, not %d", upto, n, m)
				}
			}
			check(t, x, p)
		}
	}
}
