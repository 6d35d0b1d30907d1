package fold

import (
	"math"
	"slices"
	"testing"

	"banyan/api"
	"banyan/stamp"
	"banyan/table"
	"banyan/vec"
)

func at(time, rep int) api.Stamp { return api.Stamp{Time: time, Rep: rep} }

func root() api.Stamp { return stamp.Root() }

// move tells the op of a number that at a stamp puts a node, a directory, at a parent.
func move(when api.Stamp, seq int, node, parent api.Stamp, name string) api.Op {
	return api.Op{At: when, Seq: seq, Node: node, Parent: parent, Name: name, Dir: true}
}

// made tells the op of a number that makes a directory at the root.
func made(when api.Stamp, seq int) api.Op {
	return move(when, seq, when, root(), "n")
}

// file tells an op as one of a file.
func file(o api.Op) api.Op {
	o.Dir = false
	return o
}

// numbers tells ops of a replica, each with one of the numbers.
func numbers(rep int, seqs ...int) []api.Op {
	var l []api.Op
	for i, seq := range seqs {
		l = append(l, made(at(i+1, rep), seq))
	}
	return l
}

func vecOf(l ...int) vec.Vec {
	var v vec.Vec
	for i := 0; i < len(l); i += 2 {
		v[l[i]] = l[i+1]
	}
	return v
}

// wrong tells ops that are not Right, of any stamps.
func wrong(when api.Stamp) []api.Op {
	l := []api.Op{{}, made(when, 0), made(when, 1<<32+1), move(when, 1, when, root(), ""), move(when, 1, when, stamp.Trash(), "n"), move(when, 1, at(1<<48, 63), root(), "n")}
	return append(l, made(at(0, 0), 1), made(at(3, 64), 1), made(at(3, -1), 1), made(at(1<<48+1, 0), 1))
}

// shuffled tells a list in another order.
func shuffled(l []api.Op, seed int) []api.Op {
	l = slices.Clone(l)
	for i := range l {
		seed = seed * 75 % 65537
		j := seed % (i + 1)
		l[i], l[j] = l[j], l[i]
	}
	return l
}

// some tells ops of three replicas, by their stamps, that are honest; many of them would make rings.
func some(n, seed int) []api.Op {
	var l []api.Op
	var nodes []api.Stamp
	for i := range n {
		seed = seed * 75 % 65537
		when := at(10+i/3, []int{0, 5, 63}[i%3])
		o := api.Op{At: when, Seq: 1 + i/3, Node: when, Parent: root(), Name: string(rune('a' + seed%4)), Dir: true}
		if len(nodes) > 4 && seed%5 > 0 {
			o.Node = nodes[seed/3%len(nodes)]
			switch o.Parent = nodes[seed/7%len(nodes)]; {
			case seed%13 == 0:
				o.Parent = stamp.Trash()
			case o.Parent == o.Node:
				o.Parent = root()
			}
		} else {
			nodes = append(nodes, when)
		}
		l = append(l, o)
	}
	return l
}

// P15.1

func TestSetByExample(t *testing.T) {
	a, b, c := made(at(5, 1), 1), made(at(5, 2), 1), made(at(6, 0), 1)
	second := a
	second.Name = "second"
	for _, x := range []struct{ l, want []api.Op }{
		{nil, nil},
		{[]api.Op{}, nil},
		{[]api.Op{c, b, a}, []api.Op{a, b, c}},
		{[]api.Op{a, second, a}, []api.Op{a}},
		{[]api.Op{second, c, a}, []api.Op{second, c}},
		{[]api.Op{c, c, c}, []api.Op{c}},
		{wrong(at(5, 1)), nil},
		// What isn't Right does not stand ahead of what is.
		{append(wrong(at(5, 1)), a, second), []api.Op{a}},
		{append([]api.Op{second}, wrong(at(5, 1))...), []api.Op{second}},
		// One number may be that of two ops.
		{[]api.Op{made(at(9, 0), 3), made(at(8, 0), 3)}, []api.Op{made(at(8, 0), 3), made(at(9, 0), 3)}},
	} {
		was := slices.Clone(x.l)
		got := Set(x.l)
		if !slices.Equal(got, x.want) {
			t.Errorf("Set(%v) = %v, not %v", x.l, got, x.want)
		}
		for i := range got {
			got[i] = api.Op{}
		}
		if !slices.Equal(x.l, was) {
			t.Errorf("what was handed in was changed: %v", x.l)
		}
	}
}

func TestKnown(t *testing.T) {
	l := append(numbers(0, 1, 2, 4, 3), numbers(7, 2, 1)...)
	l = append(l, made(at(1<<48, 63), 1<<32))
	l = append(l, l[0])
	for _, v := range []vec.Vec{{}, vecOf(0, 1), vecOf(0, 2), vecOf(0, 3, 7, 1), vecOf(0, 4, 7, 2), vecOf(63, 1<<32-1), vecOf(63, 1<<32), vecOf(0, -1, 7, math.MinInt), vecOf(0, math.MaxInt, 1, 5)} {
		var want []api.Op
		for _, o := range Set(l) {
			if o.Seq <= v[o.At.Rep] {
				want = append(want, o)
			}
		}
		was := slices.Clone(l)
		if got := Known(append(wrong(at(2, 0)), l...), v); !slices.Equal(got, want) {
			t.Errorf("Known of %s = %v, not %v", vec.Text(v), got, want)
		}
		if got := Known(l, v); !slices.Equal(got, want) || !slices.Equal(l, was) {
			t.Errorf("Known of %s = %v, not %v", vec.Text(v), got, want)
		}
	}
	if got := Known(l, vecOf(0, 3, 7, 1)); len(got) != 4 || got[0].At != at(1, 0) || got[1].At != at(2, 0) || got[2].At != at(2, 7) || got[3].At != at(4, 0) {
		t.Errorf("Known = %v", got)
	}
	if len(Known(nil, vecOf(0, 9))) != 0 {
		t.Error("of nothing nothing is known")
	}
}

// P15.2

// byHand does the ops of a set, and tells the entries, and which ops did nothing.
func byHand(l []api.Op) (map[api.Stamp]table.Entry, []api.Stamp) {
	now := map[api.Stamp]table.Entry{}
	var idle []api.Stamp
	for _, o := range Set(l) {
		ring := false
		for up, steps := o.Parent, 0; steps <= len(now) && !ring; steps++ {
			ring = up == o.Node
			e, ok := now[up]
			if !ok {
				break
			}
			up = e.Parent
		}
		if ring {
			idle = append(idle, o.At)
			continue
		}
		now[o.Node] = table.Entry{Parent: o.Parent, Name: o.Name, Dir: o.Dir}
	}
	return now, idle
}

// check holds what is told of ops against what is done by hand.
func check(t *testing.T, l []api.Op) {
	t.Helper()
	now, none := byHand(l)
	got := Of(l)
	if got.Len() != len(now) {
		t.Fatalf("of %v there are %v", l, got.Nodes())
	}
	for node, e := range now {
		if is, ok := got.Get(node); !ok || is != e {
			t.Fatalf("of %v the node %v has %v, not %v", l, node, is, e)
		}
	}
	if idle := Idle(l); !slices.Equal(idle, none) {
		t.Fatalf("Idle(%v) = %v, not %v", l, idle, none)
	}
}

func TestOfAndIdleByExample(t *testing.T) {
	a, b := at(1, 0), at(2, 0)
	l := []api.Op{made(a, 1), made(b, 2), move(at(5, 0), 3, a, b, "a"), move(at(6, 0), 4, b, a, "b")}
	check(t, l)
	if e, _ := Of(l).Get(a); e != (table.Entry{Parent: b, Name: "a", Dir: true}) {
		t.Errorf("a has %v", e)
	}
	if got := Idle(l); !slices.Equal(got, []api.Stamp{at(6, 0)}) {
		t.Errorf("Idle = %v", got)
	}
	late := append([]api.Op{move(at(4, 1), 1, b, a, "x")}, l...)
	check(t, late)
	if got := Idle(late); !slices.Equal(got, []api.Stamp{at(5, 0)}) {
		t.Errorf("Idle = %v", got)
	}
	check(t, append(late, wrong(at(9, 0))...))
}

func TestOfNothing(t *testing.T) {
	for _, l := range [][]api.Op{nil, {}, wrong(at(1, 0))} {
		x := Of(l)
		if x.Len() != 0 || len(Idle(l)) != 0 {
			t.Errorf("of %v there are %v", l, x.Nodes())
		}
		if e := x.Set(at(1, 0), table.Entry{}); e != api.OK {
			t.Errorf("Set of its table = %d", e)
		}
	}
}

func TestOneThatWasMadeTwice(t *testing.T) {
	// The same stamp can't make two nodes: the first one that is told counts.
	l := []api.Op{made(at(1, 0), 1), file(made(at(1, 0), 1))}
	if e, _ := Of(l).Get(at(1, 0)); !e.Dir {
		t.Errorf("it has %v", e)
	}
	slices.Reverse(l)
	if e, _ := Of(l).Get(at(1, 0)); e.Dir {
		t.Errorf("it has %v", e)
	}
	// To put a node where it is does something.
	again := []api.Op{made(at(1, 0), 1), move(at(2, 0), 2, at(1, 0), root(), "n")}
	if len(Idle(again)) != 0 {
		t.Errorf("Idle = %v", Idle(again))
	}
}

func TestOfManyAsByHand(t *testing.T) {
	idle := 0
	for seed := 1; seed < 200; seed++ {
		l := some(40, seed)
		check(t, l)
		check(t, shuffled(l, seed))
		idle += len(Idle(l))
	}
	if idle < 100 {
		t.Errorf("only %d ops would have made rings", idle)
	}
}

// P15.3

func TestVec(t *testing.T) {
	for _, x := range []struct {
		l    []api.Op
		want vec.Vec
	}{
		{nil, vec.Vec{}},
		{numbers(0, 1, 2, 4), vecOf(0, 2)},
		{numbers(0, 4, 2, 1), vecOf(0, 2)},
		{numbers(0, 2, 3), vec.Vec{}},
		{numbers(63, 3, 1, 2), vecOf(63, 3)},
		{numbers(5, 1, 1, 2, 2), vecOf(5, 2)},
		{append(numbers(1, 1), numbers(2, 2)...), vecOf(1, 1)},
		{append(numbers(2, 1, 3), numbers(3, 2, 1)...), vecOf(2, 1, 3, 2)},
		{numbers(0, 1<<32, 1), vecOf(0, 1)},
		// What isn't Right, and what has a stamp again, is left out.
		{append(numbers(0, 1), move(at(2, 0), 2, at(2, 0), root(), "/")), vecOf(0, 1)},
		{[]api.Op{made(at(1, 0), 1), made(at(1, 0), 2), made(at(2, 0), 3)}, vecOf(0, 1)},
		{wrong(at(1, 0)), vec.Vec{}},
	} {
		if got := Vec(x.l); got != x.want {
			t.Errorf("Vec(%v) = %s, not %s", x.l, vec.Text(got), vec.Text(x.want))
		}
	}
}

func TestTime(t *testing.T) {
	for _, x := range []struct {
		l    []api.Op
		want int
	}{
		{nil, 0},
		{wrong(at(9, 0)), 0},
		{[]api.Op{made(at(1, 0), 1)}, 1},
		{[]api.Op{made(at(7, 0), 1), made(at(3, 63), 1)}, 7},
		{[]api.Op{made(at(3, 63), 1), made(at(1<<48, 0), 1), made(at(5, 5), 1)}, 1 << 48},
		{append(wrong(at(9, 0)), made(at(2, 2), 1)), 2},
		{[]api.Op{made(at(2, 2), 1), move(at(8, 2), 2, at(8, 2), root(), "..")}, 2},
	} {
		if got := Time(x.l); got != x.want {
			t.Errorf("Time(%v) = %d, not %d", x.l, got, x.want)
		}
	}
}

func TestHonestByExample(t *testing.T) {
	d, e, f := made(at(1, 0), 1), made(at(1, 1), 1), file(made(at(2, 1), 2))
	for _, l := range [][]api.Op{
		nil,
		{},
		{d},
		{d, e, f},
		{f, e, d},
		// Numbers may be left out, and times, too.
		{made(at(9, 0), 7), made(at(100, 0), 1<<32)},
		{d, move(at(2, 0), 2, at(2, 0), d.At, "x")},
		{move(at(2, 0), 2, at(2, 0), d.At, "x"), d},
		{d, e, move(at(3, 0), 2, e.At, d.At, "x"), move(at(3, 1), 5, d.At, e.At, "y")},
		{e, f, move(at(4, 4), 1, e.At, stamp.Trash(), "x"), file(move(at(4, 5), 1, f.At, stamp.Trash(), "x"))},
		{e, f, file(move(at(4, 4), 1, f.At, e.At, "x"))},
		{d, e, move(at(4, 4), 1, d.At, root(), "x")},
	} {
		if !Honest(l) {
			t.Errorf("Honest(%v) = false", l)
		}
	}
	for _, l := range [][]api.Op{
		wrong(at(1, 0)),
		{d, move(at(2, 0), 2, at(2, 0), root(), "")},
		{d, d},
		{d, e, d},
		{d, made(at(1, 0), 2)},
		{d, made(at(2, 0), 1)},
		{made(at(2, 0), 1), d},
		{made(at(5, 0), 2), made(at(6, 0), 1)},
		{made(at(6, 0), 1), made(at(5, 0), 2)},
		{d, made(at(2, 0), 4), made(at(3, 0), 3)},
		// Nobody made its Node, or its Parent.
		{move(at(3, 0), 2, at(2, 0), root(), "x")},
		{d, move(at(3, 0), 2, at(2, 0), d.At, "x")},
		{d, move(at(3, 0), 2, at(3, 0), at(2, 0), "x")},
		{d, move(at(3, 0), 2, d.At, at(2, 0), "x")},
		// What has its stamp did not make it.
		{d, move(at(2, 0), 2, d.At, root(), "x"), move(at(3, 0), 3, at(2, 0), root(), "x")},
		{d, move(at(2, 0), 2, d.At, root(), "x"), move(at(3, 0), 3, at(3, 0), at(2, 0), "x")},
		// It is no directory, or no file.
		{e, f, move(at(4, 4), 1, f.At, root(), "x")},
		{e, f, file(move(at(4, 4), 1, e.At, root(), "x"))},
		{e, f, move(at(4, 4), 1, f.At, stamp.Trash(), "x")},
		{e, f, move(at(4, 4), 1, at(4, 4), f.At, "x")},
		{e, f, move(at(4, 4), 1, e.At, f.At, "x")},
		{e, f, file(move(at(4, 4), 1, at(4, 4), f.At, "x"))},
	} {
		if Honest(l) {
			t.Errorf("Honest(%v) = true", l)
		}
		if len(l) > 1 && Honest(shuffled(l, 3)) {
			t.Errorf("Honest(%v) = true", shuffled(l, 3))
		}
	}
}

func TestHonestOfEachReplicaForItself(t *testing.T) {
	var l []api.Op
	for rep := range 64 {
		l = append(l, made(at(70-rep, rep), 1), made(at(100-rep, rep), 2))
	}
	if !Honest(l) {
		t.Error("each of them has greater numbers at greater times")
	}
	for i := range l {
		bad := slices.Clone(l)
		bad[i].Seq = 3 - bad[i].Seq
		if Honest(bad) {
			t.Errorf("%v and another one have one number", bad[i])
		}
	}
}

// P15.4

func TestTheOrderAndHowOftenDoNotMatter(t *testing.T) {
	for seed := 1; seed < 100; seed++ {
		l := some(30, seed)
		if !Honest(l) {
			t.Fatalf("%v is not honest", l)
		}
		twice := shuffled(append(shuffled(l, seed), l...), seed+50)
		if !table.Same(Of(l), Of(twice)) || !slices.Equal(Idle(l), Idle(twice)) || !slices.Equal(Set(l), Set(twice)) || Vec(l) != Vec(twice) || Time(l) != Time(twice) {
			t.Fatalf("%v is told another way", l)
		}
		if !Honest(shuffled(l, seed+7)) || Honest(twice) {
			t.Fatal("Honest of another order, or of all twice")
		}
	}
}

func TestOfHonestOps(t *testing.T) {
	for seed := 1; seed < 200; seed++ {
		l := some(40, seed)
		x := Of(l)
		for _, o := range l {
			if e, ok := x.Get(o.Node); !ok || e.Dir != o.Dir {
				t.Fatalf("%v is lacked, or is no directory any more", o.Node)
			}
		}
		for _, node := range x.Nodes() {
			e, _ := x.Get(node)
			if up, ok := x.Get(e.Parent); !stamp.Reserved(e.Parent) && (!ok || !up.Dir) {
				t.Fatalf("%v hangs at %v", node, e.Parent)
			}
			if x.Above(node, node) {
				t.Fatalf("%v is above itself", node)
			}
		}
	}
}
