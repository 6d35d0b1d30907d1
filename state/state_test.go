package state

import (
	"bytes"
	"math"
	"slices"
	"strings"
	"testing"

	"banyan/api"
	"banyan/fold"
	"banyan/op"
	"banyan/stamp"
	"banyan/sum"
	"banyan/table"
	"banyan/vec"
	"banyan/wire"
)

func at(time, rep int) api.Stamp { return api.Stamp{Time: time, Rep: rep} }

// make1 tells the op of a number that makes a directory at a node.
func make1(node api.Stamp, seq int, parent api.Stamp, s string) api.Op {
	return api.Op{At: node, Seq: seq, Node: node, Parent: parent, Name: s, Dir: true}
}

// sample tells a state with something of all that it may have.
func sample() State {
	a, b := at(3, 1), at(4, 5)
	return State{
		Rep:   5,
		Time:  20,
		Known: vec.Vec{}.With(1, 3).With(5, 7).With(9, 2),
		Base:  vec.Vec{}.With(1, 1).With(5, 7),
		Floor: at(10, 63),
		Rows:  []Row{{a, table.Entry{Parent: stamp.Root(), Name: "a", Dir: true}}, {b, table.Entry{Parent: a, Name: "b"}}, {at(9, 1), table.Entry{Parent: stamp.Trash(), Name: "x"}}},
		Ops:   []api.Op{make1(at(11, 1), 2, a, "c"), {At: at(20, 1), Seq: 3, Node: b, Parent: stamp.Root(), Name: "d"}, make1(at(9, 9), 1, stamp.Root(), "e"), make1(at(12, 9), 2, at(9, 9), "f")},
	}
}

// clone tells the same state in other memory.
func clone(s State) State {
	s.Rows, s.Ops = slices.Clone(s.Rows), slices.Clone(s.Ops)
	return s
}

// with tells the sample with a change.
func with(change func(s *State)) State {
	s := sample()
	change(&s)
	return s
}

// others tells states that are Right, no two of which are the same.
func others() []State {
	return []State{
		sample(),
		{},
		{Rep: 3},
		{Rep: 63, Time: api.MaxTime},
		{Known: vec.Vec{}.With(63, api.MaxSeq), Base: vec.Vec{}.With(63, api.MaxSeq)},
		{Floor: at(1, 0)},
		{Floor: at(api.MaxTime, 63)},
		with(func(s *State) { s.Rep = 0 }),
		with(func(s *State) { s.Time = 21 }),
		with(func(s *State) { s.Known[0], s.Base[0] = 1, 1 }),
		with(func(s *State) { s.Base[5], s.Known[5] = 0, 0 }),
		with(func(s *State) { s.Floor = api.Stamp{} }),
		with(func(s *State) { s.Floor = at(10, 62) }),
		with(func(s *State) { s.Rows = nil }),
		with(func(s *State) { s.Rows = s.Rows[:2] }),
		with(func(s *State) { s.Rows[0].Node = at(3, 0) }),
		with(func(s *State) { s.Rows[1].E.Parent = at(300, 9) }),
		with(func(s *State) { s.Rows[1].E.Name = strings.Repeat("b", 255) }),
		with(func(s *State) { s.Rows[1].E.Dir = true }),
		with(func(s *State) { s.Ops, s.Known[1], s.Known[9] = nil, 1, 0 }),
		with(func(s *State) { s.Ops, s.Known[9] = s.Ops[:3], 1 }),
		with(func(s *State) { s.Ops[1].Name = "D" }),
		with(func(s *State) { s.Ops[1].Dir = true }),
		with(func(s *State) { s.Ops[0].Parent = stamp.Root() }),
		with(func(s *State) { s.Ops[2].At, s.Ops[2].Node, s.Ops[3].Parent = at(8, 9), at(8, 9), stamp.Root() }),
	}
}

// wrong tells states that are not Right.
func wrong() []State {
	stamps := []api.Stamp{stamp.Trash(), stamp.Lost(), at(0, 3), at(-1, 0), at(1, -1), at(1, 64), at(api.MaxTime+1, 0)}
	l := []State{
		with(func(s *State) { s.Rep = -1 }),
		with(func(s *State) { s.Rep = 64 }),
		with(func(s *State) { s.Time = -1 }),
		with(func(s *State) { s.Time = api.MaxTime + 1 }),
		with(func(s *State) { s.Time = 19 }),
		with(func(s *State) { s.Base[1] = 0 }),
		with(func(s *State) { s.Base[1] = 2 }),
		with(func(s *State) { s.Base[1] = 4 }),
		with(func(s *State) { s.Base[0] = 1 }),
		with(func(s *State) { s.Base[0] = -1 }),
		with(func(s *State) { s.Known[0] = -1 }),
		with(func(s *State) { s.Known[0], s.Base[0] = -1, -1 }),
		with(func(s *State) { s.Known[0], s.Base[0] = api.MaxSeq+1, api.MaxSeq+1 }),
		with(func(s *State) { s.Known[0] = 1 }),
		with(func(s *State) { s.Known[9] = 3 }),
		with(func(s *State) { s.Known[9] = 1 }),
		with(func(s *State) { s.Rows[0], s.Rows[1] = s.Rows[1], s.Rows[0] }),
		with(func(s *State) { s.Rows[1].Node = s.Rows[0].Node }),
		with(func(s *State) { s.Rows[2].Node = s.Rows[1].Node }),
		with(func(s *State) { s.Rows[1].E.Parent = s.Rows[1].Node }),
		with(func(s *State) { s.Rows[0].E.Name = "" }),
		with(func(s *State) { s.Rows[0].E.Name = ".." }),
		with(func(s *State) { s.Rows[2].E.Name = "a/b" }),
		with(func(s *State) { s.Rows[2].E.Name = strings.Repeat("b", 256) }),
		with(func(s *State) { s.Rows[0].Node = stamp.Root() }),
		with(func(s *State) { s.Ops[0].Name = "" }),
		with(func(s *State) { s.Ops[0].Seq = 1 }),
		with(func(s *State) { s.Ops[0].Seq = 3 }),
		with(func(s *State) { s.Ops[1].Seq = 4 }),
		with(func(s *State) { s.Ops[1].At = at(11, 1) }),
		with(func(s *State) { s.Ops[1].At = at(10, 1) }),
		with(func(s *State) { s.Ops[1].At = at(21, 1) }),
		with(func(s *State) { s.Ops[1].At = at(20, 2) }),
		with(func(s *State) { s.Ops[0], s.Ops[1] = s.Ops[1], s.Ops[0] }),
		with(func(s *State) { s.Ops = append(s.Ops[2:4:4], s.Ops[:2]...) }),
		with(func(s *State) { s.Ops = append(s.Ops, s.Ops[3]) }),
		with(func(s *State) { s.Ops = s.Ops[1:] }),
		with(func(s *State) { s.Ops = s.Ops[:3] }),
		with(func(s *State) { s.Ops = nil }),
		with(func(s *State) { s.Ops[2].At.Rep, s.Ops[2].Node.Rep = 64, 64 }),
		with(func(s *State) { s.Ops[2].At.Rep, s.Ops[2].Node.Rep = -1, -1 }),
	}
	for _, x := range stamps {
		l = append(l, with(func(s *State) { s.Floor = x }), with(func(s *State) { s.Rows[0].Node = x }), with(func(s *State) { s.Rows[2].Node = x }))
		if x != stamp.Trash() {
			l = append(l, with(func(s *State) { s.Rows[1].E.Parent = x }))
		}
	}
	return l
}

// P25.1

func TestRight(t *testing.T) {
	for i, s := range others() {
		if !Right(s) {
			t.Errorf("the %d. is Right: %v", i, s)
		}
	}
	for i, s := range wrong() {
		if Right(s) {
			t.Errorf("the %d. wrong one is not Right: %v", i, s)
		}
	}
}

func TestSame(t *testing.T) {
	l := append(others(), wrong()...)
	for i, a := range l {
		for j, b := range l {
			if same := Same(a, clone(b)); i == j && !same || i != j && same && i < len(others()) && j < len(others()) {
				t.Errorf("Same of the %d. and the %d. = %v", i, j, same)
			}
		}
		if i > 0 && (Same(a, sample()) || Same(sample(), a)) {
			t.Errorf("the %d. is not the sample", i)
		}
	}
	a, b := State{}, State{Rows: []Row{}, Ops: []api.Op{}}
	if !Same(a, b) || !Same(b, a) {
		t.Error("nil and empty lists are alike")
	}
}

func TestRows(t *testing.T) {
	x := table.New()
	for _, r := range slices.Backward(sample().Rows) {
		x.Set(r.Node, r.E)
	}
	for range 2 {
		l := Rows(x)
		if !slices.Equal(l, sample().Rows) {
			t.Fatalf("Rows = %v", l)
		}
		clear(l)
	}
	for _, x := range []*table.Table{nil, {}, table.New()} {
		if l := Rows(x); len(l) != 0 {
			t.Errorf("Rows of none = %v", l)
		}
	}
}

// P25.2

// written tells a state's bytes, as the chapter says, without the sum.
func written(s State) *wire.Writer {
	var w wire.Writer
	w.Num(s.Rep)
	w.Num(s.Time)
	for i := range 64 {
		w.Num(s.Base[i])
		w.Num(s.Known[i] - s.Base[i])
	}
	w.Num(s.Floor.Time)
	w.Num(s.Floor.Rep)
	w.Num(len(s.Rows))
	for _, r := range s.Rows {
		w.Stamp(r.Node)
		w.Stamp(r.E.Parent)
		w.Text(r.E.Name)
		w.Flag(r.E.Dir)
	}
	w.Num(len(s.Ops))
	for _, o := range s.Ops {
		op.Put(&w, o)
	}
	return &w
}

func TestCode(t *testing.T) {
	for i, s := range others() {
		was := clone(s)
		b := Code(s)
		if !bytes.Equal(b, sum.Seal(written(s).Bytes())) || !Same(s, was) {
			t.Errorf("of the %d. %v", i, b)
		}
	}
	if n := len(Code(State{Rep: 3})); n != 138 {
		t.Errorf("one that knows nothing has %d bytes", n)
	}
}

// none asks whether bytes are no state, by this error.
func none(t *testing.T, b []byte, want api.Errno) {
	t.Helper()
	if s, e := Parse(b); e != want || !Same(s, State{}) || s.Rows != nil || s.Ops != nil {
		t.Errorf("%v, %d, not %d", s, e, want)
	}
}

func TestParse(t *testing.T) {
	for i, s := range others() {
		b := Code(s)
		was := bytes.Clone(b)
		got, e := Parse(b)
		if e != api.OK || !Same(got, s) {
			t.Errorf("of the %d. %v, %d", i, got, e)
		}
		for j := range b {
			b[j] ^= 1
			none(t, b, api.ErrSum)
			b[j] ^= 1
		}
		if !Same(got, s) || !bytes.Equal(b, was) {
			t.Error("it has the memory of what was handed in")
		}
	}
}

func TestParseOfWhatIsNotRight(t *testing.T) {
	for i, s := range wrong() {
		// What is below 0 can't be written.
		if s.Rep < 0 || s.Time < 0 || s.Floor.Time < 0 || !vec.Covers(s.Known, s.Base) || !vec.Covers(s.Base, vec.Vec{}) {
			continue
		}
		if slices.ContainsFunc(s.Rows, func(r Row) bool { return len(r.E.Name) > 255 }) {
			none(t, sum.Seal(written(s).Bytes()), api.ErrSize)
			continue
		}
		if got, e := Parse(sum.Seal(written(s).Bytes())); e != api.ErrArg && !(e == api.OK && Right(got)) {
			t.Errorf("of the %d. wrong one %v, %d", i, got, e)
		}
	}
	for _, s := range []State{
		with(func(s *State) { s.Rep = 64 }),
		with(func(s *State) { s.Time = 19 }),
		with(func(s *State) { s.Rows[1].E.Parent = s.Rows[1].Node }),
		with(func(s *State) { s.Rows[0].E.Name = "." }),
		with(func(s *State) { s.Ops[0].Name = "" }),
		with(func(s *State) { s.Ops = s.Ops[:3] }),
		with(func(s *State) { s.Known[9] = 3 }),
		with(func(s *State) { s.Known[0], s.Base[0] = api.MaxSeq+1, api.MaxSeq+1 }),
		with(func(s *State) { s.Known[0], s.Base[0] = math.MaxInt, api.MaxSeq+1 }),
		with(func(s *State) { s.Floor = stamp.Lost() }),
	} {
		none(t, sum.Seal(written(s).Bytes()), api.ErrArg)
	}
}

func TestParseOfBytesThatEnd(t *testing.T) {
	whole := written(sample()).Bytes()
	for n := range whole {
		b := sum.Seal(whole[:n])
		// The counts stand where what follows is longer, so bytes that end tell just that.
		none(t, b, api.ErrShort)
	}
	for _, more := range [][]byte{{0}, {1}, {200}, {0, 0, 0}} {
		none(t, sum.Seal(append(bytes.Clone(whole), more...)), api.ErrForm)
	}
	for _, b := range [][]byte{nil, {0}, {0, 0, 0}, {1, 2, 3, 4}, {9, 0, 0, 0, 0}} {
		none(t, b, api.ErrSum)
	}
	none(t, sum.Seal(nil), api.ErrShort)
}

// head writes all of a state that stands ahead of the rows.
func head() *wire.Writer {
	var w wire.Writer
	for range 132 {
		w.Num(0)
	}
	return &w
}

func TestParseOfCounts(t *testing.T) {
	// Of 139 bytes, the sum's included, a count may be as great as their number, and no greater.
	for n, want := range map[int]api.Errno{138: api.ErrShort, 139: api.ErrShort, 140: api.ErrSize, 141: api.ErrSize} {
		rows, ops := head(), head()
		rows.Num(n)
		rows.Num(0)
		ops.Num(0)
		ops.Num(n)
		for _, w := range []*wire.Writer{rows, ops} {
			b := sum.Seal(w.Bytes())
			if len(b) != 139 {
				t.Fatalf("%d bytes", len(b))
			}
			none(t, b, want)
		}
	}
	for _, n := range []int{1000, 1 << 40, math.MaxInt} {
		w := head()
		w.Num(n)
		none(t, sum.Seal(w.Bytes()), api.ErrSize)
		w = head()
		w.Num(0)
		w.Num(n)
		none(t, sum.Seal(w.Bytes()), api.ErrSize)
	}
}

func TestWhatIsWrongFirstIsTold(t *testing.T) {
	row := func(s string) *wire.Writer {
		w := head()
		w.Num(1)
		w.Stamp(at(1, 0))
		w.Stamp(stamp.Root())
		w.Text(s)
		return w
	}
	// A name that is too long is told ahead of the truth behind it.
	w := row(strings.Repeat("a", 256))
	w.Num(2)
	none(t, sum.Seal(w.Bytes()), api.ErrSize)
	// A truth that is none, ahead of a name that is none.
	w = row("a/b")
	w.Num(2)
	none(t, sum.Seal(w.Bytes()), api.ErrForm)
	// An op that is not Right, ahead of bytes that are left.
	w = head()
	w.Num(0)
	w.Num(1)
	op.Put(w, api.Op{})
	w.Num(0)
	none(t, sum.Seal(w.Bytes()), api.ErrArg)
	// Bytes that are left, ahead of a state that is not Right.
	w = row("a/b")
	w.Flag(true)
	w.Num(0)
	b := w.Bytes()
	none(t, sum.Seal(b), api.ErrArg)
	none(t, sum.Seal(append(b, 0)), api.ErrForm)
	// A number in more bytes than it needs, at each place of the head.
	for i := range 132 {
		b := head().Bytes()
		b = append(slices.Concat(b[:i], []byte{128, 0}, b[i+1:]), 0, 0)
		none(t, sum.Seal(b), api.ErrForm)
	}
}

func TestANumberThatWrapsRound(t *testing.T) {
	for _, base := range []int{1, api.MaxSeq, math.MaxInt} {
		for _, more := range []int{math.MaxInt, math.MaxInt - 1, math.MaxInt - api.MaxSeq + 1} {
			var w wire.Writer
			w.Num(0)
			w.Num(0)
			w.Num(base)
			w.Num(more)
			for range 130 {
				w.Num(0)
			}
			none(t, sum.Seal(w.Bytes()), api.ErrArg)
		}
	}
}

// P25.3

func TestTreeByExample(t *testing.T) {
	x := Tree(sample())
	if x.Floor() != at(10, 63) || x.Len() != 3 || x.Nodes() != 5 {
		t.Errorf("its floor is %v, of its log %d, of its nodes %d", x.Floor(), x.Len(), x.Nodes())
	}
	if !slices.Equal(Rows(x.Base()), sample().Rows) {
		t.Errorf("at its floor there was %v", Rows(x.Base()))
	}
	// Of ops that are held, one that is not behind the floor is in the rows already, or was to be.
	o := sample().Ops
	if !slices.Equal(x.Ops(), []api.Op{o[0], o[3], o[1]}) {
		t.Errorf("its log is %v", x.Ops())
	}
	if e, _ := x.Get(at(4, 5)); e != (table.Entry{Parent: stamp.Root(), Name: "d"}) {
		t.Errorf("what was moved is at %v", e)
	}
	empty := Tree(State{})
	if empty.Len() != 0 || empty.Nodes() != 0 || empty.Floor() != (api.Stamp{}) {
		t.Error("of nothing there is something")
	}
	if _, e := empty.Add(make1(at(1, 0), 1, stamp.Root(), "a")); e != api.OK {
		t.Errorf("nothing can be added: %d", e)
	}
}

// random tells the ops of three replicas that put directories into each other.
func random(n, seed int) []api.Op {
	var l []api.Op
	var nodes []api.Stamp
	var seq [3]int
	for i := range n {
		seed = (seed*75 + 74) % 65537
		rep := seed % 3
		seq[rep]++
		o := make1(at(i+1, rep), seq[rep], stamp.Root(), "n")
		if len(nodes) > 2 && seed%4 > 0 {
			o.Node = nodes[seed/5%len(nodes)]
			o.Parent = nodes[seed/11%len(nodes)]
		}
		if o.Node == o.Parent {
			o.Parent = stamp.Trash()
		}
		if o.At == o.Node {
			nodes = append(nodes, o.At)
		}
		l = append(l, o)
	}
	return l
}

// held tells ops by rising replicas.
func held(l []api.Op) []api.Op {
	l = slices.Clone(l)
	slices.SortStableFunc(l, func(a, b api.Op) int { return a.At.Rep - b.At.Rep })
	return l
}

func TestTheTreeOfAStateIsThatOfItsOps(t *testing.T) {
	for seed := range 200 {
		l := random(30, seed)
		for _, cut := range []int{0, 1, 10, 29, 30} {
			s := State{Time: 30, Known: fold.Vec(l), Ops: held(l)}
			if cut > 0 {
				s.Floor = at(cut, 63)
				s.Rows = Rows(fold.Of(l[:cut]))
			}
			if !Right(s) {
				t.Fatalf("it is Right: %v", s)
			}
			x := Tree(s)
			if !table.Same(x.Table(), fold.Of(l)) || !slices.Equal(x.Ops(), l[cut:]) || !slices.Equal(Rows(x.Base()), s.Rows) {
				t.Fatalf("of the seed %d, cut at %d: %v", seed, cut, x.Table().Nodes())
			}
		}
	}
}

// P25.4

func TestTheOrderOfOpsDoesNotMatterToTheTree(t *testing.T) {
	for seed := range 50 {
		l := random(25, seed)
		want := Tree(State{Ops: l})
		for n := range 20 {
			other := slices.Clone(l)
			for i := range other {
				j := (i*7 + n*13 + seed) % len(other)
				other[i], other[j] = other[j], other[i]
			}
			x := Tree(State{Ops: other})
			if !table.Same(x.Table(), want.Table()) || !slices.Equal(x.Ops(), want.Ops()) {
				t.Fatalf("of %v it is another tree", other)
			}
		}
		x := Tree(State{Ops: append(slices.Clone(l), l...)})
		if !slices.Equal(x.Ops(), l) {
			t.Fatal("an op counts twice")
		}
	}
}

func TestStatesAreToldInOneWayAlone(t *testing.T) {
	read := 0
	for _, s := range others() {
		b := written(s).Bytes()
		for i := range b {
			for _, by := range []byte{1, 2, 3, 4, 16, 64, 128, 129, 255} {
				b[i] ^= by
				sealed := sum.Seal(b)
				if got, e := Parse(sealed); e == api.OK {
					read++
					if !Right(got) || !bytes.Equal(Code(got), sealed) {
						t.Fatalf("%v is told in another way, too", got)
					}
				}
				b[i] ^= by
			}
		}
	}
	if read < 500 {
		t.Errorf("only %d were read", read)
	}
}
