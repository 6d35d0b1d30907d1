package replica

import (
	"math"
	"slices"
	"strings"
	"testing"

	"banyan/api"
	"banyan/call"
	"banyan/disk"
	"banyan/fold"
	"banyan/frame"
	"banyan/listing"
	"banyan/msg"
	"banyan/stamp"
	"banyan/state"
	"banyan/store"
	"banyan/sum"
	"banyan/talk"
	"banyan/vec"
	"banyan/view"
	"banyan/walk"
)

func at(time, rep int) api.Stamp { return api.Stamp{Time: time, Rep: rep} }

// conf tells how one of three is set up.
func conf(rep int) Conf { return Conf{Rep: rep, Reps: 3, Most: 200, Nodes: 100} }

func made(t *testing.T, room int) *disk.Disk {
	t.Helper()
	d, e := disk.New(room)
	told(t, e, api.OK)
	return d
}

func told(t *testing.T, e, want api.Errno) {
	t.Helper()
	if e != want {
		t.Errorf("%d is told, not %d", e, want)
	}
}

// opened tells a replica that is opened on a disk.
func opened(t *testing.T, c Conf, d *disk.Disk) *Replica {
	t.Helper()
	r, e := Open(c, d)
	if r == nil || e != api.OK {
		t.Fatalf("it is not opened: %d", e)
	}
	return r
}

// fresh tells a replica of three that knows nothing.
func fresh(t *testing.T, rep int) *Replica {
	t.Helper()
	return opened(t, conf(rep), made(t, 1<<20))
}

// kinds tells the kind of a call by its name.
func kinds(s string) int {
	for k := 1; k < 7; k++ {
		if call.Name(k) == s {
			return k
		}
	}
	return 0
}

// do does calls, each as one writes it: its name, its path, and of a rename where to.
func do(t *testing.T, r *Replica, calls ...string) {
	t.Helper()
	for _, s := range calls {
		if e := r.Do(parsed(s)); e != api.OK {
			t.Fatalf("%s: %d", s, e)
		}
	}
}

// parsed tells the call of a text.
func parsed(s string) call.Call {
	l := append(strings.Fields(s), "", "", "")
	return call.Call{Kind: kinds(l[0]), Path: l[1], To: l[2]}
}

// paths tells all paths that a replica shows, of directories with a / behind them.
func paths(r *Replica) string {
	var l []string
	for s, row := range r.All() {
		if row.Dir && s != "/" {
			s += "/"
		}
		if s != "/" && s != "/lost+found/" {
			l = append(l, s)
		}
	}
	return strings.Join(l, " ")
}

// shows asks whether a replica shows just these paths, and lost+found.
func shows(t *testing.T, r *Replica, want string) {
	t.Helper()
	if got := paths(r); got != want {
		t.Errorf("it shows %q, not %q", got, want)
	}
}

// all is what is asked of a replica.
type all struct {
	known vec.Vec
	time  int
	floor api.Stamp
	nodes int
	paths string
	ops   []api.Op
	log   []api.Op
}

func asked(r *Replica) all {
	return all{r.Known(), r.Time(), r.Floor(), r.Nodes(), paths(r), r.Ops(), r.Log()}
}

func same(a, b all) bool {
	return a.known == b.known && a.time == b.time && a.floor == b.floor && a.nodes == b.nodes && a.paths == b.paths && slices.Equal(a.ops, b.ops) && slices.Equal(a.log, b.log)
}

// unchanged asks whether a replica answers as ahead.
func unchanged(t *testing.T, r *Replica, was all) {
	t.Helper()
	if now := asked(r); !same(now, was) {
		t.Errorf("it is %v, not %v", now, was)
	}
}

// tell makes one know what another one knows, by an exchange.
func tell(t *testing.T, from, to *Replica) {
	t.Helper()
	digest, e := from.Digest(to.conf.Rep)
	told(t, e, api.OK)
	asks, e := to.Receive(digest)
	told(t, e, api.OK)
	for _, b := range asks {
		batches, e := from.Receive(b)
		told(t, e, api.OK)
		for _, c := range batches {
			answers, e := to.Receive(c)
			if e != api.OK || len(answers) != 0 {
				t.Errorf("%v, %d", answers, e)
			}
		}
	}
}

// batch tells a frame of ops from one to another one.
func batch(t *testing.T, from, to int, l ...api.Op) []byte {
	t.Helper()
	b, e := talk.Put(from, to, msg.Msg{Kind: frame.Batch, Ops: l})
	told(t, e, api.OK)
	return b
}

// o tells the op of a replica, a number and a time, that makes a directory.
func o(rep, seq, time int, s string) api.Op {
	return api.Op{At: at(time, rep), Seq: seq, Node: at(time, rep), Parent: stamp.Root(), Name: s, Dir: true}
}

// P31.1

func TestCheck(t *testing.T) {
	for _, x := range []struct {
		c    Conf
		want bool
	}{
		{Conf{0, 1, 16, 1}, true},
		{Conf{63, 64, disk.MaxRoom, MaxNodes}, true},
		{Conf{2, 3, 100, 100}, true},
		{Conf{0, 0, 16, 1}, false},
		{Conf{-1, 1, 16, 1}, false},
		{Conf{1, 1, 16, 1}, false},
		{Conf{64, 64, 16, 1}, false},
		{Conf{0, 65, 16, 1}, false},
		{Conf{64, 65, 16, 1}, false},
		{Conf{0, -1, 16, 1}, false},
		{Conf{0, 1, 15, 1}, false},
		{Conf{0, 1, disk.MaxRoom + 1, 1}, false},
		{Conf{0, 1, 16, 0}, false},
		{Conf{0, 1, 16, -1}, false},
		{Conf{0, 1, 16, MaxNodes + 1}, false},
		{Conf{0, math.MinInt, 16, 1}, false},
		{Conf{}, false},
	} {
		if Check(x.c) != x.want {
			t.Errorf("Check(%v) = %v", x.c, !x.want)
		}
		d := made(t, 100)
		r, e := Open(x.c, d)
		if x.want != (e == api.OK) || x.want != (r != nil) || !x.want && (e != api.ErrArg || len(d.Names()) != 0) {
			t.Errorf("Open(%v) = %v, %d", x.c, r, e)
		}
		if !x.want {
			_, e := Open(x.c, nil)
			told(t, e, api.ErrArg)
		}
	}
	if MaxNodes != 1<<20 {
		t.Errorf("MaxNodes = %d", MaxNodes)
	}
}

func TestOpenOfNothing(t *testing.T) {
	r := fresh(t, 1)
	unchanged(t, r, all{})
	if i, e := r.Stat("/lost+found"); e != api.OK || i != (walk.Info{Node: stamp.Lost(), Dir: true}) {
		t.Errorf("%v, %d", i, e)
	}
	_, e := Open(conf(0), nil)
	told(t, e, api.ErrNil)
	down := made(t, 100)
	down.Arm(0)
	down.Create("x")
	_, e = Open(conf(0), down)
	told(t, e, api.ErrDown)
	bad := made(t, 100)
	bad.Create("snap.1")
	_, e = Open(conf(0), bad)
	told(t, e, api.ErrForm)
}

// stored tells a disk with a state, and ops that came since.
func stored(t *testing.T, s *state.State, since ...[]api.Op) *disk.Disk {
	t.Helper()
	d := made(t, 1<<20)
	x, _, e := store.Open(d, 200)
	told(t, e, api.OK)
	if s != nil {
		told(t, x.Save(*s), api.OK)
	}
	for _, l := range since {
		told(t, x.Append(l), api.OK)
	}
	return d
}

func TestOpenOfWhatWasStored(t *testing.T) {
	r := opened(t, conf(0), stored(t, nil, []api.Op{o(0, 1, 4, "a"), o(0, 2, 9, "b")}, []api.Op{o(2, 1, 7, "c")}))
	unchanged(t, r, all{vec.Vec{}.With(0, 2).With(2, 1), 9, api.Stamp{}, 3, "/a/ /b/ /c/", []api.Op{o(0, 1, 4, "a"), o(0, 2, 9, "b"), o(2, 1, 7, "c")}, []api.Op{o(0, 1, 4, "a"), o(2, 1, 7, "c"), o(0, 2, 9, "b")}})
	s := state.State{Rep: 0, Time: 50, Known: vec.Vec{}.With(0, 7).With(2, 3), Base: vec.Vec{}.With(0, 7).With(2, 1), Floor: at(20, 63), Ops: []api.Op{o(2, 2, 20, "d"), o(2, 3, 21, "e")}}
	s.Rows = []state.Row{{Node: at(3, 1)}}
	s.Rows[0].E.Name = "r"
	r = opened(t, conf(0), stored(t, &s, []api.Op{o(0, 8, 30, "f")}))
	unchanged(t, r, all{vec.Vec{}.With(0, 8).With(2, 3), 50, at(20, 63), 3, "/e/ /f/ /r", []api.Op{o(0, 8, 30, "f"), o(2, 2, 20, "d"), o(2, 3, 21, "e")}, []api.Op{o(2, 3, 21, "e"), o(0, 8, 30, "f")}})
	do(t, r, "mkdir /new")
	if i, _ := r.Stat("/new"); i.Node != at(51, 0) || r.Known()[0] != 9 {
		t.Errorf("%v", i)
	}
	for rep := 1; rep < 3; rep++ {
		_, e := Open(conf(rep), stored(t, &s))
		told(t, e, api.ErrArg)
		// That it is another one's is asked ahead of what came since.
		_, e = Open(conf(rep), stored(t, &s, []api.Op{o(0, 1, 30, "f")}))
		told(t, e, api.ErrArg)
	}
}

func TestOpenOfOpsThatTheHoldRefuses(t *testing.T) {
	for _, l := range [][]api.Op{
		{o(0, 2, 1, "a")},
		{o(0, 1, 1, "a"), o(0, 1, 2, "b")},
		{o(0, 1, 2, "a"), o(0, 2, 2, "b")},
		{o(0, 1, 1, "a"), o(1, 1, 1, "a"), o(1, 3, 3, "c")},
	} {
		r, e := Open(conf(0), stored(t, nil, l))
		if r != nil || e != api.ErrForm {
			t.Errorf("of %v: %d", l, e)
		}
	}
}

// P31.2

func TestDo(t *testing.T) {
	r := fresh(t, 2)
	do(t, r, "mkdir /a", "create /a/f", "rename /a/f /a/g", "mkdir /b")
	shows(t, r, "/a/ /a/g /b/")
	want := []api.Op{
		{At: at(1, 2), Seq: 1, Node: at(1, 2), Parent: stamp.Root(), Name: "a", Dir: true},
		{At: at(2, 2), Seq: 2, Node: at(2, 2), Parent: at(1, 2), Name: "f"},
		{At: at(3, 2), Seq: 3, Node: at(2, 2), Parent: at(1, 2), Name: "g"},
		{At: at(4, 2), Seq: 4, Node: at(4, 2), Parent: stamp.Root(), Name: "b", Dir: true},
	}
	unchanged(t, r, all{vec.Vec{}.With(2, 4), 4, api.Stamp{}, 3, "/a/ /a/g /b/", want, want})
	do(t, r, "rename /a /b", "unlink /b/g")
	gone := []api.Op{
		{At: at(5, 2), Seq: 5, Node: at(4, 2), Parent: stamp.Trash(), Name: "b", Dir: true},
		{At: at(6, 2), Seq: 6, Node: at(1, 2), Parent: stamp.Root(), Name: "b", Dir: true},
		{At: at(7, 2), Seq: 7, Node: at(2, 2), Parent: stamp.Trash(), Name: "g"},
	}
	want = append(want, gone...)
	unchanged(t, r, all{vec.Vec{}.With(2, 7), 7, api.Stamp{}, 3, "/b/", want, want})
}

func TestDoIsRefused(t *testing.T) {
	r := fresh(t, 0)
	do(t, r, "mkdir /a", "create /f", "mkdir /a/b")
	was := asked(r)
	for s, want := range map[string]api.Errno{
		"":                                   api.ErrArg,
		"mkdir":                              api.Invalid,
		"mkdir /":                            api.Exists,
		"mkdir /a":                           api.Exists,
		"mkdir /x/y":                         api.NoEntry,
		"create /f/x":                        api.NotDir,
		"create /lost+found":                 api.Exists,
		"create /lost+found/x":               api.Busy,
		"unlink /a":                          api.IsDir,
		"unlink /x":                          api.NoEntry,
		"rmdir /f":                           api.NotDir,
		"rmdir /a":                           api.NotEmpty,
		"rmdir /lost+found":                  api.Busy,
		"remove /a":                          api.NotEmpty,
		"remove /":                           api.Busy,
		"rename /a /a/b/c":                   api.Invalid,
		"rename /f /a":                       api.IsDir,
		"rename /a /f":                       api.NotDir,
		"rename /a":                          api.Invalid,
		"rename /f /f":                       api.OK,
		"rename /a /a":                       api.OK,
		"mkdir /" + strings.Repeat("x", 256): api.TooLong,
	} {
		if e := r.Do(parsed(s)); e != want {
			t.Errorf("%s: %d, not %d", s, e, want)
		}
		unchanged(t, r, was)
	}
}

func TestNodesAreNoMoreThanItsLimit(t *testing.T) {
	c := conf(1)
	c.Nodes = 2
	r := opened(t, c, made(t, 10000))
	do(t, r, "mkdir /a", "create /b", "unlink /b")
	was := asked(r)
	for _, s := range []string{"mkdir /c", "create /c"} {
		told(t, r.Do(parsed(s)), api.NoSpace)
		unchanged(t, r, was)
	}
	told(t, r.Do(parsed("mkdir /a")), api.Exists)
	// What makes nothing is done.
	do(t, r, "rename /a /d", "rmdir /d")
	// Others may make more.
	_, e := r.Receive(batch(t, 0, 1, o(0, 1, 99, "x"), o(0, 2, 100, "y")))
	told(t, e, api.OK)
	do(t, r, "rename /x /z")
	told(t, r.Do(parsed("mkdir /c")), api.NoSpace)
}

func TestTimesAndNumbersEnd(t *testing.T) {
	r := fresh(t, 0)
	_, e := r.Receive(batch(t, 1, 0, o(1, 1, api.MaxTime-2, "x"), o(1, 2, api.MaxTime-1, "x")))
	told(t, e, api.OK)
	was := asked(r)
	told(t, r.Do(parsed("rename /x /y")), api.NoSpace)
	unchanged(t, r, was)
	do(t, r, "mkdir /a")
	if r.Time() != api.MaxTime {
		t.Errorf("Time() = %d", r.Time())
	}
	told(t, r.Do(parsed("unlink /b")), api.NoEntry)
	told(t, r.Do(parsed("mkdir /b")), api.NoSpace)
	told(t, r.Do(parsed("rmdir /a")), api.NoSpace)
	told(t, r.Do(parsed("rename /a /a")), api.OK)
	v := vec.Vec{}.With(0, api.MaxSeq-1)
	r = opened(t, conf(0), stored(t, &state.State{Known: v, Base: v}))
	do(t, r, "mkdir /a")
	was = asked(r)
	for _, s := range []string{"mkdir /b", "rmdir /a", "rename /a /b"} {
		told(t, r.Do(parsed(s)), api.NoSpace)
		unchanged(t, r, was)
	}
}

func TestWhereThereIsNoRoomNothingIsDone(t *testing.T) {
	d := made(t, 50)
	r := opened(t, conf(0), d)
	do(t, r, "mkdir /a", "mkdir /b")
	was, used := asked(r), d.Used()
	told(t, r.Do(parsed("mkdir /c")), api.NoSpace)
	told(t, r.Do(parsed("rename /a /b")), api.NoSpace)
	unchanged(t, r, was)
	if d.Used() != used {
		t.Errorf("%d bytes are used, not %d", d.Used(), used)
	}
	unchanged(t, opened(t, conf(0), d), was)
	d = made(t, 1000)
	r = opened(t, conf(0), d)
	do(t, r, "mkdir /a")
	was = asked(r)
	d.Arm(3)
	told(t, r.Do(parsed("mkdir /c")), api.ErrDown)
	unchanged(t, r, was)
}

// P31.3

func TestDigest(t *testing.T) {
	r := fresh(t, 1)
	do(t, r, "mkdir /a", "mkdir /b")
	for _, to := range []int{0, 2} {
		b, e := r.Digest(to)
		want, _ := talk.Digest(1, to, vec.Vec{}.With(1, 2), 2)
		if e != api.OK || !slices.Equal(b, want) {
			t.Errorf("Digest(%d) = %v, %d", to, b, e)
		}
	}
	for _, to := range []int{1, 3, -1, 63, 64, math.MinInt, math.MaxInt} {
		if b, e := r.Digest(to); len(b) != 0 || e != api.ErrArg {
			t.Errorf("Digest(%d) = %v, %d", to, b, e)
		}
	}
}

func TestReceiveOfWhatIsNoMessage(t *testing.T) {
	r := fresh(t, 1)
	do(t, r, "mkdir /a")
	was := asked(r)
	digest, _ := talk.Digest(0, 1, vec.Vec{}.With(0, 5), 5)
	hurt := slices.Clone(digest)
	hurt[7] ^= 1
	other, _ := talk.Digest(0, 2, vec.Vec{}, 5)
	stranger, _ := talk.Digest(3, 1, vec.Vec{}, 5)
	own, _ := talk.Digest(1, 0, vec.Vec{}, 5)
	for _, x := range []struct {
		b    []byte
		want api.Errno
	}{
		{nil, api.ErrShort},
		{digest[:7], api.ErrShort},
		{hurt, api.ErrSum},
		{digest[:len(digest)-1], api.ErrSum},
		{sum.Seal([]byte{9, 1, 0, 1}), api.ErrForm},
		{other, api.ErrArg},
		{stranger, api.ErrArg},
		{own, api.ErrArg},
		{sum.Seal([]byte{1, 3, 0, 1, 65}), api.ErrSize},
	} {
		if l, e := r.Receive(x.b); len(l) != 0 || e != x.want {
			t.Errorf("%v, %d, not %d", l, e, x.want)
		}
		unchanged(t, r, was)
	}
}

func TestAnExchange(t *testing.T) {
	a, b := fresh(t, 0), fresh(t, 1)
	do(t, a, "mkdir /d", "create /d/f")
	do(t, b, "mkdir /d", "create /d/f", "mkdir /e")
	tell(t, a, b)
	shows(t, b, "/d/ /d/f /d/f~2 /e/")
	shows(t, a, "/d/ /d/f")
	tell(t, b, a)
	shows(t, a, "/d/ /d/f /d/f~2 /e/")
	if a.Known() != b.Known() || a.Time() != 3 || b.Time() != 3 || !slices.Equal(a.Ops(), b.Ops()) {
		t.Errorf("%v, %v", asked(a), asked(b))
	}
	do(t, a, "mkdir /g")
	if i, _ := a.Stat("/g"); i.Node != at(4, 0) {
		t.Errorf("%v", i)
	}
	was := asked(b)
	tell(t, a, b)
	tell(t, a, b)
	if b.Known().Sum() != was.known.Sum()+1 {
		t.Errorf("%v", asked(b))
	}
}

func TestWhatIsAnswered(t *testing.T) {
	r := fresh(t, 1)
	do(t, r, "mkdir /a", "mkdir /b")
	digest, _ := talk.Digest(0, 1, vec.Vec{}.With(0, 5).With(1, 1).With(2, 3), 5)
	l, e := r.Receive(digest)
	want, _ := talk.Put(1, 0, msg.Msg{Kind: frame.Request, Want: []vec.Range{{Rep: 0, From: 1, To: 5}, {Rep: 2, From: 1, To: 3}}})
	if e != api.OK || len(l) != 1 || !slices.Equal(l[0], want) {
		t.Errorf("%v, %d", l, e)
	}
	digest, _ = talk.Digest(2, 1, vec.Vec{}.With(1, 1), 5)
	if l, e := r.Receive(digest); e != api.OK || len(l) != 0 {
		t.Errorf("%v, %d", l, e)
	}
	request, _ := talk.Put(2, 1, msg.Msg{Kind: frame.Request, Want: []vec.Range{{Rep: 1, From: 2, To: 9}}})
	l, e = r.Receive(request)
	if e != api.OK || len(l) != 1 || !slices.Equal(l[0], batch(t, 1, 2, r.Ops()[1])) {
		t.Errorf("%v, %d", l, e)
	}
	if l, e := r.Receive(batch(t, 0, 1, o(0, 1, 9, "x"))); e != api.OK || len(l) != 0 {
		t.Errorf("%v, %d", l, e)
	}
}

func TestOpsThatComeAheadOfTheirTurnWait(t *testing.T) {
	d := made(t, 10000)
	r := opened(t, conf(1), d)
	l := []api.Op{o(0, 1, 3, "a"), o(0, 2, 4, "b"), o(0, 3, 5, "c"), o(2, 1, 8, "d")}
	_, e := r.Receive(batch(t, 0, 1, l[2], l[3]))
	told(t, e, api.OK)
	shows(t, r, "/d/")
	_, e = r.Receive(batch(t, 2, 1, l[1]))
	told(t, e, api.OK)
	shows(t, r, "/d/")
	if d.Used() == 0 || r.Time() != 8 {
		t.Errorf("Time() = %d", r.Time())
	}
	_, e = r.Receive(batch(t, 0, 1, l[0], l[0], l[1]))
	told(t, e, api.OK)
	shows(t, r, "/a/ /b/ /c/ /d/")
	unchanged(t, opened(t, conf(1), d), asked(r))
}

func TestOpsThatAreLetGo(t *testing.T) {
	d := made(t, 10000)
	r := opened(t, conf(1), d)
	// Its own ones, and those of who is no member.
	_, e := r.Receive(batch(t, 0, 1, o(1, 1, 5, "own"), o(3, 1, 5, "three"), o(63, 1, 5, "last"), o(0, 1, 5, "a")))
	told(t, e, api.OK)
	shows(t, r, "/a/")
	// One whose time is not behind that of the one ahead of it: nothing that follows it is ready.
	used := d.Used()
	_, e = r.Receive(batch(t, 0, 1, o(0, 2, 5, "b"), o(0, 3, 9, "c")))
	told(t, e, api.OK)
	shows(t, r, "/a/")
	if d.Used() != used {
		t.Error("what is let go was appended")
	}
	// It may come again as it should, and those that wait follow.
	_, e = r.Receive(batch(t, 2, 1, o(0, 2, 6, "b"), o(2, 1, 1, "z")))
	told(t, e, api.OK)
	shows(t, r, "/a/ /b/ /c/ /z/")
	unchanged(t, opened(t, conf(1), d), asked(r))
}

// quiet makes all of a world know how far each one is.
func quiet(t *testing.T, l ...*Replica) {
	t.Helper()
	for range 3 {
		for _, a := range l {
			for _, b := range l {
				if a != b {
					tell(t, a, b)
				}
			}
		}
	}
}

func TestAnOpThatIsNotBehindTheFloorIsLetGo(t *testing.T) {
	a, b, c := fresh(t, 0), fresh(t, 1), fresh(t, 2)
	do(t, a, "mkdir /a", "mkdir /b", "mkdir /c")
	quiet(t, a, b, c)
	told(t, a.Save(), api.OK)
	if a.Floor() != at(3, 63) {
		t.Fatalf("the floor is %v", a.Floor())
	}
	was := asked(a)
	_, e := a.Receive(batch(t, 1, 0, o(1, 1, 3, "late"), o(1, 2, 4, "follows"), o(2, 1, 4, "x")))
	told(t, e, api.OK)
	shows(t, a, "/a/ /b/ /c/ /x/")
	if a.Known() != was.known.With(2, 1) {
		t.Errorf("it knows %q", vec.Text(a.Known()))
	}
}

func TestAStampThatIsTheFloorIsNotBehindIt(t *testing.T) {
	c := Conf{Rep: 0, Reps: 64, Most: 200, Nodes: 100}
	r := opened(t, c, stored(t, &state.State{Time: 9, Floor: at(3, 63)}))
	_, e := r.Receive(batch(t, 1, 0, o(63, 1, 3, "late"), o(62, 1, 4, "x"), o(63, 2, 5, "follows")))
	told(t, e, api.OK)
	shows(t, r, "/x/")
}

func TestWhereThereIsNoRoomItGoesNoFurther(t *testing.T) {
	d := made(t, 50)
	r := opened(t, conf(1), d)
	l := []api.Op{o(0, 1, 1, "a"), o(0, 2, 2, "b"), o(0, 3, 3, "c"), o(2, 1, 4, "d")}
	answers, e := r.Receive(batch(t, 0, 1, l...))
	if len(answers) != 0 || e != api.NoSpace {
		t.Errorf("%v, %d", answers, e)
	}
	unchanged(t, r, all{vec.Vec{}.With(0, 2), 2, api.Stamp{}, 2, "/a/ /b/", l[:2], l[:2]})
	unchanged(t, opened(t, conf(1), d), asked(r))
	d = made(t, 1000)
	r = opened(t, conf(1), d)
	d.Arm(30)
	_, e = r.Receive(batch(t, 0, 1, l...))
	told(t, e, api.ErrDown)
	shows(t, r, "/a/")
}

// P31.4

func TestSave(t *testing.T) {
	disks := []*disk.Disk{made(t, 10000), made(t, 10000), made(t, 10000)}
	a, b, c := opened(t, conf(0), disks[0]), opened(t, conf(1), disks[1]), opened(t, conf(2), disks[2])
	do(t, a, "mkdir /a", "create /a/f")
	do(t, b, "mkdir /b")
	tell(t, a, b)
	was := asked(b)
	// Of c nothing was heard, so nothing goes.
	told(t, b.Save(), api.OK)
	unchanged(t, b, was)
	unchanged(t, opened(t, conf(1), disks[1]), was)
	quiet(t, a, b, c)
	told(t, a.Save(), api.OK)
	was.paths = "/a/ /a/f /b/"
	unchanged(t, a, all{was.known, 2, at(2, 63), 3, was.paths, nil, nil})
	unchanged(t, opened(t, conf(0), disks[0]), asked(a))
	files := disks[0].Names()
	if !slices.Equal(files, []string{"log.2", "snap.2"}) {
		t.Errorf("the files are %q", files)
	}
	saved, _ := disks[0].Read("snap.2")
	s, e := state.Parse(saved)
	told(t, e, api.OK)
	if s.Rep != 0 || s.Time != 2 || s.Known != was.known || s.Base != was.known || s.Floor != at(2, 63) || len(s.Rows) != 3 || len(s.Ops) != 0 {
		t.Errorf("%v was saved", s)
	}
	do(t, a, "create /g")
	tell(t, a, b)
	told(t, b.Save(), api.OK)
	// c doesn't know of /g: it stays in the hold, and its time is above the floor.
	unchanged(t, b, all{was.known.With(0, 3), 3, at(2, 63), 4, "/a/ /a/f /b/ /g", b.Ops(), b.Ops()})
	if len(b.Ops()) != 1 {
		t.Errorf("%v are held", b.Ops())
	}
	unchanged(t, opened(t, conf(1), disks[1]), asked(b))
}

func TestWhatASaveRefusesChangesNothing(t *testing.T) {
	for _, room := range []int{150, 200, 250} {
		d := made(t, room)
		c := Conf{Rep: 0, Reps: 1, Most: 1000, Nodes: 100}
		r := opened(t, c, d)
		for _, x := range "abcdefghijklmnopqrstuvwxyz" {
			r.Do(call.Call{Kind: call.Mkdir, Path: "/" + string(x)})
		}
		was := asked(r)
		told(t, r.Save(), api.NoSpace)
		unchanged(t, r, was)
		unchanged(t, opened(t, c, d), was)
	}
	d := made(t, 10000)
	r := opened(t, Conf{Rep: 0, Reps: 1, Most: 1000, Nodes: 100}, d)
	do(t, r, "mkdir /a")
	was := asked(r)
	d.Arm(20)
	told(t, r.Save(), api.ErrDown)
	unchanged(t, r, was)
}

func TestWhoIsAloneHoldsNothingBehindASave(t *testing.T) {
	d := made(t, 10000)
	c := Conf{Rep: 0, Reps: 1, Most: 100, Nodes: 100}
	r := opened(t, c, d)
	do(t, r, "mkdir /a", "mkdir /b", "rename /a /b/c")
	told(t, r.Save(), api.OK)
	unchanged(t, r, all{vec.Vec{}.With(0, 3), 3, at(3, 63), 2, "/b/ /b/c/", nil, nil})
	r = opened(t, c, d)
	unchanged(t, r, all{vec.Vec{}.With(0, 3), 3, at(3, 63), 2, "/b/ /b/c/", nil, nil})
	do(t, r, "mkdir /x")
	if i, _ := r.Stat("/x"); i.Node != at(4, 0) {
		t.Errorf("%v", i)
	}
}

// P31.5

func TestWhatIsAsked(t *testing.T) {
	r := fresh(t, 0)
	do(t, r, "mkdir /a", "create /a/f")
	if i, e := r.Stat("/a"); e != api.OK || i != (walk.Info{Node: at(1, 0), Dir: true, Size: 1}) {
		t.Errorf("%v, %d", i, e)
	}
	if l, e := r.List("/a"); e != api.OK || len(l) != 1 || l[0].Name != "f" {
		t.Errorf("%v, %d", l, e)
	}
	_, e := r.Stat("/x")
	told(t, e, api.NoEntry)
	_, e = r.List("/a/f")
	told(t, e, api.NotDir)
	places := view.Of(fold.Of(r.Ops()))
	i := 0
	for s, row := range r.All() {
		if i >= len(places) || s != places[i].Path || !listing.One(row, places[i].Row) {
			t.Errorf("%s, %v", s, row)
		}
		i++
	}
	if i != len(places) || r.Nodes() != 2 {
		t.Errorf("%d places, %d nodes", i, r.Nodes())
	}
}

func TestWhatIsToldOfOpsMayBeChanged(t *testing.T) {
	r := fresh(t, 0)
	do(t, r, "mkdir /a", "create /a/f")
	was := asked(r)
	clear(r.Ops())
	clear(r.Log())
	unchanged(t, r, all{was.known, 2, api.Stamp{}, 2, was.paths, was.ops, was.log})
	if r.Ops()[0].Seq != 1 || r.Log()[1].Seq != 2 {
		t.Error("ops were changed")
	}
}

func TestANilReplica(t *testing.T) {
	var r *Replica
	told(t, r.Do(parsed("mkdir /a")), api.ErrNil)
	told(t, r.Do(call.Call{}), api.ErrNil)
	told(t, r.Save(), api.ErrNil)
	b, e := r.Digest(0)
	told(t, e, api.ErrNil)
	l, e := r.Receive(nil)
	told(t, e, api.ErrNil)
	i, e := r.Stat("/")
	told(t, e, api.ErrNil)
	rows, e := r.List("x")
	told(t, e, api.ErrNil)
	if len(b) != 0 || len(l) != 0 || i != (walk.Info{}) || len(rows) != 0 {
		t.Errorf("%v, %v, %v, %v", b, l, i, rows)
	}
	for s := range r.All() {
		t.Errorf("%s is there", s)
	}
	unchanged(t, r, all{})
}

// P31.6

func TestWhereverThePowerGoes(t *testing.T) {
	calls := strings.Split("mkdir /a,create /a/f,mkdir /b,save,rename /a /b/a,rmdir /x,rename /b/a/f /b,mkdir /c,rename /c /b/a/c,save,rmdir /b/a/c", ",")
	for _, keep := range [][]int{nil, {1, 1, 1}, {30, 30, 30}, {999, 999, 999}} {
		for steps := 0; ; steps++ {
			d := made(t, 10000)
			c := Conf{Rep: 0, Reps: 1, Most: 60, Nodes: 100}
			r := opened(t, c, d)
			d.Arm(steps)
			var may []all
			for i, s := range calls {
				was := asked(r)
				e := api.OK
				if s == "save" {
					e = r.Save()
				} else {
					e = r.Do(parsed(s))
				}
				if e != api.OK {
					unchanged(t, r, was)
				}
				if e == api.ErrDown {
					// What was being done may have come.
					x := opened(t, c, done(t, calls[:i+1]))
					may = []all{was, asked(x)}
					break
				}
			}
			if may == nil {
				break
			}
			d.Boot(keep)
			now := asked(opened(t, c, d))
			if !slices.ContainsFunc(may, func(x all) bool { return same(now, x) }) {
				t.Fatalf("behind %d steps it is %v, not one of %v", steps, now, may)
			}
		}
	}
}

// done tells a disk on which calls were done.
func done(t *testing.T, calls []string) *disk.Disk {
	t.Helper()
	d := made(t, 10000)
	r := opened(t, Conf{Rep: 0, Reps: 1, Most: 60, Nodes: 100}, d)
	for _, s := range calls {
		if s == "save" {
			r.Save()
		} else {
			r.Do(parsed(s))
		}
	}
	return d
}

func TestTwoReplicasHaveNothingInCommon(t *testing.T) {
	a, b := fresh(t, 0), fresh(t, 1)
	do(t, a, "mkdir /a")
	unchanged(t, b, all{})
}
