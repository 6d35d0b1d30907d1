package world

import (
	"math"
	"slices"
	"strings"
	"testing"

	"banyan/api"
	"banyan/call"
	"banyan/disk"
	"banyan/fold"
	"banyan/listing"
	"banyan/replica"
	"banyan/vec"
	"banyan/view"
)

// conf tells how a world of so many is set up.
func conf(reps int) Conf { return Conf{Reps: reps, Most: 200, Nodes: 200, Room: 1 << 20} }

// made tells a world.
func made(t *testing.T, c Conf) *World {
	t.Helper()
	w, e := New(c)
	if w == nil || e != api.OK {
		t.Fatalf("New(%v) = %d", c, e)
	}
	return w
}

func told(t *testing.T, e, want api.Errno) {
	t.Helper()
	if e != want {
		t.Errorf("%d is told, not %d", e, want)
	}
}

// mkdir tells the step that makes a directory.
func mkdir(r int, path string) Step {
	return Step{Kind: Call, R: r, X: call.Call{Kind: call.Mkdir, Path: path}}
}

// do does steps, each of which is to tell an error.
func do(t *testing.T, w *World, want api.Errno, l ...Step) {
	t.Helper()
	for _, s := range l {
		if e := w.Do(s); e != want {
			t.Errorf("%v: %d, not %d", s, e, want)
		}
	}
}

// paths tells all paths that a replica shows, but for the two that all show.
func paths(r *replica.Replica) string {
	var l []string
	for s := range r.All() {
		if s != "/" && s != "/lost+found" {
			l = append(l, s)
		}
	}
	return strings.Join(l, " ")
}

// shows asks whether a replica shows just these paths.
func shows(t *testing.T, w *World, i int, want string) {
	t.Helper()
	if got := paths(w.At(i)); got != want {
		t.Errorf("%d shows %q, not %q", i, got, want)
	}
}

// P33.1

func TestNew(t *testing.T) {
	for _, c := range []Conf{{1, 16, 1, 0}, {64, disk.MaxRoom, replica.MaxNodes, disk.MaxRoom}, conf(3)} {
		w := made(t, c)
		if w.Reps() != c.Reps || w.Flights() != 0 || w.Lost() != 0 {
			t.Errorf("Reps %d, Flights %d, Lost %d", w.Reps(), w.Flights(), w.Lost())
		}
		for i := range c.Reps {
			if !w.Up(i) || w.At(i) == nil || w.Used(i) != 0 || w.At(i).Known() != (vec.Vec{}) {
				t.Errorf("%d of %v", i, c)
			}
		}
		for _, i := range []int{-1, c.Reps, 64, math.MinInt, math.MaxInt} {
			if w.Up(i) || w.At(i) != nil || w.Used(i) != 0 {
				t.Errorf("%d of %v", i, c)
			}
		}
	}
	for _, c := range []Conf{{}, {0, 16, 1, 0}, {65, 16, 1, 0}, {-1, 16, 1, 0}, {1, 15, 1, 0}, {1, disk.MaxRoom + 1, 1, 0}, {1, 16, 0, 0}, {1, 16, replica.MaxNodes + 1, 0}, {1, 16, 1, -1}, {1, 16, 1, disk.MaxRoom + 1}, {1, 16, 1, math.MaxInt}, {math.MinInt, math.MinInt, math.MinInt, math.MinInt}} {
		if w, e := New(c); w != nil || e != api.ErrArg {
			t.Errorf("New(%v) = %v, %d", c, w, e)
		}
	}
}

func TestEachReplicaHasANumberAndLimitsOfItsOwn(t *testing.T) {
	w := made(t, Conf{Reps: 3, Most: 16, Nodes: 2, Room: 50})
	do(t, w, api.OK, mkdir(2, "/a"), mkdir(2, "/b"))
	do(t, w, api.NoSpace, mkdir(2, "/c"))
	if w.At(2).Known() != (vec.Vec{}.With(2, 2)) || w.Used(2) != 38 || w.Used(1) != 0 {
		t.Errorf("%q, %d bytes", vec.Text(w.At(2).Known()), w.Used(2))
	}
	w = made(t, Conf{Reps: 1, Most: 16, Nodes: 9, Room: 50})
	do(t, w, api.OK, mkdir(0, "/a"), mkdir(0, "/b"))
	do(t, w, api.NoSpace, mkdir(0, "/c"))
}

func TestANilWorld(t *testing.T) {
	var w *World
	if w.Reps() != 0 || w.Up(0) || w.At(0) != nil || w.Flights() != 0 || w.Lost() != 0 || w.Used(0) != 0 {
		t.Error("it has something")
	}
	for kind := range 15 {
		do(t, w, api.ErrNil, Step{Kind: kind})
	}
}

// P33.2

func TestNoStep(t *testing.T) {
	w := made(t, conf(2))
	for _, kind := range []int{0, 13, -1, math.MinInt, math.MaxInt} {
		do(t, w, api.ErrArg, Step{Kind: kind}, Step{Kind: kind, R: 9, N: 9})
	}
	if Call != 1 || Digest != 2 || Deliver != 3 || Drop != 4 || Twice != 5 || Swap != 6 || Hurt != 7 || Arm != 8 || Boot != 9 || Save != 10 || Restart != 11 || Exchange != 12 {
		t.Error("kinds")
	}
}

func TestStepsOfNobody(t *testing.T) {
	w := made(t, conf(2))
	for _, r := range []int{-1, 2, 64, math.MinInt, math.MaxInt} {
		for _, kind := range []int{Call, Digest, Arm, Boot, Save, Restart, Exchange} {
			do(t, w, api.ErrNone, Step{Kind: kind, R: r, N: 1}, Step{Kind: kind, R: r, N: -1})
		}
	}
}

// fell tells a world of which one is down.
func fell(t *testing.T, reps, i int) *World {
	t.Helper()
	w := made(t, conf(reps))
	do(t, w, api.OK, mkdir(i, "/was"), Step{Kind: Arm, R: i, N: 3})
	do(t, w, api.ErrDown, mkdir(i, "/a"))
	if w.Up(i) || w.At(i) != nil {
		t.Fatalf("%d is up", i)
	}
	return w
}

func TestWhoIsDown(t *testing.T) {
	w := fell(t, 3, 1)
	for _, kind := range []int{Call, Digest, Save, Restart, Exchange} {
		do(t, w, api.ErrDown, Step{Kind: kind, R: 1, N: 0}, Step{Kind: kind, R: 1, N: 9}, Step{Kind: kind, R: 1, N: 1})
	}
	do(t, w, api.ErrDown, Step{Kind: Exchange, R: 0, N: 1})
	if !w.Up(0) || !w.Up(2) || w.Used(1) == 0 {
		t.Error("others are down, too")
	}
	do(t, w, api.OK, Step{Kind: Arm, R: 1, N: 0}, Step{Kind: Boot, R: 1, Keep: []int{1}})
	if !w.Up(1) {
		t.Fatal("it is down")
	}
	shows(t, w, 1, "/was")
	do(t, w, api.ErrState, Step{Kind: Boot, R: 1}, Step{Kind: Boot, R: 0})
	do(t, w, api.OK, mkdir(1, "/b"))
	shows(t, w, 1, "/b /was")
}

func TestBootKeepsWhatItIsTold(t *testing.T) {
	for keep, want := range map[int]string{0: "/was", 5: "/was", 18: "/was", 19: "/a /was", 99: "/a /was", -1: "/was"} {
		w := made(t, conf(1))
		// The power lasts for all bytes, but not till they are sure.
		do(t, w, api.OK, mkdir(0, "/was"), Step{Kind: Arm, N: 19})
		do(t, w, api.ErrDown, mkdir(0, "/a"))
		do(t, w, api.OK, Step{Kind: Boot, Keep: []int{keep}})
		shows(t, w, 0, want)
	}
}

func TestAnArmThatLasts(t *testing.T) {
	w := made(t, conf(1))
	do(t, w, api.OK, Step{Kind: Arm, N: 20}, mkdir(0, "/a"), Step{Kind: Arm, N: 0}, Step{Kind: Arm, N: -1}, mkdir(0, "/b"))
	do(t, w, api.OK, Step{Kind: Arm, N: 0})
	if !w.Up(0) {
		t.Error("it is down ahead of its first step")
	}
	// A step that writes nothing takes no power.
	do(t, w, api.Exists, mkdir(0, "/a"))
	do(t, w, api.ErrDown, Step{Kind: Save})
	if w.Up(0) {
		t.Error("it is up")
	}
}

func TestRestart(t *testing.T) {
	w := made(t, conf(2))
	do(t, w, api.OK, mkdir(0, "/a"))
	was := w.At(0)
	do(t, w, api.OK, Step{Kind: Restart, R: 0})
	if w.At(0) == was {
		t.Error("it was not opened again")
	}
	shows(t, w, 0, "/a")
	do(t, w, api.OK, mkdir(0, "/b"))
	shows(t, w, 0, "/a /b")
}

func TestTheErrorsOfAReplica(t *testing.T) {
	w := made(t, conf(2))
	do(t, w, api.OK, Step{Kind: Call, R: 1, X: call.Call{Kind: call.Create, Path: "/f"}})
	for kind, want := range map[int]api.Errno{0: api.ErrArg, call.Rmdir: api.NotDir, call.Create: api.Exists, call.Rename: api.Invalid} {
		do(t, w, want, Step{Kind: Call, R: 1, X: call.Call{Kind: kind, Path: "/f"}})
	}
	shows(t, w, 1, "/f")
}

func TestDigestsAndDeliveries(t *testing.T) {
	w := made(t, conf(3))
	do(t, w, api.OK, mkdir(0, "/a"), Step{Kind: Digest, R: 0, N: 2})
	do(t, w, api.ErrArg, Step{Kind: Digest, R: 0, N: 0}, Step{Kind: Digest, R: 0, N: 3}, Step{Kind: Digest, R: 0, N: -1})
	if w.Flights() != 1 {
		t.Fatalf("%d flights", w.Flights())
	}
	// The digest is answered by a request to the one from whom it came, that by a batch.
	do(t, w, api.OK, Step{Kind: Deliver})
	if w.Flights() != 1 {
		t.Fatalf("%d flights", w.Flights())
	}
	shows(t, w, 2, "")
	do(t, w, api.OK, Step{Kind: Deliver})
	shows(t, w, 2, "")
	do(t, w, api.OK, Step{Kind: Deliver})
	shows(t, w, 2, "/a")
	shows(t, w, 1, "")
	if w.Flights() != 0 || w.Lost() != 0 {
		t.Errorf("%d flights", w.Flights())
	}
}

func TestStepsOfNoFlight(t *testing.T) {
	w := made(t, conf(2))
	do(t, w, api.OK, Step{Kind: Digest, R: 0, N: 1}, Step{Kind: Digest, R: 1, N: 0})
	for _, n := range []int{-1, 2, math.MinInt, math.MaxInt} {
		for _, kind := range []int{Deliver, Drop, Twice, Swap, Hurt} {
			do(t, w, api.ErrNone, Step{Kind: kind, N: n})
		}
		do(t, w, api.ErrNone, Step{Kind: Swap, N: 0, M: n})
	}
	if w.Flights() != 2 {
		t.Errorf("%d flights", w.Flights())
	}
}

func TestDropTwiceSwap(t *testing.T) {
	w := made(t, conf(2))
	do(t, w, api.OK, mkdir(0, "/a"), mkdir(1, "/b"), Step{Kind: Digest, R: 0, N: 1}, Step{Kind: Digest, R: 1, N: 0}, Step{Kind: Drop, N: 0})
	if w.Flights() != 1 {
		t.Fatalf("%d flights", w.Flights())
	}
	do(t, w, api.OK, Step{Kind: Twice}, Step{Kind: Digest, R: 0, N: 1})
	// Of 1 to 0 twice, then of 0 to 1, which is swapped to the front.
	do(t, w, api.OK, Step{Kind: Swap, N: 0, M: 2}, Step{Kind: Deliver}, Step{Kind: Swap, N: 0, M: 2}, Step{Kind: Deliver}, Step{Kind: Swap, N: 0, M: 2}, Step{Kind: Deliver})
	shows(t, w, 1, "/a /b")
	shows(t, w, 0, "/a")
	if w.Flights() != 2 {
		t.Errorf("%d flights", w.Flights())
	}
}

func TestADeliveryToWhoIsDown(t *testing.T) {
	w := fell(t, 2, 1)
	do(t, w, api.OK, mkdir(0, "/a"), Step{Kind: Digest, R: 0, N: 1})
	do(t, w, api.ErrDown, Step{Kind: Deliver})
	if w.Flights() != 0 || w.Lost() != 0 {
		t.Errorf("%d flights", w.Flights())
	}
}

func TestHurt(t *testing.T) {
	w := made(t, conf(2))
	do(t, w, api.OK, mkdir(0, "/a"), Step{Kind: Digest, R: 0, N: 1}, Step{Kind: Digest, R: 0, N: 1})
	do(t, w, api.ErrArg, Step{Kind: Hurt, N: 1, M: -1, R: 1}, Step{Kind: Hurt, N: 1, M: 0, R: 0}, Step{Kind: Hurt, N: 1, M: 0, R: 256}, Step{Kind: Hurt, N: 1, M: 99, R: 1})
	do(t, w, api.OK, Step{Kind: Hurt, N: 1, M: 6, R: 255})
	do(t, w, api.ErrTwice, Step{Kind: Hurt, N: 1, M: 6, R: 255})
	do(t, w, api.ErrSum, Step{Kind: Deliver, N: 1})
	do(t, w, api.OK, Step{Kind: Deliver, N: 0})
	if w.Flights() != 1 {
		t.Errorf("%d flights", w.Flights())
	}
}

func TestWhatTheNetLosesIsNotTold(t *testing.T) {
	w := made(t, conf(2))
	do(t, w, api.OK, mkdir(0, "/a"))
	for range 256 {
		do(t, w, api.OK, Step{Kind: Digest, R: 0, N: 1})
	}
	do(t, w, api.OK, Step{Kind: Digest, R: 0, N: 1})
	if w.Flights() != 256 || w.Lost() != 1 {
		t.Errorf("%d flights, %d lost", w.Flights(), w.Lost())
	}
	// Of Twice the net's errors are told.
	do(t, w, api.ErrFull, Step{Kind: Twice})
	if w.Lost() != 2 {
		t.Errorf("%d lost", w.Lost())
	}
}

func TestASaveWherePowerGoes(t *testing.T) {
	w := made(t, conf(1))
	do(t, w, api.OK, mkdir(0, "/a"), Step{Kind: Save}, Step{Kind: Arm, N: 30})
	do(t, w, api.ErrDown, Step{Kind: Save})
	if w.Up(0) {
		t.Error("it is up")
	}
	do(t, w, api.OK, Step{Kind: Boot})
	shows(t, w, 0, "/a")
	// The power goes while it is opened: what was torn is cut off only when there is power.
	w = made(t, conf(1))
	do(t, w, api.OK, mkdir(0, "/a"), Step{Kind: Arm, N: 5})
	do(t, w, api.ErrDown, mkdir(0, "/b"))
	do(t, w, api.OK, Step{Kind: Boot, Keep: []int{3}}, Step{Kind: Arm, N: 0}, Step{Kind: Restart}, Step{Kind: Arm, N: 2})
	do(t, w, api.ErrDown, Step{Kind: Save})
	do(t, w, api.OK, Step{Kind: Boot, Keep: []int{9, 9, 9}})
	shows(t, w, 0, "/a")
}

// P33.3

func TestExchange(t *testing.T) {
	w := made(t, conf(2))
	do(t, w, api.OK, mkdir(0, "/a"), Step{Kind: Exchange, R: 1, N: 0})
	shows(t, w, 1, "/a")
	do(t, w, api.OK, mkdir(1, "/b"), Step{Kind: Exchange, R: 1, N: 0})
	shows(t, w, 0, "/a")
	do(t, w, api.OK, Step{Kind: Exchange, R: 0, N: 1}, Step{Kind: Exchange, R: 0, N: 1})
	shows(t, w, 0, "/a /b")
	do(t, w, api.ErrNone, Step{Kind: Exchange, R: 0, N: 0}, Step{Kind: Exchange, R: 0, N: 2}, Step{Kind: Exchange, R: 0, N: -1})
	if w.Flights() != 0 || w.Lost() != 0 {
		t.Error("the net was asked")
	}
}

func TestAnExchangeOfManyOps(t *testing.T) {
	w := made(t, Conf{Reps: 2, Most: 5000, Nodes: 600, Room: 1 << 20})
	for i := range 26 {
		for j := range 20 {
			do(t, w, api.OK, mkdir(0, "/"+string(rune('a'+i))+string(rune('a'+j))))
		}
	}
	// Of 520 ops as many come as are told at once.
	for _, n := range []int{512, 520, 520} {
		do(t, w, api.OK, Step{Kind: Exchange, R: 1, N: 0})
		if got := w.At(1).Known().Get(0); got != n {
			t.Errorf("%d are known, not %d", got, n)
		}
	}
}

func TestAnExchangeTellsTheFirstError(t *testing.T) {
	w := made(t, Conf{Reps: 2, Most: 200, Nodes: 99, Room: 60})
	do(t, w, api.OK, mkdir(0, "/a"), mkdir(0, "/b"), mkdir(0, "/c"), mkdir(1, "/d"))
	do(t, w, api.NoSpace, Step{Kind: Exchange, R: 1, N: 0})
	shows(t, w, 1, "/a /b /d")
	if !w.Up(1) {
		t.Error("it is down")
	}
	// Behind the first error nothing more is received, so that it is the last thing that is told.
	w = made(t, Conf{Reps: 2, Most: 200, Nodes: 200, Room: 1800})
	for i := range 26 {
		for j := range 3 {
			do(t, w, api.OK, mkdir(0, "/"+string(rune('a'+i))+string(rune('a'+j))))
		}
	}
	for i := range 50 {
		do(t, w, api.OK, mkdir(1, "/"+string(rune('A'+i))))
	}
	do(t, w, api.NoSpace, Step{Kind: Exchange, R: 1, N: 0})
	if n := w.At(1).Known().Get(0); n < 30 || n >= 64 {
		t.Errorf("%d came", n)
	}
	w = made(t, conf(2))
	do(t, w, api.OK, mkdir(0, "/a"), mkdir(0, "/b"), mkdir(0, "/c"), Step{Kind: Arm, R: 1, N: 30})
	do(t, w, api.ErrDown, Step{Kind: Exchange, R: 1, N: 0})
	if w.Up(1) || !w.Up(0) {
		t.Error("who is up")
	}
	do(t, w, api.OK, Step{Kind: Boot, R: 1, Keep: []int{9}})
	shows(t, w, 1, "/a")
}

// P33.4, and the theorems

// chance tells numbers in turn, the same each time.
type chance struct{ n int }

func (c *chance) next(most int) int {
	c.n = (c.n*1103515245 + 12345) % (1 << 31)
	return c.n / 65536 % most
}

// path tells one of few paths.
func (c *chance) path() string {
	s := ""
	for range 1 + c.next(3) {
		s += "/" + []string{"a", "b", "c", "a~2", "b~2", "lost+found"}[min(c.next(7), c.next(7)+1, 5)]
	}
	return s
}

// near tells a path that is seen at a replica, or one within it, or, at times, any other one.
func (c *chance) near(r *replica.Replica) string {
	var l []string
	for s := range r.All() {
		l = append(l, s)
	}
	if len(l) == 0 || c.next(10) == 0 {
		return c.path()
	}
	s := l[c.next(len(l))]
	if s == "/lost+found" && c.next(5) > 0 {
		s = "/"
	}
	if s == "/" || c.next(2) == 0 {
		s = strings.TrimSuffix(s, "/") + "/" + string(rune('a'+c.next(5)))
	}
	return s
}

// fallen tells one that is down, if there is any.
func fallen(w *World) (int, bool) {
	for i := range w.Reps() {
		if !w.Up(i) {
			return i, true
		}
	}
	return 0, false
}

// step tells a step of any kind, mostly such as are done.
func (c *chance) step(w *World) Step {
	s := Step{R: c.next(w.Reps()), N: c.next(w.Reps())}
	if i, is := fallen(w); is && c.next(5) == 0 {
		return Step{Kind: Boot, R: i, Keep: []int{c.next(40), c.next(40), c.next(40)}}
	}
	switch k := c.next(50); {
	case k < 20:
		s.Kind = Call
		s.X = call.Call{Kind: []int{call.Mkdir, call.Mkdir, call.Create, call.Create, call.Rename, call.Rename, call.Unlink, call.Rmdir, call.Remove}[c.next(9)], Path: c.near(w.At(s.R)), To: c.near(w.At(s.R))}
	case k < 26:
		s.Kind = Digest
	case k < 38:
		s.Kind, s.N = Deliver, c.next(w.Flights()+1)
	case k < 42:
		s.Kind, s.N, s.M = []int{Drop, Twice, Swap, Hurt}[c.next(4)], c.next(w.Flights()+1), c.next(w.Flights()+1)
		if s.Kind == Hurt {
			s.M, s.R = c.next(20), c.next(256)
		}
	case k == 42:
		s.Kind, s.N = Arm, c.next(400)
	case k == 43:
		s.Kind = Boot
	case k < 46:
		s.Kind = Save
	case k == 46:
		s.Kind = Restart
	default:
		s.Kind = Exchange
	}
	return s
}

// ledger is all that replicas gave, and what each one said that it knows.
type ledger struct {
	given []api.Op
	seen  map[api.Stamp]api.Op
	known []vec.Vec
	time  []int
}

// note writes down what replicas have, and holds it against what they had.
func (l *ledger) note(t *testing.T, w *World) {
	t.Helper()
	for i := range w.Reps() {
		r := w.At(i)
		if r == nil {
			continue
		}
		for _, o := range r.Ops() {
			was, ok := l.seen[o.At]
			if !ok {
				l.seen[o.At] = o
				l.given = append(l.given, o)
			} else if was != o {
				t.Fatalf("T5: a stamp is given twice: %v, %v", was, o)
			}
		}
		if !vec.Covers(r.Known(), l.known[i]) || r.Time() < l.time[i] {
			t.Fatalf("T5: %d knew %q, at %d, and knows %q, at %d", i, vec.Text(l.known[i]), l.time[i], vec.Text(r.Known()), r.Time())
		}
		l.known[i], l.time[i] = r.Known(), r.Time()
	}
}

// holds asks whether each replica shows what it is to show.
func (l *ledger) holds(t *testing.T, w *World) {
	t.Helper()
	for i := range w.Reps() {
		r := w.At(i)
		if r == nil {
			continue
		}
		ops := fold.Known(l.given, r.Known())
		if len(ops) != r.Known().Sum() {
			t.Fatalf("%d knows %q, of which %d are given", i, vec.Text(r.Known()), len(ops))
		}
		places := view.Of(fold.Of(ops))
		k := 0
		for s, row := range r.All() {
			if k >= len(places) || places[k].Path != s || !listing.One(places[k].Row, row) {
				t.Fatalf("T1: %d shows %s, %v", i, s, row)
			}
			k++
		}
		if k != len(places) {
			t.Fatalf("T1: %d shows %d places, not %d", i, k, len(places))
		}
		unlike(t, places, ops)
	}
}

// unlike asks whether places are a tree of unlike names, where each node is seen that was made, and never thrown away.
func unlike(t *testing.T, places []view.Place, ops []api.Op) {
	t.Helper()
	seen := map[string]int{}
	nodes := map[api.Stamp]int{}
	for _, p := range places {
		seen[p.Path]++
		for _, node := range p.Row.Nodes {
			nodes[node]++
		}
		if seen[p.Path] > 1 {
			t.Fatalf("T2: two places are %s", p.Path)
		}
	}
	for _, o := range ops {
		thrown := slices.ContainsFunc(ops, func(x api.Op) bool { return x.Node == o.Node && x.Parent == (api.Stamp{Rep: 1}) })
		if o.At == o.Node && !thrown && nodes[o.Node] != 1 {
			t.Fatalf("T2: %v is seen %d times", o.Node, nodes[o.Node])
		}
	}
}

func TestTheorems(t *testing.T) {
	for seed := range 60 {
		c := &chance{n: seed}
		w := made(t, Conf{Reps: 1 + c.next(4), Most: 16 + c.next(300), Nodes: 60, Room: 3000 + c.next(9000)})
		l := &ledger{seen: map[api.Stamp]api.Op{}, known: make([]vec.Vec, w.Reps()), time: make([]int, w.Reps())}
		for n := range 350 {
			s := c.step(w)
			was := make([]*replica.Replica, w.Reps())
			known := make([]vec.Vec, w.Reps())
			for i := range was {
				was[i], known[i] = w.At(i), w.At(i).Known()
			}
			e := w.Do(s)
			for i := range was {
				// What is done at one changes no other one, but by a delivery or an exchange.
				if i != s.R && s.Kind != Deliver && s.Kind != Exchange && (w.At(i) != was[i] || w.At(i).Known() != known[i]) {
					t.Fatalf("P33.4: %v changed %d", s, i)
				}
				if e == api.ErrSum && w.At(i).Known() != known[i] {
					t.Fatalf("P33.4: what was hurt changed %d", i)
				}
			}
			if s.Kind == Exchange && e == api.OK && !vec.Covers(w.At(s.R).Known(), w.At(s.N).Known()) {
				t.Fatalf("P33.4: behind %v %q is known, not all of %q", s, vec.Text(w.At(s.R).Known()), vec.Text(w.At(s.N).Known()))
			}
			l.note(t, w)
			if n%7 == 0 {
				l.holds(t, w)
			}
		}
		l.holds(t, w)
		meet(t, w, c, l)
	}
}

// asked is all that is asked of a replica.
type asked struct {
	known vec.Vec
	time  int
	floor api.Stamp
	nodes int
	ops   []api.Op
	log   []api.Op
	paths string
}

func ask(r *replica.Replica) asked {
	return asked{r.Known(), r.Time(), r.Floor(), r.Nodes(), r.Ops(), r.Log(), paths(r)}
}

func (a asked) is(b asked) bool {
	return a.known == b.known && a.time == b.time && a.floor == b.floor && a.nodes == b.nodes && slices.Equal(a.ops, b.ops) && slices.Equal(a.log, b.log) && a.paths == b.paths
}

func TestWhatIsRefusedChangesNothing(t *testing.T) {
	refused, full := 0, 0
	for seed := range 60 {
		c := &chance{n: 5000 + seed}
		w := made(t, Conf{Reps: 1 + c.next(3), Most: 16 + c.next(100), Nodes: 5 + c.next(20), Room: 150 + c.next(600)})
		l := &ledger{seen: map[api.Stamp]api.Op{}, known: make([]vec.Vec, w.Reps()), time: make([]int, w.Reps())}
		for range 300 {
			s := c.step(w)
			was, r := ask(w.At(s.R%w.Reps())), w.At(s.R%w.Reps())
			e := w.Do(s)
			switch {
			case e == api.OK || r == nil || w.At(s.R) == nil:
			case s.Kind == Call || s.Kind == Save || s.Kind == Digest:
				refused++
				if e == api.NoSpace {
					full++
				}
				if now := ask(w.At(s.R)); w.At(s.R) != r || !now.is(was) {
					t.Fatalf("T4: %v tells %d, and changed %v to %v", s, e, was, now)
				}
			}
			l.note(t, w)
		}
		l.holds(t, w)
	}
	if refused < 1000 || full < 100 {
		t.Errorf("only %d were refused, and of these %d as there was no room", refused, full)
	}
}

// meet makes all come together.
func meet(t *testing.T, w *World, c *chance, l *ledger) {
	t.Helper()
	for i := range w.Reps() {
		do(t, w, api.OK, Step{Kind: Arm, R: i, N: -1})
		if !w.Up(i) {
			do(t, w, api.OK, Step{Kind: Boot, R: i, Keep: []int{c.next(99)}})
		}
	}
	l.note(t, w)
	digests := c.next(2) == 0
	for range w.Reps() {
		for i := range w.Reps() {
			for j := range w.Reps() {
				if i == j {
					continue
				}
				if !digests {
					do(t, w, api.OK, Step{Kind: Exchange, R: i, N: j})
					continue
				}
				if e := w.Do(Step{Kind: Digest, R: i, N: j}); e != api.OK {
					t.Fatalf("digest: %d", e)
				}
				// What was hurt is no frame; all others come.
				for w.Flights() > 0 {
					if e := w.Do(Step{Kind: Deliver, N: c.next(w.Flights())}); e != api.OK && e != api.ErrSum {
						t.Fatalf("deliver: %d", e)
					}
				}
			}
		}
	}
	l.note(t, w)
	l.holds(t, w)
	for i := range w.Reps() {
		if w.At(i).Known() != w.At(0).Known() || w.At(i).Known().Sum() != len(l.given) || paths(w.At(i)) != paths(w.At(0)) {
			t.Fatalf("T7: %d knows %q, 0 knows %q, %d were given", i, vec.Text(w.At(i).Known()), vec.Text(w.At(0).Known()), len(l.given))
		}
	}
}

// plain is a map of paths, as the rules of POSIX have it.
type plain map[string]bool

// up tells the path of the directory in which a path stands.
func up(s string) string {
	if i := strings.LastIndex(s, "/"); i > 0 {
		return s[:i]
	}
	return "/"
}

// dir asks for a directory.
func (m plain) dir(s string) api.Errno {
	is, ok := m[s]
	if ok && is {
		return api.OK
	}
	if ok {
		return api.NotDir
	}
	for s != "/" {
		s = up(s)
		if is, ok := m[s]; ok && !is {
			return api.NotDir
		}
	}
	return api.NoEntry
}

// at asks for what stands at a path.
func (m plain) at(s string) api.Errno {
	if _, ok := m[s]; ok {
		return api.OK
	}
	if e := m.dir(up(s)); e != api.OK {
		return e
	}
	return api.NoEntry
}

// shows asks whether there is anything in a directory.
func (m plain) shows(s string) bool {
	for x := range m {
		if strings.HasPrefix(x, s+"/") {
			return true
		}
	}
	return false
}

// do does a call.
func (m plain) do(x call.Call) api.Errno {
	const found = "/lost+found"
	switch x.Kind {
	case call.Mkdir, call.Create:
		if e := m.dir(up(x.Path)); e != api.OK {
			return e
		}
		if _, ok := m[x.Path]; ok {
			return api.Exists
		}
		if up(x.Path) == found {
			return api.Busy
		}
		m[x.Path] = x.Kind == call.Mkdir
	case call.Unlink:
		if e := m.at(x.Path); e != api.OK {
			return e
		}
		if m[x.Path] {
			return api.IsDir
		}
		delete(m, x.Path)
	case call.Rmdir, call.Remove:
		if e := m.at(x.Path); e != api.OK {
			return e
		}
		if x.Path == found {
			return api.Busy
		}
		if x.Kind == call.Rmdir && !m[x.Path] {
			return api.NotDir
		}
		if m.shows(x.Path) {
			return api.NotEmpty
		}
		delete(m, x.Path)
	case call.Rename:
		return m.rename(x.Path, x.To)
	}
	return api.OK
}

func (m plain) rename(from, to string) api.Errno {
	const found = "/lost+found"
	if e := m.at(from); e != api.OK {
		return e
	}
	if from == found {
		return api.Busy
	}
	if from == to {
		return api.OK
	}
	if m[from] && strings.HasPrefix(to, from+"/") {
		return api.Invalid
	}
	if e := m.dir(up(to)); e != api.OK {
		return e
	}
	if to == found || up(to) == found {
		return api.Busy
	}
	if is, ok := m[to]; ok {
		switch {
		case is && !m[from]:
			return api.IsDir
		case !is && m[from]:
			return api.NotDir
		case m.shows(to):
			return api.NotEmpty
		}
		delete(m, to)
	}
	moved := plain{}
	for s, is := range m {
		if s == from || strings.HasPrefix(s, from+"/") {
			moved[to+s[len(from):]] = is
			delete(m, s)
		}
	}
	for s, is := range moved {
		m[s] = is
	}
	return api.OK
}

func TestOneReplicaAloneIsAPlainMapOfPaths(t *testing.T) {
	for seed := range 40 {
		c := &chance{n: 1000 + seed}
		w := made(t, Conf{Reps: 1, Most: 100, Nodes: 1000, Room: 1 << 20})
		m := plain{"/": true, "/lost+found": true}
		for n := range 250 {
			x := call.Call{Kind: 1 + c.next(6), Path: c.path(), To: c.path()}
			if c.next(40) == 0 {
				do(t, w, api.OK, Step{Kind: []int{Save, Restart}[c.next(2)]})
			}
			if e, want := w.Do(Step{Kind: Call, X: x}), m.do(x); e != want {
				t.Fatalf("T3: %v: %d, not %d", x, e, want)
			}
			if n%5 > 0 {
				continue
			}
			k := 0
			for s, row := range w.At(0).All() {
				is, ok := m[s]
				if !ok || is != row.Dir || row.Name != row.Raw || len(row.Nodes) != 1 {
					t.Fatalf("T3: %s, %v", s, row)
				}
				k++
			}
			if k != len(m) {
				t.Fatalf("T3: %d places, not %d", k, len(m))
			}
		}
	}
}
