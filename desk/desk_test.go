package desk

import (
	"strconv"
	"strings"
	"testing"

	"banyan/api"
	"banyan/call"
	"banyan/frame"
	"banyan/listing"
	"banyan/msg"
	"banyan/script"
	"banyan/stamp"
	"banyan/talk"
	"banyan/world"
)

func at(time, rep int) api.Stamp { return api.Stamp{Time: time, Rep: rep} }

// text tells lines, each with a line feed behind it.
func text(l ...string) string { return strings.Join(l, "\n") + "\n" }

// run asks what a text is answered by.
func run(t *testing.T, s string, want ...string) {
	t.Helper()
	for range 2 {
		if got := Run(s); got != text(want...) {
			t.Errorf("of %q\n%s\nnot\n%s", s, got, text(want...))
		}
	}
}

// P40.1

func TestSetup(t *testing.T) {
	for s, want := range map[string]world.Conf{
		"world 1 100 9 1000": {Reps: 1, Most: 100, Nodes: 9, Room: 1000},
		"world 0 0 0 0":      {},
		"world 1073741824 1073741824 1073741824 1073741824": {Reps: 1 << 30, Most: 1 << 30, Nodes: 1 << 30, Room: 1 << 30},
	} {
		if got, e := Setup(s); got != want || e != api.OK {
			t.Errorf("Setup(%q) = %v, %d", s, got, e)
		}
	}
	for _, s := range []string{"", "world", "world ", "world 1 2 3", "world 1 2 3 ", "world 1 2 3 4 5", "world 1 2 3 4 ", " world 1 2 3 4", "world  1 2 3 4", "world 1 2 3  4", "world\t1 2 3 4", "World 1 2 3 4", "worlds 1 2 3 4", "world 1 2 3 4\n", "world 1 2 3 4\r", "world -1 2 3 4", "world 1 +2 3 4", "world 1 2 03 4", "world 1 2 3 4.0", "world 1 2 3 1073741825", "world 1073741825 2 3 4", "world 1 2 3 99999999999999999999", "world 1 2 x 4", "1 2 3 4", "# world 1 2 3 4"} {
		if got, e := Setup(s); got != (world.Conf{}) || e != api.ErrForm {
			t.Errorf("Setup(%q) = %v, %d", s, got, e)
		}
	}
}

func TestPlace(t *testing.T) {
	for want, x := range map[string]struct {
		path string
		r    listing.Row
	}{
		"  dir / 0.0":                  {"/", listing.Row{Dir: true, Nodes: []api.Stamp{stamp.Root()}}},
		"  file /a 3.1":                {"/a", listing.Row{Nodes: []api.Stamp{at(3, 1)}}},
		"  dir /a%20b 3.1 +1":          {"/a b", listing.Row{Name: "x", Raw: "y", Dir: true, Nodes: []api.Stamp{at(3, 1), at(4, 0)}}},
		"  dir /lost+found 0.2":        {"/lost+found", listing.Row{Dir: true, Nodes: []api.Stamp{stamp.Lost()}}},
		"  file  10.63 +11":            {"", listing.Row{Nodes: append([]api.Stamp{at(10, 63)}, make([]api.Stamp, 11)...)}},
		"  file %25/%FF 1.0":           {"%/\xff", listing.Row{Nodes: []api.Stamp{at(1, 0)}}},
		"  dir /a~2 281474976710656.0": {"/a~2", listing.Row{Dir: true, Nodes: []api.Stamp{at(api.MaxTime, 0)}}},
	} {
		if got := Place(x.path, x.r); got != want {
			t.Errorf("Place = %q, not %q", got, want)
		}
	}
}

// P40.2

func fresh(t *testing.T, reps int) *world.World {
	t.Helper()
	w, e := world.New(world.Conf{Reps: reps, Most: 100, Nodes: 9, Room: 1000})
	if e != api.OK {
		t.Fatal(e)
	}
	return w
}

func state(t *testing.T, w *world.World, want ...string) {
	t.Helper()
	if got := State(w); got != text(want...) {
		t.Errorf("%s\nnot\n%s", got, text(want...))
	}
}

func TestState(t *testing.T) {
	state(t, nil, "flights 0, lost 0")
	w := fresh(t, 2)
	state(t, w,
		"replica 0: time 0, nodes 0, knows ", "  dir / 0.0", "  dir /lost+found 0.2",
		"replica 1: time 0, nodes 0, knows ", "  dir / 0.0", "  dir /lost+found 0.2",
		"flights 0, lost 0")
	for _, s := range []world.Step{
		{Kind: world.Call, R: 1, X: call.Call{Kind: call.Mkdir, Path: "/d"}},
		{Kind: world.Call, R: 1, X: call.Call{Kind: call.Create, Path: "/d/a b"}},
		{Kind: world.Call, R: 0, X: call.Call{Kind: call.Mkdir, Path: "/d"}},
		{Kind: world.Exchange, R: 1, N: 0},
		{Kind: world.Digest, R: 1, N: 0},
		{Kind: world.Arm, R: 0},
	} {
		if e := w.Do(s); e != api.OK {
			t.Fatalf("%v: %d", s, e)
		}
	}
	if e := w.Do(world.Step{Kind: world.Save}); e != api.ErrDown {
		t.Fatal(e)
	}
	state(t, w,
		"replica 0: down",
		"replica 1: time 2, nodes 3, knows 0:1 1:2", "  dir / 0.0", "  dir /d 1.0 +1", "  file /d/a%20b 2.1", "  dir /lost+found 0.2",
		"flights 1, lost 0")
}

func TestStateTellsWhatAnAuditFinds(t *testing.T) {
	w := fresh(t, 3)
	for r, s := range []string{"a", "b"} {
		b, _ := talk.Put(2, r, msg.Msg{Kind: frame.Batch, Ops: []api.Op{{At: at(5, 2), Seq: 1, Node: at(5, 2), Parent: stamp.Root(), Name: s}}})
		if _, e := w.At(r).Receive(b); e != api.OK {
			t.Fatal(e)
		}
	}
	state(t, w,
		"replica 0: time 5, nodes 1, knows 2:1", "  dir / 0.0", "  file /a 5.2", "  dir /lost+found 0.2",
		"replica 1: time 5, nodes 1, knows 2:1", "  dir / 0.0", "  file /b 5.2", "  dir /lost+found 0.2",
		"replica 2: time 0, nodes 0, knows ", "  dir / 0.0", "  dir /lost+found 0.2",
		"audit apart 1",
		"flights 0, lost 0")
}

func TestStateTellsWhatTheNetLost(t *testing.T) {
	w := fresh(t, 2)
	for range 258 {
		w.Do(world.Step{Kind: world.Digest, R: 0, N: 1})
	}
	if got := State(w); !strings.HasSuffix(got, "\nflights 256, lost 2\n") {
		t.Errorf("%s", got)
	}
}

// P40.3

func TestRunByExample(t *testing.T) {
	run(t, "world 1 100 9 1000", "replica 0: time 0, nodes 0, knows ", "  dir / 0.0", "  dir /lost+found 0.2", "flights 0, lost 0")
	run(t, "world 1 100 9 1000\n", "replica 0: time 0, nodes 0, knows ", "  dir / 0.0", "  dir /lost+found 0.2", "flights 0, lost 0")
}

func TestRunOfABadWorld(t *testing.T) {
	for _, s := range []string{"", "\n", "x", "world 1 100 9", "\nworld 1 100 9 1000", "#\nworld 1 100 9 1000", "world 0 100 9 1000", "world 65 100 9 1000", "world 1 15 9 1000", "world 1 100 0 1000", "world 1 100 1048577 1000", "world 1 100 9 16777217", "world 1 16777217 9 1000"} {
		run(t, s, "bad world")
		run(t, s+"\nx\n", "bad world")
	}
}

func TestRunOfABadLine(t *testing.T) {
	run(t, "world 1 100 9 1000\nx", "line 2: error 4")
	run(t, "world 1 100 9 1000\n\n# \n0 save\n0 mkdir\n0 save", "line 5: error 4")
	run(t, "world 1 100 9 1000\n"+strings.Repeat("0 restart\n", 400)+"\n0 save", "line 403: error 7")
}

func TestRun(t *testing.T) {
	run(t, text("world 2 100 9 1000",
		"# each makes a directory of one name",
		"0 mkdir /d", "0 create /d/f", "1 mkdir /d", "1 create /d/f",
		"",
		"0 mkdir /d", "1 rmdir /x%20y", "0 rename /d /d/x", "2 save", "9 boot 1 2",
		"0 exchange 1", "1 exchange 0", "0 exchange 0", "deliver 3", "hurt 0 7 255"),
		"step 5 0 mkdir /d: error 21",
		"step 6 1 rmdir /x%20y: error 20",
		"step 7 0 rename /d /d/x: error 25",
		"step 8 2 save: error 8",
		"step 9 9 boot 1 2: error 8",
		"step 12 0 exchange 0: error 8",
		"step 13 deliver 3: error 8",
		"step 14 hurt 0 7 255: error 8",
		"replica 0: time 2, nodes 4, knows 0:2 1:2",
		"  dir / 0.0", "  dir /d 1.0 +1", "  file /d/f 2.0", "  file /d/f~2 2.1", "  dir /lost+found 0.2",
		"replica 1: time 2, nodes 4, knows 0:2 1:2",
		"  dir / 0.0", "  dir /d 1.0 +1", "  file /d/f 2.0", "  file /d/f~2 2.1", "  dir /lost+found 0.2",
		"flights 0, lost 0")
}

func TestRunWhereThePowerGoes(t *testing.T) {
	run(t, text("world 2 100 9 1000",
		"0 mkdir /a", "0 arm 5", "0 mkdir /b", "0 mkdir /c", "0 digest 1", "1 digest 0", "deliver 0", "0 boot 3", "0 mkdir /c", "0 restart", "0 save", "1 arm 0", "1 save"),
		"step 3 0 mkdir /b: error 12",
		"step 4 0 mkdir /c: error 12",
		"step 5 0 digest 1: error 12",
		"step 7 deliver 0: error 12",
		"step 13 1 save: error 12",
		"replica 0: time 2, nodes 2, knows 0:2",
		"  dir / 0.0", "  dir /a 1.0", "  dir /c 2.0", "  dir /lost+found 0.2",
		"replica 1: down",
		"flights 0, lost 0")
}

func TestRunWhereWhatWasMadeIsLost(t *testing.T) {
	run(t, text("world 2 100 9 1000",
		"0 mkdir /d", "1 exchange 0", "0 rmdir /d", "1 create /d/x", "0 digest 1", "twice 0", "hurt 1 9 1", "swap 0 1", "deliver 0", "deliver 0", "deliver 0", "deliver 0", "0 exchange 1", "0 unlink /lost+found/x", "0 mkdir /lost+found/y"),
		"step 9 deliver 0: error 5",
		"step 15 0 mkdir /lost+found/y: error 28",
		"replica 0: time 3, nodes 2, knows 0:3 1:1",
		"  dir / 0.0", "  dir /lost+found 0.2",
		"replica 1: time 2, nodes 2, knows 0:2 1:1",
		"  dir / 0.0", "  dir /lost+found 0.2", "  file /lost+found/x 2.1",
		"flights 0, lost 0")
}

// P40.4

func TestWhateverGoesInATextComesOut(t *testing.T) {
	for seed := range 60 {
		n := seed
		next := func(most int) int {
			n = (n*1103515245 + 12345) % (1 << 31)
			return n / 65536 % most
		}
		path := func() string { return []string{"/a", "/b", "/a/b", "/a/b/c", "/b~2", "/lost+found/a", "/"}[next(7)] }
		s := "world 3 " + strconv.Itoa(16+next(300)) + " 40 " + strconv.Itoa(200+next(4000)) + "\n"
		for range 300 {
			x := world.Step{Kind: 1 + next(12), R: next(3), N: next(3), M: next(4)}
			switch x.Kind {
			case world.Call:
				x = world.Step{Kind: world.Call, R: x.R, X: call.Call{Kind: 1 + next(6), Path: path()}}
				if x.X.Kind == call.Rename {
					x.X.To = path()
				}
			case world.Arm:
				x.N, x.M = next(400), 0
			case world.Hurt:
				x.R = next(256)
			case world.Swap:
			case world.Save, world.Restart, world.Boot:
				x.N, x.M = 0, 0
			case world.Deliver, world.Drop, world.Twice:
				x.R, x.M = 0, 0
			default:
				x.M = 0
			}
			if x.Kind == world.Swap {
				x.R = 0
			}
			s += script.Text(x) + "\n"
		}
		if seed%6 == 5 {
			s = s[:next(len(s))] + string(rune(next(200))) + s[next(len(s)):]
		}
		got := Run(s)
		if !strings.HasSuffix(got, "\n") || strings.Contains(got, "\naudit ") || strings.HasPrefix(got, "audit ") || got != Run(s) {
			t.Fatalf("of %q\n%s", s, got)
		}
		if seed%6 < 5 && !strings.Contains(got, "\nflights ") {
			t.Fatalf("of %q\n%s", s, got)
		}
	}
}
