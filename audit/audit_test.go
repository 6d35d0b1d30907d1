package audit

import (
	"math"
	"slices"
	"strings"
	"testing"

	"banyan/api"
	"banyan/call"
	"banyan/frame"
	"banyan/listing"
	"banyan/msg"
	"banyan/stamp"
	"banyan/table"
	"banyan/talk"
	"banyan/view"
	"banyan/world"
)

func at(time int) api.Stamp { return api.Stamp{Time: time} }

// hang puts a node at a parent; the name of a directory has a / behind it.
func hang(t *table.Table, node, parent api.Stamp, s string) {
	n, dir := strings.CutSuffix(s, "/")
	t.Set(node, table.Entry{Parent: parent, Name: n, Dir: dir})
}

// sample tells the places of a small table.
func sample() []view.Place {
	t := table.New()
	hang(t, at(1), stamp.Root(), "a/")
	hang(t, at(2), stamp.Root(), "a/")
	hang(t, at(3), at(1), "b/")
	hang(t, at(4), at(3), "c")
	hang(t, at(5), at(2), "d")
	hang(t, at(6), stamp.Root(), "z")
	return view.Of(t)
}

// with tells the sample, of which a place was changed.
func with(i int, change func(p *view.Place)) []view.Place {
	l := sample()
	change(&l[i])
	return l
}

// check holds findings against pairs of a kind and a place.
func check(t *testing.T, got []Finding, want ...Finding) {
	t.Helper()
	if !slices.Equal(got, want) {
		t.Errorf("%v is found, not %v", got, want)
	}
}

// P35.1

func TestOfWhatIsRightNothingIsFound(t *testing.T) {
	check(t, Places(nil))
	check(t, Places(sample()))
	check(t, Places(view.Of(nil)))
}

func TestPlacesByExample(t *testing.T) {
	check(t, Places([]view.Place{{Path: "/", Up: -1}}), Finding{Node, 0})
	if l := sample(); l[3].Path != "/a/b/c" && l[2].Path != "/a/b" {
		t.Fatalf("%v", l)
	}
}

func TestPathOfTheFirstPlace(t *testing.T) {
	for _, change := range []func(p *view.Place){
		func(p *view.Place) { p.Up = 0 },
		func(p *view.Place) { p.Up = -2 },
		func(p *view.Place) { p.Depth = 1 },
		func(p *view.Place) { p.Depth = -1 },
	} {
		l := []view.Place{sample()[0]}
		change(&l[0])
		check(t, Places(l), Finding{Path, 0})
	}
	for _, s := range []string{"", "//", "/a", "a"} {
		check(t, Places([]view.Place{{Path: s, Up: -1, Row: sample()[0].Row}}), Finding{Path, 0})
	}
	// Of the first place no name, and no directory, is asked for.
	l := []view.Place{{Path: "/", Up: -1, Row: listing.Row{Nodes: []api.Stamp{at(9)}}}}
	check(t, Places(l))
}

// places: 0 /, 1 /a, 2 /a/b, 3 /a/b/c, 4 /a/d, 5 /lost+found, 6 /z

func TestPathOfOtherPlaces(t *testing.T) {
	for _, change := range []func(p *view.Place){
		func(p *view.Place) { p.Path = "/a/b/x" },
		func(p *view.Place) { p.Path = "/a/b//c" },
		func(p *view.Place) { p.Path = "/c" },
		func(p *view.Place) { p.Path = "/a/c" },
		func(p *view.Place) { p.Path = "" },
		func(p *view.Place) { p.Depth = 2 },
		func(p *view.Place) { p.Depth = 4 },
		func(p *view.Place) { p.Depth = math.MinInt },
		func(p *view.Place) { p.Up = -1 },
		func(p *view.Place) { p.Up = math.MinInt },
		func(p *view.Place) { p.Up = math.MaxInt },
		func(p *view.Place) { p.Up = 7 },
		func(p *view.Place) { p.Up = 1 },
		func(p *view.Place) { p.Up = 0 },
	} {
		found := Places(with(3, change))
		if len(found) == 0 || found[0] != (Finding{Path, 3}) {
			t.Errorf("%v is found", found)
		}
	}
	// Who stands in itself, or in one behind it.
	check(t, Places(with(3, func(p *view.Place) { p.Up = 3 })), Finding{Path, 3}, Finding{File, 3})
	check(t, Places(with(3, func(p *view.Place) { p.Up = 5 })), Finding{Path, 3})
	check(t, Places(with(3, func(p *view.Place) { p.Up = -1 })), Finding{Path, 3})
	// Where that one's path is /, whichever place it is, no other / follows.
	l := with(1, func(p *view.Place) { p.Path = "/" })
	check(t, Places(l), Finding{Path, 1}, Finding{Path, 2}, Finding{Path, 4})
	l[2].Path = "/b"
	check(t, Places(l), Finding{Path, 1}, Finding{Path, 3}, Finding{Path, 4})
}

func TestADepthThatWrapsRound(t *testing.T) {
	l := sample()
	l[1].Depth, l[4].Depth = math.MaxInt, math.MinInt
	check(t, Places(l), Finding{Path, 1}, Finding{Path, 2}, Finding{Path, 4})
}

func TestName(t *testing.T) {
	for _, s := range []string{"", ".", "..", "x/y", "x\x00", strings.Repeat("x", 256)} {
		l := with(6, func(p *view.Place) { p.Row.Name, p.Path = s, "/"+s })
		found := Places(l)
		if !slices.Contains(found, Finding{Name, 6}) || slices.Contains(found, Finding{Path, 6}) {
			t.Errorf("of %q %v is found", s, found)
		}
	}
	check(t, Places(with(6, func(p *view.Place) { p.Row.Name, p.Path = "z/z", "/z/z" })), Finding{Name, 6})
	check(t, Places([]view.Place{sample()[0], {Path: "/..", Depth: 1, Row: listing.Row{Name: "..", Nodes: []api.Stamp{at(9)}}}}), Finding{Name, 1})
	check(t, Places(with(6, func(p *view.Place) { p.Row.Name, p.Path = strings.Repeat("z", 255), "/"+strings.Repeat("z", 255) })))
}

func TestOrder(t *testing.T) {
	named := func(i int, s string) []view.Place {
		return with(i, func(p *view.Place) { p.Row.Name, p.Path = s, p.Path[:strings.LastIndex(p.Path, "/")+1]+s })
	}
	check(t, Places(named(6, "lost+found")), Finding{Order, 6})
	check(t, Places(named(6, "lost")), Finding{Order, 6})
	check(t, Places(named(6, "a")), Finding{Order, 6})
	check(t, Places(named(6, "M")), Finding{Order, 6})
	check(t, Places(named(6, "lost+found2")))
	check(t, Places(named(4, "b")), Finding{Order, 4})
	check(t, Places(named(4, "b\x00")), Finding{Name, 4})
	// Names of other directories do not matter.
	check(t, Places(named(3, "a")))
	// All that stand ahead are asked, not the one alone that stands ahead of it.
	l := append(named(5, "zz"), view.Place{Path: "/zy", Depth: 1, Row: listing.Row{Name: "zy", Nodes: []api.Stamp{at(20)}}})
	check(t, Places(l), Finding{Order, 6}, Finding{Order, 7})
	// The first place stands ahead, too, if it says that it stands in the same one.
	l = []view.Place{{Path: "/", Up: -1, Row: listing.Row{Name: "b", Nodes: []api.Stamp{at(1)}}}, {Path: "a", Up: -1, Row: listing.Row{Name: "a", Nodes: []api.Stamp{at(2)}}}}
	check(t, Places(l), Finding{Path, 1}, Finding{Order, 1})
	l[1].Row.Name = "c"
	check(t, Places(l), Finding{Path, 1})
}

func TestNode(t *testing.T) {
	nodes := func(i int, n ...api.Stamp) []view.Place { return with(i, func(p *view.Place) { p.Row.Nodes = n }) }
	check(t, Places(nodes(3)), Finding{Node, 3})
	check(t, Places(nodes(3, at(9), at(9))), Finding{Node, 3})
	check(t, Places(nodes(3, at(9), at(10), at(9))), Finding{Node, 3})
	check(t, Places(nodes(3, at(9), at(2))), Finding{Node, 3})
	check(t, Places(nodes(3, stamp.Root())), Finding{Node, 3})
	check(t, Places(nodes(3, at(5))), Finding{Node, 4})
	check(t, Places(nodes(3, at(10), at(9))))
	check(t, Places(nodes(0, stamp.Lost())), Finding{Node, 5})
	check(t, Places(nodes(0)), Finding{Node, 0})
}

func TestFile(t *testing.T) {
	check(t, Places(with(2, func(p *view.Place) { p.Row.Dir = false })), Finding{File, 3})
	check(t, Places(with(0, func(p *view.Place) { p.Row.Dir = false })), Finding{File, 1}, Finding{File, 5}, Finding{File, 6})
	l := with(3, func(p *view.Place) { p.Up = 6 })
	check(t, Places(l), Finding{Path, 3}, Finding{File, 3})
	l = with(0, func(p *view.Place) { p.Up = 6 })
	check(t, Places(l), Finding{Path, 0})
}

func TestKindsRiseAtEachPlace(t *testing.T) {
	l := with(3, func(p *view.Place) { *p = view.Place{Path: "x", Up: 4} })
	check(t, Places(l), Finding{Path, 3}, Finding{Name, 3}, Finding{Node, 3}, Finding{File, 3})
	l[4] = view.Place{Up: 4}
	check(t, Places(l), Finding{Path, 3}, Finding{Name, 3}, Finding{Node, 3}, Finding{File, 3}, Finding{Path, 4}, Finding{Name, 4}, Finding{Order, 4}, Finding{Node, 4}, Finding{File, 4})
	was := slices.Clone(l)
	Places(l)
	if !view.Same(l, was) {
		t.Error("the places were changed")
	}
}

// P35.2

func TestTable(t *testing.T) {
	x := table.New()
	check(t, Table(x))
	check(t, Table(nil))
	hang(x, at(1), stamp.Root(), "a/")
	hang(x, at(2), at(1), "a/")
	hang(x, at(3), stamp.Trash(), "gone/")
	hang(x, at(4), at(3), "lost")
	check(t, Table(x))
	// 5 and 6 hang at each other, 7 at 6, 8 at itself: a file is lost, where it hangs.
	hang(x, at(5), at(6), "b/")
	hang(x, at(6), at(5), "c/")
	hang(x, at(7), at(6), "d")
	hang(x, at(8), at(8), "e/")
	hang(x, at(9), at(9), "f")
	check(t, Table(x), Finding{Unseen, 4}, Finding{Loop, 4}, Finding{Unseen, 5}, Finding{Loop, 5}, Finding{Unseen, 6}, Finding{Unseen, 7}, Finding{Loop, 7}, Finding{Loop, 8})
}

// some tells a table of nodes that hang at each other, at the root, at the trash, or at nobody.
func some(n, seed int) *table.Table {
	t := table.New()
	for i := range n {
		seed = (seed*75 + 74) % 65537
		parent := stamp.Root()
		switch k := seed % 9; {
		case k == 0:
			parent = stamp.Trash()
		case k == 1:
			parent = at(500)
		case k < 6:
			parent = at(1 + seed/9%n)
		}
		t.Set(at(i+1), table.Entry{Parent: parent, Name: []string{"a", "b", "a~2", "lost+found"}[seed/7%4], Dir: seed%5 > 0})
	}
	return t
}

// P35.5

func TestOfATreeOfNamesNothingIsFound(t *testing.T) {
	trees := 0
	for seed := range 1000 {
		x := some(10, seed)
		check(t, Places(view.Of(x)))
		loops := 0
		for _, f := range Table(x) {
			if f.Kind == Loop {
				loops++
				if node := x.Nodes()[f.At]; !x.Above(node, node) {
					t.Fatalf("%v is not above itself", node)
				}
			}
		}
		if loops == 0 {
			trees++
			check(t, Table(x))
		}
	}
	if trees < 100 {
		t.Errorf("only %d are trees", trees)
	}
}

// P35.3

func made(t *testing.T, reps int) *world.World {
	t.Helper()
	w, e := world.New(world.Conf{Reps: reps, Most: 100, Nodes: 100, Room: 5000})
	if e != api.OK {
		t.Fatal(e)
	}
	return w
}

func mkdir(r int, path string) world.Step {
	return world.Step{Kind: world.Call, R: r, X: call.Call{Kind: call.Mkdir, Path: path}}
}

func TestOfAWorldNothingIsFound(t *testing.T) {
	check(t, World(nil))
	for seed := range 20 {
		n := seed
		next := func(most int) int {
			n = (n*1103515245 + 12345) % (1 << 31)
			return n / 65536 % most
		}
		path := func() string { return []string{"/a", "/b", "/a/b", "/b/a", "/a/b/c", "/b~2", "/lost+found/a"}[next(7)] }
		w := made(t, 3)
		for range 150 {
			s := world.Step{Kind: 1 + next(12), R: next(3), N: next(3), M: next(9), Keep: []int{next(30), next(30)}}
			s.X = call.Call{Kind: 1 + next(6), Path: path(), To: path()}
			if next(2) == 0 {
				s.Kind = world.Call
			}
			if s.Kind == world.Arm {
				s.N = next(300)
			}
			w.Do(s)
			check(t, World(w))
		}
	}
}

// forge makes a replica take an op that others don't know.
func forge(t *testing.T, w *world.World, r, from int, s string) {
	t.Helper()
	node := api.Stamp{Time: 9, Rep: from}
	b, e := talk.Put(from, r, msg.Msg{Kind: frame.Batch, Ops: []api.Op{{At: node, Seq: 1, Node: node, Parent: stamp.Root(), Name: s}}})
	if e != api.OK {
		t.Fatal(e)
	}
	if _, e := w.At(r).Receive(b); e != api.OK {
		t.Fatal(e)
	}
}

func TestApart(t *testing.T) {
	w := made(t, 4)
	forge(t, w, 0, 3, "a")
	check(t, World(w))
	forge(t, w, 1, 3, "b")
	check(t, World(w), Finding{Apart, 1})
	forge(t, w, 2, 3, "a")
	check(t, World(w), Finding{Apart, 1}, Finding{Apart, 2})
	w.Do(world.Step{Kind: world.Arm, R: 1})
	w.Do(mkdir(1, "/x"))
	check(t, World(w))
	// Who knows something else may show something else.
	w = made(t, 3)
	forge(t, w, 0, 2, "a")
	forge(t, w, 1, 2, "b")
	w.Do(mkdir(0, "/x"))
	check(t, World(w))
}

func TestWhatAReplicaShowsIsAuditedAsThePlacesOfItsTable(t *testing.T) {
	w := made(t, 1)
	for _, s := range []string{"/a", "/a/b", "/a/b/c", "/a/d", "/e", "/e/f"} {
		if e := w.Do(mkdir(0, s)); e != api.OK {
			t.Fatal(e)
		}
	}
	l := places(w.At(0))
	if len(l) != 8 {
		t.Fatalf("%v", l)
	}
	for i, want := range [][2]int{{-1, 0}, {0, 1}, {1, 2}, {2, 3}, {1, 2}, {0, 1}, {5, 2}, {0, 1}} {
		if l[i].Up != want[0] || l[i].Depth != want[1] {
			t.Errorf("%v stands in %d, %d deep, not %v", l[i], l[i].Up, l[i].Depth, want)
		}
	}
}

func TestEachKindOnce(t *testing.T) {
	if got := kinds([]Finding{{File, 9}, {Path, 1}, {File, 2}, {Path, 7}, {Name, 3}}); !slices.Equal(got, []int{Path, Name, File}) {
		t.Errorf("%v", got)
	}
}

// P35.4

func TestWord(t *testing.T) {
	for i, want := range []string{"", "path", "name", "order", "node", "file", "unseen", "loop", "apart", "late", ""} {
		if got := Word(i); got != want {
			t.Errorf("Word(%d) = %q", i, got)
		}
	}
	if Word(-1) != "" || Word(math.MaxInt) != "" || Path != 1 || Late != 9 {
		t.Error("kinds")
	}
}
