package walk

import (
	"slices"
	"strings"
	"testing"

	"banyan/api"
	"banyan/cache"
	"banyan/listing"
	"banyan/path"
	"banyan/stamp"
	"banyan/table"
	"banyan/view"
)

func at(time int) api.Stamp { return api.Stamp{Time: time} }

func root() api.Stamp { return stamp.Root() }

// hang puts a node at a parent; the name of a directory has a / behind it.
func hang(c *cache.Cache, node, parent api.Stamp, s string) {
	n, dir := strings.CutSuffix(s, "/")
	c.Set(node, table.Entry{Parent: parent, Name: n, Dir: dir})
}

// sample tells a cache with something of all that may stand in one.
func sample() *cache.Cache {
	c := cache.New()
	hang(c, at(1), root(), "d/")
	hang(c, at(2), root(), "d/")
	hang(c, at(3), at(1), "f")
	hang(c, at(4), at(2), "f")
	hang(c, at(5), at(2), "sub/")
	hang(c, at(6), at(5), "deep")
	hang(c, at(7), root(), "d")
	hang(c, at(8), stamp.Trash(), "gone/")
	hang(c, at(9), at(8), "x/")
	hang(c, at(10), at(9), "y")
	hang(c, at(11), root(), "e/")
	return c
}

// some tells a cache of nodes that hang at each other, at the root, at the trash, or at nobody.
func some(n, seed int) *cache.Cache {
	c := cache.New()
	for i := range n {
		seed = (seed*75 + 74) % 65537
		parent := root()
		switch k := seed % 9; {
		case k == 0:
			parent = stamp.Trash()
		case k == 1:
			parent = at(500)
		case k < 7:
			parent = at(1 + seed/9%n)
		}
		c.Set(at(i+1), table.Entry{Parent: parent, Name: []string{"a", "b", "a~2", "lost+found"}[seed/7%4], Dir: seed%5 > 0})
	}
	return c
}

// without tells the caches that show nothing.
func without() []*cache.Cache { return []*cache.Cache{nil, {}} }

// parts tells what stands between the /s of a path.
func parts(s string) []string {
	l, _ := path.Parse(s)
	return l
}

// zero asks whether a row is the zero one.
func zero(r listing.Row) bool { return listing.One(r, listing.Row{}) && r.Nodes == nil }

// P23.1

func TestRoot(t *testing.T) {
	for range 2 {
		r := Root()
		if !listing.One(r, listing.Row{Name: "/", Raw: "/", Dir: true, Nodes: []api.Stamp{root()}}) {
			t.Errorf("Root() = %v", r)
		}
		r.Nodes[0] = at(9)
	}
}

// told is what is to stand at a path.
type told struct {
	path  string
	name  string
	raw   string
	dir   bool
	nodes []api.Stamp
}

func TestToByExample(t *testing.T) {
	c := sample()
	for _, x := range []told{
		{"/", "/", "/", true, []api.Stamp{root()}},
		{"/d", "d", "d", true, []api.Stamp{at(1), at(2)}},
		{"/d~2", "d~2", "d", false, []api.Stamp{at(7)}},
		{"/d/f", "f", "f", false, []api.Stamp{at(3)}},
		{"/d/f~2", "f~2", "f", false, []api.Stamp{at(4)}},
		{"/d/sub/deep", "deep", "deep", false, []api.Stamp{at(6)}},
		{"/lost+found", "lost+found", "lost+found", true, []api.Stamp{stamp.Lost()}},
		{"/lost+found/x/y", "y", "y", false, []api.Stamp{at(10)}},
		{"/e", "e", "e", true, []api.Stamp{at(11)}},
	} {
		want := listing.Row{Name: x.name, Raw: x.raw, Dir: x.dir, Nodes: x.nodes}
		r, e := To(c, parts(x.path))
		if e != api.OK || !listing.One(r, want) {
			t.Errorf("To(%s) = %v, %d, not %v", x.path, r, e, want)
		}
		d, e := Dir(c, parts(x.path))
		if x.dir && (e != api.OK || !listing.One(d, want)) || !x.dir && (e != api.NotDir || !zero(d)) {
			t.Errorf("Dir(%s) = %v, %d", x.path, d, e)
		}
	}
}

func TestToOfWhatThereIsNot(t *testing.T) {
	c := sample()
	for s, want := range map[string]api.Errno{
		"/x":              api.NoEntry,
		"/D":              api.NoEntry,
		"/d~3":            api.NoEntry,
		"/x/y/z":          api.NoEntry,
		"/d/x":            api.NoEntry,
		"/gone":           api.NoEntry,
		"/e/x":            api.NoEntry,
		"/d/f/x":          api.NotDir,
		"/d~2/x":          api.NotDir,
		"/d/f/x/y":        api.NotDir,
		"/lost+found/y":   api.NoEntry,
		"/lost+found/x/z": api.NoEntry,
	} {
		for _, to := range []func(*cache.Cache, []string) (listing.Row, api.Errno){To, Dir} {
			if r, e := to(c, parts(s)); e != want || !zero(r) {
				t.Errorf("of %s %v, %d is told, not %d", s, r, e, want)
			}
		}
	}
	// Parts need not be names.
	for _, l := range [][]string{{""}, {"."}, {"d/f"}, {"/"}, {"d", ""}, {"d", ".."}} {
		if r, e := To(c, l); e != api.NoEntry || !zero(r) {
			t.Errorf("To(%q) = %v, %d", l, r, e)
		}
	}
}

func TestWhatIsToldMayBeChanged(t *testing.T) {
	c, l := sample(), []string{"d", "sub", "deep"}
	for range 2 {
		r, _ := To(c, l[:1])
		d, _ := Dir(c, l[:1])
		if !slices.Equal(r.Nodes, []api.Stamp{at(1), at(2)}) || !slices.Equal(d.Nodes, r.Nodes) {
			t.Fatalf("%v, %v", r, d)
		}
		r.Nodes[0], d.Nodes[1] = at(70), at(71)
		rows, e := List(c, "/d")
		if e != api.OK || len(rows) != 3 || rows[2].Name != "sub" {
			t.Fatalf("List = %v, %d", rows, e)
		}
		rows[0].Nodes[0], rows[2] = at(72), listing.Row{}
	}
	if !slices.Equal(l, []string{"d", "sub", "deep"}) {
		t.Errorf("what was handed in is %q", l)
	}
}

// P23.2

func TestStat(t *testing.T) {
	c := sample()
	for s, want := range map[string]Info{
		"/":               {root(), true, 4},
		"/d":              {at(1), true, 3},
		"/d~2":            {at(7), false, 0},
		"/d/f~2":          {at(4), false, 0},
		"/d/sub":          {at(5), true, 1},
		"/e":              {at(11), true, 0},
		"/lost+found":     {stamp.Lost(), true, 1},
		"/lost+found/x":   {at(9), true, 1},
		"/lost+found/x/y": {at(10), false, 0},
		"/d/sub/deep":     {at(6), false, 0},
	} {
		if got, e := Stat(c, s); got != want || e != api.OK {
			t.Errorf("Stat(%s) = %v, %d, not %v", s, got, e, want)
		}
	}
	// Where something hangs at a file it shows nothing all the same.
	hang(c, at(20), at(7), "x")
	if got, e := Stat(c, "/d~2"); got != (Info{Node: at(7)}) || e != api.OK {
		t.Errorf("of a file Stat = %v, %d", got, e)
	}
	if got, e := Stat(cache.New(), "/lost+found"); got != (Info{stamp.Lost(), true, 0}) || e != api.OK {
		t.Errorf("of nothing Stat = %v, %d", got, e)
	}
}

func TestList(t *testing.T) {
	c := sample()
	for s, want := range map[string]string{
		"/":             "d d~2 e lost+found",
		"/d":            "f f~2 sub",
		"/d/sub":        "deep",
		"/e":            "",
		"/lost+found":   "x",
		"/lost+found/x": "y",
	} {
		rows, e := List(c, s)
		var names []string
		for _, r := range rows {
			names = append(names, r.Name)
		}
		if got := strings.Join(names, " "); got != want || e != api.OK {
			t.Errorf("List(%s) = %q, %d, not %q", s, got, e, want)
		}
	}
	d, _ := To(c, parts("/d"))
	if rows, _ := List(c, "/d"); !listing.Same(rows, listing.Of(c.Table(), d.Nodes)) {
		t.Errorf("List = %v", rows)
	}
}

func TestStatAndListOfWrongPaths(t *testing.T) {
	c := sample()
	long := strings.Repeat("a", 256)
	for _, x := range []struct {
		path string
		stat api.Errno
		list api.Errno
	}{
		{"", api.Invalid, api.Invalid},
		{"d", api.Invalid, api.Invalid},
		{"//", api.Invalid, api.Invalid},
		{"/d/", api.Invalid, api.Invalid},
		{"/x/..", api.Invalid, api.Invalid},
		{"/d~2/x\x00", api.Invalid, api.Invalid},
		{"/" + long, api.TooLong, api.TooLong},
		{"/d~2/" + long, api.TooLong, api.TooLong},
		{"/" + long + "/.", api.Invalid, api.Invalid},
		{strings.Repeat("/abc", 1025), api.TooLong, api.TooLong},
		{"/x", api.NoEntry, api.NoEntry},
		{"/d/f/x", api.NotDir, api.NotDir},
		{"/d/f", api.OK, api.NotDir},
		{"/d~2", api.OK, api.NotDir},
	} {
		if got, e := Stat(c, x.path); e != x.stat || e != api.OK && got != (Info{}) {
			t.Errorf("Stat(%.20q) = %v, %d, not %d", x.path, got, e, x.stat)
		}
		if got, e := List(c, x.path); e != x.list || len(got) != 0 {
			t.Errorf("List(%.20q) = %v, %d, not %d", x.path, got, e, x.list)
		}
	}
}

func TestACacheThatShowsNothing(t *testing.T) {
	for _, c := range without() {
		if r, e := To(c, nil); e != api.OK || !listing.One(r, Root()) {
			t.Errorf("To = %v, %d", r, e)
		}
		if r, e := Dir(c, nil); e != api.OK || !listing.One(r, Root()) {
			t.Errorf("Dir = %v, %d", r, e)
		}
		if r, e := To(c, []string{"lost+found"}); e != api.NoEntry || !zero(r) {
			t.Errorf("To = %v, %d", r, e)
		}
		if i, e := Stat(c, "/"); e != api.OK || i != (Info{Dir: true}) {
			t.Errorf("Stat = %v, %d", i, e)
		}
		if i, e := Stat(c, "/lost+found"); e != api.NoEntry || i != (Info{}) {
			t.Errorf("Stat = %v, %d", i, e)
		}
		if l, e := List(c, "/"); e != api.OK || len(l) != 0 {
			t.Errorf("List = %v, %d", l, e)
		}
		if l, e := List(c, "/a/b"); e != api.NoEntry || len(l) != 0 {
			t.Errorf("List = %v, %d", l, e)
		}
		for s, r := range All(c) {
			if s != "/" || !listing.One(r, Root()) {
				t.Errorf("%s is there: %v", s, r)
			}
		}
	}
}

// P23.3

// check holds what is gone through against the places of the cache's table.
func check(t *testing.T, c *cache.Cache) {
	t.Helper()
	want := view.Of(c.Table())
	i := 0
	for s, r := range All(c) {
		if i >= len(want) || s != want[i].Path || !listing.One(r, want[i].Row) {
			t.Fatalf("the %d. place is %s, %v", i, s, r)
		}
		i++
	}
	if i != len(want) {
		t.Fatalf("%d places, not %d", i, len(want))
	}
}

func TestAllAsTheViewTellsThem(t *testing.T) {
	check(t, cache.New())
	check(t, sample())
	for seed := range 300 {
		check(t, some(14, seed))
	}
	// The names of a table need not be names.
	c := cache.New()
	hang(c, at(1), root(), "/")
	hang(c, at(2), at(1), "/")
	hang(c, at(3), at(2), "x")
	c.Set(at(4), table.Entry{Parent: root(), Name: "/", Dir: true})
	c.Set(at(5), table.Entry{Parent: at(4), Name: "y/z"})
	check(t, c)
}

func TestAllAreGoneThroughAsOftenAsOneLikes(t *testing.T) {
	c := sample()
	all := All(c)
	for most := range 14 {
		n := 0
		for range all {
			if n++; n > most {
				break
			}
		}
		if n != min(most+1, 11) {
			t.Errorf("%d places were gone through, of most %d", n, most+1)
		}
	}
}

func TestWhoGoesThroughAllMayChangeTheCache(t *testing.T) {
	c, n := sample(), 0
	for range All(c) {
		c.Follow(nil)
		n++
	}
	if n != 11 || c.Len() != 0 {
		t.Errorf("%d places were gone through", n)
	}
}

// P23.4

func TestWhatAPathStandsForIsThePlaceOfThatPath(t *testing.T) {
	found := 0
	for seed := range 200 {
		c := some(10, seed)
		l := view.Of(c.Table())
		paths := []string{"/", "/a", "/b", "/a~2", "/a~3", "/lost+found", "/lost+found~2"}
		for _, p := range l {
			for _, s := range []string{"", "/a", "/b", "/a~2", "/x", "/lost+found"} {
				paths = append(paths, p.Path+s)
			}
		}
		for _, s := range paths {
			l, p := parts(s), view.Place{}
			i, ok := view.Find(view.Of(c.Table()), path.Text(l))
			if ok {
				p = view.Of(c.Table())[i]
				found++
			}
			r, e := To(c, l)
			if ok != (e == api.OK) || !listing.One(r, p.Row) {
				t.Fatalf("To(%s) = %v, %d, not %v", s, r, e, p.Row)
			}
			if e != api.OK && e != api.NoEntry && e != api.NotDir {
				t.Fatalf("To(%s) = %d", s, e)
			}
		}
	}
	if found < 1000 {
		t.Errorf("only %d were found", found)
	}
}
