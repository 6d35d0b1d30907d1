package call

import (
	"slices"
	"strconv"
	"strings"
	"testing"

	"banyan/api"
	"banyan/cache"
	"banyan/listing"
	"banyan/path"
	"banyan/stamp"
	"banyan/table"
	"banyan/view"
	"banyan/walk"
)

func at(time int) api.Stamp { return api.Stamp{Time: time} }

func root() api.Stamp { return stamp.Root() }

func trash() api.Stamp { return stamp.Trash() }

// hang puts a node at a parent; the name of a directory has a / behind it.
func hang(c *cache.Cache, node, parent api.Stamp, s string) {
	n, dir := strings.CutSuffix(s, "/")
	c.Set(node, table.Entry{Parent: parent, Name: n, Dir: dir})
}

// sample tells a cache in which each path call has something to do, and something to refuse.
func sample() *cache.Cache {
	c := cache.New()
	hang(c, at(1), root(), "d/")
	hang(c, at(2), root(), "d/")
	hang(c, at(3), at(1), "f")
	hang(c, at(4), at(2), "f")
	hang(c, at(5), at(2), "sub/")
	hang(c, at(6), at(5), "deep")
	hang(c, at(7), root(), "d")
	hang(c, at(8), trash(), "gone/")
	hang(c, at(9), at(8), "x/")
	hang(c, at(10), at(8), "y")
	hang(c, at(11), root(), "e/")
	hang(c, at(12), root(), "e/")
	hang(c, at(13), root(), "g")
	hang(c, at(14), root(), "h/")
	return c
}

// many tells a cache with a directory w of so many nodes, a directory v of another one, and a file u.
func many(n int) *cache.Cache {
	c := cache.New()
	hang(c, at(1), root(), "v/")
	hang(c, at(2), root(), "u")
	for i := range n {
		hang(c, at(i+10), root(), "w/")
	}
	return c
}

// put tells the change that puts a node somewhere; the name of a directory has a / behind it.
func put(node, parent api.Stamp, s string) Change {
	n, dir := strings.CutSuffix(s, "/")
	return Change{Node: node, Parent: parent, Name: n, Dir: dir}
}

// anew tells the change that puts a new node somewhere.
func anew(parent api.Stamp, s string) Change {
	x := put(api.Stamp{}, parent, s)
	x.New = true
	return x
}

// plan asks for a plan that is to be just this, and leaves the cache as it is.
func plan(t *testing.T, c *cache.Cache, x Call, want ...Change) {
	t.Helper()
	was := c.Table()
	for range 2 {
		l, e := Plan(c, x)
		if e != api.OK || !slices.Equal(l, want) {
			t.Errorf("of %v: %v, %d, not %v", x, l, e, want)
		}
		for i := range l {
			l[i] = Change{}
		}
	}
	if !table.Same(was, c.Table()) {
		t.Errorf("%v changed the cache", x)
	}
}

// refused asks for a plan that is to be refused.
func refused(t *testing.T, c *cache.Cache, x Call, want api.Errno) {
	t.Helper()
	if l, e := Plan(c, x); e != want || len(l) != 0 {
		t.Errorf("of %v: %v, %d, not %d", x, l, e, want)
	}
}

// kinds tells all kinds of calls.
func kinds() []int { return []int{Mkdir, Create, Unlink, Rmdir, Rename, Remove} }

// P24.1

func TestPlanOfNoCall(t *testing.T) {
	for _, kind := range []int{0, 7, -1, 1 << 62, -1 << 63} {
		refused(t, sample(), Call{kind, "/x", "/y"}, api.ErrArg)
		refused(t, sample(), Call{kind, "", ""}, api.ErrArg)
		refused(t, nil, Call{kind, "/x", "/y"}, api.ErrArg)
	}
	refused(t, sample(), Call{}, api.ErrArg)
}

func TestPlanOfWrongPaths(t *testing.T) {
	long := strings.Repeat("a", 256)
	for s, want := range map[string]api.Errno{
		"": api.Invalid, "d": api.Invalid, "//": api.Invalid, "/d/": api.Invalid, "/x/..": api.Invalid, "/\x00": api.Invalid,
		"/" + long: api.TooLong, "/d/" + long: api.TooLong, "/" + long + "//": api.Invalid, strings.Repeat("/abc", 1025): api.TooLong,
	} {
		for _, kind := range kinds() {
			refused(t, sample(), Call{kind, s, "/y"}, want)
		}
		for _, from := range []string{"/g", "/x", "/", "/lost+found", s} {
			refused(t, sample(), Call{Rename, from, s}, want)
		}
	}
	// What is wrong with Path is told ahead of what is wrong with To.
	refused(t, sample(), Call{Rename, "/" + long, ""}, api.TooLong)
	refused(t, sample(), Call{Rename, "", "/" + long}, api.Invalid)
}

func TestOnlyARenameHasATo(t *testing.T) {
	for _, to := range []string{"", "x", "/", "/d", "/lost+found"} {
		plan(t, sample(), Call{Mkdir, "/x", to}, anew(root(), "x/"))
		plan(t, sample(), Call{Unlink, "/g", to}, put(at(13), trash(), "g"))
		plan(t, sample(), Call{Remove, "/g", to}, put(at(13), trash(), "g"))
	}
}

func TestPlanOfMkdirAndCreate(t *testing.T) {
	c := sample()
	for kind, slash := range map[int]string{Mkdir: "/", Create: ""} {
		plan(t, cache.New(), Call{Kind: kind, Path: "/a"}, anew(root(), "a"+slash))
		plan(t, nil, Call{Kind: kind, Path: "/a"}, anew(root(), "a"+slash))
		plan(t, c, Call{Kind: kind, Path: "/x"}, anew(root(), "x"+slash))
		plan(t, c, Call{Kind: kind, Path: "/gone"}, anew(root(), "gone"+slash))
		plan(t, c, Call{Kind: kind, Path: "/d~3"}, anew(root(), "d~3"+slash))
		plan(t, c, Call{Kind: kind, Path: "/d/x"}, anew(at(1), "x"+slash))
		plan(t, c, Call{Kind: kind, Path: "/d/sub/x"}, anew(at(5), "x"+slash))
		plan(t, c, Call{Kind: kind, Path: "/d/lost+found"}, anew(at(1), "lost+found"+slash))
		plan(t, c, Call{Kind: kind, Path: "/lost+found/x/z"}, anew(at(9), "z"+slash))
		for s, want := range map[string]api.Errno{
			"/":             api.Exists,
			"/x/y":          api.NoEntry,
			"/d/x/y":        api.NoEntry,
			"/g/x":          api.NotDir,
			"/d/f/x":        api.NotDir,
			"/d/f/x/y":      api.NotDir,
			"/d":            api.Exists,
			"/d~2":          api.Exists,
			"/g":            api.Exists,
			"/d/f~2":        api.Exists,
			"/lost+found":   api.Exists,
			"/lost+found/x": api.Exists,
			"/lost+found/y": api.Exists,
			"/lost+found/z": api.Busy,
		} {
			refused(t, c, Call{Kind: kind, Path: s}, want)
		}
	}
	refused(t, nil, Call{Kind: Mkdir, Path: "/a/b"}, api.NoEntry)
}

func TestPlanOfUnlink(t *testing.T) {
	c := sample()
	for _, kind := range []int{Unlink, Remove} {
		plan(t, c, Call{Kind: kind, Path: "/g"}, put(at(13), trash(), "g"))
		plan(t, c, Call{Kind: kind, Path: "/d~2"}, put(at(7), trash(), "d"))
		plan(t, c, Call{Kind: kind, Path: "/d/f~2"}, put(at(4), trash(), "f"))
		plan(t, c, Call{Kind: kind, Path: "/lost+found/y"}, put(at(10), trash(), "y"))
		for s, want := range map[string]api.Errno{"/x": api.NoEntry, "/d/x": api.NoEntry, "/gone": api.NoEntry, "/g/x": api.NotDir} {
			refused(t, c, Call{Kind: kind, Path: s}, want)
		}
		refused(t, nil, Call{Kind: kind, Path: "/g"}, api.NoEntry)
	}
	for _, s := range []string{"/", "/d", "/e", "/h", "/lost+found", "/lost+found/x"} {
		refused(t, c, Call{Kind: Unlink, Path: s}, api.IsDir)
	}
}

func TestPlanOfRmdir(t *testing.T) {
	c := sample()
	for _, kind := range []int{Rmdir, Remove} {
		plan(t, c, Call{Kind: kind, Path: "/h"}, put(at(14), trash(), "h/"))
		plan(t, c, Call{Kind: kind, Path: "/e"}, put(at(11), trash(), "e/"), put(at(12), trash(), "e/"))
		plan(t, c, Call{Kind: kind, Path: "/lost+found/x"}, put(at(9), trash(), "x/"))
		for s, want := range map[string]api.Errno{
			"/": api.Busy, "/lost+found": api.Busy, "/x": api.NoEntry, "/g/x": api.NotDir, "/d": api.NotEmpty, "/d/sub": api.NotEmpty,
		} {
			refused(t, c, Call{Kind: kind, Path: s}, want)
		}
		refused(t, many(65), Call{Kind: kind, Path: "/w"}, api.NoSpace)
		if l, e := Plan(many(64), Call{Kind: kind, Path: "/w"}); e != api.OK || len(l) != 64 || l[0] != put(at(10), trash(), "w/") || l[63] != put(at(73), trash(), "w/") {
			t.Errorf("of 64 nodes: %v, %d", l, e)
		}
		full := many(65)
		hang(full, at(100), at(74), "x")
		refused(t, full, Call{Kind: kind, Path: "/w"}, api.NotEmpty)
	}
	for _, s := range []string{"/g", "/d~2", "/d/f"} {
		refused(t, c, Call{Kind: Rmdir, Path: s}, api.NotDir)
	}
}

func TestADirectoryGoesAwayByTheNameThatItWasGiven(t *testing.T) {
	c := cache.New()
	hang(c, at(1), root(), "a")
	hang(c, at(2), root(), "a/")
	hang(c, at(3), root(), "a/")
	plan(t, c, Call{Kind: Rmdir, Path: "/a~2"}, put(at(2), trash(), "a/"), put(at(3), trash(), "a/"))
	plan(t, c, Call{Kind: Rename, Path: "/a~2", To: "/b"}, put(at(2), root(), "b/"), put(at(3), root(), "b/"))
	hang(c, at(4), root(), "b/")
	plan(t, c, Call{Kind: Rename, Path: "/b", To: "/a~2"}, put(at(2), trash(), "a/"), put(at(3), trash(), "a/"), put(at(4), root(), "a~2/"))
}

func TestPlanOfRename(t *testing.T) {
	c := sample()
	plan(t, c, Call{Rename, "/g", "/x"}, put(at(13), root(), "x"))
	plan(t, c, Call{Rename, "/g", "/d/x"}, put(at(13), at(1), "x"))
	plan(t, c, Call{Rename, "/g", "/g"})
	plan(t, c, Call{Rename, "/d", "/d"})
	plan(t, c, Call{Rename, "/d/f~2", "/d/f~2"})
	plan(t, c, Call{Rename, "/d", "/e/x"}, put(at(1), at(11), "x/"), put(at(2), at(11), "x/"))
	plan(t, c, Call{Rename, "/d", "/dd"}, put(at(1), root(), "dd/"), put(at(2), root(), "dd/"))
	plan(t, c, Call{Rename, "/lost+found/x", "/x"}, put(at(9), root(), "x/"))
	plan(t, c, Call{Rename, "/g", "/lost+found/x/new"}, put(at(13), at(9), "new"))
	plan(t, c, Call{Rename, "/d/f~2", "/d/f~3"}, put(at(4), at(1), "f~3"))
	// What stands there goes away.
	plan(t, c, Call{Rename, "/g", "/d~2"}, put(at(7), trash(), "d"), put(at(13), root(), "d~2"))
	plan(t, c, Call{Rename, "/g", "/d/f~2"}, put(at(4), trash(), "f"), put(at(13), at(1), "f~2"))
	plan(t, c, Call{Rename, "/d", "/e"}, put(at(11), trash(), "e/"), put(at(12), trash(), "e/"), put(at(1), root(), "e/"), put(at(2), root(), "e/"))
	plan(t, c, Call{Rename, "/e", "/h"}, put(at(14), trash(), "h/"), put(at(11), root(), "h/"), put(at(12), root(), "h/"))
}

func TestWhatARenameRefuses(t *testing.T) {
	c := sample()
	for _, x := range []struct {
		from, to string
		want     api.Errno
	}{
		{"/", "/x", api.Busy},
		{"/", "/", api.Busy},
		{"/g", "/", api.Busy},
		{"/x", "/", api.Busy},
		{"/x", "/y", api.NoEntry},
		{"/x", "/x", api.NoEntry},
		{"/x", "/lost+found", api.NoEntry},
		{"/g/x", "/y", api.NotDir},
		{"/lost+found", "/lost+found", api.Busy},
		{"/lost+found", "/x", api.Busy},
		{"/lost+found", "/lost+found/x/y", api.Busy},
		{"/d", "/d/x", api.Invalid},
		{"/d", "/d/f", api.Invalid},
		{"/d", "/d/none/x", api.Invalid},
		{"/d", "/d/sub/x", api.Invalid},
		{"/lost+found/x", "/lost+found/x/y", api.Invalid},
		{"/g", "/g/x", api.NotDir},
		{"/g", "/x/y", api.NoEntry},
		{"/d", "/g/x", api.NotDir},
		{"/g", "/lost+found", api.Busy},
		{"/d", "/lost+found", api.Busy},
		{"/g", "/lost+found/z", api.Busy},
		{"/g", "/lost+found/y", api.Busy},
		{"/lost+found/x", "/lost+found/z", api.Busy},
		{"/lost+found/x", "/lost+found/y", api.Busy},
		{"/g", "/d", api.IsDir},
		{"/g", "/e", api.IsDir},
		{"/d/f", "/d", api.IsDir},
		{"/d", "/g", api.NotDir},
		{"/h", "/d~2", api.NotDir},
		{"/h", "/d", api.NotEmpty},
		{"/d/sub", "/d", api.NotEmpty},
	} {
		refused(t, c, Call{Rename, x.from, x.to}, x.want)
	}
	refused(t, nil, Call{Rename, "/a", "/b"}, api.NoEntry)
}

func TestARenameOfMoreNodesThanThereIsRoomFor(t *testing.T) {
	c := many(64)
	if l, e := Plan(c, Call{Rename, "/w", "/x"}); e != api.OK || len(l) != 64 || l[63] != put(at(73), root(), "x/") {
		t.Errorf("%v, %d", l, e)
	}
	refused(t, c, Call{Rename, "/w", "/v"}, api.NoSpace)
	refused(t, c, Call{Rename, "/v", "/w"}, api.NoSpace)
	plan(t, c, Call{Rename, "/w", "/w"})
	refused(t, c, Call{Rename, "/w", "/u"}, api.NotDir)
	c = many(63)
	if l, e := Plan(c, Call{Rename, "/v", "/w"}); e != api.OK || len(l) != 64 || l[62] != put(at(72), trash(), "w/") || l[63] != put(at(1), root(), "w/") {
		t.Errorf("%v, %d", l, e)
	}
	c = many(65)
	refused(t, c, Call{Rename, "/w", "/x"}, api.NoSpace)
	refused(t, c, Call{Rename, "/v", "/w"}, api.NoSpace)
	plan(t, c, Call{Rename, "/w", "/w"})
	refused(t, c, Call{Rename, "/w", "/lost+found"}, api.Busy)
	hang(c, at(1000), at(1), "x")
	refused(t, c, Call{Rename, "/w", "/v"}, api.NotEmpty)
}

// P24.2

func TestName(t *testing.T) {
	for i, want := range []string{"", "mkdir", "create", "unlink", "rmdir", "rename", "remove", ""} {
		if got := Name(i); got != want {
			t.Errorf("Name(%d) = %q", i, got)
		}
	}
	if Name(-1) != "" || Name(1<<62) != "" || Mkdir != 1 || Create != 2 || Unlink != 3 || Rmdir != 4 || Rename != 5 || Remove != 6 {
		t.Error("kinds")
	}
}

func TestMakes(t *testing.T) {
	a, b := anew(root(), "a"), put(at(1), root(), "b")
	for n, l := range [][]Change{{b}, {a}, {a, b, a}, {b, a, a, a, b}} {
		if got := Makes(l); got != n {
			t.Errorf("Makes(%v) = %d", l, got)
		}
	}
	if Makes(nil) != 0 {
		t.Error("nothing makes something")
	}
}

// P24.3

// forest tells a cache where nobody is above oneself, and nothing hangs at a file; if it is plain, siblings have unlike names.
func forest(n, seed int, plain bool) *cache.Cache {
	c := cache.New()
	for i := range n {
		seed = (seed*75 + 74) % 65537
		parent := root()
		if seed%8 == 0 {
			parent = trash()
		} else if up := seed / 8 % (i + 1); up > 0 {
			if e, _ := c.Table().Get(at(up)); e.Dir {
				parent = at(up)
			}
		}
		s := []string{"a", "b", "c"}[seed/7%3]
		if plain {
			s += strconv.Itoa(i)
		}
		c.Set(at(i+1), table.Entry{Parent: parent, Name: s, Dir: seed%3 > 0})
	}
	return c
}

// done tells a cache behind changes.
func done(c *cache.Cache, l []Change) *cache.Cache {
	after := cache.New()
	after.Follow(c.Table())
	for i, x := range l {
		if x.New {
			x.Node = at(1000 + i)
		}
		after.Set(x.Node, table.Entry{Parent: x.Parent, Name: x.Name, Dir: x.Dir})
	}
	return after
}

// some tells paths of which many are those of places.
func some(c *cache.Cache) []string {
	paths := []string{"/", "/x", "/x/y", "/lost+found/x"}
	for s := range walk.All(c) {
		paths = append(paths, s, strings.TrimSuffix(s, "/")+"/x")
	}
	return paths
}

// parted tells a path's parts.
func parted(s string) []string {
	l, _ := path.Parse(s)
	return l
}

func TestWhatIsMadeIsThere(t *testing.T) {
	for seed := range 60 {
		c := forest(10, seed, seed%2 > 0)
		for _, s := range some(c) {
			for kind, dir := range map[int]bool{Mkdir: true, Create: false} {
				l, e := Plan(c, Call{Kind: kind, Path: s})
				if e != api.OK {
					continue
				}
				if r, e := walk.To(done(c, l), parted(s)); e != api.OK || r.Dir != dir || !slices.Equal(r.Nodes, []api.Stamp{at(1000)}) {
					t.Fatalf("behind %s %s there is %v, %d", Name(kind), s, r, e)
				}
			}
		}
	}
}

func TestWhatIsTakenAwayIsSeenNowhere(t *testing.T) {
	for seed := range 60 {
		c := forest(10, seed, seed%2 > 0)
		for _, s := range some(c) {
			for _, kind := range []int{Unlink, Rmdir, Remove} {
				l, e := Plan(c, Call{Kind: kind, Path: s})
				if e != api.OK {
					continue
				}
				was, _ := walk.To(c, parted(s))
				now := view.Of(done(c, l).Table())
				for _, node := range was.Nodes {
					if i, ok := view.Where(now, node); ok {
						t.Fatalf("behind %s %s it is seen at %s", Name(kind), s, now[i].Path)
					}
				}
			}
		}
	}
}

func TestWhatIsRenamedStandsThere(t *testing.T) {
	renamed := 0
	for seed := range 60 {
		plain := seed%2 > 0
		c := forest(10, seed, plain)
		for _, from := range some(c) {
			for _, to := range some(c) {
				l, e := Plan(c, Call{Rename, from, to})
				if e != api.OK || from == to {
					continue
				}
				renamed++
				was, _ := walk.To(c, parted(from))
				up, last := path.Up(parted(to))
				after := done(c, l)
				now := view.Of(after.Table())
				i, ok := view.Where(now, was.Nodes[0])
				if !ok || now[i].Row.Raw != last || now[i].Row.Dir != was.Dir {
					t.Fatalf("behind rename %s %s there is %v", from, to, now[i])
				}
				for _, node := range was.Nodes {
					if j, _ := view.Where(now, node); j != i {
						t.Fatalf("rename %s %s leaves its nodes at several places", from, to)
					}
				}
				in, e := walk.Dir(c, up)
				if e != api.OK || now[now[i].Up].Row.Nodes[0] != in.Nodes[0] {
					t.Fatalf("behind rename %s %s it stands in %v", from, to, now[now[i].Up])
				}
				if plain && now[i].Path != to {
					t.Fatalf("behind rename %s %s it stands at %s", from, to, now[i].Path)
				}
				if r, _ := walk.To(after, parted(to)); plain && !slices.Equal(r.Nodes, was.Nodes) {
					t.Fatalf("behind rename %s %s there is %v", from, to, r)
				}
			}
		}
	}
	if renamed < 500 {
		t.Errorf("only %d were renamed", renamed)
	}
}

func TestNothingHangsAtItselfBehindAPlan(t *testing.T) {
	for seed := range 40 {
		c := forest(10, seed, false)
		for _, from := range some(c) {
			for _, to := range some(c) {
				for _, kind := range kinds() {
					l, e := Plan(c, Call{kind, from, to})
					if e != api.OK && len(l) != 0 || len(l) > api.MaxOps {
						t.Fatalf("%v, %d", l, e)
					}
					x := done(c, l).Table()
					for _, node := range x.Nodes() {
						up, _ := x.Get(node)
						if in, ok := x.Get(up.Parent); x.Above(node, node) || ok && !in.Dir {
							t.Fatalf("behind %s %s %s %v hangs where it may not", Name(kind), from, to, node)
						}
					}
				}
			}
		}
	}
}

func TestLostAndFoundIsToldByItsNode(t *testing.T) {
	c := cache.New()
	hang(c, at(1), root(), "lost+found/")
	hang(c, at(2), root(), "d/")
	hang(c, at(3), at(2), "lost+found/")
	// By its name another one is told from it.
	r, _ := walk.To(c, []string{"lost+found~2"})
	if !listing.One(r, listing.Row{Name: "lost+found~2", Raw: "lost+found", Dir: true, Nodes: []api.Stamp{at(1)}}) {
		t.Fatalf("%v", r)
	}
	plan(t, c, Call{Kind: Mkdir, Path: "/lost+found~2/x"}, anew(at(1), "x/"))
	plan(t, c, Call{Kind: Rmdir, Path: "/lost+found~2"}, put(at(1), trash(), "lost+found/"))
	plan(t, c, Call{Kind: Rmdir, Path: "/d/lost+found"}, put(at(3), trash(), "lost+found/"))
	plan(t, c, Call{Rename, "/d/lost+found", "/x"}, put(at(3), root(), "x/"))
	refused(t, c, Call{Kind: Rmdir, Path: "/lost+found"}, api.Busy)
}
