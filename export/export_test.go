package export

import (
	"slices"
	"strings"
	"testing"

	"banyan/api"
	"banyan/cache"
	"banyan/call"
	"banyan/listing"
	"banyan/stamp"
	"banyan/table"
	"banyan/view"
)

func at(time int) api.Stamp { return api.Stamp{Time: time} }

// hang puts a node at a parent; the name of a directory has a / behind it.
func hang(t *table.Table, node, parent api.Stamp, s string) {
	n, dir := strings.CutSuffix(s, "/")
	t.Set(node, table.Entry{Parent: parent, Name: n, Dir: dir})
}

// sample tells a table with something of all that may stand in one.
func sample() *table.Table {
	t := table.New()
	hang(t, at(1), stamp.Root(), "d/")
	hang(t, at(2), stamp.Root(), "d/")
	hang(t, at(3), at(1), "f")
	hang(t, at(4), at(2), "f")
	hang(t, at(5), at(2), "lost+found/")
	hang(t, at(6), at(5), "b c")
	hang(t, at(7), stamp.Root(), "lost+found/")
	hang(t, at(8), at(7), "in")
	hang(t, at(9), stamp.Trash(), "gone/")
	hang(t, at(10), at(9), "x/")
	hang(t, at(11), at(10), "y")
	hang(t, at(12), stamp.Root(), "z%")
	return t
}

// dump is what sample is dumped as.
const dump = "dir /d\nfile /d/f\nfile /d/f~2\ndir /d/lost+found\nfile /d/lost+found/b%20c\ndir /lost+found~2\nfile /lost+found~2/in\nfile /z%25\n"

// items tells the items of paths, those of directories with a / behind them.
func items(paths ...string) []Item {
	var l []Item
	for _, s := range paths {
		p, dir := strings.CutSuffix(s, "/")
		l = append(l, Item{dir, p})
	}
	return l
}

// P37.1

func TestItems(t *testing.T) {
	want := items("/d/", "/d/f", "/d/f~2", "/d/lost+found/", "/d/lost+found/b c", "/lost+found~2/", "/lost+found~2/in", "/z%")
	if got := Items(view.Of(sample())); !slices.Equal(got, want) {
		t.Errorf("Items = %v, not %v", got, want)
	}
	if got := Items(view.Of(nil)); len(got) != 0 {
		t.Errorf("of nothing Items = %v", got)
	}
	if got := Items(nil); len(got) != 0 {
		t.Errorf("of no place Items = %v", got)
	}
}

func TestDump(t *testing.T) {
	if got := Dump(Items(view.Of(sample()))); got != dump {
		t.Errorf("Dump = %q", got)
	}
	if got := Dump([]Item{{true, ""}, {false, "x\ny"}, {true, "/\xff"}}); got != "dir \nfile x%0Ay\ndir /%FF\n" {
		t.Errorf("Dump = %q", got)
	}
	if got := Dump(nil); got != "" {
		t.Errorf("of nothing Dump = %q", got)
	}
}

// P37.2

func TestParse(t *testing.T) {
	for s, want := range map[string][]Item{
		"":                             nil,
		"\n\n":                         nil,
		"# dir /a\n#\n":                nil,
		"dir /a\nfile /a/b%20c":        items("/a/", "/a/b c"),
		"\nfile /a\n#x\n\nfile /a\n":   items("/a", "/a"),
		"dir /":                        {{true, "/"}},
		"file /%0A\ndir /file%20/dir ": nil,
		dump:                           Items(view.Of(sample())),
	} {
		got, n, e := Parse(s)
		if strings.HasSuffix(s, " ") {
			if len(got) != 0 || n != 2 || e != api.ErrForm {
				t.Errorf("Parse(%q) = %v, %d, %d", s, got, n, e)
			}
			continue
		}
		if !slices.Equal(got, want) || n != 0 || e != api.OK {
			t.Errorf("Parse(%q) = %v, %d, %d, not %v", s, got, n, e, want)
		}
	}
}

func TestParseOfWhatIsNoItem(t *testing.T) {
	long := strings.Repeat("a", 256)
	for line, want := range map[string]api.Errno{
		" dir /a":                             api.ErrForm,
		"dir":                                 api.ErrForm,
		"dir/a":                               api.ErrForm,
		"dir\t/a":                             api.ErrForm,
		"Dir /a":                              api.ErrForm,
		"dirs /a":                             api.ErrForm,
		"/a":                                  api.ErrForm,
		" ":                                   api.ErrForm,
		"file /a b":                           api.ErrForm,
		"dir  /a":                             api.ErrForm,
		"file /a\r":                           api.ErrForm,
		"file /%41":                           api.ErrForm,
		"file /%2":                            api.ErrForm,
		"file /%2f":                           api.ErrForm,
		"file /\xff":                          api.ErrForm,
		" #":                                  api.ErrForm,
		"dir ":                                api.Invalid,
		"file ":                               api.Invalid,
		"dir a":                               api.Invalid,
		"dir /a/":                             api.Invalid,
		"dir //a":                             api.Invalid,
		"dir /..":                             api.Invalid,
		"file /%00":                           api.Invalid,
		"file /" + long:                       api.TooLong,
		"file /" + long + "/":                 api.Invalid,
		"dir " + strings.Repeat("/abc", 1025): api.TooLong,
	} {
		for ahead, number := range map[string]int{"": 1, "\n": 2, "dir /a\n#\n\n": 4} {
			for _, behind := range []string{"", "\n", "\nfile /ok\n", "\nnothing"} {
				if got, n, e := Parse(ahead + line + behind); len(got) != 0 || n != number || e != want {
					t.Errorf("of %.30q: %v, %d, %d, not %d, %d", ahead+line+behind, got, n, e, number, want)
				}
			}
		}
	}
}

// P37.3

func TestCalls(t *testing.T) {
	want := []call.Call{{Kind: call.Mkdir, Path: "/a"}, {Kind: call.Create, Path: "/a/b"}, {Kind: call.Mkdir, Path: ""}}
	if got := Calls([]Item{{true, "/a"}, {false, "/a/b"}, {true, ""}}); !slices.Equal(got, want) {
		t.Errorf("Calls = %v", got)
	}
	if got := Calls(nil); len(got) != 0 {
		t.Errorf("of nothing Calls = %v", got)
	}
}

func TestSorted(t *testing.T) {
	want := []Item{{true, ""}, {true, "/"}, {false, "/"}, {true, "//"}, {true, "//a"}, {false, "/A"}, {false, "/a"}, {true, "/a"}, {true, "/a/b"}, {true, "/a/b/c"}, {true, "/a/bb"}, {true, "/a!"}, {true, "/a!/x"}, {true, "/a-b"}, {true, "/ab"}, {true, "/\xff"}, {true, "a"}, {true, "a/"}}
	for n := range len(want) {
		l := slices.Concat(want[n:], want[:n])
		// Those of one path stand as they stood.
		if n == 2 || n == 7 {
			continue
		}
		was := slices.Clone(l)
		if got := Sorted(l); !slices.Equal(got, want) || !slices.Equal(l, was) {
			t.Errorf("Sorted = %v", got)
		}
	}
	if got := Sorted([]Item{{false, "/b"}, {true, "/a"}, {false, "/a"}, {true, "/b"}}); !slices.Equal(got, []Item{{true, "/a"}, {false, "/a"}, {false, "/b"}, {true, "/b"}}) {
		t.Errorf("Sorted = %v", got)
	}
	if got := Sorted(nil); len(got) != 0 {
		t.Errorf("of nothing Sorted = %v", got)
	}
}

func TestSortedHasManyThatAreAlikeAsTheyStood(t *testing.T) {
	var l []Item
	for i := range 90 {
		l = append(l, Item{i%7 == 0 || i > 50, []string{"/a/b", "/a", "/a/b/c"}[i%3]})
	}
	var want []Item
	for _, s := range []string{"/a", "/a/b", "/a/b/c"} {
		for _, x := range l {
			if x.Path == s {
				want = append(want, x)
			}
		}
	}
	if got := Sorted(l); !slices.Equal(got, want) {
		t.Errorf("Sorted = %v", got)
	}
}

// P37.4

// some tells a table of nodes that hang at each other, or at the root, or at nobody.
func some(n, seed int) *table.Table {
	t := table.New()
	for i := range n {
		seed = (seed*75 + 74) % 65537
		parent := stamp.Root()
		if seed%4 > 0 {
			parent = at(seed / 4 % (i + 1))
		}
		if seed%13 == 0 {
			parent = stamp.Trash()
		}
		t.Set(at(i+1), table.Entry{Parent: parent, Name: []string{"a", "b c", "a~2", "lost+found", "\xff%"}[seed/7%5], Dir: seed%5 > 0})
	}
	return t
}

// play does calls upon nothing, and tells the places behind them.
func play(t *testing.T, calls []call.Call) []view.Place {
	t.Helper()
	c := cache.New()
	for i, x := range calls {
		l, e := call.Plan(c, x)
		if e != api.OK {
			t.Fatalf("%v: %d", x, e)
		}
		for _, change := range l {
			c.Set(at(1000+i), table.Entry{Parent: change.Parent, Name: change.Name, Dir: change.Dir})
		}
	}
	return view.Of(c.Table())
}

func TestWhoDoesTheCallsHasTheSamePaths(t *testing.T) {
	for seed := range 200 {
		l := Items(view.Of(some(14, seed)))
		again, n, e := Parse(Dump(l))
		if !slices.Equal(again, l) || n != 0 || e != api.OK {
			t.Fatalf("%v, %d, %d, not %v", again, n, e, l)
		}
		for _, x := range [][]Item{l, Sorted(l)} {
			places := play(t, Calls(x))
			if got := Items(places); !slices.Equal(got, l) {
				t.Fatalf("%v, not %v", got, l)
			}
			if slices.ContainsFunc(places, func(p view.Place) bool {
				return !listing.One(p.Row, listing.Row{Name: p.Row.Raw, Raw: p.Row.Raw, Dir: p.Row.Dir, Nodes: p.Row.Nodes})
			}) {
				t.Fatal("a name is not as it was given")
			}
		}
	}
}
