package usage

import (
	"math"
	"slices"
	"strings"
	"testing"

	"banyan/api"
	"banyan/stamp"
	"banyan/table"
	"banyan/view"
)

func at(time int) api.Stamp { return api.Stamp{Time: time} }

// hang puts a node at a parent; the name of a directory has a / behind it.
func hang(t *table.Table, node, parent api.Stamp, s string) {
	n, dir := strings.CutSuffix(s, "/")
	t.Set(node, table.Entry{Parent: parent, Name: n, Dir: dir})
}

// sample tells the places of a small table.
func sample() []view.Place {
	t := table.New()
	hang(t, at(1), stamp.Root(), "a/")
	hang(t, at(2), at(1), "bb/")
	hang(t, at(3), at(2), "ccc")
	hang(t, at(4), at(1), "d")
	hang(t, at(5), stamp.Root(), "e")
	hang(t, at(6), stamp.Root(), "z/")
	hang(t, at(7), stamp.Root(), "a/")
	hang(t, at(8), at(7), "d")
	hang(t, at(9), stamp.Trash(), "gone/")
	return view.Of(t)
}

// some tells the places of nodes that hang at each other, or at the root.
func some(n, seed int) []view.Place {
	t := table.New()
	for i := range n {
		seed = (seed*75 + 74) % 65537
		parent := stamp.Root()
		if seed%4 > 0 {
			parent = at(seed / 4 % (i + 1))
		}
		t.Set(at(i+1), table.Entry{Parent: parent, Name: []string{"a", "b", "cc"}[seed/7%3], Dir: seed%5 > 0})
	}
	return view.Of(t)
}

// P36.1

func TestOf(t *testing.T) {
	want := []Sum{
		{"/", 4, 4, 3, 22},
		{"/a", 1, 3, 2, 9},
		{"/a/bb", 0, 1, 1, 3},
		{"/lost+found", 0, 0, 0, 0},
		{"/z", 0, 0, 0, 0},
	}
	if got := Of(sample()); !slices.Equal(got, want) {
		t.Errorf("Of = %v, not %v", got, want)
	}
	if got := Of(view.Of(nil)); !slices.Equal(got, []Sum{{"/", 1, 0, 1, 10}, {"/lost+found", 0, 0, 0, 0}}) {
		t.Errorf("of nothing Of = %v", got)
	}
	if got := Of(nil); len(got) != 0 {
		t.Errorf("of no place Of = %v", got)
	}
}

func TestTotal(t *testing.T) {
	if got := Total(sample()); got != (Sum{"/", 4, 4, 3, 22}) {
		t.Errorf("Total = %v", got)
	}
	if got := Total(nil); got != (Sum{}) {
		t.Errorf("of no place Total = %v", got)
	}
	for seed := range 50 {
		if l := some(15, seed); Total(l) != Of(l)[0] {
			t.Errorf("Total = %v", Total(l))
		}
	}
}

// P36.2

func TestMost(t *testing.T) {
	l := []Sum{{"a", 1, 1, 0, 0}, {"b", 0, 3, 0, 0}, {"c", 2, 0, 9, 9}, {"d", 0, 0, 0, 0}, {"e", 3, 0, 0, 0}, {"f", 1 << 31, 1 << 31, 0, 0}}
	was := slices.Clone(l)
	sorted := []Sum{l[5], l[1], l[4], l[0], l[2], l[3]}
	for n := range 9 {
		got := Most(l, n)
		if !slices.Equal(got, sorted[:min(n, 6)]) {
			t.Errorf("Most(%d) = %v", n, got)
		}
		clear(got[:cap(got)])
	}
	for _, n := range []int{-1, math.MinInt} {
		if got := Most(l, n); len(got) != 0 {
			t.Errorf("Most(%d) = %v", n, got)
		}
	}
	if got := Most(l, math.MaxInt); !slices.Equal(got, sorted) || !slices.Equal(l, was) {
		t.Errorf("Most = %v, of %v", got, l)
	}
	if got := Most(nil, 5); len(got) != 0 {
		t.Errorf("of nothing Most = %v", got)
	}
}

func TestMostKeepsTheOrderOfThoseThatAreAlike(t *testing.T) {
	var l []Sum
	for i := range 60 {
		l = append(l, Sum{Path: string(rune('A' + i)), Dirs: i % 3, Files: 2 - i%3 + i%2})
	}
	got := Most(l, 60)
	for i, s := range got[1:] {
		a, b := got[i].Dirs+got[i].Files, s.Dirs+s.Files
		if a < b || a == b && got[i].Path >= s.Path {
			t.Fatalf("%v stands ahead of %v", got[i], s)
		}
	}
}

func TestDepths(t *testing.T) {
	if got := Depths(sample()); !slices.Equal(got, []int{1, 4, 3, 1}) {
		t.Errorf("Depths = %v", got)
	}
	if got := Depths(view.Of(nil)); !slices.Equal(got, []int{1, 1}) {
		t.Errorf("of nothing Depths = %v", got)
	}
	if got := Depths(nil); len(got) != 0 {
		t.Errorf("of no place Depths = %v", got)
	}
	if got := Depths([]view.Place{{Depth: 2}, {Depth: -1}, {Depth: 2}}); !slices.Equal(got, []int{0, 0, 2}) {
		t.Errorf("of depths that no namespace has Depths = %v", got)
	}
	for seed := range 50 {
		if l := some(15, seed); !slices.Equal(Depths(l), depths(l)) {
			t.Errorf("Depths = %v, not %v", Depths(l), depths(l))
		}
	}
}

// depths counts depth by depth.
func depths(l []view.Place) []int {
	var n []int
	for d, left := 0, len(l); left > 0; d++ {
		have := 0
		for _, p := range l {
			if p.Depth == d {
				have++
			}
		}
		n = append(n, have)
		left -= have
	}
	return n
}

// P36.3

func TestWhatIsBelowIsWhatStandsInItAndWhatIsBelowThat(t *testing.T) {
	for seed := range 200 {
		l := some(20, seed)
		sums := map[string]Sum{}
		for _, s := range Of(l) {
			sums[s.Path] = s
		}
		dirs := 0
		for i, p := range l {
			if !p.Row.Dir {
				continue
			}
			dirs++
			want := Sum{Path: p.Path}
			for _, q := range l {
				if q.Up != i || q.Depth == 0 {
					continue
				}
				inside := sums[q.Path]
				want.Bytes += len(q.Row.Name) + inside.Bytes
				want.Deep = max(want.Deep, 1+inside.Deep)
				want.Dirs += inside.Dirs
				want.Files += inside.Files
				if q.Row.Dir {
					want.Dirs++
				} else {
					want.Files++
				}
			}
			if sums[p.Path] != want {
				t.Fatalf("%v, not %v", sums[p.Path], want)
			}
		}
		if dirs != len(sums) {
			t.Fatalf("%d sums, not %d", len(sums), dirs)
		}
	}
}
