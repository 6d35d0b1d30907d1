package fate

import (
	"slices"
	"testing"

	"banyan/api"
	"banyan/stamp"
	"banyan/table"
)

func at(time, rep int) api.Stamp { return api.Stamp{Time: time, Rep: rep} }

func root() api.Stamp { return stamp.Root() }

// hang puts a node, a directory, at a parent.
func hang(t *table.Table, node, parent api.Stamp) {
	t.Set(node, table.Entry{Parent: parent, Name: "n", Dir: true})
}

// file puts a node, a file, at a parent.
func file(t *table.Table, node, parent api.Stamp) {
	t.Set(node, table.Entry{Parent: parent, Name: "n"})
}

// nodes tells the first few right nodes.
func nodes(n int) []api.Stamp {
	var l []api.Stamp
	for i := range n {
		l = append(l, at(1+i/2, 63*(i%2)))
	}
	return l
}

// some tells a table of six nodes, each of which hangs somewhere, or has no entry.
func some(seed int) *table.Table {
	t, l := table.New(), nodes(6)
	for _, node := range l {
		seed = (seed*75 + 74) % 65537
		e := table.Entry{Name: "n", Dir: seed%7 > 1}
		switch n := seed / 7 % 11; n {
		case 0:
			continue
		case 1:
			e.Parent = stamp.Trash()
		case 2:
			e.Parent = stamp.Lost()
		case 3:
			e.Parent = at(99, 9)
		case 4:
			e.Parent = root()
		default:
			e.Parent = l[n-5]
		}
		t.Set(node, e)
	}
	return t
}

// byHand tells the fate of a node by the document's words.
func byHand(t *table.Table, node api.Stamp) int {
	e, has := t.Get(node)
	if !has {
		return None
	}
	if e.Parent == at(0, 1) {
		return Gone
	}
	if e.Parent == at(0, 0) {
		return Here
	}
	if slices.Contains(t.Nodes(), e.Parent) {
		p, _ := t.Get(e.Parent)
		if p.Dir && p.Parent != at(0, 1) {
			return Here
		}
	}
	return Lost
}

// P16.1

func TestTheFates(t *testing.T) {
	if None != 0 || Gone != 1 || Lost != 2 || Here != 3 {
		t.Error("the fates have other numbers")
	}
}

func TestOfByExample(t *testing.T) {
	x := table.New()
	d, sub, deep, f, below, gone, left, leaf := at(1, 0), at(2, 0), at(3, 0), at(4, 0), at(5, 0), at(6, 0), at(7, 0), at(8, 0)
	hang(x, d, root())
	hang(x, sub, d)
	file(x, deep, sub)
	file(x, f, root())
	hang(x, below, f)
	hang(x, gone, stamp.Trash())
	hang(x, left, gone)
	file(x, leaf, left)
	odd, strange, thrown := at(9, 0), at(10, 0), at(11, 0)
	hang(x, odd, stamp.Lost())
	hang(x, strange, at(50, 5))
	file(x, thrown, stamp.Trash())
	under := at(12, 0)
	hang(x, under, below)
	for node, want := range map[api.Stamp]int{
		d: Here, sub: Here, deep: Here, f: Here,
		below:         Lost, // at a file
		under:         Here, // at one that is Lost
		gone:          Gone,
		left:          Lost, // at one that is Gone
		leaf:          Here, // at one that is Lost
		odd:           Lost,
		strange:       Lost,
		thrown:        Gone,
		at(50, 5):     None,
		at(99, 0):     None,
		root():        None,
		stamp.Trash(): None,
		stamp.Lost():  None,
	} {
		if got := Of(x, node); got != want {
			t.Errorf("Of(%v) = %d, not %d", node, got, want)
		}
	}
	for kind, want := range map[int][]api.Stamp{
		None: nil, Gone: {gone, thrown}, Lost: {below, left, odd, strange}, Here: {d, sub, deep, f, leaf, under}, -1: nil, 4: nil, 1 << 40: nil,
	} {
		if got := All(x, kind); !slices.Equal(got, want) {
			t.Errorf("All(%d) = %v, not %v", kind, got, want)
		}
	}
}

func TestTheExample(t *testing.T) {
	x, d, n := table.New(), at(1, 0), at(2, 0)
	hang(x, d, stamp.Trash())
	file(x, n, d)
	if Of(x, d) != Gone || Of(x, n) != Lost {
		t.Errorf("d has the fate %d, x has %d", Of(x, d), Of(x, n))
	}
}

func TestOneThatHangsAtItself(t *testing.T) {
	x, a := table.New(), at(1, 0)
	hang(x, a, a)
	if Of(x, a) != Here || Top(x, a) != a {
		t.Errorf("a directory: %d, %v", Of(x, a), Top(x, a))
	}
	file(x, a, a)
	if Of(x, a) != Lost || Top(x, a) != a {
		t.Errorf("a file: %d, %v", Of(x, a), Top(x, a))
	}
}

func TestOfManyAsByHand(t *testing.T) {
	seen := map[int]int{}
	for seed := range 3000 {
		x := some(seed)
		var all [4][]api.Stamp
		for _, node := range append(nodes(7), root(), stamp.Trash(), stamp.Lost()) {
			want := byHand(x, node)
			if got := Of(x, node); got != want {
				t.Fatalf("Of(%v) = %d, not %d", node, got, want)
			}
			seen[want]++
			if want != None {
				all[want] = append(all[want], node)
			}
		}
		for kind, want := range all {
			if got := All(x, kind); !slices.Equal(got, want) {
				t.Fatalf("All(%d) = %v, not %v", kind, got, want)
			}
		}
	}
	for kind := None; kind <= Here; kind++ {
		if seen[kind] < 500 {
			t.Errorf("only %d nodes have the fate %d", seen[kind], kind)
		}
	}
}

func TestOfNoTable(t *testing.T) {
	for _, x := range []*table.Table{nil, {}, table.New()} {
		for _, node := range []api.Stamp{at(1, 0), root(), stamp.Trash(), stamp.Lost()} {
			if Of(x, node) != None || Top(x, node) != node {
				t.Errorf("%v has the fate %d, and one comes out at %v", node, Of(x, node), Top(x, node))
			}
		}
		for kind := -1; kind < 5; kind++ {
			if l := All(x, kind); len(l) != 0 {
				t.Errorf("All(%d) = %v", kind, l)
			}
		}
	}
}

func TestNothingIsChanged(t *testing.T) {
	x := some(17)
	was := x.Clone()
	for _, node := range nodes(7) {
		Of(x, node)
		Top(x, node)
	}
	for kind := range 5 {
		l := All(x, kind)
		for i := range l {
			l[i] = at(9, 9)
		}
	}
	if !table.Same(x, was) {
		t.Error("the table was changed")
	}
}

// P16.2

func TestTopByExample(t *testing.T) {
	x := table.New()
	d, sub, leaf := at(1, 0), at(2, 0), at(3, 0)
	hang(x, d, root())
	hang(x, sub, d)
	file(x, leaf, sub)
	gone, left, below := at(4, 0), at(5, 0), at(6, 0)
	hang(x, gone, stamp.Trash())
	hang(x, left, gone)
	file(x, below, left)
	for node, want := range map[api.Stamp]api.Stamp{
		d: root(), sub: root(), leaf: root(), root(): root(),
		gone: gone, left: left, below: left,
		at(9, 9): at(9, 9), stamp.Trash(): stamp.Trash(), stamp.Lost(): stamp.Lost(),
	} {
		if got := Top(x, node); got != want {
			t.Errorf("Top(%v) = %v, not %v", node, got, want)
		}
	}
}

func TestTopOfALongChain(t *testing.T) {
	x, up, l := table.New(), root(), nodes(200)
	for _, node := range l {
		hang(x, node, up)
		up = node
	}
	// As many steps as there are nodes lead just to the root.
	if got := Top(x, up); got != root() {
		t.Errorf("Top = %v", got)
	}
	hang(x, l[0], at(500, 0))
	if got := Top(x, up); got != l[0] {
		t.Errorf("Top = %v", got)
	}
}

func TestTopInARing(t *testing.T) {
	for n := 1; n < 6; n++ {
		for beside := range 4 {
			x, l := table.New(), nodes(n+beside)
			for i := range n {
				hang(x, l[i], l[(i+1)%n])
			}
			for _, node := range l[n:] {
				hang(x, node, root())
			}
			for i := range n {
				// Behind as many steps as there are nodes in all.
				if got, want := Top(x, l[i]), l[(i+n+beside)%n]; got != want {
					t.Errorf("of %d in a ring, and %d more: Top(%v) = %v, not %v", n, beside, l[i], got, want)
				}
			}
		}
	}
}

func TestTopOfManyAsByHand(t *testing.T) {
	for seed := range 3000 {
		x := some(seed)
		for _, node := range append(nodes(7), root(), stamp.Trash()) {
			want := node
			for steps := 0; steps < x.Len() && byHand(x, want) == Here; steps++ {
				e, _ := x.Get(want)
				want = e.Parent
			}
			if got := Top(x, node); got != want {
				t.Fatalf("Top(%v) = %v, not %v", node, got, want)
			}
		}
	}
}

// P16.3

func TestEachNodeHasJustOneFateAndOneComesOut(t *testing.T) {
	trees := 0
	for seed := range 3000 {
		x := some(seed)
		all := slices.Concat(All(x, Gone), All(x, Lost), All(x, Here))
		slices.SortFunc(all, stamp.Compare)
		if !slices.Equal(all, x.Nodes()) {
			t.Fatalf("%v have fates, of %v", all, x.Nodes())
		}
		if slices.ContainsFunc(x.Nodes(), func(node api.Stamp) bool { return x.Above(node, node) }) {
			continue
		}
		trees++
		for _, node := range All(x, Here) {
			if top := Top(x, node); top != root() && Of(x, top) != Lost {
				t.Fatalf("from %v one comes out at %v, which has the fate %d", node, top, Of(x, top))
			}
		}
	}
	if trees < 500 {
		t.Errorf("only %d are trees", trees)
	}
}
