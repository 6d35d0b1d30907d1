package undo

import (
	"slices"
	"testing"

	"banyan/api"
	"banyan/cache"
	"banyan/call"
	"banyan/fate"
	"banyan/stamp"
	"banyan/table"
	"banyan/view"
)

func at(time int) api.Stamp { return api.Stamp{Time: time} }

func root() api.Stamp { return stamp.Root() }

func trash() api.Stamp { return stamp.Trash() }

// put tells the change that puts a node somewhere.
func put(node, parent api.Stamp, s string, dir bool) call.Change {
	return call.Change{Node: node, Parent: parent, Name: s, Dir: dir}
}

// anew tells the change that makes a node.
func anew(parent api.Stamp, s string, dir bool) call.Change {
	return call.Change{New: true, Parent: parent, Name: s, Dir: dir}
}

// with tells a cache with entries.
func with(l ...call.Change) *cache.Cache {
	c := cache.New()
	for _, x := range l {
		c.Set(x.Node, table.Entry{Parent: x.Parent, Name: x.Name, Dir: x.Dir})
	}
	return c
}

// same asks for just these changes.
func same(t *testing.T, got []call.Change, want ...call.Change) {
	t.Helper()
	if !slices.Equal(got, want) {
		t.Errorf("%v is told, not %v", got, want)
	}
}

// P38.1

func TestBackByExample(t *testing.T) {
	same(t, Back(cache.New(), []call.Change{anew(root(), "a", true)}, []api.Stamp{at(5)}), put(at(5), trash(), "a", true))
}

func TestBack(t *testing.T) {
	c := with(put(at(1), root(), "a", true), put(at(2), at(1), "f", false), put(at(3), root(), "b", false))
	l := []call.Change{put(at(2), root(), "g", false), anew(at(1), "x", false), put(at(9), root(), "none", true), put(at(3), trash(), "b", false), anew(root(), "y", true), put(at(2), trash(), "g", false)}
	made := []api.Stamp{at(20), at(21), at(22)}
	was, wasMade, table1 := slices.Clone(l), slices.Clone(made), c.Table()
	back := Back(c, l, made)
	same(t, back, put(at(2), at(1), "f", false), put(at(21), trash(), "y", true), put(at(3), root(), "b", false), put(at(20), trash(), "x", false), put(at(2), at(1), "f", false))
	if !slices.Equal(l, was) || !slices.Equal(made, wasMade) || !table.Same(c.Table(), table1) {
		t.Error("something was changed")
	}
	// A new one that there is no node for is let go.
	same(t, Back(c, l, made[:1]), put(at(2), at(1), "f", false), put(at(3), root(), "b", false), put(at(20), trash(), "x", false), put(at(2), at(1), "f", false))
	same(t, Back(c, l, nil), put(at(2), at(1), "f", false), put(at(3), root(), "b", false), put(at(2), at(1), "f", false))
	same(t, Back(c, nil, made))
	for _, none := range []*cache.Cache{nil, {}} {
		same(t, Back(none, l, made), put(at(21), trash(), "y", true), put(at(20), trash(), "x", false))
	}
}

func TestANewOneThatMovesInTheSameListHasNoEntryYet(t *testing.T) {
	l := []call.Change{anew(root(), "x", true), put(at(5), at(1), "y", true)}
	same(t, Back(cache.New(), l, []api.Stamp{at(5)}), put(at(5), trash(), "x", true))
}

func TestPlay(t *testing.T) {
	c := with(put(at(1), root(), "a", true))
	l := []call.Change{anew(at(1), "x", false), put(at(1), root(), "b", true), anew(root(), "y", true), put(at(20), root(), "z", false)}
	made := []api.Stamp{at(20), at(21)}
	was := slices.Clone(l)
	if n := Play(c, l, made); n != 4 || !slices.Equal(l, was) {
		t.Errorf("Play = %d", n)
	}
	if !table.Same(c.Table(), with(put(at(1), root(), "b", true), put(at(20), root(), "z", false), put(at(21), root(), "y", true)).Table()) {
		t.Errorf("%v", view.Of(c.Table()))
	}
	c = cache.New()
	if n := Play(c, l, made[:1]); n != 3 || c.Len() != 2 {
		t.Errorf("Play = %d, %d entries", n, c.Len())
	}
	c = cache.New()
	if n := Play(c, l, nil); n != 2 || c.Len() != 2 {
		t.Errorf("Play = %d, %d entries", n, c.Len())
	}
	if n := Play(c, nil, made); n != 0 || c.Len() != 2 {
		t.Errorf("of nothing Play = %d", n)
	}
	for _, none := range []*cache.Cache{nil, {}} {
		if n := Play(none, l, made); n != 0 || none.Len() != 0 {
			t.Errorf("upon none Play = %d", n)
		}
	}
}

// P38.2

// list tells a list that is another one for each number.
func list(n int) []call.Change { return []call.Change{put(at(n+1), root(), "n", false)} }

// length asks how many lists there are of both.
func length(t *testing.T, h *History, done, undone int) {
	t.Helper()
	if a, b := h.Len(); a != done || b != undone {
		t.Errorf("Len() = %d, %d, not %d, %d", a, b, done, undone)
	}
}

// takes asks for a list, or, below 0, for none.
func takes(t *testing.T, take func() ([]call.Change, bool), n int) {
	t.Helper()
	l, ok := take()
	if n < 0 {
		if ok || len(l) != 0 {
			t.Errorf("%v, %v", l, ok)
		}
		return
	}
	if !ok || !slices.Equal(l, list(n)) {
		t.Errorf("%v, %v, not %v", l, ok, list(n))
	}
}

func TestHistory(t *testing.T) {
	h := new(History)
	length(t, h, 0, 0)
	takes(t, h.Undo, -1)
	takes(t, h.Redo, -1)
	for n := range 3 {
		h.Did(list(n))
		length(t, h, n+1, 0)
	}
	takes(t, h.Undo, 2)
	length(t, h, 2, 0)
	h.Undone(list(12))
	takes(t, h.Undo, 1)
	h.Undone(list(11))
	length(t, h, 1, 2)
	takes(t, h.Redo, 11)
	length(t, h, 1, 1)
	h.Did(list(5))
	length(t, h, 2, 0)
	takes(t, h.Redo, -1)
	takes(t, h.Undo, 5)
	takes(t, h.Undo, 0)
	takes(t, h.Undo, -1)
	length(t, h, 0, 0)
}

func TestAHistoryHasNoMoreThanMostThatWereDone(t *testing.T) {
	if Most != 64 {
		t.Errorf("Most = %d", Most)
	}
	h := new(History)
	for n := range 64 {
		h.Did(list(n))
	}
	length(t, h, 64, 0)
	for n := 64; n < 66; n++ {
		h.Did(list(n))
		length(t, h, 64, 0)
	}
	for n := 65; n > 1; n-- {
		takes(t, h.Undo, n)
	}
	takes(t, h.Undo, -1)
	// Of what was undone there may be as many as one likes.
	for n := range 200 {
		h.Undone(list(n))
	}
	length(t, h, 0, 200)
	for n := 199; n >= 0; n-- {
		takes(t, h.Redo, n)
	}
	takes(t, h.Redo, -1)
}

func TestAnEmptyListIsOne(t *testing.T) {
	h := new(History)
	h.Did(nil)
	h.Undone([]call.Change{})
	length(t, h, 1, 1)
	for _, take := range []func() ([]call.Change, bool){h.Undo, h.Redo} {
		if l, ok := take(); !ok || len(l) != 0 {
			t.Errorf("%v, %v", l, ok)
		}
	}
}

func TestAHistoryHasMemoryOfItsOwn(t *testing.T) {
	h, a, b := new(History), list(1), list(2)
	h.Did(a)
	h.Undone(b)
	a[0], b[0] = call.Change{}, call.Change{}
	takes(t, h.Undo, 1)
	takes(t, h.Redo, 2)
	length(t, new(History), 0, 0)
}

func TestANilHistory(t *testing.T) {
	var h *History
	for range 2 {
		h.Did(list(1))
		h.Undone(list(1))
		takes(t, h.Undo, -1)
		takes(t, h.Redo, -1)
		length(t, h, 0, 0)
	}
}

// P38.3

func TestWhoTakesChangesBackHasWhatThereWas(t *testing.T) {
	for seed := range 200 {
		n := seed
		next := func(most int) int {
			n = (n*75 + 74) % 65537
			return n % most
		}
		c := cache.New()
		change := func() call.Change {
			x := put(at(1+next(8)), []api.Stamp{root(), trash(), at(1 + next(8))}[next(3)], []string{"a", "b"}[next(2)], next(2) == 0)
			if next(3) == 0 {
				x.New, x.Node = true, api.Stamp{}
			}
			return x
		}
		for range 6 {
			x := change()
			c.Set(at(1+next(8)), table.Entry{Parent: x.Parent, Name: x.Name, Dir: x.Dir})
		}
		was := c.Table()
		var l []call.Change
		for range 12 {
			if x := change(); x.New {
				l = append(l, x)
			} else if _, ok := was.Get(x.Node); ok {
				l = append(l, x)
			}
		}
		var made []api.Stamp
		for i := range call.Makes(l) {
			made = append(made, at(100+i))
		}
		back := Back(c, l, made)
		if len(back) != len(l) || Play(c, l, made) != len(l) || Play(c, back, nil) != len(back) {
			t.Fatalf("%v is taken back by %v", l, back)
		}
		now := c.Table()
		for _, node := range made {
			if fate.Of(now, node) != fate.Gone {
				t.Fatalf("%v is not Gone", node)
			}
			now.Drop(node)
		}
		if !table.Same(now, was) {
			t.Fatalf("behind %v and %v there is %v", l, back, now.Nodes())
		}
	}
}
