package gap

import (
	"math"
	"slices"
	"testing"

	"banyan/api"
	"banyan/stamp"
	"banyan/vec"
)

// o tells the op of a replica and a number.
func o(rep, seq int) api.Op {
	at := api.Stamp{Time: 1 + seq%1000, Rep: rep}
	return api.Op{At: at, Seq: seq, Node: at, Parent: stamp.Root(), Name: "n"}
}

// knows tells a vector of replicas and numbers.
func knows(l ...int) vec.Vec {
	var v vec.Vec
	for i := 0; i < len(l); i += 2 {
		v[l[i]] = l[i+1]
	}
	return v
}

// add adds ops that are to wait.
func add(t *testing.T, g *Gap, known vec.Vec, l ...api.Op) {
	t.Helper()
	for _, x := range l {
		if e := g.Add(known, x); e != api.OK {
			t.Fatalf("Add(%v) = %d", x, e)
		}
	}
}

// waits asks whether just these wait.
func waits(t *testing.T, g *Gap, want ...api.Op) {
	t.Helper()
	if l := g.All(); !slices.Equal(l, want) || g.Len() != len(want) {
		t.Errorf("%v wait, Len() = %d, not %v", l, g.Len(), want)
	}
}

// ready asks whether just these are ready.
func ready(t *testing.T, g *Gap, known vec.Vec, most int, want ...api.Op) {
	t.Helper()
	if l := g.Ready(known, most); !slices.Equal(l, want) {
		t.Errorf("%v are ready, not %v", l, want)
	}
}

// lacks asks whether just these are lacked.
func lacks(t *testing.T, g *Gap, known vec.Vec, want ...vec.Range) {
	t.Helper()
	was := g.All()
	if l := g.Lacks(known); !slices.Equal(l, want) {
		t.Errorf("%v are lacked, not %v", l, want)
	}
	waits(t, g, was...)
}

// P28.1

func TestNewIsEmpty(t *testing.T) {
	g := New()
	waits(t, g)
	ready(t, g, vec.Vec{}, 9)
	lacks(t, g, knows(3, 9))
	if Window != 256 {
		t.Errorf("Window = %d", Window)
	}
}

func TestAdd(t *testing.T) {
	g, known := New(), knows(1, 10, 2, api.MaxSeq-1)
	add(t, g, known, o(1, 12), o(0, 256), o(2, api.MaxSeq), o(1, 266))
	all := []api.Op{o(0, 256), o(1, 12), o(1, 266), o(2, api.MaxSeq)}
	waits(t, g, all...)
	other, wrong := o(1, 12), o(1, 13)
	other.Name, wrong.Name = "other", ".."
	for _, x := range []struct {
		o    api.Op
		want api.Errno
	}{
		{api.Op{}, api.ErrArg},
		{wrong, api.ErrArg},
		{o(64, 1), api.ErrArg},
		{o(-1, 1), api.ErrArg},
		{o(0, 0), api.ErrArg},
		{o(0, api.MaxSeq+1), api.ErrArg},
		{o(1, 1), api.ErrOld},
		{o(1, 10), api.ErrOld},
		{o(2, api.MaxSeq-1), api.ErrOld},
		{o(0, 257), api.ErrFull},
		{o(1, 267), api.ErrFull},
		{o(0, api.MaxSeq), api.ErrFull},
		{o(1, 12), api.ErrTwice},
		{other, api.ErrTwice},
		{o(1, 266), api.ErrTwice},
	} {
		if e := g.Add(known, x.o); e != x.want {
			t.Errorf("Add(%v) = %d, not %d", x.o, e, x.want)
		}
		waits(t, g, all...)
	}
	// One that waits is old, or too far ahead, by what is known when it is asked.
	if e := g.Add(knows(1, 12), o(1, 12)); e != api.ErrOld {
		t.Errorf("Add = %d", e)
	}
	if e := g.Add(knows(1, 9), o(1, 266)); e != api.ErrFull {
		t.Errorf("Add = %d", e)
	}
}

func TestAGapThatNewDidNotMake(t *testing.T) {
	for _, g := range []*Gap{nil, {}} {
		for range 2 {
			if g.Add(vec.Vec{}, o(1, 1)) != api.ErrNil || g.Add(vec.Vec{}, api.Op{}) != api.ErrNil {
				t.Error("Add")
			}
			waits(t, g)
			ready(t, g, vec.Vec{}, 9)
			lacks(t, g, vec.Vec{})
		}
	}
}

func TestWhatIsToldMayBeChanged(t *testing.T) {
	g := New()
	add(t, g, vec.Vec{}, o(1, 2), o(0, 1))
	clear(g.All())
	clear(g.Lacks(vec.Vec{}))
	waits(t, g, o(0, 1), o(1, 2))
	add(t, New(), vec.Vec{}, o(1, 2))
	waits(t, g, o(0, 1), o(1, 2))
}

// P28.2

func TestReady(t *testing.T) {
	all := []api.Op{o(0, 1), o(0, 2), o(0, 4), o(3, 7), o(3, 8), o(5, 3), o(63, 1)}
	known := knows(3, 6, 5, 1)
	for most, n := range []int{0, 1, 2, 3, 4, 5, 5, 5} {
		g := New()
		add(t, g, known, all...)
		can := []api.Op{all[0], all[1], all[3], all[4], all[6]}
		ready(t, g, known, most, can[:n]...)
		left := slices.DeleteFunc(slices.Clone(all), func(x api.Op) bool { return slices.Contains(can[:n], x) })
		waits(t, g, left...)
	}
	for _, most := range []int{-1, math.MinInt} {
		g := New()
		add(t, g, known, all...)
		ready(t, g, known, most)
		waits(t, g, all...)
	}
	g := New()
	add(t, g, known, all...)
	ready(t, g, known, math.MaxInt, all[0], all[1], all[3], all[4], all[6])
	ready(t, g, known, math.MaxInt)
	waits(t, g, o(0, 4), o(5, 3))
}

func TestWhatIsKnownMeanwhileWaitsNoMore(t *testing.T) {
	for _, most := range []int{-1, 0, 1} {
		g := New()
		add(t, g, vec.Vec{}, o(0, 1), o(0, 2), o(0, 3), o(1, 5), o(2, 2))
		known := knows(0, 2, 1, 9)
		if most == 1 {
			ready(t, g, known, most, o(0, 3))
			waits(t, g, o(2, 2))
			continue
		}
		ready(t, g, known, most)
		waits(t, g, o(0, 3), o(2, 2))
	}
}

// P28.3

func TestLacks(t *testing.T) {
	g := New()
	add(t, g, vec.Vec{}, o(0, 1), o(0, 2), o(2, 3), o(2, 4), o(2, 9), o(2, 11), o(7, 2), o(63, 256))
	lacks(t, g, vec.Vec{}, vec.Range{Rep: 2, From: 1, To: 2}, vec.Range{Rep: 2, From: 5, To: 8}, vec.Range{Rep: 2, From: 10, To: 10}, vec.Range{Rep: 7, From: 1, To: 1}, vec.Range{Rep: 63, From: 1, To: 255})
	lacks(t, g, knows(2, 5, 7, 1), vec.Range{Rep: 2, From: 6, To: 8}, vec.Range{Rep: 2, From: 10, To: 10}, vec.Range{Rep: 63, From: 1, To: 255})
	lacks(t, g, knows(2, 9, 7, 2, 63, 254), vec.Range{Rep: 2, From: 10, To: 10}, vec.Range{Rep: 63, From: 255, To: 255})
	lacks(t, g, knows(2, 10, 7, 2, 63, 255))
	lacks(t, g, knows(0, 99, 2, 99, 7, 99, 63, 999))
}

func TestLacksOfNumbersThatAreFarApart(t *testing.T) {
	g := New()
	add(t, g, knows(1, api.MaxSeq-5), o(1, api.MaxSeq))
	lacks(t, g, vec.Vec{}, vec.Range{Rep: 1, From: 1, To: api.MaxSeq - 1})
	lacks(t, g, knows(1, api.MaxSeq))
}

// P28.4

func TestByExample(t *testing.T) {
	g, known := New(), knows(4, 1)
	add(t, g, known, o(4, 3))
	ready(t, g, known, 9)
	lacks(t, g, known, vec.Range{Rep: 4, From: 2, To: 2})
	add(t, g, known, o(4, 2))
	ready(t, g, known, 9, o(4, 2), o(4, 3))
	waits(t, g)
}

func TestEachIsTakenJustOnceInItsTurn(t *testing.T) {
	for seed := range 20 {
		var known vec.Vec
		g, n := New(), seed
		taken := 0
		for i := range 1200 {
			n = (n*75 + 74) % 65537
			x := o(n%4, 1+n/4%60)
			if i >= 960 {
				x = o(i%4, 1+(i-960)/4)
			}
			e := g.Add(known, x)
			if old := x.Seq <= known[x.At.Rep]; old != (e == api.ErrOld) || !old && e != api.OK && e != api.ErrTwice {
				t.Fatalf("Add(%v) = %d", x, e)
			}
			all := g.All()
			for _, r := range g.Lacks(known) {
				if r.From > r.To || r.From <= known[r.Rep] || slices.ContainsFunc(all, func(x api.Op) bool { return x.At.Rep == r.Rep && r.From <= x.Seq && x.Seq <= r.To }) {
					t.Fatalf("%v is lacked", r)
				}
			}
			for _, x := range g.Ready(known, n%5) {
				if x != o(x.At.Rep, known[x.At.Rep]+1) {
					t.Fatalf("%v is told behind %q", x, vec.Text(known))
				}
				known[x.At.Rep]++
				taken++
			}
		}
		taken += len(g.Ready(known, 1000))
		if taken != 240 || g.Len() != 0 {
			t.Fatalf("%d were taken, %d wait", taken, g.Len())
		}
	}
}
