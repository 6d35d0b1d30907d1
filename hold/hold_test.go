package hold

import (
	"math"
	"slices"
	"testing"

	"banyan/api"
	"banyan/op"
	"banyan/stamp"
	"banyan/vec"
)

// o tells the op of a replica, a number and a time.
func o(rep, seq, time int) api.Op {
	at := api.Stamp{Time: time, Rep: rep}
	return api.Op{At: at, Seq: seq, Node: at, Parent: stamp.Root(), Name: "n", Dir: true}
}

// r tells a range of a replica.
func r(rep, from, to int) vec.Range { return vec.Range{Rep: rep, From: from, To: to} }

// from tells the hold that is made behind a vector.
func from(t *testing.T, base vec.Vec) *Hold {
	t.Helper()
	h, e := New(base)
	if h == nil || e != api.OK {
		t.Fatalf("New = %d", e)
	}
	return h
}

// put puts ops that are to be held.
func put(t *testing.T, h *Hold, l ...api.Op) {
	t.Helper()
	for _, x := range l {
		if e := h.Put(x); e != api.OK {
			t.Fatalf("Put(%v) = %d", x, e)
		}
	}
}

// sample tells a hold of three replicas, of two of which it doesn't know the first ops.
func sample(t *testing.T) (*Hold, []api.Op) {
	t.Helper()
	h := from(t, vec.Vec{}.With(3, 5).With(7, 2).With(9, 4))
	put(t, h, o(7, 3, 30), o(0, 1, 2), o(3, 6, 1), o(0, 2, 9), o(7, 4, 31), o(3, 7, 8), o(0, 3, 10))
	return h, []api.Op{o(0, 1, 2), o(0, 2, 9), o(0, 3, 10), o(3, 6, 1), o(3, 7, 8), o(7, 3, 30), o(7, 4, 31)}
}

// none tells holds that New did not make.
func none() []*Hold { return []*Hold{nil, {}} }

// check holds a hold against its ops.
func check(t *testing.T, h *Hold, base vec.Vec, want []api.Op) {
	t.Helper()
	known, time := base, 0
	for _, x := range want {
		known[x.At.Rep]++
		time = max(time, x.At.Time)
	}
	if h.Base() != base || h.Known() != known || h.Len() != len(want) || h.Time() != time || !slices.Equal(h.All(), want) {
		t.Fatalf("Base %q, Known %q, Len %d, Time %d, All %v, not %q, %q, %v", vec.Text(h.Base()), vec.Text(h.Known()), h.Len(), h.Time(), h.All(), vec.Text(base), vec.Text(known), want)
	}
	for _, rep := range []int{math.MinInt, -1, 0, 1, 3, 7, 9, 63, 64, math.MaxInt} {
		for _, seq := range []int{math.MinInt, -1, 0, 1, 2, 3, 4, 5, 6, 7, 8, 9, math.MaxInt} {
			i := slices.IndexFunc(want, func(x api.Op) bool { return x.At.Rep == rep && x.Seq == seq })
			got, ok := h.Get(rep, seq)
			if ok != (i >= 0) || ok && got != want[i] || !ok && got != (api.Op{}) {
				t.Fatalf("Get(%d, %d) = %v, %v", rep, seq, got, ok)
			}
		}
	}
}

// P27.1

func TestNew(t *testing.T) {
	for _, v := range []vec.Vec{{}, vec.Vec{}.With(0, 1), vec.Vec{}.With(63, api.MaxSeq)} {
		check(t, from(t, v), v, nil)
	}
	for _, n := range []int{-1, math.MinInt, api.MaxSeq + 1, math.MaxInt} {
		for _, rep := range []int{0, 63} {
			if h, e := New(vec.Vec{}.With(5, 1).With(rep, n)); h != nil || e != api.ErrArg {
				t.Errorf("New with %d = %v, %d", n, h, e)
			}
		}
	}
}

func TestPut(t *testing.T) {
	h, all := sample(t)
	base := vec.Vec{}.With(3, 5).With(7, 2).With(9, 4)
	check(t, h, base, all)
	wrong := o(0, 4, 11)
	wrong.Name = "/"
	for _, x := range []struct {
		o    api.Op
		want api.Errno
	}{
		{api.Op{}, api.ErrArg},
		{wrong, api.ErrArg},
		{o(64, 1, 1), api.ErrArg},
		{o(-1, 1, 1), api.ErrArg},
		{o(0, 0, 11), api.ErrArg},
		{o(0, api.MaxSeq+1, 11), api.ErrArg},
		{o(0, 1, 2), api.ErrTwice},
		{o(0, 3, 10), api.ErrTwice},
		{o(0, 3, 99), api.ErrTwice},
		{o(3, 1, 99), api.ErrTwice},
		{o(3, 5, 99), api.ErrTwice},
		{o(9, 4, 99), api.ErrTwice},
		{o(9, 6, 99), api.ErrState},
		{o(0, 5, 11), api.ErrState},
		{o(0, 5, 1), api.ErrState},
		{o(1, 2, 1), api.ErrState},
		{o(1, api.MaxSeq, 1), api.ErrState},
		{o(0, 4, 10), api.ErrForm},
		{o(0, 4, 9), api.ErrForm},
		{o(3, 8, 8), api.ErrForm},
		{o(7, 5, 1), api.ErrForm},
	} {
		if e := h.Put(x.o); e != x.want {
			t.Errorf("Put(%v) = %d, not %d", x.o, e, x.want)
		}
		check(t, h, base, all)
	}
	// The op ahead of it is not held, so any time will do; and what is held of others does not matter.
	put(t, h, o(9, 5, 1), o(1, 1, 1), o(0, 4, 11), o(9, 6, 2))
	if h.Known() != (vec.Vec{}.With(0, 4).With(1, 1).With(3, 7).With(7, 4).With(9, 6)) {
		t.Errorf("Known() = %q", vec.Text(h.Known()))
	}
	full := from(t, vec.Vec{}.With(2, api.MaxSeq-1))
	put(t, full, o(2, api.MaxSeq, 1))
	if e := full.Put(o(2, api.MaxSeq, 2)); e != api.ErrTwice || full.Known()[2] != api.MaxSeq {
		t.Errorf("Put = %d, Known() = %q", e, vec.Text(full.Known()))
	}
}

func TestPutByExample(t *testing.T) {
	h := from(t, vec.Vec{})
	put(t, h, o(4, 1, 1), o(4, 2, 2))
	if e := h.Put(o(4, 4, 4)); e != api.ErrState {
		t.Errorf("Put = %d", e)
	}
	check(t, h, vec.Vec{}, []api.Op{o(4, 1, 1), o(4, 2, 2)})
}

func TestAHoldThatNewDidNotMake(t *testing.T) {
	for _, h := range none() {
		for range 2 {
			if e := h.Put(o(0, 1, 1)); e != api.ErrNil {
				t.Errorf("Put = %d", e)
			}
			if e := h.Put(api.Op{}); e != api.ErrNil {
				t.Errorf("Put = %d", e)
			}
			check(t, h, vec.Vec{}, nil)
			if l := h.Take([]vec.Range{{Rep: 0, From: 1, To: 9}}, 9); len(l) != 0 {
				t.Errorf("Take = %v", l)
			}
			if n := h.Trim(vec.Vec{}.With(0, 9), api.Stamp{Time: 9}); n != 0 {
				t.Errorf("Trim = %d", n)
			}
		}
	}
}

// P27.2

func TestTake(t *testing.T) {
	h, all := sample(t)
	for _, x := range []struct {
		l    []vec.Range
		most int
		want []api.Op
	}{
		{nil, 9, nil},
		{[]vec.Range{r(0, 1, 3)}, 9, all[:3]},
		{[]vec.Range{r(0, 2, 2)}, 9, all[1:2]},
		{[]vec.Range{r(0, 1, 3)}, 3, all[:3]},
		{[]vec.Range{r(0, 1, 3)}, 2, all[:2]},
		{[]vec.Range{r(0, 1, 3)}, 1, all[:1]},
		{[]vec.Range{r(0, 1, 3)}, 0, nil},
		{[]vec.Range{r(0, 1, 3)}, -1, nil},
		{[]vec.Range{r(0, 1, 3)}, math.MinInt, nil},
		{[]vec.Range{r(0, 1, 3)}, math.MaxInt, all[:3]},
		{[]vec.Range{r(0, 3, 9), r(3, 1, 6)}, 9, all[2:4]},
		{[]vec.Range{r(3, 1, 99), r(0, 1, 1)}, 9, []api.Op{all[3], all[4], all[0]}},
		{[]vec.Range{r(3, 1, 99), r(0, 1, 1)}, 2, all[3:5]},
		{[]vec.Range{r(3, 7, 7), r(3, 6, 7), r(3, 7, 7)}, 9, []api.Op{all[4], all[3], all[4], all[4]}},
		{[]vec.Range{r(3, 7, 7), r(3, 6, 7), r(3, 7, 7)}, 3, []api.Op{all[4], all[3], all[4]}},
		{[]vec.Range{r(0, 3, 1), r(0, 4, 9), r(3, 1, 5), r(9, 1, 9), r(1, 1, 9), r(7, 4, 4)}, 9, all[6:]},
		{[]vec.Range{r(-1, 1, 9), r(64, 1, 9), r(math.MinInt, 1, 9), r(math.MaxInt, 1, 9), r(7, 3, 3)}, 9, all[5:6]},
		{[]vec.Range{r(7, math.MinInt, math.MaxInt), r(0, math.MaxInt, math.MinInt), r(0, math.MinInt, 1)}, 9, []api.Op{all[5], all[6], all[0]}},
	} {
		if got := h.Take(x.l, x.most); !slices.Equal(got, x.want) {
			t.Errorf("Take(%v, %d) = %v, not %v", x.l, x.most, got, x.want)
		}
	}
}

func TestWhatIsToldMayBeChanged(t *testing.T) {
	h, all := sample(t)
	for range 2 {
		for _, l := range [][]api.Op{h.All(), h.Take([]vec.Range{r(0, 1, 2)}, 9), h.Take([]vec.Range{r(0, 1, 3)}, 1), h.Take([]vec.Range{r(7, 3, 3), r(3, 6, 6)}, 9)} {
			l = l[:cap(l)]
			for i := range l {
				l[i] = api.Op{Seq: 99}
			}
		}
		check(t, h, vec.Vec{}.With(3, 5).With(7, 2).With(9, 4), all)
	}
	put(t, h, o(0, 4, 50))
	check(t, h, vec.Vec{}.With(3, 5).With(7, 2).With(9, 4), slices.Insert(slices.Clone(all), 3, o(0, 4, 50)))
}

func TestTimeIsThatOfWhatIsHeld(t *testing.T) {
	h := from(t, vec.Vec{}.With(1, 1))
	put(t, h, o(2, 1, 100), o(1, 2, 50))
	if h.Time() != 100 {
		t.Errorf("Time() = %d", h.Time())
	}
	h.Trim(vec.Vec{}.With(2, 1), api.Stamp{Time: 100, Rep: 63})
	if h.Time() != 50 {
		t.Errorf("Time() = %d", h.Time())
	}
}

// P27.3

func TestTrim(t *testing.T) {
	base := vec.Vec{}.With(3, 5).With(7, 2).With(9, 4)
	all := vec.Vec{}.With(0, 3).With(3, 7).With(7, 4)
	late := api.Stamp{Time: 100, Rep: 63}
	for _, x := range []struct {
		v     vec.Vec
		floor api.Stamp
		went  []int
	}{
		{all, late, []int{0, 1, 2, 3, 4, 5, 6}},
		{vec.Vec{}.With(0, api.MaxSeq), late, []int{0, 1, 2}},
		{vec.Vec{}.With(0, 2).With(3, 5), late, []int{0, 1}},
		{vec.Vec{}.With(0, 2).With(3, 6), late, []int{0, 1, 3}},
		{all, api.Stamp{}, nil},
		{vec.Vec{}, late, nil},
		{vec.Vec{}.With(0, -1).With(3, math.MinInt), late, nil},
		{all, api.Stamp{Time: 9, Rep: 0}, []int{0, 1, 3, 4}},
		{all, api.Stamp{Time: 9, Rep: -1}, []int{0, 3, 4}},
		{all, api.Stamp{Time: 8, Rep: 63}, []int{0, 3, 4}},
		{all, api.Stamp{Time: 8, Rep: 2}, []int{0, 3}},
		{all, api.Stamp{Time: 30, Rep: 7}, []int{0, 1, 2, 3, 4, 5}},
		{vec.Vec{}.With(7, 4), api.Stamp{Time: 30, Rep: 7}, []int{5}},
		{vec.Vec{}.With(9, 9), late, nil},
	} {
		h, ops := sample(t)
		want, now := ops[:0:0], base
		for i, o := range ops {
			if slices.Contains(x.went, i) {
				now[o.At.Rep]++
			} else {
				want = append(want, o)
			}
		}
		if n := h.Trim(x.v, x.floor); n != len(x.went) {
			t.Errorf("Trim(%q, %v) = %d, not %d", vec.Text(x.v), x.floor, n, len(x.went))
		}
		check(t, h, now, want)
		if n := h.Trim(x.v, x.floor); n != 0 {
			t.Errorf("again Trim(%q, %v) = %d", vec.Text(x.v), x.floor, n)
		}
		// What went is known, and goes on to be.
		if e := h.Put(o(0, 3, 99)); e != api.ErrTwice {
			t.Errorf("Put = %d", e)
		}
		put(t, h, o(0, 4, 99))
	}
}

func TestTrimStopsAtTheFirstOneThatStays(t *testing.T) {
	h := from(t, vec.Vec{})
	put(t, h, o(1, 1, 5), o(1, 2, 6), o(1, 3, 7))
	if n := h.Trim(vec.Vec{}.With(1, 2), api.Stamp{Time: 6, Rep: 0}); n != 1 {
		t.Errorf("Trim = %d", n)
	}
	check(t, h, vec.Vec{}.With(1, 1), []api.Op{o(1, 2, 6), o(1, 3, 7)})
	// Behind that no time is known any more of the op ahead.
	h = from(t, vec.Vec{})
	put(t, h, o(1, 1, 5))
	h.Trim(vec.Vec{}.With(1, 1), api.Stamp{Time: 6})
	put(t, h, o(1, 2, 3))
	check(t, h, vec.Vec{}.With(1, 1), []api.Op{o(1, 2, 3)})
}

// P27.4

func TestWhoTakesWhatIsLackedKnowsAsMuch(t *testing.T) {
	for seed := range 200 {
		a, b := from(t, vec.Vec{}), from(t, vec.Vec{})
		n, time := seed, 0
		for range 80 {
			n = (n*75 + 74) % 65537
			time++
			rep := n % 5
			x := o(rep, a.Known()[rep]+1, time)
			put(t, a, x)
			if n%3 == 0 && b.Known()[rep]+1 == x.Seq {
				put(t, b, x)
			}
		}
		l := a.Take(vec.Lacks(b.Known(), a.Known()), 1000)
		if len(l) != vec.Count(vec.Lacks(b.Known(), a.Known())) {
			t.Fatalf("%d were taken", len(l))
		}
		put(t, b, l...)
		if b.Known() != a.Known() || !slices.Equal(a.All(), b.All()) {
			t.Fatalf("it knows %q, not %q", vec.Text(b.Known()), vec.Text(a.Known()))
		}
		for _, x := range l {
			if !op.Right(x) {
				t.Fatalf("%v", x)
			}
		}
	}
}
