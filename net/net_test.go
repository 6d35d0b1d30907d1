package net

import (
	"bytes"
	"math"
	"slices"
	"testing"

	"banyan/api"
)

// to tells a flight of a text.
func to(n int, s string) Flight { return Flight{To: n, B: []byte(s)} }

// hurt tells one that was spoilt.
func hurt(n int, s string) Flight { return Flight{To: n, B: []byte(s), Hurt: true} }

// with tells a net with flights.
func with(t *testing.T, l ...Flight) *Net {
	t.Helper()
	n := new(Net)
	for _, f := range l {
		told(t, n.Send(f), api.OK)
	}
	return n
}

func told(t *testing.T, e, want api.Errno) {
	t.Helper()
	if e != want {
		t.Errorf("%d is told, not %d", e, want)
	}
}

func same(a, b Flight) bool { return a.To == b.To && a.Hurt == b.Hurt && bytes.Equal(a.B, b.B) }

// wrongs tells numbers of no flight, of so many.
func wrongs(n int) []int { return []int{-1, n, n + 1, math.MinInt, math.MaxInt} }

// check asks whether a net has just these flights, and lost so many.
func check(t *testing.T, n *Net, lost int, want ...Flight) {
	t.Helper()
	if n.Len() != len(want) || n.Lost() != lost {
		t.Fatalf("Len %d, Lost %d, not %d, %d", n.Len(), n.Lost(), len(want), lost)
	}
	for k, f := range want {
		if got, e := n.Look(k); e != api.OK || !same(got, f) {
			t.Errorf("the %d. flight is %v, %d, not %v", k, got, e, f)
		}
	}
	for _, k := range wrongs(len(want)) {
		if got, e := n.Look(k); e != api.ErrNone || !same(got, Flight{}) {
			t.Errorf("Look(%d) = %v, %d", k, got, e)
		}
	}
}

// P32.1

func TestTheZeroNetHasNone(t *testing.T) {
	check(t, new(Net), 0)
	check(t, &Net{}, 0)
}

func TestSend(t *testing.T) {
	check(t, with(t, to(1, "a"), to(-5, ""), hurt(1<<40, "bc"), to(1, "a")), 0, to(1, "a"), to(-5, ""), hurt(1<<40, "bc"), to(1, "a"))
}

func TestANetHasNoMoreThanMost(t *testing.T) {
	if Most != 256 {
		t.Errorf("Most = %d", Most)
	}
	n, l := new(Net), []Flight(nil)
	for i := range 256 {
		l = append(l, to(i, "x"))
		told(t, n.Send(l[i]), api.OK)
	}
	check(t, n, 0, l...)
	told(t, n.Send(to(1, "y")), api.ErrFull)
	check(t, n, 1, l...)
	told(t, n.Twice(3), api.ErrFull)
	check(t, n, 2, l...)
	told(t, n.Twice(256), api.ErrNone)
	check(t, n, 2, l...)
	n.Take(0)
	told(t, n.Twice(0), api.OK)
	told(t, n.Send(to(1, "y")), api.ErrFull)
	check(t, n, 3, append(l[1:], l[1])...)
}

func TestTake(t *testing.T) {
	l := []Flight{to(0, "a"), hurt(1, "b"), to(2, "c")}
	for k := range l {
		n := with(t, l...)
		if f, e := n.Take(k); e != api.OK || !same(f, l[k]) {
			t.Errorf("Take(%d) = %v, %d", k, f, e)
		}
		check(t, n, 0, slices.Delete(slices.Clone(l), k, k+1)...)
	}
	n := with(t, l...)
	for _, k := range wrongs(3) {
		if f, e := n.Take(k); e != api.ErrNone || !same(f, Flight{}) {
			t.Errorf("Take(%d) = %v, %d", k, f, e)
		}
	}
	check(t, n, 0, l...)
	for range l {
		n.Take(0)
	}
	check(t, n, 0)
}

func TestFlightsHaveMemoryOfTheirOwn(t *testing.T) {
	b := []byte("abc")
	n := with(t, Flight{B: b[:2]}, Flight{B: b})
	told(t, n.Twice(1), api.OK)
	b[0] = 'x'
	look, _ := n.Look(0)
	look.B[0] = 'y'
	told(t, n.Hurt(1, 2, 1), api.OK)
	taken, _ := n.Take(1)
	taken.B[1] = 'z'
	check(t, n, 0, to(0, "ab"), to(0, "abc"))
	if string(b) != "xbc" {
		t.Errorf("what was handed in is %q", b)
	}
}

// P32.2

func TestTwice(t *testing.T) {
	n := with(t, to(0, "a"), hurt(1, "b"))
	told(t, n.Twice(1), api.OK)
	told(t, n.Twice(0), api.OK)
	check(t, n, 0, to(0, "a"), hurt(1, "b"), hurt(1, "b"), to(0, "a"))
	for _, k := range wrongs(4) {
		told(t, n.Twice(k), api.ErrNone)
	}
	check(t, n, 0, to(0, "a"), hurt(1, "b"), hurt(1, "b"), to(0, "a"))
}

func TestSwap(t *testing.T) {
	n := with(t, to(0, "a"), hurt(1, "b"), to(2, "c"))
	told(t, n.Swap(0, 2), api.OK)
	check(t, n, 0, to(2, "c"), hurt(1, "b"), to(0, "a"))
	told(t, n.Swap(2, 1), api.OK)
	told(t, n.Swap(1, 1), api.OK)
	check(t, n, 0, to(2, "c"), to(0, "a"), hurt(1, "b"))
	for _, k := range wrongs(3) {
		for _, m := range []int{0, 2, k} {
			told(t, n.Swap(k, m), api.ErrNone)
			told(t, n.Swap(m, k), api.ErrNone)
		}
	}
	check(t, n, 0, to(2, "c"), to(0, "a"), hurt(1, "b"))
}

func TestHurt(t *testing.T) {
	n := with(t, to(0, "abc"), to(1, ""), hurt(2, "d"))
	for _, k := range wrongs(3) {
		told(t, n.Hurt(k, 0, 1), api.ErrNone)
		told(t, n.Hurt(k, -1, 0), api.ErrNone)
	}
	for _, x := range [][2]int{{-1, 1}, {3, 1}, {math.MinInt, 1}, {math.MaxInt, 1}, {0, 0}, {0, -1}, {0, 256}, {2, 257}, {0, math.MaxInt}, {0, math.MinInt}} {
		told(t, n.Hurt(0, x[0], x[1]), api.ErrArg)
		told(t, n.Hurt(2, x[0], x[1]), api.ErrTwice)
	}
	told(t, n.Hurt(1, 0, 1), api.ErrArg)
	told(t, n.Hurt(2, 0, 1), api.ErrTwice)
	check(t, n, 0, to(0, "abc"), to(1, ""), hurt(2, "d"))
	told(t, n.Hurt(0, 2, 255), api.OK)
	check(t, n, 0, hurt(0, "ab\x9c"), to(1, ""), hurt(2, "d"))
	told(t, n.Hurt(0, 2, 255), api.ErrTwice)
	n = with(t, to(0, "a"), to(0, "a"))
	told(t, n.Hurt(1, 0, 1), api.OK)
	check(t, n, 0, to(0, "a"), hurt(0, "`"))
}

func TestClear(t *testing.T) {
	l := []Flight{to(0, "a"), to(1, "b"), hurt(0, "c"), to(2, "d"), to(0, "e")}
	for _, x := range []struct{ one, went int }{{0, 3}, {1, 1}, {2, 1}, {3, 0}, {-1, 0}} {
		n := with(t, l...)
		if got := n.Clear(x.one); got != x.went {
			t.Errorf("Clear(%d) = %d", x.one, got)
		}
		check(t, n, 0, slices.DeleteFunc(slices.Clone(l), func(f Flight) bool { return f.To == x.one })...)
		if got := n.Clear(x.one); got != 0 {
			t.Errorf("again Clear(%d) = %d", x.one, got)
		}
	}
	if got := new(Net).Clear(0); got != 0 {
		t.Errorf("of nothing Clear = %d", got)
	}
}

func TestANilNet(t *testing.T) {
	var n *Net
	told(t, n.Send(to(0, "a")), api.ErrNil)
	told(t, n.Twice(0), api.ErrNil)
	told(t, n.Swap(0, 0), api.ErrNil)
	told(t, n.Hurt(0, -1, 0), api.ErrNil)
	for _, f := range []func(int) (Flight, api.Errno){n.Look, n.Take} {
		if x, e := f(0); e != api.ErrNil || !same(x, Flight{}) {
			t.Errorf("%v, %d", x, e)
		}
	}
	if n.Len() != 0 || n.Lost() != 0 || n.Clear(0) != 0 {
		t.Error("it has something")
	}
}

// P32.3

func TestOfAFlightOneByteIsSpoiltAtTheMost(t *testing.T) {
	for seed := range 50 {
		n, x := with(t, to(0, "banyan")), seed
		next := func(most int) int {
			x = (x*75 + 74) % 65537
			return x % most
		}
		for range 300 {
			switch next(4) {
			case 0:
				n.Twice(next(n.Len()))
			case 1:
				n.Swap(next(n.Len()), next(n.Len()))
			case 2:
				n.Hurt(next(n.Len()), next(6), 1+next(255))
			case 3:
				if n.Len() > 5 {
					n.Take(next(n.Len()))
				}
			}
		}
		for k := range n.Len() {
			f, _ := n.Look(k)
			other := 0
			for i, c := range f.B {
				if c != "banyan"[i] {
					other++
				}
			}
			if len(f.B) != 6 || other > 1 || (other == 1) != f.Hurt {
				t.Fatalf("%q, %v", f.B, f.Hurt)
			}
		}
	}
}
