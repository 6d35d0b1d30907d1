package vec

import (
	"math"
	"slices"
	"strconv"
	"strings"
	"testing"

	"banyan/api"
)

// of tells the vector of replicas and numbers that stand in turn.
func of(l ...int) Vec {
	var v Vec
	for i := 0; i < len(l); i += 2 {
		v[l[i]] = l[i+1]
	}
	return v
}

func all(n int) Vec {
	var v Vec
	for rep := range v {
		v[rep] = n
	}
	return v
}

// small tells all vectors that know of the first, the second and the last replica up to so many ops each.
func small(most int) []Vec {
	var l []Vec
	for a := range most + 1 {
		for b := range most + 1 {
			for c := range most + 1 {
				l = append(l, of(0, a, 1, b, 63, c))
			}
		}
	}
	return l
}

// some tells vectors that may be, at the edges.
func some() []Vec {
	return append(small(2), all(0), all(1), all(1<<32), of(0, 1<<32), of(63, 1<<32), of(5, 1<<32-1, 6, 1<<32), of(9, 9, 10, 10), of(0, 3, 2, 1), of(0, 1, 5, 2))
}

// P4.1

func TestRight(t *testing.T) {
	for _, v := range some() {
		if !v.Right() {
			t.Errorf("%v may be", v)
		}
	}
	for _, n := range []int{-1, math.MinInt, 1<<32 + 1, math.MaxInt} {
		for rep := range 64 {
			if v := all(3).With(rep, n); v.Right() {
				t.Errorf("%v may not be", v)
			}
		}
	}
}

func TestGetWith(t *testing.T) {
	v := of(0, 3, 2, 1, 63, 7)
	for rep := range 64 {
		for _, n := range []int{0, 1, 5, 1 << 32, -1, 1<<32 + 1} {
			w := v.With(rep, n)
			for r := range 64 {
				want := v[r]
				if r == rep {
					want = n
				}
				if w.Get(r) != want || w[r] != want {
					t.Errorf("With(%d, %d): of %d it is %d, not %d", rep, n, r, w.Get(r), want)
				}
			}
		}
	}
	if v != of(0, 3, 2, 1, 63, 7) {
		t.Errorf("it became %v", v)
	}
	for _, rep := range []int{-1, 64, 65, math.MinInt, math.MaxInt} {
		if v.Get(rep) != 0 {
			t.Errorf("Get(%d) = %d", rep, v.Get(rep))
		}
		if v.With(rep, 9) != v {
			t.Errorf("With(%d, 9) = %v", rep, v.With(rep, 9))
		}
	}
}

func TestSum(t *testing.T) {
	for _, x := range []struct {
		v    Vec
		want int
	}{
		{Vec{}, 0},
		{of(0, 3, 2, 1), 4},
		{of(63, 5), 5},
		{all(1), 64},
		{all(1 << 32), 1 << 38},
	} {
		if got := x.v.Sum(); got != x.want {
			t.Errorf("Sum of %v = %d, not %d", x.v, got, x.want)
		}
	}
}

// P4.2

func TestJoinByExample(t *testing.T) {
	for _, x := range []struct {
		l    []Vec
		want Vec
	}{
		{nil, Vec{}},
		{[]Vec{of(0, 3)}, of(0, 3)},
		{[]Vec{of(0, 3, 2, 1), of(0, 1, 5, 2)}, of(0, 3, 2, 1, 5, 2)},
		{[]Vec{of(0, 3), of(1, 4), of(2, 5), of(0, 6, 1, 1)}, of(0, 6, 1, 4, 2, 5)},
		{[]Vec{of(63, 1<<32), of(0, 1)}, of(0, 1, 63, 1<<32)},
		{[]Vec{all(-1)}, Vec{}},
		{[]Vec{of(0, -3), of(0, -2, 1, 5)}, of(1, 5)},
		{[]Vec{of(0, math.MinInt, 1, math.MaxInt)}, of(1, math.MaxInt)},
	} {
		if got := Join(x.l...); got != x.want {
			t.Errorf("Join(%v) = %v, not %v", x.l, got, x.want)
		}
	}
	if Join() != (Vec{}) {
		t.Errorf("Join() = %v", Join())
	}
}

func TestJoinChangesNothing(t *testing.T) {
	l := []Vec{of(0, 1), of(1, 2), of(2, 3)}
	Join(l...)
	if !slices.Equal(l, []Vec{of(0, 1), of(1, 2), of(2, 3)}) {
		t.Errorf("it became %v", l)
	}
}

func TestMeet(t *testing.T) {
	for _, x := range []struct{ a, b, want Vec }{
		{Vec{}, all(5), Vec{}},
		{of(0, 3, 2, 1), of(0, 1, 5, 2), of(0, 1)},
		{all(3), of(0, 1, 1, 5, 63, 3), of(0, 1, 1, 3, 63, 3)},
		{all(1 << 32), all(1 << 32), all(1 << 32)},
		{of(0, -3), of(0, 2, 1, -1), of(0, -3, 1, -1)},
	} {
		if got := Meet(x.a, x.b); got != x.want {
			t.Errorf("Meet(%v, %v) = %v, not %v", x.a, x.b, got, x.want)
		}
		if got := Meet(x.b, x.a); got != x.want {
			t.Errorf("Meet(%v, %v) = %v, not %v", x.b, x.a, got, x.want)
		}
	}
}

func TestOrderByExample(t *testing.T) {
	for _, x := range []struct {
		a, b Vec
		want int
	}{
		{of(0, 3, 2, 1), of(0, 1, 5, 2), Apart},
		{of(0, 3), of(0, 3), Same},
		{Vec{}, Vec{}, Same},
		{of(0, 3), Vec{}, More},
		{Vec{}, of(63, 1), Less},
		{of(0, 3, 1, 1), of(0, 3), More},
		{of(0, 3, 1, 1), of(0, 4, 1, 1), Less},
		{of(0, 4, 63, 1), of(0, 3, 63, 2), Apart},
		{of(0, -1), Vec{}, Less},
		{of(0, -1), of(1, -1), Apart},
	} {
		if got := Order(x.a, x.b); got != x.want {
			t.Errorf("Order(%v, %v) = %d, not %d", x.a, x.b, got, x.want)
		}
		back := x.want
		if back != Apart {
			back = -back
		}
		if got := Order(x.b, x.a); got != back {
			t.Errorf("Order(%v, %v) = %d, not %d", x.b, x.a, got, back)
		}
	}
	if Less != -1 || Same != 0 || More != 1 || Apart != 2 {
		t.Error("how two vectors stand is told by other numbers")
	}
}

func TestCoversAndOrder(t *testing.T) {
	for _, a := range some() {
		for _, b := range some() {
			above, below := false, false
			for rep := range a {
				above = above || a[rep] > b[rep]
				below = below || a[rep] < b[rep]
			}
			if Covers(a, b) != !below {
				t.Errorf("Covers(%v, %v) = %v", a, b, Covers(a, b))
			}
			want := Same
			switch {
			case above && below:
				want = Apart
			case above:
				want = More
			case below:
				want = Less
			}
			if got := Order(a, b); got != want {
				t.Errorf("Order(%v, %v) = %d, not %d", a, b, got, want)
			}
		}
	}
}

// P4.3

func TestLacks(t *testing.T) {
	for _, x := range []struct {
		a, b Vec
		want []Range
	}{
		{Vec{}, Vec{}, nil},
		{of(0, 3), of(0, 3), nil},
		{of(0, 3), of(0, 2), nil},
		{of(0, 3, 2, 1), of(0, 1, 5, 2), []Range{{5, 1, 2}}},
		{of(0, 1, 5, 2), of(0, 3, 2, 1), []Range{{0, 2, 3}, {2, 1, 1}}},
		{Vec{}, of(0, 1<<32, 63, 1), []Range{{0, 1, 1 << 32}, {63, 1, 1}}},
		{of(7, 1<<32-1), of(7, 1<<32), []Range{{7, 1 << 32, 1 << 32}}},
	} {
		if got := Lacks(x.a, x.b); !slices.Equal(got, x.want) {
			t.Errorf("Lacks(%v, %v) = %v, not %v", x.a, x.b, got, x.want)
		}
	}
	l := Lacks(Vec{}, all(2))
	for rep := range 64 {
		if len(l) != 64 || l[rep] != (Range{rep, 1, 2}) {
			t.Fatalf("Lacks of all: %v", l)
		}
	}
}

func TestCount(t *testing.T) {
	for _, x := range []struct {
		l    []Range
		want int
	}{
		{nil, 0},
		{[]Range{{0, 1, 1}}, 1},
		{[]Range{{0, 1, 5}, {3, 2, 3}}, 7},
		{[]Range{{0, 2, 1}}, 0},
		{[]Range{{0, 5, 1}, {1, 1, 3}, {2, 1 << 32, 0}}, 3},
		{[]Range{{0, 0, 0}}, 1},
		{[]Range{{0, 0, 1 << 32}}, 1<<32 + 1},
		{[]Range{{0, 1, 1 << 32}, {63, 1, 1 << 32}}, 1 << 33},
		{[]Range{{0, 1, 5}, {0, 1, 5}}, 10},
	} {
		if got := Count(x.l); got != x.want {
			t.Errorf("Count(%v) = %d, not %d", x.l, got, x.want)
		}
	}
}

// P4.4

func TestTextByExample(t *testing.T) {
	for _, x := range []struct {
		v    Vec
		want string
	}{
		{Vec{}, ""},
		{of(0, 3), "0:3"},
		{of(0, 3, 2, 1), "0:3 2:1"},
		{of(63, 1<<32, 10, 100), "10:100 63:4294967296"},
		{of(0, -1, 1, 1), "1:1"},
		{all(-1), ""},
	} {
		if got := Text(x.v); got != x.want {
			t.Errorf("Text(%v) = %q, not %q", x.v, got, x.want)
		}
	}
}

func TestParseOfText(t *testing.T) {
	for _, v := range some() {
		if got, e := Parse(Text(v)); got != v || e != api.OK {
			t.Errorf("%v is told as %q, and that is %v, %d", v, Text(v), got, e)
		}
	}
	full := make([]string, 64)
	for rep := range full {
		full[rep] = strconv.Itoa(rep) + ":4294967296"
	}
	if got, e := Parse(strings.Join(full, " ")); got != all(1<<32) || e != api.OK {
		t.Errorf("Parse(%q) = %v, %d", full, got, e)
	}
}

func TestParseOfWhatIsNone(t *testing.T) {
	for _, s := range []string{
		" ", "0", ":", "0:", ":1", "0:0", "0:1 ", " 0:1", "0:1  1:1", "1:1 0:1", "0:1 0:1", "0:1 0:2", "0:1 1:0", "1:1 1:1", "64:1", "63:1 64:1", "100:1", "-1:1", "0:-1", "+0:1", "0:+1",
		"00:1", "01:1", "0:01", "0:4294967297", "0:999999999999999999", "0:9999999999999999999", "9999999999999999999:1", "0:1:1", "0::1", "0:1,1:1", "0:1\t1:1", "0:1\n", "0:1 x", "x", "a:1", "0:a",
		"0: 1", "0 :1", "0:1 1", "0:1 1:", "0:3 5:2 2:1", "0:1\x00", "\xff",
	} {
		if got, e := Parse(s); got != (Vec{}) || e != api.ErrForm {
			t.Errorf("Parse(%q) = %v, %d", s, got, e)
		}
	}
}

func TestParseIsThatOfWhichATextIsText(t *testing.T) {
	told := map[string]Vec{"": {}}
	digits := []int{0, 1, 2, 10, 11, 12, 20, 21, 22}
	for _, a := range digits {
		for _, m := range digits {
			told[Text(of(a, m))] = of(a, m)
			for _, b := range digits {
				for _, n := range digits {
					if a < b {
						told[Text(of(a, m, b, n))] = of(a, m, b, n)
					}
				}
			}
		}
	}
	for _, s := range texts(7, "012: ") {
		// One replica in more than four bytes has a number of three digits, which the table does not have.
		if len(s) > 4 && strings.Count(s, ":") < 2 {
			continue
		}
		want, is := told[s]
		got, e := Parse(s)
		if got != want || (e == api.OK) != is || !is && e != api.ErrForm {
			t.Errorf("Parse(%q) = %v, %d", s, got, e)
		}
	}
}

// texts tells all texts of up to so many of the bytes.
func texts(most int, bytes string) []string {
	l := []string{""}
	for from := 0; most > 0; most-- {
		to := len(l)
		for _, s := range l[from:to] {
			for i := range len(bytes) {
				l = append(l, s+bytes[i:i+1])
			}
		}
		from = to
	}
	return l
}

// P4.5

func TestJoinIsTheLeastThatCovers(t *testing.T) {
	l := append(small(2), of(0, 1<<32), all(1))
	for _, a := range l {
		for _, b := range l {
			j := Join(a, b)
			if !j.Right() || !Covers(j, a) || !Covers(j, b) {
				t.Errorf("Join(%v, %v) = %v", a, b, j)
			}
			for _, c := range l {
				if Covers(c, a) && Covers(c, b) && !Covers(c, j) {
					t.Errorf("Join(%v, %v) = %v, but %v covers both", a, b, j, c)
				}
			}
			for rep := range j {
				if less := j.With(rep, j[rep]-1); Covers(less, a) && Covers(less, b) {
					t.Errorf("Join(%v, %v) = %v, but %v covers both", a, b, j, less)
				}
			}
		}
	}
	if j := Join(l...); j != Join(of(0, 1<<32), all(1), of(1, 2, 63, 2)) {
		t.Errorf("Join of all = %v", j)
	}
}

func TestWhoGetsWhatIsLackedKnowsAsMuchAsBoth(t *testing.T) {
	for _, a := range some() {
		for _, b := range some() {
			got, last := a, -1
			for _, r := range Lacks(a, b) {
				if r.Rep <= last || r.From != got[r.Rep]+1 || r.To < r.From {
					t.Errorf("Lacks(%v, %v) = %v", a, b, Lacks(a, b))
				}
				got[r.Rep], last = r.To, r.Rep
			}
			if got != Join(a, b) {
				t.Errorf("%v, with what it lacks of %v, is %v", a, b, got)
			}
			if n := Count(Lacks(a, b)); n != got.Sum()-a.Sum() {
				t.Errorf("Count of what %v lacks of %v = %d", a, b, n)
			}
		}
	}
}
