package stamp

import (
	"math"
	"slices"
	"strconv"
	"testing"

	"banyan/api"
)

func at(time, rep int) api.Stamp { return api.Stamp{Time: time, Rep: rep} }

var edgeTimes = []int{math.MinInt, -1, 0, 1, 2, 9, 10, 1<<48 - 1, 1 << 48, 1<<48 + 1, math.MaxInt}

var edgeReps = []int{math.MinInt, -1, 0, 1, 2, 3, 9, 10, 62, 63, 64, math.MaxInt}

// some tells stamps at all edges, right ones and wrong ones.
func some() []api.Stamp {
	var l []api.Stamp
	for _, time := range edgeTimes {
		for _, rep := range edgeReps {
			l = append(l, at(time, rep))
		}
	}
	return l
}

// P3.1

func TestTheThree(t *testing.T) {
	if Root() != at(0, 0) || Trash() != at(0, 1) || Lost() != at(0, 2) {
		t.Errorf("Root %v, Trash %v, Lost %v", Root(), Trash(), Lost())
	}
}

func TestReservedByExample(t *testing.T) {
	for s, want := range map[api.Stamp]bool{
		at(0, 0): true, at(0, 1): true, at(0, 2): true,
		at(0, 3): false, at(0, 63): false, at(0, -1): false, at(1, 0): false, at(1, 1): false, at(1, 2): false, at(-1, 0): false,
	} {
		if Reserved(s) != want {
			t.Errorf("Reserved(%v) = %v", s, !want)
		}
	}
}

func TestRightByExample(t *testing.T) {
	for s, want := range map[api.Stamp]bool{
		at(1, 0): true, at(1, 63): true, at(1<<48, 0): true, at(1<<48, 63): true, at(77, 5): true,
		at(0, 0): false, at(0, 1): false, at(0, 2): false, at(0, 63): false, at(-1, 0): false, at(1<<48+1, 0): false,
		at(1, -1): false, at(1, 64): false, at(1<<48, 64): false, at(math.MaxInt, 0): false, at(1, math.MinInt): false,
	} {
		if Right(s) != want {
			t.Errorf("Right(%v) = %v", s, !want)
		}
	}
}

func TestReservedAndRight(t *testing.T) {
	for _, s := range some() {
		if want := s.Time == 0 && (s.Rep == 0 || s.Rep == 1 || s.Rep == 2); Reserved(s) != want {
			t.Errorf("Reserved(%v) = %v", s, !want)
		}
		if want := s.Time > 0 && s.Time < 1<<48+1 && s.Rep > -1 && s.Rep < 64; Right(s) != want {
			t.Errorf("Right(%v) = %v", s, !want)
		}
	}
}

// P3.2

func TestCompareByExample(t *testing.T) {
	for _, x := range []struct {
		a, b api.Stamp
		want int
	}{
		{at(5, 1), at(5, 1), 0},
		{at(5, 1), at(5, 2), -1},
		{at(5, 2), at(5, 1), 1},
		{at(4, 9), at(5, 1), -1},
		{at(6, 0), at(5, 63), 1},
		{at(0, 0), at(0, 1), -1},
		{at(0, 2), at(1, 0), -1},
		{at(math.MinInt, 0), at(math.MaxInt, 0), -1},
		{at(math.MaxInt, 0), at(math.MinInt, 0), 1},
		{at(1, math.MinInt), at(1, math.MaxInt), -1},
		{at(1, math.MaxInt), at(1, math.MinInt), 1},
	} {
		if got := Compare(x.a, x.b); got != x.want {
			t.Errorf("Compare(%v, %v) = %d, not %d", x.a, x.b, got, x.want)
		}
	}
}

func TestCompareIsThePlaceInTheOrder(t *testing.T) {
	l := some() // by times, then by replicas
	for i, a := range l {
		for j, b := range l {
			want := 0
			if i < j {
				want = -1
			} else if i > j {
				want = 1
			}
			if got := Compare(a, b); got != want {
				t.Errorf("Compare(%v, %v) = %d, not %d", a, b, got, want)
			}
		}
	}
}

func TestText(t *testing.T) {
	for s, want := range map[api.Stamp]string{
		at(0, 0): "0.0", at(0, 1): "0.1", at(8, 3): "8.3", at(100, 63): "100.63", at(1<<48, 10): "281474976710656.10",
		at(-1, -1): "0.0", at(-5, 4): "0.4", at(4, -5): "4.0",
	} {
		if got := Text(s); got != want {
			t.Errorf("Text(%v) = %q, not %q", s, got, want)
		}
	}
}

func TestParseByExample(t *testing.T) {
	for s, want := range map[string]api.Stamp{
		"0.0": at(0, 0), "0.1": at(0, 1), "0.2": at(0, 2), "1.0": at(1, 0), "8.3": at(8, 3), "1.63": at(1, 63), "281474976710656.63": at(1<<48, 63),
	} {
		if got, e := Parse(s); got != want || e != api.OK {
			t.Errorf("Parse(%q) = %v, %d, not %v", s, got, e, want)
		}
	}
	for _, s := range []string{
		"", ".", "1", "1.", ".1", "1.2.3", "1..2", "0.3", "0.63", "1.64", "1.100", "281474976710657.0", "999999999999999999.0", "9999999999999999999.0", "1.9999999999999999999",
		"01.0", "1.00", "1.01", "00.0", "-1.0", "1.-1", "+1.0", "1.+0", " 1.0", "1.0 ", "1. 0", "1,0", "1:0", "a.0", "1.a", "1.0\n", "1.0\x00", "0.", "1e1.0", "1\xff.0",
	} {
		if got, e := Parse(s); got != at(0, 0) || e != api.ErrForm {
			t.Errorf("Parse(%q) = %v, %d", s, got, e)
		}
	}
}

func TestParseIsThatOfWhichATextIsText(t *testing.T) {
	for _, s := range some() {
		got, e := Parse(Text(s))
		// Below 0 two stamps have one text, so it may be another stamp's.
		told := s
		told.Time, told.Rep = max(s.Time, 0), max(s.Rep, 0)
		if !Right(told) && !Reserved(told) {
			if got != at(0, 0) || e != api.ErrForm {
				t.Errorf("Parse(%q) = %v, %d", Text(s), got, e)
			}
		} else if got != told || e != api.OK {
			t.Errorf("Parse(%q) = %v, %d", Text(s), got, e)
		}
	}
	of := map[string]api.Stamp{}
	for time := range 100 {
		for rep := range 64 {
			if time > 0 || rep < 3 {
				of[strconv.Itoa(time)+"."+strconv.Itoa(rep)] = at(time, rep)
			}
		}
	}
	// Within four bytes no time has more than two digits, so the table has all that there are.
	for _, s := range texts(4, "0126.-a ") {
		want, is := of[s]
		got, e := Parse(s)
		if got != want || (e == api.OK) != is || !is && e != api.ErrForm {
			t.Errorf("Parse(%q) = %v, %d", s, got, e)
		}
	}
}

// texts tells all texts of up to so many of the bytes.
func texts(most int, bytes string) []string {
	l := []string{""}
	for from := 0; most > 0; most-- {
		to := len(l)
		for _, s := range l[from:to] {
			for i := range len(bytes) {
				l = append(l, s+bytes[i:i+1])
			}
		}
		from = to
	}
	return l
}

// P3.3

// rising tells the list of those stamps of six whose bits are set.
func rising(bits int) []api.Stamp {
	var l []api.Stamp
	for i, s := range six() {
		if bits>>i&1 == 1 {
			l = append(l, s)
		}
	}
	return l
}

func six() []api.Stamp {
	return []api.Stamp{at(0, 0), at(0, 1), at(1, 0), at(1, 63), at(2, 5), at(1<<48, 0)}
}

func same(a, b []api.Stamp) bool { return slices.Equal(a, b) }

func TestHasPutDrop(t *testing.T) {
	for bits := range 64 {
		for i, s := range six() {
			l := rising(bits)
			if got, want := Has(l, s), bits>>i&1 == 1; got != want {
				t.Errorf("Has(%v, %v) = %v", l, s, got)
			}
			if got := Put(l, s); !same(got, rising(bits|1<<i)) {
				t.Errorf("Put(%v, %v) = %v", l, s, got)
			}
			if got := Drop(l, s); !same(got, rising(bits&^(1<<i))) {
				t.Errorf("Drop(%v, %v) = %v", l, s, got)
			}
			if !same(l, rising(bits)) {
				t.Errorf("%v became %v", rising(bits), l)
			}
		}
	}
}

func TestHasPutDropOfNoList(t *testing.T) {
	s := at(3, 3)
	if Has(nil, s) || Has([]api.Stamp{}, s) {
		t.Error("nothing has a stamp")
	}
	if got := Put(nil, s); !same(got, []api.Stamp{s}) {
		t.Errorf("Put(nil, %v) = %v", s, got)
	}
	if got := Drop(nil, s); len(got) != 0 {
		t.Errorf("Drop(nil, %v) = %v", s, got)
	}
	if got := Drop([]api.Stamp{s}, s); len(got) != 0 {
		t.Errorf("Drop of the one there is: %v", got)
	}
	if Has([]api.Stamp{s}, at(3, 2)) || Has([]api.Stamp{s}, at(3, 4)) || Has([]api.Stamp{s}, at(2, 3)) || Has([]api.Stamp{s}, at(4, 3)) {
		t.Error("a stamp has both, a time and a replica")
	}
}

func TestPutDropShareNoMemory(t *testing.T) {
	for bits := range 64 {
		for _, s := range six() {
			// Room behind the list, so that writing behind it would be seen.
			room := make([]api.Stamp, 10)
			for i := range room {
				room[i] = at(99, 9)
			}
			l := room[:copy(room, rising(bits))]
			was := slices.Clone(room)
			for _, got := range [][]api.Stamp{Put(l, s), Drop(l, s)} {
				got = got[:cap(got)]
				for i := range got {
					got[i] = at(77, 7)
				}
			}
			if !same(room, was) {
				t.Errorf("%v, with room behind it, and %v: %v became %v", rising(bits), s, was, room)
			}
		}
	}
}

func TestPutInAnyOrderRises(t *testing.T) {
	var l []api.Stamp
	n := 1
	for range 500 {
		n = n * 75 % 65537
		l = Put(l, at(n%23, n%7))
		for i := 1; i < len(l); i++ {
			if Compare(l[i-1], l[i]) >= 0 {
				t.Fatalf("%v does not rise", l)
			}
		}
	}
}

// P3.4

func TestNew(t *testing.T) {
	for _, rep := range edgeReps {
		c, e := New(rep)
		if rep < 0 || rep > 63 {
			if c != nil || e != api.ErrArg {
				t.Errorf("New(%d) = %v, %d", rep, c, e)
			}
			continue
		}
		if c == nil || e != api.OK || c.Now() != 0 {
			t.Fatalf("New(%d) = %v, %d", rep, c, e)
		}
		if s, e := c.Tick(); s != at(1, rep) || e != api.OK || c.Now() != 1 {
			t.Errorf("the first tick of %d: %v, %d, and it is at %d", rep, s, e, c.Now())
		}
	}
}

func clock(t *testing.T, rep int) *Clock {
	t.Helper()
	c, e := New(rep)
	if c == nil || e != api.OK {
		t.Fatalf("New(%d) = %v, %d", rep, c, e)
	}
	return c
}

func TestSeeAndTickByExample(t *testing.T) {
	c := clock(t, 3)
	for _, x := range []struct {
		see  int
		ok   bool
		now  int
		tick int
	}{
		{7, true, 7, 8},
		{8, false, 8, 9},
		{10, true, 10, 11},
		{3, false, 11, 12},
		{0, false, 12, 13},
		{-1, false, 13, 14},
		{math.MinInt, false, 14, 15},
		{1<<48 + 1, false, 15, 16},
		{math.MaxInt, false, 16, 17},
		{1<<48 - 1, true, 1<<48 - 1, 1 << 48},
	} {
		if ok := c.See(x.see); ok != x.ok || c.Now() != x.now {
			t.Errorf("See(%d) = %v, and it is at %d", x.see, ok, c.Now())
		}
		if s, e := c.Tick(); s != at(x.tick, 3) || e != api.OK || c.Now() != x.tick {
			t.Errorf("behind See(%d) Tick() = %v, %d, and it is at %d", x.see, s, e, c.Now())
		}
	}
}

func TestAClockThatIsFull(t *testing.T) {
	c := clock(t, 63)
	if !c.See(1<<48) || c.Now() != 1<<48 {
		t.Errorf("a clock that saw the last time is at %d", c.Now())
	}
	for range 3 {
		if s, e := c.Tick(); s != at(0, 0) || e != api.ErrFull || c.Now() != 1<<48 {
			t.Errorf("Tick() = %v, %d, and it is at %d", s, e, c.Now())
		}
		if c.See(1<<48) || c.See(1<<48+1) || c.See(1) {
			t.Error("it saw what is not ahead of it")
		}
	}
}

func TestAClockThatNewDidNotMake(t *testing.T) {
	for _, c := range []*Clock{nil, {}, new(Clock)} {
		for range 2 {
			if c.See(1) || c.See(7) || c.See(1<<48) || c.Now() != 0 {
				t.Error("it saw a time")
			}
			if s, e := c.Tick(); s != at(0, 0) || e != api.ErrNil || c.Now() != 0 {
				t.Errorf("Tick() = %v, %d", s, e)
			}
		}
	}
}

func TestTwoClocksHaveNothingInCommon(t *testing.T) {
	a, b := clock(t, 1), clock(t, 1)
	a.See(5)
	if b.Now() != 0 {
		t.Errorf("one saw a time, the other one is at %d", b.Now())
	}
	b.Tick()
	if a.Now() != 5 || b.Now() != 1 {
		t.Errorf("they are at %d and at %d", a.Now(), b.Now())
	}
}

// P3.5

func TestTicksAreBehindAllThatWas(t *testing.T) {
	c := clock(t, 5)
	last, n := at(0, 5), 1
	for range 5000 {
		n = n * 75 % 65537
		if n%3 == 0 {
			s, e := c.Tick()
			if e != api.OK || s.Rep != 5 || Compare(last, s) >= 0 || !Right(s) {
				t.Fatalf("%v, %d was ticked behind %v", s, e, last)
			}
			last = s
			continue
		}
		time := n - 100
		c.See(time)
		if last.Time < time {
			last.Time = time
		}
		if c.Now() != last.Time {
			t.Fatalf("it is at %d, not at %d", c.Now(), last.Time)
		}
	}
}
