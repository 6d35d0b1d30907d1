package stable

import (
	"math"
	"testing"

	"banyan/api"
	"banyan/vec"
)

// made tells a watch of one of so many.
func made(t *testing.T, self, reps int) *Stable {
	t.Helper()
	s, e := New(self, reps)
	if s == nil || e != api.OK {
		t.Fatalf("New(%d, %d) = %d", self, reps, e)
	}
	return s
}

// knows tells a vector of replicas and numbers.
func knows(l ...int) vec.Vec {
	var v vec.Vec
	for i := 0; i < len(l); i += 2 {
		v[l[i]] = l[i+1]
	}
	return v
}

// has asks what a watch has of a member.
func has(t *testing.T, s *Stable, rep int, known vec.Vec, time int) {
	t.Helper()
	if s.Knows(rep) != known || s.Time(rep) != time {
		t.Errorf("%d knows %q, at %d, not %q, at %d", rep, vec.Text(s.Knows(rep)), s.Time(rep), vec.Text(known), time)
	}
}

// least asks what a watch has of all members.
func least(t *testing.T, s *Stable, floor int, meet vec.Vec) {
	t.Helper()
	cut := api.Stamp{Time: floor, Rep: 63}
	if floor == 0 {
		cut = api.Stamp{}
	}
	if s.Floor() != floor || s.Cut() != cut || s.Meet() != meet {
		t.Errorf("Floor %d, Cut %v, Meet %q, not %d, %v, %q", s.Floor(), s.Cut(), vec.Text(s.Meet()), floor, cut, vec.Text(meet))
	}
}

// wrongs tells vectors and times that are refused.
func wrongs() ([]vec.Vec, []int) {
	return []vec.Vec{knows(0, -1), knows(63, -1), knows(5, api.MaxSeq+1), knows(1, 9, 2, math.MinInt)}, []int{-1, api.MaxTime + 1, math.MinInt, math.MaxInt}
}

// P29.1

func TestNew(t *testing.T) {
	for _, x := range [][2]int{{0, 1}, {0, 2}, {1, 2}, {63, 64}, {5, 6}} {
		s := made(t, x[0], x[1])
		for rep := range 64 {
			has(t, s, rep, vec.Vec{}, 0)
		}
		least(t, s, 0, vec.Vec{})
	}
	for _, x := range [][2]int{{0, 0}, {0, -1}, {0, 65}, {64, 65}, {-1, 1}, {1, 1}, {2, 2}, {64, 64}, {math.MinInt, 5}, {math.MaxInt, 5}, {3, math.MaxInt}, {3, math.MinInt}} {
		if s, e := New(x[0], x[1]); s != nil || e != api.ErrArg {
			t.Errorf("New(%d, %d) = %v, %d", x[0], x[1], s, e)
		}
	}
}

func TestOfWhoIsNoMemberThereIsNothing(t *testing.T) {
	s := made(t, 0, 2)
	s.Mine(knows(0, 5), 5)
	s.Heard(1, knows(0, 5), 5)
	for _, rep := range []int{-1, 2, 63, 64, math.MinInt, math.MaxInt} {
		has(t, s, rep, vec.Vec{}, 0)
		if s.Heard(rep, knows(0, 9), 9) {
			t.Errorf("%d was heard", rep)
		}
	}
	has(t, s, 0, knows(0, 5), 5)
	has(t, s, 1, knows(0, 5), 5)
}

func TestAWatchThatNewDidNotMake(t *testing.T) {
	for _, s := range []*Stable{nil, {}} {
		for range 2 {
			if s.Mine(knows(0, 1), 1) || s.Heard(1, knows(0, 1), 1) || s.Heard(0, vec.Vec{}, 1) {
				t.Error("it took something in")
			}
			has(t, s, 0, vec.Vec{}, 0)
			least(t, s, 0, vec.Vec{})
		}
	}
}

// P29.2

func TestMine(t *testing.T) {
	s := made(t, 1, 3)
	if !s.Mine(knows(0, 5, 1, 2), 7) {
		t.Error("Mine")
	}
	has(t, s, 1, knows(0, 5, 1, 2), 7)
	if !s.Mine(knows(0, 3, 1, 4, 63, 1), 6) {
		t.Error("Mine")
	}
	has(t, s, 1, knows(0, 5, 1, 4, 63, 1), 7)
	if !s.Mine(vec.Vec{}, 9) || !s.Mine(knows(5, api.MaxSeq), api.MaxTime) || !s.Mine(vec.Vec{}, 0) {
		t.Error("Mine")
	}
	has(t, s, 1, knows(0, 5, 1, 4, 5, api.MaxSeq, 63, 1), api.MaxTime)
	has(t, s, 0, vec.Vec{}, 0)
	has(t, s, 2, vec.Vec{}, 0)
}

func TestWhatIsRefusedChangesNothing(t *testing.T) {
	s := made(t, 0, 2)
	s.Mine(knows(0, 1), 3)
	s.Heard(1, knows(0, 1), 2)
	vectors, times := wrongs()
	for _, v := range vectors {
		if s.Mine(v, 9) || s.Heard(1, v, 9) {
			t.Errorf("%v was taken in", v)
		}
	}
	for _, time := range times {
		if s.Mine(knows(0, 9), time) || s.Heard(1, knows(0, 9), time) {
			t.Errorf("the time %d was taken in", time)
		}
	}
	if s.Heard(0, knows(0, 9), 9) {
		t.Error("it heard itself")
	}
	has(t, s, 0, knows(0, 1), 3)
	has(t, s, 1, knows(0, 1), 2)
}

func TestHeard(t *testing.T) {
	s := made(t, 0, 3)
	if !s.Heard(1, knows(1, 1), 9) {
		t.Error("Heard")
	}
	has(t, s, 1, knows(1, 1), 0)
	s.Mine(knows(0, 9, 1, 4), 20)
	if !s.Heard(1, knows(0, 3, 1, 4, 2, 8), 11) {
		t.Error("Heard")
	}
	has(t, s, 1, knows(0, 3, 1, 4, 2, 8), 11)
	// It lacks the fifth op of 1, whose time may be before that.
	if !s.Heard(1, knows(0, 5, 1, 5), 15) {
		t.Error("Heard")
	}
	has(t, s, 1, knows(0, 5, 1, 5, 2, 8), 11)
	// What is known of others doesn't matter.
	if !s.Heard(2, knows(0, 99, 1, 99), 30) {
		t.Error("Heard")
	}
	has(t, s, 2, knows(0, 99, 1, 99), 30)
	s.Mine(knows(1, 5), 1)
	if !s.Heard(1, knows(1, 5), 15) {
		t.Error("Heard")
	}
	has(t, s, 1, knows(0, 5, 1, 5, 2, 8), 15)
	// An older one is taken in as far as it knows more.
	if !s.Heard(1, knows(1, 2, 3, 1), 12) {
		t.Error("Heard")
	}
	has(t, s, 1, knows(0, 5, 1, 5, 2, 8, 3, 1), 15)
	has(t, s, 0, knows(0, 9, 1, 5), 20)
}

// P29.3

func TestFloorCutMeet(t *testing.T) {
	s := made(t, 2, 3)
	s.Mine(knows(0, 5, 1, 5, 2, 5), 9)
	least(t, s, 0, vec.Vec{})
	s.Heard(0, knows(0, 4, 1, 2, 7, 3), 6)
	least(t, s, 0, vec.Vec{})
	s.Heard(1, knows(0, 1, 1, 3, 7, 4), 8)
	least(t, s, 6, knows(0, 1, 1, 2))
	s.Heard(0, knows(0, 5, 1, 5, 2, 5), 12)
	least(t, s, 8, knows(0, 1, 1, 3))
	s.Heard(1, knows(0, 5, 1, 5, 2, 5), 12)
	s.Mine(knows(7, 2), 9)
	least(t, s, 9, knows(0, 5, 1, 5, 2, 5, 7, 2))
	one := made(t, 0, 1)
	one.Mine(knows(0, 3), api.MaxTime)
	least(t, one, api.MaxTime, knows(0, 3))
}

func TestByExample(t *testing.T) {
	s := made(t, 0, 2)
	s.Mine(vec.Vec{}, 5)
	s.Heard(1, vec.Vec{}, 3)
	least(t, s, 3, vec.Vec{})
}

// P29.4

func TestFloorAndMeetNeverFall(t *testing.T) {
	rose := 0
	for seed := range 60 {
		s, n := made(t, 1, 4), seed
		floor, meet := 0, vec.Vec{}
		for range 400 {
			n = (n*75 + 74) % 65537
			v := knows(0, n%7, 1, n/7%7, 2, n/49%7, 3, n/343%7)
			if n%3 == 0 {
				s.Mine(v, n%50)
			} else {
				s.Heard(n%5-1, v, n%40)
			}
			if s.Floor() < floor || !vec.Covers(s.Meet(), meet) {
				t.Fatalf("from %d, %q to %d, %q", floor, vec.Text(meet), s.Floor(), vec.Text(s.Meet()))
			}
			if s.Floor() > floor {
				rose++
			}
			floor, meet = s.Floor(), s.Meet()
			reached := false
			for rep := range 4 {
				if !vec.Covers(s.Knows(rep), meet) || s.Time(rep) < floor {
					t.Fatalf("%d knows %q, at %d", rep, vec.Text(s.Knows(rep)), s.Time(rep))
				}
				reached = reached || s.Time(rep) == floor
			}
			if !reached {
				t.Fatalf("no member is at %d", floor)
			}
		}
	}
	if rose < 60 {
		t.Errorf("it rose %d times alone", rose)
	}
}
