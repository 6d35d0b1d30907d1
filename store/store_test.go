package store

import (
	"math"
	"slices"
	"testing"

	"banyan/api"
	"banyan/disk"
	"banyan/op"
	"banyan/record"
	"banyan/stamp"
	"banyan/state"
	"banyan/vec"
)

// one tells an op that makes a directory.
func one(n int) api.Op {
	at := api.Stamp{Time: n, Rep: 1}
	return api.Op{At: at, Seq: n, Node: at, Parent: stamp.Root(), Name: "n", Dir: true}
}

// list tells ops of the numbers from one to another one.
func list(from, to int) []api.Op {
	var l []api.Op
	for n := from; n <= to; n++ {
		l = append(l, one(n))
	}
	return l
}

// of tells a state of a time, which is told from others by that.
func of(time int) state.State {
	return state.State{Rep: 1, Time: time, Known: vec.Vec{}.With(1, 7), Base: vec.Vec{}.With(1, 7)}
}

func made(t *testing.T, room int) *disk.Disk {
	t.Helper()
	d, e := disk.New(room)
	told(t, e, api.OK)
	return d
}

func told(t *testing.T, e, want api.Errno) {
	t.Helper()
	if e != want {
		t.Errorf("%d is told, not %d", e, want)
	}
}

// with tells a disk with files of these bytes, all of them sure.
func with(t *testing.T, files ...string) *disk.Disk {
	t.Helper()
	d := made(t, 1<<20)
	for i := 0; i < len(files); i += 2 {
		told(t, d.Create(files[i]), api.OK)
		told(t, d.Append(files[i], []byte(files[i+1])), api.OK)
		told(t, d.Sync(files[i]), api.OK)
	}
	return d
}

// put tells a record of ops, as text.
func put(l []api.Op) string {
	b, _ := record.Put(op.Code(l))
	return string(b)
}

// code tells a state, as text.
func code(s state.State) string { return string(state.Code(s)) }

// opened tells a store, and what it found.
func opened(t *testing.T, d *disk.Disk, most int) (*Store, Found) {
	t.Helper()
	s, f, e := Open(d, most)
	if s == nil || e != api.OK {
		t.Fatalf("it is not opened: %d", e)
	}
	return s, f
}

// refused asks whether nothing is opened, by this error.
func refused(t *testing.T, d *disk.Disk, most int, want api.Errno) {
	t.Helper()
	if s, f, e := Open(d, most); s != nil || !same(f, Found{}) || f.Since != nil || e != want {
		t.Errorf("%v, %v, %d, not %d", s, f, e, want)
	}
}

// same asks whether what was found is the same.
func same(a, b Found) bool {
	return a.Has == b.Has && state.Same(a.Saved, b.Saved) && slices.EqualFunc(a.Since, b.Since, func(a, b []api.Op) bool { return slices.Equal(a, b) })
}

// finds asks whether just this is found on a disk.
func finds(t *testing.T, d *disk.Disk, want Found) *Store {
	t.Helper()
	s, f := opened(t, d, 100)
	if !same(f, want) {
		t.Errorf("%v is found, not %v", f, want)
	}
	return s
}

// files asks whether a disk has just these files.
func files(t *testing.T, d *disk.Disk, want ...string) {
	t.Helper()
	if got := d.Names(); !slices.Equal(got, want) {
		t.Errorf("the files are %q, not %q", got, want)
	}
}

// P26.1

func TestOpenOfNothing(t *testing.T) {
	if Prefix != "snap." || Draft != "draft" {
		t.Errorf("%q, %q", Prefix, Draft)
	}
	d := made(t, 50)
	s := finds(t, d, Found{})
	files(t, d, "log.1")
	if s.Number() != 0 || s.Free() != 50 {
		t.Errorf("Number %d, Free %d", s.Number(), s.Free())
	}
}

func TestOpenOfWhatCanNotBeOpened(t *testing.T) {
	refused(t, nil, 100, api.ErrNil)
	for _, most := range []int{15, 0, -1, math.MinInt, disk.MaxRoom + 1, math.MaxInt} {
		refused(t, made(t, 100), most, api.ErrArg)
		refused(t, with(t, "snap.1", code(of(1))), most, api.ErrArg)
		// What is no state is named ahead of all else.
		refused(t, with(t, "snap.1", "x"), most, api.ErrForm)
	}
	for _, l := range [][]string{nil, {"snap.1", code(of(1))}, {"snap.1", "x"}, {"draft", "x"}, {"log.1", ""}, {"log.1", "x"}, {"log.1", "", "log.3", ""}} {
		d := with(t, l...)
		was := d.Names()
		d.Arm(0)
		told(t, d.Create("x"), api.ErrDown)
		refused(t, d, 100, api.ErrDown)
		files(t, d, was...)
	}
}

func TestTheGreatestNumberCounts(t *testing.T) {
	d := with(t, "snap.9", code(of(9)), "snap.10", code(of(10)), "snap.2", "", "log.10", put(list(1, 2))+put(list(3, 3)))
	s := finds(t, d, Found{of(10), true, [][]api.Op{list(1, 2), list(3, 3)}})
	files(t, d, "log.10", "snap.10")
	if s.Number() != 10 {
		t.Errorf("Number() = %d", s.Number())
	}
	// Those that are merely like such a name do not matter.
	others := []string{"Snap.7", "drafts", "log.", "log.0", "log.01", "snap", "snap.", "snap.+3", "snap.-1", "snap.0", "snap.007", "snap.3x", "xsnap.8"}
	var l []string
	for _, s := range others {
		l = append(l, s, "x")
	}
	d = with(t, append(l, "snap.3", code(of(3)), "log.4", "")...)
	finds(t, d, Found{Saved: of(3), Has: true})
	want := append(others, "snap.3", "log.4")
	slices.Sort(want)
	files(t, d, want...)
}

func TestOpenOfWhatIsNoState(t *testing.T) {
	x := code(of(3))
	for _, b := range []string{"", "x", x[1:], x[:len(x)-1], x + "x"} {
		d := with(t, "snap.3", b, "snap.2", code(of(2)), "draft", "x", "log.1", "", "log.3", "")
		refused(t, d, 100, api.ErrForm)
		files(t, d, "draft", "log.1", "log.3", "snap.2", "snap.3")
	}
}

func TestWhatASaveThatWasBrokenOffLeftIsRemoved(t *testing.T) {
	d := with(t, "draft", "x", "snap.2", code(of(2)), "snap.4", code(of(4)), "log.2", put(list(1, 1)), "log.3", "x", "log.4", put(list(2, 2)), "log.5", put(list(3, 3)), "other", "x")
	finds(t, d, Found{of(4), true, [][]api.Op{list(2, 2), list(3, 3)}})
	files(t, d, "log.4", "log.5", "other", "snap.4")
	// Where no state counts no segment is ahead of it.
	d = with(t, "draft", "x", "log.2", put(list(1, 1)), "log.3", put(list(2, 2)))
	finds(t, d, Found{Since: [][]api.Op{list(1, 1), list(2, 2)}})
	files(t, d, "log.2", "log.3")
}

func TestASegmentIsCreatedWhereNoneIsLeft(t *testing.T) {
	for _, more := range [][]string{nil, {"log.1", "x", "log.6", ""}} {
		d := with(t, append(more, "snap.7", code(of(7)))...)
		s := finds(t, d, Found{Saved: of(7), Has: true})
		files(t, d, "log.7", "snap.7")
		told(t, s.Append(list(1, 1)), api.OK)
		finds(t, d, Found{of(7), true, [][]api.Op{list(1, 1)}})
	}
}

func TestOpenOfAJournalThatIsNotWhole(t *testing.T) {
	ok := put(list(1, 1))
	refused(t, with(t, "log.1", ok, "log.3", ok), 100, api.ErrForm)
	refused(t, with(t, "log.1", ok+"x", "log.2", ok), 100, api.ErrForm)
	refused(t, with(t, "snap.2", code(of(2)), "log.1", "x", "log.2", "x", "log.3", ok), 100, api.ErrForm)
	d := with(t, "log.1", ok, "log.2", ok+ok[:9])
	finds(t, d, Found{Since: [][]api.Op{list(1, 1), list(1, 1)}})
	if b, _ := d.Read("log.2"); string(b) != ok {
		t.Errorf("%q is left", b)
	}
}

func TestOpenOfRecordsThatAreNoOps(t *testing.T) {
	for _, b := range []string{"", "x", string(op.Code(list(1, 1))) + "x", string(op.Code(list(1, 65)))} {
		r, _ := record.Put([]byte(b))
		refused(t, with(t, "log.1", put(list(1, 1))+string(r)), 100, api.ErrForm)
	}
	// No ops are ops, by op.Parse.
	d := with(t, "log.1", put(nil)+put(list(1, 64)))
	finds(t, d, Found{Since: [][]api.Op{nil, list(1, 64)}})
}

// P26.2

func TestAppend(t *testing.T) {
	d := made(t, 10000)
	s := finds(t, d, Found{})
	bad := one(1)
	bad.Name = ""
	for _, l := range [][]api.Op{nil, {}, list(1, 65), {bad}, {one(1), bad}, append(list(1, 63), bad), {{}}} {
		told(t, s.Append(l), api.ErrArg)
	}
	if d.Used() != 0 {
		t.Errorf("%d bytes are used", d.Used())
	}
	var want [][]api.Op
	for _, l := range [][]api.Op{list(1, 1), list(2, 65), list(1, 1), {one(9), one(3)}} {
		was := slices.Clone(l)
		told(t, s.Append(l), api.OK)
		if !slices.Equal(l, was) {
			t.Errorf("%v was changed", was)
		}
		want = append(want, l)
		finds(t, d, Found{Since: want})
	}
	if s.Number() != 0 || s.Free() != 10000-d.Used() {
		t.Errorf("Number %d, Free %d", s.Number(), s.Free())
	}
}

func TestAppendWhereThereIsNoRoom(t *testing.T) {
	n := len(put(list(1, 1)))
	d := made(t, 2*n+1)
	s, _ := opened(t, d, 16)
	told(t, s.Append(list(1, 1)), api.OK)
	told(t, s.Append(list(2, 2)), api.OK)
	told(t, s.Append(list(3, 3)), api.ErrFull)
	told(t, s.Append(nil), api.ErrArg)
	files(t, d, "log.1", "log.2")
	finds(t, d, Found{Since: [][]api.Op{list(1, 1), list(2, 2)}})
	d.Arm(0)
	told(t, s.Append(list(3, 3)), api.ErrFull)
	told(t, d.Create("x"), api.ErrDown)
	told(t, s.Append(list(3, 3)), api.ErrDown)
	told(t, s.Append(nil), api.ErrArg)
}

// P26.3

func TestSave(t *testing.T) {
	d := made(t, 10000)
	s := finds(t, d, Found{})
	told(t, s.Append(list(1, 3)), api.OK)
	told(t, s.Save(of(1)), api.OK)
	files(t, d, "log.2", "snap.2")
	if b, _ := d.Read("snap.2"); string(b) != code(of(1)) || d.Sure("snap.2") != len(b) || s.Number() != 2 || s.Free() != 10000-len(b) {
		t.Errorf("the state is %q, Number %d, Free %d", b, s.Number(), s.Free())
	}
	finds(t, d, Found{Saved: of(1), Has: true})
	told(t, s.Append(list(4, 4)), api.OK)
	told(t, s.Append(list(5, 5)), api.OK)
	finds(t, d, Found{of(1), true, [][]api.Op{list(4, 4), list(5, 5)}})
	told(t, s.Save(of(2)), api.OK)
	files(t, d, "log.3", "snap.3")
	told(t, s.Save(of(3)), api.OK)
	files(t, d, "log.4", "snap.4")
	if s := finds(t, d, Found{Saved: of(3), Has: true}); s.Number() != 4 {
		t.Errorf("Number() = %d", s.Number())
	}
}

func TestSaveOfManySegments(t *testing.T) {
	d := made(t, 10000)
	s, _ := opened(t, d, 16)
	for n := range 5 {
		told(t, s.Append(list(n+1, n+1)), api.OK)
	}
	files(t, d, "log.1", "log.2", "log.3", "log.4", "log.5")
	told(t, s.Save(of(1)), api.OK)
	files(t, d, "log.6", "snap.6")
	told(t, s.Append(list(9, 9)), api.OK)
	finds(t, d, Found{of(1), true, [][]api.Op{list(9, 9)}})
}

func TestSaveOverADraftThatWasLeft(t *testing.T) {
	d := made(t, 1000)
	s := finds(t, d, Found{})
	told(t, d.Create("draft"), api.OK)
	told(t, d.Append("draft", []byte("left")), api.OK)
	told(t, s.Save(of(1)), api.OK)
	finds(t, d, Found{Saved: of(1), Has: true})
}

func TestSaveIsRefused(t *testing.T) {
	n := len(code(of(1)))
	d := made(t, 2*n-1)
	s := finds(t, d, Found{})
	wrong := of(1)
	wrong.Time = -1
	told(t, s.Save(wrong), api.ErrArg)
	files(t, d, "log.1")
	told(t, s.Save(of(1)), api.OK)
	was := d.Names()
	// There is never room for less than both, the old one and the new one.
	told(t, s.Save(of(2)), api.ErrFull)
	told(t, s.Save(wrong), api.ErrArg)
	files(t, d, was...)
	finds(t, d, Found{Saved: of(1), Has: true})
	if s.Number() != 2 {
		t.Errorf("Number() = %d", s.Number())
	}
	d.Arm(0)
	told(t, s.Save(of(2)), api.ErrFull)
	told(t, d.Create("x"), api.ErrDown)
	told(t, s.Save(of(2)), api.ErrDown)
	told(t, s.Save(wrong), api.ErrArg)
	d = made(t, 2*n)
	s = finds(t, d, Found{})
	told(t, s.Save(of(1)), api.OK)
	told(t, s.Save(of(2)), api.OK)
	finds(t, d, Found{Saved: of(2), Has: true})
}

// P26.4

func TestANilStore(t *testing.T) {
	var s *Store
	told(t, s.Append(list(1, 1)), api.ErrNil)
	told(t, s.Append(nil), api.ErrNil)
	told(t, s.Save(of(1)), api.ErrNil)
	told(t, s.Save(state.State{Rep: -1}), api.ErrNil)
	if s.Number() != 0 || s.Free() != 0 {
		t.Errorf("Number %d, Free %d", s.Number(), s.Free())
	}
}

func TestTheNumberIsThatOfTheFileThatCountsWhereverThePowerGoes(t *testing.T) {
	for steps := range 400 {
		d := made(t, 10000)
		s := finds(t, d, Found{})
		told(t, s.Save(of(1)), api.OK)
		d.Arm(steps)
		e := s.Save(of(2))
		want := 2
		if slices.Contains(d.Names(), "snap.3") {
			want = 3
		}
		if s.Number() != want {
			t.Errorf("behind %d steps Number() = %d", steps, s.Number())
		}
		if e == api.OK {
			return
		}
		told(t, e, api.ErrDown)
	}
	t.Error("the power always goes")
}

// P26.5

// play appends and saves till the power goes, and tells what may be found then: all but what was being written, or that, too.
func play(s *Store, do string) []Found {
	var now Found
	n := 0
	for _, c := range do {
		n++
		next := now
		var e api.Errno
		if c == 's' {
			next = Found{Saved: of(n), Has: true}
			e = s.Save(of(n))
		} else {
			l := list(n, n+int(c-'0'))
			next.Since = append(slices.Clone(now.Since), l)
			e = s.Append(l)
		}
		if e == api.ErrDown {
			return []Found{now, next}
		}
		if e == api.OK {
			now = next
		}
	}
	return []Found{now}
}

func TestWhereverThePowerGoes(t *testing.T) {
	scripts := []string{"12", "s", "1s", "3s1", "ss", "1s2s3", "11111s11s1", "44s4"}
	for _, do := range scripts {
		for _, keep := range [][]int{nil, {1, 1, 1, 1}, {7, 7, 7, 7}, {1000, 1000, 1000, 1000}} {
			for _, most := range []int{16, 90, 10000} {
				for steps, alive := 0, false; !alive; steps += 1 + steps/40 {
					d := made(t, 100000)
					s, _ := opened(t, d, most)
					d.Arm(steps)
					may := play(s, do)
					alive = !d.Down()
					d.Boot(keep)
					d.Arm(-1)
					s, f := opened(t, d, most)
					if !slices.ContainsFunc(may, func(x Found) bool { return same(f, x) }) {
						t.Fatalf("%s, behind %d steps: %v is found, not one of %v", do, steps, f, may)
					}
					told(t, s.Append(list(90, 91)), api.OK)
					f.Since = append(f.Since, list(90, 91))
					if _, again := opened(t, d, most); !same(again, f) {
						t.Fatalf("%s, behind %d steps: %v is found, not %v", do, steps, again, f)
					}
				}
			}
		}
	}
}

func TestThePowerGoesWhileItIsOpened(t *testing.T) {
	for steps := range 12 {
		d := with(t, "draft", "x", "snap.2", code(of(2)), "snap.4", code(of(4)), "log.2", put(list(1, 1)), "log.4", put(list(2, 2)), "log.5", put(list(3, 3))+"torn")
		d.Arm(steps)
		if _, _, e := Open(d, 100); steps < 4 {
			told(t, e, api.ErrDown)
		} else {
			told(t, e, api.OK)
		}
		d.Boot(nil)
		finds(t, d, Found{of(4), true, [][]api.Op{list(2, 2), list(3, 3)}})
		files(t, d, "log.4", "log.5", "snap.4")
	}
}

func TestTwoStoresHaveNothingInCommon(t *testing.T) {
	a, b := made(t, 1000), made(t, 1000)
	s, _ := opened(t, a, 100)
	opened(t, b, 100)
	told(t, s.Append(list(1, 1)), api.OK)
	told(t, s.Save(of(1)), api.OK)
	finds(t, b, Found{})
}
