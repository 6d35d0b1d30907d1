package journal

import (
	"bytes"
	"math"
	"slices"
	"strings"
	"testing"

	"banyan/api"
	"banyan/disk"
	"banyan/record"
)

func made(t *testing.T, room int) *disk.Disk {
	t.Helper()
	d, e := disk.New(room)
	hold(t, e, api.OK)
	return d
}

func hold(t *testing.T, e, want api.Errno) {
	t.Helper()
	if e != want {
		t.Errorf("%d is told, not %d", e, want)
	}
}

// with tells a disk with files of these bytes, all of them sure.
func with(t *testing.T, files ...string) *disk.Disk {
	t.Helper()
	d := made(t, 1<<20)
	for i := 0; i < len(files); i += 2 {
		hold(t, d.Create(files[i]), api.OK)
		hold(t, d.Append(files[i], []byte(files[i+1])), api.OK)
		hold(t, d.Sync(files[i]), api.OK)
	}
	return d
}

// put tells the records of some texts, one behind the other.
func put(texts ...string) string {
	s := ""
	for _, x := range texts {
		b, _ := record.Put([]byte(x))
		s += string(b)
	}
	return s
}

func texts(says [][]byte) []string {
	var l []string
	for _, b := range says {
		l = append(l, string(b))
	}
	return l
}

// opened tells a journal, and what its records say.
func opened(t *testing.T, d *disk.Disk, most int) (*Log, []string) {
	t.Helper()
	l, says, e := Open(d, most)
	if l == nil || e != api.OK {
		t.Fatalf("it is not opened: %d", e)
	}
	return l, texts(says)
}

// holdSays asks whether a journal, opened anew, says just this.
func holdSays(t *testing.T, d *disk.Disk, want ...string) {
	t.Helper()
	if _, says := opened(t, d, 100); !slices.Equal(says, want) {
		t.Errorf("%q is told, not %q", says, want)
	}
}

// holdAt asks whether a journal has the segments from first to last, and so many bytes in the last one.
func holdAt(t *testing.T, l *Log, first, last, size int) {
	t.Helper()
	if l.First() != first || l.Last() != last || l.Len() != size {
		t.Errorf("the segments are from %d to %d, of which the last one has %d bytes, not from %d to %d, and %d", l.First(), l.Last(), l.Len(), first, last, size)
	}
}

// holdFiles asks whether a disk has just these files, with these bytes, all of them sure.
func holdFiles(t *testing.T, d *disk.Disk, files ...string) {
	t.Helper()
	var names []string
	for i := 0; i < len(files); i += 2 {
		names = append(names, files[i])
		b, e := d.Read(files[i])
		if string(b) != files[i+1] || e != api.OK || d.Sure(files[i]) != len(b) {
			t.Errorf("%s has %q, %d, of which %d are sure, not %q", files[i], b, e, d.Sure(files[i]), files[i+1])
		}
	}
	slices.Sort(names)
	if !slices.Equal(d.Names(), names) {
		t.Errorf("the files are %q, not %q", d.Names(), names)
	}
}

// holdNone asks whether a disk's journal is not opened, by this error.
func holdNone(t *testing.T, d *disk.Disk, most int, want api.Errno) {
	t.Helper()
	if l, says, e := Open(d, most); l != nil || says != nil || e != want {
		t.Errorf("Open of most %d tells %v, %q, %d, not %d", most, l, says, e, want)
	}
}

// P12.1

func TestName(t *testing.T) {
	if Prefix != "log." || Least != 16 {
		t.Errorf("%q, %d", Prefix, Least)
	}
	for n, want := range map[int]string{1: "log.1", 2: "log.2", 10: "log.10", 0: "log.1", -1: "log.1", math.MinInt: "log.1", 1 << 60: "log.1152921504606846976"} {
		if Name(n) != want {
			t.Errorf("Name(%d) = %q, not %q", n, Name(n), want)
		}
	}
}

func TestOpenOfWrongArguments(t *testing.T) {
	down := made(t, 100)
	down.Arm(0)
	down.Create("x")
	for _, most := range []int{15, 0, -1, math.MinInt, disk.MaxRoom + 1, math.MaxInt} {
		for _, d := range []*disk.Disk{made(t, 100), nil, down} {
			holdNone(t, d, most, api.ErrArg)
		}
	}
	for _, most := range []int{16, 17, disk.MaxRoom} {
		holdNone(t, nil, most, api.ErrNil)
		holdNone(t, down, most, api.ErrDown)
		d := made(t, 0)
		l, says := opened(t, d, most)
		if len(says) != 0 {
			t.Errorf("%q is told of nothing", says)
		}
		holdAt(t, l, 1, 1, 0)
		holdFiles(t, d, "log.1", "")
	}
	if len(down.Names()) != 0 {
		t.Errorf("%q are there", down.Names())
	}
}

func TestThatThePowerIsGoneIsNamedFirst(t *testing.T) {
	for _, files := range [][]string{
		{"log.1", put("a")},
		{"log.1", "", "log.3", ""},
		{"log.1", "x", "log.2", ""},
	} {
		d := with(t, files...)
		d.Arm(0)
		hold(t, d.Create("x"), api.ErrDown)
		holdNone(t, d, 15, api.ErrArg)
		holdNone(t, d, 16, api.ErrDown)
		d.Boot(nil)
		holdFiles(t, d, files...)
	}
}

func TestOpenWhereNoSegmentCanBeCreated(t *testing.T) {
	d := made(t, 100)
	d.Arm(0)
	holdNone(t, d, 16, api.ErrDown)
	d.Boot(nil)
	opened(t, d, 16)
	holdFiles(t, d, "log.1", "")
}

func TestOtherFilesDoNotMatter(t *testing.T) {
	files := []string{}
	for _, name := range []string{"", "1", "2", "log", "log.", "log.0", "log.-1", "log.+1", "log.01", "log.x", "log.1x", "log.1 ", "log. 1", "log.1.2", "Log.1", "xlog.1", "log.log.1", "log,1", "log.99999999999999999999", "snap.3", "draft"} {
		files = append(files, name, "whatever stands here")
	}
	d := with(t, files...)
	l, says := opened(t, d, 100)
	if len(says) != 0 {
		t.Errorf("%q is told", says)
	}
	holdAt(t, l, 1, 1, 0)
	hold(t, l.Append([]byte("ab")), api.OK)
	hold(t, l.Roll(), api.OK)
	hold(t, l.Drop(9), api.OK)
	holdFiles(t, d, append(files, "log.2", "")...)
}

func TestOpenTellsAllRecordsInTurn(t *testing.T) {
	d := with(t, "log.10", put("f", "g"), "log.9", put("d", "", "e"), "log.8", put("a", "b", "c"), "log.11", put("h", "i"))
	l, says := opened(t, d, 16)
	if want := []string{"a", "b", "c", "d", "", "e", "f", "g", "h", "i"}; !slices.Equal(says, want) {
		t.Errorf("%q is told, not %q", says, want)
	}
	holdAt(t, l, 8, 11, 18)
	d = with(t, "log.7", "", "log.8", put("a"), "log.9", "", "log.10", "")
	l, says = opened(t, d, 16)
	if !slices.Equal(says, []string{"a"}) {
		t.Errorf("%q is told", says)
	}
	holdAt(t, l, 7, 10, 0)
	hold(t, l.Append([]byte("b")), api.OK)
	holdFiles(t, d, "log.7", "", "log.8", put("a"), "log.9", "", "log.10", put("b"))
}

func TestSegmentsOfManyDigits(t *testing.T) {
	d := with(t, "log.999999999999999999", put("a"), "log.1000000000000000000", put("b"))
	l, says := opened(t, d, 16)
	if !slices.Equal(says, []string{"a", "b"}) {
		t.Errorf("%q is told", says)
	}
	holdAt(t, l, 999999999999999999, 1000000000000000000, 9)
	hold(t, l.Roll(), api.OK)
	hold(t, l.Drop(1000000000000000001), api.OK)
	holdFiles(t, d, "log.1000000000000000001", "")
	d = with(t, "log.9223372036854775807", put("a"))
	l, says = opened(t, d, 16)
	if !slices.Equal(says, []string{"a"}) {
		t.Errorf("%q is told", says)
	}
	holdAt(t, l, math.MaxInt, math.MaxInt, 9)
}

func TestOpenOfNoJournal(t *testing.T) {
	a := put("a")
	for _, files := range [][]string{
		{"log.1", a, "log.3", a},
		{"log.2", a, "log.3", a, "log.5", ""},
		{"log.1", a, "log.1000000000000000000", a},
		{"log.1", "", "log.9223372036854775807", ""},
		{"log.1", a + "x", "log.2", a},
		{"log.1", a[:8], "log.2", a},
		{"log.1", a, "log.2", "x", "log.3", a},
		{"log.1", "x" + a, "log.2", ""},
		// Nothing is cut off of the last one, either.
		{"log.1", a + "x", "log.2", a + "x"},
		{"log.1", a, "log.3", a + "x"},
	} {
		d := with(t, files...)
		holdNone(t, d, 100, api.ErrForm)
		holdFiles(t, d, files...)
	}
}

func TestWhatStandsBehindTheWholeRecordsIsCutOff(t *testing.T) {
	ab := put("a", "b")
	for _, x := range []struct {
		last string
		want string
		says []string
	}{
		{ab + "x", ab, []string{"a", "b"}},
		{ab + "\x00\x00\x00\x00\x00\x00\x00\x00" + ab, ab, []string{"a", "b"}},
		{ab[:17], ab[:9], []string{"a"}},
		{ab[:10], ab[:9], []string{"a"}},
		{ab[:9], ab[:9], []string{"a"}},
		{ab[:8], "", nil},
		{"x" + ab, "", nil},
		{"", "", nil},
	} {
		d := with(t, "log.4", ab, "log.5", x.last)
		l, says := opened(t, d, 100)
		if want := append([]string{"a", "b"}, x.says...); !slices.Equal(says, want) {
			t.Errorf("%q is told, not %q", says, want)
		}
		holdAt(t, l, 4, 5, len(x.want))
		holdFiles(t, d, "log.4", ab, "log.5", x.want)
		hold(t, l.Append([]byte("c")), api.OK)
		holdFiles(t, d, "log.4", ab, "log.5", x.want+put("c"))
	}
}

func TestTheLastSegmentIsSyncedOnlyIfNotAllOfItIsSure(t *testing.T) {
	d := with(t, "log.1", put("a"))
	d.Arm(0)
	l, _ := opened(t, d, 100)
	holdAt(t, l, 1, 1, 9)
	d.Arm(-1)
	hold(t, d.Append("log.1", []byte(put("b"))), api.OK)
	d.Arm(0)
	holdNone(t, d, 100, api.ErrDown)
	d.Boot([]int{0})
	holdSays(t, d, "a")
	hold(t, d.Append("log.1", []byte(put("b"))), api.OK)
	d.Arm(1)
	holdSays(t, d, "a", "b")
	holdFiles(t, d, "log.1", put("a", "b"))
	// A cut needs the power, too, and makes sure what is left.
	hold(t, d.Create("x"), api.ErrDown)
	d.Boot(nil)
	hold(t, d.Append("log.1", []byte(put("c")+"torn")), api.OK)
	d.Arm(0)
	holdNone(t, d, 100, api.ErrDown)
	d.Boot([]int{100})
	hold(t, d.Append("log.1", []byte("x")), api.OK)
	d.Arm(1)
	holdSays(t, d, "a", "b", "c")
	holdFiles(t, d, "log.1", put("a", "b", "c"))
}

func TestMemory(t *testing.T) {
	d := made(t, 1000)
	l, _ := opened(t, d, 100)
	room := []byte("abcdef")
	hold(t, l.Append(room[:3]), api.OK)
	if string(room) != "abcdef" {
		t.Errorf("%q was changed", room)
	}
	clear(room)
	hold(t, l.Append([]byte("gh")), api.OK)
	_, says, _ := Open(d, 100)
	clear(says[0][:cap(says[0])])
	if string(says[1]) != "gh" {
		t.Errorf("two records share memory: %q", says)
	}
	holdSays(t, d, "abc", "gh")
}

// P12.2

func TestAppend(t *testing.T) {
	d := made(t, 1000)
	l, _ := opened(t, d, 100)
	size := 0
	want := ""
	for _, s := range []string{"ab", "", "\x00\xff", "abcdefghij"} {
		hold(t, l.Append([]byte(s)), api.OK)
		want += put(s)
		size += len(s) + 8
		holdAt(t, l, 1, 1, size)
		holdFiles(t, d, "log.1", want)
	}
	hold(t, l.Append(nil), api.OK)
	holdFiles(t, d, "log.1", want+put(""))
	holdSays(t, d, "ab", "", "\x00\xff", "abcdefghij", "")
}

func TestAppendRolls(t *testing.T) {
	d := made(t, 1<<20)
	l, _ := opened(t, d, 20)
	hold(t, l.Append([]byte("12")), api.OK)
	hold(t, l.Append([]byte("34")), api.OK)
	holdAt(t, l, 1, 1, 20)
	hold(t, l.Append(nil), api.OK)
	holdAt(t, l, 1, 2, 8)
	hold(t, l.Append([]byte("5678")), api.OK)
	holdAt(t, l, 1, 2, 20)
	hold(t, l.Append([]byte("9")), api.OK)
	hold(t, l.Append([]byte("0123")), api.OK)
	holdAt(t, l, 1, 4, 12)
	// What is longer than a segment stands in one by itself, but an empty one is not left behind for it.
	long := strings.Repeat("x", 50)
	hold(t, l.Append([]byte(long)), api.OK)
	holdAt(t, l, 1, 5, 58)
	hold(t, l.Roll(), api.OK)
	hold(t, l.Append([]byte(long)), api.OK)
	holdAt(t, l, 1, 6, 58)
	hold(t, l.Append(nil), api.OK)
	holdAt(t, l, 1, 7, 8)
	holdFiles(t, d, "log.1", put("12", "34"), "log.2", put("", "5678"), "log.3", put("9"), "log.4", put("0123"), "log.5", put(long), "log.6", put(long), "log.7", put(""))
	holdSays(t, d, "12", "34", "", "5678", "9", "0123", long, long, "")
	l, _ = opened(t, d, 20)
	hold(t, l.Append([]byte("5678")), api.OK)
	holdAt(t, l, 1, 7, 20)
	hold(t, l.Append(nil), api.OK)
	holdAt(t, l, 1, 8, 8)
}

func TestAppendOfTheGreatest(t *testing.T) {
	d := made(t, 70000)
	l, _ := opened(t, d, 16)
	b := bytes.Repeat([]byte{7}, 65536)
	hold(t, l.Append(append(b, 8)), api.ErrSize)
	holdAt(t, l, 1, 1, 0)
	hold(t, l.Append(b), api.OK)
	holdAt(t, l, 1, 1, 65544)
	// That it is too long is named first.
	hold(t, l.Append(append(b, 8)), api.ErrSize)
	hold(t, l.Append(b), api.ErrFull)
	d.Arm(0)
	hold(t, l.Roll(), api.ErrDown)
	hold(t, l.Append(append(b, 8)), api.ErrSize)
	hold(t, l.Append(b), api.ErrDown)
	hold(t, l.Append(nil), api.ErrDown)
	holdAt(t, l, 1, 1, 65544)
	d.Boot(nil)
	holdSays(t, d, string(b))
}

func TestWhatThereIsNoRoomForChangesNothing(t *testing.T) {
	d := made(t, 40)
	hold(t, d.Create("other"), api.OK)
	hold(t, d.Append("other", []byte("12345")), api.OK)
	hold(t, d.Sync("other"), api.OK)
	l, _ := opened(t, d, 16)
	hold(t, l.Append([]byte("abcdefgh")), api.OK)
	for range 2 {
		hold(t, l.Append([]byte("0123456789xy")), api.ErrFull)
		holdAt(t, l, 1, 1, 16)
		holdFiles(t, d, "other", "12345", "log.1", put("abcdefgh"))
	}
	hold(t, l.Append([]byte("0123456789x")), api.OK)
	holdAt(t, l, 1, 2, 19)
	hold(t, l.Append(nil), api.ErrFull)
	holdFiles(t, d, "other", "12345", "log.1", put("abcdefgh"), "log.2", put("0123456789x"))
	hold(t, l.Drop(2), api.OK)
	hold(t, l.Append(nil), api.OK)
	holdSays(t, d, "0123456789x", "")
}

func TestErrorsOfTheDiskAreTold(t *testing.T) {
	d := with(t)
	l, _ := opened(t, d, 16)
	hold(t, d.Remove("log.1"), api.OK)
	hold(t, l.Append([]byte("a")), api.ErrNone)
	holdAt(t, l, 1, 1, 0)
	d = with(t)
	l, _ = opened(t, d, 16)
	hold(t, l.Append([]byte("a")), api.OK)
	hold(t, d.Create("log.2"), api.OK)
	hold(t, l.Roll(), api.ErrTwice)
	hold(t, l.Append([]byte("bcdefgh")), api.ErrTwice)
	holdAt(t, l, 1, 1, 9)
	holdFiles(t, d, "log.1", put("a"), "log.2", "")
	d = with(t, "log.1", "", "log.2", "", "log.3", "")
	l, _ = opened(t, d, 16)
	hold(t, d.Remove("log.2"), api.OK)
	hold(t, l.Drop(3), api.ErrNone)
	holdAt(t, l, 2, 3, 0)
	holdFiles(t, d, "log.3", "")
}

func TestThePowerGoesWhileSomethingIsAppended(t *testing.T) {
	for n := range 14 {
		d := made(t, 100)
		l, _ := opened(t, d, 16)
		hold(t, l.Append([]byte("ab")), api.OK)
		// A segment, ten bytes, and a sync are twelve steps.
		d.Arm(n)
		want := api.ErrDown
		if n >= 12 {
			want = api.OK
		}
		hold(t, l.Append([]byte("cd")), want)
		if n == 0 {
			holdAt(t, l, 1, 1, 10)
		} else {
			holdAt(t, l, 1, 2, min(n-1, 10))
		}
		if want == api.ErrDown {
			hold(t, l.Append([]byte("ef")), api.ErrDown)
			d.Boot([]int{0, 100})
		}
		if n >= 11 {
			holdSays(t, d, "ab", "cd")
		} else {
			holdSays(t, d, "ab")
		}
	}
}

// P12.3

func TestRoll(t *testing.T) {
	d := with(t)
	l, _ := opened(t, d, 100)
	hold(t, l.Roll(), api.OK)
	holdAt(t, l, 1, 2, 0)
	hold(t, l.Append([]byte("a")), api.OK)
	hold(t, l.Roll(), api.OK)
	holdAt(t, l, 1, 3, 0)
	hold(t, l.Append([]byte("bc")), api.OK)
	holdFiles(t, d, "log.1", "", "log.2", put("a"), "log.3", put("bc"))
	d.Arm(0)
	hold(t, l.Roll(), api.ErrDown)
	hold(t, l.Roll(), api.ErrDown)
	holdAt(t, l, 1, 3, 10)
	d.Boot(nil)
	holdFiles(t, d, "log.1", "", "log.2", put("a"), "log.3", put("bc"))
}

func TestDrop(t *testing.T) {
	for _, x := range []struct{ n, first int }{{0, 3}, {-1, 3}, {math.MinInt, 3}, {1, 3}, {3, 3}, {4, 4}, {5, 5}, {6, 6}, {7, 6}, {100, 6}, {math.MaxInt, 6}} {
		files := []string{"log.3", put("a"), "log.4", put("b"), "log.5", "", "log.6", put("c")}
		d := with(t, append(files, "log.x", "other")...)
		l, _ := opened(t, d, 100)
		hold(t, l.Drop(x.n), api.OK)
		holdAt(t, l, x.first, 6, 9)
		holdFiles(t, d, append(files[2*(x.first-3):], "log.x", "other")...)
		hold(t, l.Drop(x.n), api.OK)
		hold(t, l.Append([]byte("d")), api.OK)
		hold(t, l.Roll(), api.OK)
		holdAt(t, l, x.first, 7, 0)
	}
}

func TestThePowerGoesWhileSegmentsAreDropped(t *testing.T) {
	for n := range 3 {
		files := []string{"log.9", put("a"), "log.10", put("b"), "log.11", put("c"), "log.12", put("d")}
		d := with(t, files...)
		l, _ := opened(t, d, 100)
		d.Arm(n)
		hold(t, l.Drop(12), api.ErrDown)
		holdAt(t, l, 9+n, 12, 9)
		hold(t, l.Drop(12), api.ErrDown)
		holdAt(t, l, 9+n, 12, 9)
		d.Boot(nil)
		holdFiles(t, d, files[2*n:]...)
		holdSays(t, d, []string{"a", "b", "c", "d"}[n:]...)
	}
}

func TestANilJournal(t *testing.T) {
	var l *Log
	for _, e := range []api.Errno{l.Append([]byte("a")), l.Append(make([]byte, 70000)), l.Roll(), l.Drop(1), l.Drop(-1)} {
		hold(t, e, api.ErrNil)
	}
	holdAt(t, l, 0, 0, 0)
}

// P12.4

// says tells the text that is appended as the i-th one; they have unlike lengths.
func says(i int) string { return strings.Repeat(string([]byte{byte('a' + i%26)}), i*5%13) }

// play appends texts, and rolls now and then, till the power goes; it tells what was appended with OK, and what was being appended.
func play(t *testing.T, l *Log) (done []string, at string) {
	t.Helper()
	for i := range 12 {
		e := api.OK
		if i%5 == 4 {
			e = l.Roll()
		}
		if e == api.OK {
			at = says(i)
			e = l.Append([]byte(at))
		}
		if e == api.ErrDown {
			return done, at
		}
		hold(t, e, api.OK)
		done = append(done, at)
	}
	return done, ""
}

// holdLasting asks whether just what was done is told, and at most what was being done, whole; and whether it goes on behind that.
func holdLasting(t *testing.T, d *disk.Disk, most int, done []string, at string) {
	t.Helper()
	l, told := opened(t, d, most)
	if !slices.Equal(told, done) && !slices.Equal(told, append(slices.Clone(done), at)) {
		t.Errorf("%q is told; %q was done, and then %q", told, done, at)
	}
	for n := l.First(); n <= l.Last(); n++ {
		if b, _ := d.Read(Name(n)); d.Sure(Name(n)) != len(b) {
			t.Errorf("of %d bytes of the segment %d %d are sure", len(b), n, d.Sure(Name(n)))
		}
	}
	hold(t, l.Append([]byte("behind")), api.OK)
	hold(t, l.Append([]byte("that")), api.OK)
	if _, again := opened(t, d, most); !slices.Equal(again, append(told, "behind", "that")) {
		t.Errorf("%q is told behind %q", again, told)
	}
}

func TestWhereverThePowerGoes(t *testing.T) {
	for _, most := range []int{16, 40, 1000} {
		for n := 0; ; n++ {
			whole := false
			for kept := range 16 {
				d := made(t, 1000)
				l, _ := opened(t, d, most)
				d.Arm(n)
				done, at := play(t, l)
				if whole = !d.Down(); whole {
					break
				}
				d.Boot([]int{kept, kept, kept, kept, kept, kept, kept, kept, kept, kept, kept, kept, kept})
				holdLasting(t, d, most, done, at)
			}
			if whole {
				if n < 150 {
					t.Errorf("all was done in %d steps", n)
				}
				break
			}
		}
	}
}

func TestWhereverThePowerGoesWhileItIsOpened(t *testing.T) {
	for kept := range 12 {
		d := made(t, 1000)
		l, _ := opened(t, d, 16)
		hold(t, l.Append([]byte("a")), api.OK)
		hold(t, l.Append([]byte("bcdefgh")), api.OK)
		d.Arm(1 + 12)
		hold(t, l.Append([]byte("torn")), api.ErrDown)
		for range 3 {
			d.Boot([]int{0, 0, kept})
			d.Arm(0)
			if _, _, e := Open(d, 16); e == api.OK {
				break
			}
			if !d.Down() {
				t.Error("it is not opened while the power is there")
			}
		}
		d.Arm(0)
		d.Create("x")
		d.Boot(nil)
		holdLasting(t, d, 16, []string{"a", "bcdefgh"}, "torn")
	}
}
