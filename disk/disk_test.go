package disk

import (
	"bytes"
	"math"
	"slices"
	"sort"
	"strings"
	"testing"

	"banyan/api"
)

func made(t *testing.T, room int) *Disk {
	t.Helper()
	d, e := New(room)
	if d == nil || e != api.OK {
		t.Fatalf("New(%d) = %v, %d", room, d, e)
	}
	return d
}

// with tells a disk with files of these bytes, none of them sure.
func with(t *testing.T, room int, files ...string) *Disk {
	t.Helper()
	d := made(t, room)
	for i := 0; i < len(files); i += 2 {
		hold(t, d.Create(files[i]), api.OK)
		hold(t, d.Append(files[i], []byte(files[i+1])), api.OK)
	}
	return d
}

func hold(t *testing.T, e, want api.Errno) {
	t.Helper()
	if e != want {
		t.Errorf("%d is told, not %d", e, want)
	}
}

// holdFile asks whether a file has these bytes, the first ones of which are sure.
func holdFile(t *testing.T, d *Disk, name, want string, sure int) {
	t.Helper()
	b, e := d.Read(name)
	if string(b) != want || e != api.OK || d.Sure(name) != sure {
		t.Errorf("%q has %q, %d, of which %d are sure, not %q and %d", name, b, e, d.Sure(name), want, sure)
	}
}

func holdNames(t *testing.T, d *Disk, want ...string) {
	t.Helper()
	if !slices.Equal(d.Names(), want) {
		t.Errorf("the files are %q, not %q", d.Names(), want)
	}
}

// P10.1

func TestNew(t *testing.T) {
	if MaxRoom != 16777216 {
		t.Errorf("MaxRoom is %d", MaxRoom)
	}
	for _, room := range []int{-1, math.MinInt, MaxRoom + 1, math.MaxInt} {
		if d, e := New(room); d != nil || e != api.ErrArg {
			t.Errorf("New(%d) = %v, %d", room, d, e)
		}
	}
	for _, room := range []int{0, 1, 1000, MaxRoom} {
		d := made(t, room)
		if len(d.Names()) != 0 || d.Used() != 0 || d.Free() != room || d.Down() {
			t.Errorf("a new disk of %d has %q, %d, %d", room, d.Names(), d.Used(), d.Free())
		}
	}
}

func TestNamesReadSureUsedFree(t *testing.T) {
	d := with(t, 20, "b", "12345", "", "6", "a/b\xff", "789", "B", "", "b\x00", "0")
	holdNames(t, d, "", "B", "a/b\xff", "b", "b\x00")
	holdFile(t, d, "b", "12345", 0)
	holdFile(t, d, "", "6", 0)
	holdFile(t, d, "B", "", 0)
	if d.Used() != 10 || d.Free() != 10 {
		t.Errorf("%d are used, %d are free", d.Used(), d.Free())
	}
	for _, name := range []string{"c", "bb", "a"} {
		if b, e := d.Read(name); b != nil || e != api.ErrNone || d.Sure(name) != 0 {
			t.Errorf("of no file: %q, %d, %d", b, e, d.Sure(name))
		}
	}
}

func TestNamesOfMany(t *testing.T) {
	d := made(t, 0)
	var want []string
	for i := range 200 {
		name := strings.Repeat(string(rune('a'+i*7%26)), i%9+1) + string([]byte{byte(i * 31)})
		hold(t, d.Create(name), api.OK)
		want = append(want, name)
	}
	sort.Strings(want)
	holdNames(t, d, want...)
}

func TestMemory(t *testing.T) {
	d := made(t, 100)
	hold(t, d.Create("a"), api.OK)
	room := []byte("abcdef")
	hold(t, d.Append("a", room[:3]), api.OK)
	room[0] = 'z'
	hold(t, d.Append("a", []byte("gh")), api.OK)
	if string(room) != "zbcdef" {
		t.Errorf("%q was changed", room)
	}
	holdFile(t, d, "a", "abcgh", 0)
	b, _ := d.Read("a")
	clear(b[:cap(b)])
	holdFile(t, d, "a", "abcgh", 0)
	b, _ = d.Read("a")
	hold(t, d.Cut("a", 1), api.OK)
	hold(t, d.Append("a", []byte("xyz")), api.OK)
	if string(b) != "abcgh" {
		t.Errorf("what was read became %q", b)
	}
	names := d.Names()
	names[0] = "q"
	holdNames(t, d, "a")
	other := made(t, 100)
	if len(other.Names()) != 0 {
		t.Error("two disks have something in common")
	}
}

func TestANilDisk(t *testing.T) {
	var d *Disk
	d.Arm(0)
	d.Boot([]int{1})
	if len(d.Names()) != 0 || d.Sure("a") != 0 || d.Used() != 0 || d.Free() != 0 || d.Down() {
		t.Error("a nil disk has something")
	}
	b, e := d.Read("a")
	if b != nil {
		t.Errorf("%q is read", b)
	}
	for _, e := range []api.Errno{e, d.Create("a"), d.Append("a", nil), d.Append("a", []byte("b")), d.Sync("a"), d.Cut("a", 0), d.Cut("a", -1), d.Rename("a", "b"), d.Remove("a")} {
		hold(t, e, api.ErrNil)
	}
}

// P10.2

func TestCreate(t *testing.T) {
	d := with(t, 3, "a", "123")
	hold(t, d.Create("a"), api.ErrTwice)
	hold(t, d.Create("b"), api.OK)
	hold(t, d.Create("b"), api.ErrTwice)
	holdFile(t, d, "a", "123", 0)
	holdFile(t, d, "b", "", 0)
	holdNames(t, d, "a", "b")
}

func TestAppend(t *testing.T) {
	d := with(t, 9, "a", "12", "b", "3")
	hold(t, d.Append("c", nil), api.ErrNone)
	hold(t, d.Append("c", make([]byte, 20)), api.ErrNone)
	hold(t, d.Append("a", []byte("1234567")), api.ErrFull)
	holdFile(t, d, "a", "12", 0)
	hold(t, d.Append("a", []byte("456")), api.OK)
	hold(t, d.Append("a", nil), api.OK)
	hold(t, d.Append("b", []byte("789")), api.OK)
	holdFile(t, d, "a", "12456", 0)
	holdFile(t, d, "b", "3789", 0)
	hold(t, d.Append("b", []byte("0")), api.ErrFull)
	hold(t, d.Append("b", []byte{}), api.OK)
	holdFile(t, d, "b", "3789", 0)
	if d.Used() != 9 || d.Free() != 0 {
		t.Errorf("%d are used, %d are free", d.Used(), d.Free())
	}
	holdNames(t, d, "a", "b")
}

func TestSync(t *testing.T) {
	d := with(t, 9, "a", "12", "b", "3")
	hold(t, d.Sync("c"), api.ErrNone)
	hold(t, d.Sync("a"), api.OK)
	holdFile(t, d, "a", "12", 2)
	holdFile(t, d, "b", "3", 0)
	hold(t, d.Append("a", []byte("45")), api.OK)
	holdFile(t, d, "a", "1245", 2)
	hold(t, d.Sync("a"), api.OK)
	hold(t, d.Sync("a"), api.OK)
	holdFile(t, d, "a", "1245", 4)
}

func TestCut(t *testing.T) {
	d := with(t, 9, "a", "12345", "b", "3")
	hold(t, d.Cut("c", 0), api.ErrNone)
	hold(t, d.Cut("c", -1), api.ErrNone)
	for _, n := range []int{-1, 6, math.MinInt, math.MaxInt} {
		hold(t, d.Cut("a", n), api.ErrArg)
	}
	holdFile(t, d, "a", "12345", 0)
	hold(t, d.Cut("a", 5), api.OK)
	holdFile(t, d, "a", "12345", 5)
	hold(t, d.Append("a", []byte("6")), api.OK)
	hold(t, d.Cut("a", 2), api.OK)
	holdFile(t, d, "a", "12", 2)
	if d.Used() != 3 || d.Free() != 6 {
		t.Errorf("%d are used, %d are free", d.Used(), d.Free())
	}
	hold(t, d.Append("a", []byte("789")), api.OK)
	holdFile(t, d, "a", "12789", 2)
	hold(t, d.Cut("a", 0), api.OK)
	hold(t, d.Cut("a", 0), api.OK)
	hold(t, d.Cut("a", 1), api.ErrArg)
	holdFile(t, d, "a", "", 0)
	holdFile(t, d, "b", "3", 0)
}

func TestRename(t *testing.T) {
	d := with(t, 20, "a", "12345", "b", "67", "c", "8")
	hold(t, d.Rename("x", "a"), api.ErrNone)
	hold(t, d.Rename("x", "x"), api.ErrNone)
	hold(t, d.Sync("a"), api.OK)
	hold(t, d.Append("a", []byte("9")), api.OK)
	hold(t, d.Rename("a", "z"), api.OK)
	holdNames(t, d, "b", "c", "z")
	holdFile(t, d, "z", "123459", 5)
	hold(t, d.Rename("z", "z"), api.OK)
	holdFile(t, d, "z", "123459", 5)
	hold(t, d.Rename("c", "z"), api.OK)
	holdNames(t, d, "b", "z")
	holdFile(t, d, "z", "8", 0)
	holdFile(t, d, "b", "67", 0)
	if d.Used() != 3 || d.Free() != 17 {
		t.Errorf("%d are used, %d are free", d.Used(), d.Free())
	}
}

func TestRemove(t *testing.T) {
	d := with(t, 9, "a", "12345", "b", "67")
	hold(t, d.Remove("x"), api.ErrNone)
	hold(t, d.Sync("a"), api.OK)
	hold(t, d.Remove("a"), api.OK)
	hold(t, d.Remove("a"), api.ErrNone)
	holdNames(t, d, "b")
	if b, e := d.Read("a"); b != nil || e != api.ErrNone || d.Sure("a") != 0 || d.Used() != 2 {
		t.Errorf("%q, %d is read, %d are sure, %d are used", b, e, d.Sure("a"), d.Used())
	}
	hold(t, d.Create("a"), api.OK)
	holdFile(t, d, "a", "", 0)
}

// P10.3

// holdDown asks whether a disk, whose power is gone, answers ErrDown to whatever is asked, and changes nothing.
func holdDown(t *testing.T, d *Disk) {
	t.Helper()
	names, used, free := d.Names(), d.Used(), d.Free()
	if !d.Down() {
		t.Error("the power is there")
	}
	for _, name := range append(d.Names(), "none") {
		sure := d.Sure(name)
		b, e := d.Read(name)
		if b != nil {
			t.Errorf("%q is read", b)
		}
		for _, e := range []api.Errno{
			e, d.Create(name), d.Append(name, nil), d.Append(name, make([]byte, 1000)), d.Append(name, []byte("a")), d.Sync(name), d.Cut(name, 0), d.Cut(name, -1),
			d.Rename(name, "other"), d.Rename(name, name), d.Remove(name),
		} {
			hold(t, e, api.ErrDown)
		}
		if d.Sure(name) != sure {
			t.Errorf("%d are sure, not %d", d.Sure(name), sure)
		}
	}
	if !slices.Equal(d.Names(), names) || d.Used() != used || d.Free() != free || !d.Down() {
		t.Errorf("without power %q became %q, %d used %d, %d free %d", names, d.Names(), used, d.Used(), free, d.Free())
	}
}

func TestExample(t *testing.T) {
	d := with(t, 100, "a", "")
	d.Arm(2)
	hold(t, d.Append("a", []byte("12345")), api.ErrDown)
	holdDown(t, d)
	d.Boot([]int{1})
	holdFile(t, d, "a", "1", 1)
}

func TestEachCallIsAStep(t *testing.T) {
	calls := []struct {
		do    func(*Disk) api.Errno
		steps int
	}{
		{func(d *Disk) api.Errno { return d.Create("new") }, 1},
		{func(d *Disk) api.Errno { return d.Append("a", []byte("xyz")) }, 3},
		{func(d *Disk) api.Errno { return d.Append("a", []byte("x")) }, 1},
		{func(d *Disk) api.Errno { return d.Append("a", nil) }, 0},
		{func(d *Disk) api.Errno { return d.Sync("a") }, 1},
		{func(d *Disk) api.Errno { return d.Cut("a", 1) }, 1},
		{func(d *Disk) api.Errno { return d.Cut("a", 3) }, 1},
		{func(d *Disk) api.Errno { return d.Rename("a", "c") }, 1},
		{func(d *Disk) api.Errno { return d.Rename("a", "b") }, 1},
		{func(d *Disk) api.Errno { return d.Rename("a", "a") }, 1},
		{func(d *Disk) api.Errno { return d.Remove("a") }, 1},
	}
	for i, x := range calls {
		for n := range 6 {
			d := with(t, 100, "a", "123", "b", "45")
			d.Arm(n)
			if d.Down() {
				t.Errorf("armed for %d steps, the power is gone at once", n)
			}
			want := api.OK
			if n < x.steps {
				want = api.ErrDown
			}
			if e := x.do(d); e != want || d.Down() != (want == api.ErrDown) {
				t.Errorf("call %d, armed for %d steps: %d, not %d", i, n, e, want)
			}
			if want == api.ErrDown {
				holdDown(t, d)
				continue
			}
			// What is left lasts for just so many bytes.
			hold(t, d.Create("last"), lasts(n-x.steps > 0))
			hold(t, d.Append("last", make([]byte, 9)), api.ErrDown)
			if !d.Down() {
				t.Errorf("call %d, armed for %d steps: the power lasts on", i, n)
			}
		}
	}
}

func lasts(is bool) api.Errno {
	if is {
		return api.OK
	}
	return api.ErrDown
}

func TestAStepForWhichThePowerDoesNotLastIsNotDone(t *testing.T) {
	for i, do := range []func(*Disk) api.Errno{
		func(d *Disk) api.Errno { return d.Create("new") },
		func(d *Disk) api.Errno { return d.Append("a", []byte("xyz")) },
		func(d *Disk) api.Errno { return d.Sync("a") },
		func(d *Disk) api.Errno { return d.Cut("a", 1) },
		func(d *Disk) api.Errno { return d.Rename("a", "c") },
		func(d *Disk) api.Errno { return d.Rename("a", "b") },
		func(d *Disk) api.Errno { return d.Remove("a") },
	} {
		d := with(t, 100, "a", "123", "b", "45")
		d.Arm(0)
		hold(t, do(d), api.ErrDown)
		if !slices.Equal(d.Names(), []string{"a", "b"}) || d.Used() != 5 || d.Sure("a") != 0 || !d.Down() {
			t.Errorf("the call %d was done: %q, %d", i, d.Names(), d.Used())
		}
		d.Boot([]int{9, 9})
		holdFile(t, d, "a", "123", 3)
		holdFile(t, d, "b", "45", 2)
	}
}

func TestWhatIsRefusedIsNoStep(t *testing.T) {
	d := with(t, 10, "a", "123")
	d.Arm(1)
	for range 3 {
		hold(t, d.Create("a"), api.ErrTwice)
		hold(t, d.Append("a", make([]byte, 8)), api.ErrFull)
		hold(t, d.Append("b", []byte("x")), api.ErrNone)
		hold(t, d.Sync("b"), api.ErrNone)
		hold(t, d.Cut("a", 4), api.ErrArg)
		hold(t, d.Cut("b", 0), api.ErrNone)
		hold(t, d.Rename("b", "a"), api.ErrNone)
		hold(t, d.Remove("b"), api.ErrNone)
		if _, e := d.Read("a"); e != api.OK || d.Down() {
			t.Errorf("reading is a step: %d", e)
		}
	}
	hold(t, d.Sync("a"), api.OK)
	hold(t, d.Append("a", make([]byte, 8)), api.ErrFull)
	hold(t, d.Sync("a"), api.ErrDown)
}

func TestBytesAheadOfTheStepAreAppended(t *testing.T) {
	for n := range 6 {
		d := with(t, 100, "a", "ab")
		hold(t, d.Sync("a"), api.OK)
		d.Arm(n)
		e := d.Append("a", []byte("12345"))
		hold(t, e, lasts(n >= 5))
		if d.Used() != 2+n || d.Free() != 98-n || d.Sure("a") != 2 {
			t.Errorf("armed for %d: %d are used, %d are free, %d are sure", n, d.Used(), d.Free(), d.Sure("a"))
		}
		d.Arm(0)
		d.Sync("a")
		d.Boot([]int{100})
		holdFile(t, d, "a", "ab"+"12345"[:n], 2+n)
	}
}

func TestArmAnew(t *testing.T) {
	d := with(t, 100, "a", "")
	d.Arm(0)
	d.Arm(3)
	hold(t, d.Append("a", []byte("12")), api.OK)
	d.Arm(1)
	hold(t, d.Append("a", []byte("3")), api.OK)
	for _, n := range []int{-1, math.MinInt} {
		d.Arm(n)
		hold(t, d.Append("a", []byte("4567")), api.OK)
		d.Arm(0)
	}
	d.Arm(math.MaxInt)
	hold(t, d.Append("a", []byte("89")), api.OK)
	d.Arm(0)
	hold(t, d.Sync("a"), api.ErrDown)
	// The power does not come back by that, and behind Boot it is there for ever.
	d.Arm(5)
	holdDown(t, d)
	d.Boot(nil)
	hold(t, d.Append("a", []byte("123456789")), api.OK)
	hold(t, d.Sync("a"), api.OK)
	holdFile(t, d, "a", "123456789", 9)
}

func TestBoot(t *testing.T) {
	for _, x := range []struct {
		keep []int
		want [3]int
	}{
		{nil, [3]int{2, 0, 1}},
		{[]int{}, [3]int{2, 0, 1}},
		{[]int{0, 0, 0}, [3]int{2, 0, 1}},
		{[]int{1, 2, 1}, [3]int{3, 2, 2}},
		{[]int{1}, [3]int{3, 0, 1}},
		{[]int{0, 3}, [3]int{2, 3, 1}},
		{[]int{3, 4, 2, 9}, [3]int{5, 4, 3}},
		{[]int{2, 3, 1}, [3]int{4, 3, 2}},
		{[]int{4, 5, 3}, [3]int{5, 4, 3}},
		{[]int{-1, -5, math.MinInt}, [3]int{2, 0, 1}},
		{[]int{math.MaxInt, math.MaxInt - 1, math.MaxInt}, [3]int{5, 4, 3}},
	} {
		texts := [3]string{"01234", "5678", "abc"}
		d := with(t, 100, "m", "56", "z", "a", "a", "01")
		hold(t, d.Sync("a"), api.OK)
		hold(t, d.Sync("z"), api.OK)
		hold(t, d.Append("a", []byte("234")), api.OK)
		hold(t, d.Append("z", []byte("bc")), api.OK)
		hold(t, d.Append("m", []byte("78")), api.OK)
		d.Arm(0)
		hold(t, d.Remove("a"), api.ErrDown)
		keep := slices.Clone(x.keep)
		d.Boot(x.keep)
		if !slices.Equal(keep, x.keep) || d.Down() {
			t.Errorf("Boot of %v: it became %v, or the power is gone", keep, x.keep)
		}
		for i, name := range []string{"a", "m", "z"} {
			holdFile(t, d, name, texts[i][:x.want[i]], x.want[i])
		}
		if n := x.want[0] + x.want[1] + x.want[2]; d.Used() != n || d.Free() != 100-n {
			t.Errorf("%d are used, %d are free", d.Used(), d.Free())
		}
	}
}

func TestBootWhileThePowerIsThere(t *testing.T) {
	d := with(t, 100, "a", "123")
	d.Boot([]int{0})
	d.Boot(nil)
	holdFile(t, d, "a", "123", 0)
	d.Arm(1)
	d.Boot(nil)
	hold(t, d.Sync("a"), api.OK)
	hold(t, d.Sync("a"), api.ErrDown)
}

// P10.4

// paper is a disk as the document tells it, by lists alone.
type paper struct {
	room  int
	names []string
	bytes [][]byte
	sure  []int
	left  int
	down  bool
}

func (p *paper) at(name string) int { return slices.Index(p.names, name) }

func (p *paper) used() int {
	n := 0
	for _, b := range p.bytes {
		n += len(b)
	}
	return n
}

func (p *paper) step() bool {
	if p.left == 0 {
		p.down = true
		return false
	}
	p.left--
	return true
}

func (p *paper) drop(i int) {
	p.names, p.bytes, p.sure = slices.Delete(p.names, i, i+1), slices.Delete(p.bytes, i, i+1), slices.Delete(p.sure, i, i+1)
}

func (p *paper) do(kind, n int, name, to string, b []byte) api.Errno {
	i := p.at(name)
	switch {
	case p.down:
		return api.ErrDown
	case kind == 0 && i >= 0:
		return api.ErrTwice
	case kind != 0 && i < 0:
		return api.ErrNone
	case kind == 1 && len(b) > p.room-p.used():
		return api.ErrFull
	case kind == 3 && (n < 0 || n > len(p.bytes[i])):
		return api.ErrArg
	}
	if kind == 1 {
		for _, x := range b {
			if !p.step() {
				return api.ErrDown
			}
			p.bytes[i] = append(p.bytes[i], x)
		}
		return api.OK
	}
	if !p.step() {
		return api.ErrDown
	}
	switch kind {
	case 0:
		p.names, p.bytes, p.sure = append(p.names, name), append(p.bytes, nil), append(p.sure, 0)
	case 2:
		p.sure[i] = len(p.bytes[i])
	case 3:
		p.bytes[i], p.sure[i] = slices.Clone(p.bytes[i][:n]), n
	case 4:
		if j := p.at(to); j >= 0 && j != i {
			p.names[j] = ""
			p.names[i] = to
			p.drop(j)
		} else {
			p.names[i] = to
		}
	case 5:
		p.drop(i)
	}
	return api.OK
}

func (p *paper) boot(keep []int) {
	if !p.down {
		return
	}
	order := slices.Sorted(slices.Values(p.names))
	for i := range p.names {
		at := slices.Index(order, p.names[i])
		for k := 0; at < len(keep) && k < keep[at] && p.sure[i] < len(p.bytes[i]); k++ {
			p.sure[i]++
		}
		p.bytes[i] = p.bytes[i][:p.sure[i]]
	}
	p.down, p.left = false, -1
}

func do(d *Disk, kind, n int, name, to string, b []byte) api.Errno {
	switch kind {
	case 0:
		return d.Create(name)
	case 1:
		return d.Append(name, b)
	case 2:
		return d.Sync(name)
	case 3:
		return d.Cut(name, n)
	case 4:
		return d.Rename(name, to)
	}
	return d.Remove(name)
}

// chance tells numbers that look as if they came by chance, the same ones each time.
type chance uint32

func (c *chance) next(n int) int {
	*c = *c*1664525 + 1013904223
	return int(*c>>8) % n
}

func TestAsOnPaper(t *testing.T) {
	for seed := range 40 {
		c := chance(seed)
		d, p := made(t, 60), &paper{room: 60, left: -1}
		for range 400 {
			walk(t, &c, d, p)
			holdPaper(t, d, p)
			if t.Failed() {
				return
			}
		}
	}
}

func walk(t *testing.T, c *chance, d *Disk, p *paper) {
	t.Helper()
	names := []string{"a", "b", "ab", "c"}
	switch c.next(12) {
	case 0:
		n := c.next(20) - 2
		d.Arm(n)
		p.left = max(n, -1)
	case 1:
		keep := []int{c.next(8) - 1, c.next(8) - 1, c.next(8) - 1, c.next(8) - 1}[:c.next(5)]
		d.Boot(keep)
		p.boot(keep)
	default:
		kind, n, name, to := c.next(6), c.next(20)-2, names[c.next(4)], names[c.next(4)]
		b := []byte("abcdefghijklmnopq")[c.next(9):][:c.next(9)]
		if c.next(3) > 0 {
			kind = kind % 3
		}
		if e, want := do(d, kind, n, name, to, b), p.do(kind, n, name, to, b); e != want {
			t.Errorf("the call %d of %q tells %d, not %d", kind, name, e, want)
		}
	}
}

func holdPaper(t *testing.T, d *Disk, p *paper) {
	t.Helper()
	if d.Down() != p.down || d.Used() != p.used() || d.Free() != p.room-p.used() || !slices.Equal(d.Names(), slices.Sorted(slices.Values(p.names))) {
		t.Errorf("%q, %d used, %v", d.Names(), d.Used(), d.Down())
	}
	for i, name := range p.names {
		if d.Sure(name) != p.sure[i] {
			t.Errorf("of %q %d are sure, not %d", name, d.Sure(name), p.sure[i])
		}
		b, e := d.Read(name)
		if p.down && (b != nil || e != api.ErrDown) || !p.down && (e != api.OK || !bytes.Equal(b, p.bytes[i])) {
			t.Errorf("%q has %q, %d, not %q", name, b, e, p.bytes[i])
		}
	}
}

func TestWhatIsSureStays(t *testing.T) {
	for armed := range 9 {
		for keep := range 6 {
			d := with(t, 100, "a", "12")
			hold(t, d.Sync("a"), api.OK)
			d.Arm(armed)
			var e api.Errno
			for i := 0; e == api.OK; i++ {
				e = d.Append("a", []byte("345678901"[i:i+1]))
			}
			d.Boot([]int{keep})
			b, _ := d.Read("a")
			if !strings.HasPrefix("12345678901", string(b)) || len(b) != 2+min(armed, keep) || d.Sure("a") != len(b) {
				t.Errorf("armed for %d, %d kept: %q, of which %d are sure", armed, keep, b, d.Sure("a"))
			}
		}
	}
}
