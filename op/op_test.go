package op

import (
	"bytes"
	"math"
	"strings"
	"testing"

	"banyan/api"
	"banyan/wire"
)

var (
	root  = api.Stamp{}
	trash = api.Stamp{Rep: 1}
	lost  = api.Stamp{Rep: 2}
)

func at(time, rep int) api.Stamp { return api.Stamp{Time: time, Rep: rep} }

// plain is an op that may be; tests change one thing of it each.
func plain() api.Op {
	return api.Op{At: at(5, 1), Seq: 2, Node: at(3, 0), Parent: root, Name: "a", Dir: true}
}

func with(change func(*api.Op)) api.Op {
	o := plain()
	change(&o)
	return o
}

// may tells ops that may be, at the edges of what may.
func may() []api.Op {
	long := strings.Repeat("n", 255)
	return []api.Op{
		plain(),
		with(func(o *api.Op) { o.Dir = false }),
		with(func(o *api.Op) { o.Name = "\xff \x01%" }),
		with(func(o *api.Op) { o.Name = long }),
		with(func(o *api.Op) { o.Name = "..." }),
		with(func(o *api.Op) { o.Seq = 1 }),
		with(func(o *api.Op) { o.Seq = api.MaxSeq }),
		with(func(o *api.Op) { o.At = at(api.MaxTime, 63) }),
		with(func(o *api.Op) { o.At, o.Node = at(1, 0), at(1, 0) }),
		with(func(o *api.Op) { o.At, o.Node = at(api.MaxTime, 63), at(api.MaxTime, 63) }),
		with(func(o *api.Op) { o.Node = at(5, 0) }),
		with(func(o *api.Op) { o.Node = at(4, 63) }),
		with(func(o *api.Op) { o.Node = at(5, 1) }),
		with(func(o *api.Op) { o.Parent = trash }),
		with(func(o *api.Op) { o.Parent = at(2, 7) }),
		with(func(o *api.Op) { o.Parent = at(4, 63) }),
		with(func(o *api.Op) { o.Parent = at(5, 0) }),
		with(func(o *api.Op) { o.Node, o.Parent = at(5, 1), at(5, 0) }),
		with(func(o *api.Op) { o.Parent = at(1, 0) }),
	}
}

// never tells ops that may not be.
func never() []api.Op {
	return []api.Op{
		{},
		with(func(o *api.Op) { o.At = api.Stamp{} }),
		with(func(o *api.Op) { o.At = at(0, 1) }),
		with(func(o *api.Op) { o.At = at(-5, 1) }),
		with(func(o *api.Op) { o.At = at(api.MaxTime+1, 1) }),
		with(func(o *api.Op) { o.At = at(5, 64) }),
		with(func(o *api.Op) { o.At = at(5, -1) }),
		with(func(o *api.Op) { o.Seq = 0 }),
		with(func(o *api.Op) { o.Seq = -1 }),
		with(func(o *api.Op) { o.Seq = api.MaxSeq + 1 }),
		with(func(o *api.Op) { o.Seq = math.MinInt }),
		with(func(o *api.Op) { o.Node = root }),
		with(func(o *api.Op) { o.Node = trash }),
		with(func(o *api.Op) { o.Node = lost }),
		with(func(o *api.Op) { o.Node = at(3, 64) }),
		with(func(o *api.Op) { o.Node = at(3, -1) }),
		with(func(o *api.Op) { o.Node = at(-3, 0) }),
		with(func(o *api.Op) { o.Node = at(5, 2) }),
		with(func(o *api.Op) { o.Node = at(6, 0) }),
		with(func(o *api.Op) { o.Parent = lost }),
		with(func(o *api.Op) { o.Parent = at(0, 3) }),
		with(func(o *api.Op) { o.Parent = at(0, -1) }),
		with(func(o *api.Op) { o.Parent = at(-1, 0) }),
		with(func(o *api.Op) { o.Parent = at(3, 0) }),
		with(func(o *api.Op) { o.Parent = at(5, 1) }),
		with(func(o *api.Op) { o.Parent = at(5, 2) }),
		with(func(o *api.Op) { o.Parent = at(6, 0) }),
		with(func(o *api.Op) { o.Parent = at(4, 64) }),
		with(func(o *api.Op) { o.Parent = at(4, -1) }),
		with(func(o *api.Op) { o.Node, o.Parent = at(5, 1), trash }),
		with(func(o *api.Op) { o.Node, o.Parent = at(5, 1), at(5, 1) }),
		with(func(o *api.Op) { o.Name = "" }),
		with(func(o *api.Op) { o.Name = "." }),
		with(func(o *api.Op) { o.Name = ".." }),
		with(func(o *api.Op) { o.Name = "a/b" }),
		with(func(o *api.Op) { o.Name = "a\x00" }),
		with(func(o *api.Op) { o.Name = strings.Repeat("n", 256) }),
	}
}

// P7.1

func TestKind(t *testing.T) {
	if Make != 1 || Move != 2 || Remove != 3 {
		t.Errorf("the kinds are %d, %d, %d", Make, Move, Remove)
	}
	for _, x := range []struct {
		o    api.Op
		want int
	}{
		{plain(), Move},
		{with(func(o *api.Op) { o.Parent = trash }), Remove},
		{with(func(o *api.Op) { o.Parent = lost }), Move},
		{with(func(o *api.Op) { o.Parent = at(2, 1) }), Move},
		{with(func(o *api.Op) { o.Node = o.At }), Make},
		{with(func(o *api.Op) { o.Node, o.Parent = o.At, trash }), Make},
		{with(func(o *api.Op) { o.Node = at(5, 0) }), Move},
		{with(func(o *api.Op) { o.Node = at(4, 1) }), Move},
		{api.Op{}, Make},
	} {
		if got := Kind(x.o); got != x.want {
			t.Errorf("Kind(%v) = %d, not %d", x.o, got, x.want)
		}
	}
}

func TestRight(t *testing.T) {
	for _, o := range may() {
		if !Right(o) {
			t.Errorf("%v is not Right", o)
		}
	}
	for _, o := range never() {
		if Right(o) {
			t.Errorf("%v is Right", o)
		}
	}
}

func TestCompare(t *testing.T) {
	rising := []api.Stamp{root, trash, at(1, 0), at(1, 63), at(2, 0), at(3, 1), at(3, 2), at(api.MaxTime, 0)}
	for i, a := range rising {
		for j, b := range rising {
			want := 0
			if i < j {
				want = -1
			}
			if i > j {
				want = 1
			}
			// Nothing but the stamp At counts, whatever else would stand the other way round.
			p := api.Op{At: a, Seq: 9 - i, Node: at(9-i, 0), Parent: at(9-i, 0), Name: string(rune('z' - i))}
			q := api.Op{At: b, Seq: 9 - j, Node: at(9-j, 0), Parent: at(9-j, 0), Name: string(rune('z' - j)), Dir: true}
			if got := Compare(p, q); got != want {
				t.Errorf("Compare(%v, %v) = %d, not %d", p, q, got, want)
			}
		}
	}
}

// P7.2

func TestPutByExample(t *testing.T) {
	for _, x := range []struct {
		o    api.Op
		want string
	}{
		{plain(), "\x05\x01\x02\x03\x00\x00\x00\x01a\x01"},
		{api.Op{At: at(300, 63), Seq: 128, Node: at(200, 62), Parent: trash, Name: "b/", Dir: false}, "\xac\x02\x3f\x80\x01\xc8\x01\x3e\x00\x01\x02b/\x00"},
		{api.Op{At: at(9, 8), Seq: 7, Node: at(6, 5), Parent: at(4, 3), Name: ""}, "\x09\x08\x07\x06\x05\x04\x03\x00\x00"},
		{api.Op{}, "\x00\x00\x00\x00\x00\x00\x00\x00\x00"},
		{api.Op{At: at(-1, -1), Seq: -1}, "\x00\x00\x00\x00\x00\x00\x00\x00\x00"},
	} {
		var w wire.Writer
		w.Num(77)
		Put(&w, x.o)
		if got := string(w.Bytes()); got != "\x4d"+x.want {
			t.Errorf("Put(%v) writes %q, not %q", x.o, got, x.want)
		}
	}
	Put(nil, plain())
}

func put(o api.Op) []byte {
	var w wire.Writer
	Put(&w, o)
	return w.Bytes()
}

func TestGetWhatMayBe(t *testing.T) {
	for _, o := range may() {
		r := wire.Open(append(put(o), 7, 8))
		if got := Get(r); got != o || r.Bad() != api.OK || r.Left() != 2 {
			t.Errorf("%v is read as %v, wrong is %d, and %d are left", o, got, r.Bad(), r.Left())
		}
	}
}

func TestGetWhatMayNotBe(t *testing.T) {
	for _, o := range never() {
		// What is below 0 is written as 0, by which some of these may be.
		if o.At.Rep < 0 || o.Node.Rep < 0 || o.Parent.Rep < 0 || o.Parent.Time < 0 {
			continue
		}
		want := api.ErrArg
		if len(o.Name) > 255 {
			want = api.ErrSize
		}
		r := wire.Open(append(put(o), 7, 8))
		if got := Get(r); got != (api.Op{}) || r.Bad() != want || r.Left() != 0 {
			t.Errorf("%v is read as %v, wrong is %d, and %d are left", o, got, r.Bad(), r.Left())
		}
	}
}

func TestGetWhatIsWrittenWrong(t *testing.T) {
	good := string(put(plain()))
	for n := range len(good) {
		r := wire.Open([]byte(good[:n]))
		if got := Get(r); got != (api.Op{}) || r.Bad() != api.ErrShort {
			t.Errorf("of %d bytes %v is read, wrong is %d", n, got, r.Bad())
		}
	}
	for _, x := range []struct {
		b   string
		bad api.Errno
	}{
		{"\x05\x01\x02\x03\x00\x00\x00\x01a\x02", api.ErrForm},
		{"\x05\x01\x02\x03\x00\x00\x00\x01a\x81\x00", api.ErrForm},
		{"\x85\x00\x01\x02\x03\x00\x00\x00\x01a\x01", api.ErrForm},
		{"\x05\x01\x82\x00\x03\x00\x00\x00\x01a\x01", api.ErrForm},
		{"\x05\x01\x02\x03\x00\x00\x00\x80\x02a\x01", api.ErrSize},
		{"\x05\x01\x02\x03\x00\x00\x00\xff\x01a\x01", api.ErrShort},
		// What is wrong first is told, and that it isn't Right only where nothing else is wrong.
		{"\x00\x00\x00\x03\x00\x00\x00\x01a\x02", api.ErrForm},
		{"\x00\x00\x00\x03\x00\x00\x00\x80\x02a\x02", api.ErrSize},
		{"\x00\x00\x00\x03\x00\x00\x00\x01", api.ErrShort},
		{"\x00\x00\x00\x03\x00\x00\x00\x01a\x01", api.ErrArg},
	} {
		r := wire.Open([]byte(x.b))
		if got := Get(r); got != (api.Op{}) || r.Bad() != x.bad {
			t.Errorf("of %q %v is read, wrong is %d, not %d", x.b, got, r.Bad(), x.bad)
		}
	}
}

func TestGetWhereSomethingIsWrong(t *testing.T) {
	r := wire.Open(put(plain()))
	r.Fail(api.ErrDown)
	if got := Get(r); got != (api.Op{}) || r.Bad() != api.ErrDown {
		t.Errorf("%v is read, wrong is %d", got, r.Bad())
	}
	if got := Get(nil); got != (api.Op{}) {
		t.Errorf("%v is read of nothing", got)
	}
}

// P7.3

func same(a, b []api.Op) bool {
	if len(a) != len(b) {
		return false
	}
	for i, o := range a {
		if o != b[i] {
			return false
		}
	}
	return true
}

// many tells so many ops that may be.
func many(n int) []api.Op {
	var l []api.Op
	for i := range n {
		l = append(l, api.Op{At: at(i+1, i%64), Seq: i + 1, Node: at(i+1, i%64), Parent: root, Name: strings.Repeat("x", i%9+1), Dir: i%2 == 0})
	}
	return l
}

func TestCode(t *testing.T) {
	one, other := plain(), with(func(o *api.Op) { o.At, o.Name, o.Dir = at(300, 2), "bc", false })
	for _, x := range []struct {
		l    []api.Op
		want string
	}{
		{nil, "\x00"},
		{[]api.Op{}, "\x00"},
		{[]api.Op{one}, "\x01\x05\x01\x02\x03\x00\x00\x00\x01a\x01"},
		{[]api.Op{other, one, one}, "\x03\xac\x02\x02\x02\x03\x00\x00\x00\x02bc\x00\x05\x01\x02\x03\x00\x00\x00\x01a\x01\x05\x01\x02\x03\x00\x00\x00\x01a\x01"},
	} {
		if got := string(Code(x.l)); got != x.want {
			t.Errorf("Code(%v) = %q, not %q", x.l, got, x.want)
		}
		if got, e := Parse([]byte(x.want)); !same(got, x.l) || e != api.OK {
			t.Errorf("Parse(%q) = %v, %d", x.want, got, e)
		}
	}
	if b := Code(many(200)); b[0] != 200 || b[1] != 1 {
		t.Errorf("200 ops begin by %d, %d", b[0], b[1])
	}
}

func TestParseWhatIsWrong(t *testing.T) {
	good := string(put(plain()))
	wrong := string(put(with(func(o *api.Op) { o.Seq = 0 })))
	for _, x := range []struct {
		b    string
		want api.Errno
	}{
		{"", api.ErrShort},
		{"\x80", api.ErrShort},
		{"\x81\x00" + good, api.ErrForm},
		{strings.Repeat("\xff", 9) + good, api.ErrForm},
		{"\x01", api.ErrShort},
		{"\x02", api.ErrSize},
		{"\x02\x05", api.ErrShort},
		{"\x03\x05", api.ErrSize},
		{"\x40" + good, api.ErrSize},
		{"\x41" + strings.Repeat(good, 65), api.ErrSize},
		{"\x41" + strings.Repeat("\xff", 99), api.ErrSize},
		{"\x40" + strings.Repeat("\xff", 99), api.ErrForm},
		{strings.Repeat("\xff", 8) + "\x7f" + good, api.ErrSize},
		{"\x00\x00", api.ErrForm},
		{"\x00" + good, api.ErrForm},
		{"\x01" + good + "\x00", api.ErrForm},
		{"\x01" + good + good, api.ErrForm},
		{"\x02" + good, api.ErrShort},
		{"\x02" + good + good[:9], api.ErrShort},
		{"\x01" + good[:9] + "\x02", api.ErrForm},
		{"\x01" + wrong, api.ErrArg},
		{"\x02" + good + wrong, api.ErrArg},
		{"\x02" + wrong + good[:4], api.ErrArg},
		{"\x01" + wrong + "\x00", api.ErrArg},
		{"\x02" + good[:9] + "\x02" + wrong, api.ErrForm},
	} {
		if l, e := Parse([]byte(x.b)); l != nil || e != x.want {
			t.Errorf("Parse(%q) = %v, %d, not %d", x.b, l, e, x.want)
		}
	}
}

func TestParseAsManyAsMayBe(t *testing.T) {
	if got, e := Parse(Code(many(64))); !same(got, many(64)) || e != api.OK {
		t.Errorf("of 64 ops %d are parsed, %d", len(got), e)
	}
	if got, e := Parse(Code(many(65))); got != nil || e != api.ErrSize {
		t.Errorf("of 65 ops %d are parsed, %d", len(got), e)
	}
}

func TestParseKeepsNothing(t *testing.T) {
	b := append(Code(may()), "spare"...)
	room := bytes.Clone(b)
	got, e := Parse(b[:len(b)-5])
	if e != api.OK || !bytes.Equal(b, room) {
		t.Errorf("%d, or its bytes were changed", e)
	}
	clear(b)
	if !same(got, may()) {
		t.Errorf("what was parsed became %v", got)
	}
}

// P7.4

func TestSorted(t *testing.T) {
	op := func(time, rep int, name string) api.Op { return api.Op{At: at(time, rep), Name: name} }
	given := []api.Op{op(5, 1, "f"), op(2, 9, "c"), op(5, 1, "e"), op(2, 3, "b"), op(5, 0, "d"), op(0, 0, "a"), op(5, 1, "a"), op(9, 0, "z")}
	want := []api.Op{op(0, 0, "a"), op(2, 3, "b"), op(2, 9, "c"), op(5, 0, "d"), op(5, 1, "f"), op(5, 1, "e"), op(5, 1, "a"), op(9, 0, "z")}
	kept := append([]api.Op{}, given...)
	got := Sorted(given)
	if !same(got, want) {
		t.Errorf("Sorted tells %v, not %v", got, want)
	}
	if !same(given, kept) {
		t.Errorf("what was handed in became %v", given)
	}
	clear(got)
	if !same(given, kept) {
		t.Error("what is told shares memory with what was handed in")
	}
	if len(Sorted(nil)) != 0 || len(Sorted([]api.Op{})) != 0 || !same(Sorted(given[:1]), given[:1]) {
		t.Error("of none, or one")
	}
}

func TestSortedOfManyAlike(t *testing.T) {
	var l []api.Op
	for i := range 1000 {
		l = append(l, api.Op{At: at(i*7%5, i%2), Seq: i})
	}
	got := Sorted(l)
	for i, o := range got[1:] {
		if c := Compare(got[i], o); c > 0 || c == 0 && got[i].Seq >= o.Seq {
			t.Errorf("%v stands ahead of %v", got[i], o)
		}
	}
	if len(got) != len(l) {
		t.Errorf("%d of %d are told", len(got), len(l))
	}
}

func TestText(t *testing.T) {
	for _, x := range []struct {
		o    api.Op
		want string
	}{
		{plain(), "5.1#2 move 3.0 in 0.0 as a dir"},
		{with(func(o *api.Op) { o.Dir, o.Name = false, "b c%\xff" }), "5.1#2 move 3.0 in 0.0 as b%20c%25%FF file"},
		{with(func(o *api.Op) { o.Parent = trash }), "5.1#2 remove 3.0 in 0.1 as a dir"},
		{with(func(o *api.Op) { o.Node, o.Parent = o.At, at(4, 63) }), "5.1#2 make 5.1 in 4.63 as a dir"},
		{with(func(o *api.Op) { o.At, o.Seq = at(api.MaxTime, 63), api.MaxSeq }), "281474976710656.63#4294967296 move 3.0 in 0.0 as a dir"},
		{api.Op{}, "0.0#0 make 0.0 in 0.0 as  file"},
		{api.Op{At: at(-4, 0), Seq: -1}, "0.0#0 move 0.0 in 0.0 as  file"},
	} {
		if got := Text(x.o); got != x.want {
			t.Errorf("Text(%v) = %q, not %q", x.o, got, x.want)
		}
	}
}

// P7.5

func TestOpsAreReadAsTheyWereWritten(t *testing.T) {
	if got, e := Parse(Code(may())); !same(got, may()) || e != api.OK {
		t.Errorf("%v was parsed, %d", got, e)
	}
}

func TestOpsAreWrittenInOneWayAlone(t *testing.T) {
	good := 0
	for _, o := range may() {
		b := Code([]api.Op{o})
		for i := range min(len(b), 40) {
			for c := range 256 {
				other := bytes.Clone(b)
				other[i] = byte(c)
				l, e := Parse(other)
				if e != api.OK {
					continue
				}
				good++
				if !bytes.Equal(Code(l), other) {
					t.Errorf("%q is parsed, and written as %q", other, Code(l))
				}
			}
		}
	}
	if good < 1000 {
		t.Errorf("%d were parsed", good)
	}
}
