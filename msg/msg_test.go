package msg

import (
	"bytes"
	"math"
	"strings"
	"testing"

	"banyan/api"
	"banyan/frame"
	"banyan/op"
	"banyan/vec"
)

func known(l ...int) vec.Vec {
	var v vec.Vec
	for i := 0; i < len(l); i += 2 {
		v[l[i]] = l[i+1]
	}
	return v
}

func all(n int) vec.Vec {
	var v vec.Vec
	for rep := range v {
		v[rep] = n
	}
	return v
}

func digestOf(v vec.Vec, time int) Msg { return Msg{Kind: frame.Digest, Known: v, Time: time} }

func requestOf(l ...vec.Range) Msg { return Msg{Kind: frame.Request, Want: l} }

func batchOf(l ...api.Op) Msg { return Msg{Kind: frame.Batch, Ops: l} }

// made tells an op that may be.
func made(time int) api.Op {
	s := api.Stamp{Time: time, Rep: 1}
	return api.Op{At: s, Seq: time, Node: s, Name: "a", Dir: true}
}

func many(n int) []api.Op {
	var l []api.Op
	for i := range n {
		l = append(l, made(i+1))
	}
	return l
}

// wants tells a range of each replica.
func wants() []vec.Range {
	var l []vec.Range
	for rep := range 64 {
		l = append(l, vec.Range{Rep: rep, From: rep + 1, To: rep + 300})
	}
	return l
}

// may tells messages that may be, at the edges of what may.
func may() []Msg {
	return []Msg{
		digestOf(vec.Vec{}, 0),
		digestOf(vec.Vec{}, api.MaxTime),
		digestOf(known(0, 3, 2, 1), 300),
		digestOf(known(63, api.MaxSeq), 1),
		digestOf(all(1), 5),
		digestOf(all(api.MaxSeq), 5),
		requestOf(),
		{Kind: frame.Request, Want: []vec.Range{}},
		requestOf(vec.Range{Rep: 0, From: 1, To: 1}),
		requestOf(vec.Range{Rep: 63, From: 1, To: api.MaxSeq}),
		requestOf(vec.Range{Rep: 3, From: api.MaxSeq, To: api.MaxSeq}, vec.Range{Rep: 4, From: 2, To: 3}),
		requestOf(wants()...),
		batchOf(),
		{Kind: frame.Batch, Ops: []api.Op{}},
		batchOf(made(1)),
		batchOf(made(5), made(2), made(5)),
		batchOf(many(64)...),
	}
}

// never tells messages that may not be.
func never() []Msg {
	one := vec.Range{Rep: 1, From: 1, To: 1}
	wrong := made(1)
	wrong.Seq = 0
	return []Msg{
		{},
		{Kind: 4},
		{Kind: -1},
		{Kind: math.MaxInt, Time: 1},
		{Kind: 0, Known: known(0, 1)},
		digestOf(known(0, -1), 0),
		digestOf(known(63, api.MaxSeq+1), 0),
		digestOf(vec.Vec{}, -1),
		digestOf(vec.Vec{}, api.MaxTime+1),
		{Kind: frame.Digest, Want: []vec.Range{one}},
		{Kind: frame.Digest, Ops: many(1)},
		requestOf(vec.Range{Rep: -1, From: 1, To: 1}),
		requestOf(vec.Range{Rep: 64, From: 1, To: 1}),
		requestOf(vec.Range{Rep: 1, From: 0, To: 1}),
		requestOf(vec.Range{Rep: 1, From: -1, To: 1}),
		requestOf(vec.Range{Rep: 1, From: 2, To: 1}),
		requestOf(vec.Range{Rep: 1, From: 1, To: api.MaxSeq + 1}),
		requestOf(vec.Range{Rep: 1, From: api.MaxSeq + 1, To: api.MaxSeq + 1}),
		requestOf(vec.Range{}),
		requestOf(one, one),
		requestOf(one, vec.Range{Rep: 1, From: 3, To: 4}),
		requestOf(vec.Range{Rep: 2, From: 1, To: 1}, one),
		requestOf(one, vec.Range{Rep: math.MaxInt, From: 1, To: 1}, one),
		requestOf(append(wants(), vec.Range{Rep: 64, From: 1, To: 1})...),
		{Kind: frame.Request, Want: []vec.Range{one}, Time: 1},
		{Kind: frame.Request, Want: []vec.Range{one}, Known: known(0, 1)},
		{Kind: frame.Request, Want: []vec.Range{one}, Ops: many(1)},
		batchOf(wrong),
		batchOf(made(1), wrong),
		batchOf(wrong, made(1)),
		batchOf(many(65)...),
		{Kind: frame.Batch, Ops: many(1), Time: 1},
		{Kind: frame.Batch, Ops: many(1), Known: known(63, 1)},
		{Kind: frame.Batch, Ops: many(1), Want: []vec.Range{one}},
	}
}

// P9.1

func TestRight(t *testing.T) {
	for _, m := range may() {
		if !Right(m) {
			t.Errorf("%v is not Right", m)
		}
	}
	for _, m := range never() {
		if Right(m) {
			t.Errorf("%v is Right", m)
		}
	}
}

func TestWhatNoMessageSays(t *testing.T) {
	if m, ok := told(nil); ok || !Same(m, Msg{}) {
		t.Errorf("nothing is told as %v, %v", m, ok)
	}
	for _, m := range may() {
		if back, ok := told(of(m)); !ok || !Same(back, m) {
			t.Errorf("what %v says is told as %v, %v", m, back, ok)
		}
	}
}

func TestSame(t *testing.T) {
	for _, a := range append(may(), never()...) {
		// Lists without anything are alike, whichever way they have nothing.
		b := a
		b.Want, b.Ops = append([]vec.Range{}, a.Want...), append([]api.Op{}, a.Ops...)
		if !Same(a, a) || !Same(a, b) || !Same(b, a) {
			t.Errorf("%v is not the same as itself", a)
		}
	}
	l := may()[:5]
	for i, a := range l {
		for j, b := range l {
			if Same(a, b) != (i == j) {
				t.Errorf("Same(%v, %v) = %v", a, b, Same(a, b))
			}
		}
	}
}

func TestSameOfOneThingThatIsAnother(t *testing.T) {
	full := func() Msg {
		return Msg{Kind: 1, Known: known(5, 6), Time: 7, Want: wants()[:2], Ops: many(2)}
	}
	for i, change := range []func(*Msg){
		func(m *Msg) { m.Kind = 2 },
		func(m *Msg) { m.Known[63] = 1 },
		func(m *Msg) { m.Known[5] = 5 },
		func(m *Msg) { m.Time = 8 },
		func(m *Msg) { m.Want = m.Want[:1] },
		func(m *Msg) { m.Want = wants()[:3] },
		func(m *Msg) { m.Want[1].To++ },
		func(m *Msg) { m.Want[0], m.Want[1] = m.Want[1], m.Want[0] },
		func(m *Msg) { m.Ops = m.Ops[1:] },
		func(m *Msg) { m.Ops = many(3) },
		func(m *Msg) { m.Ops[1].Dir = false },
	} {
		m := full()
		change(&m)
		if Same(m, full()) || Same(full(), m) {
			t.Errorf("the change %d is not told", i)
		}
	}
}

// P9.2, P9.3

func TestCodeByExample(t *testing.T) {
	for _, x := range []struct {
		m    Msg
		want string
	}{
		{digestOf(vec.Vec{}, 0), "\x00\x00"},
		{digestOf(known(0, 3, 2, 300), 128), "\x02\x00\x03\x02\xac\x02\x80\x01"},
		{digestOf(known(63, 1), api.MaxTime), "\x01\x3f\x01\x80\x80\x80\x80\x80\x80\x40"},
		{requestOf(), "\x00"},
		{requestOf(vec.Range{Rep: 0, From: 1, To: 2}), "\x01\x00\x01\x02"},
		{requestOf(vec.Range{Rep: 3, From: 4, To: 300}, vec.Range{Rep: 63, From: 5, To: 5}), "\x02\x03\x04\xac\x02\x3f\x05\x05"},
		{batchOf(), "\x00"},
		{batchOf(made(5)), "\x01\x05\x01\x05\x05\x01\x00\x00\x01a\x01"},
		{batchOf(made(5), made(2)), string(op.Code([]api.Op{made(5), made(2)}))},
	} {
		if got := string(Code(x.m)); got != x.want {
			t.Errorf("Code(%v) = %q, not %q", x.m, got, x.want)
		}
		if got, e := Parse(x.m.Kind, []byte(x.want)); !Same(got, x.m) || e != api.OK {
			t.Errorf("Parse(%d, %q) = %v, %d", x.m.Kind, x.want, got, e)
		}
	}
}

func TestCodeOfAll(t *testing.T) {
	digest, request := "\x40", "\x40"
	for rep := range 64 {
		digest += string([]byte{byte(rep), 1})
		request += string([]byte{byte(rep), byte(rep + 1), byte(128 + (rep+300)%128), byte((rep + 300) / 128)})
	}
	if got := string(Code(digestOf(all(1), 9))); got != digest+"\x09" {
		t.Errorf("of a Digest: %q", got)
	}
	if got := string(Code(requestOf(wants()...))); got != request {
		t.Errorf("of a Request: %q", got)
	}
	// Of what may not be nothing is promised but an end.
	for _, m := range never() {
		Code(m)
	}
}

func TestParseOfWhatIsNone(t *testing.T) {
	wrong := made(1)
	wrong.Seq = 0
	none := func(kind int, b string, want api.Errno) {
		t.Helper()
		if m, e := Parse(kind, []byte(b)); !Same(m, Msg{}) || m.Want != nil || m.Ops != nil || e != want {
			t.Errorf("Parse(%d, %q) = %v, %d, not %d", kind, b, m, e, want)
		}
	}
	for _, kind := range []int{0, 4, -1, math.MaxInt, math.MinInt} {
		for _, b := range []string{"", "\x00", "\x00\x00", "\x41", "\x80\x00"} {
			none(kind, b, api.ErrArg)
		}
	}
	for _, x := range []struct {
		b    string
		want api.Errno
	}{
		{"", api.ErrShort},
		{"\x41", api.ErrSize},
		{"\x41" + strings.Repeat("\x80", 70), api.ErrSize},
		{"\x01" + string(op.Code([]api.Op{wrong})[1:]), api.ErrArg},
		{"\x01" + string(op.Code([]api.Op{wrong})[1:]) + "\x00", api.ErrArg},
		{string(op.Code(many(1))) + "\x00", api.ErrForm},
		{string(op.Code(many(2))[:9]), api.ErrShort},
		{string(op.Code(many(65))), api.ErrSize},
		{"\x09" + string(op.Code(nil)), api.ErrSize},
	} {
		none(frame.Batch, x.b, x.want)
	}
	for _, kind := range []int{frame.Digest, frame.Request} {
		none(kind, "", api.ErrShort)
		none(kind, "\x80", api.ErrShort)
		none(kind, "\x80\x00\x00\x00", api.ErrForm)
		none(kind, strings.Repeat("\xff", 9), api.ErrForm)
		none(kind, "\x41", api.ErrSize)
		none(kind, "\x41"+strings.Repeat("\x80", 300), api.ErrSize)
		none(kind, strings.Repeat("\xff", 8)+"\x7f", api.ErrSize)
		none(kind, "\x40", api.ErrShort)
		none(kind, "\x40"+strings.Repeat("\x80", 300), api.ErrForm)
	}
}

func TestParseOfNoDigest(t *testing.T) {
	full := string(Code(digestOf(all(1), 9)))
	for _, x := range []struct {
		b    string
		want api.Errno
	}{
		{"\x00", api.ErrShort},
		{"\x01\x00\x05", api.ErrShort},
		{"\x01\x00", api.ErrShort},
		{"\x02\x00\x05\x01\x06", api.ErrShort},
		{"\x01\x00\x05\x80", api.ErrShort},
		{"\x00\x00\x00", api.ErrForm},
		{"\x01\x00\x05\x01\x01", api.ErrForm},
		{"\x01\x80\x00\x05\x01", api.ErrForm},
		{"\x01\x00\x85\x00\x01", api.ErrForm},
		{"\x01\x00\x05\x81\x00", api.ErrForm},
		{full[:len(full)-1], api.ErrShort},
		{full + "\x00", api.ErrForm},
		{"\x01\x00\x00\x01", api.ErrArg},
		{"\x02\x00\x00\x01\x01\x01", api.ErrArg},
		{"\x02\x00\x01\x01\x00\x01", api.ErrArg},
		{"\x01\x40\x01\x01", api.ErrArg},
		{"\x01\xac\x02\x01\x01", api.ErrArg},
		{"\x01" + strings.Repeat("\xff", 8) + "\x7f\x01\x01", api.ErrArg},
		{"\x02" + strings.Repeat("\xff", 8) + "\x7f\x01\x00\x01\x01", api.ErrArg},
		{"\x02\x01\x05\x01\x05\x01", api.ErrArg},
		{"\x02\x01\x05\x00\x05\x01", api.ErrArg},
		{"\x03\x00\x05\x02\x05\x01\x05\x01", api.ErrArg},
		{"\x01\x00\x81\x80\x80\x80\x10\x01", api.ErrArg},
		{"\x00\x81\x80\x80\x80\x80\x80\x40", api.ErrArg},
		// What is written wrong is told ahead of what may not be.
		{"\x01\x40\x01\x01\x01", api.ErrForm},
		{"\x01\x40\x01", api.ErrShort},
		{"\x01\x00\x00", api.ErrShort},
		{"\x02\x01\x05\x01\x05\x81\x00", api.ErrForm},
	} {
		if m, e := Parse(frame.Digest, []byte(x.b)); !Same(m, Msg{}) || e != x.want {
			t.Errorf("Parse of the Digest %q = %v, %d, not %d", x.b, m, e, x.want)
		}
	}
}

func TestParseOfNoRequest(t *testing.T) {
	full := string(Code(requestOf(wants()...)))
	for _, x := range []struct {
		b    string
		want api.Errno
	}{
		{"\x01", api.ErrShort},
		{"\x01\x00\x01", api.ErrShort},
		{"\x02\x00\x01\x01", api.ErrShort},
		{"\x00\x00", api.ErrForm},
		{"\x01\x00\x01\x01\x00", api.ErrForm},
		{"\x01\x80\x00\x01\x01", api.ErrForm},
		{"\x01\x00\x81\x00\x01", api.ErrForm},
		{"\x01\x00\x01\x81\x00", api.ErrForm},
		{full[:len(full)-1], api.ErrShort},
		{full + "\x01", api.ErrForm},
		{"\x01\x40\x01\x01", api.ErrArg},
		{"\x01\x00\x00\x01", api.ErrArg},
		{"\x01\x00\x00\x00", api.ErrArg},
		{"\x01\x00\x02\x01", api.ErrArg},
		{"\x01\x00\x01\x81\x80\x80\x80\x10", api.ErrArg},
		{"\x02\x01\x01\x01\x01\x02\x02", api.ErrArg},
		{"\x02\x01\x01\x01\x00\x01\x01", api.ErrArg},
		{"\x02" + strings.Repeat("\xff", 8) + "\x7f\x01\x01\x00\x01\x01", api.ErrArg},
		// What is written wrong is told ahead of what may not be.
		{"\x01\x40\x01\x01\x00", api.ErrForm},
		{"\x02\x01\x02\x01\x01", api.ErrShort},
	} {
		if m, e := Parse(frame.Request, []byte(x.b)); !Same(m, Msg{}) || m.Want != nil || e != x.want {
			t.Errorf("Parse of the Request %q = %v, %d, not %d", x.b, m, e, x.want)
		}
	}
}

func TestMemory(t *testing.T) {
	for _, m := range may() {
		want := Code(m)
		b := Code(m)
		clear(b[:cap(b)])
		if !bytes.Equal(Code(m), want) {
			t.Errorf("what was told of %v shares memory with it", m)
		}
		room := append(bytes.Clone(want), "spare"...)
		got, _ := Parse(m.Kind, room[:len(want)])
		if !bytes.Equal(room, append(bytes.Clone(want), "spare"...)) {
			t.Errorf("the bytes of %v were changed", m)
		}
		clear(room)
		if !Same(got, m) {
			t.Errorf("what was parsed became %v", got)
		}
	}
}

// P9.4

func TestMessagesAreParsedAsTheyWereTold(t *testing.T) {
	for _, m := range may() {
		if got, e := Parse(m.Kind, Code(m)); !Same(got, m) || e != api.OK {
			t.Errorf("%v is parsed as %v, %d", m, got, e)
		}
	}
}

func TestMessagesAreToldInOneWayAlone(t *testing.T) {
	good := 0
	for _, m := range may() {
		b := Code(m)
		for i := range min(len(b), 60) {
			for c := range 256 {
				other := bytes.Clone(b)
				other[i] = byte(c)
				got, e := Parse(m.Kind, other)
				if e != api.OK {
					continue
				}
				good++
				if !Right(got) || !bytes.Equal(Code(got), other) {
					t.Errorf("%q is parsed as %v, and told as %q", other, got, Code(got))
				}
			}
		}
	}
	if good < 1000 {
		t.Errorf("%d were parsed", good)
	}
}
