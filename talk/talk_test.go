package talk

import (
	"bytes"
	"math"
	"slices"
	"testing"

	"banyan/api"
	"banyan/frame"
	"banyan/hold"
	"banyan/msg"
	"banyan/stamp"
	"banyan/sum"
	"banyan/vec"
)

// o tells the op of a replica and a number.
func o(rep, seq int) api.Op {
	at := api.Stamp{Time: seq, Rep: rep}
	return api.Op{At: at, Seq: seq, Node: at, Parent: stamp.Root(), Name: "n", Dir: true}
}

// knows tells a vector of replicas and numbers.
func knows(l ...int) vec.Vec {
	var v vec.Vec
	for i := 0; i < len(l); i += 2 {
		v[l[i]] = l[i+1]
	}
	return v
}

// holding tells a hold of all ops up to a vector, of those that are behind a base.
func holding(t *testing.T, base, known vec.Vec) *hold.Hold {
	t.Helper()
	h, e := hold.New(base)
	if e != api.OK {
		t.Fatal(e)
	}
	for rep, n := range known {
		for seq := base[rep] + 1; seq <= n; seq++ {
			if e := h.Put(o(rep, seq)); e != api.OK {
				t.Fatal(e)
			}
		}
	}
	return h
}

// want tells the range of a replica.
func want(rep, from, to int) vec.Range { return vec.Range{Rep: rep, From: from, To: to} }

// some tells a message of each kind.
func some() []msg.Msg {
	return []msg.Msg{
		{Kind: frame.Digest},
		{Kind: frame.Digest, Known: knows(0, 2, 63, api.MaxSeq), Time: api.MaxTime},
		{Kind: frame.Request},
		{Kind: frame.Request, Want: []vec.Range{want(0, 1, 2), want(5, 9, 9)}},
		{Kind: frame.Batch},
		{Kind: frame.Batch, Ops: []api.Op{o(3, 1), o(1, 7)}},
	}
}

// refused asks whether bytes are not got, by this error.
func refused(t *testing.T, me, reps int, b []byte, want api.Errno) {
	t.Helper()
	if x, e := Get(me, reps, b); e != want || x.From != 0 || !msg.Same(x.M, msg.Msg{}) {
		t.Errorf("Get(%d, %d) = %v, %d, not %d", me, reps, x, e, want)
	}
}

// framed tells a frame of any body.
func framed(t *testing.T, kind, from, to int, body ...byte) []byte {
	t.Helper()
	b, e := frame.Put(frame.Frame{Kind: kind, From: from, To: to, Body: body})
	if e != api.OK {
		t.Fatal(e)
	}
	return b
}

// P30.1

func TestPut(t *testing.T) {
	if MaxBatches != 8 {
		t.Errorf("MaxBatches = %d", MaxBatches)
	}
	for _, m := range some() {
		b, e := Put(2, 63, m)
		if want := framed(t, m.Kind, 2, 63, msg.Code(m)...); e != api.OK || !bytes.Equal(b, want) {
			t.Errorf("Put(%v) = %v, %d, not %v", m, b, e, want)
		}
		for _, x := range [][2]int{{2, 2}, {0, 0}, {-1, 2}, {2, -1}, {64, 2}, {2, 64}, {math.MinInt, math.MaxInt}} {
			if b, e := Put(x[0], x[1], m); len(b) != 0 || e != api.ErrArg {
				t.Errorf("Put from %d to %d = %v, %d", x[0], x[1], b, e)
			}
		}
	}
	for _, m := range []msg.Msg{{}, {Kind: 4}, {Kind: -1}, {Kind: frame.Digest, Time: -1}, {Kind: frame.Digest, Known: knows(0, -1)}, {Kind: frame.Request, Time: 1}, {Kind: frame.Request, Want: []vec.Range{want(0, 2, 1)}}, {Kind: frame.Batch, Ops: []api.Op{{}}}, {Kind: frame.Batch, Ops: make([]api.Op, 65)}} {
		if b, e := Put(0, 1, m); len(b) != 0 || e != api.ErrArg {
			t.Errorf("Put(%v) = %v, %d", m, b, e)
		}
	}
}

func TestDigest(t *testing.T) {
	for _, v := range []vec.Vec{{}, knows(3, 7), knows(0, 1, 63, api.MaxSeq)} {
		for _, time := range []int{0, 9, api.MaxTime} {
			b, e := Digest(1, 5, v, time)
			want, _ := Put(1, 5, msg.Msg{Kind: frame.Digest, Known: v, Time: time})
			if e != api.OK || len(b) == 0 || !bytes.Equal(b, want) {
				t.Errorf("Digest = %v, %d", b, e)
			}
		}
	}
	for _, x := range []struct {
		from, to int
		v        vec.Vec
		time     int
	}{{1, 1, vec.Vec{}, 0}, {1, 64, vec.Vec{}, 0}, {-1, 2, vec.Vec{}, 0}, {0, 1, knows(0, -1), 0}, {0, 1, knows(0, api.MaxSeq+1), 0}, {0, 1, vec.Vec{}, -1}, {0, 1, vec.Vec{}, api.MaxTime + 1}} {
		if b, e := Digest(x.from, x.to, x.v, x.time); len(b) != 0 || e != api.ErrArg {
			t.Errorf("Digest(%v) = %v, %d", x, b, e)
		}
	}
}

// P30.2

func TestGet(t *testing.T) {
	for _, m := range some() {
		b, _ := Put(2, 5, m)
		was := bytes.Clone(b)
		x, e := Get(5, 3, b)
		if e != api.OK || x.From != 2 || !msg.Same(x.M, m) {
			t.Errorf("Get = %v, %d, not %v", x, e, m)
		}
		refused(t, 5, 2, b, api.ErrArg)
		refused(t, 5, 0, b, api.ErrArg)
		refused(t, 5, -1, b, api.ErrArg)
		for _, me := range []int{-1, 0, 2, 4, 6, 63, 64, math.MaxInt} {
			refused(t, me, 64, b, api.ErrArg)
		}
		for i := range b {
			b[i] ^= 64
			refused(t, 5, 64, b, api.ErrSum)
			b[i] ^= 64
		}
		for n := range b {
			if n < 8 {
				refused(t, 5, 64, b[:n], api.ErrShort)
			} else {
				refused(t, 5, 64, b[:n], api.ErrSum)
			}
		}
		if !bytes.Equal(b, was) {
			t.Error("what was handed in was changed")
		}
	}
}

func TestGetOfWhatIsNoMessage(t *testing.T) {
	refused(t, 1, 64, sum.Seal([]byte{2, 1, 0, 1}), api.ErrForm)
	refused(t, 1, 64, sum.Seal([]byte{1, 4, 0, 1}), api.ErrArg)
	refused(t, 1, 64, sum.Seal([]byte{1, 0, 0, 1}), api.ErrArg)
	refused(t, 1, 64, sum.Seal([]byte{1, 1, 1, 1}), api.ErrArg)
	refused(t, 1, 64, sum.Seal([]byte{1, 1, 64, 1}), api.ErrArg)
	refused(t, 1, 64, sum.Seal(make([]byte, 4+frame.MaxBody+1)), api.ErrForm)
	refused(t, 1, 64, sum.Seal(append([]byte{1, 1, 0, 1}, make([]byte, frame.MaxBody+1)...)), api.ErrSize)
	for _, kind := range []int{frame.Digest, frame.Request, frame.Batch} {
		refused(t, 1, 64, framed(t, kind, 0, 1), api.ErrShort)
		refused(t, 1, 64, framed(t, kind, 0, 1, 65), api.ErrSize)
		refused(t, 1, 64, framed(t, kind, 0, 1, 0, 0, 0), api.ErrForm)
		// To whom it goes is asked ahead of what it says.
		refused(t, 2, 64, framed(t, kind, 0, 1, 65), api.ErrArg)
		refused(t, 1, 3, framed(t, kind, 3, 1, 65), api.ErrArg)
	}
	refused(t, 1, 64, framed(t, frame.Request, 0, 1, 1, 0, 2, 1), api.ErrArg)
}

// P30.3

// answer asks for answers, each of which goes from 4 to the one who is answered.
func answer(t *testing.T, h *hold.Hold, from int, m msg.Msg) []msg.Msg {
	t.Helper()
	var l []msg.Msg
	for _, b := range Answer(h, 4, Heard{From: from, M: m}) {
		f, _ := frame.Get(b)
		x, e := Get(from, 5, b)
		if e != api.OK || x.From != 4 || f.To != from {
			t.Fatalf("from %d to %d: %d", x.From, f.To, e)
		}
		l = append(l, x.M)
	}
	return l
}

// same asks whether messages are the same.
func same(a []msg.Msg, b ...msg.Msg) bool { return slices.EqualFunc(a, b, msg.Same) }

func TestAnswerOfADigest(t *testing.T) {
	h := holding(t, knows(2, 3), knows(0, 2, 2, 5))
	for _, x := range []struct {
		v    vec.Vec
		want []vec.Range
	}{
		{vec.Vec{}, nil},
		{knows(0, 2, 2, 5), nil},
		{knows(0, 1, 2, 3), nil},
		{knows(0, 3), []vec.Range{want(0, 3, 3)}},
		{knows(0, 9, 1, 4, 2, 5, 63, api.MaxSeq), []vec.Range{want(0, 3, 9), want(1, 1, 4), want(63, 1, api.MaxSeq)}},
	} {
		l := answer(t, h, 1, msg.Msg{Kind: frame.Digest, Known: x.v, Time: 5})
		if x.want == nil && len(l) != 0 || x.want != nil && !same(l, msg.Msg{Kind: frame.Request, Want: x.want}) {
			t.Errorf("%q is answered by %v", vec.Text(x.v), l)
		}
	}
	if l := answer(t, nil, 0, msg.Msg{Kind: frame.Digest, Known: knows(0, 2)}); !same(l, msg.Msg{Kind: frame.Request, Want: []vec.Range{want(0, 1, 2)}}) {
		t.Errorf("who knows nothing answers %v", l)
	}
}

// batches tells the batches of ops.
func batches(sizes ...int) []msg.Msg {
	var l []msg.Msg
	seq := 0
	for _, n := range sizes {
		m := msg.Msg{Kind: frame.Batch}
		for range n {
			seq++
			m.Ops = append(m.Ops, o(0, seq))
		}
		l = append(l, m)
	}
	return l
}

func TestAnswerOfARequest(t *testing.T) {
	h := holding(t, vec.Vec{}, knows(0, 600, 3, 2))
	for n, sizes := range map[int][]int{
		1: {1}, 63: {63}, 64: {64}, 65: {64, 1}, 128: {64, 64}, 511: {64, 64, 64, 64, 64, 64, 64, 63},
		512: {64, 64, 64, 64, 64, 64, 64, 64}, 513: {64, 64, 64, 64, 64, 64, 64, 64}, 9999: {64, 64, 64, 64, 64, 64, 64, 64},
	} {
		if l := answer(t, h, 1, msg.Msg{Kind: frame.Request, Want: []vec.Range{want(0, 1, n)}}); !same(l, batches(sizes...)...) {
			t.Errorf("of %d there are %d batches", n, len(l))
		}
	}
	m := msg.Msg{Kind: frame.Request, Want: []vec.Range{want(0, 599, 700), want(2, 1, 9), want(3, 2, 2)}}
	if l := answer(t, h, 1, m); !same(l, msg.Msg{Kind: frame.Batch, Ops: []api.Op{o(0, 599), o(0, 600), o(3, 2)}}) {
		t.Errorf("%v", l)
	}
	for _, m := range []msg.Msg{{Kind: frame.Request}, {Kind: frame.Request, Want: []vec.Range{want(1, 1, 9)}}} {
		if l := answer(t, h, 1, m); len(l) != 0 {
			t.Errorf("%v", l)
		}
	}
	if l := answer(t, nil, 1, m); len(l) != 0 {
		t.Errorf("who has nothing answers %v", l)
	}
}

func TestABatchIsNotAnswered(t *testing.T) {
	for _, m := range []msg.Msg{{Kind: frame.Batch}, {Kind: frame.Batch, Ops: []api.Op{o(1, 1)}}} {
		if l := Answer(holding(t, vec.Vec{}, knows(1, 3)), 4, Heard{From: 1, M: m}); len(l) != 0 {
			t.Errorf("%v", l)
		}
	}
}

func TestAFrameThatIsRefusedIsLeftOut(t *testing.T) {
	h := holding(t, vec.Vec{}, knows(0, 3))
	for _, me := range []int{1, 64, -1} {
		for _, m := range []msg.Msg{{Kind: frame.Digest, Known: knows(5, 5)}, {Kind: frame.Request, Want: []vec.Range{want(0, 1, 3)}}} {
			if l := Answer(h, me, Heard{From: 1, M: m}); len(l) != 0 {
				t.Errorf("%d answers %v", me, l)
			}
		}
	}
}

// P30.4

func TestAnExchangeHasAllThatIsLacked(t *testing.T) {
	for seed := range 60 {
		n := seed
		next := func(most int) int {
			n = (n*75 + 74) % 65537
			return n % most
		}
		var known, base, other vec.Vec
		for rep := range 5 {
			base[rep] = next(4)
			known[rep] = base[rep] + next(100)
			other[rep] = next(100)
		}
		a, b := holding(t, base, known), holding(t, vec.Vec{}, other)
		digest, _ := Digest(0, 1, a.Known(), 9)
		x, _ := Get(1, 2, digest)
		var got []api.Op
		for _, f := range Answer(b, 1, x) {
			y, _ := Get(0, 2, f)
			for _, g := range Answer(a, 0, y) {
				z, e := Get(1, 2, g)
				if e != api.OK {
					t.Fatal(e)
				}
				got = append(got, z.M.Ops...)
			}
		}
		if want := a.Take(vec.Lacks(b.Known(), a.Known()), 1000); len(want) > 512 || !slices.Equal(got, want) {
			t.Fatalf("%d came, %d were lacked", len(got), len(want))
		}
	}
}
