package frame

import (
	"bytes"
	"math"
	"strings"
	"testing"

	"banyan/api"
	"banyan/sum"
)

// plain is a frame that may be; tests change one thing of it each.
func plain() Frame {
	return Frame{Kind: Request, From: 3, To: 5, Body: []byte("ab")}
}

func with(change func(*Frame)) Frame {
	f := plain()
	change(&f)
	return f
}

// may tells frames that may be, at the edges of what may.
func may() []Frame {
	return []Frame{
		plain(),
		with(func(f *Frame) { f.Kind = Digest }),
		with(func(f *Frame) { f.Kind = Batch }),
		with(func(f *Frame) { f.From = 0 }),
		with(func(f *Frame) { f.From = 63 }),
		with(func(f *Frame) { f.To = 0 }),
		with(func(f *Frame) { f.To = 63 }),
		with(func(f *Frame) { f.Body = nil }),
		with(func(f *Frame) { f.Body = []byte{} }),
		with(func(f *Frame) { f.Body = []byte{0} }),
		with(func(f *Frame) { f.Body = bytes.Repeat([]byte{7}, 65535) }),
		with(func(f *Frame) { f.Body = bytes.Repeat([]byte{7, 9}, 32768) }),
	}
}

// never tells frames that may not be, by their errors.
func never() map[api.Errno][]Frame {
	long := make([]byte, 65537)
	return map[api.Errno][]Frame{
		api.ErrArg: {
			{},
			with(func(f *Frame) { f.Kind = 0 }),
			with(func(f *Frame) { f.Kind = -1 }),
			with(func(f *Frame) { f.Kind = 4 }),
			with(func(f *Frame) { f.Kind = 257 }),
			with(func(f *Frame) { f.Kind = math.MinInt }),
			with(func(f *Frame) { f.From = -1 }),
			with(func(f *Frame) { f.From = 64 }),
			with(func(f *Frame) { f.From = 256 }),
			with(func(f *Frame) { f.To = -1 }),
			with(func(f *Frame) { f.To = 64 }),
			with(func(f *Frame) { f.To = math.MaxInt }),
			with(func(f *Frame) { f.To = f.From }),
			with(func(f *Frame) { f.From, f.To = 0, 0 }),
			// That is named ahead of how long the body is.
			with(func(f *Frame) { f.Kind, f.Body = 0, long }),
			with(func(f *Frame) { f.From, f.Body = 64, long }),
			with(func(f *Frame) { f.To, f.Body = 64, long }),
			with(func(f *Frame) { f.To, f.Body = 3, long }),
		},
		api.ErrSize: {
			with(func(f *Frame) { f.Body = long }),
			with(func(f *Frame) { f.Body = make([]byte, 1<<20) }),
		},
	}
}

// P8.1

func TestTheConstants(t *testing.T) {
	if Version != 1 || MaxBody != 65536 || Digest != 1 || Request != 2 || Batch != 3 {
		t.Errorf("%d, %d, %d, %d, %d", Version, MaxBody, Digest, Request, Batch)
	}
}

func TestCheck(t *testing.T) {
	for _, f := range may() {
		if e := Check(f); e != api.OK {
			t.Errorf("Check of %d from %d to %d, of %d bytes: %d", f.Kind, f.From, f.To, len(f.Body), e)
		}
	}
	for want, l := range never() {
		for _, f := range l {
			if e := Check(f); e != want {
				t.Errorf("Check of %d from %d to %d, of %d bytes: %d, not %d", f.Kind, f.From, f.To, len(f.Body), e, want)
			}
		}
	}
	for from := -2; from < 66; from++ {
		for to := -2; to < 66; to++ {
			is := 0 <= from && from <= 63 && 0 <= to && to <= 63 && from != to
			if e := Check(Frame{Kind: Digest, From: from, To: to}); is != (e == api.OK) || !is && e != api.ErrArg {
				t.Errorf("from %d to %d: %d", from, to, e)
			}
		}
	}
}

func TestSame(t *testing.T) {
	for _, f := range append(may(), Frame{}, Frame{Kind: -1, From: 99, To: 99, Body: []byte("x")}) {
		g := f
		g.Body = bytes.Clone(f.Body)
		if !Same(f, f) || !Same(f, g) || !Same(g, f) {
			t.Errorf("%v is not the same as itself", f)
		}
	}
	for _, f := range []Frame{
		with(func(f *Frame) { f.Kind = Batch }),
		with(func(f *Frame) { f.From = 4 }),
		with(func(f *Frame) { f.To = 4 }),
		with(func(f *Frame) { f.From, f.To = 5, 3 }),
		with(func(f *Frame) { f.Body = nil }),
		with(func(f *Frame) { f.Body = []byte("a") }),
		with(func(f *Frame) { f.Body = []byte("abc") }),
		with(func(f *Frame) { f.Body = []byte("aB") }),
		{},
	} {
		if Same(f, plain()) || Same(plain(), f) {
			t.Errorf("%v is the same as %v", f, plain())
		}
	}
	if !Same(with(func(f *Frame) { f.Body = nil }), with(func(f *Frame) { f.Body = []byte{} })) {
		t.Error("bodies without bytes are not the same")
	}
}

// P8.2

func TestPutByExample(t *testing.T) {
	for _, x := range []struct {
		f    Frame
		want string
	}{
		{plain(), "\x01\x02\x03\x05ab"},
		{Frame{Kind: Digest, From: 0, To: 1}, "\x01\x01\x00\x01"},
		{Frame{Kind: Batch, From: 63, To: 0, Body: []byte{0, 255}}, "\x01\x03\x3f\x00\x00\xff"},
	} {
		b, e := Put(x.f)
		if want := sum.Seal([]byte(x.want)); !bytes.Equal(b, want) || e != api.OK {
			t.Errorf("Put(%v) = %v, %d, not %v", x.f, b, e, want)
		}
		if f, e := Get(sum.Seal([]byte(x.want))); !Same(f, x.f) || e != api.OK {
			t.Errorf("Get of it is %v, %d", f, e)
		}
	}
	if b, _ := Put(Frame{Kind: Digest, To: 1}); len(b) != 8 {
		t.Errorf("an empty Digest has %d bytes", len(b))
	}
}

func TestPutOfWhatMayNotBe(t *testing.T) {
	for want, l := range never() {
		for _, f := range l {
			if b, e := Put(f); b != nil || e != want {
				t.Errorf("Put of %d from %d to %d tells %d bytes, %d, not %d", f.Kind, f.From, f.To, len(b), e, want)
			}
		}
	}
}

func TestGetOfWhatIsNone(t *testing.T) {
	long := strings.Repeat("x", 65537)
	sealed := func(s string) string { return string(sum.Seal([]byte(s))) }
	for _, x := range []struct {
		b    string
		want api.Errno
	}{
		{"", api.ErrShort},
		{"\x01", api.ErrShort},
		{"\x01\x01\x00\x01\x00\x00\x00", api.ErrShort},
		{sealed(""), api.ErrShort},
		{sealed("\x01\x01\x00"), api.ErrShort},
		{sealed("\x02\x01\x00"), api.ErrShort},
		{"\x01\x01\x00\x01\x00\x00\x00\x00", api.ErrSum},
		{"\x02\x01\x00\x01\x00\x00\x00\x00", api.ErrSum},
		{"\x01\x09\x00\x01\x00\x00\x00\x00\x00", api.ErrSum},
		{sealed("\x01\x01\x00\x01") + "\x00", api.ErrSum},
		{"\x00" + sealed("\x01\x01\x00\x01"), api.ErrSum},
		{long, api.ErrSum},
		{sealed("\x00\x01\x00\x01"), api.ErrForm},
		{sealed("\x02\x01\x00\x01"), api.ErrForm},
		{sealed("\xff\x01\x00\x01ab"), api.ErrForm},
		{sealed("\x02\x09\x00\x00"), api.ErrForm},
		{sealed("\x00\x01\x00\x01" + long), api.ErrForm},
		{sealed("\x01\x00\x00\x01"), api.ErrArg},
		{sealed("\x01\x04\x00\x01"), api.ErrArg},
		{sealed("\x01\xff\x00\x01"), api.ErrArg},
		{sealed("\x01\x01\x40\x01"), api.ErrArg},
		{sealed("\x01\x01\xff\x01"), api.ErrArg},
		{sealed("\x01\x01\x00\x40"), api.ErrArg},
		{sealed("\x01\x01\x02\x02ab"), api.ErrArg},
		{sealed("\x01\x01\x02\x02" + long), api.ErrArg},
		{sealed("\x01\x01\x02\x03" + long), api.ErrSize},
	} {
		if f, e := Get([]byte(x.b)); f.Kind != 0 || f.From != 0 || f.To != 0 || f.Body != nil || e != x.want {
			t.Errorf("Get of %d bytes, first %q, = %d from %d to %d, %d, not %d", len(x.b), x.b[:min(9, len(x.b))], f.Kind, f.From, f.To, e, x.want)
		}
	}
}

func TestWhatIsToldSharesNoMemory(t *testing.T) {
	room := []byte("body, spare room")
	b, _ := Put(Frame{Kind: Batch, From: 1, To: 2, Body: room[:4]})
	if string(room) != "body, spare room" {
		t.Errorf("Put changed %q", room)
	}
	want := bytes.Clone(b)
	clear(room)
	if !bytes.Equal(b, want) {
		t.Error("what Put told was changed")
	}
	room = append(bytes.Clone(b), "spare"...)
	kept := bytes.Clone(room)
	f, _ := Get(room[:len(b)])
	clear(f.Body[:cap(f.Body)])
	if !bytes.Equal(room, kept) {
		t.Error("what Get told shares memory with what was handed in")
	}
	f, _ = Get(room[:len(b)])
	clear(room)
	if string(f.Body) != "body" {
		t.Errorf("what Get told became %q", f.Body)
	}
}

// P8.3

func TestFramesAreGotAsTheyWerePut(t *testing.T) {
	for _, f := range may() {
		b, e := Put(f)
		if e != api.OK || len(b) != 8+len(f.Body) {
			t.Errorf("Put tells %d bytes of a body of %d, %d", len(b), len(f.Body), e)
		}
		if g, e := Get(b); !Same(f, g) || e != api.OK {
			t.Errorf("%d from %d to %d, of %d bytes: got as %d from %d to %d, of %d bytes, %d", f.Kind, f.From, f.To, len(f.Body), g.Kind, g.From, g.To, len(g.Body), e)
		}
	}
}

func TestAByteThatIsAnotherOneIsTold(t *testing.T) {
	for _, f := range []Frame{plain(), {Kind: Digest, From: 0, To: 1}, {Kind: Batch, From: 63, To: 62, Body: []byte(strings.Repeat("x\x00", 20))}} {
		b, _ := Put(f)
		for i := range b {
			for by := 1; by < 256; by++ {
				b[i] ^= byte(by)
				if g, e := Get(b); e != api.ErrSum || g.Kind != 0 || g.Body != nil {
					t.Errorf("with the byte %d turned by %d: %v, %d", i, by, g, e)
				}
				b[i] ^= byte(by)
			}
		}
	}
}
