package wire

import (
	"bytes"
	"math"
	"strings"
	"testing"

	"banyan/api"
)

// numbers tells numbers at the edges of how many bytes they need.
func numbers() []int {
	l := []int{0, 1, 2, 300, 1<<48 - 1, 1 << 48, 1 << 32, 65536, 12345678901234567}
	for bits := 7; bits < 63; bits += 7 {
		l = append(l, 1<<bits-1, 1<<bits, 1<<bits+1)
	}
	return append(l, math.MaxInt-1, math.MaxInt)
}

// bytesOf tells a number's bytes, from its bits, the lowest first.
func bytesOf(n int) []byte {
	var b []byte
	for {
		low := 0
		for bit := range 7 {
			low |= n & (1 << bit)
		}
		if n >>= 7; n == 0 {
			return append(b, byte(low))
		}
		b = append(b, byte(low|128))
	}
}

func written(write func(*Writer)) []byte {
	var w Writer
	write(&w)
	return w.Bytes()
}

func num(n int) []byte { return written(func(w *Writer) { w.Num(n) }) }

// P5.1

func TestNumByExample(t *testing.T) {
	for _, x := range []struct {
		n    int
		want []byte
	}{
		{0, []byte{0}},
		{1, []byte{1}},
		{127, []byte{127}},
		{128, []byte{128, 1}},
		{300, []byte{172, 2}},
		{16383, []byte{255, 127}},
		{16384, []byte{128, 128, 1}},
		{math.MaxInt, []byte{255, 255, 255, 255, 255, 255, 255, 255, 127}},
		{-1, []byte{0}},
		{-300, []byte{0}},
		{math.MinInt, []byte{0}},
	} {
		if got := num(x.n); !bytes.Equal(got, x.want) {
			t.Errorf("Num(%d) writes %v, not %v", x.n, got, x.want)
		}
	}
	for _, n := range numbers() {
		if got := num(n); !bytes.Equal(got, bytesOf(n)) {
			t.Errorf("Num(%d) writes %v, not %v", n, got, bytesOf(n))
		}
	}
}

func TestFlagTextStampByExample(t *testing.T) {
	long := strings.Repeat("x", 300)
	for _, x := range []struct {
		write func(*Writer)
		want  string
	}{
		{func(w *Writer) {}, ""},
		{func(w *Writer) { w.Flag(true) }, "\x01"},
		{func(w *Writer) { w.Flag(false) }, "\x00"},
		{func(w *Writer) { w.Text("a") }, "\x01a"},
		{func(w *Writer) { w.Text("") }, "\x00"},
		{func(w *Writer) { w.Text("\xff\x00\u20ac") }, "\x05\xff\x00\u20ac"},
		{func(w *Writer) { w.Text(long) }, "\xac\x02" + long},
		{func(w *Writer) { w.Stamp(api.Stamp{Time: 300, Rep: 5}) }, "\xac\x02\x05"},
		{func(w *Writer) { w.Stamp(api.Stamp{}) }, "\x00\x00"},
		{func(w *Writer) { w.Stamp(api.Stamp{Time: -1, Rep: -1}) }, "\x00\x00"},
		{func(w *Writer) { w.Stamp(api.Stamp{Time: -1, Rep: 9}) }, "\x00\x09"},
	} {
		var w Writer
		x.write(&w)
		if got := string(w.Bytes()); got != x.want || w.Len() != len(x.want) {
			t.Errorf("%q, of %d bytes, was written, not %q", got, w.Len(), x.want)
		}
	}
}

func TestWritesStandOneBehindTheOther(t *testing.T) {
	var w Writer
	if w.Len() != 0 || len(w.Bytes()) != 0 {
		t.Errorf("the zero Writer has written %v", w.Bytes())
	}
	want := ""
	for _, x := range []struct {
		write func(*Writer)
		bytes string
	}{
		{func(w *Writer) { w.Num(300) }, "\xac\x02"},
		{func(w *Writer) { w.Text("ab") }, "\x02ab"},
		{func(w *Writer) { w.Flag(true) }, "\x01"},
		{func(w *Writer) { w.Stamp(api.Stamp{Time: 1 << 14, Rep: 63}) }, "\x80\x80\x01\x3f"},
		{func(w *Writer) { w.Num(-5) }, "\x00"},
	} {
		x.write(&w)
		want += x.bytes
		if string(w.Bytes()) != want || w.Len() != len(want) {
			t.Errorf("%q, of %d bytes, was written, not %q", w.Bytes(), w.Len(), want)
		}
	}
}

func TestBytesAreNewMemory(t *testing.T) {
	var w Writer
	w.Text("abc")
	b := w.Bytes()
	clear(b[:cap(b)])
	w.Num(7)
	clear(b[:cap(b)])
	if got := string(w.Bytes()); got != "\x03abc\x07" {
		t.Errorf("%q was written", got)
	}
	b = w.Bytes()
	w.Num(8)
	if string(b) != "\x03abc\x07" {
		t.Errorf("what was told became %q", b)
	}
}

func TestTwoWritersHaveNothingInCommon(t *testing.T) {
	var a, b Writer
	a.Num(1)
	b.Num(2)
	if string(a.Bytes()) != "\x01" || string(b.Bytes()) != "\x02" {
		t.Errorf("%v and %v were written", a.Bytes(), b.Bytes())
	}
}

func TestANilWriterWritesNothing(t *testing.T) {
	var w *Writer
	w.Num(1)
	w.Flag(true)
	w.Text("a")
	w.Stamp(api.Stamp{Time: 1})
	if w.Len() != 0 || len(w.Bytes()) != 0 {
		t.Errorf("it wrote %v", w.Bytes())
	}
}

// P5.2

func some(n int, b byte) string { return strings.Repeat(string([]byte{b}), n) }

func TestReadNum(t *testing.T) {
	for _, x := range []struct {
		b    string
		n    int
		bad  api.Errno
		left int
	}{
		{"\x00", 0, api.OK, 0},
		{"\x7f\x01", 127, api.OK, 1},
		{"\xac\x02\x05", 300, api.OK, 1},
		{"\x80\x01", 128, api.OK, 0},
		{some(8, 255) + "\x7f!", math.MaxInt, api.OK, 1},
		{some(8, 128) + "\x01", 1 << 56, api.OK, 0},
		{"", 0, api.ErrShort, 0},
		{"\x80", 0, api.ErrShort, 0},
		{"\xff\xff\xff", 0, api.ErrShort, 0},
		{some(8, 128), 0, api.ErrShort, 0},
		{some(8, 255), 0, api.ErrShort, 0},
		{some(9, 128), 0, api.ErrForm, 0},
		{some(9, 255), 0, api.ErrForm, 0},
		{some(9, 255) + "\x01", 0, api.ErrForm, 0},
		{some(9, 128) + "\x00", 0, api.ErrForm, 0},
		{some(20, 128), 0, api.ErrForm, 0},
		{"\x80\x00", 0, api.ErrForm, 0},
		{"\xff\x00", 0, api.ErrForm, 0},
		{"\xff\xff\x00\x01", 0, api.ErrForm, 0},
		{some(8, 128) + "\x00", 0, api.ErrForm, 0},
	} {
		r := Open([]byte(x.b))
		if n := r.Num(); n != x.n || r.Bad() != x.bad || r.Left() != x.left {
			t.Errorf("of %q Num() = %d, wrong is %d, and %d are left", x.b, n, r.Bad(), r.Left())
		}
	}
}

func TestReadFlag(t *testing.T) {
	for _, x := range []struct {
		b    string
		is   bool
		bad  api.Errno
		left int
	}{
		{"\x00a", false, api.OK, 1},
		{"\x01", true, api.OK, 0},
		{"\x02", false, api.ErrForm, 0},
		{"\x7fab", false, api.ErrForm, 0},
		{"\x81\x01", false, api.ErrForm, 0},
		{"\x81\x00", false, api.ErrForm, 0},
		{"\x80\x80", false, api.ErrShort, 0},
		{"", false, api.ErrShort, 0},
	} {
		r := Open([]byte(x.b))
		if is := r.Flag(); is != x.is || r.Bad() != x.bad || r.Left() != x.left {
			t.Errorf("of %q Flag() = %v, wrong is %d, and %d are left", x.b, is, r.Bad(), r.Left())
		}
	}
}

func TestReadText(t *testing.T) {
	long := strings.Repeat("y", 300)
	for _, x := range []struct {
		b    string
		most int
		s    string
		bad  api.Errno
		left int
	}{
		{"\x01a", 1, "a", api.OK, 0},
		{"\x01abc", 5, "a", api.OK, 2},
		{"\x00", 0, "", api.OK, 0},
		{"\x00x", 9, "", api.OK, 1},
		{"\x03\xff\x00/", 3, "\xff\x00/", api.OK, 0},
		{"\xac\x02" + long + "z", 300, long, api.OK, 1},
		{"\x01a", math.MaxInt, "a", api.OK, 0},
		{"\xac\x02" + long, 299, "", api.ErrSize, 0},
		{"\x02ab", 1, "", api.ErrSize, 0},
		{"\x01a", 0, "", api.ErrSize, 0},
		{"\x00", -1, "", api.ErrSize, 0},
		{"\x01a", -1, "", api.ErrSize, 0},
		{"\x00", math.MinInt, "", api.ErrSize, 0},
		{"\x05ab", 4, "", api.ErrSize, 0},
		{"\x05ab", 5, "", api.ErrShort, 0},
		{"\x01", 1, "", api.ErrShort, 0},
		{some(8, 255) + "\x7fabc", math.MaxInt, "", api.ErrShort, 0},
		{some(8, 255) + "\x7fabc", 255, "", api.ErrSize, 0},
		{"", 9, "", api.ErrShort, 0},
		{"\x81", 9, "", api.ErrShort, 0},
		{"\x81\x00a", 9, "", api.ErrForm, 0},
		{some(9, 128), 9, "", api.ErrForm, 0},
	} {
		r := Open([]byte(x.b))
		if s := r.Text(x.most); s != x.s || r.Bad() != x.bad || r.Left() != x.left {
			t.Errorf("of %q Text(%d) = %q, wrong is %d, and %d are left", x.b, x.most, s, r.Bad(), r.Left())
		}
	}
}

func TestReadStamp(t *testing.T) {
	for _, x := range []struct {
		b    string
		s    api.Stamp
		bad  api.Errno
		left int
	}{
		{"\xac\x02\x05", api.Stamp{Time: 300, Rep: 5}, api.OK, 0},
		{"\x00\x00\x00", api.Stamp{}, api.OK, 1},
		{"\x00\xac\x02", api.Stamp{Rep: 300}, api.OK, 0},
		{some(8, 255) + "\x7f\x01", api.Stamp{Time: math.MaxInt, Rep: 1}, api.OK, 0},
		{"", api.Stamp{}, api.ErrShort, 0},
		{"\x07", api.Stamp{}, api.ErrShort, 0},
		{"\x07\x80", api.Stamp{}, api.ErrShort, 0},
		{"\x07\x80\x00", api.Stamp{}, api.ErrForm, 0},
		{"\x80\x00\x07", api.Stamp{}, api.ErrForm, 0},
	} {
		r := Open([]byte(x.b))
		if s := r.Stamp(); s != x.s || r.Bad() != x.bad || r.Left() != x.left {
			t.Errorf("of %q Stamp() = %v, wrong is %d, and %d are left", x.b, s, r.Bad(), r.Left())
		}
	}
}

// holdDone asks whether a reader, of which something is wrong, reads anything more.
func holdDone(t *testing.T, r *Reader, bad api.Errno) {
	t.Helper()
	for range 2 {
		if r.Num() != 0 || r.Flag() || r.Text(9) != "" || r.Text(-1) != "" || r.Stamp() != (api.Stamp{}) || r.Left() != 0 {
			t.Errorf("it read on, with %d wrong", bad)
		}
		r.Fail(api.ErrDown)
		r.Fail(api.OK)
		if r.Bad() != bad || r.End() != bad || r.Bad() != bad {
			t.Errorf("wrong is %d, not %d", r.Bad(), bad)
		}
	}
}

func TestOnceSomethingIsWrongNothingMoreIsRead(t *testing.T) {
	for _, x := range []struct {
		b    string
		read func(*Reader)
		bad  api.Errno
	}{
		{"\x80\x00\x01\x01a\x01", func(r *Reader) { r.Num() }, api.ErrForm},
		{some(9, 200) + "\x01\x01a\x01", func(r *Reader) { r.Num() }, api.ErrForm},
		{"\x80", func(r *Reader) { r.Num() }, api.ErrShort},
		{"\x02\x01\x01\x01\x01a", func(r *Reader) { r.Flag() }, api.ErrForm},
		{"\x05a\x01\x01\x01", func(r *Reader) { r.Text(4) }, api.ErrSize},
		{"\x05a\x01\x01\x01", func(r *Reader) { r.Text(5) }, api.ErrShort},
		{"\x01\x80\x00\x01\x01", func(r *Reader) { r.Stamp() }, api.ErrForm},
		{"\x01\x01\x01\x01", func(r *Reader) { r.End() }, api.ErrForm},
		{"\x01\x01\x01\x01", func(r *Reader) { r.Fail(api.ErrArg) }, api.ErrArg},
		{"\x01\x01\x01\x01", func(r *Reader) { r.Fail(-7) }, -7},
		{"", func(r *Reader) { r.Fail(api.ErrSum) }, api.ErrSum},
	} {
		r := Open([]byte(x.b))
		x.read(r)
		holdDone(t, r, x.bad)
	}
}

func TestFailOfNothing(t *testing.T) {
	r := Open([]byte("\x05\x06"))
	r.Fail(api.OK)
	if r.Bad() != api.OK || r.Left() != 2 || r.Num() != 5 || r.Num() != 6 || r.End() != api.OK {
		t.Errorf("wrong is %d", r.Bad())
	}
}

func TestEnd(t *testing.T) {
	for _, x := range []struct {
		b    string
		nums int
		want api.Errno
	}{
		{"", 0, api.OK},
		{"\x05", 1, api.OK},
		{"\x05\x06", 2, api.OK},
		{"\x05", 0, api.ErrForm},
		{"\x05\x80", 1, api.ErrForm},
		{"\x05", 2, api.ErrShort},
	} {
		r := Open([]byte(x.b))
		for range x.nums {
			r.Num()
		}
		if e := r.End(); e != x.want || r.Bad() != x.want || r.Left() != 0 || r.End() != x.want {
			t.Errorf("of %q, behind %d numbers, End() = %d, not %d", x.b, x.nums, e, x.want)
		}
	}
}

func TestReadOneBehindTheOther(t *testing.T) {
	b := []byte("\xac\x02\x02ab\x01\x80\x80\x01\x3f\x00\x00")
	r := Open(b)
	if r.Left() != len(b) || r.Bad() != api.OK {
		t.Errorf("%d are left", r.Left())
	}
	if r.Num() != 300 || r.Left() != 10 || r.Text(2) != "ab" || r.Left() != 7 || !r.Flag() || r.Left() != 6 || r.Stamp() != (api.Stamp{Time: 1 << 14, Rep: 63}) || r.Left() != 2 {
		t.Error("it was read another way")
	}
	if r.Flag() || r.Text(0) != "" || r.Left() != 0 || r.Bad() != api.OK || r.End() != api.OK {
		t.Errorf("wrong is %d", r.Bad())
	}
}

func TestAReaderHasItsBytesAsTheyWere(t *testing.T) {
	room := []byte("\x01a\x05spare")
	b := room[:3]
	r := Open(b)
	room[0], room[1], room[2] = 200, 200, 200
	if r.Text(1) != "a" || r.Num() != 5 || r.End() != api.OK {
		t.Error("it reads what was changed behind Open")
	}
	if string(room) != "\xc8\xc8\xc8spare" {
		t.Errorf("%q was changed", room)
	}
}

func TestANilReader(t *testing.T) {
	var r *Reader
	for range 2 {
		if r.Num() != 0 || r.Flag() || r.Text(9) != "" || r.Text(-1) != "" || r.Stamp() != (api.Stamp{}) || r.Left() != 0 {
			t.Error("it read something")
		}
		r.Fail(api.ErrArg)
		if r.Bad() != api.ErrNil || r.End() != api.ErrNil {
			t.Errorf("wrong is %d, %d", r.Bad(), r.End())
		}
	}
}

// P5.3

func TestWhatIsWrittenIsRead(t *testing.T) {
	texts := []string{"", "a", "\x00", "\xff\x80", strings.Repeat("z", 127), strings.Repeat("z", 128), strings.Repeat("z", 70000)}
	var w Writer
	for _, n := range numbers() {
		w.Num(n)
		w.Stamp(api.Stamp{Time: n, Rep: math.MaxInt - n})
		w.Flag(n%2 == 1)
	}
	for _, s := range texts {
		w.Text(s)
	}
	r := Open(w.Bytes())
	for _, n := range numbers() {
		if r.Num() != n || r.Stamp() != (api.Stamp{Time: n, Rep: math.MaxInt - n}) || r.Flag() != (n%2 == 1) {
			t.Errorf("%d, and what stands behind it, is read another way", n)
		}
	}
	for _, s := range texts {
		if r.Text(len(s)) != s {
			t.Errorf("%q is read another way", s)
		}
	}
	if e := r.End(); e != api.OK {
		t.Errorf("in the end wrong is %d", e)
	}
}

// every tells all lists of up to so many of the bytes.
func every(most int, bytes string) []string {
	l := []string{""}
	for from := 0; most > 0; most-- {
		to := len(l)
		for _, s := range l[from:to] {
			for i := range len(bytes) {
				l = append(l, s+bytes[i:i+1])
			}
		}
		from = to
	}
	return l
}

func TestWhatIsReadIsWrittenAsTheseBytes(t *testing.T) {
	reads := []func(*Reader, *Writer){
		func(r *Reader, w *Writer) { w.Num(r.Num()) },
		func(r *Reader, w *Writer) { w.Flag(r.Flag()) },
		func(r *Reader, w *Writer) { w.Text(r.Text(3)) },
		func(r *Reader, w *Writer) { w.Stamp(r.Stamp()) },
		func(r *Reader, w *Writer) { w.Num(r.Num()); w.Num(r.Num()) },
		func(r *Reader, w *Writer) { w.Flag(r.Flag()); w.Text(r.Text(3)) },
	}
	l := every(5, "\x00\x01\x02\x7f\x80\xff")
	for n := range 10 {
		for _, last := range []string{"", "\x00", "\x01", "\x7f", "\x80", "\xff"} {
			l = append(l, some(n, 128)+last, some(n, 255)+last)
		}
	}
	for i, read := range reads {
		good := 0
		for _, s := range l {
			var w Writer
			r := Open([]byte(s))
			read(r, &w)
			if r.End() == api.OK {
				good++
				if string(w.Bytes()) != s {
					t.Errorf("%q is read, and written as %q", s, w.Bytes())
				}
			}
		}
		if good < 2 {
			t.Errorf("%d texts of the way %d are read", good, i)
		}
	}
}
