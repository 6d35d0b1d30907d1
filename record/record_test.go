package record

import (
	"bytes"
	"math"
	"slices"
	"strings"
	"testing"

	"banyan/api"
	"banyan/sum"
)

// written tells a record in the document's own words.
func written(s string) string {
	n := len(s)
	ahead := string([]byte{byte(n % 256), byte(n / 256 % 256), byte(n / 65536), 0}) + s
	c := sum.Of([]byte(ahead))
	return ahead + string([]byte{byte(c), byte(c >> 8), byte(c >> 16), byte(c >> 24)})
}

// texts are what records say, at the edges of how many bytes they may have, and are written in.
func texts() []string {
	return []string{"", "a", "ab", "\x00\x00\x00\x00", "\xff", strings.Repeat("x", 255), strings.Repeat("y", 256), strings.Repeat("z", 65535), strings.Repeat("\x00", 65536)}
}

// P11.1

func TestPut(t *testing.T) {
	if Most != 65536 || Over != 8 {
		t.Errorf("Most is %d, Over %d", Most, Over)
	}
	for _, s := range texts() {
		if b, e := Put([]byte(s)); string(b) != written(s) || e != api.OK {
			t.Errorf("Put of %d bytes tells %d, %d", len(s), len(b), e)
		}
	}
	if b, e := Put(nil); string(b) != written("") || e != api.OK {
		t.Errorf("Put(nil) = %v, %d", b, e)
	}
	if b, _ := Put([]byte("ab")); len(b) != 10 || string(b[:6]) != "\x02\x00\x00\x00ab" {
		t.Errorf("of ab: %v", b)
	}
	for _, n := range []int{65537, 70000, 1 << 20} {
		if b, e := Put(make([]byte, n)); b != nil || e != api.ErrSize {
			t.Errorf("Put of %d bytes tells %d, %d", n, len(b), e)
		}
	}
}

func TestSize(t *testing.T) {
	for n, want := range map[int]int{0: 8, 1: 9, 2: 10, 65536: 65544, -1: 8, -100: 8, math.MinInt: 8} {
		if Size(n) != want {
			t.Errorf("Size(%d) = %d, not %d", n, Size(n), want)
		}
	}
	for _, s := range texts() {
		if b, _ := Put([]byte(s)); len(b) != Size(len(s)) {
			t.Errorf("the record of %d bytes has %d", len(s), len(b))
		}
	}
}

// P11.2

func TestFirst(t *testing.T) {
	for _, s := range texts() {
		for _, behind := range []string{"", "\x00", "\xff\xff\xff\xff\xff", written("next")} {
			if b, n, e := First([]byte(written(s) + behind)); string(b) != s || n != len(s)+8 || e != api.OK {
				t.Errorf("First of a record of %d bytes: %d, %d, %d", len(s), len(b), n, e)
			}
		}
	}
}

func TestFirstOfNone(t *testing.T) {
	ab := written("ab")
	turned := func(i int) string {
		b := []byte(ab)
		b[i] ^= 1
		return string(b)
	}
	for _, x := range []struct {
		b    string
		want api.Errno
	}{
		{"", api.ErrShort},
		{"\x02", api.ErrShort},
		{"\xff\xff\xff", api.ErrShort},
		{"\x00\x00\x00\x00", api.ErrShort},
		{"\x02\x00\x00\x00", api.ErrShort},
		{ab[:9], api.ErrShort},
		{ab[:5], api.ErrShort},
		{"\x00\x00\x01\x00", api.ErrShort},
		{written(strings.Repeat("x", 65536))[:65543], api.ErrShort},
		{"\x01\x00\x01\x00", api.ErrSize},
		{"\x00\x00\x02\x00", api.ErrSize},
		{"\x00\x00\x00\x01", api.ErrSize},
		{"\xff\xff\xff\xff", api.ErrSize},
		{"\xff\xff\xff\xffabcdef", api.ErrSize},
		{written(strings.Repeat("x", 65537)), api.ErrSize},
		{"\x00\x00\x00\x00\x00\x00\x00\x00", api.ErrSum},
		{ab[1:] + strings.Repeat("a", 70000), api.ErrSize},
		{"\x01" + ab[1:], api.ErrSum},
		{"\x03" + ab[1:] + "x", api.ErrSum},
		{turned(4), api.ErrSum},
		{turned(5), api.ErrSum},
		{turned(6), api.ErrSum},
		{turned(9), api.ErrSum},
		{turned(9) + ab, api.ErrSum},
	} {
		if b, n, e := First([]byte(x.b)); b != nil || n != 0 || e != x.want {
			t.Errorf("First of %d bytes, first %q: %q, %d, %d, not %d", len(x.b), x.b[:min(len(x.b), 12)], b, n, e, x.want)
		}
	}
	if b, n, e := First(nil); b != nil || n != 0 || e != api.ErrShort {
		t.Errorf("First(nil) = %v, %d, %d", b, n, e)
	}
}

// P11.3

// told tells what is gone through, and how it is cut off by a most.
func told(b []byte, most int) ([]int, []string) {
	var places []int
	var says []string
	if most == 0 {
		return nil, nil
	}
	for at, s := range All(b) {
		places = append(places, at)
		says = append(says, string(s))
		if len(says) == most {
			break
		}
	}
	return places, says
}

func TestAllAndWhole(t *testing.T) {
	three := written("ab") + written("") + written("cde")
	for _, x := range []struct {
		b      string
		places []int
		says   []string
		bytes  int
	}{
		{"", nil, nil, 0},
		{"\x00\x00\x00", nil, nil, 0},
		{written("ab"), []int{0}, []string{"ab"}, 10},
		{written("ab")[:9], nil, nil, 0},
		{three, []int{0, 10, 18}, []string{"ab", "", "cde"}, 29},
		{three + "\x00", []int{0, 10, 18}, []string{"ab", "", "cde"}, 29},
		{three + "\xff\xff\xff\xff", []int{0, 10, 18}, []string{"ab", "", "cde"}, 29},
		{three[:28], []int{0, 10}, []string{"ab", ""}, 18},
		{written("ab") + "x" + written("cde"), []int{0}, []string{"ab"}, 10},
		{"x" + three, nil, nil, 0},
		{written("ab") + strings.Repeat("\x00", 8) + written("cde"), []int{0}, []string{"ab"}, 10},
		{written(strings.Repeat("x", 65536)) + written("y"), []int{0, 65544}, []string{strings.Repeat("x", 65536), "y"}, 65553},
	} {
		places, says := told([]byte(x.b), -1)
		if !slices.Equal(places, x.places) || !slices.Equal(says, x.says) {
			t.Errorf("All of %d bytes tells %d records, at %d", len(x.b), len(says), places)
		}
		if records, n := Whole([]byte(x.b)); records != len(x.says) || n != x.bytes {
			t.Errorf("Whole of %d bytes = %d, %d, not %d, %d", len(x.b), records, n, len(x.says), x.bytes)
		}
	}
	if records, n := Whole(nil); records != 0 || n != 0 {
		t.Errorf("Whole(nil) = %d, %d", records, n)
	}
}

func TestAllMayBeLeft(t *testing.T) {
	b := []byte(written("ab") + written("") + written("cde"))
	for most, want := range [][]string{nil, {"ab"}, {"ab", ""}, {"ab", "", "cde"}, {"ab", "", "cde"}} {
		if _, says := told(b, most); !slices.Equal(says, want) {
			t.Errorf("the first %d are %q", most, says)
		}
	}
	// Each who goes through them begins at the first one.
	all := All(b)
	for range 2 {
		for at, s := range all {
			if at != 0 || string(s) != "ab" {
				t.Errorf("first stands %q, at %d", s, at)
			}
			break
		}
		n := 0
		for range all {
			n++
		}
		if n != 3 {
			t.Errorf("%d are told", n)
		}
	}
}

// holdApart asks whether what is told shares memory with what was handed in, its spare room included.
func holdApart(t *testing.T, tell func([]byte) []byte, s string) {
	t.Helper()
	room := []byte(s + "spare room")
	b := tell(room[:len(s)])
	want := string(b)
	clear(room)
	if string(b) != want {
		t.Errorf("%q, that was told of %q, became %q", want, s, b)
	}
	room = []byte(s + "spare room")
	b = tell(room[:len(s)])
	clear(b[:cap(b)])
	if string(room) != s+"spare room" {
		t.Errorf("%q was changed to %q", s+"spare room", room)
	}
}

func TestMemory(t *testing.T) {
	for _, s := range []string{"a", "abcdef"} {
		holdApart(t, func(b []byte) []byte { b, _ = Put(b); return b }, s)
		holdApart(t, func(b []byte) []byte { b, _, _ = First(b); return b }, written(s)+written(s))
		holdApart(t, func(b []byte) []byte {
			for _, b := range All(b) {
				return b
			}
			return nil
		}, written(s))
	}
}

func TestAllTellsTheBytesAsTheyWere(t *testing.T) {
	b := []byte(written("ab") + written("cd") + written("ef"))
	all := All(b)
	clear(b)
	var says []string
	for _, s := range all {
		says = append(says, string(s))
		clear(s[:cap(s)])
	}
	if !slices.Equal(says, []string{"ab", "cd", "ef"}) {
		t.Errorf("%q are told", says)
	}
	says = nil
	for _, s := range all {
		says = append(says, string(s))
	}
	if !slices.Equal(says, []string{"ab", "cd", "ef"}) {
		t.Errorf("the second time %q are told", says)
	}
}

// P11.4

func TestOfAnyBeginningJustTheWholeOnes(t *testing.T) {
	var b []byte
	var ends []int
	want := []string{"ab", "", "\x00\x00\x00\x00", strings.Repeat("x", 300), written("in it"), "\xff", "last"}
	for _, s := range want {
		r, _ := Put([]byte(s))
		b = append(b, r...)
		ends = append(ends, len(b))
	}
	for n := range len(b) + 1 {
		whole, bytes := 0, 0
		for i, end := range ends {
			if end <= n {
				whole, bytes = i+1, end
			}
		}
		_, says := told(b[:n], -1)
		if !slices.Equal(says, want[:whole]) {
			t.Errorf("of the first %d bytes %q are told", n, says)
		}
		if records, took := Whole(b[:n]); records != whole || took != bytes {
			t.Errorf("Whole of the first %d bytes = %d, %d, not %d, %d", n, records, took, whole, bytes)
		}
	}
}

func TestRecordsThatArePutAreTold(t *testing.T) {
	var b []byte
	for _, s := range texts() {
		r, _ := Put([]byte(s))
		b = append(b, r...)
	}
	kept := bytes.Clone(b)
	if _, says := told(b, -1); !slices.Equal(says, texts()) || !bytes.Equal(kept, b) {
		t.Errorf("%d of %d are told", len(says), len(texts()))
	}
}
