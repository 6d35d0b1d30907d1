package sum

import (
	"bytes"
	"strings"
	"testing"
)

// byBits tells as More should, bit by bit, in the document's own words.
func byBits(c uint32, b []byte) uint32 {
	c ^= 0xffffffff
	for _, x := range b {
		for bit := range 8 {
			out := c & 1
			c >>= 1
			if out != uint32(x>>bit)&1 {
				c ^= 0x82f63b78
			}
		}
	}
	return c ^ 0xffffffff
}

// some tells bytes of all values, and of lengths about those of a half, a word and more.
func some() [][]byte {
	l := [][]byte{nil, {}, []byte("123456789"), bytes.Repeat([]byte{0}, 32), bytes.Repeat([]byte{255}, 32)}
	for c := range 256 {
		l = append(l, []byte{byte(c)}, []byte{0, byte(c)}, []byte{byte(c), 255, byte(c)})
	}
	b := []byte{}
	for n := range 300 {
		b = append(b, byte(n*n*7+n/3))
		if n < 40 || n%37 == 0 {
			l = append(l, bytes.Clone(b))
		}
	}
	return append(l, b)
}

// P6.1

func TestOfByExample(t *testing.T) {
	rising, falling := []byte{}, []byte{}
	for i := range 32 {
		rising, falling = append(rising, byte(i)), append(falling, byte(31-i))
	}
	for _, x := range []struct {
		b    []byte
		want uint32
	}{
		{nil, 0},
		{[]byte{}, 0},
		{[]byte("123456789"), 0xe3069283},
		{[]byte("a"), 0xc1d04330},
		{bytes.Repeat([]byte{0}, 32), 0x8a9136aa},
		{bytes.Repeat([]byte{255}, 32), 0x62a8ab43},
		{rising, 0x46dd794e},
		{falling, 0x113fdb5c},
	} {
		if got := Of(x.b); got != x.want {
			t.Errorf("Of(%v) = %X, not %X", x.b, got, x.want)
		}
		if got := More(0, x.b); got != x.want {
			t.Errorf("More(0, %v) = %X, not %X", x.b, got, x.want)
		}
		if got := Runs(x.b); got != x.want {
			t.Errorf("Runs(%v) = %X, not %X", x.b, got, x.want)
		}
	}
}

func TestMore(t *testing.T) {
	for _, c := range []uint32{0, 1, 0x80000000, 0xffffffff, 0x82f63b78, 0xe3069283, 12345678} {
		for _, b := range some() {
			if got, want := More(c, b), byBits(c, b); got != want {
				t.Errorf("More(%X, %v) = %X, not %X", c, b, got, want)
			}
		}
		if More(c, nil) != c {
			t.Errorf("More(%X, nil) = %X", c, More(c, nil))
		}
	}
}

func TestRuns(t *testing.T) {
	if Runs() != 0 || Runs(nil) != 0 || Runs(nil, []byte{}, nil) != 0 {
		t.Errorf("of nothing: %X, %X", Runs(), Runs(nil))
	}
	a, b, c := []byte("1234"), []byte("5"), []byte("6789")
	for _, l := range [][][]byte{{a, b, c}, {nil, a, nil, b, c, nil}, {[]byte("123456789")}, {nil, []byte("123456789")}, {[]byte("12"), []byte("3456"), []byte("789")}} {
		if got := Runs(l...); got != 0xe3069283 {
			t.Errorf("Runs(%q) = %X", l, got)
		}
	}
	if got, want := Runs(c, b, a), Of([]byte("678951234")); got != want || got == 0xe3069283 {
		t.Errorf("the other way round: %X, not %X", got, want)
	}
}

// P6.2

func TestSealByExample(t *testing.T) {
	for _, x := range []struct{ b, want string }{
		{"", "\x00\x00\x00\x00"},
		{"123456789", "123456789\x83\x92\x06\xe3"},
		{"a", "a\x30\x43\xd0\xc1"},
	} {
		if got := string(Seal([]byte(x.b))); got != x.want {
			t.Errorf("Seal(%q) = %q, not %q", x.b, got, x.want)
		}
		if got, ok := Open([]byte(x.want)); string(got) != x.b || !ok {
			t.Errorf("Open(%q) = %q, %v", x.want, got, ok)
		}
	}
	if got := Seal(nil); len(got) != 4 {
		t.Errorf("Seal(nil) = %v", got)
	}
}

func TestWhatIsSealedIsOpened(t *testing.T) {
	for _, b := range some() {
		s := Seal(b)
		c := Of(b)
		if want := append(bytes.Clone(b), byte(c), byte(c>>8), byte(c>>16), byte(c>>24)); !bytes.Equal(s, want) {
			t.Errorf("Seal(%v) = %v, not %v", b, s, want)
		}
		if got, ok := Open(s); !ok || !bytes.Equal(got, b) {
			t.Errorf("Open of the Seal of %v = %v, %v", b, got, ok)
		}
	}
}

func TestOpenOfWhatIsNoSeal(t *testing.T) {
	for _, s := range []string{
		"", "\x00", "\x00\x00", "\x00\x00\x00", "\x00\x00\x00\x01", "\x01\x00\x00\x00", "\x00\x00\x00\x00\x00",
		"a\xc1\xd0\x43\x30", "123456789\xe3\x06\x92\x83", "123456789\x83\x92\x06\xe3\x00", "123456789\x83\x92\x06", "23456789\x83\x92\x06\xe3",
		"\x83\x92\x06\xe3123456789", strings.Repeat("\xff", 9),
	} {
		if got, ok := Open([]byte(s)); ok || got != nil {
			t.Errorf("Open(%q) = %q, %v", s, got, ok)
		}
	}
	if got, ok := Open(nil); ok || got != nil {
		t.Errorf("Open(nil) = %v, %v", got, ok)
	}
}

// holdApart asks whether what is told shares memory with what was handed in, its spare room included.
func holdApart(t *testing.T, tell func([]byte) []byte, s string) {
	t.Helper()
	room := []byte(s + "spare room")
	b := tell(room[:len(s)])
	if string(room) != s+"spare room" {
		t.Errorf("%q was changed to %q", s+"spare room", room)
	}
	want := string(b)
	clear(room)
	if string(b) != want {
		t.Errorf("%q, that was told of %q, became %q", want, s, b)
	}
	room = []byte(s + "spare room")
	b = tell(room[:len(s)])
	clear(b[:cap(b)])
	if string(room) != s+"spare room" {
		t.Errorf("%q was changed to %q", s+"spare room", room)
	}
}

func TestWhatIsToldSharesNoMemory(t *testing.T) {
	open := func(b []byte) []byte {
		b, ok := Open(b)
		if !ok {
			t.Error("it was not opened")
		}
		return b
	}
	for _, s := range []string{"", "a", "123456789", strings.Repeat("x", 100)} {
		holdApart(t, Seal, s)
		holdApart(t, open, string(Seal([]byte(s))))
	}
}

// P6.3

func TestMoreGoesOn(t *testing.T) {
	for _, a := range some() {
		for n := range min(len(a), 50) {
			if got := More(Of(a[:n]), a[n:]); got != Of(a) {
				t.Errorf("of %v, behind %d bytes: %X, not %X", a, n, got, Of(a))
			}
		}
	}
}

// turned tells bytes of which those bits are turned that stand in by, the lowest first, from a bit on; false, if there are not so many.
func turned(b []byte, at int, by uint32) ([]byte, bool) {
	b = bytes.Clone(b)
	for bit := range 32 {
		if by>>bit&1 == 0 {
			continue
		}
		if at+bit >= len(b)*8 {
			return nil, false
		}
		b[(at+bit)/8] ^= 1 << ((at + bit) % 8)
	}
	return b, true
}

func TestTurnedBitsAreNotOpened(t *testing.T) {
	patterns := []uint32{1, 3, 5, 0x80000001, 0xffffffff, 0x82f63b79, 0x82f63b78 | 1, 0x05ec76f1, 0xff, 0xff01, 0x1000001, 0x55555555}
	for i := range uint32(200) {
		patterns = append(patterns, i*i*2654435761|1)
	}
	tried := 0
	for _, s := range []string{"", "a", "123456789", strings.Repeat("\x00", 8), strings.Repeat("\xff", 7)} {
		sealed := Seal([]byte(s))
		for at := range len(sealed) * 8 {
			for _, by := range patterns {
				b, ok := turned(sealed, at, by)
				if !ok {
					continue
				}
				tried++
				if got, ok := Open(b); ok {
					t.Errorf("the Seal of %q, turned by %X from the bit %d on, is opened: %v", s, by, at, got)
				}
			}
		}
	}
	if tried < 10000 {
		t.Errorf("%d were tried", tried)
	}
}
