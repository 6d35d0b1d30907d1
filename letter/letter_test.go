package letter

import (
	"math"
	"strings"
	"testing"
)

// The document's words, written down once more by bits, so that the package is held against something that shares no decoder with it.
func letterAt(s string, at int) Piece {
	ones := 0
	for ones < 8 && s[at]&(128>>ones) != 0 {
		ones++
	}
	if ones == 0 {
		return Piece{At: at, Len: 1, Rune: int(s[at])}
	}
	wrong := Piece{At: at, Len: 1, Rune: Wrong}
	if ones < 2 || ones > 4 || at+ones > len(s) {
		return wrong
	}
	n := int(s[at]) % (128 >> ones)
	for i := 1; i < ones; i++ {
		if s[at+i]&192 != 128 {
			return wrong
		}
		n = n*64 + int(s[at+i])%64
	}
	least := []int{0, 0, 128, 2048, 65536}[ones]
	if n < least || n > 1114111 || 55296 <= n && n <= 57343 {
		return wrong
	}
	return Piece{At: at, Len: ones, Rune: n}
}

func piecesOf(s string) []Piece {
	var l []Piece
	for at := 0; at < len(s); {
		p := letterAt(s, at)
		l = append(l, p)
		at += p.Len
	}
	return l
}

func rightOf(s string) bool {
	for _, p := range piecesOf(s) {
		if p.Rune == Wrong && p.Len == 1 {
			return false
		}
	}
	return true
}

// orderOf tells as Order should, of lists of numbers first.
func orderOf(a, b string) int {
	p, q := piecesOf(a), piecesOf(b)
	for i := 0; i < len(p) && i < len(q); i++ {
		if p[i].Rune != q[i].Rune {
			return less(p[i].Rune < q[i].Rune)
		}
	}
	if len(p) != len(q) {
		return less(len(p) < len(q))
	}
	return strings.Compare(a, b)
}

func less(is bool) int {
	if is {
		return -1
	}
	return 1
}

// texts tells all texts of up to so many of the bytes, which stand at the edges of what a letter's bytes may be.
func texts(most int, bytes string) []string {
	l := []string{""}
	for from := 0; most > 0; most-- {
		to := len(l)
		for _, s := range l[from:to] {
			for i := range len(bytes) {
				l = append(l, s+bytes[i:i+1])
			}
		}
		from = to
	}
	return l
}

const edges = "\x00A\x7f\x80\x8f\x90\x9f\xa0\xbf\xc0\xc1\xc2\xdf\xe0\xed\xef\xf0\xf4\xf5\xff"

// some tells texts of whole letters at all edges, of broken ones, and of some together.
func some() []string {
	l := []string{
		"", "a", "A", "\x00", "\x7f", "\u0080", "\u07ff", "\u0800", "\ud7ff", "\ue000", "\ufffd", "\uffff", "\U00010000", "\U0010ffff",
		"\x80", "\xbf", "\xff", "\xc0\x80", "\xc1\xbf", "\xc2", "\xdf", "\xe0\x9f\xbf", "\xed\xa0\x80", "\xed\xbf\xbf", "\xe2\x82", "\xef\xbf",
		"\xf0\x8f\xbf\xbf", "\xf0\x9f\x98", "\xf4\x90\x80\x80", "\xf5\x80\x80\x80", "\xf8\x88\x80\x80\x80", "\xe2\x82a", "\xf0\x9f\x98a",
		"\u20aca", "\u20aca\xff\U0001f600", "a\xffb", "\ufffd\xff", "\xff\ufffd", "\ufffda", "\xffa", "ab\u00c9Z", "\xe2\xe2\x82\xac", "\u20ac\u20ac\xac",
	}
	return append(l, texts(2, edges)...)
}

// P1.1

func TestNext(t *testing.T) {
	s := "\u20aca\xff\U0001f600"
	for _, x := range []struct {
		s    string
		at   int
		want Piece
	}{
		{s, 0, Piece{0, 3, 8364}},
		{s, 1, Piece{1, 1, Wrong}},
		{s, 2, Piece{2, 1, Wrong}},
		{s, 3, Piece{3, 1, 'a'}},
		{s, 4, Piece{4, 1, Wrong}},
		{s, 5, Piece{5, 4, 0x1f600}},
		{s, 8, Piece{8, 1, Wrong}},
		{s, 9, Piece{}},
		{s, 10, Piece{}},
		{s, -1, Piece{}},
		{s, math.MaxInt, Piece{}},
		{s, math.MinInt, Piece{}},
		{"", 0, Piece{}},
		{"", -1, Piece{}},
		{"\x00", 0, Piece{0, 1, 0}},
		{"\x7f", 0, Piece{0, 1, 127}},
		{"\u0080", 0, Piece{0, 2, 128}},
		{"\u07ff", 0, Piece{0, 2, 2047}},
		{"\u0800", 0, Piece{0, 3, 2048}},
		{"\ud7ff", 0, Piece{0, 3, 55295}},
		{"\ue000", 0, Piece{0, 3, 57344}},
		{"\ufffd", 0, Piece{0, 3, Wrong}},
		{"a\ufffda", 1, Piece{1, 3, Wrong}},
		{"\uffff", 0, Piece{0, 3, 65535}},
		{"\U00010000", 0, Piece{0, 4, 65536}},
		{"\U0010ffff", 0, Piece{0, 4, 1114111}},
		{"\xc1\xbf", 0, Piece{0, 1, Wrong}},
		{"\xe0\x9f\xbf", 0, Piece{0, 1, Wrong}},
		{"\xed\xa0\x80", 0, Piece{0, 1, Wrong}},
		{"\xed\xbf\xbf", 0, Piece{0, 1, Wrong}},
		{"\xf0\x8f\xbf\xbf", 0, Piece{0, 1, Wrong}},
		{"\xf4\x90\x80\x80", 0, Piece{0, 1, Wrong}},
		{"\xf8\x88\x80\x80\x80", 0, Piece{0, 1, Wrong}},
		{"\xf0\x9f\x98", 0, Piece{0, 1, Wrong}},
		{"\xe2\x82a", 0, Piece{0, 1, Wrong}},
	} {
		if p := Next(x.s, x.at); p != x.want {
			t.Errorf("Next(%q, %d) = %v, not %v", x.s, x.at, p, x.want)
		}
	}
}

func TestNextIsWhatATextThatBeginsThereWouldHave(t *testing.T) {
	for _, s := range some() {
		for at := range len(s) {
			if p, want := Next(s, at), letterAt(s, at); p != want {
				t.Errorf("Next(%q, %d) = %v, not %v", s, at, p, want)
			}
			p, q := Next(s, at), Next(s[at:], 0)
			if q.At += at; p != q {
				t.Errorf("%q at %d: %v, but %v where it begins", s, at, p, q)
			}
		}
	}
}

func holdPieces(t *testing.T, s string) {
	t.Helper()
	got, want := Pieces(s), piecesOf(s)
	if len(got) != len(want) {
		t.Fatalf("Pieces(%q) = %v, not %v", s, got, want)
	}
	for i := range want {
		if got[i] != want[i] {
			t.Fatalf("Pieces(%q) = %v, not %v", s, got, want)
		}
	}
	if Count(s) != len(want) {
		t.Errorf("Count(%q) = %d, not %d", s, Count(s), len(want))
	}
	if Right(s) != rightOf(s) {
		t.Errorf("Right(%q) = %v", s, Right(s))
	}
}

func TestPiecesCountRight(t *testing.T) {
	for _, s := range some() {
		holdPieces(t, s)
	}
	for _, s := range texts(4, "a\x80\x90\xa0\xbf\xc2\xe0\xed\xf0\xf4") {
		holdPieces(t, s)
	}
}

func TestAllLetters(t *testing.T) {
	for n := range 1114111 + 1 {
		if 55296 <= n && n <= 57343 {
			continue
		}
		s := string(rune(n))
		if p := Next(s, 0); p != (Piece{At: 0, Len: len(s), Rune: n}) || Count(s) != 1 || !Right(s) {
			t.Fatalf("the letter %d: %v", n, p)
		}
	}
}

func TestCountRightByExample(t *testing.T) {
	for _, x := range []struct {
		s     string
		count int
		right bool
	}{
		{"", 0, true},
		{"\u20aca", 2, true},
		{"\ufffd", 1, true},
		{"\ufffd\xff", 2, false},
		{"\xff\ufffd", 2, false},
		{"a\xff", 2, false},
		{"\xed\xa0\x80", 3, false},
		{"\xe2\x82", 2, false},
	} {
		if Count(x.s) != x.count || Right(x.s) != x.right {
			t.Errorf("%q: Count %d, Right %v", x.s, Count(x.s), Right(x.s))
		}
	}
}

// P1.2

func TestFitTailByExample(t *testing.T) {
	s := "\u20aca\xff\U0001f600"
	for _, x := range []struct {
		s         string
		most      int
		fit, tail string
	}{
		{"\u20aca", 3, "\u20ac", "a"},
		{"\u20aca", 2, "", "a"},
		{"\u20ac", 2, "", ""},
		{"\u20ac", 3, "\u20ac", "\u20ac"},
		{s, 0, "", ""},
		{s, -1, "", ""},
		{s, math.MinInt, "", ""},
		{s, 3, "\u20ac", ""},
		{s, 4, "\u20aca", "\U0001f600"},
		{s, 5, "\u20aca\xff", "\xff\U0001f600"},
		{s, 8, "\u20aca\xff", "a\xff\U0001f600"},
		{s, 9, s, s},
		{s, math.MaxInt, s, s},
		{"", 0, "", ""},
		{"", -1, "", ""},
		{"", 5, "", ""},
		{"\xe2\x82", 1, "\xe2", "\x82"},
	} {
		if f := Fit(x.s, x.most); f != x.fit {
			t.Errorf("Fit(%q, %d) = %q, not %q", x.s, x.most, f, x.fit)
		}
		if l := Tail(x.s, x.most); l != x.tail {
			t.Errorf("Tail(%q, %d) = %q, not %q", x.s, x.most, l, x.tail)
		}
	}
}

// firsts and lasts add pieces up as long as there is room.
func firsts(s string, most int) string {
	n := 0
	for _, p := range piecesOf(s) {
		if n+p.Len > most {
			break
		}
		n += p.Len
	}
	return s[:n]
}

func lasts(s string, most int) string {
	n, l := 0, piecesOf(s)
	for i := len(l) - 1; i >= 0 && n+l[i].Len <= most; i-- {
		n += l[i].Len
	}
	return s[len(s)-n:]
}

func TestFitTail(t *testing.T) {
	for _, s := range append(some(), texts(4, "a\x80\xac\xe2\xf0")...) {
		for most := -2; most <= len(s)+2; most++ {
			if f, want := Fit(s, most), firsts(s, most); f != want {
				t.Errorf("Fit(%q, %d) = %q, not %q", s, most, f, want)
			}
			if l, want := Tail(s, most), lasts(s, most); l != want {
				t.Errorf("Tail(%q, %d) = %q, not %q", s, most, l, want)
			}
		}
	}
}

// P1.3

func TestLowerOfEachByte(t *testing.T) {
	for c := range 256 {
		want := c
		if 65 <= c && c <= 90 {
			want += 32
		}
		for _, ahead := range []string{"", "x", "\xe2\x82", "\u00c9"} {
			if s := Lower(ahead + string([]byte{byte(c)})); s != ahead+string([]byte{byte(want)}) {
				t.Errorf("Lower of %q and %d: %q", ahead, c, s)
			}
		}
	}
}

func TestLowerByExample(t *testing.T) {
	for s, want := range map[string]string{
		"":               "",
		"aBZ\u00c9":      "abz\u00c9",
		"@AZ[`az{":       "@az[`az{",
		"\xffA\xe2B":     "\xffa\xe2b",
		"\u212a\u0130K":  "\u212a\u0130k",
		"LOST+FOUND/~09": "lost+found/~09",
	} {
		if Lower(s) != want {
			t.Errorf("Lower(%q) = %q, not %q", s, Lower(s), want)
		}
	}
}

func TestOrderByExample(t *testing.T) {
	for _, x := range []struct {
		a, b string
		want int
	}{
		{"", "", 0},
		{"", "\x00", -1},
		{"a", "a", 0},
		{"a", "b", -1},
		{"a", "ab", -1},
		{"b", "ab", 1},
		{"B", "a", -1},
		{"a", "\u20ac", -1},
		{"\u20ac", "\xff", -1},
		{"\xff", "\U00010000", -1},
		{"\x80", "\ue000", 1},
		{"\ufffd", "\xff", -1},
		{"\ufffd", "\x80", 1},
		{"\ufffd", "\ufffd", 0},
		{"\xff", "\xff\xff", -1},
		{"\ufffd\xff", "\xff\x80", -1},
		{"\xffa", "\ufffdb", -1},
		{"\xffb", "\ufffda", 1},
		{"\ufffd", "\x80\x80", -1},
		{"\ufffd\ufffd", "\xff", 1},
	} {
		if got := Order(x.a, x.b); got != x.want {
			t.Errorf("Order(%q, %q) = %d, not %d", x.a, x.b, got, x.want)
		}
		if got := Order(x.b, x.a); got != -x.want {
			t.Errorf("Order(%q, %q) = %d, not %d", x.b, x.a, got, -x.want)
		}
	}
}

func TestOrder(t *testing.T) {
	l := some()
	for _, a := range l {
		for _, b := range l {
			if got, want := Order(a, b), orderOf(a, b); got != want {
				t.Errorf("Order(%q, %q) = %d, not %d", a, b, got, want)
			}
			if (Order(a, b) == 0) != (a == b) {
				t.Errorf("Order(%q, %q) = %d", a, b, Order(a, b))
			}
		}
	}
}

// P1.4

func TestPiecesAreTheWholeText(t *testing.T) {
	for _, s := range some() {
		end := 0
		for _, p := range Pieces(s) {
			if p.At != end || p.Len < 1 || p.Len > 4 {
				t.Errorf("Pieces(%q) = %v", s, Pieces(s))
			}
			end = p.At + p.Len
		}
		if end != len(s) {
			t.Errorf("Pieces(%q) = %v", s, Pieces(s))
		}
	}
}

func TestWhatIsLongerHasTooManyBytes(t *testing.T) {
	for _, s := range some() {
		for most := range len(s) + 2 {
			holdLongest(t, s, most)
		}
	}
}

func holdLongest(t *testing.T, s string, most int) {
	t.Helper()
	f, l := Fit(s, most), Tail(s, most)
	if !strings.HasPrefix(s, f) || !strings.HasSuffix(s, l) || len(f) > most || len(l) > most {
		t.Errorf("%q, %d: Fit %q, Tail %q", s, most, f, l)
	}
	for _, p := range Pieces(s) {
		if end := p.At + p.Len; end > len(f) && end <= most {
			t.Errorf("Fit(%q, %d) = %q, but %d bytes have room", s, most, f, end)
		}
		if n := len(s) - p.At; n > len(l) && n <= most {
			t.Errorf("Tail(%q, %d) = %q, but %d bytes have room", s, most, l, n)
		}
	}
}
