// Package letter is letters in bytes: whole letters of a text, in pieces.
package letter

// Wrong is the number of a byte that is no letter.
const Wrong = 65533

// Piece is a letter of a text, or a byte that is none: where it begins, how many bytes it has, which number.
type Piece struct {
	At   int
	Len  int
	Rune int
}

// Next tells the piece that begins at a byte.
func Next(s string, at int) Piece {
	if at < 0 || at >= len(s) {
		return Piece{}
	}
	p := Piece{At: at, Len: len(s) - at}
	for i, r := range s[at:] {
		if i > 0 {
			// Only where the second piece begins is it known how long the first one is: a Wrong may have one byte or three.
			p.Len = i
			break
		}
		p.Rune = int(r)
	}
	return p
}

// Pieces tells all pieces of a text, in turn.
func Pieces(s string) []Piece {
	var l []Piece
	for at := range s {
		l = append(l, Next(s, at))
	}
	return l
}

// Count tells how many pieces a text has.
func Count(s string) int {
	n := 0
	for range s {
		n++
	}
	return n
}

// Right asks whether a text is letters alone.
func Right(s string) bool {
	for at, r := range s {
		// The letter Wrong itself has three bytes, so the number alone does not tell.
		if r == Wrong && Next(s, at).Len == 1 {
			return false
		}
	}
	return true
}

// Fit tells the first pieces that have no more than so many bytes.
func Fit(s string, most int) string {
	if len(s) <= most {
		return s
	}
	end := 0
	for at := range s {
		if at > most {
			break
		}
		end = at
	}
	return s[:end]
}

// Tail tells the last pieces that have no more than so many bytes.
func Tail(s string, most int) string {
	for at := range s {
		if len(s)-at <= most {
			return s[at:]
		}
	}
	return ""
}

// Lower tells a text with small letters of a to z alone.
func Lower(s string) string {
	// Byte by byte: going by letters would change bytes that are none.
	b := []byte(s)
	for i, c := range b {
		if 'A' <= c && c <= 'Z' {
			b[i] = c + 'a' - 'A'
		}
	}
	return string(b)
}

// Order tells which of two texts is ahead, by letters, then by bytes.
func Order(a, b string) int {
	at, bt := 0, 0
	for at < len(a) && bt < len(b) {
		p, q := Next(a, at), Next(b, bt)
		if p.Rune != q.Rune {
			return sign(p.Rune < q.Rune)
		}
		at, bt = at+p.Len, bt+q.Len
	}
	if at < len(a) || bt < len(b) {
		return sign(bt < len(b))
	}
	// Texts of the same numbers need not be the same: each byte that is no letter has the number of the letter Wrong.
	if a != b {
		return sign(a < b)
	}
	return 0
}

// sign tells of two that are unlike which one is ahead.
func sign(ahead bool) int {
	if ahead {
		return -1
	}
	return 1
}
