package lines

import (
	"slices"
	"strconv"
	"strings"
	"testing"
)

// told tells all lines that say something, each with its number.
func told(s string) []string {
	var l []string
	for n, line := range All(s) {
		l = append(l, strconv.Itoa(n)+":"+line)
	}
	return l
}

func TestAll(t *testing.T) {
	for _, x := range []struct {
		s    string
		want []string
	}{
		{"", nil},
		{"\n", nil},
		{"\n\n\n", nil},
		{"a", []string{"1:a"}},
		{"a\n", []string{"1:a"}},
		{"a\n\n", []string{"1:a"}},
		{"\na", []string{"2:a"}},
		{"a\nb", []string{"1:a", "2:b"}},
		{"a\n\nb\n", []string{"1:a", "3:b"}},
		{"#\n#a\n a\n#", []string{"3: a"}},
		{"a#\n\r\n #\n", []string{"1:a#", "2:\r", "3: #"}},
		{"\x00\n\xff", []string{"1:\x00", "2:\xff"}},
	} {
		if got := told(x.s); !slices.Equal(got, x.want) {
			t.Errorf("of %q: %q, not %q", x.s, got, x.want)
		}
	}
}

func TestOneMayLeaveIt(t *testing.T) {
	all := All("a\nb\nc\nd")
	for range 2 {
		var l []string
		for n, line := range all {
			if n == 3 {
				break
			}
			l = append(l, line)
		}
		if strings.Join(l, "") != "ab" {
			t.Errorf("%q", l)
		}
	}
}
