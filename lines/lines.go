// Package lines is the lines of a text, some of which say nothing.
package lines

import (
	"iter"
	"strings"
)

// silent stands ahead of a line that says nothing.
const silent = "#"

// All goes through the lines that say something: the number of each, from 1 on, and what it says.
func All(s string) iter.Seq2[int, string] {
	return func(yield func(int, string) bool) {
		left := s
		for n := 1; left != ""; n++ {
			var line string
			line, left, _ = strings.Cut(left, "\n")
			if line == "" || strings.HasPrefix(line, silent) {
				continue
			}
			if !yield(n, line) {
				return
			}
		}
	}
}
