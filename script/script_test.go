package script

import (
	"math"
	"slices"
	"strconv"
	"strings"
	"testing"

	"banyan/api"
	"banyan/call"
	"banyan/name"
	"banyan/world"
)

// pair is a step, and its text.
type pair struct {
	s    world.Step
	text string
}

// pairs tells steps of all kinds, no two of which are the same.
func pairs() []pair {
	return []pair{
		{world.Step{Kind: world.Call, X: call.Call{Kind: call.Mkdir, Path: "/a"}}, "0 mkdir /a"},
		{world.Step{Kind: world.Call, R: 3, X: call.Call{Kind: call.Create, Path: "/b c"}}, "3 create /b%20c"},
		{world.Step{Kind: world.Call, R: 1 << 30, X: call.Call{Kind: call.Unlink, Path: "x"}}, "1073741824 unlink x"},
		{world.Step{Kind: world.Call, X: call.Call{Kind: call.Rmdir, Path: "//"}}, "0 rmdir //"},
		{world.Step{Kind: world.Call, X: call.Call{Kind: call.Remove, Path: "\n"}}, "0 remove %0A"},
		{world.Step{Kind: world.Call, X: call.Call{Kind: call.Rename, Path: "/a", To: "/b c"}}, "0 rename /a /b%20c"},
		{world.Step{Kind: world.Call, X: call.Call{Kind: call.Rename, Path: " ", To: "\xff%"}}, "0 rename %20 %FF%25"},
		{world.Step{Kind: world.Digest}, "0 digest 0"},
		{world.Step{Kind: world.Digest, R: 63, N: 10}, "63 digest 10"},
		{world.Step{Kind: world.Exchange, R: 1, N: 2}, "1 exchange 2"},
		{world.Step{Kind: world.Arm, R: 1, N: 1 << 30}, "1 arm 1073741824"},
		{world.Step{Kind: world.Save}, "0 save"},
		{world.Step{Kind: world.Save, R: 7}, "7 save"},
		{world.Step{Kind: world.Restart, R: 7}, "7 restart"},
		{world.Step{Kind: world.Boot, R: 7}, "7 boot"},
		{world.Step{Kind: world.Boot, R: 7, Keep: []int{0}}, "7 boot 0"},
		{world.Step{Kind: world.Boot, Keep: []int{5, 0, 1 << 30}}, "0 boot 5 0 1073741824"},
		{world.Step{Kind: world.Boot, Keep: make([]int, 16)}, "0 boot" + strings.Repeat(" 0", 16)},
		{world.Step{Kind: world.Deliver}, "deliver 0"},
		{world.Step{Kind: world.Deliver, N: 255}, "deliver 255"},
		{world.Step{Kind: world.Drop, N: 1}, "drop 1"},
		{world.Step{Kind: world.Twice, N: 1}, "twice 1"},
		{world.Step{Kind: world.Swap, N: 1, M: 2}, "swap 1 2"},
		{world.Step{Kind: world.Hurt, N: 2, M: 7, R: 255}, "hurt 2 7 255"},
	}
}

// wrong tells steps that are not Right.
func wrong() []world.Step {
	with := func(i int, change func(s *world.Step)) world.Step {
		s := pairs()[i].s
		change(&s)
		return s
	}
	l := []world.Step{{}, {Kind: 13}, {Kind: -1}, {Kind: world.Call}}
	for i := range pairs() {
		kind := pairs()[i].s.Kind
		for _, n := range []int{-1, Greatest + 1, math.MinInt, math.MaxInt} {
			l = append(l, with(i, func(s *world.Step) { s.R = n }), with(i, func(s *world.Step) { s.N = n }), with(i, func(s *world.Step) { s.M = n }), with(i, func(s *world.Step) { s.Keep = []int{1, n} }))
		}
		if kind == world.Call {
			for _, k := range []int{0, 7, -1} {
				l = append(l, with(i, func(s *world.Step) { s.X.Kind = k }))
			}
			l = append(l, with(i, func(s *world.Step) { s.X.Path = "" }), with(i, func(s *world.Step) { s.N = 1 }))
			if pairs()[i].s.X.Kind == call.Rename {
				l = append(l, with(i, func(s *world.Step) { s.X.To = "" }))
			} else {
				l = append(l, with(i, func(s *world.Step) { s.X.To = "/x" }))
			}
		} else {
			l = append(l, with(i, func(s *world.Step) { s.X.Path = "/x" }), with(i, func(s *world.Step) { s.X.To = "/x" }), with(i, func(s *world.Step) { s.X.Kind = call.Mkdir }))
		}
		if kind != world.Boot {
			l = append(l, with(i, func(s *world.Step) { s.Keep = []int{0} }))
		}
		if kind != world.Swap && kind != world.Hurt {
			l = append(l, with(i, func(s *world.Step) { s.M = 1 }))
		}
		switch kind {
		case world.Save, world.Restart, world.Boot:
			l = append(l, with(i, func(s *world.Step) { s.N = 1 }))
		case world.Deliver, world.Drop, world.Twice, world.Swap:
			l = append(l, with(i, func(s *world.Step) { s.R = 1 }))
		}
	}
	return append(l, world.Step{Kind: world.Boot, Keep: make([]int, 17)})
}

// P39.1

func TestRight(t *testing.T) {
	for _, x := range pairs() {
		if !Right(x.s) {
			t.Errorf("%v is Right", x.s)
		}
	}
	for _, s := range wrong() {
		if Right(s) {
			t.Errorf("%v is not Right", s)
		}
	}
	if MostSteps != 400 || MostKeep != 16 || Greatest != 1<<30 {
		t.Error("limits")
	}
	if s := (world.Step{Kind: world.Save, Keep: []int{}}); !Right(s) || Text(s) != "0 save" {
		t.Error("nil and empty lists are alike")
	}
}

func TestSame(t *testing.T) {
	s := world.Step{Kind: 1, R: 2, N: 3, M: 4, X: call.Call{Kind: 5, Path: "6", To: "7"}, Keep: []int{8, 9}}
	// Of these no two are the same.
	l := []world.Step{s, {}}
	for _, change := range []func(s *world.Step){
		func(s *world.Step) { s.Kind = 2 },
		func(s *world.Step) { s.R = 3 },
		func(s *world.Step) { s.N = 4 },
		func(s *world.Step) { s.M = 5 },
		func(s *world.Step) { s.X.Kind = 6 },
		func(s *world.Step) { s.X.Path = "7" },
		func(s *world.Step) { s.X.To = "8" },
		func(s *world.Step) { s.Keep = nil },
		func(s *world.Step) { s.Keep = []int{8} },
		func(s *world.Step) { s.Keep = []int{8, 9, 0} },
		func(s *world.Step) { s.Keep = []int{8, 10} },
		func(s *world.Step) { s.Keep = []int{9, 8} },
	} {
		x := s
		change(&x)
		l = append(l, x)
	}
	for i, a := range l {
		for j, b := range l {
			b.Keep = slices.Clone(b.Keep)
			if Same(a, b) != (i == j) {
				t.Errorf("Same of %v and %v", a, b)
			}
		}
	}
	if !Same(world.Step{}, world.Step{Keep: []int{}}) {
		t.Error("nil and empty lists are alike")
	}
}

// P39.2

func TestText(t *testing.T) {
	for _, x := range pairs() {
		keep := slices.Clone(x.s.Keep)
		if got := Text(x.s); got != x.text || !slices.Equal(keep, x.s.Keep) {
			t.Errorf("Text(%v) = %q, not %q", x.s, got, x.text)
		}
	}
	for _, s := range wrong() {
		if got := Text(s); got != "" {
			t.Errorf("Text(%v) = %q", s, got)
		}
	}
}

// none asks whether a text is no step's.
func none(t *testing.T, s string) {
	t.Helper()
	if x, e := Parse(s); e != api.ErrForm || !Same(x, world.Step{}) || x.Keep != nil {
		t.Errorf("Parse(%q) = %v, %d", s, x, e)
	}
}

func TestParse(t *testing.T) {
	for _, x := range pairs() {
		if got, e := Parse(x.text); e != api.OK || !Same(got, x.s) {
			t.Errorf("Parse(%q) = %v, %d, not %v", x.text, got, e, x.s)
		}
		for _, s := range []string{" " + x.text, x.text + " ", x.text + "\n", "0 " + x.text, strings.ToUpper(x.text), strings.Replace(x.text, " ", "  ", 1), strings.Replace(x.text, " ", "\t", 1), "#" + x.text, "+" + x.text} {
			none(t, s)
		}
		if x.s.Kind != world.Boot || len(x.s.Keep) == 16 {
			none(t, x.text+" 0")
			none(t, x.text+" /x")
		}
		words := strings.Split(x.text, " ")
		for i, w := range words {
			left := slices.Delete(slices.Clone(words), i, i+1)
			if x.s.Kind != world.Boot || i < 2 {
				none(t, strings.Join(left, " "))
			}
			if _, ok := name.Number(w); !ok {
				continue
			}
			for _, n := range []string{"", "-1", "+1", "01", "00", "1.0", "x", "1073741825", "999999999999999999", "9999999999999999999999", "1e1", "0x1"} {
				none(t, strings.Join(slices.Concat(words[:i], []string{n}, words[i+1:]), " "))
			}
		}
	}
	for _, s := range []string{"", " ", "0", "0 ", "7", "0 mkdir", "0 mkdir ", "0 mkdir /a /b", "0 mkdir /b c", "0 mkdir /%2f", "0 mkdir /%41", "0 mkdir /%", "0 mkdir /\x00", "0 rename /a", "0 rename /a ", "0 rename  /a", "0 rename /a /b /c", "mkdir /a", "0 call /a", "digest 1", "0 digest", "0 digest 1 2", "save", "0 save 1", "boot", "deliver", "0 deliver 1", "deliver 1 2", "swap 1", "swap 1 2 3", "hurt 1 2", "hurt 1 2 3 4", "1 hurt 1 2 3", "nothing", "0 nothing", "0 Save", "0 boot" + strings.Repeat(" 0", 17), "0 boot /a", "0 0 save"} {
		none(t, s)
	}
}

// P39.3

func TestLines(t *testing.T) {
	want := ""
	var l []world.Step
	for _, x := range pairs() {
		want += x.text + "\n"
		l = append(l, x.s)
	}
	if got := Lines(l); got != want {
		t.Errorf("Lines = %q", got)
	}
	if got := Lines([]world.Step{{}, {Kind: world.Save}, {}}); got != "\n0 save\n\n" {
		t.Errorf("Lines = %q", got)
	}
	if Lines(nil) != "" {
		t.Error("of nothing")
	}
	got, n, e := Read(want)
	if !slices.EqualFunc(got, l, Same) || n != 0 || e != api.OK {
		t.Errorf("Read = %v, %d, %d", got, n, e)
	}
}

func TestRead(t *testing.T) {
	save := world.Step{Kind: world.Save}
	for _, x := range []struct {
		s    string
		want []world.Step
	}{
		{"", nil},
		{"\n\n", nil},
		{"#\n# 0 save\n#x", nil},
		{"0 save", []world.Step{save}},
		{"0 save\n", []world.Step{save}},
		{"\n0 save\n#\n\n0 save\n\n", []world.Step{save, save}},
	} {
		got, n, e := Read(x.s)
		if !slices.EqualFunc(got, x.want, Same) || n != 0 || e != api.OK {
			t.Errorf("Read(%q) = %v, %d, %d", x.s, got, n, e)
		}
	}
	for s, want := range map[string]int{"x": 1, " ": 1, " #": 1, "0 save\r\n": 1, "0 save\nx\ny": 2, "#\n\n0 save\n\nx": 5, "0 save\n0 save \n": 2} {
		if got, n, e := Read(s); len(got) != 0 || n != want || e != api.ErrForm {
			t.Errorf("Read(%q) = %v, %d, %d", s, got, n, e)
		}
	}
}

func TestAScriptHasNoMoreThanMostSteps(t *testing.T) {
	many := strings.Repeat("# says nothing\n0 save\n", 400)
	got, n, e := Read(many)
	if len(got) != 400 || n != 0 || e != api.OK {
		t.Errorf("%d, %d, %d", len(got), n, e)
	}
	if got, n, e := Read(many + "#\n\n#"); len(got) != 400 || n != 0 || e != api.OK {
		t.Errorf("%d, %d, %d", len(got), n, e)
	}
	for _, s := range []string{"0 save", "x", " ", "0 save\nx"} {
		if got, n, e := Read(many + "\n" + s); len(got) != 0 || n != 802 || e != api.ErrFull {
			t.Errorf("behind 400 steps %q: %v, %d, %d", s, got, n, e)
		}
	}
	if got, n, e := Read(many[22:] + "x"); len(got) != 0 || n != 799 || e != api.ErrForm {
		t.Errorf("behind 399 steps: %v, %d, %d", got, n, e)
	}
	if got, n, e := Read("x\n" + many + many); len(got) != 0 || n != 1 || e != api.ErrForm {
		t.Errorf("%v, %d, %d", got, n, e)
	}
}

// P39.4

func TestStepsAreReadAsTheyWereTold(t *testing.T) {
	right := 0
	for seed := range 3000 {
		n := seed
		next := func(most int) int {
			n = (n*1103515245 + 12345) % (1 << 31)
			return n / 65536 % most
		}
		s := world.Step{Kind: next(14), R: next(3), N: next(3) * 50, M: next(2), X: call.Call{Kind: next(8), Path: []string{"", "/a", "/b c"}[next(3)], To: []string{"", "", "/%"}[next(3)]}}
		for range next(3) {
			s.Keep = append(s.Keep, next(9))
		}
		if next(2) == 0 {
			s.X, s.M, s.Keep = call.Call{}, 0, nil
		}
		if !Right(s) {
			if Text(s) != "" {
				t.Fatalf("%v", s)
			}
			continue
		}
		right++
		if got, e := Parse(Text(s)); e != api.OK || !Same(got, s) {
			t.Fatalf("%q is read as %v, %d", Text(s), got, e)
		}
	}
	if right < 300 {
		t.Errorf("only %d are Right", right)
	}
	for i := range 200 {
		s := strconv.Itoa(i) + " digest " + strconv.Itoa(i*i)
		if x, e := Parse(s); e != api.OK || Text(x) != s {
			t.Fatalf("%q is told as %q", s, Text(x))
		}
	}
}
