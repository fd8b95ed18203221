package tests

import (
	"slices"
	"strconv"
	"strings"
	"testing"

	"loop.example/shatteredsets/impl"
)

// number returns the answer of a function that returns a number.
func number(f func(impl.Class) int) func(impl.Class) string {
	return func(c impl.Class) string { return strconv.Itoa(f(c)) }
}

// yes returns the answer of a function that tells whether something holds.
func yes(f func(impl.Class) bool) func(impl.Class) string {
	return func(c impl.Class) string {
		if f(c) {
			return "yes"
		}
		return "no"
	}
}

// text returns the answer of a function that returns a class.
func text(f func(impl.Class) impl.Class) func(impl.Class) string {
	return func(c impl.Class) string { return impl.ClassText(f(c)) }
}

// words returns what answers a line of each word.
func words() map[string]func(impl.Class) string {
	return map[string]func(impl.Class) string{
		"vc":          number(impl.VCDimension),
		"littlestone": number(impl.LittlestoneOf),
		"members":     number(impl.MembershipDepth),
		"teach":       number(impl.TeachingDimension),
		"recursive":   number(impl.RecursiveDimension),
		"star":        number(impl.StarNumber),
		"euler":       number(impl.EulerOf),
		"maximum":     yes(impl.IsMaximum),
		"extremal":    yes(impl.IsExtremal),
		"complement":  text(impl.ComplementClass),
		"settle":      text(impl.SettleClass),
	}
}

// answered returns what RunDesk is to answer to a line, without a newline.
func answered(line string) string {
	parts := strings.Split(line, " ")
	f, known := words()[parts[0]]
	if !known || len(parts) != 2 {
		return "what"
	}
	if !isText(parts[1]) {
		return "wrong"
	}
	c, _ := impl.ParseClass(parts[1])
	return f(c)
}

// allAnswered returns what RunDesk is to return of lines that are not too many.
func allAnswered(lines []string) string {
	out := ""
	for _, line := range lines {
		out += answered(line) + "\n"
	}
	return out
}

// knownWords returns all words, in order.
func knownWords() []string {
	var out []string
	for word := range words() {
		out = append(out, word)
	}
	slices.Sort(out)
	return out
}

// oddLines returns lines that are answered by wrong or by what, and some that are nearly so.
func oddLines() []string {
	list := []string{"", " ", "  ", "\n", "help", "help 3:0", "walk 2:0", "3:0", " 3:0", "vc3:0", "vc:3:0", "vc\t3:0", "vc\n3:0", "VC 3:0", "Vc 3:0", "v 3:0", "vcs 3:0", "vc\x00 3:0", "svc 3:0", "vclittlestone 3:0", "what 3:0", "wrong 3:0", "vc wrong", "vc vc", "vc vc 3:0"}
	for _, word := range knownWords() {
		list = append(list, word, word+" ", word+"  ", " "+word, word+" 3:0,1,3,7 ", word+"  3:0,1,3,7", " "+word+" 3:0,1,3,7", word+" 3:0,1, 3,7", word+" 3:0,1,3,7 3:0", word+" 3:0,1,3,7\n", word+" 3:0,1,3,7\t", word+" \t3:0", word+" \n3:0,1", word+" 3:0\x00", strings.ToUpper(word)+" 3:0", word[:len(word)-1]+" 3:0", word+"x 3:0", word+":3:0", word+" 9:0")
		for _, wrong := range wrongTexts() {
			list = append(list, word+" "+wrong)
		}
	}
	for _, wrong := range wrongTexts() {
		list = append(list, wrong, "help "+wrong)
	}
	return list
}

func TestLinesOfClasses(t *testing.T) {
	each(t, func(t *testing.T, c impl.Class) {
		var lines []string
		for _, word := range knownWords() {
			lines = append(lines, word+" "+impl.ClassText(c))
		}
		if got, want := impl.RunDesk(lines), allAnswered(lines); got != want {
			t.Errorf("RunDesk = %q, not %q", got, want)
		}
	})
}

func TestOddLines(t *testing.T) {
	counts := map[string]int{}
	for _, line := range oddLines() {
		got := impl.RunDesk([]string{line})
		if got != answered(line)+"\n" {
			t.Errorf("RunDesk of %q = %q, not %q", line, got, answered(line))
		}
		counts[got]++
	}
	if counts["what\n"] < 100 || counts["wrong\n"] < 100 {
		t.Errorf("so many lines have each answer: %v", counts)
	}
}

func TestDeskByHand(t *testing.T) {
	for _, x := range [][2]string{
		{"", "what"}, {"vc", "what"}, {"settle", "what"}, {"vc ", "wrong"}, {"complement ", "wrong"}, {"vc  ", "what"}, {"vc  3:0", "what"}, {"vc 3:0 ", "what"}, {" vc 3:0", "what"}, {" ", "what"},
		{"vc 3:0\n", "wrong"}, {"vc \n", "wrong"}, {"vc 3:1,0", "wrong"}, {"euler 6:0", "wrong"}, {"maximum x", "wrong"}, {"walk x", "what"}, {"walk ", "what"},
		{"vc 0:", "-1"}, {"littlestone 0:", "-1"}, {"members 0:", "0"}, {"teach 0:", "-1"}, {"recursive 0:", "-1"}, {"star 0:", "-1"}, {"euler 0:", "0"}, {"maximum 0:", "yes"}, {"extremal 0:", "yes"}, {"complement 0:", "0:0"}, {"settle 0:", "0:"},
		{"vc 0:0", "0"}, {"littlestone 5:31", "0"}, {"members 5:31", "0"}, {"teach 5:31", "0"}, {"recursive 5:31", "0"}, {"star 5:31", "0"}, {"euler 5:31", "1"}, {"maximum 5:31", "yes"}, {"extremal 5:31", "yes"}, {"complement 0:0", "0:"}, {"settle 5:31", "5:0"},
		{"vc 2:0,1,2,3", "2"}, {"littlestone 2:0,1,2,3", "2"}, {"members 2:0,1,2,3", "2"}, {"teach 2:0,1,2,3", "2"}, {"recursive 2:0,1,2,3", "2"}, {"star 2:0,1,2,3", "2"}, {"euler 2:0,1,2,3", "1"}, {"complement 2:0,1,2,3", "2:"}, {"settle 2:0,1,2,3", "2:0,1,2,3"},
		{"vc 3:0,1,3,7", "1"}, {"littlestone 3:0,1,3,7", "2"}, {"vc 3:0,1,2,4", "1"}, {"members 3:0,1,2,4", "3"}, {"teach 3:0,1,2,4", "3"}, {"recursive 3:0,1,2,4", "1"}, {"star 3:0,1,2,4", "3"}, {"extremal 3:0,1,2,4", "yes"}, {"maximum 3:0,1,2,4", "yes"}, {"maximum 3:0,1", "no"}, {"extremal 3:0,1", "yes"}, {"extremal 3:0,3", "no"}, {"euler 3:0,3", "2"},
		{"euler 4:1,2,3,4,5,6,8,9,10", "-1"}, {"euler 3:0,3,5,6", "4"},
	} {
		if got := impl.RunDesk([]string{x[0]}); got != x[1]+"\n" {
			t.Errorf("RunDesk of %q = %q, not %q", x[0], got, x[1])
		}
	}
}

func TestDesksOfManyLines(t *testing.T) {
	odd := oddLines()
	for length := range impl.MaxDesk + 1 {
		lines := slices.Clone(odd[length*3 : length*4])
		if length > 2 {
			lines[length/2] = "euler 3:0,3,5,6"
		}
		if got := impl.RunDesk(lines); got != allAnswered(lines) {
			t.Errorf("RunDesk of %q = %q", lines, got)
		}
	}
	if got := impl.RunDesk(nil); got != "" {
		t.Errorf("RunDesk of no lines = %q", got)
	}
	lines := slices.Repeat([]string{"vc 1:0,1"}, impl.MaxDesk)
	if got := impl.RunDesk(lines); got != strings.Repeat("1\n", impl.MaxDesk) {
		t.Errorf("RunDesk of MaxDesk lines = %q", got)
	}
	for _, length := range []int{impl.MaxDesk + 1, impl.MaxDesk + 2, 100} {
		if got := impl.RunDesk(slices.Repeat([]string{"vc 1:0,1"}, length)); got != "" {
			t.Errorf("RunDesk of %d lines = %q", length, got)
		}
	}
	if impl.MaxDesk != 20 {
		t.Errorf("MaxDesk = %d", impl.MaxDesk)
	}
}
