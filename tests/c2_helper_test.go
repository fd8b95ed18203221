package tests

import (
	"slices"

	"loop.example/shatteredsets/impl"
)

// told returns the example of a point and a label.
func told(x int, label bool) impl.Example {
	return impl.Example{Point: x, Label: label}
}

// codeOf returns a number that tells some sets.
func codeOf(sets []int) uint64 {
	var code uint64
	for _, s := range sets {
		code |= 1 << s
	}
	return code
}

// fits reports whether a set fits all examples.
func fits(s int, list []impl.Example) bool {
	for _, e := range list {
		if in(s, e.Point) != e.Label {
			return false
		}
	}
	return true
}

// fitting returns the sets that fit all examples.
func fitting(sets []int, list []impl.Example) []int {
	var out []int
	for _, s := range sets {
		if fits(s, list) {
			out = append(out, s)
		}
	}
	return out
}

// parted returns the sets that have a point, and those that do not.
func parted(sets []int, x int) ([]int, []int) {
	return fitting(sets, []impl.Example{told(x, true)}), fitting(sets, []impl.Example{told(x, false)})
}

// forces reports whether there is a tree of points that makes any rule fail d times.
func forces(sets []int, d int) bool {
	if d <= 0 {
		return d < 0 || len(sets) > 0
	}
	if len(sets) < 1<<d {
		return false
	}
	for x := range impl.MaxN {
		with, without := parted(sets, x)
		if forces(with, d-1) && forces(without, d-1) {
			return true
		}
	}
	return false
}

// forced returns what LittlestoneOf is to return of some sets.
func forced(sets []int) int {
	d := -1
	for forces(sets, d+1) {
		d++
	}
	return d
}

// asks reports whether q questions are enough to find each of some sets.
func asks(sets []int, q int) bool {
	if len(sets) < 2 {
		return true
	}
	if q <= 0 {
		return false
	}
	for x := range impl.MaxN {
		with, without := parted(sets, x)
		if asks(with, q-1) && asks(without, q-1) {
			return true
		}
	}
	return false
}

// asked returns what MembershipDepth is to return of some sets.
func asked(sets []int) int {
	q := 0
	for !asks(sets, q) {
		q++
	}
	return q
}

// guesser knows which sets are found by which number of guesses.
type guesser struct {
	guesses []int
	known   map[[2]uint64]bool
}

// finds reports whether g guesses are enough to find each of some sets.
func (w guesser) finds(sets []int, g int) bool {
	if len(sets) == 0 || g == 0 {
		return len(sets) == 0
	}
	key := [2]uint64{codeOf(sets), uint64(g)}
	holds, ok := w.known[key]
	if !ok {
		holds = slices.ContainsFunc(w.guesses, func(guess int) bool { return w.findsAfter(sets, guess, g-1) })
		w.known[key] = holds
	}
	return holds
}

// findsAfter reports whether g guesses are enough after one that was wrong.
func (w guesser) findsAfter(sets []int, guess int, g int) bool {
	for x := range impl.MaxN {
		if !w.finds(fitting(sets, []impl.Example{told(x, !in(guess, x))}), g) {
			return false
		}
	}
	return true
}

// guessed returns what EquivalenceDepth is to return of a class with some sets.
func guessed(c impl.Class, proper bool) int {
	w := guesser{c.Sets, map[[2]uint64]bool{}}
	if !proper {
		w.guesses = nil
		for s := range 1 << c.N {
			w.guesses = append(w.guesses, s)
		}
	}
	g := 0
	for !w.finds(c.Sets, g) {
		g++
	}
	return g
}

// mixed returns a sample of some examples of a class with points, by a number: the labels are those of a set, but for a few of them if noise is not 0.
func mixed(c impl.Class, s int, length int, state uint64, noise uint64) []impl.Example {
	var list []impl.Example
	for range length {
		state = state*6364136223846793005 + 1442695040888963407
		x := int(state >> 40 % uint64(c.N))
		list = append(list, told(x, in(s, x) != (noise > 0 && state>>50%noise == 0)))
	}
	return list
}

// samples returns samples of a class: none, one example, one twice, one point with both labels, many that one of its sets fits, and many that perhaps none fits.
func samples(c impl.Class) [][]impl.Example {
	list := [][]impl.Example{nil, {}}
	if c.N == 0 {
		return list
	}
	for x := range c.N {
		for _, label := range []bool{false, true} {
			e, other := told(x, label), told(x, !label)
			next := told((x+1)%c.N, label)
			list = append(list, []impl.Example{e}, []impl.Example{e, e}, []impl.Example{e, other}, []impl.Example{e, next, e}, []impl.Example{e, next, other, next})
			list = append(list, slices.Repeat([]impl.Example{e}, impl.MaxSample), slices.Repeat([]impl.Example{e, other}, impl.MaxSample/2))
		}
	}
	code := codeOf(c.Sets)
	for i, s := range c.Sets {
		if i%5 == 0 || i == len(c.Sets)-1 {
			list = append(list, mixed(c, s, impl.MaxSample, code+uint64(s), 0), mixed(c, s, c.N, code^uint64(s), 0), mixed(c, s, impl.MaxSample, code+uint64(s), 4))
		}
	}
	for length := range impl.MaxSample + 1 {
		list = append(list, mixed(c, length%(1<<c.N), length, code+7, 2))
	}
	return list
}

// eachSample runs a test for each of the samples of each of the classes, and stops at the first one that fails.
func eachSample(test func(impl.Class, []impl.Example) bool, fail func(string, ...any)) {
	for _, c := range classes() {
		for _, list := range samples(c) {
			if !test(c, list) {
				fail("of the class %v and the sample %v", c, list)
				return
			}
		}
	}
}
