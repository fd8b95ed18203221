package tests

import (
	"slices"
	"testing"

	"loop.example/shatteredsets/impl"
)

func TestLimitsOfMistakes(t *testing.T) {
	if impl.MaxSample != 12 || impl.MaxFew != 7 || impl.MaxGuesses != 100 {
		t.Errorf("MaxSample = %d, MaxFew = %d, MaxGuesses = %d", impl.MaxSample, impl.MaxFew, impl.MaxGuesses)
	}
}

func TestValidSample(t *testing.T) {
	count, none := 0, 0
	eachSample(func(c impl.Class, list []impl.Example) bool {
		count++
		if len(fitting(c.Sets, list)) == 0 {
			none++
		}
		return impl.ValidSample(c, list)
	}, t.Errorf)
	if none < 1000 || none > count-1000 {
		t.Errorf("%d of %d samples fit none", none, count)
	}
	for _, c := range []impl.Class{{}, at(0, 0)} {
		if !impl.ValidSample(c, nil) || impl.ValidSample(c, []impl.Example{{}}) {
			t.Errorf("samples of %v", c)
		}
	}
}

func TestConsistentOf(t *testing.T) {
	eachSample(func(c impl.Class, list []impl.Example) bool {
		return same(impl.ConsistentOf(c, list), at(c.N, fitting(c.Sets, list)...))
	}, t.Errorf)
}

func TestMajorityOf(t *testing.T) {
	each(t, func(t *testing.T, c impl.Class) {
		for x := range c.N {
			with, without := parted(c.Sets, x)
			if impl.MajorityOf(c, x) != (len(with) > len(without)) {
				t.Errorf("MajorityOf %d = %v", x, impl.MajorityOf(c, x))
			}
		}
	})
}

// halved tells what the halving rule is to answer.
func halved(sets []int, x int) bool {
	with, _ := parted(sets, x)
	return 2*len(with) > len(sets)
}

// optimal tells what the optimal rule is to answer.
func optimal(sets []int, x int) bool {
	with, without := parted(sets, x)
	return forced(with) > forced(without)
}

// mistakes returns how many examples are mistakes of a rule.
func mistakes(rule func([]int, int) bool, c impl.Class, list []impl.Example) int {
	count := 0
	for i, e := range list {
		if rule(fitting(c.Sets, list[:i]), e.Point) != e.Label {
			count++
		}
	}
	return count
}

func TestHalvingRun(t *testing.T) {
	eachSample(func(c impl.Class, list []impl.Example) bool {
		return impl.HalvingRun(c, list) == mistakes(halved, c, list)
	}, t.Errorf)
}

func TestOptimalRun(t *testing.T) {
	eachSample(func(c impl.Class, list []impl.Example) bool {
		return impl.OptimalRun(c, list) == mistakes(optimal, c, list)
	}, t.Errorf)
}

func TestLittlestoneAndMembership(t *testing.T) {
	each(t, func(t *testing.T, c impl.Class) {
		if got, want := impl.LittlestoneOf(c), forced(c.Sets); got != want {
			t.Errorf("LittlestoneOf = %d, not %d", got, want)
		}
		if got, want := impl.MembershipDepth(c), asked(c.Sets); got != want {
			t.Errorf("MembershipDepth = %d, not %d", got, want)
		}
	})
}

// worst returns what WorstRun is to return of some sets.
func worst(sets []int) []impl.Example {
	var run []impl.Example
	for forced(sets) > 0 {
		most := forced(sets)
		for x := range impl.MaxN {
			with, without := parted(sets, x)
			if forced(with) >= most-1 && forced(without) >= most-1 {
				run = append(run, told(x, !optimal(sets, x)))
				sets = fitting(sets, run[len(run)-1:])
				break
			}
		}
	}
	return run
}

func TestWorstRun(t *testing.T) {
	each(t, func(t *testing.T, c impl.Class) {
		if got, want := impl.WorstRun(c), worst(c.Sets); !slices.Equal(got, want) {
			t.Errorf("WorstRun = %v, not %v", got, want)
		}
	})
}

func TestFirstQuestion(t *testing.T) {
	each(t, func(t *testing.T, c impl.Class) {
		first, due := 0, len(c.Sets) > 1
		for x := c.N - 1; x >= 0 && due; x-- {
			with, without := parted(c.Sets, x)
			if q := asked(c.Sets) - 1; asks(with, q) && asks(without, q) {
				first = x
			}
		}
		if got, ok := impl.FirstQuestion(c); got != first || ok != due {
			t.Errorf("FirstQuestion = %d, %v, not %d, %v", got, ok, first, due)
		}
	})
}

// few returns classes with at least one and at most MaxFew sets.
func few() []impl.Class {
	var list []impl.Class
	for _, c := range classes() {
		if len(c.Sets) > 0 && len(c.Sets) <= impl.MaxFew {
			list = append(list, c)
		}
	}
	state := uint64(99)
	for i := range 300 {
		var code uint64
		for range 3 + i%5 {
			state = state*6364136223846793005 + 1442695040888963407
			code |= 1 << (state >> 40 % 32)
		}
		list = append(list, coded(impl.MaxN, code))
	}
	return list
}

func TestEquivalenceDepth(t *testing.T) {
	full := 0
	for _, c := range few() {
		for _, proper := range []bool{false, true} {
			if got, want := impl.EquivalenceDepth(c, proper), guessed(c, proper); got != want {
				t.Fatalf("EquivalenceDepth of %v, %v = %d, not %d", c, proper, got, want)
			}
		}
		if len(c.Sets) == impl.MaxFew {
			full++
		}
	}
	if full < 100 {
		t.Errorf("just %d classes of MaxFew sets", full)
	}
	each(t, func(t *testing.T, c impl.Class) {
		outside := len(c.Sets) == 0 || len(c.Sets) > impl.MaxFew
		if outside && (impl.EquivalenceDepth(c, false) != -1 || impl.EquivalenceDepth(c, true) != -1) {
			t.Error("EquivalenceDepth of no sets, or of too many")
		}
	})
}

func TestDisagreementOf(t *testing.T) {
	each(t, func(t *testing.T, c impl.Class) {
		var points []int
		for x := range c.N {
			some, all := 0, whole(c)
			for _, s := range c.Sets {
				some |= s
				all &= s
			}
			if in(some, x) && !in(all, x) {
				points = append(points, x)
			}
		}
		if got := impl.DisagreementOf(c); !slices.Equal(got, points) {
			t.Errorf("DisagreementOf = %v, not %v", got, points)
		}
	})
}

func TestLabelsOf(t *testing.T) {
	eachSample(func(c impl.Class, list []impl.Example) bool {
		var points []int
		for _, e := range list {
			points = append(points, e.Point)
		}
		for s := range 1 << c.N {
			var want []impl.Example
			for _, x := range points {
				want = append(want, told(x, in(s, x)))
			}
			if got, ok := impl.LabelsOf(c, points, s); !ok || !slices.Equal(got, want) {
				return false
			}
		}
		return true
	}, t.Errorf)
}

func TestRunsByHand(t *testing.T) {
	c := at(3, 0, 1, 3, 7)
	for _, x := range []struct {
		list             []impl.Example
		left             impl.Class
		halving, optimal int
	}{
		{nil, c, 0, 0},
		{[]impl.Example{told(1, true), told(2, true)}, at(3, 7), 2, 2},
		{[]impl.Example{told(0, false)}, at(3, 0), 1, 1},
		{[]impl.Example{told(0, true), told(1, false)}, at(3, 1), 1, 1},
		{[]impl.Example{told(0, true), told(0, true), told(0, true)}, at(3, 1, 3, 7), 0, 0},
		// Of no sets each rule answers that no point is in.
		{[]impl.Example{told(2, true), told(0, false)}, at(3), 2, 2},
		{[]impl.Example{told(2, true), told(2, false), told(1, true), told(1, false), told(1, true)}, at(3), 4, 4},
	} {
		if got := impl.ConsistentOf(c, x.list); !same(got, x.left) {
			t.Errorf("ConsistentOf %v = %v", x.list, got)
		}
		if got := impl.HalvingRun(c, x.list); got != x.halving {
			t.Errorf("HalvingRun of %v = %d, not %d", x.list, got, x.halving)
		}
		if got := impl.OptimalRun(c, x.list); got != x.optimal {
			t.Errorf("OptimalRun of %v = %d, not %d", x.list, got, x.optimal)
		}
	}
	// Less than half of these have the point 4, but those make more mistakes.
	d := at(5, 0, 1, 2, 4, 8, 16, 17, 18, 19)
	if one := []impl.Example{told(4, true)}; impl.MajorityOf(d, 4) || impl.HalvingRun(d, one) != 1 || impl.OptimalRun(d, one) != 0 {
		t.Error("few sets that make many mistakes")
	}
	list := slices.Repeat([]impl.Example{told(0, true)}, impl.MaxSample)
	if impl.HalvingRun(at(1), list) != impl.MaxSample || impl.OptimalRun(at(1), list) != impl.MaxSample || impl.HalvingRun(at(1, 1), list) != 0 || impl.OptimalRun(at(1, 1), list) != 0 {
		t.Error("runs of one example MaxSample times")
	}
	list[0].Label = false
	if impl.HalvingRun(at(1, 1), list) != impl.MaxSample || impl.OptimalRun(at(1), list) != impl.MaxSample-1 {
		t.Error("runs of one example MaxSample times, but for the first one")
	}
}

func TestDepthsByHand(t *testing.T) {
	steps := at(5, 0, 1, 3, 7, 15, 31)
	for _, x := range []struct {
		c                                      impl.Class
		littlestone, members, proper, improper int
	}{
		{at(0), -1, 0, -1, -1}, {at(5), -1, 0, -1, -1},
		{at(0, 0), 0, 0, 1, 1}, {at(5, 21), 0, 0, 1, 1}, {at(1, 0, 1), 1, 1, 2, 2},
		{at(3, 1, 2, 4), 1, 2, 3, 2}, {at(3, 0, 1, 2, 4), 1, 3, 2, 2}, {at(5, 1, 2, 4, 8, 16), 1, 4, 5, 2},
		{at(2, 0, 1, 2, 3), 2, 2, 3, 3}, {steps, 2, 3, 3, 3}, {coded(5, 1<<32-1), 5, 5, -1, -1},
		{at(3, 0, 1, 2, 3, 4, 5, 6), 2, 3, 3, 3},
	} {
		if impl.LittlestoneOf(x.c) != x.littlestone || impl.MembershipDepth(x.c) != x.members {
			t.Errorf("LittlestoneOf %v = %d, MembershipDepth = %d", x.c, impl.LittlestoneOf(x.c), impl.MembershipDepth(x.c))
		}
		if impl.EquivalenceDepth(x.c, true) != x.proper || impl.EquivalenceDepth(x.c, false) != x.improper {
			t.Errorf("EquivalenceDepth of %v = %d, %d", x.c, impl.EquivalenceDepth(x.c, true), impl.EquivalenceDepth(x.c, false))
		}
	}
	if got := impl.WorstRun(at(3, 0, 1, 3, 7)); !slices.Equal(got, []impl.Example{told(1, true), told(2, true)}) {
		t.Errorf("WorstRun = %v", got)
	}
	if x, ok := impl.FirstQuestion(steps); x != 1 || !ok {
		t.Errorf("FirstQuestion = %d, %v", x, ok)
	}
	if got := impl.DisagreementOf(at(4, 9, 12, 13)); !slices.Equal(got, []int{0, 2}) {
		t.Errorf("DisagreementOf = %v", got)
	}
	if got, ok := impl.LabelsOf(at(3), []int{2, 0, 2}, 4); !ok || !slices.Equal(got, []impl.Example{told(2, true), told(0, false), told(2, true)}) {
		t.Errorf("LabelsOf = %v, %v", got, ok)
	}
}
