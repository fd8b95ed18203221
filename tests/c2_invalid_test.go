package tests

import (
	"math"
	"slices"
	"testing"

	"loop.example/shatteredsets/impl"
)

func TestInvalidClassesOfMistakes(t *testing.T) {
	for _, c := range invalidClasses() {
		for _, list := range [][]impl.Example{nil, {told(0, true)}, {told(0, false), told(1, true)}} {
			invalidSample(t, c, list)
		}
		for _, x := range []int{0, 1, -1, 64, math.MinInt, math.MaxInt} {
			if impl.MajorityOf(c, x) {
				t.Errorf("MajorityOf %d of %v", x, c)
			}
		}
		if impl.LittlestoneOf(c) != -1 || impl.MembershipDepth(c) != -1 || impl.EquivalenceDepth(c, true) != -1 || impl.EquivalenceDepth(c, false) != -1 {
			t.Errorf("numbers of %v", c)
		}
		if x, ok := impl.FirstQuestion(c); x != 0 || ok || len(impl.WorstRun(c)) > 0 || len(impl.DisagreementOf(c)) > 0 {
			t.Errorf("points of %v", c)
		}
		invalidLabels(t, c, nil, 0)
		invalidLabels(t, c, []int{0}, 0)
	}
}

func invalidSample(t *testing.T, c impl.Class, list []impl.Example) {
	t.Helper()
	if impl.ValidSample(c, list) || !isZero(impl.ConsistentOf(c, list)) || impl.HalvingRun(c, list) != -1 || impl.OptimalRun(c, list) != -1 {
		t.Errorf("the sample %v of %v", list, c)
	}
}

func invalidLabels(t *testing.T, c impl.Class, points []int, s int) {
	t.Helper()
	if list, ok := impl.LabelsOf(c, points, s); len(list) > 0 || ok {
		t.Errorf("LabelsOf %v, %d of %v = %v, %v", points, s, c, list, ok)
	}
}

func TestInvalidSamplesAndPoints(t *testing.T) {
	each(t, func(t *testing.T, c impl.Class) {
		for _, x := range noPoints(c.N) {
			if impl.MajorityOf(c, x) {
				t.Errorf("MajorityOf %d", x)
			}
			invalidLabels(t, c, []int{x}, 0)
			for _, label := range []bool{false, true} {
				invalidSample(t, c, []impl.Example{told(x, label)})
			}
			if c.N > 0 {
				fine := told(c.N-1, true)
				invalidSample(t, c, []impl.Example{fine, told(x, true)})
				invalidSample(t, c, []impl.Example{told(x, false), fine, fine})
				invalidSample(t, c, append(slices.Repeat([]impl.Example{fine}, impl.MaxSample-1), told(x, true)))
				invalidLabels(t, c, []int{fine.Point, x}, whole(c))
				invalidLabels(t, c, []int{x, fine.Point}, whole(c))
			}
		}
		for _, s := range outside(c.N) {
			invalidLabels(t, c, nil, s)
			invalidLabels(t, c, []int{0}, s)
		}
	})
}

func TestSamplesOfMoreThanMaxSample(t *testing.T) {
	each(t, func(t *testing.T, c impl.Class) {
		for _, length := range []int{impl.MaxSample + 1, impl.MaxSample + 2, 100} {
			invalidSample(t, c, make([]impl.Example, length))
			invalidLabels(t, c, make([]int, length), 0)
		}
		if c.N == 0 {
			return
		}
		if !impl.ValidSample(c, make([]impl.Example, impl.MaxSample)) {
			t.Error("MaxSample examples are a sample")
		}
		if list, ok := impl.LabelsOf(c, make([]int, impl.MaxSample), 0); len(list) != impl.MaxSample || !ok {
			t.Errorf("LabelsOf MaxSample points = %v, %v", list, ok)
		}
	})
}

// shares reports whether one result shares memory with another one, or with what the next one is made of.
func shares[E comparable](f func() []E, junk E) bool {
	first, second := f(), f()
	want := slices.Clone(second)
	first = first[:cap(first)]
	for i := range first {
		first[i] = junk
	}
	return !slices.Equal(second, want) || !slices.Equal(f(), want)
}

// roomy returns a copy of a list with room behind it, in which there are some values.
func roomy[E any](list []E, junk E) []E {
	room := append(slices.Clone(list), junk, junk, junk)
	return room[:len(list)]
}

// whichever is a list with all the room behind it.
func whichever[E any](list []E) []E {
	return list[:cap(list)]
}

func TestMemoryOfClasses(t *testing.T) {
	each(t, func(t *testing.T, c impl.Class) {
		for name, f := range map[string]func(impl.Class) []int{
			"DisagreementOf": impl.DisagreementOf,
			"ConsistentOf":   func(c impl.Class) []int { return impl.ConsistentOf(c, nil).Sets },
			"numbers": func(c impl.Class) []int {
				impl.MajorityOf(c, 0)
				impl.LittlestoneOf(c)
				impl.MembershipDepth(c)
				impl.FirstQuestion(c)
				impl.EquivalenceDepth(c, true)
				impl.EquivalenceDepth(c, false)
				impl.WorstRun(c)
				return nil
			},
		} {
			if spoils(c, f) {
				t.Error(name)
			}
		}
		if shares(func() []impl.Example { return impl.WorstRun(c) }, told(77, true)) {
			t.Error("WorstRun")
		}
	})
}

func TestMemoryOfSamples(t *testing.T) {
	eachSample(func(c impl.Class, list []impl.Example) bool {
		junk := told(77, true)
		c.Sets, list = roomy(c.Sets, 77), roomy(list, junk)
		points := make([]int, len(list), len(list)+3)
		for i, e := range list {
			points[i] = e.Point
		}
		sets, examples, numbers := slices.Clone(whichever(c.Sets)), slices.Clone(whichever(list)), slices.Clone(whichever(points))
		impl.ValidSample(c, list)
		impl.HalvingRun(c, list)
		impl.OptimalRun(c, list)
		if shares(func() []int { return impl.ConsistentOf(c, list).Sets }, 99) {
			return false
		}
		if shares(func() []impl.Example { out, _ := impl.LabelsOf(c, points, 0); return out }, told(99, true)) {
			return false
		}
		return slices.Equal(whichever(c.Sets), sets) && slices.Equal(whichever(list), examples) && slices.Equal(whichever(points), numbers)
	}, t.Errorf)
}
