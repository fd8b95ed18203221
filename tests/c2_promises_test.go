package tests

import (
	"slices"
	"testing"

	"loop.example/shatteredsets/impl"
)

// without returns a class without one of its sets.
func without(c impl.Class, i int) impl.Class {
	return at(c.N, slices.Delete(slices.Clone(c.Sets), i, i+1)...)
}

// TestPromise13Mistakes is of the part of the promise that chapter 2 keeps.
func TestPromise13Mistakes(t *testing.T) {
	each(t, func(t *testing.T, c impl.Class) {
		for s := 1; s < 1<<c.N; s += 3 {
			d := impl.FlipClass(c, s)
			if impl.LittlestoneOf(d) != impl.LittlestoneOf(c) || impl.MembershipDepth(d) != impl.MembershipDepth(c) || impl.EquivalenceDepth(d, false) != impl.EquivalenceDepth(c, false) {
				t.Errorf("numbers of mistakes when flipped by %d", s)
			}
		}
	})
}

func TestPromise21(t *testing.T) {
	eachSample(func(c impl.Class, list []impl.Example) bool {
		for k := len(list); k >= 0; k-- {
			if !impl.ValidSample(c, list[:k]) {
				return false
			}
		}
		return true
	}, t.Errorf)
}

// TestPromise22 is of the part of the promise that chapter 2 keeps.
func TestPromise22(t *testing.T) {
	eachSample(func(c impl.Class, list []impl.Example) bool {
		all := impl.ConsistentOf(c, list)
		for k := range len(list) + 1 {
			if !same(impl.ConsistentOf(impl.ConsistentOf(c, list[:k]), list[k:]), all) {
				return false
			}
		}
		return among(all.Sets, c.Sets) && !slices.ContainsFunc(all.Sets, func(s int) bool { return !fits(s, list) })
	}, t.Errorf)
}

func TestPromise23(t *testing.T) {
	each(t, func(t *testing.T, c impl.Class) {
		for x := range c.N {
			if impl.MajorityOf(c, x) && (impl.MajorityOf(impl.FlipClass(c, 1<<x), x) || impl.MajorityOf(impl.FlipClass(c, whole(c)), x)) {
				t.Errorf("MajorityOf %d and flipped", x)
			}
			for _, s := range c.Sets {
				if impl.MajorityOf(at(c.N, s), x) != in(s, x) {
					t.Errorf("MajorityOf %d of %d alone", x, s)
				}
			}
		}
	})
}

// eachFitting runs a test for each of the samples that a set of the class fits, and fails if there are few of them.
func eachFitting(t *testing.T, test func(impl.Class, []impl.Example) bool) {
	t.Helper()
	count := 0
	eachSample(func(c impl.Class, list []impl.Example) bool {
		if len(impl.ConsistentOf(c, list).Sets) == 0 {
			return true
		}
		count++
		return test(c, list)
	}, t.Errorf)
	if count < 1000 {
		t.Errorf("just %d samples that a set fits", count)
	}
}

func TestPromise24(t *testing.T) {
	eachFitting(t, func(c impl.Class, list []impl.Example) bool {
		got := impl.HalvingRun(c, list)
		return got >= 0 && 1<<got <= len(c.Sets)
	})
}

func TestPromise25(t *testing.T) {
	each(t, func(t *testing.T, c impl.Class) {
		got := impl.LittlestoneOf(c)
		if got < impl.VCDimension(c) || got >= 0 && 1<<got > len(c.Sets) {
			t.Errorf("LittlestoneOf = %d", got)
		}
		for i := range c.Sets {
			if impl.LittlestoneOf(without(c, i)) > got {
				t.Errorf("LittlestoneOf without the set %d is more than %d", c.Sets[i], got)
			}
		}
	})
}

func TestPromise26(t *testing.T) {
	eachFitting(t, func(c impl.Class, list []impl.Example) bool {
		got := impl.OptimalRun(c, list)
		return got >= 0 && got <= impl.LittlestoneOf(c)
	})
}

func TestPromise27(t *testing.T) {
	each(t, func(t *testing.T, c impl.Class) {
		run := impl.WorstRun(c)
		if len(run) != max(0, impl.LittlestoneOf(c)) || impl.OptimalRun(c, run) != len(run) {
			t.Errorf("WorstRun = %v", run)
		}
		if len(c.Sets) > 0 && len(impl.ConsistentOf(c, run).Sets) == 0 {
			t.Errorf("no set fits WorstRun = %v", run)
		}
	})
}

// TestPromise28 is of the part of the promise that chapter 2 keeps.
func TestPromise28(t *testing.T) {
	each(t, func(t *testing.T, c impl.Class) {
		got := impl.MembershipDepth(c)
		if 1<<got < len(c.Sets) || len(c.Sets) > 0 && got >= len(c.Sets) {
			t.Errorf("MembershipDepth = %d", got)
		}
	})
}

func TestPromise29(t *testing.T) {
	each(t, func(t *testing.T, c impl.Class) {
		due := impl.MembershipDepth(c)
		x, ok := impl.FirstQuestion(c)
		if ok != (due > 0) {
			t.Errorf("FirstQuestion = %d, %v", x, ok)
		}
		if !ok {
			return
		}
		a := impl.MembershipDepth(impl.ConsistentOf(c, []impl.Example{told(x, true)}))
		b := impl.MembershipDepth(impl.ConsistentOf(c, []impl.Example{told(x, false)}))
		if max(a, b) != due-1 {
			t.Errorf("after FirstQuestion = %d, MembershipDepth = %d, %d", x, a, b)
		}
	})
}

func TestPromise30(t *testing.T) {
	more := 0
	for _, c := range few() {
		proper, improper := impl.EquivalenceDepth(c, true), impl.EquivalenceDepth(c, false)
		if improper != impl.LittlestoneOf(c)+1 || proper < improper || proper > len(c.Sets) {
			t.Fatalf("EquivalenceDepth of %v = %d, %d", c, proper, improper)
		}
		if proper > improper {
			more++
		}
	}
	if more < 50 {
		t.Errorf("just %d classes for which it matters what is guessed", more)
	}
}

func TestPromise31(t *testing.T) {
	each(t, func(t *testing.T, c impl.Class) {
		points := impl.DisagreementOf(c)
		if !slices.IsSorted(points) {
			t.Errorf("DisagreementOf = %v", points)
		}
		for x := range c.N {
			if slices.Contains(points, x) != impl.IsShattered(c, 1<<x) {
				t.Errorf("DisagreementOf = %v", points)
			}
		}
	})
}

// TestPromise32 is of the part of the promise that chapter 2 keeps.
func TestPromise32(t *testing.T) {
	each(t, func(t *testing.T, c impl.Class) {
		var points []int
		for x := range c.N {
			points = append(points, x)
		}
		for _, s := range c.Sets {
			list, ok := impl.LabelsOf(c, points, s)
			if !ok || !same(impl.ConsistentOf(c, list), at(c.N, s)) {
				t.Errorf("LabelsOf %d = %v, %v", s, list, ok)
			}
			flipped, ok := impl.LabelsOf(c, points, s^whole(c))
			for i, e := range list {
				if !ok || flipped[i] != told(e.Point, !e.Label) {
					t.Errorf("LabelsOf %d flipped = %v, %v", s, flipped, ok)
				}
			}
		}
	})
}
