package tests

import (
	"slices"
	"testing"

	"loop.example/shatteredsets/impl"
)

// pointsIn returns the points of a set, ascending.
func pointsIn(s int) []int {
	var out []int
	for x := range impl.MaxN {
		if in(s, x) {
			out = append(out, x)
		}
	}
	return out
}

// labels returns the sample of the points of the set s with the labels of the set u.
func labels(t *testing.T, c impl.Class, u int, s int) []impl.Example {
	t.Helper()
	list, ok := impl.LabelsOf(c, pointsIn(s), u)
	if !ok {
		t.Fatalf("LabelsOf %d at %d of %v", u, s, c)
	}
	return list
}

// TestPromise13Teaching is of the part of the promise that chapter 3 keeps.
func TestPromise13Teaching(t *testing.T) {
	each(t, func(t *testing.T, c impl.Class) {
		for s := range 1 << c.N {
			d := impl.FlipClass(c, s)
			if impl.TeachingDimension(d) != impl.TeachingDimension(c) || impl.EasiestTeaching(d) != impl.EasiestTeaching(c) || impl.RecursiveDimension(d) != impl.RecursiveDimension(c) || impl.StarNumber(d) != impl.StarNumber(c) {
				t.Errorf("numbers of points to teach when flipped by %d", s)
			}
			for _, u := range c.Sets {
				if impl.TeachingNumber(d, u^s) != impl.TeachingNumber(c, u) {
					t.Errorf("TeachingNumber %d when flipped by %d", u, s)
				}
			}
		}
	})
}

// TestPromise28Teaching is of the part of the promise that chapter 3 keeps.
func TestPromise28Teaching(t *testing.T) {
	each(t, func(t *testing.T, c impl.Class) {
		if impl.MembershipDepth(c) < impl.TeachingDimension(c) {
			t.Errorf("MembershipDepth = %d, TeachingDimension = %d", impl.MembershipDepth(c), impl.TeachingDimension(c))
		}
	})
}

func TestPromise33(t *testing.T) {
	count := 0
	each(t, func(t *testing.T, c impl.Class) {
		for _, u := range c.Sets {
			if !impl.IsTeaching(c, u, whole(c)) {
				t.Errorf("all points do not teach %d", u)
			}
			for s := range 1 << c.N {
				if !impl.IsTeaching(c, u, s) {
					continue
				}
				count++
				for x := range c.N {
					if !impl.IsTeaching(c, u, s|1<<x) {
						t.Errorf("IsTeaching %d, %d, but not with %d", u, s, x)
					}
				}
				if left := impl.ConsistentOf(c, labels(t, c, u, s)); !same(left, at(c.N, u)) {
					t.Errorf("IsTeaching %d, %d, and %v is left", u, s, left)
				}
			}
		}
	})
	if count < 10000 {
		t.Errorf("just %d sets teach", count)
	}
}

func TestPromise34(t *testing.T) {
	each(t, func(t *testing.T, c impl.Class) {
		for _, u := range c.Sets {
			s, ok := impl.FirstTeaching(c, u)
			if !ok || !impl.IsTeaching(c, u, s) {
				t.Errorf("FirstTeaching %d = %d, %v", u, s, ok)
			}
			for _, x := range pointsIn(s) {
				if impl.IsTeaching(c, u, s-1<<x) {
					t.Errorf("FirstTeaching %d = %d teaches without %d", u, s, x)
				}
			}
		}
	})
}

func TestPromise35(t *testing.T) {
	each(t, func(t *testing.T, c impl.Class) {
		for _, u := range c.Sets {
			if got := impl.TeachingNumber(c, u); got < byOnePoint(c.Sets, u) {
				t.Errorf("TeachingNumber %d = %d", u, got)
			}
		}
		for i := range c.Sets {
			d := without(c, i)
			for _, u := range d.Sets {
				if impl.TeachingNumber(d, u) > impl.TeachingNumber(c, u) {
					t.Errorf("TeachingNumber %d is more without the set %d", u, c.Sets[i])
				}
			}
		}
	})
}

func TestPromise36(t *testing.T) {
	each(t, func(t *testing.T, c impl.Class) {
		numbers := impl.TeachingNumbers(c)
		if len(numbers) != len(c.Sets) {
			t.Fatalf("TeachingNumbers of %v = %v", c, numbers)
		}
		least, greatest := impl.EasiestTeaching(c), impl.TeachingDimension(c)
		for i, u := range c.Sets {
			if numbers[i] != impl.TeachingNumber(c, u) || numbers[i] < least || numbers[i] > greatest {
				t.Errorf("TeachingNumbers = %v, between %d and %d", numbers, least, greatest)
			}
		}
		if len(numbers) > 0 && (!slices.Contains(numbers, least) || !slices.Contains(numbers, greatest)) {
			t.Errorf("TeachingNumbers = %v, between %d and %d", numbers, least, greatest)
		}
	})
}

func TestPromise37(t *testing.T) {
	each(t, func(t *testing.T, c impl.Class) {
		got := impl.TeachingDimension(c)
		if got > impl.MembershipDepth(c) || got > impl.StarNumber(c) {
			t.Errorf("TeachingDimension = %d", got)
		}
	})
}

func TestPromise38(t *testing.T) {
	less := 0
	each(t, func(t *testing.T, c impl.Class) {
		got := impl.EasiestTeaching(c)
		if got > impl.RecursiveDimension(c) || (got == 0) != (len(c.Sets) == 1) {
			t.Errorf("EasiestTeaching = %d", got)
		}
		if got < impl.RecursiveDimension(c) {
			less++
		}
	})
	if less < 50 {
		t.Errorf("EasiestTeaching is less than RecursiveDimension for just %d classes", less)
	}
}

func TestPromise39(t *testing.T) {
	each(t, func(t *testing.T, c impl.Class) {
		layers := impl.LayersOf(c)
		for _, layer := range layers {
			if len(layer) == 0 || !slices.IsSorted(layer) {
				t.Errorf("LayersOf = %v", layers)
			}
		}
		if all := slices.Sorted(slices.Values(slices.Concat(layers...))); !slices.Equal(all, c.Sets) {
			t.Errorf("LayersOf = %v", layers)
		}
		for i, u := range c.Sets {
			first := impl.TeachingNumbers(c)[i] == impl.EasiestTeaching(c)
			if first != slices.Contains(layers[0], u) {
				t.Errorf("LayersOf = %v", layers)
			}
		}
	})
}

func TestPromise40(t *testing.T) {
	each(t, func(t *testing.T, c impl.Class) {
		got, greatest := impl.RecursiveDimension(c), -1
		for _, s := range impl.TeachingPlan(c) {
			greatest = max(greatest, sizes(s))
		}
		if got != greatest {
			t.Errorf("RecursiveDimension = %d, TeachingPlan = %v", got, impl.TeachingPlan(c))
		}
		for i := range c.Sets {
			if impl.RecursiveDimension(without(c, i)) > got {
				t.Errorf("RecursiveDimension is more without the set %d", c.Sets[i])
			}
		}
	})
}

// TestPromise41 finds the clashes of a plan by itself, since chapter 4 has the function for them.
func TestPromise41(t *testing.T) {
	each(t, func(t *testing.T, c impl.Class) {
		plan := impl.TeachingPlan(c)
		if len(plan) != len(c.Sets) {
			t.Fatalf("TeachingPlan of %v = %v", c, plan)
		}
		for i, u := range c.Sets {
			if got, ok := impl.LearnPlan(c, labels(t, c, u, plan[i])); got != u || !ok {
				t.Errorf("LearnPlan of %d at %d = %d, %v", u, plan[i], got, ok)
			}
			for j := range i {
				if alike(u, c.Sets[j], plan[i]|plan[j]) {
					t.Errorf("TeachingPlan = %v does not tell %d from %d", plan, u, c.Sets[j])
				}
			}
		}
	})
}

func TestPromise42(t *testing.T) {
	eachSample(func(c impl.Class, list []impl.Example) bool {
		left := impl.ConsistentOf(c, list).Sets
		s, ok := impl.LearnPlan(c, list)
		if len(left) == 0 {
			return s == 0 && !ok
		}
		return ok && slices.Contains(left, s)
	}, t.Errorf)
}

func TestPromise43(t *testing.T) {
	each(t, func(t *testing.T, c impl.Class) {
		star := impl.StarNumber(c)
		for _, u := range c.Sets {
			list := impl.TeachingsOf(c, u)
			if first, _ := impl.FirstTeaching(c, u); !slices.Contains(list, first) || !slices.IsSorted(list) {
				t.Errorf("TeachingsOf %d = %v, and FirstTeaching is %d", u, list, first)
			}
			for i, s := range list {
				if !impl.IsTeaching(c, u, s) || sizes(s) > star {
					t.Errorf("TeachingsOf %d = %v", u, list)
				}
				for j, p := range list {
					if i != j && part(p, s) {
						t.Errorf("TeachingsOf %d = %v", u, list)
					}
				}
			}
		}
	})
}

func TestPromise44(t *testing.T) {
	each(t, func(t *testing.T, c impl.Class) {
		got := impl.StarNumber(c)
		if got < impl.VCDimension(c) || got >= len(c.Sets) {
			t.Errorf("StarNumber = %d", got)
		}
		for x := range c.N {
			if impl.StarNumber(impl.RemovePoint(c, x)) > got {
				t.Errorf("StarNumber is more without the point %d", x)
			}
		}
	})
}
