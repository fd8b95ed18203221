package tests

import (
	"slices"
	"testing"

	"loop.example/shatteredsets/impl"
)

// along returns the different second sets of cubes, ascending.
func along(cubes []impl.Pair) []int {
	var out []int
	for _, cube := range cubes {
		out = append(out, cube.B)
	}
	slices.Sort(out)
	return slices.Compact(out)
}

// TestPromise14Cubes is of the promise as chapter 4 tells it: the sets that are strong are those of cubes.
func TestPromise14Cubes(t *testing.T) {
	each(t, func(t *testing.T, c impl.Class) {
		before := along(impl.CubesOf(c))
		for x := range c.N {
			d := impl.ShiftClass(c, x)
			if len(d.Sets) != len(c.Sets) || impl.CubeCounts(d)[0] != impl.CubeCounts(c)[0] || !among(before, along(impl.CubesOf(d))) {
				t.Errorf("ShiftClass %d = %v", x, d)
			}
			if !among(impl.ShatteredSets(d), impl.ShatteredSets(c)) {
				t.Errorf("ShiftClass %d shatters more", x)
			}
		}
	})
}

// TestPromise17Edges is of the part of the promise that chapter 4 keeps.
func TestPromise17Edges(t *testing.T) {
	each(t, func(t *testing.T, c impl.Class) {
		edges := impl.EdgesOf(c)
		count := 0
		for x := range c.N {
			link := impl.LinkOf(c, x)
			count += len(link.Sets)
			for _, e := range edges {
				if e.A^e.B == 1<<x && !slices.Contains(link.Sets, shortened(e.A, x)) {
					t.Errorf("LinkOf %d has not the edge %v", x, e)
				}
			}
		}
		if count != len(edges) {
			t.Errorf("all links have %d sets, and EdgesOf = %v", count, edges)
		}
	})
}

// TestPromise35Edges is of the part of the promise that chapter 4 keeps.
func TestPromise35Edges(t *testing.T) {
	each(t, func(t *testing.T, c impl.Class) {
		neighbours := map[int]int{}
		for _, e := range impl.EdgesOf(c) {
			neighbours[e.A]++
			neighbours[e.B]++
		}
		for _, u := range c.Sets {
			if neighbours[u] != byOnePoint(c.Sets, u) || impl.TeachingNumber(c, u) < neighbours[u] {
				t.Errorf("the set %d has %d edges, and TeachingNumber is %d", u, neighbours[u], impl.TeachingNumber(c, u))
			}
		}
	})
}

// TestPromise41Clashes is of the part of the promise that chapter 4 keeps.
func TestPromise41Clashes(t *testing.T) {
	each(t, func(t *testing.T, c impl.Class) {
		plan := impl.TeachingPlan(c)
		if !impl.IsRepresentation(c, plan) {
			t.Errorf("TeachingPlan = %v has clashes", plan)
		}
		for i, u := range c.Sets {
			if s, ok := impl.LearnRepresentation(c, plan, labels(t, c, u, plan[i])); s != u || !ok {
				t.Errorf("LearnRepresentation of TeachingPlan for %d = %d, %v", u, s, ok)
			}
		}
	})
}

func TestPromise45(t *testing.T) {
	each(t, func(t *testing.T, c impl.Class) {
		edges := impl.EdgesOf(c)
		for i, e := range edges {
			if sizes(e.A)%2 == sizes(e.B)%2 || e.A >= e.B || !among([]int{e.A, e.B}, c.Sets) {
				t.Errorf("EdgesOf = %v", edges)
			}
			if i > 0 && (e.A < edges[i-1].A || e.A == edges[i-1].A && e.B <= edges[i-1].B) {
				t.Errorf("EdgesOf = %v", edges)
			}
		}
		if len(edges) > len(c.Sets)*impl.VCDimension(c) {
			t.Errorf("%d edges of %d sets", len(edges), len(c.Sets))
		}
	})
}

func TestPromise46(t *testing.T) {
	each(t, func(t *testing.T, c impl.Class) {
		for _, a := range c.Sets {
			for _, b := range c.Sets {
				got := impl.DistanceIn(c, a, b)
				if got != impl.DistanceIn(c, b, a) || (got == 0) != (a == b) {
					t.Errorf("DistanceIn %d, %d = %d", a, b, got)
				}
				if got >= 0 && (got < sizes(a^b) || got%2 != sizes(a^b)%2) {
					t.Errorf("DistanceIn %d, %d = %d", a, b, got)
				}
			}
		}
	})
}

func TestPromise47(t *testing.T) {
	extremal, others := 0, 0
	each(t, func(t *testing.T, c impl.Class) {
		holds := impl.IsIsometric(c)
		if holds && impl.ComponentsOf(c) != min(1, len(c.Sets)) {
			t.Errorf("IsIsometric, and ComponentsOf = %d", impl.ComponentsOf(c))
		}
		if !impl.IsExtremal(c) {
			others++
			return
		}
		extremal++
		if !holds {
			t.Error("is extremal, but not isometric")
		}
	})
	if extremal < 100 || others < 100 {
		t.Errorf("%d classes are extremal, and %d are not", extremal, others)
	}
}

func TestPromise48(t *testing.T) {
	each(t, func(t *testing.T, c impl.Class) {
		got := impl.ComponentsOf(c)
		if got+len(impl.EdgesOf(c)) < len(c.Sets) {
			t.Errorf("ComponentsOf = %d", got)
		}
		for s := range 1 << c.N {
			if impl.ComponentsOf(impl.FlipClass(c, s)) != got {
				t.Errorf("ComponentsOf = %d when flipped by %d", got, s)
			}
		}
	})
}

func TestPromise49(t *testing.T) {
	each(t, func(t *testing.T, c impl.Class) {
		cubes := impl.CubesOf(c)
		if !slices.Equal(along(cubes), impl.StrongSets(c)) {
			t.Errorf("CubesOf = %v, StrongSets = %v", cubes, impl.StrongSets(c))
		}
		for _, cube := range cubes {
			for s := range 1 << c.N {
				if s&^cube.B == cube.A && !slices.Contains(c.Sets, s) || cube.A&cube.B != 0 {
					t.Errorf("CubesOf = %v", cubes)
				}
			}
		}
	})
}

func TestPromise50(t *testing.T) {
	count := 0
	each(t, func(t *testing.T, c impl.Class) {
		got := impl.EulerOf(c)
		if impl.IsExtremal(c) && len(c.Sets) > 0 {
			count++
			if got != 1 {
				t.Errorf("EulerOf = %d", got)
			}
		}
		for s := range 1 << c.N {
			if impl.EulerOf(impl.FlipClass(c, s)) != got {
				t.Errorf("EulerOf = %d when flipped by %d", got, s)
			}
		}
	})
	if count < 100 {
		t.Errorf("just %d classes are extremal", count)
	}
}

func TestPromise51(t *testing.T) {
	each(t, func(t *testing.T, c impl.Class) {
		counts := impl.CubeCounts(c)
		if len(counts) != c.N+1 || counts[0] != len(c.Sets) || c.N > 0 && counts[1] != len(impl.EdgesOf(c)) {
			t.Fatalf("CubeCounts of %v = %v", c, counts)
		}
		all, turns := 0, 0
		for k := c.N; k >= 0; k-- {
			all += counts[k]
			turns = counts[k] - turns
		}
		if all != len(impl.CubesOf(c)) || turns != impl.EulerOf(c) {
			t.Errorf("CubeCounts = %v, EulerOf = %d", counts, impl.EulerOf(c))
		}
	})
}

func TestPromise52(t *testing.T) {
	each(t, func(t *testing.T, c impl.Class) {
		got := impl.OutdegreeOf(c)
		if got < 0 || got > max(0, impl.VCDimension(c)) || got*len(c.Sets) < len(impl.EdgesOf(c)) {
			t.Errorf("OutdegreeOf = %d", got)
		}
	})
}

func TestPromise53(t *testing.T) {
	count := 0
	each(t, func(t *testing.T, c impl.Class) {
		for _, plan := range plans(c) {
			if !impl.IsRepresentation(c, plan) {
				continue
			}
			count++
			for i, u := range c.Sets {
				if s, ok := impl.LearnRepresentation(c, plan, labels(t, c, u, whole(c))); s != u || !ok {
					t.Errorf("LearnRepresentation %v of %d at all points = %d, %v", plan, u, s, ok)
				}
				for x := range c.N {
					greater := slices.Clone(plan)
					greater[i] |= 1 << x
					if !impl.IsRepresentation(c, greater) {
						t.Errorf("IsRepresentation %v, but not %v", plan, greater)
					}
				}
			}
		}
	})
	if count < 1000 {
		t.Errorf("just %d plans have no clashes", count)
	}
}

func TestPromise54(t *testing.T) {
	count := 0
	each(t, func(t *testing.T, c impl.Class) {
		for _, plan := range plans(c) {
			if !impl.IsRepresentation(c, plan) {
				continue
			}
			for i, u := range c.Sets {
				if plan[i] != whole(c) {
					count++
				}
				if s, ok := impl.LearnRepresentation(c, plan, labels(t, c, u, plan[i])); s != u || !ok {
					t.Errorf("LearnRepresentation %v of %d at %d = %d, %v", plan, u, plan[i], s, ok)
				}
			}
		}
	})
	if count < 10000 {
		t.Errorf("just %d sets are told by fewer points than all", count)
	}
}

func TestPromise55(t *testing.T) {
	count := 0
	each(t, func(t *testing.T, c impl.Class) {
		before := false
		for most := -1; most <= c.N+1; most++ {
			plan, ok := impl.FirstRepresentation(c, most)
			if before && !ok {
				t.Errorf("FirstRepresentation %d is none, but there is one of less", most)
			}
			before = ok
			if !ok {
				continue
			}
			count++
			if !impl.IsRepresentation(c, plan) || len(plan) > 0 && largest(plan) > most {
				t.Errorf("FirstRepresentation %d = %v", most, plan)
			}
		}
		if before != (len(c.Sets) <= impl.MaxFew) {
			t.Errorf("FirstRepresentation of all points = %v", before)
		}
	})
	if count < 1000 {
		t.Errorf("just %d plans", count)
	}
}

func TestPromise56(t *testing.T) {
	less := 0
	each(t, func(t *testing.T, c impl.Class) {
		if len(c.Sets) > impl.MaxFew {
			return
		}
		got := impl.RepresentationNumber(c)
		if got < 0 || got > max(0, impl.RecursiveDimension(c)) {
			t.Errorf("RepresentationNumber = %d", got)
		}
		if _, ok := impl.FirstRepresentation(c, got); !ok {
			t.Errorf("FirstRepresentation %d is none", got)
		}
		if plan, ok := impl.FirstRepresentation(c, got-1); ok != (len(c.Sets) == 0) {
			t.Errorf("FirstRepresentation %d = %v", got-1, plan)
		}
		if got < impl.RecursiveDimension(c) {
			less++
		}
	})
	if less < 20 {
		t.Errorf("RepresentationNumber is less than RecursiveDimension for just %d classes", less)
	}
}

func TestPromise57(t *testing.T) {
	found, none := 0, 0
	each(t, func(t *testing.T, c impl.Class) {
		list := samples(c)
		for _, plan := range plans(c) {
			if !impl.IsRepresentation(c, plan) {
				continue
			}
			for _, sample := range list {
				seen := 0
				for _, e := range sample {
					seen |= 1 << e.Point
				}
				var shows []int
				for i, s := range c.Sets {
					if fits(s, sample) && part(plan[i], seen) {
						shows = append(shows, s)
					}
				}
				s, ok := impl.LearnRepresentation(c, plan, sample)
				if ok && !slices.Equal(shows, []int{s}) || !ok && len(shows) > 0 {
					t.Errorf("LearnRepresentation %v, %v = %d, %v, and %v are told", plan, sample, s, ok, shows)
				}
				if ok {
					found++
				} else {
					none++
				}
			}
		}
	})
	if found < 1000 || none < 1000 {
		t.Errorf("%d samples tell a set, and %d do not", found, none)
	}
}
