package tests

import (
	"math"
	"regexp"
	"slices"
	"strconv"
	"strings"
	"testing"

	"loop.example/shatteredsets/impl"
)

func TestPromise1(t *testing.T) {
	each(t, func(t *testing.T, c impl.Class) {
		if !impl.ValidClass(impl.ComplementClass(c)) {
			t.Error("the complement is not valid")
		}
		for len(c.Sets) > 0 {
			c.Sets = c.Sets[:len(c.Sets)-1]
			if !impl.ValidClass(c) {
				t.Errorf("not valid when cut to %v", c)
			}
		}
	})
}

func TestPromise2(t *testing.T) {
	each(t, func(t *testing.T, c impl.Class) {
		for s := range 1 << c.N {
			trace := impl.TraceOf(c, s)
			for _, p := range trace {
				if !part(p, s) {
					t.Errorf("%d is no part of %d", p, s)
				}
			}
			if len(trace) > len(c.Sets) {
				t.Errorf("TraceOf %d is greater than the class", s)
			}
		}
		if !slices.Equal(impl.TraceOf(c, whole(c)), c.Sets) {
			t.Error("TraceOf all points is not the sets")
		}
	})
}

func TestPromise3(t *testing.T) {
	each(t, func(t *testing.T, c impl.Class) {
		for s := range 1 << c.N {
			if !impl.IsShattered(c, s) {
				continue
			}
			if len(c.Sets) < 1<<sizes(s) {
				t.Errorf("%d has too many parts", s)
			}
			for x := range c.N {
				if !impl.IsShattered(c, s&^(1<<x)) {
					t.Errorf("%d is shattered, but not without %d", s, x)
				}
			}
		}
	})
}

func TestPromise4(t *testing.T) {
	each(t, func(t *testing.T, c impl.Class) {
		list := impl.ShatteredSets(c)
		if len(list) < len(c.Sets) || !among(impl.StrongSets(c), list) {
			t.Errorf("ShatteredSets = %v", list)
		}
	})
}

func TestPromise5(t *testing.T) {
	each(t, func(t *testing.T, c impl.Class) {
		greatest := -1
		for _, s := range impl.ShatteredSets(c) {
			greatest = max(greatest, sizes(s))
		}
		if got := impl.VCDimension(c); got != greatest || got >= 0 && len(c.Sets) < 1<<got {
			t.Errorf("VCDimension = %d", got)
		}
	})
}

func TestPromise6(t *testing.T) {
	each(t, func(t *testing.T, c impl.Class) {
		d := impl.ComplementClass(c)
		for s := range 1 << c.N {
			if impl.IsStrong(c, s) == impl.IsShattered(d, whole(c)-s) {
				t.Errorf("IsStrong %d = %v", s, impl.IsStrong(c, s))
			}
		}
	})
}

func TestPromise7(t *testing.T) {
	each(t, func(t *testing.T, c impl.Class) {
		list := impl.StrongSets(c)
		if len(list) > len(c.Sets) {
			t.Errorf("StrongSets = %v", list)
		}
		for s := range 1 << c.N {
			if !slices.Equal(impl.StrongSets(impl.FlipClass(c, s)), list) {
				t.Errorf("StrongSets flipped by %d", s)
			}
		}
	})
}

func TestPromise8(t *testing.T) {
	each(t, func(t *testing.T, c impl.Class) {
		for k := range c.N + 1 {
			got := impl.GrowthOf(c, k)
			if got > impl.SauerBound(k, impl.VCDimension(c)) {
				t.Errorf("GrowthOf %d = %d", k, got)
			}
			shattered := slices.ContainsFunc(impl.ShatteredSets(c), func(s int) bool { return sizes(s) == k })
			if (got == 1<<k) != shattered {
				t.Errorf("GrowthOf %d = %d, and shattered is %v", k, got, shattered)
			}
		}
	})
}

func TestPromise9(t *testing.T) {
	for n := range impl.MaxN + 1 {
		for d := -3; d <= n+3; d++ {
			if impl.SauerBound(n, d)+impl.SauerBound(n, n-d-1) != 1<<n {
				t.Errorf("SauerBound(%d, %d) = %d", n, d, impl.SauerBound(n, d))
			}
			if impl.SauerBound(n, d) < impl.SauerBound(n, d-1) || n > 0 && impl.SauerBound(n, d) < impl.SauerBound(n-1, d) {
				t.Errorf("SauerBound(%d, %d) falls", n, d)
			}
			if d >= 0 && d <= n && impl.SauerBound(n, d) == impl.SauerBound(n, d-1) {
				t.Errorf("SauerBound(%d, %d) does not rise", n, d)
			}
		}
	}
	if impl.SauerBound(impl.MaxN+1, 0) != -1 || impl.SauerBound(-1, 0) != -1 || impl.SauerBound(0, math.MinInt) != 0 {
		t.Error("SauerBound at its limits")
	}
}

func TestPromise10(t *testing.T) {
	count := 0
	each(t, func(t *testing.T, c impl.Class) {
		if !impl.IsMaximum(c) {
			return
		}
		count++
		if !impl.IsMaximum(impl.ComplementClass(c)) || !impl.IsExtremal(c) {
			t.Error("is maximum")
		}
	})
	if count < 100 {
		t.Errorf("just %d classes are maximum", count)
	}
}

func TestPromise11(t *testing.T) {
	count := 0
	each(t, func(t *testing.T, c impl.Class) {
		holds := impl.IsExtremal(c)
		if holds != (len(impl.StrongSets(c)) == len(c.Sets)) || holds != impl.IsExtremal(impl.ComplementClass(c)) {
			t.Errorf("IsExtremal = %v", holds)
		}
		if holds && !slices.Equal(impl.StrongSets(c), impl.ShatteredSets(c)) {
			t.Error("is extremal, but not both are the same")
		}
		if holds {
			count++
		}
	})
	if count < 100 {
		t.Errorf("just %d classes are extremal", count)
	}
}

func TestPromise12(t *testing.T) {
	each(t, func(t *testing.T, c impl.Class) {
		d := impl.ComplementClass(c)
		both := slices.Concat(c.Sets, d.Sets)
		slices.Sort(both)
		if !same(impl.ComplementClass(d), c) || !same(at(c.N, both...), coded(c.N, 1<<(1<<c.N)-1)) {
			t.Errorf("ComplementClass = %v", d)
		}
	})
}

// TestPromise13 is of the part of the promise that chapter 1 keeps.
func TestPromise13(t *testing.T) {
	each(t, func(t *testing.T, c impl.Class) {
		for s := range 1 << c.N {
			d := impl.FlipClass(c, s)
			if !same(impl.FlipClass(d, s), c) || !slices.Equal(impl.ShatteredSets(d), impl.ShatteredSets(c)) {
				t.Errorf("FlipClass %d = %v", s, d)
			}
		}
	})
}

func TestPromise14(t *testing.T) {
	each(t, func(t *testing.T, c impl.Class) {
		for x := range c.N {
			d := impl.ShiftClass(c, x)
			if len(d.Sets) != len(c.Sets) || !among(impl.ShatteredSets(d), impl.ShatteredSets(c)) || !among(impl.StrongSets(c), impl.StrongSets(d)) {
				t.Errorf("ShiftClass %d = %v", x, d)
			}
		}
	})
}

func TestPromise15(t *testing.T) {
	each(t, func(t *testing.T, c impl.Class) {
		d := impl.SettleClass(c)
		if d.N != c.N || len(d.Sets) != len(c.Sets) || !same(impl.SettleClass(d), d) || !slices.Equal(impl.ShatteredSets(d), d.Sets) {
			t.Errorf("SettleClass = %v", d)
		}
	})
}

func TestPromise16(t *testing.T) {
	each(t, func(t *testing.T, c impl.Class) {
		for x := range c.N {
			d, e := impl.RemovePoint(c, x), impl.LinkOf(c, x)
			if len(d.Sets)+len(e.Sets) != len(c.Sets) || d.N != c.N-1 || e.N != c.N-1 {
				t.Errorf("RemovePoint %d = %v, LinkOf = %v", x, d, e)
			}
			for s := range 1 << c.N {
				if !in(s, x) && impl.IsShattered(d, shortened(s, x)) && !impl.IsShattered(c, s) {
					t.Errorf("RemovePoint %d shatters %d", x, s)
				}
			}
		}
	})
}

// TestPromise17 is of the part of the promise that chapter 1 keeps.
func TestPromise17(t *testing.T) {
	each(t, func(t *testing.T, c impl.Class) {
		for x := range c.N {
			e := impl.LinkOf(c, x)
			if len(c.Sets) > 0 && impl.VCDimension(e) >= impl.VCDimension(c) || !among(e.Sets, impl.RemovePoint(c, x).Sets) {
				t.Errorf("LinkOf %d = %v", x, e)
			}
		}
	})
}

func TestPromise18(t *testing.T) {
	count := 0
	each(t, func(t *testing.T, c impl.Class) {
		if len(c.Sets) > impl.MaxN {
			return
		}
		count++
		d := impl.DualClass(c)
		if impl.VCDimension(d) >= 1<<(impl.VCDimension(c)+1) || len(d.Sets) > c.N || d.N != len(c.Sets) {
			t.Errorf("DualClass = %v", d)
		}
	})
	if count < 100 {
		t.Errorf("just %d classes have a dual", count)
	}
}

func TestPromise19(t *testing.T) {
	each(t, func(t *testing.T, c impl.Class) {
		parts := make([]string, len(c.Sets))
		for i, s := range c.Sets {
			parts[i] = strconv.Itoa(s)
		}
		text := impl.ClassText(c)
		if text != strconv.Itoa(c.N)+":"+strings.Join(parts, ",") {
			t.Errorf("ClassText = %q", text)
		}
		if d, ok := impl.ParseClass(text); !ok || !same(d, c) {
			t.Errorf("ParseClass(%q) = %v, %v", text, d, ok)
		}
	})
}

// isText reports whether a text is that of a class, by its form and the order of its numbers.
func isText(s string) bool {
	if !regexp.MustCompile(`\A[0-5]:((0|[1-9][0-9]?)(,[1-9][0-9]?)*)?\z`).MatchString(s) {
		return false
	}
	n, rest := int(s[0]-'0'), s[2:]
	before := -1
	for _, part := range strings.FieldsFunc(rest, func(r rune) bool { return r == ',' }) {
		k, _ := strconv.Atoi(part)
		if k <= before || k >= 1<<n {
			return false
		}
		before = k
	}
	return true
}

// edited returns a text and all texts that are made of it by one letter put in, taken out or changed.
func edited(s string) []string {
	out := []string{s}
	for i := range len(s) + 1 {
		for _, r := range "01239:, -+x" {
			out = append(out, s[:i]+string(r)+s[i:])
			if i < len(s) {
				out = append(out, s[:i]+string(r)+s[i+1:])
			}
		}
		if i < len(s) {
			out = append(out, s[:i]+s[i+1:])
		}
	}
	return out
}

func TestPromise20(t *testing.T) {
	texts := wrongTexts()
	for _, s := range []string{"0:", "0:0", "1:1", "2:0,3", "3:", "3:0,1,3,7", "3:1,2,4,7", "4:9,10", "4:1,2,4,8,15", "5:0,31", "5:7,19,20,30", impl.ClassText(coded(3, 255)), impl.ClassText(coded(5, 1<<32-1))} {
		texts = append(texts, edited(s)...)
	}
	count := 0
	for _, s := range texts {
		c, ok := impl.ParseClass(s)
		if ok != isText(s) {
			t.Errorf("ParseClass(%q) = %v, %v", s, c, ok)
		}
		if ok && impl.ClassText(c) != s {
			t.Errorf("ClassText of ParseClass(%q) = %q", s, impl.ClassText(c))
		}
		if !ok && !isZero(c) {
			t.Errorf("ParseClass(%q) = %v", s, c)
		}
		if ok {
			count++
		}
	}
	if count < 100 || count == len(texts) {
		t.Errorf("%d of %d texts are right", count, len(texts))
	}
}
