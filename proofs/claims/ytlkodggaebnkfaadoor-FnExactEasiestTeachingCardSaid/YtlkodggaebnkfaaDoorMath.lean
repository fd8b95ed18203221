/- Plain lists and numbers: ascending lists, sets of points as bits, valid classes. No program, no conditions. -/
import Derived.WalkKit
namespace Go.Proofs.YtlkodggaebnkfaaDoor

/-- two ascending lists with the same members are one -/
theorem asc_ext : ∀ {l m : List Nat}, l.Pairwise (· < ·) → m.Pairwise (· < ·) → (∀ x, x ∈ l ↔ x ∈ m) → l = m
  | [], [], _, _, _ => rfl
  | [], b :: u, _, _, h => by have := (h b).2 (by simp); simp at this
  | a :: t, [], _, _, h => by have := (h a).1 (by simp); simp at this
  | a :: t, b :: u, h1, h2, h => by
    rw [List.pairwise_cons] at h1 h2
    have e : a = b := by
      have ha := (h a).1 (by simp)
      have hb := (h b).2 (by simp)
      rw [List.mem_cons] at ha hb
      rcases ha with ha | ha
      · exact ha
      · rcases hb with hb | hb
        · exact hb.symm
        · have := h1.1 b hb; have := h2.1 a ha; omega
    subst e
    rw [asc_ext h1.2 h2.2 (fun x => ?_)]
    have hx := h x
    rw [List.mem_cons, List.mem_cons] at hx
    constructor
    · intro ht
      rcases hx.1 (.inr ht) with rfl | hu
      · have := h1.1 x ht; omega
      · exact hu
    · intro hu
      rcases hx.2 (.inr hu) with rfl | ht
      · have := h2.1 x hu; omega
      · exact ht

theorem range_asc (n : Nat) : (List.range n).Pairwise (· < ·) := List.pairwise_lt_range

/-- the numbers below 32 for which a test holds, ascending -/
def flt (p : Nat → Bool) : List Nat := (List.range 32).filter p
theorem flt_asc (p : Nat → Bool) : (flt p).Pairwise (· < ·) := (range_asc 32).filter _
theorem mem_flt {p : Nat → Bool} {x : Nat} : x ∈ flt p ↔ x < 32 ∧ p x = true := by simp [flt]
theorem flt_length (p : Nat → Bool) : (flt p).length ≤ 32 := by
  have := List.length_filter_le p (List.range 32)
  simpa [flt] using this
theorem flt_of {l : List Nat} {p : Nat → Bool} (h : l.Pairwise (· < ·)) (hm : ∀ x, x ∈ l ↔ x < 32 ∧ p x = true) : l = flt p :=
  asc_ext h (flt_asc p) (fun x => by rw [hm, mem_flt])
theorem flt_congr {p q : Nat → Bool} (h : ∀ x, x < 32 → p x = q x) : flt p = flt q :=
  flt_of (flt_asc p) (fun x => by rw [mem_flt]; constructor <;> rintro ⟨a, b⟩ <;> exact ⟨a, by have := h x a; simp_all⟩)
theorem getD_of_lt {l : List Nat} {k : Nat} (h : k < l.length) : l.getD k 0 ∈ l := by
  rw [List.getD_eq_getElem?_getD, List.getElem?_eq_getElem h]
  exact List.getElem_mem h

/-- n points, and sets of them, ascending -/
structure Cls (n : Nat) (ns : List Nat) : Prop where
  pts : n ≤ 5
  asc : ns.Pairwise (· < ·)
  lt : ∀ t ∈ ns, t < 2 ^ n

theorem pow_le_32 {n : Nat} (h : n ≤ 5) : 2 ^ n ≤ 32 := by
  have : ∀ m : Fin 6, 2 ^ (m : Nat) ≤ 32 := by decide
  exact this ⟨n, by omega⟩
theorem Cls.lt32 {n : Nat} {ns : List Nat} (h : Cls n ns) : ∀ t ∈ ns, t < 32 := fun t ht => Nat.lt_of_lt_of_le (h.lt t ht) (pow_le_32 h.pts)
theorem Cls.flt {n : Nat} {ns : List Nat} (h : Cls n ns) : ns = flt (fun p => decide (p ∈ ns)) :=
  flt_of h.asc (fun x => by simp; exact fun hx => h.lt32 x hx)
theorem Cls.length {n : Nat} {ns : List Nat} (h : Cls n ns) : ns.length ≤ 32 := by rw [h.flt]; exact flt_length _

/-- as Go's numbers -/
def toI (ns : List Nat) : List Int := ns.map (fun m : Nat => (m : Int))
theorem toI_length (ns : List Nat) : (toI ns).length = ns.length := by simp [toI]
theorem toI_getD (ns : List Nat) (k : Nat) : (toI ns).getD k 0 = ((ns.getD k 0 : Nat) : Int) := by
  simp only [toI, List.getD_eq_getElem?_getD, List.getElem?_map]
  cases ns[k]? <;> simp
theorem toI_append (a b : List Nat) : toI (a ++ b) = toI a ++ toI b := by simp [toI]

/-- how many points a set has -/
def pc (s : Nat) : Nat := s % 2 + s / 2 % 2 + s / 4 % 2 + s / 8 % 2 + s / 16 % 2

/-- the parts of sets within one -/
def tr (ns : List Nat) (s : Nat) : List Nat := flt (fun p => ns.any (fun t => t &&& s == p))

/-- the place of x in an ascending list: how many are less -/
def before (p : Nat → Bool) (x : Nat) : Nat := ((List.range x).filter p).length

theorem range_at {x : Nat} (hx : x < 32) : List.range 32 = List.range x ++ (x :: List.range' (x + 1) (31 - x)) := by
  have h := List.range'_append_1 (s := 0) (m := x) (n := 31 - x + 1)
  rw [Nat.zero_add, show x + (31 - x + 1) = 32 by omega] at h
  rw [List.range_eq_range', List.range_eq_range', ← h, List.range'_succ]
theorem flt_split {p : Nat → Bool} {x : Nat} (hx : x < 32) (hp : p x = false) : flt p = (List.range x).filter p ++ ((List.range' (x + 1) (31 - x)).filter p) := by
  have e := range_at hx
  unfold flt
  rw [e, List.filter_append, List.filter_cons, hp]
  simp
theorem flt_put {p : Nat → Bool} {x : Nat} (hx : x < 32) (hp : p x = false) :
    flt (fun y => p y || y == x) = (flt p).take (before p x) ++ [x] ++ (flt p).drop (before p x) := by
  rw [flt_split hx hp]
  have e := range_at hx
  unfold flt before
  rw [e, List.filter_append, List.filter_cons, List.take_left, List.drop_left]
  have e1 : (List.range x).filter (fun y => p y || y == x) = (List.range x).filter p := by
    apply List.filter_congr
    intro y hy
    have : y ≠ x := by have := List.mem_range.1 hy; omega
    simp [this]
  have e2 : (List.range' (x + 1) (31 - x)).filter (fun y => p y || y == x) = (List.range' (x + 1) (31 - x)).filter p := by
    apply List.filter_congr
    intro y hy
    have : y ≠ x := by have := List.mem_range'_1.1 hy; omega
    simp [this]
  rw [e1, e2]
  simp
theorem before_le {p : Nat → Bool} {x : Nat} (hx : x < 32) (hp : p x = false) : before p x ≤ (flt p).length := by
  rw [flt_split hx hp]; simp [before]
theorem flt_less {p : Nat → Bool} {x k : Nat} (hx : x < 32) (hp : p x = false) (hk : k < before p x) : (flt p).getD k 0 < x := by
  rw [flt_split hx hp, List.getD_eq_getElem?_getD, List.getElem?_append_left hk, List.getElem?_eq_getElem hk]
  have := List.getElem_mem hk
  simp at this
  exact this.1
theorem flt_more {p : Nat → Bool} {x : Nat} (hx : x < 32) (hp : p x = false) (hk : before p x < (flt p).length) : x < (flt p).getD (before p x) 0 := by
  rw [flt_split hx hp] at hk ⊢
  have hl : before p x = ((List.range x).filter p).length := rfl
  rw [List.length_append] at hk
  rw [List.getD_eq_getElem?_getD, List.getElem?_append_right (by omega), hl, Nat.sub_self]
  have h0 : 0 < ((List.range' (x + 1) (31 - x)).filter p).length := by omega
  rw [List.getElem?_eq_getElem h0]
  have := (List.mem_range'_1.1 (List.mem_filter.1 (List.getElem_mem h0)).1).1
  show x < ((List.range' (x + 1) (31 - x)).filter p)[0]
  omega

end Go.Proofs.YtlkodggaebnkfaaDoor
