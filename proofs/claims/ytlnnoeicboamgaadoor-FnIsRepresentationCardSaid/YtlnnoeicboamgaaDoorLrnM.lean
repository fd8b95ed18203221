/- What a plan tells for a sample: the points seen, the first set that fits and whose points are seen. No program. -/
import Derived.Test.YtlnnoeicboamgaaDoorRepM
import Derived.Test.YtlnnoeicboamgaaDoorZH
import Derived.Test.YtlnnoeicboamgaaDoorZU
namespace Go.Proofs.YtlnnoeicboamgaaDoor
open Go.RowKit

theorem mem_kp2 {l : List Nat} {e : Int × Bool} {t : Nat} : t ∈ kp l e ↔ t ∈ l ∧ hasX e.1.toNat t = e.2 := by
  unfold kp
  rw [List.mem_filter]
  simp
theorem mem_now2 (ns : List Nat) (es : List (Int × Bool)) (t : Nat) : ∀ k, t ∈ nowTo ns es k ↔ t ∈ ns ∧ ∀ j, j < k → hasX (es.getD j (0, false)).1.toNat t = (es.getD j (0, false)).2
  | 0 => by simp [nowTo]
  | k + 1 => by
    rw [nowTo, mem_kp2, mem_now2 ns es t k]
    constructor
    · rintro ⟨⟨h1, h2⟩, h3⟩
      refine ⟨h1, fun j hj => ?_⟩
      rcases (show j < k ∨ j = k by omega) with h | rfl
      · exact h2 j h
      · exact h3
    · rintro ⟨h1, h2⟩
      exact ⟨⟨h1, fun j hj => h2 j (by omega)⟩, h2 k (by omega)⟩
theorem pts_iff2 {n : Int} {es : List (Int × Bool)} {k : Nat} : ptsTo n es k = true ↔ ∀ j, j < k → 0 ≤ (es.getD j (0, false)).1 ∧ (es.getD j (0, false)).1 < n := by
  simp only [ptsTo, List.all_eq_true, List.mem_range, Bool.and_eq_true, decide_eq_true_eq]
/-- the points of the first k examples, as a set -/
def seenTo (es : List (Int × Bool)) : Nat → Nat
  | 0 => 0
  | k + 1 => seenTo es k ||| 2 ^ (es.getD k (0, false)).1.toNat
theorem or_bits : ∀ s : Fin 32, ∀ x : Fin 5, s.1 ||| 2 ^ x.1 < 32 ∧ ∀ y : Fin 5, hasX y.1 (s.1 ||| 2 ^ x.1) = (hasX y.1 s.1 || decide (x.1 = y.1)) := by decide +kernel
theorem seen_lt {m : Int} (hm : m ≤ 5) {es : List (Int × Bool)} {n : Nat} (h : ptsTo m es n = true) : ∀ k, k ≤ n → seenTo es k < 32
  | 0, _ => by show 0 < 32; decide
  | k + 1, hk => by
    have h1 := seen_lt hm h k (by omega)
    have h2 := pts_iff2.1 h k (by omega)
    have := (or_bits ⟨_, h1⟩ ⟨(es.getD k (0, false)).1.toNat, by omega⟩).1
    exact this
theorem seen_has {m : Int} (hm : m ≤ 5) {es : List (Int × Bool)} {n : Nat} (h : ptsTo m es n = true) {y : Nat} (hy : y < 5) : ∀ k, k ≤ n → (hasX y (seenTo es k) = true ↔ ∃ j, j < k ∧ (es.getD j (0, false)).1 = (y : Int))
  | 0, _ => by
    constructor
    · intro e
      exfalso
      revert e
      show hasX y 0 = true → False
      simp [hasX]
    · rintro ⟨j, hj, _⟩; omega
  | k + 1, hk => by
    have h1 := seen_lt hm h k (by omega)
    have h2 := pts_iff2.1 h k (by omega)
    have h3 := (or_bits ⟨_, h1⟩ ⟨(es.getD k (0, false)).1.toNat, by omega⟩).2 ⟨y, hy⟩
    dsimp only at h3
    rw [seenTo, h3, Bool.or_eq_true, seen_has hm h hy k (by omega), decide_eq_true_eq]
    constructor
    · rintro (⟨j, hj, e⟩ | e)
      · exact ⟨j, by omega, e⟩
      · exact ⟨k, by omega, by omega⟩
    · rintro ⟨j, hj, e⟩
      by_cases e2 : j = k
      · subst e2; exact .inr (by omega)
      · exact .inl ⟨j, by omega, e⟩
/-- the points below x for which a test holds, as a set -/
def spP (P : Nat → Bool) : Nat → Nat
  | 0 => 0
  | x + 1 => spP P x + if P x = true then 2 ^ x else 0
theorem spP_lt (P : Nat → Bool) : ∀ x, spP P x < 2 ^ x
  | 0 => by show 0 < 1; decide
  | x + 1 => by
    have h1 := spP_lt P x
    rw [spP, Nat.pow_succ]
    split <;> omega
theorem top_bits : ∀ x : Fin 5, ∀ s : Fin 32, s.1 < 2 ^ x.1 → hasX x.1 s.1 = false ∧ hasX x.1 (s.1 + 2 ^ x.1) = true ∧ s.1 + 2 ^ x.1 < 32 ∧ ∀ y : Fin 5, hasX y.1 (s.1 + 2 ^ x.1) = (hasX y.1 s.1 || decide (x.1 = y.1)) := by decide +kernel
theorem spP_has (P : Nat → Bool) {y : Nat} (hy : y < 5) : ∀ x, x ≤ 5 → (hasX y (spP P x) = true ↔ y < x ∧ P y = true)
  | 0, _ => by
    constructor
    · intro e
      exfalso
      revert e
      show hasX y 0 = true → False
      simp [hasX]
    · rintro ⟨h, _⟩; omega
  | x + 1, hx => by
    have ih := spP_has P hy x (by omega)
    have h1 := spP_lt P x
    have h32 : (2 : Nat) ^ x ≤ 32 := Nat.pow_le_pow_right (by omega) (show x ≤ 5 by omega)
    rw [spP]
    by_cases hp : P x = true
    · have h3 := (top_bits ⟨x, by omega⟩ ⟨spP P x, by omega⟩ h1).2.2.2 ⟨y, hy⟩
      dsimp only at h3
      rw [if_pos hp, h3, Bool.or_eq_true, ih, decide_eq_true_eq]
      constructor
      · rintro (⟨h5, h6⟩ | e)
        · exact ⟨by omega, h6⟩
        · subst e; exact ⟨by omega, hp⟩
      · rintro ⟨h5, h6⟩
        by_cases e : x = y
        · exact .inr e
        · exact .inl ⟨by omega, h6⟩
    · rw [if_neg hp, Nat.add_zero, ih]
      constructor
      · rintro ⟨h5, h6⟩; exact ⟨by omega, h6⟩
      · rintro ⟨h5, h6⟩
        by_cases e : x = y
        · subst e; exact absurd h6 hp
        · exact ⟨by omega, h6⟩
theorem bits_ext : ∀ a b : Fin 32, (∀ y : Fin 5, hasX y.1 a.1 = hasX y.1 b.1) → a.1 = b.1 := by decide +kernel
/-- is x the point of an example? -/
def ptIn (es : List (Int × Bool)) (k x : Nat) : Bool := (List.range k).any (fun j => decide ((es.getD j (0, false)).1 = (x : Int)))
theorem ptIn_succ (es : List (Int × Bool)) (k x : Nat) : ptIn es (k + 1) x = (ptIn es k x || decide ((es.getD k (0, false)).1 = (x : Int))) := by
  simp [ptIn, List.range_succ]
theorem ptIn_iff {es : List (Int × Bool)} {k x : Nat} : ptIn es k x = true ↔ ∃ j, j < k ∧ (es.getD j (0, false)).1 = (x : Int) := by
  simp only [ptIn, List.any_eq_true, List.mem_range, decide_eq_true_eq]
/-- both ways tell the same points -/
theorem seen_sp {m : Nat} (hm : m ≤ 5) {es : List (Int × Bool)} (h : ptsTo (m : Int) es es.length = true) : spP (ptIn es es.length) m = seenTo es es.length := by
  have h1 := spP_lt (ptIn es es.length) m
  have h32 := pow_le_32 hm
  have h2 := seen_lt (show (m : Int) ≤ 5 by omega) h es.length (Nat.le_refl _)
  refine bits_ext ⟨_, by omega⟩ ⟨_, h2⟩ (fun y => ?_)
  rw [Bool.eq_iff_iff]
  dsimp only
  rw [spP_has _ y.2 m (by omega), seen_has (show (m : Int) ≤ 5 by omega) h y.2 _ (Nat.le_refl _), ptIn_iff]
  constructor
  · rintro ⟨_, h3⟩; exact h3
  · rintro ⟨j, hj, e⟩
    refine ⟨?_, j, hj, e⟩
    have := pts_iff2.1 h j hj
    omega
/-- does the i-th set fit, and are its points of the plan seen? -/
def lrT (ns ps : List Nat) (es : List (Int × Bool)) (i : Nat) : Bool := decide (ns.getD i 0 ∈ nowTo ns es es.length) && decide (ps.getD i 0 &&& seenTo es es.length = ps.getD i 0)
/-- the first one -/
def lrF (T : Nat → Bool) (n : Nat) : Option Nat := (List.range n).find? T
def lrO (n : Int) (zs ps : List Int) (es : List (Int × Bool)) : Option Nat := if (vsB n zs es && repB n zs ps) = true then lrF (lrT (zs.map Int.toNat) (ps.map Int.toNat) es) zs.length else none
def lrV (zs : List Int) : Option Nat → Int
  | none => 0
  | some i => zs.getD i 0
def lrN (n : Int) (zs ps : List Int) (es : List (Int × Bool)) : Int := lrV zs (lrO n zs ps es)
def lrB (n : Int) (zs ps : List Int) (es : List (Int × Bool)) : Bool := (lrO n zs ps es).isSome
/-- i is the first for which T holds, or there is none below n -/
theorem lrF_some {T : Nat → Bool} {n i : Nat} (hi : i < n) (ht : T i = true) (h : ∀ j, j < i → T j = false) : lrF T n = some i := by
  rw [lrF, List.find?_range_eq_some]
  exact ⟨ht, List.mem_range.2 hi, fun j hj => by rw [h j hj]; rfl⟩
theorem lrF_none {T : Nat → Bool} {n : Nat} (h : ∀ j, j < n → T j = false) : lrF T n = none := by
  rw [lrF, List.find?_range_eq_none]
  exact fun j hj => by rw [h j hj]; rfl
theorem lr_andNot : ∀ p s : Fin 32, bits .andNot .i64 ((p.1 : Nat) : Int) ((s.1 : Nat) : Int) = if p.1 &&& s.1 = p.1 then 0 else bits .andNot .i64 ((p.1 : Nat) : Int) ((s.1 : Nat) : Int) := by decide +kernel
theorem lr_andNot0 : ∀ p s : Fin 32, (bits .andNot .i64 ((p.1 : Nat) : Int) ((s.1 : Nat) : Int) == 0) = decide (p.1 &&& s.1 = p.1) := by decide +kernel

end Go.Proofs.YtlnnoeicboamgaaDoor
