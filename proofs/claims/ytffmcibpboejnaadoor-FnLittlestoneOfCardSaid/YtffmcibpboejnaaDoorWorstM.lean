/- The worst run, as lists: what is left, and which examples are told. No program. -/
import Derived.Test.YtffmcibpboejnaaDoorFirstQ
import Derived.Test.YtffmcibpboejnaaDoorRun
namespace Go.Proofs.YtffmcibpboejnaaDoor
open Go.RowKit

theorem mst_to {l : List Nat} (h : l ≠ []) : mst l = depTo min max 31 l 5 := by rw [mst, if_neg h]; rfl
theorem mst_part {x : Nat} {l : List Nat} (hl : l.length ≤ 32) (h1 : wth x l ≠ []) (h2 : wto x l ≠ []) : mst (wth x l) = dep min max 31 (wth x l) ∧ mst (wto x l) = dep min max 31 (wto x l) := by
  have := split_len x l h1 h2
  exact ⟨mst_ne h1 (by omega), mst_ne h2 (by omega)⟩
theorem mst_max {x : Nat} {l : List Nat} (hx : x < 5) (hl : l.length ≤ 32) (h1 : wth x l ≠ []) (h2 : wto x l ≠ []) : 1 + min (mst (wth x l)) (mst (wto x l)) ≤ mst l := by
  have hne : l ≠ [] := by
    rintro rfl
    exact h1 rfl
  rw [(mst_part hl h1 h2).1, (mst_part hl h1 h2).2, mst_to hne]
  have key : ∀ k, x < k → 1 + min (dep min max 31 (wth x l)) (dep min max 31 (wto x l)) ≤ depTo min max 31 l k := by
    intro k
    induction k with
    | zero => intro h; omega
    | succ k ih =>
      intro h
      have b1 := (dep_bdLo 31 (wth x l)).1
      have b2 := (dep_bdLo 31 (wto x l)).1
      rw [depTo_succ, stp]
      by_cases e : x = k
      · subst e
        rw [if_neg (by simp [h1, h2])]
        split <;> omega
      · have := ih (by omega)
        split
        · exact this
        · split <;> omega
  exact key 5 hx
theorem mst_att {l : List Nat} (k : Nat) (h : 0 < depTo min max 31 l k) : ∃ x, x < k ∧ wth x l ≠ [] ∧ wto x l ≠ [] ∧ depTo min max 31 l k = 1 + min (dep min max 31 (wth x l)) (dep min max 31 (wto x l)) := by
  induction k with
  | zero => simp [depTo] at h
  | succ k ih =>
    rw [depTo_succ, stp] at h ⊢
    by_cases hs : wth k l = [] ∨ wto k l = []
    · rw [if_pos hs] at h ⊢
      obtain ⟨x, hx, r⟩ := ih h
      exact ⟨x, by omega, r⟩
    · rw [if_neg hs] at h ⊢
      have hs' : wth k l ≠ [] ∧ wto k l ≠ [] := by simpa using hs
      by_cases hb : 0 < depTo min max 31 l k
      · rw [if_pos hb]
        by_cases hc : depTo min max 31 l k ≤ 1 + min (dep min max 31 (wth k l)) (dep min max 31 (wto k l))
        · exact ⟨k, by omega, hs'.1, hs'.2, by omega⟩
        · obtain ⟨x, hx, r1, r2, r3⟩ := ih hb
          exact ⟨x, by omega, r1, r2, by omega⟩
      · rw [if_neg hb]
        exact ⟨k, by omega, hs'.1, hs'.2, rfl⟩

/-- is the point x told next? -/
def wP (l : List Nat) (x : Nat) : Bool := decide (mst l - 1 ≤ min (mst (wth x l)) (mst (wto x l)))
def wX (l : List Nat) : Nat := (fst5 (wP l)).getD 0
/-- the example that is told next -/
def wEx (l : List Nat) : Int × Bool := ((wX l : Int), !gOpt l (wX l))
def wL (l : List Nat) : Nat → List Nat
  | 0 => l
  | k + 1 => kp (wL l k) (wEx (wL l k))
def wE (l : List Nat) : Nat → List (Int × Bool)
  | 0 => []
  | k + 1 => wE l k ++ [wEx (wL l k)]
theorem wE_len (l : List Nat) (k : Nat) : (wE l k).length = k := by
  induction k with
  | zero => rfl
  | succ k ih => rw [wE, List.length_append, ih]; rfl
theorem mst_nil : mst [] = -1 := by simp [mst]
theorem wP_ne {l : List Nat} {x : Nat} (h : 0 < mst l) (hp : wP l x = true) : wth x l ≠ [] ∧ wto x l ≠ [] := by
  rw [wP, decide_eq_true_eq] at hp
  constructor
  · intro e
    rw [e, mst_nil] at hp
    omega
  · intro e
    rw [e, mst_nil] at hp
    omega
theorem wP_some {l : List Nat} (hl : l.length ≤ 32) (h : 0 < mst l) : ∃ x, x < 5 ∧ wP l x = true := by
  have hne : l ≠ [] := by
    rintro rfl
    rw [mst_nil] at h
    omega
  rw [mst_to hne] at h
  obtain ⟨x, hx, h1, h2, h3⟩ := mst_att 5 h
  refine ⟨x, hx, ?_⟩
  rw [wP, decide_eq_true_eq, mst_to hne, (mst_part hl h1 h2).1, (mst_part hl h1 h2).2]
  omega
theorem w_min {l : List Nat} {x : Nat} (hx : x < 5) (hl : l.length ≤ 32) (h : 0 < mst l) (hp : wP l x = true) : min (mst (wth x l)) (mst (wto x l)) = mst l - 1 := by
  obtain ⟨h1, h2⟩ := wP_ne h hp
  have := mst_max hx hl h1 h2
  rw [wP, decide_eq_true_eq] at hp
  omega
theorem w_step {l : List Nat} (hl : l.length ≤ 32) (h : 0 < mst l) : ∃ x, x < 5 ∧ fst5 (wP l) = some x ∧ wX l = x ∧ wP l x = true ∧ mst (kp l (wEx l)) = mst l - 1 := by
  obtain ⟨y, hy, hyp⟩ := wP_some hl h
  cases hf : fst5 (wP l) with
  | none =>
    exfalso
    rw [fst5, List.find?_eq_none] at hf
    exact hf y (List.mem_range.2 hy) hyp
  | some x =>
    have hx : x < 5 := List.mem_range.1 (List.mem_of_find?_eq_some hf)
    have hp : wP l x = true := List.find?_some hf
    have hw : wX l = x := by rw [wX, hf]; rfl
    refine ⟨x, hx, rfl, hw, hp, ?_⟩
    have hm := w_min hx hl h hp
    rw [wEx, hw]
    cases hg : gOpt l x with
    | true =>
      rw [gOpt, decide_eq_true_eq] at hg
      show mst (kp l ((x : Int), false)) = _
      rw [kp_false]
      omega
    | false =>
      rw [gOpt, decide_eq_false_iff_not] at hg
      show mst (kp l ((x : Int), true)) = _
      rw [kp_true]
      omega
theorem wL_sub (l : List Nat) (k : Nat) : (∀ t ∈ wL l k, t ∈ l) ∧ (wL l k).length ≤ l.length := by
  induction k with
  | zero => exact ⟨fun t h => h, Nat.le_refl _⟩
  | succ k ih => exact ⟨fun t h => ih.1 t (List.mem_filter.1 h).1, Nat.le_trans (List.length_filter_le _ _) ih.2⟩
theorem wL_mst {l : List Nat} (hl : l.length ≤ 32) (k : Nat) (hk : (k : Int) ≤ mst l) : mst (wL l k) = mst l - k := by
  induction k with
  | zero => simp [wL]
  | succ k ih =>
    have h1 := ih (by omega)
    have h2 := (wL_sub l k).2
    obtain ⟨x, _, _, _, _, h3⟩ := w_step (l := wL l k) (by omega) (by omega)
    rw [wL, h3, h1]
    omega
theorem mst_top (l : List Nat) : -1 ≤ mst l ∧ mst l ≤ 32 := by
  unfold mst
  split
  · omega
  · have := dep_bdLo 32 l
    omega
def worL (n : Int) (zs : List Int) : List (Int × Bool) := if vldB n zs = true then wE (zs.map Int.toNat) (mst (zs.map Int.toNat)).toNat else []
theorem worL_len (n : Int) (zs : List Int) : (worL n zs).length ≤ 1048576 := by
  unfold worL
  split
  · rw [wE_len]
    have := mst_top (zs.map Int.toNat)
    omega
  · simp

end Go.Proofs.YtffmcibpboejnaaDoor
