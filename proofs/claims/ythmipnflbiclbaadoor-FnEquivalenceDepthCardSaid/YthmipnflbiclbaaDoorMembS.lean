/- The model's members. Conditions: ascending sets of n points. -/
import Derived.Test.YthmipnflbiclbaaDoorLittleS
namespace Go.Proofs.YthmipnflbiclbaaDoor
open Go.RowKit

theorem qst_fuel (l : List Nat) (hl : l.length ≤ 31) : qst l = dep max min 31 l := dep_fuel _ _ _ _ _ (by omega) (by omega)
theorem qst_small {l : List Nat} (h : l.length < 2) : qst l = 0 := by
  have hs : ∀ x, wth x l = [] ∨ wto x l = [] := by
    intro x
    by_cases h1 : wth x l = []
    · exact .inl h1
    · by_cases h2 : wto x l = []
      · exact .inr h2
      · have := split_len x l h1 h2
        have := List.length_pos_iff.2 h1
        omega
  have key : ∀ k, depTo max min 31 l k = 0 := by
    intro k
    induction k with
    | zero => rfl
    | succ k ih => rw [depTo_succ, stp_skip (hs k), ih]
  exact key 5
/-- the best so far, as the model has it: n for none -/
def bst (n : Nat) (B : Int) : Int := if B = 0 then (n : Int) else min n B

/-- 1 if x parts the sets -/
def spl (l : List Nat) (x : Nat) : Int := if wth x l = [] ∨ wto x l = [] then 0 else 1
def spn (l : List Nat) : Int := spl l 0 + spl l 1 + spl l 2 + spl l 3 + spl l 4
theorem spl_bd (l : List Nat) (x : Nat) : 0 ≤ spl l x ∧ spl l x ≤ 1 := by unfold spl; split <;> omega
theorem wth_mem {x t : Nat} {l : List Nat} : t ∈ wth x l ↔ t ∈ l ∧ hasX x t = true := by simp [wth]
theorem wto_mem {x t : Nat} {l : List Nat} : t ∈ wto x l ↔ t ∈ l ∧ hasX x t = false := by simp [wto]
theorem ne_of_sub {a b : List Nat} (h : ∀ t ∈ a, t ∈ b) (ha : a ≠ []) : b ≠ [] := by
  rintro rfl
  cases a with
  | nil => exact ha rfl
  | cons t a => exact absurd (h t (by simp)) (by simp)
theorem spl_mono {a l : List Nat} (h : ∀ t ∈ a, t ∈ l) (y : Nat) : spl a y ≤ spl l y := by
  unfold spl
  split
  · split <;> omega
  · rename_i h1
    have h2 : ¬ (wth y l = [] ∨ wto y l = []) := by
      rintro (e | e)
      · exact ne_of_sub (a := wth y a) (b := wth y l) (fun t ht => wth_mem.2 ⟨h t (wth_mem.1 ht).1, (wth_mem.1 ht).2⟩) (fun e' => h1 (.inl e')) e
      · exact ne_of_sub (a := wto y a) (b := wto y l) (fun t ht => wto_mem.2 ⟨h t (wto_mem.1 ht).1, (wto_mem.1 ht).2⟩) (fun e' => h1 (.inr e')) e
    rw [if_neg h2]
    exact Int.le_refl _
theorem spl_wth (x : Nat) (l : List Nat) : spl (wth x l) x = 0 := by
  have h : wto x (wth x l) = [] := by
    rw [wto, List.filter_eq_nil_iff]
    intro t ht
    simp [(wth_mem.1 ht).2]
  rw [spl, if_pos (.inr h)]
theorem spl_wto (x : Nat) (l : List Nat) : spl (wto x l) x = 0 := by
  have h : wth x (wto x l) = [] := by
    rw [wth, List.filter_eq_nil_iff]
    intro t ht
    simp [(wto_mem.1 ht).2]
  rw [spl, if_pos (.inl h)]
theorem spn_less {a l : List Nat} {x : Nat} (hx : x < 5) (h : ∀ t ∈ a, t ∈ l) (h0 : spl a x = 0) (h1 : spl l x = 1) : spn a + 1 ≤ spn l := by
  have m := fun y => spl_mono h y
  have m0 := m 0; have m1 := m 1; have m2 := m 2; have m3 := m 3; have m4 := m 4
  unfold spn
  rcases (show x = 0 ∨ x = 1 ∨ x = 2 ∨ x = 3 ∨ x = 4 by omega) with rfl | rfl | rfl | rfl | rfl <;> omega
theorem spn_pos (l : List Nat) : 0 ≤ spn l := by
  have m := fun y => (spl_bd l y).1
  have m0 := m 0; have m1 := m 1; have m2 := m 2; have m3 := m 3; have m4 := m 4
  unfold spn
  omega
theorem dep_spn (n : Nat) (l : List Nat) : dep max min n l ≤ spn l := by
  induction n generalizing l with
  | zero => simp only [dep]; exact spn_pos l
  | succ n ih =>
    have key : ∀ k, k ≤ 5 → depTo max min n l k ≤ spn l := by
      intro k
      induction k with
      | zero => intro _; simp only [depTo, List.range_zero, List.foldl_nil]; exact spn_pos l
      | succ k ihk =>
        intro hk
        have := ihk (by omega)
        rw [depTo_succ, stp]
        split
        · exact this
        · rename_i hs
          have h1 : spl l k = 1 := by rw [spl, if_neg hs]
          have a := ih (wth k l)
          have b := ih (wto k l)
          have a2 := spn_less (a := wth k l) (l := l) (x := k) (by omega) (fun t ht => (wth_mem.1 ht).1) (spl_wth k l) h1
          have b2 := spn_less (a := wto k l) (l := l) (x := k) (by omega) (fun t ht => (wto_mem.1 ht).1) (spl_wto k l) h1
          split <;> omega
    exact key 5 (Nat.le_refl _)
theorem spn_le {n : Nat} (hn : n ≤ 5) {l : List Nat} (hl : ∀ t ∈ l, t < 2 ^ n) : spn l ≤ n := by
  have z : ∀ y, n ≤ y → spl l y = 0 := fun y hy => by rw [spl, if_pos (.inl (wth_nil hl hy))]
  have m := fun y => (spl_bd l y).2
  have m0 := m 0; have m1 := m 1; have m2 := m 2; have m3 := m 3; have m4 := m 4
  have z0 := z 0; have z1 := z 1; have z2 := z 2; have z3 := z 3; have z4 := z 4
  unfold spn
  rcases (show n = 0 ∨ n = 1 ∨ n = 2 ∨ n = 3 ∨ n = 4 ∨ n = 5 by omega) with rfl | rfl | rfl | rfl | rfl | rfl
  · have := z0 (by omega); have := z1 (by omega); have := z2 (by omega); have := z3 (by omega); have := z4 (by omega); omega
  · have := z1 (by omega); have := z2 (by omega); have := z3 (by omega); have := z4 (by omega); omega
  · have := z2 (by omega); have := z3 (by omega); have := z4 (by omega); omega
  · have := z3 (by omega); have := z4 (by omega); omega
  · have := z4 (by omega); omega
  · omega
theorem qst_le {n : Nat} (hn : n ≤ 5) {l : List Nat} (hl : ∀ t ∈ l, t < 2 ^ n) : qst l ≤ n := Int.le_trans (dep_spn 32 l) (spn_le hn hl)
theorem bit_ne {s t : Nat} (hs : s < 32) (ht : t < 32) (h : s ≠ t) : ∃ x, x < 5 ∧ hasX x s ≠ hasX x t := by
  have key : ∀ s t : Fin 32, s ≠ t → ∃ x : Fin 5, hasX x s ≠ hasX x t := by decide +kernel
  obtain ⟨x, hx⟩ := key ⟨s, hs⟩ ⟨t, ht⟩ (fun e => h (by simpa using e))
  exact ⟨x, x.isLt, hx⟩
theorem dep_split {J C : Int → Int → Int} (n : Nat) {l : List Nat} (hJ : ∀ a b, 0 ≤ a → 0 ≤ b → 0 ≤ J a b) (hC : ∀ a b, 0 < a → 0 < b → 0 < C a b) (hD : ∀ l, 0 ≤ dep J C n l) {x : Nat} (hx : x < 5) (h1 : wth x l ≠ []) (h2 : wto x l ≠ []) : 0 < dep J C (n + 1) l := by
  have key : ∀ k, (0 ≤ depTo J C n l k) ∧ (x < k → 0 < depTo J C n l k) := by
    intro k
    induction k with
    | zero => exact ⟨by simp [depTo], fun h => by omega⟩
    | succ k ih =>
      have hj := hJ _ _ (hD (wth k l)) (hD (wto k l))
      rw [depTo_succ, stp]
      split
      · rename_i hs
        refine ⟨ih.1, fun h => ih.2 ?_⟩
        by_cases e : x = k
        · subst e; exact absurd hs (by simp [h1, h2])
        · omega
      · split
        · rename_i hp
          have := hC _ _ hp (show 0 < 1 + J (dep J C n (wth k l)) (dep J C n (wto k l)) by omega)
          exact ⟨by omega, fun _ => this⟩
        · exact ⟨by omega, fun _ => by omega⟩
  exact (key 5).2 hx
theorem split_ex {l : List Nat} (h32 : ∀ t ∈ l, t < 32) (has : l.Pairwise (· < ·)) (hl : 2 ≤ l.length) : ∃ x, x < 5 ∧ wth x l ≠ [] ∧ wto x l ≠ [] := by
  match l, hl with
  | s :: t :: r, _ =>
    have hst : s < t := (List.pairwise_cons.1 has).1 t (by simp)
    obtain ⟨x, hx, hne⟩ := bit_ne (h32 s (by simp)) (h32 t (by simp)) (by omega)
    refine ⟨x, hx, ?_⟩
    have ms : s ∈ s :: t :: r := by simp
    have mt : t ∈ s :: t :: r := by simp
    have nn : ∀ {a : List Nat} {u : Nat}, u ∈ a → a ≠ [] := fun h e => by rw [e] at h; simp at h
    cases e1 : hasX x s <;> cases e2 : hasX x t
    · rw [e1, e2] at hne; exact absurd rfl hne
    · exact ⟨nn (wth_mem.2 ⟨mt, e2⟩), nn (wto_mem.2 ⟨ms, e1⟩)⟩
    · exact ⟨nn (wth_mem.2 ⟨ms, e1⟩), nn (wto_mem.2 ⟨mt, e2⟩)⟩
    · rw [e1, e2] at hne; exact absurd rfl hne
theorem qst_pos {l : List Nat} (h32 : ∀ t ∈ l, t < 32) (has : l.Pairwise (· < ·)) (hl : 2 ≤ l.length) : 0 < qst l := by
  obtain ⟨x, hx, h1, h2⟩ := split_ex h32 has hl
  exact dep_split 31 (fun a b _ _ => by omega) (fun a b _ _ => by omega) (fun l => (dep_bdQu 31 l).1) hx h1 h2



end Go.Proofs.YthmipnflbiclbaaDoor
