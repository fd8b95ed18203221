/- Guesses and mistakes: guesses are mistakes and one: mathematics. No conditions. -/
import Derived.Test.YthmipnflbiclbaaDoorGdP
import Derived.Test.YthmipnflbiclbaaDoorLitM
namespace Go.Proofs.YthmipnflbiclbaaDoor
open Go.RowKit

theorem rs_side (g x : Nat) (L : List Nat) : rs g x L = if hasX x g = true then wto x L else wth x L := by
  rw [rs]
  by_cases h : hasX x g = true
  · rw [if_pos h, h, wto]
    apply List.filter_congr
    intro t _
    cases hasX x t <;> rfl
  · rw [if_neg h]
    rw [Bool.not_eq_true] at h
    rw [h, wth]
    apply List.filter_congr
    intro t _
    cases hasX x t <;> rfl
theorem aftTo_ge {d : List Nat → Int} {L : List Nat} {g x : Nat} : ∀ k, x < k → d (rs g x L) ≤ aftTo d L g k
  | 0, h => by omega
  | k + 1, h => by
    rw [aftTo_succ]
    by_cases e : x = k
    · subst e; split <;> omega
    · have := aftTo_ge (d := d) (L := L) (g := g) (x := x) k (by omega)
      split <;> omega
theorem aftTo_le {d : List Nat → Int} {L : List Nat} {g : Nat} {c : Int} (h0 : 0 ≤ c) : ∀ k, (∀ x, x < k → d (rs g x L) ≤ c) → aftTo d L g k ≤ c
  | 0, _ => h0
  | k + 1, h => by
    have h1 := aftTo_le h0 k (fun x hx => h x (by omega))
    have h2 := h k (by omega)
    rw [aftTo_succ]
    split <;> omega
theorem aftTo_nn {d : List Nat → Int} {L : List Nat} {g : Nat} : ∀ k, 0 ≤ aftTo d L g k
  | 0 => Int.le_refl _
  | k + 1 => by
    have := aftTo_nn (d := d) (L := L) (g := g) k
    rw [aftTo_succ]
    split <;> omega
theorem lsTo_le {n : Nat} {G : List Nat} {d : List Nat → Int} {L : List Nat} {j : Nat} : ∀ k, j < k → lsTo n G d L k ≤ 1 + aft n d L (G.getD j 0)
  | 0, h => by omega
  | k + 1, h => by
    rw [lsTo_succ]
    by_cases e : j = k
    · subst e; split <;> omega
    · have := lsTo_le (n := n) (G := G) (d := d) (L := L) (j := j) k (by omega)
      split <;> omega
theorem lsTo_ge {n : Nat} {G : List Nat} {d : List Nat → Int} {L : List Nat} {c : Int} (h1 : c ≤ 100) (h2 : ∀ g, c ≤ 1 + aft n d L g) : ∀ k, c ≤ lsTo n G d L k
  | 0 => h1
  | k + 1 => by
    have h3 := lsTo_ge (G := G) h1 h2 k
    have h4 := h2 (G.getD k 0)
    rw [lsTo_succ]
    split <;> omega
theorem lsTo_mem {n : Nat} {G : List Nat} {d : List Nat → Int} {L : List Nat} {g : Nat} (h : g ∈ G) : lsTo n G d L G.length ≤ 1 + aft n d L g := by
  obtain ⟨j, hj, rfl⟩ := List.getElem_of_mem h
  have h9 := lsTo_le (n := n) (G := G) (d := d) (L := L) G.length hj
  rwa [List.getD_eq_getElem?_getD, List.getElem?_eq_getElem hj, Option.getD_some] at h9
theorem high_no {m x t : Nat} (ht : t < 2 ^ m) (hx : m ≤ x) : hasX x t = false := by
  have h2 : 2 ^ m ≤ 2 ^ x := Nat.pow_le_pow_right (by omega) hx
  rw [hasX, Nat.div_eq_of_lt (by omega)]
  decide
/-- guesses are more than mistakes -/
theorem gd_lo {m : Nat} (G : List Nat) : ∀ (N : Nat) (L : List Nat), L.length ≤ N → L.length ≤ 32 → (∀ t ∈ L, t < 2 ^ m) → mst L + 1 ≤ gd m G L := by
  intro N
  induction N with
  | zero =>
    intro L h _ _
    obtain rfl : L = [] := List.eq_nil_of_length_eq_zero (by omega)
    rw [mst_nil, gd_nil]; omega
  | succ N ih =>
    intro L h h32 hm
    by_cases e : L = []
    · subst e; rw [mst_nil, gd_nil]; omega
    · have htop := mst_top L
      rw [gd_step e]
      refine lsTo_ge (by omega) (fun g => ?_) _
      by_cases hs : stuck m L g = true
      · rw [aft, if_pos hs]; omega
      · rw [aft, if_neg hs]
        rw [Bool.not_eq_true, stuck_no] at hs
        by_cases h0 : mst L = 0
        · have := aftTo_nn (d := gd m G) (L := L) (g := g) m
          omega
        · have hnn := mst_nn e
          rw [mst_to e] at h0 hnn
          obtain ⟨x, hx, p1, p2, p3⟩ := mst_att 5 (show 0 < depTo min max 31 L 5 by omega)
          obtain ⟨q1, q2⟩ := mst_part h32 p1 p2
          rw [← q1, ← q2, ← mst_to e] at p3
          have hxm : x < m := by
            apply Classical.byContradiction
            intro hn
            obtain ⟨t, ht⟩ := List.exists_mem_of_ne_nil _ p1
            rw [wth, List.mem_filter] at ht
            rw [high_no (hm t ht.1) (by omega)] at ht
            cases ht.2
          have hlt := rs_len (hs x hxm)
          have h9 := ih (rs g x L) (by omega) (by omega) (fun t ht => hm t (rs_sub ht))
          have h8 := aftTo_ge (d := gd m G) (L := L) (g := g) m hxm
          have h7 : mst L - 1 ≤ mst (rs g x L) := by
            rw [rs_side]
            split <;> omega
          omega
/-- a set with given points -/
def gOf (p : Nat → Bool) : Nat → Nat
  | 0 => 0
  | k + 1 => if p k = true then gOf p k + 2 ^ k else gOf p k
theorem gOf_lt (p : Nat → Bool) : ∀ k, gOf p k < 2 ^ k
  | 0 => by simp [gOf]
  | k + 1 => by
    have h := gOf_lt p k
    have h9 : 2 ^ (k + 1) = 2 ^ k + 2 ^ k := by rw [Nat.pow_succ]; omega
    rw [gOf]
    split <;> omega
theorem gOf_bit (p : Nat → Bool) : ∀ k, k ≤ 7 → ∀ i, i < k → hasX i (gOf p k) = p i
  | 0, _, i, hi => by omega
  | k + 1, hk, i, hi => by
    have h := gOf_lt p k
    have h128 := pow_le_128 (show k ≤ 7 by omega)
    have ih := gOf_bit p k (by omega)
    obtain ⟨_, h2, h3, h4⟩ := add_bit ⟨gOf p k, by omega⟩ ⟨k, by omega⟩ h
    dsimp only at h2 h3 h4
    rw [gOf]
    by_cases e : i = k
    · subst e
      by_cases hc : p i = true
      · rw [if_pos hc, h2, hc]
      · rw [if_neg hc, h3]
        rw [Bool.not_eq_true] at hc
        rw [hc]
    · split
      · rw [h4 ⟨i, by omega⟩ (by show i < k; omega), ih i (by omega)]
      · exact ih i (by omega)
/-- where any sets may be guessed, guesses are no more than mistakes and one -/
theorem gd_hi {m : Nat} (hm5 : m ≤ 5) : ∀ (N : Nat) (L : List Nat), L.length ≤ N → L.length ≤ 32 → (∀ t ∈ L, t < 2 ^ m) → gd m (List.range (2 ^ m)) L ≤ mst L + 1 := by
  intro N
  induction N with
  | zero =>
    intro L h _ _
    obtain rfl : L = [] := List.eq_nil_of_length_eq_zero (by omega)
    rw [mst_nil, gd_nil]; omega
  | succ N ih =>
    intro L h h32 hm
    by_cases e : L = []
    · subst e; rw [mst_nil, gd_nil]; omega
    · have hnn := mst_nn e
      obtain ⟨p, hp⟩ : ∃ p : Nat → Bool, p = fun x => decide (mst (wto x L) ≤ mst (wth x L)) := ⟨_, rfl⟩
      have hg := gOf_lt p m
      have hb := gOf_bit p m (by omega)
      rw [gd_step e]
      refine Int.le_trans (lsTo_mem (g := gOf p m) (List.mem_range.2 hg)) ?_
      have key : ∀ x, x < m → mst (rs (gOf p m) x L) ≤ mst L - 1 := fun x hx => by
        have hmin : mst (rs (gOf p m) x L) = min (mst (wth x L)) (mst (wto x L)) := by
          rw [rs_side, hb x hx, hp]
          by_cases hc : mst (wto x L) ≤ mst (wth x L)
          · rw [if_pos (by simpa using hc)]; omega
          · rw [if_neg (by simpa using hc)]; omega
        rw [hmin]
        by_cases h1 : wth x L = []
        · rw [h1, mst_nil]; have := (mst_top (wto x L)).1; omega
        · by_cases h2 : wto x L = []
          · rw [h2, mst_nil]; have := (mst_top (wth x L)).1; omega
          · have := mst_max (show x < 5 by omega) h32 h1 h2
            omega
      have hs : stuck m L (gOf p m) = false := stuck_no.2 (fun x hx h9 => by
        have := key x hx
        rw [h9] at this
        omega)
      rw [aft, hs]
      have hle : aftTo (gd m (List.range (2 ^ m))) L (gOf p m) m ≤ mst L := aftTo_le hnn m (fun x hx => by
        have h9 := key x hx
        have hne : rs (gOf p m) x L ≠ L := fun h8 => by rw [h8] at h9; omega
        have hlt := rs_len hne
        have := ih _ (show (rs (gOf p m) x L).length ≤ N by omega) (by omega) (fun t ht => hm t (rs_sub ht))
        omega)
      show 1 + aftTo (gd m (List.range (2 ^ m))) L (gOf p m) m ≤ mst L + 1
      omega
theorem gd_any {m : Nat} (hm5 : m ≤ 5) {L : List Nat} (h32 : L.length ≤ 32) (hm : ∀ t ∈ L, t < 2 ^ m) : gd m (List.range (2 ^ m)) L = mst L + 1 := by
  have h1 := gd_lo (List.range (2 ^ m)) L.length L (Nat.le_refl _) h32 hm
  have h2 := gd_hi hm5 L.length L (Nat.le_refl _) h32 hm
  omega
/-- where the sets alone may be guessed, guesses are no more than the sets -/
theorem gd_own {m : Nat} {G : List Nat} : ∀ (N : Nat) (L : List Nat), L.length ≤ N → (∀ t ∈ L, t ∈ G) → gd m G L ≤ L.length := by
  intro N
  induction N with
  | zero =>
    intro L h _
    obtain rfl : L = [] := List.eq_nil_of_length_eq_zero (by omega)
    rw [gd_nil]; exact Int.le_refl _
  | succ N ih =>
    intro L h hG
    by_cases e : L = []
    · subst e; rw [gd_nil]; exact Int.le_refl _
    · obtain ⟨g, hg⟩ := List.exists_mem_of_ne_nil _ e
      have hp := List.length_pos_iff.2 e
      have hne : ∀ x, rs g x L ≠ L := fun x h9 => by
        rw [← h9, rs, List.mem_filter] at hg
        have := hg.2
        revert this
        cases hasX x g <;> decide
      rw [gd_step e]
      refine Int.le_trans (lsTo_mem (hG g hg)) ?_
      rw [aft, stuck_no.2 (fun x _ => hne x)]
      have hle : aftTo (gd m G) L g m ≤ (L.length : Int) - 1 := aftTo_le (by omega) m (fun x _ => by
        have hlt := rs_len (hne x)
        have := ih (rs g x L) (by omega) (fun t ht => hG t (rs_sub ht))
        omega)
      show 1 + aftTo (gd m G) L g m ≤ (L.length : Int)
      omega

end Go.Proofs.YthmipnflbiclbaaDoor
