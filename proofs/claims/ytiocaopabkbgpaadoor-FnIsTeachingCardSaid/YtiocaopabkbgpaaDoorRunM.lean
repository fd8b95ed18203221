/- What samples leave of a class, and the mistakes of the rules. No conditions. -/
import Derived.Test.YtiocaopabkbgpaaDoorLitM
import Derived.Test.YtiocaopabkbgpaaDoorRunH
import Derived.Test.YtiocaopabkbgpaaDoorSmpM
import Derived.Test.YtiocaopabkbgpaaDoorZM
namespace Go.Proofs.YtiocaopabkbgpaaDoor
open Go.RowKit

theorem kp_eq (l : List Nat) (e : Int × Bool) : kp l e = if e.2 = true then wth e.1.toNat l else wto e.1.toNat l := by
  obtain ⟨p, b⟩ := e
  unfold kp wth wto
  cases b <;> simp
theorem mem_kp {l : List Nat} {e : Int × Bool} {t : Nat} : t ∈ kp l e ↔ t ∈ l ∧ hasX e.1.toNat t = e.2 := by
  unfold kp
  rw [List.mem_filter]
  simp
theorem mem_now (ns : List Nat) (es : List (Int × Bool)) (t : Nat) : ∀ k, t ∈ nowTo ns es k ↔ t ∈ ns ∧ ∀ j, j < k → hasX (es.getD j (0, false)).1.toNat t = (es.getD j (0, false)).2
  | 0 => by simp [nowTo]
  | k + 1 => by
    rw [nowTo, mem_kp, mem_now ns es t k]
    constructor
    · rintro ⟨⟨h1, h2⟩, h3⟩
      refine ⟨h1, fun j hj => ?_⟩
      rcases (show j < k ∨ j = k by omega) with h | rfl
      · exact h2 j h
      · exact h3
    · rintro ⟨h1, h2⟩
      exact ⟨⟨h1, fun j hj => h2 j (by omega)⟩, h2 k (by omega)⟩
/-- what is left is what has no risk -/
theorem now_ms {ns : List Nat} {es : List (Int × Bool)} {t : Nat} : t ∈ nowTo ns es es.length ↔ t ∈ ns ∧ msTo t es es.length = 0 := by
  rw [mem_now, ms_zero]
theorem now_cls {m : Nat} {ns : List Nat} (h : Cls m ns) (es : List (Int × Bool)) (k : Nat) : Cls m (nowTo ns es k) :=
  ⟨h.pts, nowTo_asc h.asc es k, fun t ht => h.lt t ((nowTo_sub ns es k).1 t ht)⟩
theorem now_take {ns : List Nat} {es : List (Int × Bool)} {n : Nat} : ∀ k, k ≤ n → nowTo ns (es.take n) k = nowTo ns es k
  | 0, _ => rfl
  | k + 1, hk => by rw [nowTo, nowTo, now_take k (by omega), getD_take (by omega)]
theorem now_drop {ns : List Nat} {es : List (Int × Bool)} {n : Nat} : ∀ k, nowTo (nowTo ns es n) (es.drop n) k = nowTo ns es (n + k)
  | 0 => rfl
  | k + 1 => by rw [nowTo, now_drop k, getD_drop, show n + (k + 1) = n + k + 1 by omega, nowTo]
/-- asked in two parts -/
theorem now_two {ns : List Nat} {es : List (Int × Bool)} {n : Nat} (hn : n ≤ es.length) : nowTo (nowTo ns (es.take n) (es.take n).length) (es.drop n) (es.drop n).length = nowTo ns es es.length := by
  rw [List.length_take, List.length_drop, show min n es.length = n by omega, now_take n (Nat.le_refl _), now_drop]
  congr 1
  omega
/-- halving makes few mistakes -/
theorem hal_pow (ns : List Nat) (es : List (Int × Bool)) : ∀ k, 2 ^ (misTo gHal ns es k).toNat * (nowTo ns es k).length ≤ ns.length
  | 0 => by simp [misTo, nowTo]
  | k + 1 => by
    have ih := hal_pow ns es k
    have hb := misTo_bd gHal ns es k
    have hl := wth_wto_len (es.getD k (0, false)).1.toNat (nowTo ns es k)
    rw [misTo, nowTo, kp_eq]
    generalize es.getD k (0, false) = e at *
    obtain ⟨p, b⟩ := e
    dsimp only at hl ⊢
    generalize nowTo ns es k = l at *
    obtain ⟨q, hq⟩ := Int.eq_ofNat_of_zero_le hb.1
    rw [hq] at ih ⊢
    rw [Int.toNat_natCast] at ih
    by_cases hg : gHal l p.toNat = b
    · rw [if_pos hg, Int.add_zero, Int.toNat_natCast]
      refine Nat.le_trans (Nat.mul_le_mul_left _ ?_) ih
      split <;> omega
    · rw [if_neg hg, show ((q : Int) + 1).toNat = q + 1 by omega, Nat.pow_succ, Nat.mul_assoc]
      refine Nat.le_trans (Nat.mul_le_mul_left _ ?_) ih
      cases b
      · have : gHal l p.toNat = true := by simpa using hg
        rw [gHal, decide_eq_true_eq] at this
        rw [if_neg (by decide)]
        omega
      · have : gHal l p.toNat = false := by simpa using hg
        rw [gHal, decide_eq_false_iff_not] at this
        rw [if_pos rfl]
        omega
theorem hal_end {ns : List Nat} {es : List (Int × Bool)} (h : nowTo ns es es.length ≠ []) : 2 ^ (misTo gHal ns es es.length).toNat ≤ ns.length := by
  have h1 := hal_pow ns es es.length
  have h2 : 0 < (nowTo ns es es.length).length := List.length_pos_iff.2 h
  exact Nat.le_trans (Nat.le_mul_of_pos_right _ h2) h1
/-- the optimal rule makes no more mistakes than it must -/
theorem opt_mst {ns : List Nat} {es : List (Int × Bool)} (h32 : ∀ t ∈ ns, t < 32) (hl : ns.length ≤ 32) (hp : ∀ j, j < es.length → 0 ≤ (es.getD j (0, false)).1 ∧ (es.getD j (0, false)).1 < 5) : ∀ k, k ≤ es.length → nowTo ns es k ≠ [] → misTo gOpt ns es k + mst (nowTo ns es k) ≤ mst ns
  | 0, _, _ => by simp [misTo, nowTo]
  | k + 1, hk, hne => by
    have hsub := nowTo_sub ns es k
    have hne0 : nowTo ns es k ≠ [] := by
      intro e
      apply hne
      rw [nowTo, e]
      rfl
    have ih := opt_mst h32 hl hp k (by omega) hne0
    obtain ⟨p0, p1⟩ := hp k (by omega)
    rw [nowTo, kp_eq] at hne
    rw [misTo, nowTo, kp_eq]
    generalize es.getD k (0, false) = e at *
    obtain ⟨p, b⟩ := e
    dsimp only at hne p0 p1 ⊢
    generalize nowTo ns es k = l at *
    obtain ⟨x, rfl⟩ := Int.eq_ofNat_of_zero_le p0
    rw [Int.toNat_natCast] at *
    have hx : x < 5 := by omega
    have hl2 : l.length ≤ 32 := by omega
    have hl32 : ∀ t ∈ l, t < 32 := fun t ht => h32 t (hsub.1 t ht)
    have s1 : mst (wth x l) ≤ mst l := mst_sub (Nat.le_trans (List.length_filter_le _ _) hl2) hl2 (fun t ht => hl32 t (List.mem_filter.1 ht).1) (fun t ht => (List.mem_filter.1 ht).1)
    have s2 : mst (wto x l) ≤ mst l := mst_sub (Nat.le_trans (List.length_filter_le _ _) hl2) hl2 (fun t ht => hl32 t (List.mem_filter.1 ht).1) (fun t ht => (List.mem_filter.1 ht).1)
    by_cases hg : gOpt l x = b
    · rw [if_pos hg]
      split <;> omega
    · rw [if_neg hg]
      cases b
      · have hg2 : gOpt l x = true := by simpa using hg
        rw [gOpt, decide_eq_true_eq] at hg2
        rw [if_neg (by decide)] at hne ⊢
        have h0 := mst_nn hne
        have h1 : wth x l ≠ [] := by
          intro e
          rw [e, mst_nil] at hg2
          omega
        have := mst_max hx hl2 h1 hne
        omega
      · have hg2 : gOpt l x = false := by simpa using hg
        rw [gOpt, decide_eq_false_iff_not] at hg2
        rw [if_pos rfl] at hne ⊢
        have h0 := mst_nn hne
        have h1 : wto x l ≠ [] := by
          intro e
          rw [e, mst_nil] at hg2
          omega
        have := mst_max hx hl2 hne h1
        omega
theorem opt_end {m : Nat} {ns : List Nat} {es : List (Int × Bool)} (h : Cls m ns) (hp : ptsTo m es es.length = true) (hne : nowTo ns es es.length ≠ []) : misTo gOpt ns es es.length ≤ mst ns := by
  have hm := h.pts
  have h32 := pow_le_32 hm
  have h1 := opt_mst (fun t ht => by have := h.lt t ht; omega) h.length (fun j hj => by have := pts_iff.1 hp j hj; omega) es.length (Nat.le_refl _) hne
  have := mst_nn hne
  omega
/-- the worst sample -/
theorem wE_at (l : List Nat) (d j : Nat) (hj : j < d) : (wE l d).getD j (0, false) = wEx (wL l j) := by
  induction d with
  | zero => omega
  | succ d ih =>
    rw [wE]
    rcases (show j < d ∨ j = d by omega) with h | rfl
    · rw [← ih h]
      simp only [List.getD_eq_getElem?_getD]
      rw [List.getElem?_append_left (by rw [wE_len]; exact h)]
    · simp only [List.getD_eq_getElem?_getD]
      rw [List.getElem?_append_right (by rw [wE_len]; exact Nat.le_refl _), wE_len]
      simp
theorem wL_now (l : List Nat) (d : Nat) : ∀ k, k ≤ d → nowTo l (wE l d) k = wL l k
  | 0, _ => rfl
  | k + 1, hk => by rw [nowTo, wL_now l d k (by omega), wE_at l d k (by omega), wL]
theorem w_mis (l : List Nat) (d : Nat) : ∀ k, k ≤ d → misTo gOpt l (wE l d) k = k
  | 0, _ => rfl
  | k + 1, hk => by
    rw [misTo, w_mis l d k (by omega), wL_now l d k (by omega), wE_at l d k (by omega)]
    rw [if_neg (by show ¬ gOpt (wL l k) ((wX (wL l k) : Nat) : Int).toNat = !gOpt (wL l k) (wX (wL l k)); rw [Int.toNat_natCast]; cases gOpt (wL l k) (wX (wL l k)) <;> simp)]
    omega
theorem w_pts {m : Nat} {ns : List Nat} (h : Cls m ns) {d : Nat} (hd : (d : Int) ≤ mst ns) : ptsTo m (wE ns d) d = true := by
  rw [pts_iff]
  intro j hj
  rw [wE_at ns d j hj]
  have hs := wL_sub ns j
  have hl := h.length
  have hm := wL_mst hl j (by omega)
  obtain ⟨x, hx, _, hw, hp, _⟩ := w_step (l := wL ns j) (by omega) (by omega)
  obtain ⟨h1, h2⟩ := wP_ne (by omega) hp
  show (0 : Int) ≤ ((wX (wL ns j) : Nat) : Int) ∧ ((wX (wL ns j) : Nat) : Int) < m
  rw [hw]
  refine ⟨by omega, ?_⟩
  obtain ⟨t, ht⟩ := List.exists_mem_of_ne_nil _ h1
  have ht2 := List.mem_filter.1 ht
  have hlt := h.lt t (hs.1 t ht2.1)
  have hx1 : hasX x t = true := ht2.2
  rw [hasX, decide_eq_true_eq] at hx1
  have : x < m := by
    apply Classical.byContradiction
    intro hge
    have : t / 2 ^ x = 0 := Nat.div_eq_of_lt (Nat.lt_of_lt_of_le hlt (Nat.pow_le_pow_right (by omega) (by omega)))
    rw [this] at hx1
    omega
  omega
theorem mst_five {ns : List Nat} (hl : ns.length ≤ 32) : mst ns ≤ 5 := by
  by_cases h : ns = []
  · rw [h, mst_nil]; omega
  · have h1 := lit_pow hl h
    have h2 := mst_nn h
    apply Classical.byContradiction
    intro h6
    have : 2 ^ 6 ≤ 2 ^ (mst ns).toNat := Nat.pow_le_pow_right (by omega) (by omega)
    omega
theorem w_all {m : Nat} {ns : List Nat} (h : Cls m ns) (hv : vldB m (toI ns) = true) : vsB m (toI ns) (wE ns (mst ns).toNat) = true ∧ misTo gOpt ns (wE ns (mst ns).toNat) (mst ns).toNat = ((mst ns).toNat : Int) ∧ (ns ≠ [] → nowTo ns (wE ns (mst ns).toNat) (mst ns).toNat ≠ []) := by
  have h5 := mst_five h.length
  obtain ⟨d, hd⟩ : ∃ d, d = (mst ns).toNat := ⟨_, rfl⟩
  rw [← hd]
  refine ⟨?_, w_mis ns d d (Nat.le_refl _), fun hne => ?_⟩
  · simp only [vsB, hv, Bool.true_and, Bool.and_eq_true, decide_eq_true_eq, wE_len]
    refine ⟨by omega, ?_⟩
    by_cases h0 : d = 0
    · subst h0; rfl
    · exact w_pts h (by omega)
  · rw [wL_now ns d d (Nat.le_refl _)]
    have h0 := mst_nn hne
    have := wL_mst h.length d (by omega)
    intro e
    rw [e, mst_nil] at this
    omega

end Go.Proofs.YtiocaopabkbgpaaDoor
