/- Links: a point less to shatter, and as many sets as there are edges at the point. No program. -/
import Derived.Test.YtbjaacppomobeaaShfM
namespace Go.Proofs.Ytbjaacppomobeaa
open Go.RowKit

theorem ins_pc {n x t : Nat} (hn : n < 5) (hx : x ≤ n) (ht : t < 2 ^ n) : pc (ins x t + 2 ^ x) = pc t + 1 := by
  have key : ∀ n : Fin 5, ∀ x : Fin 5, ∀ t : Fin 16, (x : Nat) ≤ (n : Nat) → (t : Nat) < 2 ^ (n : Nat) → pc (ins (x : Nat) (t : Nat) + 2 ^ (x : Nat)) = pc (t : Nat) + 1 := by decide +kernel
  have h16 := sixteen hn
  exact key ⟨n, hn⟩ ⟨x, by omega⟩ ⟨t, by omega⟩ hx ht
theorem inF_lnk {n x : Nat} {ns : List Nat} (h : Cls (n + 1) ns) (hx : x ≤ n) {t : Nat} (ht : t < 2 ^ n) : inF (lnkN x ns) t = andF (dnX x (inF ns)) (upX x (inF ns)) t := by
  simp only [dnX, upX, andF, inF]
  rw [← Bool.decide_and]
  exact decide_eq_decide.2 (mem_lnkN h hx ht)
theorem lnk_vc {m x : Nat} {ns : List Nat} (h : Cls m ns) (hx : x < m) (hne : ns ≠ []) : vcL (m - 1) (lnkN x ns) < vcL m ns := by
  obtain ⟨n, rfl⟩ : ∃ n, m = n + 1 := ⟨m - 1, by omega⟩
  have hn : n < 5 := by have := h.pts; omega
  rw [Nat.add_sub_cancel]
  rcases widL_at ((List.range (2 ^ n)).filter (sht (lnkN x ns))) with h1 | ⟨s, hs, h1⟩
  · have h2 : ¬ vcL (n + 1) ns < 0 := fun k => hne ((vcL_neg h).1 k)
    rw [show vcL n (lnkN x ns) = -1 from h1]
    omega
  · rw [List.mem_filter, List.mem_range] at hs
    have hx2 : x ≤ n := by omega
    have hc := lnkN_cls h hx2
    rw [sht_sh hc hs.1, shF_congr (fun t ht => inF_lnk h hx2 ht)] at hs
    have h3 := shF_and n _ _ _ hs.2
    obtain ⟨_, a2, _, _⟩ := sF_ins hn hx2 (inF ns) hs.1
    rw [h3.1, h3.2] at a2
    obtain ⟨_, i2, _⟩ := ins_facts hn hx2 hs.1
    have h4 := widL_ge (ns := (List.range (2 ^ (n + 1))).filter (sht ns)) (s := ins x s + 2 ^ x) (by
      rw [List.mem_filter, List.mem_range]
      exact ⟨i2, by rw [sht_sh h i2, a2]; rfl⟩)
    rw [ins_pc hn hx2 hs.1] at h4
    rw [show vcL n (lnkN x ns) = (pc s : Int) from h1]
    have h5 : ((pc s + 1 : Nat) : Int) ≤ vcL (n + 1) ns := h4
    omega
theorem lnk_among {m x : Nat} {ns : List Nat} (h : Cls m ns) (hx : x < m) : ∀ t ∈ lnkN x ns, t ∈ rmvL x ns := by
  obtain ⟨n, rfl⟩ : ∃ n, m = n + 1 := ⟨m - 1, by omega⟩
  intro t ht
  have hlt := (lnkN_cls h (show x ≤ n by omega)).lt t ht
  exact (mem_rmvL h (by omega) hlt).2 (.inl ((mem_lnkN h (by omega) hlt).1 ht).1)
theorem lnk_len {m x : Nat} {ns : List Nat} (h : Cls m ns) (hx : x < m) : (lnkN x ns).length = cnt m (eY x (inF ns)) := by
  obtain ⟨n, rfl⟩ : ∃ n, m = n + 1 := ⟨m - 1, by omega⟩
  have hn : n < 5 := by have := h.pts; omega
  have hx2 : x ≤ n := by omega
  have hc := lnkN_cls h hx2
  rw [← hc.cnt, cnt_congr (fun t ht => inF_lnk h hx2 ht), cnt_ins' hn hx2 (eY x (inF ns))]
  have e1 : cnt n (dnX x (eY x (inF ns))) = cnt n (andF (dnX x (inF ns)) (upX x (inF ns))) := cnt_congr (fun t ht => by
    obtain ⟨_, _, _, _, h1, _⟩ := ins_facts hn hx2 ht
    simp only [dnX, upX, andF, eY]
    rw [h1]; rfl)
  have e2 : cnt n (upX x (eY x (inF ns))) = 0 := by
    rw [cnt_congr (g := fun _ => false) (fun t ht => by
      obtain ⟨_, _, _, _, _, h2, _⟩ := ins_facts hn hx2 ht
      simp only [upX, eY]
      rw [h2]; simp), cnt_none]
  rw [e1, e2, Nat.add_zero]
/-- the sets of the links of the first j points -/
def lkTo (ns : List Nat) (j : Nat) : Nat := ((List.range j).map (fun y => (lnkN y ns).length)).sum
theorem lkTo_succ (ns : List Nat) (j : Nat) : lkTo ns (j + 1) = lkTo ns j + (lnkN j ns).length := by
  rw [lkTo, lkTo, List.range_succ, List.map_append, List.sum_append]
  simp
theorem lk_all {m : Nat} {ns : List Nat} (h : Cls m ns) : lkTo ns m = (egTo ns ns.length).length := by
  rw [eg_count h, eF_sum h.pts, lkTo]
  congr 1
  exact List.map_congr_left (fun y hy => lnk_len h (List.mem_range.1 hy))
theorem lnk_32 {m x : Nat} {ns : List Nat} (h : Cls m ns) (hx : x < m) : (lnkN x ns).length ≤ 32 := by
  obtain ⟨n, rfl⟩ : ∃ n, m = n + 1 := ⟨m - 1, by omega⟩
  exact (lnkN_cls h (show x ≤ n by omega)).length
theorem lkTo_le {m : Nat} {ns : List Nat} (h : Cls m ns) : ∀ j, j ≤ m → lkTo ns j ≤ j * 32 := by
  intro j
  induction j with
  | zero => intro _; simp [lkTo]
  | succ j ih =>
    intro hj
    rw [lkTo_succ]
    have h1 := ih (by omega)
    have h2 := lnk_32 h (show j < m by omega)
    omega

end Go.Proofs.Ytbjaacppomobeaa
