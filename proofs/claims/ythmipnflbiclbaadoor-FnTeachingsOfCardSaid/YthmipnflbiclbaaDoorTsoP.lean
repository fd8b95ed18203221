/- Least teachings: what they promise: mathematics. No conditions. -/
import Derived.Test.YthmipnflbiclbaaDoorTOfI
import Derived.Test.YthmipnflbiclbaaDoorZV
namespace Go.Proofs.YthmipnflbiclbaaDoor
open Go.RowKit

theorem clr_has {s : Nat} {y : Fin 5} (h : hasX y.val s = true) : clr s y = s - 2 ^ y.val := by rw [clr, if_pos h]
theorem mem_tso {t s : Nat} {l : List Nat} : s ∈ tsoN t l ↔ s < 32 ∧ tch t s l = true ∧ ∀ y : Fin 5, hasX y.val s = true → tch t (s - 2 ^ y.val) l = false := by
  rw [tsoN, List.mem_filter, mem_flt, mnm, Bool.not_eq_true', hits, List.any_eq_false]
  constructor
  · rintro ⟨⟨h1, h2⟩, h3⟩
    refine ⟨h1, h2, fun y hy => ?_⟩
    have h4 := h3 y (by simp [ptF, hy])
    rw [Bool.not_eq_true, clr_has hy] at h4
    exact h4
  · rintro ⟨h1, h2, h3⟩
    refine ⟨⟨h1, h2⟩, fun y hy => ?_⟩
    have hx : hasX y.val s = true := by simpa [ptF] using hy
    rw [Bool.not_eq_true, clr_has hx]
    exact h3 y hx
theorem tch_more {t s r : Nat} {l : List Nat} (ha : l.Pairwise (· < ·)) (hs : s &&& r = s) (h : tch t s l = true) : tch t r l = true := by
  rw [tch_all ha] at h ⊢
  refine ⟨h.1, fun u hu e => h.2 u hu ?_⟩
  rw [← hs, Nat.and_comm s r, ← Nat.and_assoc, ← Nat.and_assoc, e]
theorem part_pt : ∀ s r : Fin 32, s.1 &&& r.1 = s.1 → s.1 ≠ r.1 → ∃ y : Fin 5, hasX y.1 r.1 = true ∧ s.1 &&& (r.1 - 2 ^ y.1) = s.1 := by decide +kernel
/-- no least teaching is a part of another one -/
theorem tso_apart {t s r : Nat} {l : List Nat} (ha : l.Pairwise (· < ·)) (hs : s ∈ tsoN t l) (hr : r ∈ tsoN t l) (hne : s ≠ r) : s &&& r ≠ s := by
  intro e
  rw [mem_tso] at hs hr
  obtain ⟨y, h1, h2⟩ := part_pt ⟨s, hs.1⟩ ⟨r, hr.1⟩ e hne
  have h3 := hr.2.2 y h1
  rw [tch_more ha h2 hs.2.1] at h3
  cases h3
theorem tso_asc (t : Nat) (l : List Nat) : (tsoN t l).Pairwise (· < ·) := (flt_asc _).filter _
/-- points that a class has not are none of a least teaching -/
theorem tso_lt {m t s : Nat} {l : List Nat} (hc : Cls m l) (ht : t ∈ l) (hs : s ∈ tsoN t l) : s < 2 ^ m := by
  have h := hs
  rw [← tsoQ_all hc ht, tsoQ, List.mem_filter, List.mem_range] at h
  exact h.1
/-- a least teaching is a star -/
theorem tso_star {m t s : Nat} {l : List Nat} (hc : Cls m l) (ht : t ∈ l) (hs : s ∈ tsoN t l) : (pc s : Int) ≤ starM m l := by
  have h1 := tso_lt hc ht hs
  rw [mem_tso] at hs
  exact starM_ge hc.pts h1 ht (cen_of hc.lt32 hs.1 hc.asc hs.2.1 (fun y hy hx => hs.2.2 ⟨y, hy⟩ hx))
/-- the fewest points are a least teaching -/
theorem tso_first {m t : Nat} {l : List Nat} (hc : Cls m l) (ht : t ∈ l) : ftN m t l ∈ tsoN t l := by
  obtain ⟨h1, h2⟩ := ftN_ok hc ht
  have h32 := pow_le_32 hc.pts
  rw [mem_tso]
  refine ⟨by omega, h2, fun y hx => ?_⟩
  obtain ⟨_, h3, h4, _⟩ := pow_in ⟨ftN m t l, by omega⟩ y hx
  dsimp only at h3 h4
  rw [Bool.eq_false_iff]
  intro h5
  have := ftN_min (m := m) (by omega) h5
  omega
theorem tso_no {t s : Nat} {l : List Nat} (hs : s ∈ tsoN t l) : tch t s l = true := (mem_tso.1 hs).2.1

set_option maxHeartbeats 400000 in
theorem lawsSubsetNo (a b : Nat) (ha : a < 4096) (hb : b < 4096) (hs : a &&& b ≠ a) (w : World) :
    Calls Tryd.prog 43 #[.int .i64 a, .int .i64 b] w fun e w' => e = .returned (.bool false) ∧ w' = w := by
  have h := i64_and a b ha hb
  have hne : (((a &&& b : Nat) : Int) == (a : Int)) = false := by
    rw [beq_eq_false_iff_ne]; intro e; exact hs (Int.ofNat_inj.1 e)
  generalize a &&& b = c at *
  go_enter Tryd.func43, Tryd.ntmps43
  go_wp2
  go_ret
  exact ⟨rfl, rfl⟩

end Go.Proofs.YthmipnflbiclbaaDoor
