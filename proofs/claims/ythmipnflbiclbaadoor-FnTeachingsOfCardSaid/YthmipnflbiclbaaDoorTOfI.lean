/- TeachingsOf, the program's, for all classes and numbers; what the model's loops keep. Conditions: Sets is a slice of ints; the table setsWith is laid. -/
import Derived.Test.YthmipnflbiclbaaDoorTOf
import Derived.WalkMore
namespace Go.Proofs.YthmipnflbiclbaaDoor
open Go.RowKit Go.Shelf

set_option maxRecDepth 100000 in
set_option maxHeartbeats 1600000 in
theorem implTeachingsOf (n : Int) (v : Value) (zs : List Int) (s : Int) (w : World) (h : Rd w v zs) (hsw : SW w) :
    Calls Tryd.prog 38 #[.agg #[.int .i64 n, v], .int .i64 s] w (RetInts (tsoL n zs s) w) := by
  by_cases hin : inB n zs s = true
  · have hv : vldB n zs = true := by simp only [inB, Bool.and_eq_true] at hin; exact hin.1
    have hin2 := hin
    obtain ⟨m, ns, rfl, rfl, hc⟩ := vldB_cls hv
    have ht : setB m s = true := by simp only [inB, Bool.and_eq_true, Int.toNat_natCast] at hin; exact hin.2
    obtain ⟨u, rfl, hu, hu32⟩ := setB_nat hc.pts ht
    rw [tsoL, if_pos hin2, Int.toNat_natCast, toNat_toI]
    exact implTOf (m : Int) v ns u hc.lt32 hc.asc hu32 hin2 w h hsw
  · rw [Bool.not_eq_true] at hin
    have H := Lib.hid h
    have HI := Lib.hid (fun w0 h0 => implIsSetOf n v zs s w0 h0)
    obtain ⟨a, b, off, cap, rfl, _, _, _⟩ := h
    rw [show tsoL n zs s = [] by rw [tsoL, if_neg (by rw [hin]; simp)]]
    rw [hin] at HI
    clear hin
    go_enter Tryd.func38, Tryd.ntmps38
    go_wp2_with fail
    apply wp_scope_straight
    go_wp2_with fail
    refine (HI.out _ (H.out.below (by go_grown) (Nat.le_refl _))).mono ?_
    rintro e w1 ⟨rfl, hb⟩
    have hbb : Below w.heap.size w w1 := Below.trans (show Below w.heap.size w _ from by go_grown) (hb.mono (by simp; omega))
    have HB := Lib.hid hbb
    clear hb hbb
    go_wp2_with fail
    try rw [Exit.noGoto_ret]
    go_ret
    exact ⟨none, 0, rfl, Ints.nil _ _, HB.out⟩

theorem big_pts : ∀ m : Fin 6, ∀ s : Fin 32, ¬ s.1 < 2 ^ m.1 → ∃ y : Fin 5, y ∈ ptF 5 s.1 ∧ clr s.1 y &&& (2 ^ m.1 - 1) = s.1 &&& (2 ^ m.1 - 1) := by decide +kernel
/-- what the model's rounds so far have kept -/
def tsoQ (t : Nat) (l : List Nat) (k : Nat) : List Nat := (List.range k).filter (fun s => tch t s l && mnm t l s)
theorem tsoQ_succ (t : Nat) (l : List Nat) (k : Nat) : tsoQ t l (k + 1) = if (tch t k l && mnm t l k) = true then tsoQ t l k ++ [k] else tsoQ t l k := by
  rw [tsoQ, List.range_succ, List.filter_append]
  split
  · rename_i h; rw [List.filter_cons, if_pos h]; rfl
  · rename_i h; rw [List.filter_cons, if_neg h]; simp [tsoQ]
theorem tsoQ_len (t : Nat) (l : List Nat) (k : Nat) : (tsoQ t l k).length ≤ k := by
  have := List.length_filter_le (fun s => tch t s l && mnm t l s) (List.range k)
  rwa [List.length_range] at this
theorem tsoQ_all {m t : Nat} {l : List Nat} (h : Cls m l) (ht : t ∈ l) : tsoQ t l (2 ^ m) = tsoN t l := by
  have h32 := pow_le_32 h.pts
  refine asc_ext (List.pairwise_lt_range.filter _) ((List.pairwise_lt_range.filter _).filter _) (fun x => ?_)
  rw [tsoQ, tsoN, List.mem_filter, List.mem_filter, List.mem_range, mem_flt, Bool.and_eq_true]
  constructor
  · rintro ⟨h1, h2, h3⟩; exact ⟨⟨by omega, h2⟩, h3⟩
  · rintro ⟨⟨h1, h2⟩, h3⟩
    refine ⟨?_, h2, h3⟩
    by_cases hx : x < 2 ^ m
    · exact hx
    · exfalso
      obtain ⟨y, hy, e⟩ := big_pts ⟨m, by have := h.pts; omega⟩ ⟨x, h1⟩ hx
      dsimp only at hy e
      have h4 : tch t (clr x y) l = true := by
        rw [tch, ← agr_cut h ht, e, agr_cut h ht]; exact h2
      rw [mnm, hits, Bool.not_eq_true', List.any_eq_false] at h3
      exact h3 y hy h4
theorem tso_none {t : Nat} {l : List Nat} (h : ¬ t ∈ l) : tsoN t l = [] := by
  have h2 := tcs_none h
  rw [tcs] at h2
  rw [tsoN, h2]; rfl
/-- is there one of the first k points that can be left out? -/
def lvO (t : Nat) (l : List Nat) (s k : Nat) : Bool := (List.range k).any (fun x => hasX x s && tch t (s - 2 ^ x) l)
theorem lvO_succ (t : Nat) (l : List Nat) (s k : Nat) : lvO t l s (k + 1) = (lvO t l s k || (hasX k s && tch t (s - 2 ^ k) l)) := by simp [lvO, List.range_succ]
theorem lvO_all {m t s : Nat} {l : List Nat} (hm : m ≤ 5) (hs : s < 2 ^ m) : (!lvO t l s m) = mnm t l s := by
  rw [mnm]
  congr 1
  rw [Bool.eq_iff_iff, lvO, hits, List.any_eq_true, List.any_eq_true]
  have hin : ∀ x, hasX x s = true → x < m := fun x h => by
    by_cases hx : x < m
    · exact hx
    · exfalso
      have h2 : 2 ^ m ≤ 2 ^ x := Nat.pow_le_pow_right (by omega) (by omega)
      simp only [hasX, decide_eq_true_eq] at h
      rw [Nat.div_eq_of_lt (by omega)] at h
      omega
  constructor
  · rintro ⟨x, hx, h⟩
    rw [Bool.and_eq_true] at h
    have h5 := hin x h.1
    refine ⟨⟨x, by omega⟩, by simp [ptF, h.1], ?_⟩
    rw [clr, if_pos h.1]
    exact h.2
  · rintro ⟨y, hy, h⟩
    have h1 : hasX y.val s = true := by simpa [ptF] using hy
    rw [clr, if_pos h1] at h
    exact ⟨y.val, List.mem_range.2 (hin _ h1), by rw [h1, h]; rfl⟩

end Go.Proofs.YthmipnflbiclbaaDoor
