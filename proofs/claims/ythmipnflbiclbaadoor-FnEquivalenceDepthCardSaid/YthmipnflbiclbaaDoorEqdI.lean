/- EquivalenceDepth, the program's. Conditions: Sets is a slice of ints; the table setsWith is laid. -/
import Derived.Test.YthmipnflbiclbaaDoorGdI
import Derived.Test.YthmipnflbiclbaaDoorSett
import Derived.Test.YthmipnflbiclbaaDoorZD
namespace Go.Proofs.YthmipnflbiclbaaDoor
open Go.RowKit

/-- is the depth asked of such a class? -/
def eqdK (n : Int) (zs : List Int) : Bool := vldB n zs && (decide (0 < zs.length) && decide (zs.length ≤ 7))
/-- the sets that may be guessed -/
def gsL (m : Nat) (ns : List Nat) (b : Bool) : List Nat := if b = true then ns else List.range (2 ^ m)
/-- what EquivalenceDepth answers -/
def eqdB (n : Int) (zs : List Int) (b : Bool) : Int := if eqdK n zs = true then gd n.toNat (gsL n.toNat (zs.map Int.toNat) b) (zs.map Int.toNat) else -1
theorem eqdB_in {m : Nat} {ns : List Nat} {b : Bool} (h : eqdK (m : Int) (toI ns) = true) : eqdB (m : Int) (toI ns) b = gd m (gsL m ns b) ns := by rw [eqdB, if_pos h, Int.toNat_natCast, toNat_toI]
theorem eqdB_bad {n : Int} {zs : List Int} {b : Bool} (h : eqdK n zs = false) : eqdB n zs b = -1 := by rw [eqdB, h]; rfl
theorem gsL_lt {m : Nat} {ns : List Nat} (hc : Cls m ns) (b : Bool) : (∀ g ∈ gsL m ns b, g < 32) ∧ (gsL m ns b).length ≤ 32 := by
  have h32 := pow_le_32 hc.pts
  cases b with
  | true => exact ⟨hc.lt32, hc.length⟩
  | false =>
    refine ⟨fun g hg => ?_, ?_⟩
    · have h9 : g ∈ List.range (2 ^ m) := hg
      rw [List.mem_range] at h9
      omega
    · show (List.range (2 ^ m)).length ≤ 32
      rw [List.length_range]; exact h32
theorem cmpl_none {m : Nat} (hm : m ≤ 5) : vldB (m : Int) [] = true ∧ cmN (m : Int) [] = m ∧ cmL (m : Int) [] = toI (List.range (2 ^ m)) := by
  have hv : vldB (m : Int) (toI []) = true := cls_vldB ⟨hm, List.Pairwise.nil, fun t ht => by cases ht⟩
  have hv2 : vldB (m : Int) [] = true := hv
  refine ⟨hv2, by rw [cmN, if_pos hv2], ?_⟩
  rw [cmL, if_pos hv2, Int.toNat_natCast, cmpl]
  congr 1
  exact List.filter_eq_self.2 (fun t _ => by simp)

set_option maxRecDepth 100000 in
set_option maxHeartbeats 3200000 in
theorem implEquivalenceDepth (n : Int) (v : Value) (zs : List Int) (b : Bool) (w : World) (h : Rd w v zs) (hsw : SW w) :
    Calls Tryd.prog 12 #[.agg #[.int .i64 n, v], .bool b] w fun e w' => e = .returned (.int .i64 (eqdB n zs b)) ∧ Below w.heap.size w w' := by
  have HV := Lib.hid (fun w0 h0 => implValid n v zs w0 h0)
  have H := Lib.hid h
  have HSW := Lib.hid hsw
  have h' := h
  obtain ⟨a, bl, off, cap, rfl, _, h3, _⟩ := h
  clear hsw
  by_cases hv : vldB n zs = true
  · rw [hv] at HV
    by_cases hk : eqdK n zs = true
    · obtain ⟨m, ns, rfl, rfl, hc⟩ := vldB_cls hv
      have hl : 0 < ns.length ∧ ns.length ≤ 7 := by
        simp only [eqdK, Bool.and_eq_true, decide_eq_true_eq, toI_length] at hk
        exact hk.2
      obtain ⟨hl0, hl7⟩ := hl
      have HE := Lib.hid (eqdB_in (b := b) hk)
      obtain ⟨hg1, hg2⟩ := gsL_lt hc b
      have HD := Lib.hid (fun u w hv hu hs => implGuessDepth m hc.pts (gsL m ns b) hg1 hg2 ns ⟨hc.lt32, hc.asc⟩ hl7 (.slice a (toI ns).length cap) u w hv hu hs)
      obtain ⟨hc1, hc2, hc3⟩ := cmpl_none hc.pts
      have HC := Lib.hid (fun u w hu => implComplementClass (m : Int) u [] w hu)
      rw [hc2, hc3] at HC
      have hfd : ∀ (a : Option Addr) (l c : Nat) (w : World), Sem.run Tryd.prog (Instr.field 25 (.agg #[.int .i64 (m : Int), .slice a l c]) 1) w = .ok (.slice a l c) w := fun _ _ _ _ => by kernel_rfl
      rw [toI_length] at H HV HD ⊢
      obtain ⟨L, hL⟩ : ∃ L, L = ns.length := ⟨_, rfl⟩
      rw [← hL] at H HV HD hl0 hl7 ⊢
      have hd1 : ((L : Int) == 0) = false := by rw [beq_eq_false_iff_ne]; omega
      have hd2 : decide ((7 : Int) < (L : Int)) = false := decide_eq_false (by omega)
      rw [HE.out]
      clear hL hk hg1 hg2 hc hc1 hc2 hc3 HE hv h'
      cases b with
      | true =>
        have HDt := Lib.hid (show ∀ u w, Rd w (.slice a L cap) (toI ns) → Rd w u (toI ns) → SW w → Calls Tryd.prog 59 #[.agg #[.int .i64 (m : Int), .slice a L cap], u] w fun e w' => e = .returned (.int .i64 (gd m (gsL m ns true) ns)) ∧ Below w.heap.size w w' from HD.out)
        generalize gd m (gsL m ns true) ns = E at *
        clear HD HC
        go_enter Tryd.func12, Tryd.ntmps12
        go_wp2_with fail
        refine (HV.out _ (H.out.below (by go_grown) (Nat.le_refl _))).mono ?_
        rintro e w1 ⟨rfl, hb⟩
        have B1 := Lib.hid ((Box.made (m : Int) (.slice a L cap) w _).next (by simp) hb)
        have hs1 : w.heap.size < w1.heap.size := by have := hb.size; simp at this; omega
        clear hb
        have c0 := B1.out.at0
        have c1 := B1.out.at1
        go_wp2_with fail
        refine (HDt.out _ _ (H.out.below B1.out.below (Nat.le_refl _)) (H.out.below B1.out.below (Nat.le_refl _)) (HSW.out.next B1.out.below)).mono ?_
        rintro e w2 ⟨rfl, hb⟩
        have B2 := Lib.hid (B1.out.next hs1 hb)
        clear hb c0 c1
        go_wp2_with fail
        go_ret
        exact ⟨rfl, B2.out.below⟩
      | false =>
        have HDf := Lib.hid (show ∀ u w, Rd w (.slice a L cap) (toI ns) → Rd w u (toI (List.range (2 ^ m))) → SW w → Calls Tryd.prog 59 #[.agg #[.int .i64 (m : Int), .slice a L cap], u] w fun e w' => e = .returned (.int .i64 (gd m (gsL m ns false) ns)) ∧ Below w.heap.size w w' from HD.out)
        generalize gd m (gsL m ns false) ns = E at *
        generalize List.range (2 ^ m) = AL at *
        clear HD
        go_enter Tryd.func12, Tryd.ntmps12
        go_wp2_with fail
        refine (HV.out _ (H.out.below (by go_grown) (Nat.le_refl _))).mono ?_
        rintro e w1 ⟨rfl, hb⟩
        have B1 := Lib.hid ((Box.made (m : Int) (.slice a L cap) w _).next (by simp) hb)
        have hs1 : w.heap.size < w1.heap.size := by have := hb.size; simp at this; omega
        clear hb
        have c0 := B1.out.at0
        have c1 := B1.out.at1
        go_wp2_with fail
        refine (HC.out _ _ (show Rd w1 (.slice none 0 0) [] from ⟨none, 0, 0, 0, rfl, fun h => by simp at h, by simp, fun j hj => by simp at hj⟩)).mono ?_
        rintro e w2 ⟨a2, c2, rfl, hin2, hb⟩
        have B2 := Lib.hid (B1.out.next hs1 hb)
        have hs2 : w.heap.size < w2.heap.size := Nat.lt_of_lt_of_le hs1 hb.size
        have R2 := Lib.hid hin2.rd
        clear hb hin2 c0 c1
        generalize (toI AL).length = q at *
        have c0 := B2.out.at0
        have c1 := B2.out.at1
        go_wp2_with fail
        refine (HDf.out _ _ (H.out.below B2.out.below (Nat.le_refl _)) R2.out (HSW.out.next B2.out.below)).mono ?_
        rintro e w3 ⟨rfl, hb⟩
        have B3 := Lib.hid (B2.out.next hs2 hb)
        clear hb c0 c1
        go_wp2_with fail
        go_ret
        exact ⟨rfl, B3.out.below⟩
    · rw [Bool.not_eq_true] at hk
      have HE := Lib.hid (eqdB_bad (b := b) hk)
      rw [HE.out]
      have hd : (zs.length : Int) = 0 ∨ (7 : Int) < (zs.length : Int) := by
        simp only [eqdK, hv, Bool.true_and, Bool.and_eq_false_iff, decide_eq_false_iff_not] at hk
        omega
      clear hk hv HE h'
      generalize zs.length = L at *
      by_cases h0 : (L : Int) = 0
      · obtain rfl : L = 0 := by omega
        clear hd h0
        go_enter Tryd.func12, Tryd.ntmps12
        go_wp2_with fail
        refine (HV.out _ (H.out.below (by go_grown) (Nat.le_refl _))).mono ?_
        rintro e w1 ⟨rfl, hb⟩
        have B1 := Lib.hid ((Box.made n (.slice a 0 cap) w _).next (by simp) hb)
        clear hb
        have c0 := B1.out.at0
        have c1 := B1.out.at1
        go_wp2_with fail
        go_ret
        exact ⟨rfl, B1.out.below⟩
      · have h7 : (7 : Int) < (L : Int) := by omega
        have hd1 : ((L : Int) == 0) = false := by rw [beq_eq_false_iff_ne]; omega
        have hd2 : decide ((7 : Int) < (L : Int)) = true := decide_eq_true h7
        clear hd
        go_enter Tryd.func12, Tryd.ntmps12
        go_wp2_with fail
        refine (HV.out _ (H.out.below (by go_grown) (Nat.le_refl _))).mono ?_
        rintro e w1 ⟨rfl, hb⟩
        have B1 := Lib.hid ((Box.made n (.slice a L cap) w _).next (by simp) hb)
        clear hb
        have c0 := B1.out.at0
        have c1 := B1.out.at1
        go_wp2_with fail
        go_ret
        exact ⟨rfl, B1.out.below⟩
  · rw [Bool.not_eq_true] at hv
    rw [hv] at HV
    have HE := Lib.hid (eqdB_bad (b := b) (show eqdK n zs = false by rw [eqdK, hv]; rfl))
    rw [HE.out]
    clear hv HE h'
    go_enter Tryd.func12, Tryd.ntmps12
    go_wp2_with fail
    refine (HV.out _ (H.out.below (by go_grown) (Nat.le_refl _))).mono ?_
    rintro e w1 ⟨rfl, hb⟩
    have B1 := Lib.hid ((Box.made n (.slice a zs.length cap) w _).next (by simp) hb)
    clear hb
    have c0 := B1.out.at0
    have c1 := B1.out.at1
    go_wp2_with fail
    go_ret
    exact ⟨rfl, B1.out.below⟩

end Go.Proofs.YthmipnflbiclbaaDoor
