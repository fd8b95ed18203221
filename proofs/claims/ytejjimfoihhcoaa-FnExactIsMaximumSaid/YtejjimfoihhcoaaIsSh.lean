/- IsShattered, the program's and the model's. Conditions: Sets is a slice of ints. -/
import Derived.Test.YtejjimfoihhcoaaEqM
import Derived.Test.YtejjimfoihhcoaaTraceS
namespace Go.Proofs.Ytejjimfoihhcoaa
open Go.RowKit

set_option maxHeartbeats 800000 in
set_option maxRecDepth 100000 in
theorem implIsShattered (n : Int) (v : Value) (zs : List Int) (s : Int) (w : World) (h : Rd w v zs) :
    Calls Try.prog 76 #[.agg #[.int .i64 n, v], .int .i64 s] w fun e w' => e = .returned (.bool (shatB n zs s)) ∧ Below w.heap.size w w' := by
  have H := Lib.hid h
  obtain ⟨a, b, off, cap, rfl, _, _, _⟩ := h
  by_cases hv : inB n zs s = true
  · have hv0 : vldB n zs = true := by simp [inB] at hv; exact hv.1
    obtain ⟨m, ns, rfl, rfl, hc⟩ := vldB_cls hv0
    have hm := hc.pts
    have hs : setB m s = true := by simp [inB] at hv; exact hv.2
    obtain ⟨t, rfl, ht, ht32⟩ := setB_nat hm hs
    have HC := Lib.hid hc
    have HT := Lib.hid (shatB_in hv0 hs)
    have HM := Lib.hid (sht_marks ns t ht32)
    have HV := Lib.hid hv
    clear hs hv hv0 hc
    go_enter Try.func76, Try.ntmps76
    go_wp2_with fail
    refine (implIsSetOf m _ (toI ns) t _ (H.out.below (k := w.heap.size) (by go_grown) (Nat.le_refl _))).mono ?_
    rintro e w1 ⟨rfl, hb⟩
    rw [HV.out]
    have B1 := Lib.hid ((Box.made m (.slice a (toI ns).length cap) w _).next (by simp) hb)
    have hs1 : w.heap.size < w1.heap.size := by have := hb.size; simp at this; omega
    clear hb
    have c0 := B1.out.at0
    have c1 := B1.out.at1
    go_wp2_with fail
    refine (implTraceMarks m _ ns t _ (H.out.below B1.out.below (Nat.le_refl _)) ht32 HC.out.lt32).mono ?_
    rintro e w2 ⟨rfl, hb2⟩
    clear c0 c1
    have B2 := Lib.hid (B1.out.next hs1 hb2)
    have hs2 : w.heap.size < w2.heap.size := Nat.lt_of_lt_of_le hs1 hb2.size
    clear hb2 B1
    go_wp2_with fail
    refine (implPartMarks t _ ht32).mono ?_
    rintro e w3 ⟨rfl, hb3⟩
    have B3 := Lib.hid (B2.out.next hs2 hb3)
    clear hb3 B2
    go_wp2_with ((with_reducible show wpList _ _ _ (Oper.mk _ (Op.binOp BinOp.eql 75 _ _ _) _ _ _ _ :: _) _ _); refine wpList_eqlM (.tmp 11) (.tmp 13) rfl rfl _ _ rfl rfl ?_; rw [HM.out])
    go_ret
    exact ⟨ret_bool (by rw [HT.out]), B3.out.below⟩
  · rw [Bool.not_eq_true] at hv
    have HT := Lib.hid (show shatB n zs s = false by
      simp only [inB] at hv
      simp only [shatB, hv, Bool.false_and])
    have HV := Lib.hid hv
    clear hv
    go_enter Try.func76, Try.ntmps76
    go_wp2_with fail
    refine (implIsSetOf n _ zs s _ (H.out.below (k := w.heap.size) (by go_grown) (Nat.le_refl _))).mono ?_
    rintro e w1 ⟨rfl, hb⟩
    rw [HV.out]
    have B1 := Lib.hid ((Box.made n (.slice a zs.length cap) w _).next (by simp) hb)
    clear hb
    go_wp2_with fail
    go_ret
    exact ⟨ret_bool HT.out.symm, B1.out.below⟩

theorem pow_pc_cast (s : Nat) : ((2 ^ pc s : Nat) : Int) = (2 : Int) ^ pc s := by simp

set_option maxHeartbeats 800000 in
theorem specShatters (v : Value) (ns : List Nat) (s : Nat) (w : World) (hm : ∀ m ∈ ns, m < 32) (hlen : ns.length ≤ 1048576) (hs : s < 32) (h : Rd w v (toI ns)) :
    Calls Try.prog 69 #[v, .int .i64 s] w fun e w' => e = .returned (.bool (sht ns s)) ∧ Below w.heap.size w w' := by
  have hp5 := pc_le5 s
  have HP := Lib.hid (pow_pc_cast s)
  have HT := Lib.hid (show sht ns s = decide ((toI (tr ns s)).length = 2 ^ pc s) by rw [toI_length]; rfl)
  go_enter Try.func69, Try.ntmps69
  go_wp2_with fail
  refine (specTrace _ ns s _ hm hlen hs h).mono ?_
  rintro e w1 ⟨a1, c1, rfl, hin1, hb1⟩
  have HB1 := Lib.hid hb1
  clear hin1 hb1
  generalize (toI (tr ns s)).length = l at *
  go_wp2_with fail
  refine (specSize s hs _).mono ?_
  rintro e w' ⟨rfl, rfl⟩
  generalize pc s = q at *
  go_wp2_with fail
  refine (specPower _ _ (by omega) (by omega)).mono ?_
  rintro e w' ⟨rfl, rfl⟩
  rw [Int.toNat_natCast, ← HP.out]
  clear HP
  generalize (2 ^ q : Nat) = Q at *
  go_wp2_with fail
  go_ret
  refine ⟨ret_bool ?_, HB1.out⟩
  rw [HT.out, Bool.eq_iff_iff]
  simp
  omega


end Go.Proofs.Ytejjimfoihhcoaa
