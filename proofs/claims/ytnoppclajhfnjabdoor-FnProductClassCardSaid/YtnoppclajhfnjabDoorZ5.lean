/- LittlestoneOf, the program's and the model's. Conditions: Sets is a slice of ints; the table setsWith is laid. TeachingDimension and EasiestTeaching, the program's and the model's. Conditions: Sets is a slice of ints; the table setsWith is laid. Equal classes are found equal: equalClass of the laws. Conditions: both classes have the same number of points and slices that hold the same numbers. -/
import Derived.Test.YtnoppclajhfnjabDoorLittleS
import Derived.Test.YtnoppclajhfnjabDoorZH
import Derived.Test.YtnoppclajhfnjabDoorZJ
import Derived.Test.YtnoppclajhfnjabDoorZX
namespace Go.Proofs.YtnoppclajhfnjabDoor
open Go.RowKit

def litB (n : Int) (zs : List Int) : Int := if vldB n zs = true then mst (zs.map Int.toNat) else -1

set_option maxHeartbeats 1600000 in
set_option maxRecDepth 100000 in
theorem implLittlestoneOf (n : Int) (v : Value) (zs : List Int) (w : World) (h : Rd w v zs) (hsw : SW w) :
    Calls Tryd.prog 47 #[.agg #[.int .i64 n, v]] w fun e w' => e = .returned (.int .i64 (litB n zs)) ∧ Below w.heap.size w w' := by
  have H := Lib.hid h
  have HSW := Lib.hid hsw
  clear hsw
  obtain ⟨a, b, off, cap, rfl, h1, h3, h5⟩ := h
  have B0 := Lib.hid (Box.made n (.slice a zs.length cap) w 25)
  by_cases hv : vldB n zs = true
  · obtain ⟨m, ns, rfl, rfl, hc⟩ := vldB_cls hv
    have hm := hc.pts
    have HV := Lib.hid hv
    have HT := Lib.hid (show litB m (toI ns) = mst ns by rw [litB, if_pos hv, toNat_toI])
    have HC := Lib.hid hc
    have hl := hc.length
    rw [toI_length] at h1 h3 h5 H B0 ⊢
    clear hv hc h1 h5
    go_enter Tryd.func47, Tryd.ntmps47
    go_wp2_with fail
    refine (implValid m _ (toI ns) _ (H.out.below (k := w.heap.size) (by go_grown) (Nat.le_refl _))).mono ?_
    rintro e w1 ⟨rfl, hb⟩
    rw [HV.out]
    have hs1 : w.heap.size < w1.heap.size := by have := hb.size; simp at this; omega
    have B1 := Lib.hid (B0.out.next (by simp) hb)
    clear hb
    have R1 := Lib.hid (H.out.below B1.out.below (Nat.le_refl _))
    have c0 := B1.out.at0
    have c1 := B1.out.at1
    go_wp2_with fail
    have SW1 := Lib.hid (HSW.out.next B1.out.below)
    refine (implFamilyOf m _ ns HC.out.lt32 _ R1.out).mono ?_
    rintro e w2 ⟨rfl, hb2⟩
    have B2 := Lib.hid (B1.out.next hs1 hb2)
    have SW2 := Lib.hid (SW1.out.next hb2)
    have hz2 := hb2.size
    clear hb2 c0 c1
    go_wp2_with fail
    refine (implMistakeDepth ns HC.out.lt32 hl _ SW2.out).mono ?_
    rintro e w3 ⟨rfl, hb3⟩
    have B3 := Lib.hid (B2.out.next (by omega) hb3)
    clear hb3
    go_wp2_with fail
    go_ret
    exact ⟨ret_int HT.out.symm, B3.out.below⟩
  · have HT := Lib.hid (show litB n zs = -1 by rw [litB, if_neg hv])
    rw [Bool.not_eq_true] at hv
    have HV := Lib.hid hv
    clear hv
    go_enter Tryd.func47, Tryd.ntmps47
    go_wp2_with fail
    refine (implValid n _ zs _ (H.out.below (k := w.heap.size) (by go_grown) (Nat.le_refl _))).mono ?_
    rintro e w1 ⟨rfl, hb⟩
    rw [HV.out]
    have B1 := Lib.hid (B0.out.next (by simp) hb)
    clear hb
    go_wp2_with fail
    go_ret
    exact ⟨ret_int HT.out.symm, B1.out.below⟩


end Go.Proofs.YtnoppclajhfnjabDoor

namespace Go.Proofs.YtnoppclajhfnjabDoor
open Go.RowKit

theorem tnsL_nat (n : Int) (zs : List Int) : natural (tnsL n zs) := fun k hk => by
  have hm : (tnsL n zs).getD k 0 ∈ tnsL n zs := by
    rw [List.getD_eq_getElem?_getD, List.getElem?_eq_getElem hk]
    exact List.getElem_mem hk
  unfold tnsL at hm ⊢
  split at hm
  · rename_i hv
    rw [if_pos hv]
    obtain ⟨u, _, e⟩ := List.mem_map.1 hm
    rw [← e]
    exact Int.natCast_nonneg _
  · simp at hm
/-- TeachingDimension's and EasiestTeaching's answers -/
def tdB (n : Int) (zs : List Int) : Int := gTo (tnsL n zs) (tnsL n zs).length
def etB (n : Int) (zs : List Int) : Int := sTo (tnsL n zs) (tnsL n zs).length

set_option maxRecDepth 100000 in
set_option maxHeartbeats 1600000 in
theorem implTeachingDimension (n : Int) (v : Value) (zs : List Int) (w : World) (h : Rd w v zs) (hsw : SW w) :
    Calls Tryd.prog 53 #[.agg #[.int .i64 n, v]] w fun e w' => e = .returned (.int .i64 (tdB n zs)) ∧ Below w.heap.size w w' := by
  have H := Lib.hid h
  have HSW := Lib.hid hsw
  clear hsw
  have HT := Lib.hid (fun w0 h0 hs0 => implTeachingNumbers n v zs w0 h0 hs0)
  have HN := Lib.hid (tnsL_nat n zs)
  have HD := Lib.hid (show tdB n zs = gTo (tnsL n zs) (tnsL n zs).length from rfl)
  have hln := tnsL_len n zs
  rw [HD.out]
  obtain ⟨a, b, off, cap, rfl, _, h3, _⟩ := h
  generalize tnsL n zs = L at *
  by_cases hL : L.length = 0
  · have HE := Lib.hid (show gTo L L.length = -1 by rw [hL]; rfl)
    rw [HE.out]
    go_enter Tryd.func53, Tryd.ntmps53
    go_wp2_with fail
    refine (HT.out _ (H.out.below (by go_grown) (Nat.le_refl _)) (HSW.out.next (by go_grown))).mono ?_
    rintro e w1 ⟨a1, c1, rfl, hin, hb⟩
    have B1 := Lib.hid ((Box.made n (.slice a zs.length cap) w _).next (by simp) hb)
    clear hb hin
    rw [hL]
    go_wp2_with fail
    go_ret
    exact ⟨rfl, B1.out.below⟩
  · have hd1 : ((L.length : Int) == 0) = false := by simpa using (show ¬ (L.length : Int) = 0 by omega)
    go_enter Tryd.func53, Tryd.ntmps53
    go_wp2_with fail
    refine (HT.out _ (H.out.below (by go_grown) (Nat.le_refl _)) (HSW.out.next (by go_grown))).mono ?_
    rintro e w1 ⟨a1, c1, rfl, hin, hb⟩
    have B1 := Lib.hid ((Box.made n (.slice a zs.length cap) w _).next (by simp) hb)
    have HM := Lib.hid (slicesMax _ L w1 hin.rd HN.out (by omega))
    clear hb hin
    go_wp2_with fail
    refine HM.out.mono ?_
    rintro e w2 ⟨rfl, rfl⟩
    go_wp2_with fail
    go_ret
    exact ⟨rfl, B1.out.below⟩


set_option maxRecDepth 100000 in
set_option maxHeartbeats 1600000 in
theorem implEasiestTeaching (n : Int) (v : Value) (zs : List Int) (w : World) (h : Rd w v zs) (hsw : SW w) :
    Calls Tryd.prog 19 #[.agg #[.int .i64 n, v]] w fun e w' => e = .returned (.int .i64 (etB n zs)) ∧ Below w.heap.size w w' := by
  have H := Lib.hid h
  have HSW := Lib.hid hsw
  clear hsw
  have HT := Lib.hid (fun w0 h0 hs0 => implTeachingNumbers n v zs w0 h0 hs0)
  have HN := Lib.hid (tnsL_nat n zs)
  have HD := Lib.hid (show etB n zs = sTo (tnsL n zs) (tnsL n zs).length from rfl)
  have hln := tnsL_len n zs
  rw [HD.out]
  obtain ⟨a, b, off, cap, rfl, _, h3, _⟩ := h
  generalize tnsL n zs = L at *
  by_cases hL : L.length = 0
  · have HE := Lib.hid (show sTo L L.length = -1 by rw [hL]; rfl)
    rw [HE.out]
    go_enter Tryd.func19, Tryd.ntmps19
    go_wp2_with fail
    refine (HT.out _ (H.out.below (by go_grown) (Nat.le_refl _)) (HSW.out.next (by go_grown))).mono ?_
    rintro e w1 ⟨a1, c1, rfl, hin, hb⟩
    have B1 := Lib.hid ((Box.made n (.slice a zs.length cap) w _).next (by simp) hb)
    clear hb hin
    rw [hL]
    go_wp2_with fail
    go_ret
    exact ⟨rfl, B1.out.below⟩
  · have hd1 : ((L.length : Int) == 0) = false := by simpa using (show ¬ (L.length : Int) = 0 by omega)
    go_enter Tryd.func19, Tryd.ntmps19
    go_wp2_with fail
    refine (HT.out _ (H.out.below (by go_grown) (Nat.le_refl _)) (HSW.out.next (by go_grown))).mono ?_
    rintro e w1 ⟨a1, c1, rfl, hin, hb⟩
    have B1 := Lib.hid ((Box.made n (.slice a zs.length cap) w _).next (by simp) hb)
    have HM := Lib.hid (slicesMin _ L w1 hin.rd HN.out (by omega))
    clear hb hin
    go_wp2_with fail
    refine HM.out.mono ?_
    rintro e w2 ⟨rfl, rfl⟩
    go_wp2_with fail
    go_ret
    exact ⟨rfl, B1.out.below⟩


end Go.Proofs.YtnoppclajhfnjabDoor

namespace Go.Proofs.YtnoppclajhfnjabDoor
open Go.RowKit

theorem eqB_same (xs : List Int) : eqB xs xs = true := eqB_of rfl (fun _ _ => rfl)

set_option maxHeartbeats 1600000 in
set_option maxRecDepth 100000 in
theorem lawsEqualClass (n : Int) (a b : Option Addr) (l ca cb : Nat) (zs : List Int) (w : World) (ha : Rd w (.slice a l ca) zs) (hb : Rd w (.slice b l cb) zs) :
    Calls Tryd.prog 51 #[.agg #[.int .i64 n, .slice a l ca], .agg #[.int .i64 n, .slice b l cb]] w fun e w' => e = .returned (.bool true) ∧ Below w.heap.size w w' := by
  have HX := Lib.hid ((Bx.new n (.slice a l ca) w).alloc (Obj.cells #[.int .i64 n, .slice b l cb] 25))
  have HY := Lib.hid (Bx.new n (.slice b l cb) (w.alloc (Obj.cells #[.int .i64 n, .slice a l ca] 25)))
  have HB := Lib.hid (show Below w.heap.size w ((w.alloc (Obj.cells #[.int .i64 n, .slice a l ca] 25)).alloc (Obj.cells #[.int .i64 n, .slice b l cb] 25)) from ((Below.refl _ _).alloc (Nat.le_refl _) _).alloc (by simp) _)
  have HZ := Lib.hid (show (w.alloc (Obj.cells #[.int .i64 n, .slice a l ca] 25)).heap.size = w.heap.size + 1 by simp)
  have HQ := Lib.hid (lawsEqualInts _ _ zs zs _ (ha.below HB.out (Nat.le_refl _)) (hb.below HB.out (Nat.le_refl _)))
  rw [eqB_same] at HQ
  clear ha hb
  go_enter Tryd.func51, Tryd.ntmps51
  go_wp2_with fail
  rw [HZ.out] at HY
  have x0 := HX.out.out.at0
  have x1 := HX.out.out.at1
  have y0 := HY.out.out.at0
  have y1 := HY.out.out.at1
  generalize ((w.alloc (Obj.cells #[.int .i64 n, .slice a l ca] 25)).alloc (Obj.cells #[.int .i64 n, .slice b l cb] 25)) = w2 at *
  go_wp2_with fail
  refine HQ.out.mono ?_
  rintro e w3 ⟨rfl, d, rfl⟩
  go_wp2_with fail
  go_ret
  exact ⟨rfl, below_drewN HB.out d⟩

end Go.Proofs.YtnoppclajhfnjabDoor
