/- TeachingDimension and EasiestTeaching, the program's and the model's. Conditions: Sets is a slice of ints; the table setsWith is laid. -/
import Derived.Test.YtnmilfkocheaiaaGreatDoorZX
namespace Go.Proofs.YtnmilfkocheaiaaGreatDoor
open Go.RowKit

theorem tnsL_nat (n : Int) (zs : List Int) : natural (tnsL n zs) := fun k hk => by
  have hm : (tnsL n zs).getD k 0 ∈ tnsL n zs := by
    rw [List.getD_eq_getElem?_getD, List.getElem?_eq_getElem hk]
    exact List.getElem_mem hk
  unfold tnsL at hm ⊢
  split at hm
  · rename_i hv
    rw [if_pos hv]
    obtain ⟨u, _, e⟩ := List.mem_map.1 hm
    rw [← e]
    exact Int.natCast_nonneg _
  · simp at hm
/-- TeachingDimension's and EasiestTeaching's answers -/
def tdB (n : Int) (zs : List Int) : Int := gTo (tnsL n zs) (tnsL n zs).length
def etB (n : Int) (zs : List Int) : Int := sTo (tnsL n zs) (tnsL n zs).length

set_option maxRecDepth 100000 in
set_option maxHeartbeats 1600000 in
theorem implTeachingDimension (n : Int) (v : Value) (zs : List Int) (w : World) (h : Rd w v zs) (hsw : SW w) :
    Calls Tryz.prog 72 #[.agg #[.int .i64 n, v]] w fun e w' => e = .returned (.int .i64 (tdB n zs)) ∧ Below w.heap.size w w' := by
  have H := Lib.hid h
  have HSW := Lib.hid hsw
  clear hsw
  have HT := Lib.hid (fun w0 h0 hs0 => implTeachingNumbers n v zs w0 h0 hs0)
  have HN := Lib.hid (tnsL_nat n zs)
  have HD := Lib.hid (show tdB n zs = gTo (tnsL n zs) (tnsL n zs).length from rfl)
  have hln := tnsL_len n zs
  rw [HD.out]
  obtain ⟨a, b, off, cap, rfl, _, h3, _⟩ := h
  generalize tnsL n zs = L at *
  by_cases hL : L.length = 0
  · have HE := Lib.hid (show gTo L L.length = -1 by rw [hL]; rfl)
    rw [HE.out]
    go_enter Tryz.func72, Tryz.ntmps72
    go_wp2_with fail
    refine (HT.out _ (H.out.below (by go_grown) (Nat.le_refl _)) (HSW.out.next (by go_grown))).mono ?_
    rintro e w1 ⟨a1, c1, rfl, hin, hb⟩
    have B1 := Lib.hid ((Box.made n (.slice a zs.length cap) w _).next (by simp) hb)
    clear hb hin
    rw [hL]
    go_wp2_with fail
    go_ret
    exact ⟨rfl, B1.out.below⟩
  · have hd1 : ((L.length : Int) == 0) = false := by simpa using (show ¬ (L.length : Int) = 0 by omega)
    go_enter Tryz.func72, Tryz.ntmps72
    go_wp2_with fail
    refine (HT.out _ (H.out.below (by go_grown) (Nat.le_refl _)) (HSW.out.next (by go_grown))).mono ?_
    rintro e w1 ⟨a1, c1, rfl, hin, hb⟩
    have B1 := Lib.hid ((Box.made n (.slice a zs.length cap) w _).next (by simp) hb)
    have HM := Lib.hid (slicesMax _ L w1 hin.rd HN.out (by omega))
    clear hb hin
    go_wp2_with fail
    refine HM.out.mono ?_
    rintro e w2 ⟨rfl, rfl⟩
    go_wp2_with fail
    go_ret
    exact ⟨rfl, B1.out.below⟩




end Go.Proofs.YtnmilfkocheaiaaGreatDoor
