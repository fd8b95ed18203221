/- MajorityOf, the program's and the model's. Conditions: Sets is a slice of ints; the table setsWith is laid. -/
import Derived.Test.YthjbkjkfibiceaaDoorGuessH
import Derived.Test.YthjbkjkfibiceaaDoorFamOf
import Derived.Test.YthjbkjkfibiceaaDoorKeep
import Derived.Test.YthjbkjkfibiceaaDoorZH
namespace Go.Proofs.YthjbkjkfibiceaaDoor
open Go.RowKit

def majB (n : Int) (zs : List Int) (x : Int) : Bool := ptB n zs x && gHal (zs.map Int.toNat) x.toNat

set_option maxHeartbeats 1600000 in
set_option maxRecDepth 100000 in
theorem implMajorityOf (n : Int) (v : Value) (zs : List Int) (x : Int) (w : World) (h : Rd w v zs) (hsw : SW w) :
    Calls Tryd.prog 30 #[.agg #[.int .i64 n, v], .int .i64 x] w fun e w' => e = .returned (.bool (majB n zs x)) ∧ Below w.heap.size w w' := by
  have H := Lib.hid h
  have HSW := Lib.hid hsw
  obtain ⟨a, b, off, cap, rfl, _, _, _⟩ := h
  clear hsw
  by_cases hp : ptB n zs x = true
  · have HP := Lib.hid hp
    obtain ⟨m, y, ns, rfl, rfl, rfl, hc, hy, hm, hv⟩ := ptB_nat hp
    have HC := Lib.hid hc
    have HG := Lib.hid (fun w h => implGuessHal ns y (by omega) hc.lt32 hc.nodup w h)
    have HT := Lib.hid (show majB m (toI ns) y = gHal ns y by rw [majB, hp, toNat_toI]; simp)
    generalize gHal ns y = G at *
    have hfd : ∀ w : World, (Instr.field 47 (.agg #[.int .i64 (y : Int), .bool G]) 1).run Tryd.prog w = .ok (.bool G) w := fun _ => by kernel_rfl
    clear hc hp hv
    go_enter Tryd.func30, Tryd.ntmps30
    go_wp2_with fail
    refine (implIsPointOf m _ (toI ns) y _ (H.out.below (k := w.heap.size) (by go_grown) (Nat.le_refl _))).mono ?_
    rintro e w1 ⟨rfl, hb⟩
    rw [HP.out]
    have hs1 : w.heap.size < w1.heap.size := by have := hb.size; simp at this; omega
    have B1 := Lib.hid ((Box.made m (.slice a (toI ns).length cap) w _).next (by simp) hb)
    clear hb
    have R1 := Lib.hid (H.out.below B1.out.below (Nat.le_refl _))
    have c0 := B1.out.at0
    have c1 := B1.out.at1
    go_wp2_with fail
    refine (implFamilyOf m _ ns HC.out.lt32 _ (by first | exact R1.out | exact R1.out.below (k := w1.heap.size) (by go_grown) (Nat.le_refl _))).mono ?_
    rintro e w2 ⟨rfl, hb2⟩
    have B2 := Lib.hid (B1.out.next hs1 (Below.trans (by first | exact Below.refl _ _ | go_grown) (hb2.mono (by simp))))
    have hs2 : w1.heap.size ≤ w2.heap.size := by have := hb2.size; first | exact this | (simp at this; omega)
    clear hb2 c0 c1
    go_wp2_with fail
    refine (HG.out _ (HSW.out.next B2.out.below)).mono ?_
    rintro e w3 ⟨rfl, hb3⟩
    have B3 := Lib.hid (B2.out.next (by omega) hb3)
    clear hb3
    go_wp2_with fail
    go_ret
    exact ⟨ret_bool HT.out.symm, B3.out.below⟩
  · rw [Bool.not_eq_true] at hp
    have HT := Lib.hid (show majB n zs x = false by rw [majB, hp]; rfl)
    have HP := Lib.hid hp
    clear hp
    go_enter Tryd.func30, Tryd.ntmps30
    go_wp2_with fail
    refine (implIsPointOf n _ zs x _ (H.out.below (k := w.heap.size) (by go_grown) (Nat.le_refl _))).mono ?_
    rintro e w1 ⟨rfl, hb⟩
    rw [HP.out]
    have B1 := Lib.hid ((Box.made n (.slice a zs.length cap) w _).next (by simp) hb)
    clear hb
    go_wp2_with fail
    go_ret
    exact ⟨ret_bool HT.out.symm, B1.out.below⟩

end Go.Proofs.YthjbkjkfibiceaaDoor
