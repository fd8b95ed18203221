/- FnExactOutdegreeOf's walk: the law answers true. Conditions: what its argument's slice holds. -/
import Derived.Deep.RegionWith
import Derived.Test.YtpkilacappjkhaaOutE
namespace Go.Proofs.Ytpkilacappjkhaa
open Go.RowKit

set_option maxHeartbeats 6400000 in
set_option maxRecDepth 100000 in
theorem walkExactOutdegreeOf (n : Int) (v : Value) (xs : List Int) (w : World) (h : Rd w v xs) :
    Calls Try.prog 4 #[.agg #[.int .i64 n, v]] w fun e w' => e = .returned (.bool true) ∧ Below w.heap.size w w' := by
  have H := Lib.hid h
  obtain ⟨a, g, off, cap, rfl, h1, h3, h5⟩ := h
  clear h1 h5
  by_cases hsz : xs.length ≤ 1048576
  · have HL := Lib.hid (show left' 1048576 xs.length = 1048576 - xs.length by rw [left', if_neg (by omega)])
    obtain ⟨R, hS, hI⟩ := outBoth2 n xs 
    have HS := Lib.hid hS
    have HI := Lib.hid hI
    clear hS hI
    go_enter Try.func4, Try.ntmps4
    go_wp2_with fail
    refine (szClass _ _ _ _ _ _ (by omega) (by omega) h3).mono ?_
    rintro e w1 ⟨rfl, hb⟩
    rw [HL.out]
    have B1 := Lib.hid ((Box.made n (.slice a xs.length cap) w _).next (by simp) hb)
    have hs1 : w.heap.size < w1.heap.size := by have := hb.size; simp at this; omega
    clear hb
    have c0 := B1.out.at0
    have c1 := B1.out.at1
    go_wp2_with fail
    refine (toClass n _ xs _ (H.out.below B1.out.below (Nat.le_refl _)) hsz).mono ?_
    rintro e w2 ⟨a2, cap2, rfl, hin2, hb2⟩
    clear c0 c1
    have B2 := Lib.hid (B1.out.next hs1 hb2)
    have hs2 : w.heap.size < w2.heap.size := by have := hb2.size; omega
    have I2 := Lib.hid hin2
    clear hb2 hin2 B1
    go_wp2_with fail
    refine (HS.out _ _ I2.out.rd).mono ?_
    rintro e w3 ⟨rfl, hb3⟩
    have B3 := Lib.hid (B2.out.next hs2 hb3)
    have hs3 : w.heap.size < w3.heap.size := by have := hb3.size; omega
    clear hb3 B2 I2
    have c0 := B3.out.at0
    have c1 := B3.out.at1
    go_wp2_with fail
    refine (toClass n _ xs _ (H.out.below B3.out.below (Nat.le_refl _)) hsz).mono ?_
    rintro e w4 ⟨a4, cap4, rfl, hin4, hb4⟩
    clear c0 c1
    have B4 := Lib.hid (B3.out.next hs3 hb4)
    have hs4 : w.heap.size < w4.heap.size := by have := hb4.size; omega
    have I4 := Lib.hid hin4
    clear hb4 hin4 B3
    go_wp2_with fail
    refine (HI.out _ _ (I4.out.rd.below (k := w4.heap.size) (by go_grown) (Nat.le_refl _))).mono ?_
    rintro e w5 ⟨rfl, hb5⟩
    have X5 := Lib.hid ((Box.made n (.slice a4 xs.length cap4) w4 _).next (by simp) hb5)
    have B5 := Lib.hid (B4.out.next hs4 X5.out.below)
    have R5 := Lib.hid (I4.out.rd.below X5.out.below (Nat.le_refl _))
    have hs5 : w4.heap.size < w5.heap.size := by have := hb5.size; simp at this; omega
    clear hb5 B4 I4
    have c0 := B5.out.at0
    have c1 := B5.out.at1
    have x0 := X5.out.at0
    have x1 := X5.out.at1
    have hs6 : w.heap.size < w5.heap.size := by omega
    generalize w4.heap.size = k4 at *
    go_wp2_with fail
    go_region_with (first
      | (go_at_call 12; refine (toClass n _ xs _ (by exact Rd.below H.out (by first | exact B5.out.below | exact B5.out.below.drew) (Nat.le_refl _)) hsz).mono ?_; rintro e w6 ⟨a6, cap6, rfl, hin6, hb6⟩; have hb56 : Below w5.heap.size w5 w6 := Below.trans (by first | exact Below.refl _ _ | exact (Below.refl _ _).drew) hb6; have I6 := Lib.hid hin6; clear hin6 hb6; obtain ⟨hc6, hf6⟩ := bcell hb56)
      | (go_at_call 13; refine (eqClass n n _ _ xs xs _ (by exact R5.out.below (by assumption) (Nat.le_refl _)) (by exact I6.out.rd)).mono ?_; rintro e w7 ⟨rfl, hb7⟩; rw [show (decide (n = n) && eqB xs xs) = true by simp [eqB]]))
    all_goals
      go_wp2_with fail
      go_ret
      exact ⟨rfl, (B5.out.below.trans (hb56.mono (by omega))).trans (hb7.mono (by have := hb56.size; simp; omega))⟩
  · have HL := Lib.hid (show left' 1048576 xs.length = -1 by rw [left', if_pos (by omega)])
    go_enter Try.func4, Try.ntmps4
    go_wp2_with fail
    refine (szClass _ _ _ _ _ _ (by omega) (by omega) h3).mono ?_
    rintro e w1 ⟨rfl, hb⟩
    rw [HL.out]
    have Hb := Lib.hid hb
    clear hb
    go_wp2_with fail
    go_ret
    exact ⟨rfl, Below.trans (by go_grown) (Hb.out.mono (by simp))⟩

end Go.Proofs.Ytpkilacappjkhaa
