/- FnExactIsRepresentation's walk: the law answers true. Conditions: what its arguments' slices hold. -/
import Derived.Deep.RegionWith
import Derived.Test.YtffmcibpboejnaaRepH
import Derived.Test.YtffmcibpboejnaaRepS
import Derived.Test.YtffmcibpboejnaaZD
namespace Go.Proofs.Ytffmcibpboejnaa
open Go.RowKit

set_option maxHeartbeats 12800000 in
set_option maxRecDepth 100000 in
theorem walkExactIsRepresentation (n : Int) (v : Value) (xs : List Int) (u : Value) (ps : List Int) (w : World) (h : Rd w v xs) (hu : Rd w u ps) :
    Calls Try.prog 6 #[.agg #[.int .i64 n, v], u] w fun e w' => e = .returned (.bool true) ∧ Below w.heap.size w w' := by
  have H := Lib.hid h
  have HU := Lib.hid hu
  obtain ⟨a, g, off, cap, rfl, h1, h3, h5⟩ := h
  obtain ⟨a9, g9, off9, cap9, rfl, _, _, _⟩ := hu
  clear h1 h5
  by_cases hps : ps.length ≤ 1048576
  · by_cases hsz : xs.length ≤ 1048576
    · have HL := Lib.hid (show left' 1048576 xs.length = 1048576 - xs.length by rw [left', if_neg (by omega)])
      have HS := Lib.hid (fun v u w h hu => specIsRepresentation n v u xs ps w h hu)
      have HI := Lib.hid (fun v u w h hu => implIsRepresentation n v u xs ps w h hu)
      generalize repB n xs ps = bb at *
      have hbb : (bb != bb) = false := by cases bb <;> rfl
      go_enter Try.func6, Try.ntmps6
      go_wp2_with fail
      refine (szClass _ _ _ _ _ _ (by omega) (by omega) h3).mono ?_
      rintro e w1 ⟨rfl, hb⟩
      rw [HL.out]
      have B1 := Lib.hid ((Box.made n (.slice a xs.length cap) w _).next (by simp) hb)
      have hs1 : w.heap.size < w1.heap.size := by have := hb.size; simp at this; omega
      clear hb
      have c0 := B1.out.at0
      have c1 := B1.out.at1
      go_wp2_with fail
      refine (toClass n _ xs _ (H.out.below B1.out.below (Nat.le_refl _)) hsz).mono ?_
      rintro e w2 ⟨a2, cap2, rfl, hin2, hb2⟩
      clear c0 c1
      have B2 := Lib.hid (B1.out.next hs1 hb2)
      have hs2 : w.heap.size < w2.heap.size := by have := hb2.size; omega
      have I2 := Lib.hid hin2.rd
      clear hb2 hin2 B1
      go_wp2_with fail
      refine (toIntS _ ps _ (HU.out.below B2.out.below (Nat.le_refl _)) hps).mono ?_
      rintro e w3 ⟨a3, cap3, rfl, hin3, hb3⟩
      have B3 := Lib.hid (B2.out.next hs2 hb3)
      have hs3 : w.heap.size < w3.heap.size := by have := hb3.size; omega
      have E3 := Lib.hid hin3.rd
      have I3 := Lib.hid (I2.out.below hb3 (Nat.le_refl _))
      clear hin3 hb3 B2 I2
      go_wp2_with fail
      refine (HS.out _ _ _ I3.out E3.out).mono ?_
      rintro e w4 ⟨rfl, hb4⟩
      have B4 := Lib.hid (B3.out.next hs3 hb4)
      have hs4 : w.heap.size < w4.heap.size := by have := hb4.size; omega
      clear hb4 B3 I3 E3
      have c0 := B4.out.at0
      have c1 := B4.out.at1
      go_wp2_with fail
      refine (toClass n _ xs _ (H.out.below B4.out.below (Nat.le_refl _)) hsz).mono ?_
      rintro e w5 ⟨a5, cap5, rfl, hin5, hb5⟩
      clear c0 c1
      have hs5 : w4.heap.size ≤ w5.heap.size := hb5.size
      have B5 := Lib.hid (B4.out.next (by omega) hb5)
      have I5 := Lib.hid hin5.rd
      have HB5 := Lib.hid (show Below w5.heap.size w5 (w5.alloc (Obj.cells #[.int .i64 n, .slice a5 xs.length cap5] 28)) from (Below.refl _ _).alloc (Nat.le_refl _) _)
      have O7 := Lib.hid (show Out n (.slice a5 xs.length cap5) w5.heap.size (w5.alloc (Obj.cells #[.int .i64 n, .slice a5 xs.length cap5] 28)) from ⟨by simp [go_sem], by simp [go_sem], by simp [go_sem], by simp [go_sem]⟩)
      have HZ5 := Lib.hid (show (w5.alloc (Obj.cells #[.int .i64 n, .slice a5 xs.length cap5] 28)).heap.size = w5.heap.size + 1 by simp)
      have B5b := Lib.hid (B5.out.next (by omega) HB5.out)
      have I5b := Lib.hid (I5.out.below HB5.out (Nat.le_refl _))
      clear hb5 hin5 B4 B5 I5
      go_wp2_with fail
      generalize (w5.alloc (Obj.cells #[.int .i64 n, .slice a5 xs.length cap5] 28)) = w5b at *
      have hz5 := HZ5.out
      refine (toIntS _ ps _ (HU.out.below B5b.out.below (Nat.le_refl _)) hps).mono ?_
      rintro e w6 ⟨a6, cap6, rfl, hin6, hb6⟩
      have hs6 : w5b.heap.size ≤ w6.heap.size := hb6.size
      have B6 := Lib.hid (B5b.out.next (by omega) hb6)
      have O76 := Lib.hid (O7.out.next hb6 (by omega))
      have I6 := Lib.hid (I5b.out.below hb6 (Nat.le_refl _))
      have E6 := Lib.hid hin6.rd
      clear hin6 hb6 B5b O7 I5b
      have c0 := O76.out.at0
      have c1 := O76.out.at1
      go_wp2_with fail
      refine (HI.out _ _ _ I6.out E6.out).mono ?_
      rintro e w8 ⟨rfl, hb7⟩
      clear c0 c1
      have hs7 : w6.heap.size ≤ w8.heap.size := hb7.size
      have B8 := Lib.hid (B6.out.next (by omega) hb7)
      have Q7 := Lib.hid (O76.out.next hb7 (by omega))
      have S4 := Lib.hid (I6.out.below hb7 (Nat.le_refl _))
      have SE := Lib.hid (E6.out.below hb7 (Nat.le_refl _))
      clear hb7 B6 O76 I6 E6
      have hw8 : w.heap.size < w8.heap.size := by omega
      have hw58 : w5.heap.size < w8.heap.size := by omega
      generalize w5.heap.size = k5 at *
      have c0 := B8.out.at0
      have c1 := B8.out.at1
      have x0 := Q7.out.at0
      have x1 := Q7.out.at1
      go_wp2_with fail
      go_region_with (first
        | (go_at_call 9; refine (toClass n _ xs _ (by exact Rd.below H.out (by first | exact B8.out.below | exact B8.out.below.drew) (Nat.le_refl _)) hsz).mono ?_; rintro e w9 ⟨a9', cap9', rfl, hin9, hb9⟩; have hb89 : Below w8.heap.size w8 w9 := Below.trans (by first | exact Below.refl _ _ | exact (Below.refl _ _).drew) hb9; have I9 := Lib.hid hin9; clear hin9 hb9; obtain ⟨hc9, hf9⟩ := bcell hb89)
        | (go_at_call 12; refine (eqClass n n _ _ xs xs _ (by exact S4.out.below (by assumption) (Nat.le_refl _)) (by exact I9.out.rd)).mono ?_; rintro e w10 ⟨rfl, hb10⟩; rw [show (decide (n = n) && eqB xs xs) = true by simp [eqB]]))
      all_goals
        have HB := Lib.hid (show Below w8.heap.size w8 w10 from hb89.trans (hb10.mono (by have := hb89.size; simp; omega)))
        have B9 := Lib.hid (B8.out.next hw8 HB.out)
        have TE := Lib.hid (SE.out.below HB.out (Nat.le_refl _))
        have hs10 := HB.out.size
        clear c0 c1 x0 x1 hb89 hb10 hc9 hf9 I9 S4 Q7
        go_wp2_with fail
        refine (toIntS _ ps _ (HU.out.below B9.out.below (Nat.le_refl _)) hps).mono ?_
        rintro e w11 ⟨a11, cap11, rfl, hin11, hb11⟩
        have E11 := Lib.hid hin11.rd
        have TE11 := Lib.hid (TE.out.below hb11 (Nat.le_refl _))
        have B11 := Lib.hid (B9.out.next (by omega) hb11)
        clear hin11 hb11
        go_wp2_with fail
        refine (eqIntS _ _ ps ps _ TE11.out E11.out).mono ?_
        rintro e w12 ⟨rfl, d12, hd12⟩
        rw [show eqB ps ps = true by simp [eqB]]
        have B12 := Lib.hid (show Below w.heap.size w w12 by rw [hd12]; exact below_drewN B11.out.below d12)
        clear hd12
        go_wp2_with fail
        go_ret
        exact ⟨rfl, B12.out⟩
    · have HL := Lib.hid (show left' 1048576 xs.length = -1 by rw [left', if_pos (by omega)])
      go_enter Try.func6, Try.ntmps6
      go_wp2_with fail
      refine (szClass _ _ _ _ _ _ (by omega) (by omega) h3).mono ?_
      rintro e w1 ⟨rfl, hb⟩
      rw [HL.out]
      have Hb := Lib.hid hb
      clear hb
      go_wp2_with fail
      go_ret
      exact ⟨rfl, Below.trans (by go_grown) (Hb.out.mono (by simp))⟩
  · go_enter Try.func6, Try.ntmps6
    go_wp2_with fail
    go_ret
    exact ⟨rfl, by go_grown⟩

end Go.Proofs.Ytffmcibpboejnaa
