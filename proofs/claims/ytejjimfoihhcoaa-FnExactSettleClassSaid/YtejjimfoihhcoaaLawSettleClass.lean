/- FnExactSettleClass's walk: the law answers true. Conditions: what its argument's slice holds. -/
import Derived.Test.YtejjimfoihhcoaaSettle
import Derived.Test.YtejjimfoihhcoaaSettleS
import Derived.Test.YtejjimfoihhcoaaHeldC
import Derived.Test.YtejjimfoihhcoaaClassOf
import Derived.Deep.RegionWith
import Derived.Deep.Cut
import Derived.Deep.CutRange
namespace Go.Proofs.Ytejjimfoihhcoaa
open Go.RowKit

set_option maxHeartbeats 12800000 in
set_option maxRecDepth 100000 in
theorem walkExactSettleClass (n : Int) (v : Value) (xs : List Int) (w : World) (h : Rd w v xs) :
    Calls Try.prog 6 #[.agg #[.int .i64 n, v]] w fun e w' => e = .returned (.bool true) ∧ Below w.heap.size w w' := by
  have H := Lib.hid h
  obtain ⟨a, g, off, cap, rfl, h1, h3, h5⟩ := h
  clear h1 h5
  by_cases hsz : xs.length ≤ 1048576
  · have HL := Lib.hid (show left' 1048576 xs.length = 1048576 - xs.length by rw [left', if_neg (by omega)])
    have hR := stL_len n xs
    have HS := Lib.hid (fun v w h => specSettleClass n v xs w h)
    have HI := Lib.hid (fun v w h => implSettleClass n v xs w h)
    generalize stL n xs = R at *
    generalize stN n xs = N at *
    go_enter Try.func6, Try.ntmps6
    go_wp2_with fail
    refine (szClass _ _ _ _ _ _ (by omega) (by omega) h3).mono ?_
    rintro e w1 ⟨rfl, hb⟩
    rw [HL.out]
    have B1 := Lib.hid ((Box.made n (.slice a xs.length cap) w _).next (by simp) hb)
    have hs1 : w.heap.size < w1.heap.size := by have := hb.size; simp at this; omega
    clear hb
    have c0 := B1.out.at0
    have c1 := B1.out.at1
    go_wp2_with fail
    refine (toClass n _ xs _ (H.out.below B1.out.below (Nat.le_refl _)) hsz).mono ?_
    rintro e w2 ⟨a2, cap2, rfl, hin2, hb2⟩
    clear c0 c1
    have B2 := Lib.hid (B1.out.next hs1 hb2)
    have hs2 : w.heap.size < w2.heap.size := by have := hb2.size; omega
    have I2 := Lib.hid hin2
    clear hb2 hin2 B1
    go_wp2_with fail
    refine (HS.out _ _ ⟨_, I2.out⟩).mono ?_
    rintro e w3 ⟨a3, cap3, rfl, hin3, hb3⟩
    have B3 := Lib.hid (B2.out.next hs2 hb3)
    have hs3 : w.heap.size < w3.heap.size := by have := hb3.size; omega
    have I3 := Lib.hid (hin3.mono (Nat.zero_le _))
    have B3b := Lib.hid (B3.out.next hs3 (show Below w3.heap.size w3 (w3.alloc (Obj.cells #[.int .i64 N, .slice a3 R.length cap3] 27)) from (Below.refl _ _).alloc (Nat.le_refl _) _))
    have O6 := Lib.hid (show Out N (.slice a3 R.length cap3) w3.heap.size (w3.alloc (Obj.cells #[.int .i64 N, .slice a3 R.length cap3] 27)) from ⟨by simp [go_sem], by simp [go_sem], by simp [go_sem], by simp [go_sem]⟩)
    have J3 := Lib.hid (I3.out.alloc (Obj.cells #[.int .i64 N, .slice a3 R.length cap3] 27))
    have HZ3 := Lib.hid (show w3.heap.size < ((w3.alloc (Obj.cells #[.int .i64 N, .slice a3 R.length cap3] 27))).heap.size by simp)
    clear hin3 hb3 B2 I2
    have c0 := B3b.out.at0
    have c1 := B3b.out.at1
    go_wp2_with fail
    generalize (w3.alloc (Obj.cells #[.int .i64 N, .slice a3 R.length cap3] 27)) = w3b at *
    have hz3 := HZ3.out
    refine (toClass n _ xs _ (H.out.below B3b.out.below (Nat.le_refl _)) hsz).mono ?_
    rintro e w4 ⟨a4, cap4, rfl, hin4, hb4⟩
    clear c0 c1
    have hs34 : w3b.heap.size ≤ w4.heap.size := hb4.size
    have B4 := Lib.hid (B3b.out.next (by omega) hb4)
    have O64 := Lib.hid (O6.out.next hb4 hz3)
    have K3 := Lib.hid (J3.out.below hb4 (Nat.le_refl _))
    have I4 := Lib.hid hin4
    have A4 := Lib.hid (fun r hr => hin4.lt r hr)
    have A34 := Lib.hid (I3.out.apart hin4 (Nat.le_of_lt hz3))
    have HB4 := Lib.hid (show Below w4.heap.size w4 (w4.alloc (Obj.cells #[.int .i64 n, .slice a4 xs.length cap4] 27)) from (Below.refl _ _).alloc (Nat.le_refl _) _)
    have O7 := Lib.hid (show Out n (.slice a4 xs.length cap4) w4.heap.size (w4.alloc (Obj.cells #[.int .i64 n, .slice a4 xs.length cap4] 27)) from ⟨by simp [go_sem], by simp [go_sem], by simp [go_sem], by simp [go_sem]⟩)
    have HZ4 := Lib.hid (show w4.heap.size < ((w4.alloc (Obj.cells #[.int .i64 n, .slice a4 xs.length cap4] 27))).heap.size by simp)
    have B4b := Lib.hid (B4.out.next (by omega) HB4.out)
    have O64b := Lib.hid (O64.out.next HB4.out (by omega))
    have I4b := Lib.hid (I4.out.below HB4.out (Nat.le_refl _))
    have K3b := Lib.hid (K3.out.below HB4.out (Nat.le_refl _))
    clear hb4 hin4 B3b O6 J3 B3 O64
    have c0 := O7.out.at0
    have c1 := O7.out.at1
    go_wp2_with fail
    generalize (w4.alloc (Obj.cells #[.int .i64 n, .slice a4 xs.length cap4] 27)) = w4b at *
    have hz4 := HZ4.out
    refine (HI.out _ _ I4b.out.rd).mono ?_
    rintro e w5 ⟨a5, cap5, rfl, hin5, hb5⟩
    clear c0 c1
    have hs45 : w4b.heap.size ≤ w5.heap.size := hb5.size
    have A5 := Lib.hid (fun r hr => hin5.lt r hr)
    have A35 := Lib.hid (K3.out.apart hin5 (Nat.le_of_lt hz4))
    have A45 := Lib.hid (I4.out.apart hin5 (Nat.le_of_lt hz4))
    have HB5 := Lib.hid (show Below w4b.heap.size w4b (w5.alloc (Obj.cells #[.int .i64 N, .slice a5 R.length cap5] 27)) from hb5.trans ((Below.refl _ _).alloc (by omega) _))
    have O8 := Lib.hid (show Out N (.slice a5 R.length cap5) w5.heap.size (w5.alloc (Obj.cells #[.int .i64 N, .slice a5 R.length cap5] 27)) from ⟨by simp [go_sem], by simp [go_sem], by simp [go_sem], by simp [go_sem]⟩)
    have I5 := Lib.hid (hin5.alloc (Obj.cells #[.int .i64 N, .slice a5 R.length cap5] 27))
    have HZ5 := Lib.hid (show w5.heap.size < ((w5.alloc (Obj.cells #[.int .i64 N, .slice a5 R.length cap5] 27))).heap.size by simp)
    have B5 := Lib.hid (B4b.out.next (by omega) HB5.out)
    have O65 := Lib.hid (O64b.out.next HB5.out (by omega))
    have O75 := Lib.hid (O7.out.next HB5.out hz4)
    have L3 := Lib.hid (K3b.out.below HB5.out (Nat.le_refl _))
    have L4 := Lib.hid (I4b.out.below HB5.out (Nat.le_refl _))
    clear hb5 hin5 B4 B4b O64b O7 K3 K3b I4 I4b I3 HB4 HB5
    have c0 := O8.out.at0
    have c1 := O8.out.at1
    have d0 := O65.out.at0
    have d1 := O65.out.at1
    go_wp2_with fail
    generalize (w5.alloc (Obj.cells #[.int .i64 N, .slice a5 R.length cap5] 27)) = w5b at *
    have hz5 := HZ5.out
    refine (eqClass N N _ _ R R _ I5.out.rd L3.out.rd).mono ?_
    rintro e w6 ⟨rfl, hb6⟩
    rw [show (decide (N = N) && eqB R R) = true by simp [eqB]]
    clear c0 c1 d0 d1
    have hs6 : w5b.heap.size ≤ w6.heap.size := hb6.size
    have B6 := Lib.hid (B5.out.next (by omega) hb6)
    have P6 := Lib.hid (O65.out.next hb6 (by omega))
    have P7 := Lib.hid (O75.out.next hb6 (by omega))
    have P8 := Lib.hid (O8.out.next hb6 hz5)
    have M3 := Lib.hid (L3.out.below hb6 (Nat.le_refl _))
    have M4 := Lib.hid (L4.out.below hb6 (Nat.le_refl _))
    have M5 := Lib.hid (I5.out.below hb6 (Nat.le_refl _))
    clear hb6 B5 O65 O75 O8 L3 L4 I5
    have hw6 : w.heap.size < w6.heap.size := by omega
    have hw46 : w4.heap.size < w6.heap.size := by omega
    have c0 := B6.out.at0
    have c1 := B6.out.at1
    have x0 := P7.out.at0
    have x1 := P7.out.at1
    go_upto_region 10 with (fail)
    go_cut [31] from 27 to 31 (fun u wq => u = .bool false ∧ Below w6.heap.size w6 wq)
    case first =>
      go_region_with (first
        | (go_at_call 13; refine (toClass n _ xs _ (by exact Rd.below H.out (by first | exact B6.out.below | exact B6.out.below.drew) (Nat.le_refl _)) hsz).mono ?_; rintro e w7 ⟨a7, cap7, rfl, hin7, hb7⟩; have hb67 : Below w6.heap.size w6 w7 := Below.trans (by first | exact Below.refl _ _ | exact (Below.refl _ _).drew) hb7; have I7 := Lib.hid hin7; clear hin7 hb7; obtain ⟨hc7, hf7⟩ := bcell hb67)
        | (go_at_call 15; refine (eqClass n n _ _ xs xs _ (by exact M4.out.rd.below (by assumption) (Nat.le_refl _)) (by exact I7.out.rd)).mono ?_; rintro e w8 ⟨rfl, hb8⟩; rw [show (decide (n = n) && eqB xs xs) = true by simp [eqB]]))
      all_goals
        go_wp2_with fail
        go_meet
        exact ⟨rfl, hb67.trans (hb8.mono (by have := hb67.size; simp; omega))⟩
    case rest =>
      obtain ⟨rfl, hb⟩ := hcut
      have hsc : w6.heap.size ≤ wc.heap.size := hb.size
      have B7 := Lib.hid (B6.out.next hw6 hb)
      have Q6 := Lib.hid (P6.out.next hb (by omega))
      have Q7 := Lib.hid (P7.out.next hb (by omega))
      have Q8 := Lib.hid (P8.out.next hb (by omega))
      have S3 := Lib.hid (M3.out.below hb (Nat.le_refl _))
      have S4 := Lib.hid (M4.out.below hb (Nat.le_refl _))
      have S5 := Lib.hid (M5.out.below hb (Nat.le_refl _))
      clear hb c0 c1 x0 x1 B6 P6 P7 P8 M3 M4 M5
      have x0 := Q7.out.at0
      have x1 := Q7.out.at1
      go_wp2_with fail
      refine (markClass n a4 xs.length cap4 xs 1 _ S4.out (by omega) hsz).mono ?_
      rintro e w8 ⟨rfl, hin8, hg8⟩
      clear x0 x1
      have hs8 : wc.heap.size ≤ w8.heap.size := hg8.size
      have B8 := Lib.hid (B7.out.grown hg8 (S4.out.row_ge (by omega)))
      have T6 := Lib.hid (Q6.out.kept hg8 (fun e => by have := A4.out _ e.symm; omega) (by omega))
      have T8 := Lib.hid (Q8.out.kept hg8 (fun e => by have := A4.out _ e.symm; omega) (by omega))
      have U3 := Lib.hid (S3.out.kept hg8 A34.out)
      have U5 := Lib.hid (S5.out.kept hg8 (S5.out.apart_of (A45.out)))
      clear hin8 hg8 S3 S4 S5 B7 Q6 Q7 Q8
      have x0 := T8.out.at0
      have x1 := T8.out.at1
      have y0 := T6.out.at0
      have y1 := T6.out.at1
      go_wp2_with fail
      refine (eqClass N N _ _ R R _ U5.out.rd U3.out.rd).mono ?_
      rintro e w9 ⟨rfl, hb9⟩
      rw [show (decide (N = N) && eqB R R) = true by simp [eqB]]
      clear x0 x1 y0 y1
      have hs9 : w8.heap.size ≤ w9.heap.size := hb9.size
      have B9 := Lib.hid (B8.out.next (by omega) hb9)
      have V6 := Lib.hid (T6.out.next hb9 (by omega))
      have V8 := Lib.hid (T8.out.next hb9 (by omega))
      have V3 := Lib.hid (U3.out.below hb9 (Nat.le_refl _))
      have V5 := Lib.hid (U5.out.below hb9 (Nat.le_refl _))
      clear hb9 B8 T6 T8 U3 U5
      have x0 := V8.out.at0
      have x1 := V8.out.at1
      go_wp2_with fail
      refine (markClass N a5 R.length cap5 R 1 _ V5.out (by omega) hR).mono ?_
      rintro e w10 ⟨rfl, hin10, hg10⟩
      clear x0 x1
      have hs10 : w9.heap.size ≤ w10.heap.size := hg10.size
      have B10 := Lib.hid (B9.out.grown hg10 (V5.out.row_ge (by omega)))
      have W6 := Lib.hid (V6.out.kept hg10 (fun e => by have := A5.out _ e.symm; omega) (by omega))
      have W8 := Lib.hid (V8.out.kept hg10 (fun e => by have := A5.out _ e.symm; omega) (by omega))
      have W3 := Lib.hid (V3.out.kept hg10 A35.out)
      have W5 := Lib.hid hin10
      clear hin10 hg10 B9 V6 V8 V3 V5
      have x0 := W8.out.at0
      have x1 := W8.out.at1
      go_wp2_with fail
      refine (heldClass N _ R.length 1 _ W5.out.rd (by omega) hR).mono ?_
      rintro e w11 ⟨rfl, hb11⟩
      clear x0 x1
      have hs11 : w10.heap.size ≤ w11.heap.size := hb11.size
      have B11 := Lib.hid (B10.out.next (by omega) hb11)
      have X6 := Lib.hid (W6.out.next hb11 (by omega))
      have X8 := Lib.hid (W8.out.next hb11 (by omega))
      have X3 := Lib.hid (W3.out.below hb11 (Nat.le_refl _))
      have X5 := Lib.hid (W5.out.below hb11 (Nat.le_refl _))
      clear hb11 B10 W6 W8 W3 W5
      have c0 := B11.out.at0
      have c1 := B11.out.at1
      go_wp2_with fail
      refine (toClass n _ xs _ (H.out.below B11.out.below (Nat.le_refl _)) hsz).mono ?_
      rintro e w12 ⟨a12, cap12, rfl, hin12, hb12⟩
      clear c0 c1
      have hs12 : w11.heap.size ≤ w12.heap.size := hb12.size
      have B12 := Lib.hid (B11.out.next (by omega) hb12)
      have Y6 := Lib.hid (X6.out.next hb12 (by omega))
      have Y8 := Lib.hid (X8.out.next hb12 (by omega))
      have Y3 := Lib.hid (X3.out.below hb12 (Nat.le_refl _))
      have Y5 := Lib.hid (X5.out.below hb12 (Nat.le_refl _))
      have I12 := Lib.hid hin12
      clear hin12 hb12 B11 X6 X8 X3 X5
      go_wp2_with fail
      refine (HI.out _ _ I12.out.rd).mono ?_
      rintro e w13 ⟨a13, cap13, rfl, hin13, hb13⟩
      have hs13 : w12.heap.size ≤ w13.heap.size := hb13.size
      have HB13 := Lib.hid (show Below w12.heap.size w12 (w13.alloc (Obj.cells #[.int .i64 N, .slice a13 R.length cap13] 27)) from hb13.trans ((Below.refl _ _).alloc (by omega) _))
      have O13 := Lib.hid (show Out N (.slice a13 R.length cap13) w13.heap.size (w13.alloc (Obj.cells #[.int .i64 N, .slice a13 R.length cap13] 27)) from ⟨by simp [go_sem], by simp [go_sem], by simp [go_sem], by simp [go_sem]⟩)
      have HZ13 := Lib.hid (show w13.heap.size < ((w13.alloc (Obj.cells #[.int .i64 N, .slice a13 R.length cap13] 27))).heap.size by simp)
      have I13 := Lib.hid (hin13.alloc (Obj.cells #[.int .i64 N, .slice a13 R.length cap13] 27))
      have B13 := Lib.hid (B12.out.next (by omega) HB13.out)
      have Z6 := Lib.hid (Y6.out.next HB13.out (by omega))
      have Z8 := Lib.hid (Y8.out.next HB13.out (by omega))
      have Z3 := Lib.hid (Y3.out.below HB13.out (Nat.le_refl _))
      have Z5 := Lib.hid (Y5.out.below HB13.out (Nat.le_refl _))
      clear hin13 hb13 HB13 B12 Y6 Y8 Y3 Y5 I12
      have x0 := O13.out.at0
      have x1 := O13.out.at1
      have y0 := Z6.out.at0
      have y1 := Z6.out.at1
      go_wp2_with fail
      generalize (w13.alloc (Obj.cells #[.int .i64 N, .slice a13 R.length cap13] 27)) = w13b at *
      have hz13 := HZ13.out
      refine (eqClass N N _ _ R R _ I13.out.rd Z3.out.rd).mono ?_
      rintro e w14 ⟨rfl, hb14⟩
      rw [show (decide (N = N) && eqB R R) = true by simp [eqB]]
      clear x0 x1 y0 y1
      have hs14 : w13b.heap.size ≤ w14.heap.size := hb14.size
      have B14 := Lib.hid (B13.out.next (by omega) hb14)
      have Z8b := Lib.hid (Z8.out.next hb14 (by omega))
      have Z5b := Lib.hid (Z5.out.below hb14 (Nat.le_refl _))
      clear hb14 B13 Z6 Z8 Z3 Z5 O13 I13
      have x0 := Z8b.out.at0
      have x1 := Z8b.out.at1
      go_wp2_with fail
      refine (heldClass N _ R.length 1 _ Z5b.out.rd (by omega) hR).mono ?_
      rintro e w15 ⟨rfl, hb15⟩
      have B15 := Lib.hid (B14.out.next (by omega) hb15)
      clear hb15
      go_wp2_with fail
      go_ret
      exact ⟨rfl, B15.out.below⟩
  · have HL := Lib.hid (show left' 1048576 xs.length = -1 by rw [left', if_pos (by omega)])
    go_enter Try.func6, Try.ntmps6
    go_wp2_with fail
    refine (szClass _ _ _ _ _ _ (by omega) (by omega) h3).mono ?_
    rintro e w1 ⟨rfl, hb⟩
    rw [HL.out]
    have Hb := Lib.hid hb
    clear hb
    go_wp2_with fail
    go_ret
    exact ⟨rfl, Below.trans (by go_grown) (Hb.out.mono (by simp))⟩

end Go.Proofs.Ytejjimfoihhcoaa
