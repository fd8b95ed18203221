/- FnExactEdgesOf's walk: the law answers true. Conditions: what its arguments' slices hold. -/
import Derived.Deep.Cut
import Derived.Deep.CutRange
import Derived.Deep.RegionWith
import Derived.Test.YtbjaacppomobeaaEdg
import Derived.Test.YtbjaacppomobeaaEdgS
import Derived.Test.YtbjaacppomobeaaEqP
import Derived.Test.YtbjaacppomobeaaMarkP
import Derived.Test.YtbjaacppomobeaaZD
namespace Go.Proofs.Ytbjaacppomobeaa
open Go.RowKit

theorem own_apart {v1 v2 : Value} {hi : Nat} (h1 : ∀ k, v1.ownBlock = some k → k < hi) (h2 : ∀ k, v2.ownBlock = some k → hi ≤ k) : v1.ownBlock = none ∨ v1.ownBlock ≠ v2.ownBlock := by
  cases e : v1.ownBlock with
  | none => exact .inl rfl
  | some k =>
    right
    intro e2
    have := h1 k e
    have := h2 k e2.symm
    omega
theorem own_apart' {v1 v2 : Value} {hi : Nat} (h1 : ∀ k, v1.ownBlock = some k → k < hi) (h2 : ∀ k, v2.ownBlock = some k → hi ≤ k) : v2.ownBlock = none ∨ v2.ownBlock ≠ v1.ownBlock := by
  cases e : v2.ownBlock with
  | none => exact .inl rfl
  | some k =>
    right
    intro e2
    have := h1 k e2.symm
    have := h2 k e
    omega

set_option maxHeartbeats 12800000 in
set_option maxRecDepth 100000 in
theorem walkExactEdgesOf (n : Int) (v : Value) (xs : List Int) (w : World) (h : Rd w v xs) :
    Calls Try.prog 3 #[.agg #[.int .i64 n, v]] w fun e w' => e = .returned (.bool true) ∧ Below w.heap.size w w' := by
  have H := Lib.hid h
  obtain ⟨a, g, off, cap, rfl, h1, h3, h5⟩ := h
  clear h1 h5
  by_cases hdum : True
  · by_cases hsz : xs.length ≤ 1048576
    · have HL := Lib.hid (show left' 1048576 xs.length = 1048576 - xs.length by rw [left', if_neg (by omega)])
      have hE := egL_len n xs
      have HS := Lib.hid (fun v w h => specEdgesOf n v xs w h)
      have HI := Lib.hid (fun v w h => implEdgesOf n v xs w h)
      generalize egL n xs = E at *
      go_enter Try.func3, Try.ntmps3
      go_wp2_with fail
      refine (szClass _ _ _ _ _ _ (by omega) (by omega) h3).mono ?_
      rintro e w1 ⟨rfl, hb⟩
      rw [HL.out]
      have B1 := Lib.hid ((Box.made n (.slice a xs.length cap) w _).next (by simp) hb)
      have hs1 : w.heap.size < w1.heap.size := by have := hb.size; simp at this; omega
      clear hb
      have c0 := B1.out.at0
      have c1 := B1.out.at1
      go_wp2_with fail
      refine (toClass n _ xs _ (H.out.below B1.out.below (Nat.le_refl _)) hsz).mono ?_
      rintro e w2 ⟨a2, cap2, rfl, hin2, hb2⟩
      clear c0 c1
      have B2 := Lib.hid (B1.out.next hs1 hb2)
      have hs2 : w.heap.size < w2.heap.size := by have := hb2.size; omega
      have I2 := Lib.hid hin2.rd
      clear hb2 hin2 B1
      go_wp2_with fail
      refine (HS.out _ _ I2.out).mono ?_
      rintro e w4 ⟨a4, cap4, rfl, hin4, hb4⟩
      have B4 := Lib.hid (B2.out.next hs2 hb4)
      have hs4 : w.heap.size < w4.heap.size := by have := hb4.size; omega
      have L4 := Lib.hid (fun k hk => (hin4.lt k hk).2)
      have J4 := Lib.hid hin4
      clear hin4 hb4 B2 I2
      have c0 := B4.out.at0
      have c1 := B4.out.at1
      go_wp2_with fail
      refine (toClass n _ xs _ (H.out.below B4.out.below (Nat.le_refl _)) hsz).mono ?_
      rintro e w5 ⟨a5, cap5, rfl, hin5, hb5⟩
      clear c0 c1
      have hs5 : w4.heap.size ≤ w5.heap.size := hb5.size
      have B5 := Lib.hid (B4.out.next (by omega) hb5)
      have K4 := Lib.hid (J4.out.below hb5 (Nat.le_refl _))
      have L5 := Lib.hid (fun k hk => hin5.lt k hk)
      have I5 := Lib.hid hin5
      have HB5 := Lib.hid (show Below w5.heap.size w5 (w5.alloc (Obj.cells #[.int .i64 n, .slice a5 xs.length cap5] 28)) from (Below.refl _ _).alloc (Nat.le_refl _) _)
      have O7 := Lib.hid (show Out n (.slice a5 xs.length cap5) w5.heap.size (w5.alloc (Obj.cells #[.int .i64 n, .slice a5 xs.length cap5] 28)) from ⟨by simp [go_sem], by simp [go_sem], by simp [go_sem], by simp [go_sem]⟩)
      have HZ5 := Lib.hid (show (w5.alloc (Obj.cells #[.int .i64 n, .slice a5 xs.length cap5] 28)).heap.size = w5.heap.size + 1 by simp)
      have B5b := Lib.hid (B5.out.next (by omega) HB5.out)
      have I5b := Lib.hid (I5.out.below HB5.out (Nat.le_refl _))
      have K4b := Lib.hid (K4.out.below HB5.out (Nat.le_refl _))
      clear hb5 hin5 B4 J4 B5 K4 I5
      have c0 := O7.out.at0
      have c1 := O7.out.at1
      go_wp2_with fail
      generalize (w5.alloc (Obj.cells #[.int .i64 n, .slice a5 xs.length cap5] 28)) = w5b at *
      have hz5 := HZ5.out
      refine (HI.out _ _ I5b.out.rd).mono ?_
      rintro e w7 ⟨a7, cap7, rfl, hin7, hb7⟩
      clear c0 c1
      have hs7 : w5b.heap.size ≤ w7.heap.size := hb7.size
      have L7 := Lib.hid (fun k hk => hin7.lt k hk)
      have I7 := Lib.hid hin7
      have B7 := Lib.hid (B5b.out.next (by omega) hb7)
      have P7 := Lib.hid (O7.out.next hb7 (by omega))
      have M3 := Lib.hid (K4b.out.below hb7 (Nat.le_refl _))
      have M4 := Lib.hid (I5b.out.below hb7 (Nat.le_refl _))
      clear hb7 hin7 B5b O7 I5b K4b
      go_wp2_with fail
      refine (eqPrSame _ _ E _ I7.out.rd M3.out.rd).mono ?_
      rintro e w8 ⟨rfl, hb8⟩
      have hs8 : w7.heap.size ≤ w8.heap.size := hb8.size
      have B8 := Lib.hid (B7.out.next (by omega) hb8)
      have Q7 := Lib.hid (P7.out.next hb8 (by omega))
      have S3 := Lib.hid (M3.out.below hb8 (Nat.le_refl _))
      have S4 := Lib.hid (M4.out.below hb8 (Nat.le_refl _))
      have S5 := Lib.hid (I7.out.below hb8 (Nat.le_refl _))
      clear hb8 B7 P7 M3 M4 I7
      have hw8 : w.heap.size < w8.heap.size := by omega
      have hw58 : w5.heap.size < w8.heap.size := by omega
      have c0 := B8.out.at0
      have c1 := B8.out.at1
      have x0 := Q7.out.at0
      have x1 := Q7.out.at1
      go_upto_region 10 with (fail)
      go_cut [31] from 27 to 31 (fun u wq => u = .bool false ∧ Below w8.heap.size w8 wq)
      case first =>
        go_region_with (first
          | (go_at_call 15; refine (toClass n _ xs _ (by exact Rd.below H.out (by first | exact B8.out.below | exact B8.out.below.drew) (Nat.le_refl _)) hsz).mono ?_; rintro e w9 ⟨a9', cap9', rfl, hin9, hb9⟩; have hb89 : Below w8.heap.size w8 w9 := Below.trans (by first | exact Below.refl _ _ | exact (Below.refl _ _).drew) hb9; have I9 := Lib.hid hin9; clear hin9 hb9; obtain ⟨hc9, hf9⟩ := bcell hb89)
          | (go_at_call 18; refine (eqClass n n _ _ xs xs _ (by exact S4.out.rd.below (by assumption) (Nat.le_refl _)) (by exact I9.out.rd)).mono ?_; rintro e w10 ⟨rfl, hb10⟩; rw [show (decide (n = n) && eqB xs xs) = true by simp [eqB]]))
        all_goals
          go_wp2_with fail
          go_meet
          exact ⟨rfl, hb89.trans (hb10.mono (by have := hb89.size; simp; omega))⟩
      case rest =>
        obtain ⟨rfl, hb⟩ := hcut
        have hsc : w8.heap.size ≤ wc.heap.size := hb.size
        have B9 := Lib.hid (B8.out.next hw8 hb)
        have R7 := Lib.hid (Q7.out.next hb (by omega))
        have T3 := Lib.hid (S3.out.below hb (Nat.le_refl _))
        have T4 := Lib.hid (S4.out.below hb (Nat.le_refl _))
        have T5 := Lib.hid (S5.out.below hb (Nat.le_refl _))
        clear hb c0 c1 x0 x1 B8 Q7 S3 S4 S5
        have x0 := R7.out.at0
        have x1 := R7.out.at1
        go_wp2_with fail
        refine (markClass n a5 xs.length cap5 xs 1 _ T4.out (by omega) hsz).mono ?_
        rintro e w12 ⟨rfl, hin12, hg12⟩
        clear x0 x1 hin12
        have hs12 : wc.heap.size ≤ w12.heap.size := hg12.size
        have B12 := Lib.hid (B9.out.grown hg12 (T4.out.row_ge (by omega)))
        have V3 := Lib.hid (T3.out.kept hg12 (own_apart (hi := w4.heap.size) (fun k hk => L4.out k hk) (fun k hk => (L5.out k hk).1)))
        have V5 := Lib.hid (T5.out.kept hg12 (own_apart' (hi := w5b.heap.size) (fun k hk => by have := L5.out k hk; omega) (fun k hk => (L7.out k hk).1)))
        clear hg12 B9 R7 T3 T4 T5
        go_wp2_with fail
        refine (eqPrSame _ _ E _ V5.out.rd V3.out.rd).mono ?_
        rintro e w14 ⟨rfl, hb14⟩
        have hs14 : w12.heap.size ≤ w14.heap.size := hb14.size
        have B14 := Lib.hid (B12.out.next (by omega) hb14)
        have X3 := Lib.hid (V3.out.below hb14 (Nat.le_refl _))
        have X5 := Lib.hid (V5.out.below hb14 (Nat.le_refl _))
        clear hb14 B12 V3 V5
        go_wp2_with fail
        refine (markPrS (B := w5b.heap.size) _ E 1 _ X5.out (by omega) hE).mono ?_
        rintro e w15 ⟨rfl, hin15, hg15⟩
        have hs15 : w14.heap.size ≤ w15.heap.size := hg15.size
        have B15 := Lib.hid (B14.out.grown hg15 (X5.out.row_ge (by omega)))
        have Y3 := Lib.hid (X3.out.kept hg15 (own_apart (hi := w4.heap.size) (fun k hk => L4.out k hk) (fun k hk => by have := (L7.out k hk).1; omega)))
        have Y5 := Lib.hid hin15
        clear hin15 hg15 B14 X3 X5
        go_wp2_with fail
        refine (heldPrS _ E.length 1 _ Y5.out.rd (by omega) hE).mono ?_
        rintro e w16 ⟨rfl, rfl⟩
        have c0 := B15.out.at0
        have c1 := B15.out.at1
        go_wp2_with fail
        refine (toClass n _ xs _ (H.out.below B15.out.below (Nat.le_refl _)) hsz).mono ?_
        rintro e w17 ⟨a17, cap17, rfl, hin17, hb17⟩
        clear c0 c1
        have hs17 : w16.heap.size ≤ w17.heap.size := hb17.size
        have B17 := Lib.hid (B15.out.next (by omega) hb17)
        have I17 := Lib.hid hin17
        have HB17 := Lib.hid hb17
        clear hin17 hb17
        go_wp2_with fail
        refine (HI.out _ _ I17.out.rd).mono ?_
        rintro e w18 ⟨a18, cap18, rfl, hin18, hb18⟩
        have hs18 : w17.heap.size ≤ w18.heap.size := hb18.size
        have HB18 := Lib.hid (HB17.out.trans (hb18.mono (by omega)))
        have I18 := Lib.hid hin18
        have B18 := Lib.hid (B15.out.next (by omega) HB18.out)
        have ZZ3 := Lib.hid (Y3.out.below HB18.out (Nat.le_refl _))
        have ZZ5 := Lib.hid (Y5.out.below HB18.out (Nat.le_refl _))
        clear hin18 hb18 HB18 HB17 B15 B17 Y3 Y5 I17
        go_wp2_with fail
        refine (eqPrSame _ _ E _ I18.out.rd ZZ3.out.rd).mono ?_
        rintro e w19 ⟨rfl, hb19⟩
        have hs19 : w18.heap.size ≤ w19.heap.size := hb19.size
        have B19 := Lib.hid (B18.out.next (by omega) hb19)
        have Z5b := Lib.hid (ZZ5.out.below hb19 (Nat.le_refl _))
        clear hb19 B18 ZZ3 ZZ5 I18
        go_wp2_with fail
        refine (heldPrS _ E.length 1 _ Z5b.out.rd (by omega) hE).mono ?_
        rintro e w20 ⟨rfl, rfl⟩
        go_wp2_with fail
        go_ret
        exact ⟨rfl, B19.out.below⟩
    · have HL := Lib.hid (show left' 1048576 xs.length = -1 by rw [left', if_pos (by omega)])
      go_enter Try.func3, Try.ntmps3
      go_wp2_with fail
      refine (szClass _ _ _ _ _ _ (by omega) (by omega) h3).mono ?_
      rintro e w1 ⟨rfl, hb⟩
      rw [HL.out]
      have Hb := Lib.hid hb
      clear hb
      go_wp2_with fail
      go_ret
      exact ⟨rfl, Below.trans (by go_grown) (Hb.out.mono (by simp))⟩
  · exact absurd trivial hdum

end Go.Proofs.Ytbjaacppomobeaa
