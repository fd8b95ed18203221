/- FnExactLearnPlan's walk: the law answers true. Conditions: what its arguments' slices hold; the table setsWith is laid. -/
import Derived.Deep.RegionHeld3
import Derived.Test.YthmipnflbiclbaaDoorLpI
import Derived.Test.YthmipnflbiclbaaDoorLpS
import Derived.Test.YthmipnflbiclbaaDoorMarkE
namespace Go.Proofs.YthmipnflbiclbaaDoor
open Go.RowKit

set_option maxHeartbeats 6400000 in
set_option maxRecDepth 100000 in
theorem walkExactLearnPlan (n : Int) (v : Value) (xs : List Int) (u : Value) (es : List (Int × Bool)) (w : World) (h : Rd w v xs) (hu : RdE w u es) (hsw : SW w) :
    Calls Tryd.prog 10 #[.agg #[.int .i64 n, v], u] w fun e w' => e = .returned (.bool true) ∧ Below w.heap.size w w' := by
  have H := Lib.hid h
  have HU := Lib.hid hu
  have HSW := Lib.hid hsw
  clear hsw
  obtain ⟨a, g, off, cap, rfl, h1, h3, h5⟩ := h
  obtain ⟨a9, g9, off9, cap9, rfl, _, he3, _⟩ := hu
  clear h1 h5
  by_cases hsz : xs.length ≤ 1048576
  · have HL := Lib.hid (show left' 1048576 xs.length = 1048576 - xs.length by rw [left', if_neg (by omega)])
    by_cases hsz2 : es.length ≤ 1048576 - xs.length
    · have HL2 := Lib.hid (show (if (1048576 - (xs.length : Int)) < (es.length : Int) then (-1 : Int) else (1048576 - (xs.length : Int)) - (es.length : Int)) = (1048576 - (xs.length : Int)) - (es.length : Int) by rw [if_neg (by omega)])
      have he : es.length ≤ 1048576 := by omega
      have HS := Lib.hid (fun v u w h hu => specLearnPlan n v xs u es w h hu)
      have HI := Lib.hid (fun v u w h hu hs => implLearnPlan n v xs u es w h hu hs)
      generalize lpI (lpN n xs es) = R at *
      generalize lpS (lpN n xs es) = bb at *
      have hbb : (bb != bb) = false := by cases bb <;> rfl
      have hRR : (R != R) = false := by simp
      go_enter Tryd.func10, Tryd.ntmps10
      go_wp2_with fail
      refine (szClass _ _ _ _ _ _ (by omega) (by omega) h3).mono ?_
      rintro e w1 ⟨rfl, hb⟩
      rw [HL.out]
      have B1 := Lib.hid ((Box.made n (.slice a xs.length cap) w _).next (by simp) hb)
      have hs1 : w.heap.size < w1.heap.size := by have := hb.size; simp at this; omega
      clear hb
      have c0 := B1.out.at0
      have c1 := B1.out.at1
      go_wp2_with fail
      refine (szExS _ _ _ _ _ (by omega) (by omega) he3).mono ?_
      rintro e w1' ⟨rfl, rfl⟩
      rw [HL2.out]
      go_wp2_with fail
      refine (toClass n _ xs _ (H.out.below B1.out.below (Nat.le_refl _)) hsz).mono ?_
      rintro e w2 ⟨a2, cap2, rfl, hin2, hb2⟩
      clear c0 c1
      have B2 := Lib.hid (B1.out.next hs1 hb2)
      have hs2 : w.heap.size < w2.heap.size := by have := hb2.size; omega
      have I2 := Lib.hid hin2.rd
      clear hb2 hin2 B1
      go_wp2_with fail
      refine (toExS _ es _ (HU.out.below B2.out.below (Nat.le_refl _)) he).mono ?_
      rintro e w3 ⟨a3, cap3, rfl, hin3, hb3⟩
      have B3 := Lib.hid (B2.out.next hs2 hb3)
      have hs3 : w.heap.size < w3.heap.size := by have := hb3.size; omega
      have E3 := Lib.hid hin3.rd
      have I3 := Lib.hid (I2.out.below hb3 (Nat.le_refl _))
      clear hin3 hb3 B2 I2
      go_wp2_with fail
      refine (HS.out _ _ _ I3.out E3.out).mono ?_
      rintro e w4 ⟨rfl, hb4⟩
      have B4 := Lib.hid (B3.out.next hs3 hb4)
      have hs4 : w.heap.size < w4.heap.size := by have := hb4.size; omega
      clear hb4 B3 I3 E3
      have c0 := B4.out.at0
      have c1 := B4.out.at1
      go_wp2_with fail
      refine (toClass n _ xs _ (H.out.below B4.out.below (Nat.le_refl _)) hsz).mono ?_
      rintro e w5 ⟨a5, cap5, rfl, hin5, hb5⟩
      clear c0 c1
      have B5 := Lib.hid (B4.out.next hs4 hb5)
      have hs5 : w.heap.size < w5.heap.size := by have := hb5.size; omega
      have I5 := Lib.hid hin5.rd
      have HA := Lib.hid (show Below w5.heap.size w5 (w5.alloc (Obj.cells #[.int .i64 n, .slice a5 xs.length cap5] 25)) from (Below.refl _ _).alloc (Nat.le_refl _) _)
      have XA := Lib.hid (Box.made n (.slice a5 xs.length cap5) w5 25)
      have HZ := Lib.hid (show w5.heap.size < (w5.alloc (Obj.cells #[.int .i64 n, .slice a5 xs.length cap5] 25)).heap.size by simp)
      have BA := Lib.hid (B5.out.next hs5 HA.out)
      have IA := Lib.hid (I5.out.below HA.out (Nat.le_refl _))
      clear hin5 hb5 B4
      have x0 := XA.out.at0
      have x1 := XA.out.at1
      go_wp2_with fail
      generalize (w5.alloc (Obj.cells #[.int .i64 n, .slice a5 xs.length cap5] 25)) = wa at *
      have hza := HZ.out
      refine (toExS _ es _ (HU.out.below BA.out.below (Nat.le_refl _)) he).mono ?_
      rintro e w6 ⟨a6, cap6, rfl, hin6, hb6⟩
      clear x0 x1
      have hz6 : wa.heap.size ≤ w6.heap.size := hb6.size
      have B6 := Lib.hid (BA.out.next (by omega) hb6)
      have X6 := Lib.hid (XA.out.next hza hb6)
      have I6 := Lib.hid (IA.out.below hb6 (Nat.le_refl _))
      have E6 := Lib.hid hin6.rd
      clear hin6 hb6
      have x0 := X6.out.at0
      have x1 := X6.out.at1
      go_wp2_with fail
      refine (HI.out _ _ _ I6.out E6.out (HSW.out.next B6.out.below)).mono ?_
      rintro e w7 ⟨rfl, hb7⟩
      clear x0 x1
      have hz7 : w6.heap.size ≤ w7.heap.size := hb7.size
      have B7 := Lib.hid (B6.out.next (by omega) hb7)
      have X7 := Lib.hid (X6.out.next (by omega) hb7)
      have I7 := Lib.hid (I6.out.below hb7 (Nat.le_refl _))
      have E7 := Lib.hid (E6.out.below hb7 (Nat.le_refl _))
      clear hb7
      have hw7 : w.heap.size < w7.heap.size := by omega
      have hw57 : w5.heap.size < w7.heap.size := by omega
      have c0 := B7.out.at0
      have c1 := B7.out.at1
      have x0 := X7.out.at0
      have x1 := X7.out.at1
      go_wp2_with fail
      go_region_held3 (fun w' => (w'.cell? ⟨w.heap.size, 0, none⟩ = some (.int .i64 n) ∧ w'.cell? ⟨w.heap.size, 1, none⟩ = some (.slice a xs.length cap)) ∧ w'.cell? ⟨w5.heap.size, 0, none⟩ = some (.int .i64 n) ∧ w'.cell? ⟨w5.heap.size, 1, none⟩ = some (.slice a5 xs.length cap5)) (first | exact ⟨⟨c0, c1⟩, x0, x1⟩ | exact ⟨⟨e0, e1⟩, y0, y1⟩ | exact ⟨⟨d0, d1⟩, z0, z1⟩ | go_keep) (first
        | (go_at_call 46; refine (toClass n _ xs _ (by exact Rd.below H.out (by first | exact B7.out.below | exact B7.out.below.drew) (Nat.le_refl _)) hsz).mono ?_; rintro e w8 ⟨a8, cap8, rfl, hin8, hb8⟩; have hb78 : Below w7.heap.size w7 w8 := Below.trans (by first | exact Below.refl _ _ | exact (Below.refl _ _).drew) hb8; have I8 := Lib.hid hin8.rd; have B8 := Lib.hid (B7.out.next hw7 hb78); have X8 := Lib.hid (X7.out.next hw57 hb78); have J8 := Lib.hid (I7.out.below hb78 (Nat.le_refl _)); have E8 := Lib.hid (E7.out.below hb78 (Nat.le_refl _)); have hz8 := hb78.size; clear hin8 hb8 hb78; have d0 := B8.out.at0; have d1 := B8.out.at1; have z0 := X8.out.at0; have z1 := X8.out.at1)
        | (go_at_call 47; refine (eqClass n n _ _ xs xs _ (by exact J8.out) (by exact I8.out)).mono ?_; rintro e w9 ⟨rfl, hb9⟩; rw [show (decide (n = n) && eqB xs xs) = true by simp [eqB]]; have B9 := Lib.hid (B8.out.next (by omega) hb9); have X9 := Lib.hid (X8.out.next (by omega) hb9); have E9 := Lib.hid (E8.out.below hb9 (Nat.le_refl _)); have hz9 := hb9.size; clear hb9; have e0 := B9.out.at0; have e1 := B9.out.at1; have y0 := X9.out.at0; have y1 := X9.out.at1))
      all_goals
        clear c0 c1 x0 x1 d0 d1 z0 z1 e0 e1 y0 y1
        go_wp2_with fail
        refine (toExS _ es _ (HU.out.below B9.out.below (Nat.le_refl _)) he).mono ?_
        rintro e w10 ⟨a10, cap10, rfl, hin10, hb10⟩
        have B10 := Lib.hid (B9.out.next (by omega) hb10)
        have E10 := Lib.hid (E9.out.below hb10 (Nat.le_refl _))
        have F10 := Lib.hid hin10.rd
        have hz10 := hb10.size
        clear hin10 hb10
        go_wp2_with fail
        refine (eqExSame _ _ es _ E10.out F10.out).mono ?_
        rintro e w11 ⟨rfl, hb11⟩
        have B11 := Lib.hid (B10.out.next (by omega) hb11)
        clear hb11
        go_wp2_with fail
        go_ret
        exact ⟨rfl, B11.out.below⟩
    · have HL2 := Lib.hid (show (if (1048576 - (xs.length : Int)) < (es.length : Int) then (-1 : Int) else (1048576 - (xs.length : Int)) - (es.length : Int)) = -1 by rw [if_pos (by omega)])
      go_enter Tryd.func10, Tryd.ntmps10
      go_wp2_with fail
      refine (szClass _ _ _ _ _ _ (by omega) (by omega) h3).mono ?_
      rintro e w1 ⟨rfl, hb⟩
      rw [HL.out]
      have B1 := Lib.hid ((Box.made n (.slice a xs.length cap) w _).next (by simp) hb)
      clear hb
      go_wp2_with fail
      refine (szExS _ _ _ _ _ (by omega) (by omega) he3).mono ?_
      rintro e w1' ⟨rfl, rfl⟩
      rw [HL2.out]
      go_wp2_with fail
      go_ret
      exact ⟨rfl, B1.out.below⟩
  · have HL := Lib.hid (show left' 1048576 xs.length = -1 by rw [left', if_pos (by omega)])
    go_enter Tryd.func10, Tryd.ntmps10
    go_wp2_with fail
    refine (szClass _ _ _ _ _ _ (by omega) (by omega) h3).mono ?_
    rintro e w1 ⟨rfl, hb⟩
    rw [HL.out]
    have Hb := Lib.hid hb
    clear hb
    go_wp2_with fail
    go_ret
    exact ⟨rfl, Below.trans (by go_grown) (Hb.out.mono (by simp))⟩

end Go.Proofs.YthmipnflbiclbaaDoor
