/- FnExactLearnRepresentation's walk: the law answers true. Conditions: what its arguments' slices hold; the table setsWith is laid. -/
import Derived.Deep.RegionHeld3
import Derived.Test.YtlnnoeicboamgaaDoorLrn
import Derived.Test.YtlnnoeicboamgaaDoorLrnS
import Derived.Test.YtlnnoeicboamgaaDoorMarkE
namespace Go.Proofs.YtlnnoeicboamgaaDoor
open Go.RowKit

set_option maxHeartbeats 12800000 in
set_option maxRecDepth 100000 in
theorem walkExactLearnRepresentation (n : Int) (v : Value) (xs : List Int) (u : Value) (ps : List Int) (x : Value) (es : List (Int × Bool)) (w : World) (h : Rd w v xs) (hu : Rd w u ps) (hx : RdE w x es) (hsw : SW w) :
    Calls Tryd.prog 3 #[.agg #[.int .i64 n, v], u, x] w fun e w' => e = .returned (.bool true) ∧ Below w.heap.size w w' := by
  have H := Lib.hid h
  have HU := Lib.hid hu
  have HE := Lib.hid hx
  have HSW := Lib.hid hsw
  clear hsw
  obtain ⟨a, g, off, cap, rfl, _, h3, _⟩ := h
  obtain ⟨a9, g9, off9, cap9, rfl, _, _, _⟩ := hu
  obtain ⟨a8, g8, off8, cap8, rfl, _, he3, _⟩ := hx
  by_cases hps : ps.length ≤ 1048576
  · by_cases hsz : xs.length ≤ 1048576
    · have HL := Lib.hid (show left' 1048576 xs.length = 1048576 - xs.length by rw [left', if_neg (by omega)])
      by_cases hsz2 : es.length ≤ 1048576 - xs.length
      · have HL2 := Lib.hid (show (if (1048576 - (xs.length : Int)) < (es.length : Int) then (-1 : Int) else (1048576 - (xs.length : Int)) - (es.length : Int)) = (1048576 - (xs.length : Int)) - (es.length : Int) by rw [if_neg (by omega)])
        have he : es.length ≤ 1048576 := by omega
        have HS := Lib.hid (fun v u x w h hu hx => specLearnRepresentation n v u x xs ps es w h hu hx)
        have HI := Lib.hid (fun v u x w h hu hx hs => implLearnRepresentation n v u x xs ps es w h hu hx hs)
        generalize lrN n xs ps es = R at *
        generalize lrB n xs ps es = bb at *
        have hbb : (bb != bb) = false := by cases bb <;> rfl
        have hRR : (R != R) = false := by simp
        go_enter Tryd.func3, Tryd.ntmps3
        go_wp2_with fail
        refine (szClass _ _ _ _ _ _ (by omega) (by omega) h3).mono ?_
        rintro e w1 ⟨rfl, hb⟩
        rw [HL.out]
        have B := Lib.hid ((Box.made n (.slice a xs.length cap) w _).next (by simp) hb)
        have hs1 : w.heap.size < w1.heap.size := by have := hb.size; simp at this; omega
        clear hb
        have c0 := B.out.at0
        have c1 := B.out.at1
        go_wp2_with fail
        clear c0 c1
        refine (szExS _ _ _ _ _ (by omega) (by omega) he3).mono ?_
        rintro e w1' ⟨rfl, rfl⟩
        rw [HL2.out]
        have c0 := B.out.at0
        have c1 := B.out.at1
        go_wp2_with fail
        clear c0 c1
        refine (toClass n _ xs _ (H.out.below B.out.below (Nat.le_refl _)) hsz).mono ?_
        rintro e w2 ⟨a2, p2, rfl, hin2, hb2⟩
        have hz_hb2 := hb2.size
        replace B := Lib.hid (B.out.next (by omega) hb2)
        have I2 := Lib.hid hin2.rd
        clear hin2 hb2
        have c0 := B.out.at0
        have c1 := B.out.at1
        go_wp2_with fail
        clear c0 c1
        refine (toIntS _ ps _ (HU.out.below B.out.below (Nat.le_refl _)) hps).mono ?_
        rintro e w3 ⟨a3, p3, rfl, hin3, hb3⟩
        have hz_hb3 := hb3.size
        replace B := Lib.hid (B.out.next (by omega) hb3)
        replace I2 := Lib.hid (I2.out.below hb3 (Nat.le_refl _))
        have P3 := Lib.hid hin3.rd
        clear hin3 hb3
        have c0 := B.out.at0
        have c1 := B.out.at1
        go_wp2_with fail
        clear c0 c1
        refine (toExS _ es _ (HE.out.below B.out.below (Nat.le_refl _)) he).mono ?_
        rintro e w4 ⟨a4, p4, rfl, hin4, hb4⟩
        have hz_hb4 := hb4.size
        replace B := Lib.hid (B.out.next (by omega) hb4)
        replace I2 := Lib.hid (I2.out.below hb4 (Nat.le_refl _))
        replace P3 := Lib.hid (P3.out.below hb4 (Nat.le_refl _))
        have E4 := Lib.hid hin4.rd
        clear hin4 hb4
        have c0 := B.out.at0
        have c1 := B.out.at1
        go_wp2_with fail
        clear c0 c1
        refine (HS.out _ _ _ _ I2.out P3.out E4.out).mono ?_
        rintro e w5 ⟨rfl, hb5⟩
        have hz_hb5 := hb5.size
        replace B := Lib.hid (B.out.next (by omega) hb5)
        replace I2 := Lib.hid (I2.out.below hb5 (Nat.le_refl _))
        replace P3 := Lib.hid (P3.out.below hb5 (Nat.le_refl _))
        replace E4 := Lib.hid (E4.out.below hb5 (Nat.le_refl _))
        clear hb5
        clear I2 P3 E4
        have c0 := B.out.at0
        have c1 := B.out.at1
        go_wp2_with fail
        clear c0 c1
        refine (toClass n _ xs _ (H.out.below B.out.below (Nat.le_refl _)) hsz).mono ?_
        rintro e w6 ⟨a6, p6, rfl, hin6, hb6⟩
        have hz_hb6 := hb6.size
        replace B := Lib.hid (B.out.next (by omega) hb6)
        have I6 := Lib.hid hin6.rd
        clear hin6 hb6
        have hal : Below w6.heap.size w6 (w6.alloc (Obj.cells #[.int .i64 n, .slice a6 xs.length p6] 30)) := (Below.refl _ _).alloc (Nat.le_refl _) _
        have X := Lib.hid (Box.made n (.slice a6 xs.length p6) w6 30)
        have HZ := Lib.hid (show w6.heap.size < (w6.alloc (Obj.cells #[.int .i64 n, .slice a6 xs.length p6] 30)).heap.size by simp)
        replace B := Lib.hid (B.out.next (by omega) hal)
        replace I6 := Lib.hid (I6.out.below hal (Nat.le_refl _))
        clear hal
        have c0 := B.out.at0
        have c1 := B.out.at1
        have x0 := X.out.at0
        have x1 := X.out.at1
        go_wp2_with fail
        clear c0 c1 x0 x1
        generalize (w6.alloc (Obj.cells #[.int .i64 n, .slice a6 xs.length p6] 30)) = wa at *
        have hza := HZ.out
        refine (toIntS _ ps _ (HU.out.below B.out.below (Nat.le_refl _)) hps).mono ?_
        rintro e w7 ⟨a7, p7, rfl, hin7, hb7⟩
        have hz_hb7 := hb7.size
        replace B := Lib.hid (B.out.next (by omega) hb7)
        replace X := Lib.hid (X.out.next (by omega) hb7)
        replace I6 := Lib.hid (I6.out.below hb7 (Nat.le_refl _))
        have P7 := Lib.hid hin7.rd
        clear hin7 hb7
        have c0 := B.out.at0
        have c1 := B.out.at1
        have x0 := X.out.at0
        have x1 := X.out.at1
        go_wp2_with fail
        clear c0 c1 x0 x1
        refine (toExS _ es _ (HE.out.below B.out.below (Nat.le_refl _)) he).mono ?_
        rintro e w8 ⟨a8, p8, rfl, hin8, hb8⟩
        have hz_hb8 := hb8.size
        replace B := Lib.hid (B.out.next (by omega) hb8)
        replace X := Lib.hid (X.out.next (by omega) hb8)
        replace I6 := Lib.hid (I6.out.below hb8 (Nat.le_refl _))
        replace P7 := Lib.hid (P7.out.below hb8 (Nat.le_refl _))
        have E8 := Lib.hid hin8.rd
        clear hin8 hb8
        have c0 := B.out.at0
        have c1 := B.out.at1
        have x0 := X.out.at0
        have x1 := X.out.at1
        go_wp2_with fail
        clear c0 c1 x0 x1
        refine (HI.out _ _ _ _ I6.out P7.out E8.out (HSW.out.next B.out.below)).mono ?_
        rintro e w9 ⟨rfl, hb9⟩
        have hz_hb9 := hb9.size
        replace B := Lib.hid (B.out.next (by omega) hb9)
        replace X := Lib.hid (X.out.next (by omega) hb9)
        replace I6 := Lib.hid (I6.out.below hb9 (Nat.le_refl _))
        replace P7 := Lib.hid (P7.out.below hb9 (Nat.le_refl _))
        replace E8 := Lib.hid (E8.out.below hb9 (Nat.le_refl _))
        clear hb9
        have c0 := B.out.at0
        have c1 := B.out.at1
        have x0 := X.out.at0
        have x1 := X.out.at1
        go_wp2_with fail
        have hw9 : w.heap.size < w9.heap.size := by omega
        have hw69 : w6.heap.size < w9.heap.size := by omega
        go_region_held3 (fun w' => (w'.cell? ⟨w.heap.size, 0, none⟩ = some (.int .i64 n) ∧ w'.cell? ⟨w.heap.size, 1, none⟩ = some (.slice a xs.length cap)) ∧ w'.cell? ⟨w6.heap.size, 0, none⟩ = some (.int .i64 n) ∧ w'.cell? ⟨w6.heap.size, 1, none⟩ = some (.slice a6 xs.length p6)) (first | exact ⟨⟨c0, c1⟩, x0, x1⟩ | exact ⟨⟨e0, e1⟩, y0, y1⟩ | exact ⟨⟨d0, d1⟩, z0, z1⟩ | go_keep) (first
          | (go_at_call 12; refine (toClass n _ xs _ (by exact Rd.below H.out (by first | exact B.out.below | exact B.out.below.drew) (Nat.le_refl _)) hsz).mono ?_; rintro e w10 ⟨a10, p10, rfl, hin10, hb10⟩; have hb : Below w9.heap.size w9 w10 := Below.trans (by first | exact Below.refl _ _ | exact (Below.refl _ _).drew) hb10; have I10 := Lib.hid hin10.rd; replace B := Lib.hid (B.out.next hw9 hb); replace X := Lib.hid (X.out.next hw69 hb); replace I6 := Lib.hid (I6.out.below hb (Nat.le_refl _)); replace P7 := Lib.hid (P7.out.below hb (Nat.le_refl _)); replace E8 := Lib.hid (E8.out.below hb (Nat.le_refl _)); have hz10 := hb.size; clear hin10 hb10 hb; have d0 := B.out.at0; have d1 := B.out.at1; have z0 := X.out.at0; have z1 := X.out.at1)
          | (go_at_call 16; refine (eqClass n n _ _ xs xs _ (by exact I6.out) (by exact I10.out)).mono ?_; rintro e w11 ⟨rfl, hb11⟩; rw [show (decide (n = n) && eqB xs xs) = true by simp [eqB]]; replace B := Lib.hid (B.out.next (by omega) hb11); replace X := Lib.hid (X.out.next (by omega) hb11); replace P7 := Lib.hid (P7.out.below hb11 (Nat.le_refl _)); replace E8 := Lib.hid (E8.out.below hb11 (Nat.le_refl _)); have hz11 := hb11.size; clear hb11; have e0 := B.out.at0; have e1 := B.out.at1; have y0 := X.out.at0; have y1 := X.out.at1))
        all_goals
          clear c0 c1 x0 x1 d0 d1 z0 z1 e0 e1 y0 y1 X
          go_wp2_with fail
          refine (toIntS _ ps _ (HU.out.below B.out.below (Nat.le_refl _)) hps).mono ?_
          rintro e w12 ⟨a12, p12, rfl, hin12, hb12⟩
          have hz12 := hb12.size
          replace B := Lib.hid (B.out.next (by omega) hb12)
          replace P7 := Lib.hid (P7.out.below hb12 (Nat.le_refl _))
          replace E8 := Lib.hid (E8.out.below hb12 (Nat.le_refl _))
          have P12 := Lib.hid hin12.rd
          clear hin12 hb12
          go_wp2_with fail
          refine (eqIntS _ _ ps ps _ P7.out P12.out).mono ?_
          rintro e w13 ⟨rfl, d13, hd13⟩
          rw [show eqB ps ps = true by simp [eqB]]
          have hb13 : Below w12.heap.size w12 w13 := by rw [hd13]; exact below_drewN (Below.refl _ _) d13
          have hz13 := hb13.size
          replace B := Lib.hid (B.out.next (by omega) hb13)
          replace E8 := Lib.hid (E8.out.below hb13 (Nat.le_refl _))
          clear hd13 hb13
          go_wp2_with fail
          refine (toExS _ es _ (HE.out.below B.out.below (Nat.le_refl _)) he).mono ?_
          rintro e w14 ⟨a14, p14, rfl, hin14, hb14⟩
          have hz14 := hb14.size
          replace B := Lib.hid (B.out.next (by omega) hb14)
          replace E8 := Lib.hid (E8.out.below hb14 (Nat.le_refl _))
          have F14 := Lib.hid hin14.rd
          clear hin14 hb14
          go_wp2_with fail
          refine (eqExSame _ _ es _ E8.out F14.out).mono ?_
          rintro e w15 ⟨rfl, hb15⟩
          replace B := Lib.hid (B.out.next (by omega) hb15)
          clear hb15
          go_wp2_with fail
          go_ret
          exact ⟨rfl, B.out.below⟩
      · have HL2 := Lib.hid (show (if (1048576 - (xs.length : Int)) < (es.length : Int) then (-1 : Int) else (1048576 - (xs.length : Int)) - (es.length : Int)) = -1 by rw [if_pos (by omega)])
        go_enter Tryd.func3, Tryd.ntmps3
        go_wp2_with fail
        refine (szClass _ _ _ _ _ _ (by omega) (by omega) h3).mono ?_
        rintro e w1 ⟨rfl, hb⟩
        rw [HL.out]
        have B1 := Lib.hid ((Box.made n (.slice a xs.length cap) w _).next (by simp) hb)
        clear hb
        go_wp2_with fail
        refine (szExS _ _ _ _ _ (by omega) (by omega) he3).mono ?_
        rintro e w1' ⟨rfl, rfl⟩
        rw [HL2.out]
        go_wp2_with fail
        go_ret
        exact ⟨rfl, B1.out.below⟩
    · have HL := Lib.hid (show left' 1048576 xs.length = -1 by rw [left', if_pos (by omega)])
      go_enter Tryd.func3, Tryd.ntmps3
      go_wp2_with fail
      refine (szClass _ _ _ _ _ _ (by omega) (by omega) h3).mono ?_
      rintro e w1 ⟨rfl, hb⟩
      rw [HL.out]
      have Hb := Lib.hid hb
      clear hb
      go_wp2_with fail
      go_ret
      exact ⟨rfl, Below.trans (by go_grown) (Hb.out.mono (by simp))⟩
  · go_enter Tryd.func3, Tryd.ntmps3
    go_wp2_with fail
    go_ret
    exact ⟨rfl, by go_grown⟩

end Go.Proofs.YtlnnoeicboamgaaDoor
