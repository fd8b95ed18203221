/- What the law of IsTeaching draws: a class and two sets. Conditions: the code is a slice of bytes. -/
import Derived.Test.YtiocaopabkbgpaaDoorFirstTS
import Derived.Test.YtiocaopabkbgpaaDoorOneOf
import Derived.Test.YtiocaopabkbgpaaDoorZK
namespace Go.Proofs.YtiocaopabkbgpaaDoor
open Go.RowKit

/-- a class and two numbers are drawn -/
def GotCII (w : World) (e : Ending) (w' : World) : Prop := ∃ (n : Int) (zs : List Int) (t s : Int), (-8 ≤ n ∧ n ≤ 8 ∧ zs.length ≤ 34) ∧ ∃ a cap, e = .returned (.tuple #[.agg #[.int .i64 n, .slice a zs.length cap], .int .i64 t, .int .i64 s]) ∧ Ints w.heap.size w' (.slice a zs.length cap) zs ∧ Below w.heap.size w w'

set_option maxHeartbeats 6400000 in
set_option maxRecDepth 100000 in
theorem dDrawIsTeaching (a : Option Addr) (b off n cap : Nat) (w : World) (hc : n ≤ cap) (hn : n ≤ 1048576) (hcap : cap ≤ maxLen) (h : Byt w a b off n) :
    Calls Tryd.prog 43 #[.slice a n cap] w (GotCII w) := by
  have HN := Lib.hid (specNewReader a b off n cap (w.alloc (Obj.cells #[.int .i64 0, .slice none 0 0] 25)) hc hn hcap (h.kept (World.grownBy_alloc _ _ none) (by simp)))
  have HY := Lib.hid (Bx.new 0 (.slice none 0 0) w)
  have HZ := Lib.hid (show (w.alloc (Obj.cells #[.int .i64 0, .slice none 0 0] 25)).heap.size = w.heap.size + 1 by simp)
  clear h
  go_enter Tryd.func43, Tryd.ntmps43
  go_wp2_with fail
  refine HN.out.mono ?_
  rintro e w1 ⟨rfl, hr, hg⟩
  have HS := Lib.hid (specSomeClass _ _ 0 (by omega) w1 hr)
  have hz1 := hr.2.1
  have HG1 := Lib.hid (show w.grownBy w1 none from grownBy_trans (World.grownBy_alloc _ _ _) hg)
  have HY1 := Lib.hid (HY.out.kept hg (by simp))
  rw [HZ.out] at HS hz1
  clear hr hg HN
  go_wp2_with fail
  refine HS.out.mono ?_
  rintro e w2 ⟨m, a2, c2, p2, zs, rfl, hin2, ⟨hn0, hn1, hl2⟩, hp2, hr2, hg2⟩
  have hz2 := hg2.size
  have HI2 := Lib.hid (hin2.mono (show w.heap.size + 2 ≤ w1.heap.size by omega))
  have HY2 := Lib.hid (HY1.out.kept hg2 (by simp))
  have B2 := Lib.hid (show Below w.heap.size w w2 from ((Below.refl _ _).grown HG1.out (Nat.le_refl _) (fun k hk => by cases hk)).grown hg2 (by omega) (fun k hk => by cases hk; omega))
  have HR2 := Lib.hid hr2
  clear hin2 hr2 hg2 HS
  have HX3 := Lib.hid (show Bx m (.slice a2 zs.length c2) w2.heap.size (w2.alloc (Obj.cells #[.int .i64 m, .slice a2 zs.length c2] 25)) from Bx.new m (.slice a2 zs.length c2) w2)
  have HY3 := Lib.hid (show Bx 0 (.slice none 0 0) w.heap.size (w2.alloc (Obj.cells #[.int .i64 m, .slice a2 zs.length c2] 25)) from HY2.out.alloc _)
  have HI3 := Lib.hid (show Ints (w.heap.size + 2) (w2.alloc (Obj.cells #[.int .i64 m, .slice a2 zs.length c2] 25)) (.slice a2 zs.length c2) zs from HI2.out.alloc _)
  have HR3 := Lib.hid (show Rdr (w.heap.size + 1 + 1) (w.heap.size + 1) p2 (w2.alloc (Obj.cells #[.int .i64 m, .slice a2 zs.length c2] 25)) from HR2.out.alloc _)
  have B3 := Lib.hid (show Below w.heap.size w (w2.alloc (Obj.cells #[.int .i64 m, .slice a2 zs.length c2] 25)) from B2.out.alloc (by omega) _)
  have HZ3 := Lib.hid (show (w2.alloc (Obj.cells #[.int .i64 m, .slice a2 zs.length c2] 25)).heap.size = w2.heap.size + 1 by simp)
  go_wp2_with fail
  generalize (w2.alloc (Obj.cells #[.int .i64 m, .slice a2 zs.length c2] 25)) = w3 at *
  generalize ho : w2.heap.size = o at *
  have hz3 : o + 1 ≤ w3.heap.size := Nat.le_of_eq HZ3.out.symm
  have hoB : w.heap.size + 2 ≤ o := by omega
  clear HZ3 HI2 HY2 HR2 B2
  refine (specOneOf (w.heap.size + 2) (w.heap.size + 1 + 1) (w.heap.size + 1) p2 m a2 c2 zs (by omega) (by omega) _ HR3.out HI3.out (by omega)).mono ?_
  rintro e w4 ⟨t, p4, rfl, hp4, hr4, hg4⟩
  have hz4 := hg4.size
  have X4 := Lib.hid (HX3.out.kept hg4 (by simp; omega))
  have Y4 := Lib.hid (HY3.out.kept hg4 (by simp))
  have I4 := Lib.hid (HI3.out.pick (by omega) hg4)
  have R4 := Lib.hid hr4
  have B4 := Lib.hid (B3.out.grown hg4 (by omega) (fun k hk => by cases hk; omega))
  clear hr4 hg4 HX3 HY3 HI3 HR3 B3
  have HV := Lib.hid (specValid m (.slice a2 zs.length c2) zs w4 I4.out.rd)
  have x0 := X4.out.out.at0
  have x1 := X4.out.out.at1
  by_cases hv : vldB m zs = true
  · rw [hv] at HV
    go_wp2_with fail
    refine HV.out.mono ?_
    rintro e w5 ⟨rfl, hb5⟩
    have hz5 := hb5.size
    have X5 := Lib.hid (X4.out.next hb5 X4.out.lt)
    have Y5 := Lib.hid (Y4.out.next hb5 Y4.out.lt)
    have I5 := Lib.hid (I4.out.below hb5 (Nat.le_refl _))
    have R5 := Lib.hid (R4.out.next hb5 (by omega))
    have B5 := Lib.hid (B4.out.trans (hb5.mono (by omega)))
    clear hb5 x0 x1 X4 Y4 I4 R4 B4 HV
    have HH := Lib.hid (fun w h => specHasInt (.slice a2 zs.length c2) zs t w h)
    have x0 := X5.out.out.at0
    have x1 := X5.out.out.at1
    by_cases hh : hasB zs t = true
    · obtain ⟨M, ns, rfl, hzs, hcl⟩ := vldB_cls hv
      obtain ⟨U, hU, hUm⟩ : ∃ U : Nat, t = (U : Int) ∧ U ∈ ns := by
        rw [hzs] at hh
        simp only [hasB, decide_eq_true_eq, toI, List.mem_map] at hh
        obtain ⟨U, h1, h2⟩ := hh
        exact ⟨U, h2.symm, h1⟩
      have HF := Lib.hid (show ∀ w, Rd w (.slice a2 zs.length c2) zs → Calls Tryd.prog 93 #[.slice a2 zs.length c2, .int .i64 (M : Int), .int .i64 t] w fun e w' => e = .returned (.int .i64 ((ftN M U ns : Nat) : Int)) ∧ Below w.heap.size w w' from fun w h => by
        rw [hU]
        rw [hzs] at h ⊢
        exact specFstT M hcl.pts _ ns U w hUm hcl.lt32 (by have := hcl.length; omega) h)
      rw [hh] at HH
      clear hh hv hzs hcl hU hUm
      go_wp2_with fail
      refine (HH.out _ I5.out.rd).mono ?_
      rintro e w6 ⟨rfl, hw6⟩
      subst w6
      go_wp2_with fail
      refine (specPick (w.heap.size + 1 + 1) (w.heap.size + 1) p4 2 (by omega) _ R5.out).mono ?_
      rintro e w6 ⟨⟨y, rfl, _⟩, hr6, hg6⟩
      have hz6 := hg6.size
      have X6 := Lib.hid (X5.out.kept hg6 (by simp; omega))
      have Y6 := Lib.hid (Y5.out.kept hg6 (by simp))
      have I6 := Lib.hid (I5.out.pick (by omega) hg6)
      have R6 := Lib.hid hr6
      have B6 := Lib.hid (B5.out.grown hg6 (by omega) (fun k hk => by cases hk; omega))
      clear hr6 hg6 x0 x1 X5 Y5 I5 R5 B5 HH
      by_cases hy0 : y = 0
      · subst hy0
        have x0 := X6.out.out.at0
        have x1 := X6.out.out.at1
        have r0 := Y6.out.out.at0
        have r1 := Y6.out.out.at1
        have q0 := Y6.out.out.free0
        have q1 := Y6.out.out.free1
        have X8 := Lib.hid (show Bx (M : Int) (.slice a2 zs.length c2) o ((w6.setCell ⟨w.heap.size, 0, none⟩ (.int .i64 (M : Int))).setCell ⟨w.heap.size, 1, none⟩ (.slice a2 zs.length c2)) from (X6.out.other (by omega) _).other (by omega) _)
        have Y8 := Lib.hid (show Bx (M : Int) (.slice a2 zs.length c2) w.heap.size ((w6.setCell ⟨w.heap.size, 0, none⟩ (.int .i64 (M : Int))).setCell ⟨w.heap.size, 1, none⟩ (.slice a2 zs.length c2)) from (Y6.out.setN (M : Int)).set (.slice a2 zs.length c2))
        have I8 := Lib.hid (show Ints (w.heap.size + 2) ((w6.setCell ⟨w.heap.size, 0, none⟩ (.int .i64 (M : Int))).setCell ⟨w.heap.size, 1, none⟩ (.slice a2 zs.length c2)) _ _ from (I6.out.setCell_below (a := ⟨w.heap.size, 0, none⟩) (by simp) _).setCell_below (a := ⟨w.heap.size, 1, none⟩) (by simp) _)
        have R8 := Lib.hid (show Rdr (w.heap.size + 1 + 1) (w.heap.size + 1) (p4 + 1) ((w6.setCell ⟨w.heap.size, 0, none⟩ (.int .i64 (M : Int))).setCell ⟨w.heap.size, 1, none⟩ (.slice a2 zs.length c2)) from (R6.out.bx Y6.out (by omega) 0 _).bx (Y6.out.setN (M : Int)) (by omega) 1 _)
        have B8 := Lib.hid (show Below w.heap.size w ((w6.setCell ⟨w.heap.size, 0, none⟩ (.int .i64 (M : Int))).setCell ⟨w.heap.size, 1, none⟩ (.slice a2 zs.length c2)) from (B6.out.setCell (Nat.le_refl _) _).setCell (Nat.le_refl _) _)
        have z0 := X8.out.out.at0
        have z1 := X8.out.out.at1
        go_wp2_with fail
        go_region_law (go_simp; go_at_call 93; refine (HF.out _ (by first | exact I6.out.rd | exact I8.out.rd | exact I6.out.rd.below (k := w6.heap.size) ((Below.refl _ _).drew) (Nat.le_refl _) | exact I8.out.rd.below (k := ((w6.setCell ⟨w.heap.size, 0, none⟩ (.int .i64 (M : Int))).setCell ⟨w.heap.size, 1, none⟩ (.slice a2 zs.length c2)).heap.size) ((Below.refl _ _).drew) (Nat.le_refl _))).mono ?_; rintro e w9 ⟨rfl, hb9⟩; (first | (have G9 : Below w6.heap.size w6 w9 := (by first | exact hb9 | exact ⟨hb9.os, hb9.tape, hb9.output, hb9.size, hb9.block⟩); have X9 := Lib.hid (X6.out.next G9 X6.out.lt); have Y9 := Lib.hid (Y6.out.next G9 Y6.out.lt); have I9 := Lib.hid (I6.out.below G9 (Nat.le_refl _)); have B9 := Lib.hid (B6.out.trans (G9.mono (by omega))); have y0 := Y9.out.out.at0; have y1 := Y9.out.out.at1; have f0 := Y9.out.out.free0; have f1 := Y9.out.out.free1; have u0 := X9.out.out.at0; have u1 := X9.out.out.at1; clear G9 hb9) | (have G9 : Below ((w6.setCell ⟨w.heap.size, 0, none⟩ (.int .i64 (M : Int))).setCell ⟨w.heap.size, 1, none⟩ (.slice a2 zs.length c2)).heap.size ((w6.setCell ⟨w.heap.size, 0, none⟩ (.int .i64 (M : Int))).setCell ⟨w.heap.size, 1, none⟩ (.slice a2 zs.length c2)) w9 := (by first | exact hb9 | exact ⟨hb9.os, hb9.tape, hb9.output, hb9.size, hb9.block⟩); have X9 := Lib.hid (X8.out.next G9 X8.out.lt); have Y9 := Lib.hid (Y8.out.next G9 Y8.out.lt); have I9 := Lib.hid (I8.out.below G9 (Nat.le_refl _)); have B9 := Lib.hid (B8.out.trans (G9.mono (by simp; omega))); have y0 := Y9.out.out.at0; have y1 := Y9.out.out.at1; have f0 := Y9.out.out.free0; have f1 := Y9.out.out.free1; have u0 := X9.out.out.at0; have u1 := X9.out.out.at1; clear G9 hb9)))
        all_goals
          go_wp2_with fail
          refine bodyPost_ret (v := .tuple #[.agg #[.int .i64 (M : Int), .slice a2 zs.length c2], .int .i64 t, .int .i64 ((ftN M U ns : Nat) : Int)]) (by simp [results, Tryd.results43, go_sem, y0, y1]) rfl ?_
          refine ⟨(M : Int), zs, t, ((ftN M U ns : Nat) : Int), ⟨by omega, by omega, by omega⟩, a2, c2, rfl, ?_, ?_⟩
          · refine Ints.mono (B := w.heap.size + 1) ?_ (by omega)
            repeat (refine Ints.setCell_below ?_ (by simp) _)
            exact I9.out.mono (by omega)
          · have hb0 := B9.out
            clear r0 r1 q0 q1 y0 y1 f0 f1 u0 u1 x0 x1 z0 z1
            go_grown
      · have hy1 : ¬ (y : Int) = 0 := by omega
        have hy2 : ((y : Int) == 0) = false := by simpa using hy1
        have x0 := X6.out.out.at0
        have x1 := X6.out.out.at1
        have r0 := Y6.out.out.at0
        have r1 := Y6.out.out.at1
        have q0 := Y6.out.out.free0
        have q1 := Y6.out.out.free1
        have X8 := Lib.hid (show Bx (M : Int) (.slice a2 zs.length c2) o ((w6.setCell ⟨w.heap.size, 0, none⟩ (.int .i64 (M : Int))).setCell ⟨w.heap.size, 1, none⟩ (.slice a2 zs.length c2)) from (X6.out.other (by omega) _).other (by omega) _)
        have Y8 := Lib.hid (show Bx (M : Int) (.slice a2 zs.length c2) w.heap.size ((w6.setCell ⟨w.heap.size, 0, none⟩ (.int .i64 (M : Int))).setCell ⟨w.heap.size, 1, none⟩ (.slice a2 zs.length c2)) from (Y6.out.setN (M : Int)).set (.slice a2 zs.length c2))
        have I8 := Lib.hid (show Ints (w.heap.size + 2) ((w6.setCell ⟨w.heap.size, 0, none⟩ (.int .i64 (M : Int))).setCell ⟨w.heap.size, 1, none⟩ (.slice a2 zs.length c2)) _ _ from (I6.out.setCell_below (a := ⟨w.heap.size, 0, none⟩) (by simp) _).setCell_below (a := ⟨w.heap.size, 1, none⟩) (by simp) _)
        have R8 := Lib.hid (show Rdr (w.heap.size + 1 + 1) (w.heap.size + 1) (p4 + 1) ((w6.setCell ⟨w.heap.size, 0, none⟩ (.int .i64 (M : Int))).setCell ⟨w.heap.size, 1, none⟩ (.slice a2 zs.length c2)) from (R6.out.bx Y6.out (by omega) 0 _).bx (Y6.out.setN (M : Int)) (by omega) 1 _)
        have B8 := Lib.hid (show Below w.heap.size w ((w6.setCell ⟨w.heap.size, 0, none⟩ (.int .i64 (M : Int))).setCell ⟨w.heap.size, 1, none⟩ (.slice a2 zs.length c2)) from (B6.out.setCell (Nat.le_refl _) _).setCell (Nat.le_refl _) _)
        have z0 := X8.out.out.at0
        have z1 := X8.out.out.at1
        go_wp2_with fail
        go_region_law (go_simp; go_at_call 94; refine (specSetOf (w.heap.size + 2) (w.heap.size + 1 + 1) (w.heap.size + 1) (p4 + 1) (M : Int) a2 c2 zs (by omega) (by omega) _ (by first | exact R6.out | exact R6.out.drew | exact R8.out | exact R8.out.drew) (by first | exact I6.out | exact I8.out)).mono ?_; rintro e w9 ⟨s, p9, rfl, hp9, hr9, hg9⟩; (first | (have G9 : w6.grownBy w9 (some (w.heap.size + 1)) := (by first | exact hg9 | exact ⟨hg9.os, hg9.tape, hg9.output, hg9.size, hg9.block⟩); have X9 := Lib.hid (X6.out.kept G9 (by simp; omega)); have Y9 := Lib.hid (Y6.out.kept G9 (by simp)); have I9 := Lib.hid (I6.out.pick (by omega) G9); have B9 := Lib.hid (B6.out.grown G9 (by omega) (fun k hk => by cases hk; omega)); have y0 := Y9.out.out.at0; have y1 := Y9.out.out.at1; have f0 := Y9.out.out.free0; have f1 := Y9.out.out.free1; have u0 := X9.out.out.at0; have u1 := X9.out.out.at1; clear G9 hg9 hr9) | (have G9 : ((w6.setCell ⟨w.heap.size, 0, none⟩ (.int .i64 (M : Int))).setCell ⟨w.heap.size, 1, none⟩ (.slice a2 zs.length c2)).grownBy w9 (some (w.heap.size + 1)) := (by first | exact hg9 | exact ⟨hg9.os, hg9.tape, hg9.output, hg9.size, hg9.block⟩); have X9 := Lib.hid (X8.out.kept G9 (by simp; omega)); have Y9 := Lib.hid (Y8.out.kept G9 (by simp)); have I9 := Lib.hid (I8.out.pick (by omega) G9); have B9 := Lib.hid (B8.out.grown G9 (by simp; omega) (fun k hk => by cases hk; omega)); have y0 := Y9.out.out.at0; have y1 := Y9.out.out.at1; have f0 := Y9.out.out.free0; have f1 := Y9.out.out.free1; have u0 := X9.out.out.at0; have u1 := X9.out.out.at1; clear G9 hg9 hr9)))
        all_goals
          go_wp2_with fail
          refine bodyPost_ret (v := .tuple #[.agg #[.int .i64 (M : Int), .slice a2 zs.length c2], .int .i64 t, .int .i64 s]) (by simp [results, Tryd.results43, go_sem, y0, y1]) rfl ?_
          refine ⟨(M : Int), zs, t, s, ⟨by omega, by omega, by omega⟩, a2, c2, rfl, ?_, ?_⟩
          · refine Ints.mono (B := w.heap.size + 1) ?_ (by omega)
            repeat (refine Ints.setCell_below ?_ (by simp) _)
            exact I9.out.mono (by omega)
          · have hb0 := B9.out
            clear r0 r1 q0 q1 y0 y1 f0 f1 u0 u1 x0 x1 z0 z1
            go_grown
    · rw [Bool.not_eq_true] at hh
      rw [hh] at HH
      clear hh hv
      go_wp2_with fail
      refine (HH.out _ I5.out.rd).mono ?_
      rintro e w6 ⟨rfl, hw6⟩
      subst w6
      clear HH x0 x1
      have x0 := X5.out.out.at0
      have x1 := X5.out.out.at1
      have r0 := Y5.out.out.at0
      have r1 := Y5.out.out.at1
      have q0 := Y5.out.out.free0
      have q1 := Y5.out.out.free1
      have X8 := Lib.hid (show Bx m (.slice a2 zs.length c2) o ((w5.setCell ⟨w.heap.size, 0, none⟩ (.int .i64 m)).setCell ⟨w.heap.size, 1, none⟩ (.slice a2 zs.length c2)) from (X5.out.other (by omega) _).other (by omega) _)
      have Y8 := Lib.hid (show Bx m (.slice a2 zs.length c2) w.heap.size ((w5.setCell ⟨w.heap.size, 0, none⟩ (.int .i64 m)).setCell ⟨w.heap.size, 1, none⟩ (.slice a2 zs.length c2)) from (Y5.out.setN m).set (.slice a2 zs.length c2))
      have I8 := Lib.hid (show Ints (w.heap.size + 2) ((w5.setCell ⟨w.heap.size, 0, none⟩ (.int .i64 m)).setCell ⟨w.heap.size, 1, none⟩ (.slice a2 zs.length c2)) _ _ from (I5.out.setCell_below (a := ⟨w.heap.size, 0, none⟩) (by simp) _).setCell_below (a := ⟨w.heap.size, 1, none⟩) (by simp) _)
      have R8 := Lib.hid (show Rdr (w.heap.size + 1 + 1) (w.heap.size + 1) p4 ((w5.setCell ⟨w.heap.size, 0, none⟩ (.int .i64 m)).setCell ⟨w.heap.size, 1, none⟩ (.slice a2 zs.length c2)) from (R5.out.bx Y5.out (by omega) 0 _).bx (Y5.out.setN m) (by omega) 1 _)
      have B8 := Lib.hid (show Below w.heap.size w ((w5.setCell ⟨w.heap.size, 0, none⟩ (.int .i64 m)).setCell ⟨w.heap.size, 1, none⟩ (.slice a2 zs.length c2)) from (B5.out.setCell (Nat.le_refl _) _).setCell (Nat.le_refl _) _)
      have z0 := X8.out.out.at0
      have z1 := X8.out.out.at1
      go_wp2_with fail
      go_region_law (go_simp; go_at_call 94; refine (specSetOf (w.heap.size + 2) (w.heap.size + 1 + 1) (w.heap.size + 1) p4 m a2 c2 zs (by omega) (by omega) _ (by first | exact R5.out | exact R5.out.drew | exact R8.out | exact R8.out.drew) (by first | exact I5.out | exact I8.out)).mono ?_; rintro e w9 ⟨s, p9, rfl, hp9, hr9, hg9⟩; (first | (have G9 : w5.grownBy w9 (some (w.heap.size + 1)) := (by first | exact hg9 | exact ⟨hg9.os, hg9.tape, hg9.output, hg9.size, hg9.block⟩); have X9 := Lib.hid (X5.out.kept G9 (by simp; omega)); have Y9 := Lib.hid (Y5.out.kept G9 (by simp)); have I9 := Lib.hid (I5.out.pick (by omega) G9); have B9 := Lib.hid (B5.out.grown G9 (by omega) (fun k hk => by cases hk; omega)); have y0 := Y9.out.out.at0; have y1 := Y9.out.out.at1; have f0 := Y9.out.out.free0; have f1 := Y9.out.out.free1; have u0 := X9.out.out.at0; have u1 := X9.out.out.at1; clear G9 hg9 hr9) | (have G9 : ((w5.setCell ⟨w.heap.size, 0, none⟩ (.int .i64 m)).setCell ⟨w.heap.size, 1, none⟩ (.slice a2 zs.length c2)).grownBy w9 (some (w.heap.size + 1)) := (by first | exact hg9 | exact ⟨hg9.os, hg9.tape, hg9.output, hg9.size, hg9.block⟩); have X9 := Lib.hid (X8.out.kept G9 (by simp; omega)); have Y9 := Lib.hid (Y8.out.kept G9 (by simp)); have I9 := Lib.hid (I8.out.pick (by omega) G9); have B9 := Lib.hid (B8.out.grown G9 (by simp; omega) (fun k hk => by cases hk; omega)); have y0 := Y9.out.out.at0; have y1 := Y9.out.out.at1; have f0 := Y9.out.out.free0; have f1 := Y9.out.out.free1; have u0 := X9.out.out.at0; have u1 := X9.out.out.at1; clear G9 hg9 hr9)))
      all_goals
        go_wp2_with fail
        refine bodyPost_ret (v := .tuple #[.agg #[.int .i64 m, .slice a2 zs.length c2], .int .i64 t, .int .i64 s]) (by simp [results, Tryd.results43, go_sem, y0, y1]) rfl ?_
        refine ⟨m, zs, t, s, ⟨by omega, by omega, by omega⟩, a2, c2, rfl, ?_, ?_⟩
        · refine Ints.mono (B := w.heap.size + 1) ?_ (by omega)
          repeat (refine Ints.setCell_below ?_ (by simp) _)
          exact I9.out.mono (by omega)
        · have hb0 := B9.out
          clear r0 r1 q0 q1 y0 y1 f0 f1 u0 u1 x0 x1 z0 z1
          go_grown
  · rw [Bool.not_eq_true] at hv
    rw [hv] at HV
    clear hv
    go_wp2_with fail
    refine HV.out.mono ?_
    rintro e w5 ⟨rfl, hb5⟩
    have hz5 := hb5.size
    have X5 := Lib.hid (X4.out.next hb5 X4.out.lt)
    have Y5 := Lib.hid (Y4.out.next hb5 Y4.out.lt)
    have I5 := Lib.hid (I4.out.below hb5 (Nat.le_refl _))
    have R5 := Lib.hid (R4.out.next hb5 (by omega))
    have B5 := Lib.hid (B4.out.trans (hb5.mono (by omega)))
    clear hb5 x0 x1 X4 Y4 I4 R4 B4 HV
    have x0 := X5.out.out.at0
    have x1 := X5.out.out.at1
    have r0 := Y5.out.out.at0
    have r1 := Y5.out.out.at1
    have q0 := Y5.out.out.free0
    have q1 := Y5.out.out.free1
    have X8 := Lib.hid (show Bx m (.slice a2 zs.length c2) o ((w5.setCell ⟨w.heap.size, 0, none⟩ (.int .i64 m)).setCell ⟨w.heap.size, 1, none⟩ (.slice a2 zs.length c2)) from (X5.out.other (by omega) _).other (by omega) _)
    have Y8 := Lib.hid (show Bx m (.slice a2 zs.length c2) w.heap.size ((w5.setCell ⟨w.heap.size, 0, none⟩ (.int .i64 m)).setCell ⟨w.heap.size, 1, none⟩ (.slice a2 zs.length c2)) from (Y5.out.setN m).set (.slice a2 zs.length c2))
    have I8 := Lib.hid (show Ints (w.heap.size + 2) ((w5.setCell ⟨w.heap.size, 0, none⟩ (.int .i64 m)).setCell ⟨w.heap.size, 1, none⟩ (.slice a2 zs.length c2)) _ _ from (I5.out.setCell_below (a := ⟨w.heap.size, 0, none⟩) (by simp) _).setCell_below (a := ⟨w.heap.size, 1, none⟩) (by simp) _)
    have R8 := Lib.hid (show Rdr (w.heap.size + 1 + 1) (w.heap.size + 1) p4 ((w5.setCell ⟨w.heap.size, 0, none⟩ (.int .i64 m)).setCell ⟨w.heap.size, 1, none⟩ (.slice a2 zs.length c2)) from (R5.out.bx Y5.out (by omega) 0 _).bx (Y5.out.setN m) (by omega) 1 _)
    have B8 := Lib.hid (show Below w.heap.size w ((w5.setCell ⟨w.heap.size, 0, none⟩ (.int .i64 m)).setCell ⟨w.heap.size, 1, none⟩ (.slice a2 zs.length c2)) from (B5.out.setCell (Nat.le_refl _) _).setCell (Nat.le_refl _) _)
    have z0 := X8.out.out.at0
    have z1 := X8.out.out.at1
    go_wp2_with fail
    go_region_law (go_simp; go_at_call 94; refine (specSetOf (w.heap.size + 2) (w.heap.size + 1 + 1) (w.heap.size + 1) p4 m a2 c2 zs (by omega) (by omega) _ (by first | exact R5.out | exact R5.out.drew | exact R8.out | exact R8.out.drew) (by first | exact I5.out | exact I8.out)).mono ?_; rintro e w9 ⟨s, p9, rfl, hp9, hr9, hg9⟩; (first | (have G9 : w5.grownBy w9 (some (w.heap.size + 1)) := (by first | exact hg9 | exact ⟨hg9.os, hg9.tape, hg9.output, hg9.size, hg9.block⟩); have X9 := Lib.hid (X5.out.kept G9 (by simp; omega)); have Y9 := Lib.hid (Y5.out.kept G9 (by simp)); have I9 := Lib.hid (I5.out.pick (by omega) G9); have B9 := Lib.hid (B5.out.grown G9 (by omega) (fun k hk => by cases hk; omega)); have y0 := Y9.out.out.at0; have y1 := Y9.out.out.at1; have f0 := Y9.out.out.free0; have f1 := Y9.out.out.free1; have u0 := X9.out.out.at0; have u1 := X9.out.out.at1; clear G9 hg9 hr9) | (have G9 : ((w5.setCell ⟨w.heap.size, 0, none⟩ (.int .i64 m)).setCell ⟨w.heap.size, 1, none⟩ (.slice a2 zs.length c2)).grownBy w9 (some (w.heap.size + 1)) := (by first | exact hg9 | exact ⟨hg9.os, hg9.tape, hg9.output, hg9.size, hg9.block⟩); have X9 := Lib.hid (X8.out.kept G9 (by simp; omega)); have Y9 := Lib.hid (Y8.out.kept G9 (by simp)); have I9 := Lib.hid (I8.out.pick (by omega) G9); have B9 := Lib.hid (B8.out.grown G9 (by simp; omega) (fun k hk => by cases hk; omega)); have y0 := Y9.out.out.at0; have y1 := Y9.out.out.at1; have f0 := Y9.out.out.free0; have f1 := Y9.out.out.free1; have u0 := X9.out.out.at0; have u1 := X9.out.out.at1; clear G9 hg9 hr9)))
    all_goals
      go_wp2_with fail
      refine bodyPost_ret (v := .tuple #[.agg #[.int .i64 m, .slice a2 zs.length c2], .int .i64 t, .int .i64 s]) (by simp [results, Tryd.results43, go_sem, y0, y1]) rfl ?_
      refine ⟨m, zs, t, s, ⟨by omega, by omega, by omega⟩, a2, c2, rfl, ?_, ?_⟩
      · refine Ints.mono (B := w.heap.size + 1) ?_ (by omega)
        repeat (refine Ints.setCell_below ?_ (by simp) _)
        exact I9.out.mono (by omega)
      · have hb0 := B9.out
        clear r0 r1 q0 q1 y0 y1 f0 f1 u0 u1 x0 x1 z0 z1
        go_grown

end Go.Proofs.YtiocaopabkbgpaaDoor
