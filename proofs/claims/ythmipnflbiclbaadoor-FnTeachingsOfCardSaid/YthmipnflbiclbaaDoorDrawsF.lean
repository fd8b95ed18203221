/- What the law of FirstTeaching draws: a class and one of its sets. Conditions: the code is a slice of bytes. -/
import Derived.Test.YthmipnflbiclbaaDoorOneOf
import Derived.Test.YthmipnflbiclbaaDoorZK
namespace Go.Proofs.YthmipnflbiclbaaDoor
open Go.RowKit

set_option maxHeartbeats 3200000 in
set_option maxRecDepth 100000 in
theorem dDrawFirstTeaching (a : Option Addr) (b off n cap : Nat) (w : World) (hc : n ≤ cap) (hn : n ≤ 1048576) (hcap : cap ≤ maxLen) (h : Byt w a b off n) :
    Calls Tryd.prog 89 #[.slice a n cap] w (GotCI w) := by
  have HN := Lib.hid (specNewReader a b off n cap (w.alloc (Obj.cells #[.int .i64 0, .slice none 0 0] 25)) hc hn hcap (h.kept (World.grownBy_alloc _ _ none) (by simp)))
  have HY := Lib.hid (Bx.new 0 (.slice none 0 0) w)
  have HZ := Lib.hid (show (w.alloc (Obj.cells #[.int .i64 0, .slice none 0 0] 25)).heap.size = w.heap.size + 1 by simp)
  clear h
  go_enter Tryd.func89, Tryd.ntmps89
  go_wp2_with fail
  refine HN.out.mono ?_
  rintro e w1 ⟨rfl, hr, hg⟩
  have HS := Lib.hid (specSomeClass _ _ 0 (by omega) w1 hr)
  have hz1 := hr.2.1
  have HG1 := Lib.hid (show w.grownBy w1 none from grownBy_trans (World.grownBy_alloc _ _ _) hg)
  have HY1 := Lib.hid (HY.out.kept hg (by simp))
  rw [HZ.out] at HS hz1
  clear hr hg HN
  go_wp2_with fail
  refine HS.out.mono ?_
  rintro e w2 ⟨m, a2, c2, p2, zs, rfl, hin2, ⟨hn0, hn1, hl2⟩, hp2, hr2, hg2⟩
  have hz2 := hg2.size
  have HI2 := Lib.hid (hin2.mono (show w.heap.size + 2 ≤ w1.heap.size by omega))
  have HY2 := Lib.hid (HY1.out.kept hg2 (by simp))
  have B2 := Lib.hid (show Below w.heap.size w w2 from ((Below.refl _ _).grown HG1.out (Nat.le_refl _) (fun k hk => by cases hk)).grown hg2 (by omega) (fun k hk => by cases hk; omega))
  have HR2 := Lib.hid hr2
  clear hin2 hr2 hg2 HS
  go_wp2_with fail
  have HX3 := Lib.hid (Bx.new m (.slice a2 zs.length c2) w2)
  have HY3 := Lib.hid (HY2.out.alloc (Obj.cells #[.int .i64 m, .slice a2 zs.length c2] 25))
  have HI3 := Lib.hid (HI2.out.alloc (Obj.cells #[.int .i64 m, .slice a2 zs.length c2] 25))
  have HR3 := Lib.hid (HR2.out.alloc (Obj.cells #[.int .i64 m, .slice a2 zs.length c2] 25))
  have B3 := Lib.hid (B2.out.alloc (by omega) (Obj.cells #[.int .i64 m, .slice a2 zs.length c2] 25))
  have HZ3 := Lib.hid (show (w2.alloc (Obj.cells #[.int .i64 m, .slice a2 zs.length c2] 25)).heap.size = w2.heap.size + 1 by simp)
  generalize (w2.alloc (Obj.cells #[.int .i64 m, .slice a2 zs.length c2] 25)) = w3 at *
  have hz3 := HZ3.out
  generalize ho : w2.heap.size = o at *
  have x0 := HX3.out.out.at0
  have x1 := HX3.out.out.at1
  have r0 := HY3.out.out.at0
  have r1 := HY3.out.out.at1
  have q0 := HY3.out.out.free0
  have q1 := HY3.out.out.free1
  have HY4 := Lib.hid ((HY3.out.setN m).set (.slice a2 zs.length c2))
  have HX4 := Lib.hid (show Bx m (.slice a2 zs.length c2) o ((w3.setCell ⟨w.heap.size, 0, none⟩ (.int .i64 m)).setCell ⟨w.heap.size, 1, none⟩ (.slice a2 zs.length c2)) from (HX3.out.other (by omega) _).other (by omega) _)
  have HI4 := Lib.hid (show Ints (w.heap.size + 2) ((w3.setCell ⟨w.heap.size, 0, none⟩ (.int .i64 m)).setCell ⟨w.heap.size, 1, none⟩ (.slice a2 zs.length c2)) _ _ from (HI3.out.setCell_below (a := ⟨w.heap.size, 0, none⟩) (by simp) _).setCell_below (a := ⟨w.heap.size, 1, none⟩) (by simp) _)
  have HR4 := Lib.hid (show Rdr (w.heap.size + 1 + 1) (w.heap.size + 1) p2 ((w3.setCell ⟨w.heap.size, 0, none⟩ (.int .i64 m)).setCell ⟨w.heap.size, 1, none⟩ (.slice a2 zs.length c2)) from (HR3.out.bx HY3.out (by omega) 0 _).bx (HY3.out.setN m) (by omega) 1 _)
  have B4 := Lib.hid (show Below w.heap.size w ((w3.setCell ⟨w.heap.size, 0, none⟩ (.int .i64 m)).setCell ⟨w.heap.size, 1, none⟩ (.slice a2 zs.length c2)) from (B3.out.setCell (Nat.le_refl _) _).setCell (Nat.le_refl _) _)
  have z0 := HX4.out.out.at0
  have z1 := HX4.out.out.at1
  go_region_law (go_simp; go_at_call 121; refine (specOneOf (w.heap.size + 2) (w.heap.size + 1 + 1) (w.heap.size + 1) p2 m a2 c2 zs (by omega) (by omega) _ (by first | exact HR3.out | exact HR3.out.drew | exact HR4.out | exact HR4.out.drew) (by first | exact HI3.out | exact HI4.out) (by omega)).mono ?_; rintro e w5 ⟨s, p5, rfl, hp5, hr5, hg5⟩; (first | (have G5 : w3.grownBy w5 (some (w.heap.size + 1)) := (by first | exact hg5 | exact ⟨hg5.os, hg5.tape, hg5.output, hg5.size, hg5.block⟩); have X5 := Lib.hid (HX3.out.kept G5 (by simp; omega)); have Y5 := Lib.hid (HY3.out.kept G5 (by simp)); have I5 := Lib.hid (HI3.out.pick (by omega) G5); have B5 := Lib.hid (B3.out.grown G5 (by omega) (fun k hk => by cases hk; omega)); have y0 := Y5.out.out.at0; have y1 := Y5.out.out.at1; have f0 := Y5.out.out.free0; have f1 := Y5.out.out.free1; have u0 := X5.out.out.at0; have u1 := X5.out.out.at1; clear G5 hg5 hr5) | (have G5 : ((w3.setCell ⟨w.heap.size, 0, none⟩ (.int .i64 m)).setCell ⟨w.heap.size, 1, none⟩ (.slice a2 zs.length c2)).grownBy w5 (some (w.heap.size + 1)) := (by first | exact hg5 | exact ⟨hg5.os, hg5.tape, hg5.output, hg5.size, hg5.block⟩); have X5 := Lib.hid (HX4.out.kept G5 (by simp; omega)); have Y5 := Lib.hid (HY4.out.kept G5 (by simp)); have I5 := Lib.hid (HI4.out.pick (by omega) G5); have B5 := Lib.hid (B4.out.grown G5 (by simp; omega) (fun k hk => by cases hk; omega)); have y0 := Y5.out.out.at0; have y1 := Y5.out.out.at1; have f0 := Y5.out.out.free0; have f1 := Y5.out.out.free1; have u0 := X5.out.out.at0; have u1 := X5.out.out.at1; clear G5 hg5 hr5)))
  all_goals
    go_wp2_with fail
    refine bodyPost_ret (v := .tuple #[.agg #[.int .i64 m, .slice a2 zs.length c2], .int .i64 s]) (by simp [results, Tryd.results89, go_sem, y0, y1]) rfl ?_
    refine ⟨m, zs, s, ⟨by omega, by omega, by omega⟩, a2, c2, rfl, ?_, ?_⟩
    · refine Ints.mono (B := w.heap.size + 1) ?_ (by omega)
      repeat (refine Ints.setCell_below ?_ (by simp) _)
      exact I5.out.mono (by omega)
    · have hb0 := B5.out
      clear r0 r1 q0 q1 y0 y1 f0 f1 u0 u1 x0 x1 z0 z1
      go_grown


end Go.Proofs.YthmipnflbiclbaaDoor
