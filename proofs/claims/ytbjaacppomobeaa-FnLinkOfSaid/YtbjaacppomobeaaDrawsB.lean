/- What the laws of chapter 1 draw, further: a class and a point. Conditions: the code is a slice of bytes. -/
import Derived.Test.YtbjaacppomobeaaZK
namespace Go.Proofs.Ytbjaacppomobeaa
open Go.RowKit

set_option maxHeartbeats 3200000 in
set_option maxRecDepth 100000 in
theorem specPointOf (B R p : Nat) (n : Int) (a : Option Addr) (cap l : Nat) (hp : p ≤ 90000) (hn : n ≤ 100) (w : World) (h : Rdr B R p w) :
    Calls Try.prog 72 #[.pointer (some ⟨R, 0, none⟩), .agg #[.int .i64 n, .slice a l cap]] w (GotInt B R (p + 2) w) := by
  have hRB := h.1
  have hBw := h.2.1
  have HX := Lib.hid (show Bx n (.slice a l cap) w.heap.size (w.alloc (Obj.cells #[.int .i64 n, .slice a l cap] 28)) from Bx.new _ _ _)
  have HR := Lib.hid (show Rdr B R p (w.alloc (Obj.cells #[.int .i64 n, .slice a l cap] 28)) from h.alloc _)
  have HG := Lib.hid (show w.grownBy (w.alloc (Obj.cells #[.int .i64 n, .slice a l cap] 28)) (some R) from World.grownBy_alloc _ _ _)
  have HZ := Lib.hid (show (w.alloc (Obj.cells #[.int .i64 n, .slice a l cap] 28)).heap.size = w.heap.size + 1 by simp)
  clear h
  go_enter Try.func72, Try.ntmps72
  go_wp2_with fail
  generalize (w.alloc (Obj.cells #[.int .i64 n, .slice a l cap] 28)) = w1 at *
  have hz1 := HZ.out
  refine (specPick B R p 24 (by omega) _ HR.out).mono ?_
  rintro e w2 ⟨⟨x, rfl, hx⟩, hr2, hg2⟩
  have hz2 := hg2.size
  have HX2 := Lib.hid (HX.out.kept hg2 (by simp; omega))
  have HR2 := Lib.hid hr2
  have HG2 := Lib.hid (grownBy_trans HG.out hg2)
  have hRw2 := HR2.out.2.1
  clear hr2 hg2 HX HR HG
  have x0 := HX2.out.out.at0
  by_cases hx0 : x = 0
  · subst hx0
    have HO := Lib.hid (specOne B R (p + 1) (some ⟨w2.heap.size, 0, none⟩) 3 [-1, 5, n] (by omega) (by simp) (w2.alloc (Obj.cells #[.int .i64 (-1), .int .i64 5, .int .i64 n] 3)) (HR2.out.alloc _) (rdLit w2 [-1, 5, n] #[.int .i64 (-1), .int .i64 5, .int .i64 n] rfl (by simp)) (fun b' o e => by cases e; omega))
    go_wp2_with fail
    refine HO.out.mono ?_
    rintro e w8 ⟨⟨i, hi, rfl⟩, hr8, hg8⟩
    have HR8 := Lib.hid hr8
    have HG8 := Lib.hid (grownBy_trans (grownBy_trans HG2.out (World.grownBy_alloc _ _ _)) hg8)
    clear hr8 hg8 HO
    generalize ([-1, 5, n] : List Int).getD i 0 = v at *
    go_wp2_with fail
    go_ret
    exact ⟨v, _, rfl, by omega, HR8.out, HG8.out⟩
  · have hxb : ((x : Int) == 0) = false := by simpa using (show ¬ (x : Int) = 0 by omega)
    by_cases hd : n < 1
    all_goals
      go_wp2_with fail
      refine (specPick B R (p + 1) _ (by omega) _ HR2.out).mono ?_
      rintro e w8 ⟨⟨y, rfl, hy⟩, hr8, hg8⟩
      have HR8 := Lib.hid hr8
      have HG8 := Lib.hid (grownBy_trans HG2.out hg8)
      clear hr8 hg8
      go_wp2_with fail
      go_ret
      exact ⟨(y : Int), _, rfl, by omega, HR8.out, HG8.out⟩

set_option maxHeartbeats 3200000 in
set_option maxRecDepth 100000 in
theorem dDrawShiftClass (a : Option Addr) (b off n cap : Nat) (w : World) (hc : n ≤ cap) (hn : n ≤ 1048576) (hcap : cap ≤ maxLen) (h : Byt w a b off n) :
    Calls Try.prog 28 #[.slice a n cap] w (GotCI w) := by
  have HN := Lib.hid (specNewReader a b off n cap (w.alloc (Obj.cells #[.int .i64 0, .slice none 0 0] 28)) hc hn hcap (h.kept (World.grownBy_alloc _ _ none) (by simp)))
  have HY := Lib.hid (Bx.new 0 (.slice none 0 0) w)
  have HZ := Lib.hid (show (w.alloc (Obj.cells #[.int .i64 0, .slice none 0 0] 28)).heap.size = w.heap.size + 1 by simp)
  clear h
  go_enter Try.func28, Try.ntmps28
  go_wp2_with fail
  refine HN.out.mono ?_
  rintro e w1 ⟨rfl, hr, hg⟩
  have HS := Lib.hid (specSomeClass _ _ 0 (by omega) w1 hr)
  have hz1 := hr.2.1
  have HG1 := Lib.hid (show w.grownBy w1 none from grownBy_trans (World.grownBy_alloc _ _ _) hg)
  have HY1 := Lib.hid (HY.out.kept hg (by simp))
  rw [HZ.out] at HS hz1
  clear hr hg HN
  go_wp2_with fail
  refine HS.out.mono ?_
  rintro e w2 ⟨m, a2, c2, p2, zs, rfl, hin2, ⟨hn0, hn1, hl2⟩, hp2, hr2, hg2⟩
  have hz2 := hg2.size
  have HI2 := Lib.hid (hin2.mono (show w.heap.size + 2 ≤ w1.heap.size by omega))
  have HY2 := Lib.hid (HY1.out.kept hg2 (by simp))
  have B2 := Lib.hid (show Below w.heap.size w w2 from ((Below.refl _ _).grown HG1.out (Nat.le_refl _) (fun k hk => by cases hk)).grown hg2 (by omega) (fun k hk => by cases hk; omega))
  have HR2 := Lib.hid hr2
  clear hin2 hr2 hg2 HS
  go_wp2_with fail
  have HX3 := Lib.hid (Bx.new m (.slice a2 zs.length c2) w2)
  have HY3 := Lib.hid (HY2.out.alloc (Obj.cells #[.int .i64 m, .slice a2 zs.length c2] 28))
  have HI3 := Lib.hid (HI2.out.alloc (Obj.cells #[.int .i64 m, .slice a2 zs.length c2] 28))
  have HR3 := Lib.hid (HR2.out.alloc (Obj.cells #[.int .i64 m, .slice a2 zs.length c2] 28))
  have B3 := Lib.hid (B2.out.alloc (by omega) (Obj.cells #[.int .i64 m, .slice a2 zs.length c2] 28))
  have HZ3 := Lib.hid (show (w2.alloc (Obj.cells #[.int .i64 m, .slice a2 zs.length c2] 28)).heap.size = w2.heap.size + 1 by simp)
  generalize (w2.alloc (Obj.cells #[.int .i64 m, .slice a2 zs.length c2] 28)) = w3 at *
  have hz3 := HZ3.out
  generalize ho : w2.heap.size = o at *
  have x0 := HX3.out.out.at0
  have x1 := HX3.out.out.at1
  have r0 := HY3.out.out.at0
  have r1 := HY3.out.out.at1
  have q0 := HY3.out.out.free0
  have q1 := HY3.out.out.free1
  go_region_law (go_simp; go_at_call 72; refine (specPointOf (w.heap.size + 1 + 1) (w.heap.size + 1) p2 m a2 c2 zs.length (by omega) (by omega) _ (by first | exact HR3.out | exact HR3.out.drew)).mono ?_; rintro e w5 ⟨s, p5, rfl, hp5, hr5, hg5⟩; have G5 : w3.grownBy w5 (some (w.heap.size + 1)) := (by first | exact hg5 | exact ⟨hg5.os, hg5.tape, hg5.output, hg5.size, hg5.block⟩); have X5 := Lib.hid (HX3.out.kept G5 (by simp; omega)); have Y5 := Lib.hid (HY3.out.kept G5 (by simp)); have I5 := Lib.hid (HI3.out.pick (by omega) G5); have B5 := Lib.hid (B3.out.grown G5 (by omega) (fun k hk => by cases hk; omega)); have y0 := Y5.out.out.at0; have y1 := Y5.out.out.at1; have f0 := Y5.out.out.free0; have f1 := Y5.out.out.free1; have u0 := X5.out.out.at0; have u1 := X5.out.out.at1; clear G5 hg5 hr5)
  all_goals
    go_wp2_with fail
    refine bodyPost_ret (v := .tuple #[.agg #[.int .i64 m, .slice a2 zs.length c2], .int .i64 s]) (by simp [results, Try.results28, go_sem, y0, y1]) rfl ?_
    refine ⟨m, zs, s, ⟨by omega, by omega, by omega⟩, a2, c2, rfl, ?_, ?_⟩
    · refine Ints.mono (B := w.heap.size + 1) ?_ (by omega)
      repeat (refine Ints.setCell_below ?_ (by simp) _)
      exact I5.out.mono (by omega)
    · have hb0 := B5.out
      clear r0 r1 q0 q1 y0 y1 f0 f1 u0 u1 x0 x1
      go_grown




end Go.Proofs.Ytbjaacppomobeaa
