/- What the laws of chapter 1 draw, further: a class and a point. Conditions: the code is a slice of bytes. -/
import Derived.Test.YtiocaopabkbgpaaDoorZK
namespace Go.Proofs.YtiocaopabkbgpaaDoor
open Go.RowKit

set_option maxHeartbeats 3200000 in
set_option maxRecDepth 100000 in
theorem specPointOf (B R p : Nat) (n : Int) (a : Option Addr) (cap l : Nat) (hp : p ≤ 90000) (hn : n ≤ 100) (w : World) (h : Rdr B R p w) :
    Calls Tryd.prog 64 #[.pointer (some ⟨R, 0, none⟩), .agg #[.int .i64 n, .slice a l cap]] w (GotInt B R (p + 2) w) := by
  have hRB := h.1
  have hBw := h.2.1
  have HX := Lib.hid (show Bx n (.slice a l cap) w.heap.size (w.alloc (Obj.cells #[.int .i64 n, .slice a l cap] 25)) from Bx.new _ _ _)
  have HR := Lib.hid (show Rdr B R p (w.alloc (Obj.cells #[.int .i64 n, .slice a l cap] 25)) from h.alloc _)
  have HG := Lib.hid (show w.grownBy (w.alloc (Obj.cells #[.int .i64 n, .slice a l cap] 25)) (some R) from World.grownBy_alloc _ _ _)
  have HZ := Lib.hid (show (w.alloc (Obj.cells #[.int .i64 n, .slice a l cap] 25)).heap.size = w.heap.size + 1 by simp)
  clear h
  go_enter Tryd.func64, Tryd.ntmps64
  go_wp2_with fail
  generalize (w.alloc (Obj.cells #[.int .i64 n, .slice a l cap] 25)) = w1 at *
  have hz1 := HZ.out
  refine (specPick B R p 24 (by omega) _ HR.out).mono ?_
  rintro e w2 ⟨⟨x, rfl, hx⟩, hr2, hg2⟩
  have hz2 := hg2.size
  have HX2 := Lib.hid (HX.out.kept hg2 (by simp; omega))
  have HR2 := Lib.hid hr2
  have HG2 := Lib.hid (grownBy_trans HG.out hg2)
  have hRw2 := HR2.out.2.1
  clear hr2 hg2 HX HR HG
  have x0 := HX2.out.out.at0
  by_cases hx0 : x = 0
  · subst hx0
    have HO := Lib.hid (specOne B R (p + 1) (some ⟨w2.heap.size, 0, none⟩) 3 [-1, 5, n] (by omega) (by simp) (w2.alloc (Obj.cells #[.int .i64 (-1), .int .i64 5, .int .i64 n] 3)) (HR2.out.alloc _) (rdLit w2 [-1, 5, n] #[.int .i64 (-1), .int .i64 5, .int .i64 n] rfl (by simp)) (fun b' o e => by cases e; omega))
    go_wp2_with fail
    refine HO.out.mono ?_
    rintro e w8 ⟨⟨i, hi, rfl⟩, hr8, hg8⟩
    have HR8 := Lib.hid hr8
    have HG8 := Lib.hid (grownBy_trans (grownBy_trans HG2.out (World.grownBy_alloc _ _ _)) hg8)
    clear hr8 hg8 HO
    generalize ([-1, 5, n] : List Int).getD i 0 = v at *
    go_wp2_with fail
    go_ret
    exact ⟨v, _, rfl, by omega, HR8.out, HG8.out⟩
  · have hxb : ((x : Int) == 0) = false := by simpa using (show ¬ (x : Int) = 0 by omega)
    by_cases hd : n < 1
    all_goals
      go_wp2_with fail
      refine (specPick B R (p + 1) _ (by omega) _ HR2.out).mono ?_
      rintro e w8 ⟨⟨y, rfl, hy⟩, hr8, hg8⟩
      have HR8 := Lib.hid hr8
      have HG8 := Lib.hid (grownBy_trans HG2.out hg8)
      clear hr8 hg8
      go_wp2_with fail
      go_ret
      exact ⟨(y : Int), _, rfl, by omega, HR8.out, HG8.out⟩





end Go.Proofs.YtiocaopabkbgpaaDoor
