/- What the law of TeachingsOf draws: a class and one of its sets. Conditions: the code is a slice of bytes. -/
import Derived.Test.YthmipnflbiclbaaDoorDrawsF
namespace Go.Proofs.YthmipnflbiclbaaDoor
open Go.RowKit

set_option maxHeartbeats 1600000 in
set_option maxRecDepth 100000 in
theorem dDrawTeachingsOf (a : Option Addr) (b off n cap : Nat) (w : World) (hc : n ≤ cap) (hn : n ≤ 1048576) (hcap : cap ≤ maxLen) (h : Byt w a b off n) :
    Calls Tryd.prog 37 #[.slice a n cap] w (GotCI w) := by
  have HN := Lib.hid (dDrawFirstTeaching a b off n cap (w.alloc (Obj.cells #[.int .i64 0, .slice none 0 0] 25)) hc hn hcap (h.kept (World.grownBy_alloc _ _ none) (by simp)))
  have HY := Lib.hid (Bx.new 0 (.slice none 0 0) w)
  have HZ := Lib.hid (show (w.alloc (Obj.cells #[.int .i64 0, .slice none 0 0] 25)).heap.size = w.heap.size + 1 by simp)
  clear h
  go_enter Tryd.func37, Tryd.ntmps37
  go_wp2_with fail
  refine HN.out.mono ?_
  rintro e w1 ⟨m, zs, s, hbd, a1, c1, rfl, hin, hb⟩
  have HI1 := Lib.hid (show Ints (w.heap.size + 1) w1 _ _ from by simpa using hin)
  have HY1 := Lib.hid (HY.out.next hb (by simp))
  have B1 := Lib.hid (show Below w.heap.size w w1 from Below.trans ((Below.refl _ _).alloc (Nat.le_refl _) _) (hb.mono (by simp)))
  clear hin hb HN
  have r0 := HY1.out.out.at0
  have r1 := HY1.out.out.at1
  have q0 := HY1.out.out.free0
  have q1 := HY1.out.out.free1
  go_wp2_with fail
  refine bodyPost_ret (v := .tuple #[.agg #[.int .i64 m, .slice a1 zs.length c1], .int .i64 s]) (by simp [results, Tryd.results37, go_sem, r0, r1]) rfl ?_
  refine ⟨m, zs, s, hbd, a1, c1, rfl, ?_, ?_⟩
  · refine Ints.mono (B := w.heap.size + 1) ?_ (by omega)
    repeat (refine Ints.setCell_below ?_ (by simp) _)
    exact HI1.out
  · have hb0 := B1.out
    clear r0 r1 q0 q1
    go_grown


end Go.Proofs.YthmipnflbiclbaaDoor
