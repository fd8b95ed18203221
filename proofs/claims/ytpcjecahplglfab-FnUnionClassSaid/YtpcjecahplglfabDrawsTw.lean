/- What the laws of UnionClass and MeetClass draw: two classes. Conditions: the code is a slice of bytes. -/
import Derived.Test.YtpcjecahplglfabTwo
namespace Go.Proofs.Ytpcjecahplglfab
open Go.RowKit

/-- two classes are drawn, and nothing that was there is changed -/
def GotCC (w : World) (e : Ending) (w' : World) : Prop := ∃ (n1 n2 : Int) (z1 z2 : List Int) (a1 a2 : Option Addr) (c1 c2 : Nat),
  e = .returned (.tuple #[.agg #[.int .i64 n1, .slice a1 z1.length c1], .agg #[.int .i64 n2, .slice a2 z2.length c2]]) ∧ (-8 ≤ n1 ∧ n1 ≤ 8 ∧ z1.length ≤ 34) ∧ (-8 ≤ n2 ∧ n2 ≤ 8 ∧ z2.length ≤ 34) ∧
  Ints w.heap.size w' (.slice a1 z1.length c1) z1 ∧ Ints w.heap.size w' (.slice a2 z2.length c2) z2 ∧ Below w.heap.size w w'

set_option maxHeartbeats 1600000 in
set_option maxRecDepth 100000 in
theorem dDrawUnionClass (a : Option Addr) (b off n cap : Nat) (w : World) (hc : n ≤ cap) (hn : n ≤ 1048576) (hcap : cap ≤ maxLen) (h : Byt w a b off n) :
    Calls Try.prog 19 #[.slice a n cap] w (GotCC w) := by
  have HN := Lib.hid (specNewReader a b off n cap ((w.alloc (Obj.cells #[.int .i64 0, .slice none 0 0] 26)).alloc (Obj.cells #[.int .i64 0, .slice none 0 0] 26)) hc hn hcap ((h.kept (World.grownBy_alloc _ _ none) (by simp)).kept (World.grownBy_alloc _ _ none) (by simp)))
  have Y1 := Lib.hid (show Bx 0 (.slice none 0 0) w.heap.size ((w.alloc (Obj.cells #[.int .i64 0, .slice none 0 0] 26)).alloc (Obj.cells #[.int .i64 0, .slice none 0 0] 26)) from (Bx.new _ _ _).alloc _)
  have Y2 := Lib.hid (show Bx 0 (.slice none 0 0) (w.heap.size + 1) ((w.alloc (Obj.cells #[.int .i64 0, .slice none 0 0] 26)).alloc (Obj.cells #[.int .i64 0, .slice none 0 0] 26)) from heap_alloc_at (by simp))
  have G := Lib.hid (show w.grownBy ((w.alloc (Obj.cells #[.int .i64 0, .slice none 0 0] 26)).alloc (Obj.cells #[.int .i64 0, .slice none 0 0] 26)) none from grownBy_trans (World.grownBy_alloc _ _ _) (World.grownBy_alloc _ _ _))
  have HZ := Lib.hid (show ((w.alloc (Obj.cells #[.int .i64 0, .slice none 0 0] 26)).alloc (Obj.cells #[.int .i64 0, .slice none 0 0] 26)).heap.size = w.heap.size + 2 by simp)
  clear h
  go_enter Try.func19, Try.ntmps19
  go_wp2_with fail
  generalize ((w.alloc (Obj.cells #[.int .i64 0, .slice none 0 0] 26)).alloc (Obj.cells #[.int .i64 0, .slice none 0 0] 26)) = w0 at *
  refine HN.out.mono ?_
  rintro e w1 ⟨rfl, hr, hg⟩
  have HS := Lib.hid (specTwoClasses _ _ 0 (by omega) w1 hr)
  rw [HZ.out] at HS
  have hz1 := hg.size
  have hz0 := HZ.out
  replace G := Lib.hid (grownBy_trans G.out hg)
  replace Y1 := Lib.hid (Y1.out.kept hg (by simp))
  replace Y2 := Lib.hid (Y2.out.kept hg (by simp))
  clear hr hg HN
  go_wp2_with fail
  refine HS.out.mono ?_
  rintro e w2 ⟨n1, n2, z1, z2, a1, a2, c1, c2, rfl, b1, b2, h1, h2, hg2⟩
  have hz2 := hg2.size
  have I1 := Lib.hid (h1.mono (show w.heap.size + 2 ≤ w1.heap.size by omega))
  have I2 := Lib.hid (h2.mono (show w.heap.size + 2 ≤ w1.heap.size by omega))
  replace Y1 := Lib.hid (Y1.out.kept hg2 (by simp))
  replace Y2 := Lib.hid (Y2.out.kept hg2 (by simp))
  have B := Lib.hid (show Below w.heap.size w w2 from ((Below.refl _ _).grown G.out (Nat.le_refl _) (fun k hk => by cases hk)).grown hg2 (by omega) (fun k hk => by cases hk; omega))
  clear h1 h2 hg2 HS G
  have r0 := Y1.out.out.at0
  have r1 := Y1.out.out.at1
  have q0 := Y1.out.out.free0
  have q1 := Y1.out.out.free1
  have s0 := Y2.out.out.at0
  have s1 := Y2.out.out.at1
  have t0 := Y2.out.out.free0
  have t1 := Y2.out.out.free1
  go_wp2_with fail
  refine bodyPost_ret (v := .tuple #[.agg #[.int .i64 n1, .slice a1 z1.length c1], .agg #[.int .i64 n2, .slice a2 z2.length c2]]) (by simp [results, Try.results19, go_sem, r0, r1, s0, s1]) rfl ?_
  refine ⟨n1, n2, z1, z2, a1, a2, c1, c2, rfl, b1, b2, ?_, ?_, ?_⟩
  · refine Ints.mono (B := w.heap.size + 2) ?_ (by omega)
    repeat (refine Ints.setCell_below ?_ (by simp) _)
    exact I1.out
  · refine Ints.mono (B := w.heap.size + 2) ?_ (by omega)
    repeat (refine Ints.setCell_below ?_ (by simp) _)
    exact I2.out
  · have hb0 := B.out
    clear r0 r1 q0 q1 s0 s1 t0 t1
    go_grown

set_option maxHeartbeats 1600000 in
set_option maxRecDepth 100000 in
theorem dDrawMeetClass (a : Option Addr) (b off n cap : Nat) (w : World) (hc : n ≤ cap) (hn : n ≤ 1048576) (hcap : cap ≤ maxLen) (h : Byt w a b off n) :
    Calls Try.prog 24 #[.slice a n cap] w (GotCC w) := by
  have HN := Lib.hid (specNewReader a b off n cap ((w.alloc (Obj.cells #[.int .i64 0, .slice none 0 0] 26)).alloc (Obj.cells #[.int .i64 0, .slice none 0 0] 26)) hc hn hcap ((h.kept (World.grownBy_alloc _ _ none) (by simp)).kept (World.grownBy_alloc _ _ none) (by simp)))
  have Y1 := Lib.hid (show Bx 0 (.slice none 0 0) w.heap.size ((w.alloc (Obj.cells #[.int .i64 0, .slice none 0 0] 26)).alloc (Obj.cells #[.int .i64 0, .slice none 0 0] 26)) from (Bx.new _ _ _).alloc _)
  have Y2 := Lib.hid (show Bx 0 (.slice none 0 0) (w.heap.size + 1) ((w.alloc (Obj.cells #[.int .i64 0, .slice none 0 0] 26)).alloc (Obj.cells #[.int .i64 0, .slice none 0 0] 26)) from heap_alloc_at (by simp))
  have G := Lib.hid (show w.grownBy ((w.alloc (Obj.cells #[.int .i64 0, .slice none 0 0] 26)).alloc (Obj.cells #[.int .i64 0, .slice none 0 0] 26)) none from grownBy_trans (World.grownBy_alloc _ _ _) (World.grownBy_alloc _ _ _))
  have HZ := Lib.hid (show ((w.alloc (Obj.cells #[.int .i64 0, .slice none 0 0] 26)).alloc (Obj.cells #[.int .i64 0, .slice none 0 0] 26)).heap.size = w.heap.size + 2 by simp)
  clear h
  go_enter Try.func24, Try.ntmps24
  go_wp2_with fail
  generalize ((w.alloc (Obj.cells #[.int .i64 0, .slice none 0 0] 26)).alloc (Obj.cells #[.int .i64 0, .slice none 0 0] 26)) = w0 at *
  refine HN.out.mono ?_
  rintro e w1 ⟨rfl, hr, hg⟩
  have HS := Lib.hid (specTwoClasses _ _ 0 (by omega) w1 hr)
  rw [HZ.out] at HS
  have hz1 := hg.size
  have hz0 := HZ.out
  replace G := Lib.hid (grownBy_trans G.out hg)
  replace Y1 := Lib.hid (Y1.out.kept hg (by simp))
  replace Y2 := Lib.hid (Y2.out.kept hg (by simp))
  clear hr hg HN
  go_wp2_with fail
  refine HS.out.mono ?_
  rintro e w2 ⟨n1, n2, z1, z2, a1, a2, c1, c2, rfl, b1, b2, h1, h2, hg2⟩
  have hz2 := hg2.size
  have I1 := Lib.hid (h1.mono (show w.heap.size + 2 ≤ w1.heap.size by omega))
  have I2 := Lib.hid (h2.mono (show w.heap.size + 2 ≤ w1.heap.size by omega))
  replace Y1 := Lib.hid (Y1.out.kept hg2 (by simp))
  replace Y2 := Lib.hid (Y2.out.kept hg2 (by simp))
  have B := Lib.hid (show Below w.heap.size w w2 from ((Below.refl _ _).grown G.out (Nat.le_refl _) (fun k hk => by cases hk)).grown hg2 (by omega) (fun k hk => by cases hk; omega))
  clear h1 h2 hg2 HS G
  have r0 := Y1.out.out.at0
  have r1 := Y1.out.out.at1
  have q0 := Y1.out.out.free0
  have q1 := Y1.out.out.free1
  have s0 := Y2.out.out.at0
  have s1 := Y2.out.out.at1
  have t0 := Y2.out.out.free0
  have t1 := Y2.out.out.free1
  go_wp2_with fail
  refine bodyPost_ret (v := .tuple #[.agg #[.int .i64 n1, .slice a1 z1.length c1], .agg #[.int .i64 n2, .slice a2 z2.length c2]]) (by simp [results, Try.results24, go_sem, r0, r1, s0, s1]) rfl ?_
  refine ⟨n1, n2, z1, z2, a1, a2, c1, c2, rfl, b1, b2, ?_, ?_, ?_⟩
  · refine Ints.mono (B := w.heap.size + 2) ?_ (by omega)
    repeat (refine Ints.setCell_below ?_ (by simp) _)
    exact I1.out
  · refine Ints.mono (B := w.heap.size + 2) ?_ (by omega)
    repeat (refine Ints.setCell_below ?_ (by simp) _)
    exact I2.out
  · have hb0 := B.out
    clear r0 r1 q0 q1 s0 s1 t0 t1
    go_grown

end Go.Proofs.Ytpcjecahplglfab
