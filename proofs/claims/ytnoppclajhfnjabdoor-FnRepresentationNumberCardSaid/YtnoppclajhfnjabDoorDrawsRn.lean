/- What the law of RepresentationNumber draws: a class of few sets, bent. Conditions: the code is a slice of bytes. -/
import Derived.Test.YtnoppclajhfnjabDoorBent
import Derived.Test.YtnoppclajhfnjabDoorFew
import Derived.Test.YtnoppclajhfnjabDoorZK
namespace Go.Proofs.YtnoppclajhfnjabDoor
open Go.RowKit

set_option maxHeartbeats 6400000 in
set_option maxRecDepth 100000 in
theorem dDrawRepresentationNumber (a : Option Addr) (b off n cap : Nat) (w : World) (hc : n ≤ cap) (hn : n ≤ 1048576) (hcap : cap ≤ maxLen) (h : Byt w a b off n) :
    Calls Tryd.prog 37 #[.slice a n cap] w (GotC w) := by
  have HN := Lib.hid (specNewReader a b off n cap (w.alloc (Obj.cells #[.int .i64 0, .slice none 0 0] 25)) hc hn hcap (h.kept (World.grownBy_alloc _ _ none) (by simp)))
  have HY := Lib.hid (Bx.new 0 (.slice none 0 0) w)
  have HZ := Lib.hid (show (w.alloc (Obj.cells #[.int .i64 0, .slice none 0 0] 25)).heap.size = w.heap.size + 1 by simp)
  clear h
  go_enter Tryd.func37, Tryd.ntmps37
  go_wp2_with fail
  refine HN.out.mono ?_
  rintro e w1 ⟨rfl, hr, hg⟩
  have HF := Lib.hid (specFewClass _ _ 0 (by omega) w1 hr)
  have hz1 := hr.2.1
  have HG1 := Lib.hid (show w.grownBy w1 none from grownBy_trans (World.grownBy_alloc _ _ _) hg)
  have HY1 := Lib.hid (HY.out.kept hg (by simp))
  rw [HZ.out] at HF hz1
  clear hr hg HN HZ
  go_wp2_with fail
  refine HF.out.mono ?_
  rintro e w2 ⟨n1, hn1, a2, c2, p2, ms, rfl, hin2, hcls, hp2, hr2, hg2⟩
  have hz2 := hg2.size
  have hl2 := hcls.length
  have HAl := Lib.hid (toI_length ms)
  have HB := Lib.hid (specBent w1.heap.size (w.heap.size + 1 + 1) (w.heap.size + 1) p2 6 32 (n1 : Int) a2 c2 (toI ms) (by omega) (by omega) (by omega) (by omega) (by omega) (by rw [toI_length]; exact hl2) (by omega) hz1 w2 w1 hz2 (Nat.le_refl _) hr2 (by rw [toI_length]; exact hin2) hg2)
  rw [HAl.out] at HB
  clear hin2 hcls hr2 hg2 HF HAl hl2
  go_wp2_with fail
  refine HB.out.mono ?_
  rintro e w3 ⟨m, a3, c3, p3, zs, rfl, hin3, ⟨hn0, hn2, hl3⟩, hp3, hr3, hg3⟩
  have HI3 := Lib.hid (hin3.mono hz1)
  have HY3 := Lib.hid (HY1.out.kept hg3 (by simp))
  have B3 := Lib.hid (show Below w.heap.size w w3 from ((Below.refl _ _).grown HG1.out (Nat.le_refl _) (fun k hk => by cases hk)).grown hg3 (by omega) (fun k hk => by cases hk; omega))
  clear hin3 hr3 hg3 HB HY1 HG1 HY
  have r0 := HY3.out.out.at0
  have r1 := HY3.out.out.at1
  have q0 := HY3.out.out.free0
  have q1 := HY3.out.out.free1
  go_wp2_with fail
  refine bodyPost_ret (v := .agg #[.int .i64 m, .slice a3 zs.length c3]) (by simp [results, Tryd.results37, go_sem, r0, r1]) rfl ?_
  refine ⟨m, zs, ⟨by omega, by omega, by omega⟩, a3, c3, rfl, ?_, ?_⟩
  · refine Ints.mono (B := w.heap.size + 1) ?_ (by omega)
    repeat (refine Ints.setCell_below ?_ (by simp) _)
    exact HI3.out.mono (by omega)
  · have hb0 := B3.out
    clear r0 r1 q0 q1
    go_grown

end Go.Proofs.YtnoppclajhfnjabDoor
