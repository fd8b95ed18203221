/- What the law of PackDistance draws: a class. Conditions: the code is a slice of bytes. -/
import Derived.Test.YtbjaacppomobeaaFew
import Derived.Test.YtbjaacppomobeaaZK
namespace Go.Proofs.Ytbjaacppomobeaa
open Go.RowKit

set_option maxHeartbeats 1600000 in
set_option maxRecDepth 100000 in
theorem dDrawPackDistance (a : Option Addr) (b off n cap : Nat) (w : World) (hc : n ≤ cap) (hn : n ≤ 1048576) (hcap : cap ≤ maxLen) (h : Byt w a b off n) :
    Calls Try.prog 39 #[.slice a n cap] w (GotC w) := by
  have HN := Lib.hid (specNewReader a b off n cap (w.alloc (Obj.cells #[.int .i64 0, .slice none 0 0] 28)) hc hn hcap (h.kept (World.grownBy_alloc _ _ none) (by simp)))
  have HY := Lib.hid (Bx.new 0 (.slice none 0 0) w)
  have HZ := Lib.hid (show (w.alloc (Obj.cells #[.int .i64 0, .slice none 0 0] 28)).heap.size = w.heap.size + 1 by simp)
  clear h
  go_enter Try.func39, Try.ntmps39
  go_wp2_with fail
  refine HN.out.mono ?_
  rintro e w1 ⟨rfl, hr, hg⟩
  have HP := Lib.hid (specPick _ _ 0 2 (by omega) w1 hr)
  have hz1 := hr.2.1
  have hrb := hr.1
  have HG1 := Lib.hid (show w.grownBy w1 none from grownBy_trans (World.grownBy_alloc _ _ _) hg)
  have HY1 := Lib.hid (HY.out.kept hg (by simp))
  rw [HZ.out] at HP hz1 hrb
  clear hr hg HN
  go_wp2_with fail
  refine HP.out.mono ?_
  rintro e w2 ⟨⟨x, rfl, hx⟩, hr2, hg2⟩
  have hz2 := hg2.size
  have HY2 := Lib.hid (HY1.out.kept hg2 (by simp))
  have B2 := Lib.hid (show Below w.heap.size w w2 from ((Below.refl _ _).grown HG1.out (Nat.le_refl _) (fun k hk => by cases hk)).grown hg2 (by omega) (fun k hk => by cases hk; omega))
  have HF := Lib.hid (specFewClass _ _ 1 (by omega) w2 hr2)
  have HS := Lib.hid (specSomeClass _ _ 1 (by omega) w2 hr2)
  clear hr2 hg2 HP
  by_cases hx0 : x = 0
  · subst hx0
    go_wp2_with fail
    refine HF.out.mono ?_
    rintro e w3 ⟨m, hm, a3, c3, p3, ms, rfl, hin3, hcls, hp3, hr3, hg3⟩
    have HI3 := Lib.hid (hin3.mono (show w.heap.size + 1 ≤ w2.heap.size by omega))
    have HY3 := Lib.hid (HY2.out.kept hg3 (by simp))
    have B3 := Lib.hid (B2.out.grown hg3 (by omega) (fun k hk => by cases hk; omega))
    have hl3 := hcls.length
    clear hin3 hr3 hg3 hcls HS
    have r0 := HY3.out.out.at0
    have r1 := HY3.out.out.at1
    have q0 := HY3.out.out.free0
    have q1 := HY3.out.out.free1
    go_wp2_with fail
    refine bodyPost_ret (v := .agg #[.int .i64 (m : Int), .slice a3 ms.length c3]) (by simp [results, Try.results39, go_sem, r0, r1]) rfl ?_
    refine ⟨m, toI ms, ⟨by omega, by omega, by rw [toI_length]; omega⟩, a3, c3, by rw [toI_length], ?_, ?_⟩
    · rw [toI_length]
      refine Ints.mono (B := w.heap.size + 1) ?_ (by omega)
      repeat (refine Ints.setCell_below ?_ (by simp) _)
      exact HI3.out
    · have hb0 := B3.out
      clear r0 r1 q0 q1
      go_grown
  · have hb : ((x : Int) == 0) = false := by simpa using (show ¬ (x : Int) = 0 by omega)
    go_wp2_with fail
    refine HS.out.mono ?_
    rintro e w3 ⟨m, a3, c3, p3, zs, rfl, hin3, ⟨hn0, hn1, hl2⟩, hp3, hr3, hg3⟩
    have HI3 := Lib.hid (hin3.mono (show w.heap.size + 1 ≤ w2.heap.size by omega))
    have HY3 := Lib.hid (HY2.out.kept hg3 (by simp))
    have B3 := Lib.hid (B2.out.grown hg3 (by omega) (fun k hk => by cases hk; omega))
    clear hin3 hr3 hg3 HF
    have r0 := HY3.out.out.at0
    have r1 := HY3.out.out.at1
    have q0 := HY3.out.out.free0
    have q1 := HY3.out.out.free1
    go_wp2_with fail
    refine bodyPost_ret (v := .agg #[.int .i64 m, .slice a3 zs.length c3]) (by simp [results, Try.results39, go_sem, r0, r1]) rfl ?_
    refine ⟨m, zs, ⟨by omega, by omega, by omega⟩, a3, c3, rfl, ?_, ?_⟩
    · refine Ints.mono (B := w.heap.size + 1) ?_ (by omega)
      repeat (refine Ints.setCell_below ?_ (by simp) _)
      exact HI3.out
    · have hb0 := B3.out
      clear r0 r1 q0 q1
      go_grown

end Go.Proofs.Ytbjaacppomobeaa
