/- One of a class's sets, most often: oneOf. Conditions: the reader has drawn at most 80000 numbers. -/
import Derived.Test.YthmipnflbiclbaaDoorZK
namespace Go.Proofs.YthmipnflbiclbaaDoor
open Go.RowKit

set_option maxHeartbeats 3200000 in
set_option maxRecDepth 100000 in
theorem specOneOf (C B R p : Nat) (n : Int) (a : Option Addr) (cap : Nat) (zs : List Int) (hp : p ≤ 80000) (hBC : B ≤ C) (w : World) (h : Rdr B R p w) (hin : Ints C w (.slice a zs.length cap) zs) (hzl : zs.length ≤ 1000) :
    Calls Tryd.prog 121 #[.pointer (some ⟨R, 0, none⟩), .agg #[.int .i64 n, .slice a zs.length cap]] w (GotInt B R (p + 3) w) := by
  have hRB := h.1
  have hBw := h.2.1
  have HX := Lib.hid (show Bx n (.slice a zs.length cap) w.heap.size (w.alloc (Obj.cells #[.int .i64 n, .slice a zs.length cap] 25)) from Bx.new _ _ _)
  have HI := Lib.hid (show Ints C (w.alloc (Obj.cells #[.int .i64 n, .slice a zs.length cap] 25)) (.slice a zs.length cap) zs from hin.alloc _)
  have HR := Lib.hid (show Rdr B R p (w.alloc (Obj.cells #[.int .i64 n, .slice a zs.length cap] 25)) from h.alloc _)
  have HG := Lib.hid (show w.grownBy (w.alloc (Obj.cells #[.int .i64 n, .slice a zs.length cap] 25)) (some R) from World.grownBy_alloc _ _ _)
  have HZ := Lib.hid (show (w.alloc (Obj.cells #[.int .i64 n, .slice a zs.length cap] 25)).heap.size = w.heap.size + 1 by simp)
  clear h hin
  go_enter Tryd.func121, Tryd.ntmps121
  generalize hL : zs.length = L at *
  by_cases h0 : L = 0
  · subst h0
    obtain rfl : zs = [] := List.length_eq_zero_iff.1 hL
    clear hL
    go_wp2_with fail
    generalize (w.alloc (Obj.cells #[.int .i64 n, .slice a 0 cap] 25)) = w1 at *
    have HI1 := Lib.hid HI.out
    have HR1 := Lib.hid HR.out
    have HG1 := Lib.hid HG.out
    have HS := Lib.hid (specSetOf C B R p n a cap [] (by omega) (by omega) w1 HR1.out HI1.out)
    go_wp2_with fail
    refine HS.out.mono ?_
    rintro e w8 ⟨s8, p8, rfl, hp8, hr8, hg8⟩
    have HR8 := Lib.hid hr8
    have HG8 := Lib.hid (grownBy_trans HG1.out hg8)
    clear hr8 hg8 HS
    go_wp2_with fail
    go_ret
    exact ⟨s8, p8, rfl, by omega, HR8.out, HG8.out⟩
  · have hd0 : 0 < L := by omega
    have hL34 := hzl
    clear h0
    go_wp2_with fail
    generalize (w.alloc (Obj.cells #[.int .i64 n, .slice a L cap] 25)) = w1 at *
    have hz1 := HZ.out
    refine (specPick B R p 8 (by omega) _ HR.out).mono ?_
    rintro e w2 ⟨⟨x, rfl, hx⟩, hr2, hg2⟩
    have hz2 := hg2.size
    have HX2 := Lib.hid (HX.out.kept hg2 (by simp; omega))
    have HI2 := Lib.hid (HI.out.pick (by omega) hg2)
    have HR2 := Lib.hid hr2
    have HG2 := Lib.hid (grownBy_trans HG.out hg2)
    have hRw2 := HR2.out.2.1
    clear hr2 hg2 HX HI HR HG
    by_cases hx0 : x = 0
    · subst hx0
      have x0 := HX2.out.out.at0
      have x1 := HX2.out.out.at1
      subst hL
      have HS := Lib.hid (specSetOf C B R (p + 1) n a cap zs (by omega) (by omega) w2 HR2.out HI2.out)
      go_wp2_with fail
      refine HS.out.mono ?_
      rintro e w8 ⟨s8, p8, rfl, hp8, hr8, hg8⟩
      have HR8 := Lib.hid hr8
      have HG8 := Lib.hid (grownBy_trans HG2.out hg8)
      clear hr8 hg8 HS
      go_wp2_with fail
      go_ret
      exact ⟨s8, p8, rfl, by omega, HR8.out, HG8.out⟩
    · have hdx : 0 < x := by omega
      clear hx0
      have x0 := HX2.out.out.at0
      have x1 := HX2.out.out.at1
      have hzl2 := hL
      go_wp2_with fail
      go_region_law (go_simp; go_at_call 57; refine (specPick B R (p + 1) (L : Int) (by omega) _ (by first | exact HR2.out | exact HR2.out.drew)).mono ?_; rintro e w3 ⟨⟨y, rfl, hy⟩, hr3, hg3⟩; have hy2 : y < L := (by omega); have G3 : w2.grownBy w3 (some R) := (by first | exact hg3 | exact ⟨hg3.os, hg3.tape, hg3.output, hg3.size, hg3.block⟩); have X3 := Lib.hid (HX2.out.kept G3 (by simp; omega)); have I3 := Lib.hid (HI2.out.pick (by omega) G3); have u0 := X3.out.out.at0; have u1 := X3.out.out.at1; obtain ⟨sr, bs, offs, caps, es, g1, g3, g5⟩ := I3.out.rd; simp only [Value.slice.injEq] at es; obtain ⟨rfl, -, rfl⟩ := es; rw [hL] at g1 g3 g5; obtain ⟨rfl, gbl⟩ := g1 (by omega); have hcy := g5 y hy2; clear g5 g1; generalize zs.getD y 0 = v at *; have HR3 := Lib.hid hr3; have HG3 := Lib.hid (grownBy_trans HG2.out G3); clear G3 hg3 hr3)
      all_goals
        go_wp2_with fail
        go_ret
        refine ⟨v, _, rfl, ?_, (by first | exact HR3.out | exact HR3.out.drew | exact HR3.out.drew.drew), ?_⟩
        · omega
        · have hb0 := HG3.out
          first | exact hb0 | go_grown

end Go.Proofs.YthmipnflbiclbaaDoor
