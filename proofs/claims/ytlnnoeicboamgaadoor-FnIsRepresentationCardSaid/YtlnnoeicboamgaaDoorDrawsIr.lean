/- What the laws of IsRepresentation draw: a class and a plan. Conditions: the code is a slice of bytes. -/
import Derived.Deep.RegionHeld3
import Derived.Test.YtlnnoeicboamgaaDoorFew
import Derived.Test.YtlnnoeicboamgaaDoorPlanOf
import Derived.Test.YtlnnoeicboamgaaDoorZK
namespace Go.Proofs.YtlnnoeicboamgaaDoor
open Go.RowKit

/-- a class and a plan are drawn -/
def GotCP (w : World) (e : Ending) (w' : World) : Prop := ∃ (n : Int) (zs ps : List Int), (-8 ≤ n ∧ n ≤ 8 ∧ zs.length ≤ 34 ∧ ps.length ≤ 42) ∧ ∃ a cap a2 cap2, e = .returned (.tuple #[.agg #[.int .i64 n, .slice a zs.length cap], .slice a2 ps.length cap2]) ∧ Ints w.heap.size w' (.slice a zs.length cap) zs ∧ Ints w.heap.size w' (.slice a2 ps.length cap2) ps ∧ Below w.heap.size w w'

set_option maxHeartbeats 6400000 in
set_option maxRecDepth 100000 in
theorem dDrawIsRepresentation (a : Option Addr) (b off n cap : Nat) (w : World) (hc : n ≤ cap) (hn : n ≤ 1048576) (hcap : cap ≤ maxLen) (h : Byt w a b off n) :
    Calls Tryd.prog 23 #[.slice a n cap] w (GotCP w) := by
  have HN := Lib.hid (specNewReader a b off n cap (w.alloc (Obj.cells #[.int .i64 0, .slice none 0 0] 30)) hc hn hcap (h.kept (World.grownBy_alloc _ _ none) (by simp)))
  have HY := Lib.hid (Bx.new 0 (.slice none 0 0) w)
  have HZ := Lib.hid (show (w.alloc (Obj.cells #[.int .i64 0, .slice none 0 0] 30)).heap.size = w.heap.size + 1 by simp)
  clear h
  go_enter Tryd.func23, Tryd.ntmps23
  go_wp2_with fail
  refine HN.out.mono ?_
  rintro e w1 ⟨rfl, hr, hg⟩
  have HF := Lib.hid (specFewClass _ _ 0 (by omega) w1 hr)
  have hz1 := hr.2.1
  have HG1 := Lib.hid (show w.grownBy w1 none from grownBy_trans (World.grownBy_alloc _ _ _) hg)
  have HY1 := Lib.hid (HY.out.kept hg (by simp))
  rw [HZ.out] at HF hz1
  clear hr hg HN HZ hn
  go_wp2_with fail
  refine HF.out.mono ?_
  rintro e w2 ⟨n1, hn1, a2, c2, p2, ms, rfl, hin2, hcls, hp2, hr2, hg2⟩
  have hz2 := hg2.size
  have hl2 := hcls.length
  have HAl := Lib.hid (toI_length ms)
  have HB := Lib.hid (specBent w1.heap.size (w.heap.size + 1 + 1) (w.heap.size + 1) p2 6 32 (n1 : Int) a2 c2 (toI ms) (by omega) (by omega) (by omega) (by omega) (by omega) (by rw [toI_length]; exact hl2) (by omega) hz1 w2 w1 hz2 (Nat.le_refl _) hr2 (by rw [toI_length]; exact hin2) hg2)
  rw [HAl.out] at HB
  clear hin2 hcls hr2 hg2 HF HAl hl2
  go_wp2_with fail
  refine HB.out.mono ?_
  rintro e w3 ⟨m, a3, c3, p3, zs, rfl, hin3, ⟨hn0, hn2, hl3⟩, hp3, hr3, hg3⟩
  have hz3 := hg3.size
  have I := Lib.hid ((hin3.mono hz1).alloc (Obj.cells #[.int .i64 m, .slice a3 zs.length c3] 30))
  have Y := Lib.hid ((HY1.out.kept hg3 (by simp)).alloc (Obj.cells #[.int .i64 m, .slice a3 zs.length c3] 30))
  have R := Lib.hid (hr3.alloc (Obj.cells #[.int .i64 m, .slice a3 zs.length c3] 30))
  have B := Lib.hid ((show Below w.heap.size w w3 from ((Below.refl _ _).grown HG1.out (Nat.le_refl _) (fun k hk => by cases hk)).grown hg3 (by omega) (fun k hk => by cases hk; omega)).alloc (by omega) (Obj.cells #[.int .i64 m, .slice a3 zs.length c3] 30))
  have X := Lib.hid (Bx.new m (.slice a3 zs.length c3) w3)
  have hoB : w.heap.size + 1 < w3.heap.size := by omega
  clear hin3 hr3 hg3 HB HY1 HG1 HY
  go_wp2_with fail
  generalize (w3.alloc (Obj.cells #[.int .i64 m, .slice a3 zs.length c3] 30)) = w4 at *
  generalize ho : w3.heap.size = o at *
  have x0 := X.out.out.at0
  have x1 := X.out.out.at1
  refine wp_region_held_drew (S := fun w' => w'.cell? ⟨o, 0, none⟩ = some (.int .i64 m) ∧ w'.cell? ⟨o, 1, none⟩ = some (.slice a3 zs.length c3)) (by kernel_rfl) (by exact ⟨x0, x1⟩) (fun hHeld => ?_)
  replace X := Lib.hid (show Bx _ _ _ w4.drew from X.out)
  replace Y := Lib.hid (show Bx _ _ _ w4.drew from Y.out)
  replace I := Lib.hid (show Ints (w.heap.size + 2) w4.drew _ _ from I.out)
  replace R := Lib.hid (show Rdr _ _ _ w4.drew from R.out.drew)
  replace B := Lib.hid (B.out.drew)
  clear x0 x1
  generalize w4.drew = v0 at *
  refine wpAnyH_take (i := 0) (v := ?_) rfl (by kernel_rfl) (by kernel_rfl) (by kernel_rfl) (fun _ _ _ h => h) (Or.inl ⟨by rfl, ?_⟩) (by assumption) ?_
  rotate_left
  · (intro w hSw; (try dsimp only at hSw); go_simp; try with_reducible rfl)
  try simp only [List.getElem_toArray, List.getElem_cons_zero, Act.put, List.setIfInBounds_toArray, List.set_cons_zero, List.set_cons_succ]
  refine wpAnyH_take (i := 1) (v := ?_) rfl (by kernel_rfl) (by kernel_rfl) (by kernel_rfl) (fun _ _ _ h => h) (Or.inl ⟨by rfl, ?_⟩) (by assumption) ?_
  rotate_left
  · (intro w hSw; (try dsimp only at hSw); go_simp; try with_reducible rfl)
  try simp only [List.getElem_toArray, List.getElem_cons_zero, List.getElem_cons_succ, Act.put, List.setIfInBounds_toArray, List.set_cons_zero, List.set_cons_succ]
  refine wpAnyH_take (i := 2) (v := ?_) rfl (by kernel_rfl) (by kernel_rfl) (by kernel_rfl) (fun _ _ _ h => h) (Or.inl ⟨by rfl, ?_⟩) (by assumption) ?_
  rotate_left
  · (intro w hSw; (try dsimp only at hSw); go_simp; try with_reducible rfl)
  try simp only [List.getElem_toArray, List.getElem_cons_zero, List.getElem_cons_succ, Act.put, List.setIfInBounds_toArray, List.set_cons_zero, List.set_cons_succ]
  refine wpAnyH_ready (rs := [3]) (by kernel_rfl) (by simp) ?_
  refine AllReadyH.cons rfl (fun K hK => ?_) AllReadyH.nil
  try simp only [List.getElem_toArray]
  go_simp
  have hb0 := B.out.size
  have hxl := X.out.lt
  refine (specPlanOf (w.heap.size + 1 + 1) (w.heap.size + 1 + 1) (w.heap.size + 1) p3 m a3 c3 zs (by omega) (by omega) v0 R.out I.out (by omega)).mono ?_
  rintro e v1 ⟨a5, c5, p5, ps, rfl, hpl, hps, hp5, hr5, hg5⟩
  have hz5 := hg5.size
  replace X := Lib.hid (X.out.kept hg5 (by simp; omega))
  replace Y := Lib.hid (Y.out.kept hg5 (by simp))
  replace I := Lib.hid (I.out.pick (by omega) hg5)
  replace B := Lib.hid (B.out.grown hg5 hb0 (fun k hk => by cases hk; omega))
  have PS := Lib.hid (hps.mono (show w.heap.size + 2 ≤ v0.heap.size by omega))
  clear hr5 hg5 hps R
  refine hK.out _ _ (by first | exact ⟨X.out.out.at0, X.out.out.at1⟩ | go_keep) (fun hHeld => ?_)
  clear hK K
  try simp only [List.getElem_toArray, List.getElem_cons_zero, List.getElem_cons_succ, Act.put, List.setIfInBounds_toArray, List.set_cons_zero, List.set_cons_succ]
  refine wpAnyH_ready (rs := [4]) (by kernel_rfl) (by simp) ?_
  refine AllReadyH.cons rfl (fun K hK => ?_) AllReadyH.nil
  try simp only [List.getElem_toArray]
  have r0 := Y.out.out.at0
  have r1 := Y.out.out.at1
  have q0 := Y.out.out.free0
  have q1 := Y.out.out.free1
  go_simp
  have X8 := Lib.hid (show Bx m (.slice a3 zs.length c3) o ((v1.setCell ⟨w.heap.size, 0, none⟩ (.int .i64 m)).setCell ⟨w.heap.size, 1, none⟩ (.slice a3 zs.length c3)) from (X.out.other (by omega) _).other (by omega) _)
  have Y8 := Lib.hid ((Y.out.setN m).set (.slice a3 zs.length c3))
  have y0 := Y8.out.out.at0
  have y1 := Y8.out.out.at1
  refine hK.out _ _ (by first | exact ⟨X8.out.out.at0, X8.out.out.at1⟩ | go_keep) (fun hHeld => ?_)
  clear hK K
  try simp only [List.getElem_toArray, List.getElem_cons_zero, List.getElem_cons_succ, Act.put, List.setIfInBounds_toArray, List.set_cons_zero, List.set_cons_succ]
  refine wpAnyH_take (i := 5) (v := ?_) rfl (by kernel_rfl) (by kernel_rfl) (by kernel_rfl) (fun _ _ _ h => h) (Or.inl ⟨by rfl, ?_⟩) (by assumption) ?_
  rotate_left
  · (intro w hSw; (try dsimp only at hSw); go_simp; try with_reducible rfl)
  try simp only [List.getElem_toArray, List.getElem_cons_zero, List.getElem_cons_succ, Act.put, List.setIfInBounds_toArray, List.set_cons_zero, List.set_cons_succ]
  refine wpAnyH_done (by kernel_rfl) ?_ _
  go_wp2_with fail
  refine bodyPost_ret (v := .tuple #[.agg #[.int .i64 m, .slice a3 zs.length c3], .slice a5 ps.length c5]) (by simp [results, Tryd.results23, go_sem, y0, y1]) rfl ?_
  refine ⟨m, zs, ps, ⟨by omega, by omega, by omega, by omega⟩, a3, c3, a5, c5, rfl, ?_, ?_, ?_⟩
  · refine Ints.mono (B := w.heap.size + 1) ?_ (by omega)
    repeat (refine Ints.setCell_below ?_ (by simp) _)
    exact I.out.mono (by omega)
  · refine Ints.mono (B := w.heap.size + 1) ?_ (by omega)
    repeat (refine Ints.setCell_below ?_ (by simp) _)
    exact PS.out.mono (by omega)
  · have hb0 := B.out
    clear r0 r1 q0 q1 y0 y1
    go_grown

end Go.Proofs.YtlnnoeicboamgaaDoor
