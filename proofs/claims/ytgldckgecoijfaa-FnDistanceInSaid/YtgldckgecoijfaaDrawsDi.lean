/- What the law of DistanceIn draws: a class and two of its sets. Conditions: the code is a slice of bytes. -/
import Derived.Test.YtgldckgecoijfaaOneOf
import Derived.Test.YtgldckgecoijfaaZK
namespace Go.Proofs.Ytgldckgecoijfaa
open Go.RowKit

/-- a class and two numbers are drawn -/
def GotCII (w : World) (e : Ending) (w' : World) : Prop := ∃ (n : Int) (zs : List Int) (t s : Int), (-8 ≤ n ∧ n ≤ 8 ∧ zs.length ≤ 34) ∧ ∃ a cap, e = .returned (.tuple #[.agg #[.int .i64 n, .slice a zs.length cap], .int .i64 t, .int .i64 s]) ∧ Ints w.heap.size w' (.slice a zs.length cap) zs ∧ Below w.heap.size w w'

set_option maxHeartbeats 3200000 in
set_option maxRecDepth 100000 in
theorem dDrawDistanceIn (a : Option Addr) (b off n cap : Nat) (w : World) (hc : n ≤ cap) (hn : n ≤ 1048576) (hcap : cap ≤ maxLen) (h : Byt w a b off n) :
    Calls Try.prog 12 #[.slice a n cap] w (GotCII w) := by
  have HN := Lib.hid (specNewReader a b off n cap (w.alloc (Obj.cells #[.int .i64 0, .slice none 0 0] 25)) hc hn hcap (h.kept (World.grownBy_alloc _ _ none) (by simp)))
  have HY := Lib.hid (Bx.new 0 (.slice none 0 0) w)
  have HZ := Lib.hid (show (w.alloc (Obj.cells #[.int .i64 0, .slice none 0 0] 25)).heap.size = w.heap.size + 1 by simp)
  clear h
  go_enter Try.func12, Try.ntmps12
  go_wp2_with fail
  refine HN.out.mono ?_
  rintro e w1 ⟨rfl, hr, hg⟩
  have HS := Lib.hid (specSomeClass _ _ 0 (by omega) w1 hr)
  have hz1 := hr.2.1
  have HG1 := Lib.hid (show w.grownBy w1 none from grownBy_trans (World.grownBy_alloc _ _ _) hg)
  have HY1 := Lib.hid (HY.out.kept hg (by simp))
  rw [HZ.out] at HS hz1
  clear hr hg HN
  go_wp2_with fail
  refine HS.out.mono ?_
  rintro e w2 ⟨m, a2, c2, p2, zs, rfl, hin2, ⟨hn0, hn1, hl2⟩, hp2, hr2, hg2⟩
  have hz2 := hg2.size
  have HI2 := Lib.hid (hin2.mono (show w.heap.size + 2 ≤ w1.heap.size by omega))
  have HY2 := Lib.hid (HY1.out.kept hg2 (by simp))
  have B2 := Lib.hid (show Below w.heap.size w w2 from ((Below.refl _ _).grown HG1.out (Nat.le_refl _) (fun k hk => by cases hk)).grown hg2 (by omega) (fun k hk => by cases hk; omega))
  have HR2 := Lib.hid hr2
  clear hin2 hr2 hg2 HS
  go_wp2_with fail
  have HX3 := Lib.hid (Bx.new m (.slice a2 zs.length c2) w2)
  have HY3 := Lib.hid (HY2.out.alloc (Obj.cells #[.int .i64 m, .slice a2 zs.length c2] 25))
  have HI3 := Lib.hid (HI2.out.alloc (Obj.cells #[.int .i64 m, .slice a2 zs.length c2] 25))
  have HR3 := Lib.hid (HR2.out.alloc (Obj.cells #[.int .i64 m, .slice a2 zs.length c2] 25))
  have B3 := Lib.hid (B2.out.alloc (by omega) (Obj.cells #[.int .i64 m, .slice a2 zs.length c2] 25))
  have HZ3 := Lib.hid (show (w2.alloc (Obj.cells #[.int .i64 m, .slice a2 zs.length c2] 25)).heap.size = w2.heap.size + 1 by simp)
  generalize (w2.alloc (Obj.cells #[.int .i64 m, .slice a2 zs.length c2] 25)) = w3 at *
  have hz3 := HZ3.out
  generalize ho : w2.heap.size = o at *
  have x0 := HX3.out.out.at0
  have x1 := HX3.out.out.at1
  refine wp_region_held_drew (S := fun w' => w'.cell? ⟨o, 0, none⟩ = some (.int .i64 m) ∧ w'.cell? ⟨o, 1, none⟩ = some (.slice a2 zs.length c2)) (by kernel_rfl) (by first | exact ⟨x0, x1⟩ | go_keep) (fun hHeld => ?_)
  refine wpAnyH_take (i := 0) (v := ?_) rfl (by kernel_rfl) (by kernel_rfl) (by kernel_rfl) (fun _ _ _ h => h) (Or.inl ⟨by rfl, ?_⟩) (by assumption) ?_
  rotate_left
  · (intro w hSw; (try dsimp only at hSw); go_simp; try with_reducible rfl)
  try simp only [List.getElem_toArray, List.getElem_cons_zero, Act.put, List.setIfInBounds_toArray, List.set_cons_zero, List.set_cons_succ]
  refine wpAnyH_take (i := 1) (v := ?_) rfl (by kernel_rfl) (by kernel_rfl) (by kernel_rfl) (fun _ _ _ h => h) (Or.inl ⟨by rfl, ?_⟩) (by assumption) ?_
  rotate_left
  · (intro w hSw; (try dsimp only at hSw); go_simp; try with_reducible rfl)
  try simp only [List.getElem_toArray, List.getElem_cons_zero, List.getElem_cons_succ, Act.put, List.setIfInBounds_toArray, List.set_cons_zero, List.set_cons_succ]
  refine wpAnyH_take (i := 2) (v := ?_) rfl (by kernel_rfl) (by kernel_rfl) (by kernel_rfl) (fun _ _ _ h => h) (Or.inl ⟨by rfl, ?_⟩) (by assumption) ?_
  rotate_left
  · (intro w hSw; (try dsimp only at hSw); go_simp; try with_reducible rfl)
  try simp only [List.getElem_toArray, List.getElem_cons_zero, List.getElem_cons_succ, Act.put, List.setIfInBounds_toArray, List.set_cons_zero, List.set_cons_succ]
  refine wpAnyH_take (i := 4) (v := ?_) rfl (by kernel_rfl) (by kernel_rfl) (by kernel_rfl) (fun _ _ _ h => h) (Or.inl ⟨by rfl, ?_⟩) (by assumption) ?_
  rotate_left
  · (intro w hSw; (try dsimp only at hSw); go_simp; try with_reducible rfl)
  try simp only [List.getElem_toArray, List.getElem_cons_zero, List.getElem_cons_succ, Act.put, List.setIfInBounds_toArray, List.set_cons_zero, List.set_cons_succ]
  refine wpAnyH_take (i := 5) (v := ?_) rfl (by kernel_rfl) (by kernel_rfl) (by kernel_rfl) (fun _ _ _ h => h) (Or.inl ⟨by rfl, ?_⟩) (by assumption) ?_
  rotate_left
  · (intro w hSw; (try dsimp only at hSw); go_simp; try with_reducible rfl)
  try simp only [List.getElem_toArray, List.getElem_cons_zero, List.getElem_cons_succ, Act.put, List.setIfInBounds_toArray, List.set_cons_zero, List.set_cons_succ]
  refine wpAnyH_ready (rs := [3]) (by kernel_rfl) (by simp) ?_
  refine AllReadyH.cons rfl (fun K hK => ?_) AllReadyH.nil
  try simp only [List.getElem_toArray]
  go_simp
  go_at_call 52
  refine (specOneOf (w.heap.size + 2) (w.heap.size + 1 + 1) (w.heap.size + 1) p2 m a2 c2 zs (by omega) (by omega) _ (by first | exact HR3.out | exact HR3.out.drew) (by first | exact HI3.out) (by omega)).mono ?_
  rintro e w5 ⟨s, p5, rfl, hpp5, hr5, hg5⟩
  have G5 : w3.grownBy w5 (some (w.heap.size + 1)) := (by first | exact hg5 | exact ⟨hg5.os, hg5.tape, hg5.output, hg5.size, hg5.block⟩)
  have hz5 := G5.size
  have HX5 := Lib.hid (HX3.out.kept G5 (by simp; omega))
  have HY5 := Lib.hid (HY3.out.kept G5 (by simp))
  have HI5 := Lib.hid (HI3.out.pick (by omega) G5)
  have HR5 := Lib.hid hr5
  have B5 := Lib.hid (B3.out.grown G5 (by omega) (fun k hk => by cases hk; omega))
  have u0_5 := HX5.out.out.at0
  have u1_5 := HX5.out.out.at1
  clear G5 hg5 hr5 HX3 HY3 HI3 HR3 B3
  refine hK.out _ _ (by first | exact ⟨u0_5, u1_5⟩ | go_keep) (fun hHeld => ?_)
  clear hK K
  try simp only [List.getElem_toArray, List.getElem_cons_zero, List.getElem_cons_succ, Act.put, List.setIfInBounds_toArray, List.set_cons_zero, List.set_cons_succ]
  refine wpAnyH_ready (rs := [6]) (by kernel_rfl) (by simp) ?_
  refine AllReadyH.cons rfl (fun K hK => ?_) AllReadyH.nil
  try simp only [List.getElem_toArray]
  go_simp
  go_at_call 52
  refine (specOneOf (w.heap.size + 2) (w.heap.size + 1 + 1) (w.heap.size + 1) p5 m a2 c2 zs (by omega) (by omega) _ (by first | exact HR5.out | exact HR5.out.drew) (by first | exact HI5.out) (by omega)).mono ?_
  rintro e w6 ⟨r, p6, rfl, hpp6, hr6, hg6⟩
  have G6 : w5.grownBy w6 (some (w.heap.size + 1)) := (by first | exact hg6 | exact ⟨hg6.os, hg6.tape, hg6.output, hg6.size, hg6.block⟩)
  have hz6 := G6.size
  have HX6 := Lib.hid (HX5.out.kept G6 (by simp; omega))
  have HY6 := Lib.hid (HY5.out.kept G6 (by simp))
  have HI6 := Lib.hid (HI5.out.pick (by omega) G6)
  have HR6 := Lib.hid hr6
  have B6 := Lib.hid (B5.out.grown G6 (by omega) (fun k hk => by cases hk; omega))
  have u0_6 := HX6.out.out.at0
  have u1_6 := HX6.out.out.at1
  clear G6 hg6 hr6 HX5 HY5 HI5 HR5 B5
  refine hK.out _ _ (by first | exact ⟨u0_6, u1_6⟩ | go_keep) (fun hHeld => ?_)
  clear hK K
  try simp only [List.getElem_toArray, List.getElem_cons_zero, List.getElem_cons_succ, Act.put, List.setIfInBounds_toArray, List.set_cons_zero, List.set_cons_succ]
  refine wpAnyH_ready (rs := [7]) (by kernel_rfl) (by simp) ?_
  refine AllReadyH.cons rfl (fun K hK => ?_) AllReadyH.nil
  try simp only [List.getElem_toArray]
  have r0 := HY6.out.out.at0
  have r1 := HY6.out.out.at1
  have q0 := HY6.out.out.free0
  have q1 := HY6.out.out.free1
  go_simp
  have X8 := Lib.hid (show Bx m (.slice a2 zs.length c2) o ((w6.setCell ⟨w.heap.size, 0, none⟩ (.int .i64 m)).setCell ⟨w.heap.size, 1, none⟩ (.slice a2 zs.length c2)) from (HX6.out.other (by omega) _).other (by omega) _)
  have Y8 := Lib.hid ((HY6.out.setN m).set (.slice a2 zs.length c2))
  have z0 := X8.out.out.at0
  have z1 := X8.out.out.at1
  have y0 := Y8.out.out.at0
  have y1 := Y8.out.out.at1
  refine hK.out _ _ (by first | exact ⟨z0, z1⟩ | go_keep) (fun hHeld => ?_)
  clear hK K
  try simp only [List.getElem_toArray, List.getElem_cons_zero, List.getElem_cons_succ, Act.put, List.setIfInBounds_toArray, List.set_cons_zero, List.set_cons_succ]
  refine wpAnyH_take (i := 8) (v := ?_) rfl (by kernel_rfl) (by kernel_rfl) (by kernel_rfl) (fun _ _ _ h => h) (Or.inl ⟨by rfl, ?_⟩) (by assumption) ?_
  rotate_left
  · (intro w hSw; (try dsimp only at hSw); go_simp; try with_reducible rfl)
  try simp only [List.getElem_toArray, List.getElem_cons_zero, List.getElem_cons_succ, Act.put, List.setIfInBounds_toArray, List.set_cons_zero, List.set_cons_succ]
  refine wpAnyH_take (i := 9) (v := ?_) rfl (by kernel_rfl) (by kernel_rfl) (by kernel_rfl) (fun _ _ _ h => h) (Or.inl ⟨by rfl, ?_⟩) (by assumption) ?_
  rotate_left
  · (intro w hSw; (try dsimp only at hSw); go_simp; try with_reducible rfl)
  try simp only [List.getElem_toArray, List.getElem_cons_zero, List.getElem_cons_succ, Act.put, List.setIfInBounds_toArray, List.set_cons_zero, List.set_cons_succ]
  refine wpAnyH_done (by kernel_rfl) ?_ _
  go_wp2_with fail
  refine bodyPost_ret (v := .tuple #[.agg #[.int .i64 m, .slice a2 zs.length c2], .int .i64 s, .int .i64 r]) (by simp [results, Try.results12, go_sem, y0, y1]) rfl ?_
  refine ⟨m, zs, s, r, ⟨by omega, by omega, by omega⟩, a2, c2, rfl, ?_, ?_⟩
  · refine Ints.mono (B := w.heap.size + 1) ?_ (by omega)
    repeat (refine Ints.setCell_below ?_ (by simp) _)
    exact HI6.out.mono (by omega)
  · have hb0 := B6.out
    clear r0 r1 q0 q1 y0 y1 z0 z1
    go_grown

end Go.Proofs.Ytgldckgecoijfaa
