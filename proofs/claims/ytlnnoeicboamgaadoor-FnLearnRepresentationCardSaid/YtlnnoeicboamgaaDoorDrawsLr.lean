/- What the law of LearnRepresentation draws: a class, a plan and a sample. Conditions: the code is a slice of bytes. -/
import Derived.Deep.RegionHeld3
import Derived.Test.YtlnnoeicboamgaaDoorFew
import Derived.Test.YtlnnoeicboamgaaDoorPlanOf
import Derived.Test.YtlnnoeicboamgaaDoorSampOf
import Derived.Test.YtlnnoeicboamgaaDoorZK
namespace Go.Proofs.YtlnnoeicboamgaaDoor
open Go.RowKit

/-- a class, a plan and a sample are drawn -/
def GotCPE (w : World) (e : Ending) (w' : World) : Prop := ∃ (n : Int) (zs ps : List Int) (es : List (Int × Bool)), (-8 ≤ n ∧ n ≤ 8 ∧ zs.length ≤ 34 ∧ ps.length ≤ 42 ∧ es.length ≤ 36) ∧ ∃ a cap a2 cap2 a3 cap3, e = .returned (.tuple #[.agg #[.int .i64 n, .slice a zs.length cap], .slice a2 ps.length cap2, .slice a3 es.length cap3]) ∧ Ints w.heap.size w' (.slice a zs.length cap) zs ∧ Ints w.heap.size w' (.slice a2 ps.length cap2) ps ∧ ExS w.heap.size w' (.slice a3 es.length cap3) es ∧ Below w.heap.size w w'
theorem ExS.set_below {B o j : Nat} {w : World} {v : Value} {es : List (Int × Bool)} (h : ExS B w v es) (ho : o < B) (u : Value) : ExS B (w.setCell ⟨o, j, none⟩ u) v es :=
  h.set_other (fun e => by have := (h.lt _ e).1; omega) u

set_option maxHeartbeats 6400000 in
set_option maxRecDepth 100000 in
theorem dDrawLearnRepresentation (a : Option Addr) (b off n cap : Nat) (w : World) (hc : n ≤ cap) (hn : n ≤ 1048576) (hcap : cap ≤ maxLen) (h : Byt w a b off n) :
    Calls Tryd.prog 19 #[.slice a n cap] w (GotCPE w) := by
  have HN := Lib.hid (specNewReader a b off n cap (w.alloc (Obj.cells #[.int .i64 0, .slice none 0 0] 30)) hc hn hcap (h.kept (World.grownBy_alloc _ _ none) (by simp)))
  have HY := Lib.hid (Bx.new 0 (.slice none 0 0) w)
  have HZ := Lib.hid (show (w.alloc (Obj.cells #[.int .i64 0, .slice none 0 0] 30)).heap.size = w.heap.size + 1 by simp)
  clear h
  go_enter Tryd.func19, Tryd.ntmps19
  go_wp2_with fail
  refine HN.out.mono ?_
  rintro e w1 ⟨rfl, hr, hg⟩
  have HF := Lib.hid (specFewClass _ _ 0 (by omega) w1 hr)
  have hz1 := hr.2.1
  have HG1 := Lib.hid (show w.grownBy w1 none from grownBy_trans (World.grownBy_alloc _ _ _) hg)
  have HY1 := Lib.hid (HY.out.kept hg (by simp))
  rw [HZ.out] at HF hz1
  clear hr hg HN HZ hn
  go_wp2_with fail
  refine HF.out.mono ?_
  rintro e w2 ⟨n, hn1, a2, c2, p2, ms, rfl, hin2, hcls, hp2, hr2, hg2⟩
  have hz2 := hg2.size
  have hl2 := hcls.length
  obtain ⟨zs, hzs⟩ : ∃ zs, zs = toI ms := ⟨_, rfl⟩
  have hzl : ms.length = zs.length := by rw [hzs, toI_length]
  rw [← hzs] at hin2
  rw [hzl] at hin2 hl2
  rw [hzl]
  clear hcls HF hzs hzl
  have hl34 : zs.length ≤ 34 := by omega
  have I := Lib.hid ((hin2.mono hz1).alloc (Obj.cells #[.int .i64 (n : Int), .slice a2 zs.length c2] 30))
  have Y := Lib.hid ((HY1.out.kept hg2 (by simp)).alloc (Obj.cells #[.int .i64 (n : Int), .slice a2 zs.length c2] 30))
  have R := Lib.hid (hr2.alloc (Obj.cells #[.int .i64 (n : Int), .slice a2 zs.length c2] 30))
  have B := Lib.hid ((show Below w.heap.size w w2 from ((Below.refl _ _).grown HG1.out (Nat.le_refl _) (fun k hk => by cases hk)).grown hg2 (by omega) (fun k hk => by cases hk; omega)).alloc (by omega) (Obj.cells #[.int .i64 (n : Int), .slice a2 zs.length c2] 30))
  have X := Lib.hid (Bx.new (n : Int) (.slice a2 zs.length c2) w2)
  have hoB : w.heap.size + 1 < w2.heap.size := by omega
  clear hin2 hr2 hg2 HY1 HG1 HY
  go_wp2_with fail
  generalize (w2.alloc (Obj.cells #[.int .i64 (n : Int), .slice a2 zs.length c2] 30)) = w4 at *
  generalize ho : w2.heap.size = o at *
  have x0 := X.out.out.at0
  have x1 := X.out.out.at1
  refine wp_region_held_drew (S := fun w' => w'.cell? ⟨o, 0, none⟩ = some (.int .i64 (n : Int)) ∧ w'.cell? ⟨o, 1, none⟩ = some (.slice a2 zs.length c2)) (by kernel_rfl) (by exact ⟨x0, x1⟩) (fun hHeld => ?_)
  replace X := Lib.hid (show Bx _ _ _ w4.drew from X.out)
  replace Y := Lib.hid (show Bx _ _ _ w4.drew from Y.out)
  replace I := Lib.hid (show Ints (w.heap.size + 2) w4.drew _ _ from I.out)
  replace R := Lib.hid (show Rdr _ _ _ w4.drew from R.out.drew)
  replace B := Lib.hid (B.out.drew)
  clear x0 x1
  generalize w4.drew = v0 at *
  refine wpAnyH_take (i := 0) (v := ?_) rfl (by kernel_rfl) (by kernel_rfl) (by kernel_rfl) (fun _ _ _ h => h) (Or.inl ⟨by rfl, ?_⟩) (by assumption) ?_
  rotate_left
  · (intro w hSw; (try dsimp only at hSw); go_simp; try with_reducible rfl)
  try simp only [List.getElem_toArray, List.getElem_cons_zero, Act.put, List.setIfInBounds_toArray, List.set_cons_zero, List.set_cons_succ]
  refine wpAnyH_take (i := 1) (v := ?_) rfl (by kernel_rfl) (by kernel_rfl) (by kernel_rfl) (fun _ _ _ h => h) (Or.inl ⟨by rfl, ?_⟩) (by assumption) ?_
  rotate_left
  · (intro w hSw; (try dsimp only at hSw); go_simp; try with_reducible rfl)
  try simp only [List.getElem_toArray, List.getElem_cons_zero, List.getElem_cons_succ, Act.put, List.setIfInBounds_toArray, List.set_cons_zero, List.set_cons_succ]
  refine wpAnyH_take (i := 2) (v := ?_) rfl (by kernel_rfl) (by kernel_rfl) (by kernel_rfl) (fun _ _ _ h => h) (Or.inl ⟨by rfl, ?_⟩) (by assumption) ?_
  rotate_left
  · (intro w hSw; (try dsimp only at hSw); go_simp; try with_reducible rfl)
  try simp only [List.getElem_toArray, List.getElem_cons_zero, List.getElem_cons_succ, Act.put, List.setIfInBounds_toArray, List.set_cons_zero, List.set_cons_succ]
  refine wpAnyH_take (i := 4) (v := ?_) rfl (by kernel_rfl) (by kernel_rfl) (by kernel_rfl) (fun _ _ _ h => h) (Or.inl ⟨by rfl, ?_⟩) (by assumption) ?_
  rotate_left
  · (intro w hSw; (try dsimp only at hSw); go_simp; try with_reducible rfl)
  try simp only [List.getElem_toArray, List.getElem_cons_zero, List.getElem_cons_succ, Act.put, List.setIfInBounds_toArray, List.set_cons_zero, List.set_cons_succ]
  refine wpAnyH_take (i := 5) (v := ?_) rfl (by kernel_rfl) (by kernel_rfl) (by kernel_rfl) (fun _ _ _ h => h) (Or.inl ⟨by rfl, ?_⟩) (by assumption) ?_
  rotate_left
  · (intro w hSw; (try dsimp only at hSw); go_simp; try with_reducible rfl)
  try simp only [List.getElem_toArray, List.getElem_cons_zero, List.getElem_cons_succ, Act.put, List.setIfInBounds_toArray, List.set_cons_zero, List.set_cons_succ]
  refine wpAnyH_ready (rs := [3]) (by kernel_rfl) (by simp) ?_
  refine AllReadyH.cons rfl (fun K hK => ?_) AllReadyH.nil
  try simp only [List.getElem_toArray]
  go_simp
  have hb0 := B.out.size
  have hxl := X.out.lt
  refine (specPlanOf (w.heap.size + 1 + 1) (w.heap.size + 1 + 1) (w.heap.size + 1) p2 (n : Int) a2 c2 zs (by omega) (by omega) v0 R.out I.out (by omega)).mono ?_
  rintro e v1 ⟨a5, c5, p5, ps, rfl, hpl, hps, hp5, hr5, hg5⟩
  have hz5 := hg5.size
  replace X := Lib.hid (X.out.kept hg5 (by simp; omega))
  replace Y := Lib.hid (Y.out.kept hg5 (by simp))
  replace I := Lib.hid (I.out.pick (by omega) hg5)
  replace R := Lib.hid hr5
  replace B := Lib.hid (B.out.grown hg5 hb0 (fun k hk => by cases hk; omega))
  have PS := Lib.hid (hps.mono (show w.heap.size + 2 ≤ v0.heap.size by omega))
  clear hr5 hg5 hps
  refine hK.out _ _ (by first | exact ⟨X.out.out.at0, X.out.out.at1⟩ | go_keep) (fun hHeld => ?_)
  clear hK K
  try simp only [List.getElem_toArray, List.getElem_cons_zero, List.getElem_cons_succ, Act.put, List.setIfInBounds_toArray, List.set_cons_zero, List.set_cons_succ]
  refine wpAnyH_ready (rs := [6]) (by kernel_rfl) (by simp) ?_
  refine AllReadyH.cons rfl (fun K hK => ?_) AllReadyH.nil
  try simp only [List.getElem_toArray]
  go_simp
  have hb1 := B.out.size
  refine (specSampleOf (w.heap.size + 1 + 1) (w.heap.size + 1 + 1) (w.heap.size + 1) p5 (n : Int) a2 c2 zs (by omega) (by omega) (by omega) (by omega) v1 R.out I.out (by omega)).mono ?_
  rintro e v2 ⟨a6, c6, p6, es, rfl, he36, hex, hp6, hr6, hg6⟩
  have hz6 := hg6.size
  replace X := Lib.hid (X.out.kept hg6 (by simp; omega))
  replace Y := Lib.hid (Y.out.kept hg6 (by simp))
  replace I := Lib.hid (I.out.pick (by omega) hg6)
  replace PS := Lib.hid (PS.out.pick (by omega) hg6)
  replace B := Lib.hid (B.out.grown hg6 hb1 (fun k hk => by cases hk; omega))
  have E := Lib.hid (hex.mono (show w.heap.size + 2 ≤ v1.heap.size by omega))
  clear hr6 hg6 hex R
  refine hK.out _ _ (by first | exact ⟨X.out.out.at0, X.out.out.at1⟩ | go_keep) (fun hHeld => ?_)
  clear hK K
  try simp only [List.getElem_toArray, List.getElem_cons_zero, List.getElem_cons_succ, Act.put, List.setIfInBounds_toArray, List.set_cons_zero, List.set_cons_succ]
  refine wpAnyH_ready (rs := [7]) (by kernel_rfl) (by simp) ?_
  refine AllReadyH.cons rfl (fun K hK => ?_) AllReadyH.nil
  try simp only [List.getElem_toArray]
  have r0 := Y.out.out.at0
  have r1 := Y.out.out.at1
  have q0 := Y.out.out.free0
  have q1 := Y.out.out.free1
  go_simp
  have X8 := Lib.hid (show Bx (n : Int) (.slice a2 zs.length c2) o ((v2.setCell ⟨w.heap.size, 0, none⟩ (.int .i64 (n : Int))).setCell ⟨w.heap.size, 1, none⟩ (.slice a2 zs.length c2)) from (X.out.other (by omega) _).other (by omega) _)
  have Y8 := Lib.hid ((Y.out.setN (n : Int)).set (.slice a2 zs.length c2))
  have y0 := Y8.out.out.at0
  have y1 := Y8.out.out.at1
  refine hK.out _ _ (by first | exact ⟨X8.out.out.at0, X8.out.out.at1⟩ | go_keep) (fun hHeld => ?_)
  clear hK K
  try simp only [List.getElem_toArray, List.getElem_cons_zero, List.getElem_cons_succ, Act.put, List.setIfInBounds_toArray, List.set_cons_zero, List.set_cons_succ]
  refine wpAnyH_take (i := 8) (v := ?_) rfl (by kernel_rfl) (by kernel_rfl) (by kernel_rfl) (fun _ _ _ h => h) (Or.inl ⟨by rfl, ?_⟩) (by assumption) ?_
  rotate_left
  · (intro w hSw; (try dsimp only at hSw); go_simp; try with_reducible rfl)
  try simp only [List.getElem_toArray, List.getElem_cons_zero, List.getElem_cons_succ, Act.put, List.setIfInBounds_toArray, List.set_cons_zero, List.set_cons_succ]
  refine wpAnyH_take (i := 9) (v := ?_) rfl (by kernel_rfl) (by kernel_rfl) (by kernel_rfl) (fun _ _ _ h => h) (Or.inl ⟨by rfl, ?_⟩) (by assumption) ?_
  rotate_left
  · (intro w hSw; (try dsimp only at hSw); go_simp; try with_reducible rfl)
  try simp only [List.getElem_toArray, List.getElem_cons_zero, List.getElem_cons_succ, Act.put, List.setIfInBounds_toArray, List.set_cons_zero, List.set_cons_succ]
  refine wpAnyH_done (by kernel_rfl) ?_ _
  go_wp2_with fail
  refine bodyPost_ret (v := .tuple #[.agg #[.int .i64 (n : Int), .slice a2 zs.length c2], .slice a5 ps.length c5, .slice a6 es.length c6]) (by simp [results, Tryd.results19, go_sem, y0, y1]) rfl ?_
  refine ⟨(n : Int), zs, ps, es, ⟨by omega, by omega, by omega, by omega, by omega⟩, a2, c2, a5, c5, a6, c6, rfl, ?_, ?_, ?_, ?_⟩
  · refine Ints.mono (B := w.heap.size + 1) ?_ (by omega)
    repeat (refine Ints.setCell_below ?_ (by simp) _)
    exact I.out.mono (by omega)
  · refine Ints.mono (B := w.heap.size + 1) ?_ (by omega)
    repeat (refine Ints.setCell_below ?_ (by simp) _)
    exact PS.out.mono (by omega)
  · refine ExS.mono (B := w.heap.size + 1) ?_ (by omega)
    repeat (refine ExS.set_below ?_ (by omega) _)
    exact E.out.mono (by omega)
  · have hb0 := B.out
    clear r0 r1 q0 q1 y0 y1
    go_grown

end Go.Proofs.YtlnnoeicboamgaaDoor
