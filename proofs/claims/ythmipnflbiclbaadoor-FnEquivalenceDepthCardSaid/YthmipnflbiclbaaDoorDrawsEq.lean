/- What the law of EquivalenceDepth draws: a class and a bool. Conditions: the code is a slice of bytes. -/
import Derived.Deep.RegionHeld3
import Derived.Test.YthmipnflbiclbaaDoorFew
import Derived.Test.YthmipnflbiclbaaDoorThin
import Derived.Test.YthmipnflbiclbaaDoorZK
namespace Go.Proofs.YthmipnflbiclbaaDoor
open Go.RowKit

/-- a class and a bool are drawn -/
def GotCB (w : World) (e : Ending) (w' : World) : Prop := ∃ (n : Int) (zs : List Int) (s : Bool), (-8 ≤ n ∧ n ≤ 8 ∧ zs.length ≤ 34) ∧ ∃ a cap, e = .returned (.tuple #[.agg #[.int .i64 n, .slice a zs.length cap], .bool s]) ∧ Ints w.heap.size w' (.slice a zs.length cap) zs ∧ Below w.heap.size w w'

set_option maxHeartbeats 6400000 in
set_option maxRecDepth 100000 in
theorem dDrawEquivalenceDepth (a : Option Addr) (b off n cap : Nat) (w : World) (hc : n ≤ cap) (hn : n ≤ 1048576) (hcap : cap ≤ maxLen) (h : Byt w a b off n) :
    Calls Tryd.prog 11 #[.slice a n cap] w (GotCB w) := by
  have HN := Lib.hid (specNewReader a b off n cap (w.alloc (Obj.cells #[.int .i64 0, .slice none 0 0] 25)) hc hn hcap (h.kept (World.grownBy_alloc _ _ none) (by simp)))
  have HY := Lib.hid (Bx.new 0 (.slice none 0 0) w)
  have HZ := Lib.hid (show (w.alloc (Obj.cells #[.int .i64 0, .slice none 0 0] 25)).heap.size = w.heap.size + 1 by simp)
  clear h
  go_enter Tryd.func11, Tryd.ntmps11
  go_wp2_with fail
  refine HN.out.mono ?_
  rintro e w1 ⟨rfl, hr, hg⟩
  have HF := Lib.hid (specFewClass _ _ 0 (by omega) w1 hr)
  have hz1 := hr.2.1
  have HG1 := Lib.hid (show w.grownBy w1 none from grownBy_trans (World.grownBy_alloc _ _ _) hg)
  have HY1 := Lib.hid (HY.out.kept hg (by simp))
  rw [HZ.out] at HF hz1
  clear hr hg HN HZ
  go_wp2_with fail
  refine HF.out.mono ?_
  rintro e w2 ⟨n1, hn1, a2, c2, p2, ms, rfl, hin2, hcls, hp2, hr2, hg2⟩
  have hz2 := hg2.size
  have hl2 := hcls.length
  have hpt := hcls.pts
  have HAl := Lib.hid (toI_length ms)
  clear hcls
  obtain ⟨L, hL⟩ : ∃ L, L = ms.length := ⟨_, rfl⟩
  rw [← hL] at hin2 hl2 HAl ⊢
  clear hL
  have I := Lib.hid ((hin2.mono hz1).alloc (Obj.cells #[.int .i64 (n1 : Int), .slice a2 L c2] 25))
  have Y := Lib.hid ((HY1.out.kept hg2 (by simp)).alloc (Obj.cells #[.int .i64 (n1 : Int), .slice a2 L c2] 25))
  have R := Lib.hid (hr2.alloc (Obj.cells #[.int .i64 (n1 : Int), .slice a2 L c2] 25))
  have B := Lib.hid ((show Below w.heap.size w w2 from ((Below.refl _ _).grown HG1.out (Nat.le_refl _) (fun k hk => by cases hk)).grown hg2 (by omega) (fun k hk => by cases hk; omega)).alloc (by omega) (Obj.cells #[.int .i64 (n1 : Int), .slice a2 L c2] 25))
  have X := Lib.hid (Bx.new (n1 : Int) (.slice a2 L c2) w2)
  have hoB : w.heap.size + 1 < w2.heap.size := by omega
  clear hin2 hr2 hg2 HY1 HG1 HY HF
  go_wp2_with fail
  generalize (w2.alloc (Obj.cells #[.int .i64 (n1 : Int), .slice a2 L c2] 25)) = w4 at *
  generalize ho : w2.heap.size = o at *
  refine (specPick (w.heap.size + 1 + 1) (w.heap.size + 1) p2 16 (by omega) _ R.out).mono ?_
  rintro e w5 ⟨⟨y, rfl, _⟩, hr5, hg5⟩
  have hB5 := B.out.size
  replace X := Lib.hid (X.out.kept hg5 (by simp; omega))
  replace Y := Lib.hid (Y.out.kept hg5 (by simp))
  replace I := Lib.hid (I.out.pick (by omega) hg5)
  replace R := Lib.hid hr5
  replace B := Lib.hid (B.out.grown hg5 hB5 (fun k hk => by cases hk; omega))
  clear hr5 hg5 hB5
  by_cases hy : y = 0
  · subst hy
    have HT := Lib.hid (specThinClass (w.heap.size + 1 + 1) (w.heap.size + 1) (p2 + 1) (by omega) w5 R.out)
    go_wp2_with fail
    refine HT.out.mono ?_
    rintro e w6 ⟨m6, a6, c6, p6, zt, rfl, hin6, ⟨hm0, hm1, hl6⟩, hp6, hr6, hg6⟩
    have hB6 := B.out.size
    have hxl := X.out.lt
    replace Y := Lib.hid (Y.out.kept hg6 (by simp))
    replace B := Lib.hid (B.out.grown hg6 hB6 (fun k hk => by cases hk; omega))
    have I6 := Lib.hid (hin6.mono (show o + 1 ≤ w5.heap.size by omega))
    have r0 := Y.out.out.at0
    have r1 := Y.out.out.at1
    have q0 := Y.out.out.free0
    have q1 := Y.out.out.free1
    have Y8 := Lib.hid ((Y.out.setN m6).set (.slice a6 zt.length c6))
    have y0 := Y8.out.out.at0
    have y1 := Y8.out.out.at1
    clear hin6 hr6 hg6 HT R I
    go_wp2_with fail
    refine bodyPost_ret (v := .tuple #[.agg #[.int .i64 m6, .slice a6 zt.length c6], .bool true]) (by simp [results, Tryd.results11, go_sem, y0, y1]) rfl ?_
    refine ⟨m6, zt, true, ⟨by omega, by omega, by omega⟩, a6, c6, rfl, ?_, ?_⟩
    · refine Ints.mono (B := w.heap.size + 1) ?_ (by omega)
      repeat (refine Ints.setCell_below ?_ (by simp) _)
      exact I6.out.mono (by omega)
    · have hb0 := B.out
      clear r0 r1 q0 q1 y0 y1
      go_grown
  · have hy1 : ¬ (y : Int) = 0 := by omega
    have hy2 : ((y : Int) == 0) = false := by simpa using hy1
    have x0 := X.out.out.at0
    have x1 := X.out.out.at1
    go_wp2_with fail
    refine wp_region_held_drew (S := fun w' => w'.cell? ⟨o, 0, none⟩ = some (.int .i64 (n1 : Int)) ∧ w'.cell? ⟨o, 1, none⟩ = some (.slice a2 L c2)) (by kernel_rfl) (by exact ⟨x0, x1⟩) (fun hHeld => ?_)
    replace X := Lib.hid (show Bx _ _ _ w5.drew from X.out)
    replace Y := Lib.hid (show Bx _ _ _ w5.drew from Y.out)
    replace I := Lib.hid (show Ints (w.heap.size + 2) w5.drew _ _ from I.out)
    replace R := Lib.hid (show Rdr _ _ _ w5.drew from R.out.drew)
    replace B := Lib.hid (B.out.drew)
    clear x0 x1
    generalize w5.drew = v0 at *
    refine wpAnyH_take (i := 0) (v := ?_) rfl (by kernel_rfl) (by kernel_rfl) (by kernel_rfl) (fun _ _ _ h => h) (Or.inl ⟨by rfl, ?_⟩) (by assumption) ?_
    rotate_left
    · (intro w hSw; (try dsimp only at hSw); go_simp; try with_reducible rfl)
    try simp only [List.getElem_toArray, List.getElem_cons_zero, Act.put, List.setIfInBounds_toArray, List.set_cons_zero, List.set_cons_succ]
    refine wpAnyH_take (i := 1) (v := ?_) rfl (by kernel_rfl) (by kernel_rfl) (by kernel_rfl) (fun _ _ _ h => h) (Or.inl ⟨by rfl, ?_⟩) (by assumption) ?_
    rotate_left
    · (intro w hSw; (try dsimp only at hSw); go_simp; try with_reducible rfl)
    try simp only [List.getElem_toArray, List.getElem_cons_zero, List.getElem_cons_succ, Act.put, List.setIfInBounds_toArray, List.set_cons_zero, List.set_cons_succ]
    refine wpAnyH_ready (rs := [2]) (by kernel_rfl) (by simp) ?_
    refine AllReadyH.cons rfl (fun K hK => ?_) AllReadyH.nil
    try simp only [List.getElem_toArray]
    go_simp
    refine (specPick (w.heap.size + 1 + 1) (w.heap.size + 1) (p2 + 1) 2 (by omega) _ R.out).mono ?_
    rintro e v1 ⟨⟨z, rfl, _⟩, hr1, hg1⟩
    have hB6 := B.out.size
    replace X := Lib.hid (X.out.kept hg1 (by simp; omega))
    replace Y := Lib.hid (Y.out.kept hg1 (by simp))
    replace I := Lib.hid (I.out.pick (by omega) hg1)
    replace B := Lib.hid (B.out.grown hg1 hB6 (fun k hk => by cases hk; omega))
    clear hr1 hg1 hB6
    refine hK.out _ _ (by first | exact ⟨X.out.out.at0, X.out.out.at1⟩ | go_keep) (fun hHeld => ?_)
    clear hK K
    try simp only [List.getElem_toArray, List.getElem_cons_zero, List.getElem_cons_succ, Act.put, List.setIfInBounds_toArray, List.set_cons_zero, List.set_cons_succ]
    refine wpAnyH_take (i := 3) (v := ?_) rfl (by kernel_rfl) (by kernel_rfl) (by kernel_rfl) (fun _ _ _ h => h) (Or.inl ⟨by rfl, ?_⟩) (by assumption) ?_
    rotate_left
    · (intro w hSw; (try dsimp only at hSw); go_simp; try with_reducible rfl)
    try simp only [List.getElem_toArray, List.getElem_cons_zero, List.getElem_cons_succ, Act.put, List.setIfInBounds_toArray, List.set_cons_zero, List.set_cons_succ]
    refine wpAnyH_ready (rs := [4]) (by kernel_rfl) (by simp) ?_
    refine AllReadyH.cons rfl (fun K hK => ?_) AllReadyH.nil
    try simp only [List.getElem_toArray]
    have r0 := Y.out.out.at0
    have r1 := Y.out.out.at1
    have q0 := Y.out.out.free0
    have q1 := Y.out.out.free1
    go_simp
    have X8 := Lib.hid (show Bx (n1 : Int) (.slice a2 L c2) o ((v1.setCell ⟨w.heap.size, 0, none⟩ (.int .i64 (n1 : Int))).setCell ⟨w.heap.size, 1, none⟩ (.slice a2 L c2)) from (X.out.other (by omega) _).other (by omega) _)
    have Y8 := Lib.hid ((Y.out.setN (n1 : Int)).set (.slice a2 L c2))
    have y0 := Y8.out.out.at0
    have y1 := Y8.out.out.at1
    refine hK.out _ _ (by first | exact ⟨X8.out.out.at0, X8.out.out.at1⟩ | go_keep) (fun hHeld => ?_)
    clear hK K
    try simp only [List.getElem_toArray, List.getElem_cons_zero, List.getElem_cons_succ, Act.put, List.setIfInBounds_toArray, List.set_cons_zero, List.set_cons_succ]
    refine wpAnyH_take (i := 5) (v := ?_) rfl (by kernel_rfl) (by kernel_rfl) (by kernel_rfl) (fun _ _ _ h => h) (Or.inl ⟨by rfl, ?_⟩) (by assumption) ?_
    rotate_left
    · (intro w hSw; (try dsimp only at hSw); go_simp; try with_reducible rfl)
    try simp only [List.getElem_toArray, List.getElem_cons_zero, List.getElem_cons_succ, Act.put, List.setIfInBounds_toArray, List.set_cons_zero, List.set_cons_succ]
    refine wpAnyH_done (by kernel_rfl) ?_ _
    go_wp2_with fail
    refine bodyPost_ret (v := .tuple #[.agg #[.int .i64 (n1 : Int), .slice a2 L c2], .bool ((z : Int) == 0)]) (by simp [results, Tryd.results11, go_sem, y0, y1]) rfl ?_
    refine ⟨(n1 : Int), toI ms, ((z : Int) == 0), ⟨by omega, by omega, by rw [HAl.out]; omega⟩, a2, c2, by rw [HAl.out], ?_, ?_⟩
    · rw [HAl.out]
      refine Ints.mono (B := w.heap.size + 1) ?_ (by omega)
      repeat (refine Ints.setCell_below ?_ (by simp) _)
      exact I.out.mono (by omega)
    · have hb0 := B.out
      clear r0 r1 q0 q1 y0 y1
      go_grown

end Go.Proofs.YthmipnflbiclbaaDoor
