/- The draw of two classes. Conditions: the reader stands at p. -/
import Derived.Deep.RegionHeld3
import Derived.Test.YtpcjecahplglfabThin
import Derived.Test.YtpcjecahplglfabZK
namespace Go.Proofs.Ytpcjecahplglfab
open Go.RowKit

/-- two classes are drawn -/
def GotTwo (R : Nat) (w : World) (e : Ending) (w' : World) : Prop := ∃ (n1 n2 : Int) (z1 z2 : List Int) (a1 a2 : Option Addr) (c1 c2 : Nat),
  e = .returned (.tuple #[.agg #[.int .i64 n1, .slice a1 z1.length c1], .agg #[.int .i64 n2, .slice a2 z2.length c2]]) ∧ (-8 ≤ n1 ∧ n1 ≤ 8 ∧ z1.length ≤ 34) ∧ (-8 ≤ n2 ∧ n2 ≤ 8 ∧ z2.length ≤ 34) ∧
  Ints w.heap.size w' (.slice a1 z1.length c1) z1 ∧ Ints w.heap.size w' (.slice a2 z2.length c2) z2 ∧ w.grownBy w' (some R)
theorem Ints.notR {B R : Nat} {w w' : World} {v : Value} {xs : List Int} (h : Ints B w v xs) (hR : R < B) (hg : w.grownBy w' (some R)) : Ints B w' v xs :=
  h.kept hg (by right; intro e; have := (h.lt _ e).1; omega)

set_option maxHeartbeats 6400000 in
set_option maxRecDepth 100000 in
theorem specTwoClasses (B R p : Nat) (hp : p ≤ 70000) (w : World) (h : Rdr B R p w) :
    Calls Try.prog 49 #[.pointer (some ⟨R, 0, none⟩)] w (GotTwo R w) := by
  have hRB := h.1
  have hBw := h.2.1
  have Y1 := Lib.hid (show Bx 0 (.slice none 0 0) w.heap.size ((w.alloc (Obj.cells #[.int .i64 0, .slice none 0 0] 26)).alloc (Obj.cells #[.int .i64 0, .slice none 0 0] 26)) from (Bx.new _ _ _).alloc _)
  have Y2 := Lib.hid (show Bx 0 (.slice none 0 0) (w.heap.size + 1) ((w.alloc (Obj.cells #[.int .i64 0, .slice none 0 0] 26)).alloc (Obj.cells #[.int .i64 0, .slice none 0 0] 26)) from heap_alloc_at (by simp))
  have HR := Lib.hid (show Rdr B R p ((w.alloc (Obj.cells #[.int .i64 0, .slice none 0 0] 26)).alloc (Obj.cells #[.int .i64 0, .slice none 0 0] 26)) from (h.alloc _).alloc _)
  have G := Lib.hid (show w.grownBy ((w.alloc (Obj.cells #[.int .i64 0, .slice none 0 0] 26)).alloc (Obj.cells #[.int .i64 0, .slice none 0 0] 26)) (some R) from grownBy_trans (World.grownBy_alloc _ _ _) (World.grownBy_alloc _ _ _))
  have HZ := Lib.hid (show ((w.alloc (Obj.cells #[.int .i64 0, .slice none 0 0] 26)).alloc (Obj.cells #[.int .i64 0, .slice none 0 0] 26)).heap.size = w.heap.size + 2 by simp)
  clear h
  go_enter Try.func49, Try.ntmps49
  go_wp2_with fail
  generalize ((w.alloc (Obj.cells #[.int .i64 0, .slice none 0 0] 26)).alloc (Obj.cells #[.int .i64 0, .slice none 0 0] 26)) = w1 at *
  have hz1 := HZ.out
  clear HZ
  generalize hq1 : w.heap.size = q1 at *
  generalize hq2 : q1 + 1 = q2 at *
  refine (specThinClass B R p (by omega) _ HR.out).mono ?_
  rintro e w2 ⟨n1, a1, c1, p1, z1, rfl, hin, ⟨hn0, hn1, hl1⟩, hp1, hr, hg⟩
  have hz2 := hg.size
  replace Y1 := Lib.hid (Y1.out.kept hg (by simp; omega))
  replace Y2 := Lib.hid (Y2.out.kept hg (by simp; omega))
  replace G := Lib.hid (grownBy_trans G.out hg)
  have X := Lib.hid (Bx.new n1 (.slice a1 z1.length c1) w2)
  have I1 := Lib.hid ((hin.mono (show q1 ≤ w1.heap.size by omega)).alloc (Obj.cells #[.int .i64 n1, .slice a1 z1.length c1] 26))
  replace HR := Lib.hid (hr.alloc (Obj.cells #[.int .i64 n1, .slice a1 z1.length c1] 26))
  replace G := Lib.hid (grownBy_trans G.out (World.grownBy_alloc _ (Obj.cells #[.int .i64 n1, .slice a1 z1.length c1] 26) _))
  replace Y1 := Lib.hid (Y1.out.alloc (Obj.cells #[.int .i64 n1, .slice a1 z1.length c1] 26))
  replace Y2 := Lib.hid (Y2.out.alloc (Obj.cells #[.int .i64 n1, .slice a1 z1.length c1] 26))
  have HZ := Lib.hid (show (w2.alloc (Obj.cells #[.int .i64 n1, .slice a1 z1.length c1] 26)).heap.size = w2.heap.size + 1 by simp)
  clear hin hr hg
  go_wp2_with fail
  generalize (w2.alloc (Obj.cells #[.int .i64 n1, .slice a1 z1.length c1] 26)) = w3 at *
  have hz3 := HZ.out
  clear HZ
  generalize ho : w2.heap.size = o at *
  refine (specPick B R p1 12 (by omega) _ HR.out).mono ?_
  rintro e w4 ⟨⟨x, rfl, hx⟩, hr, hg⟩
  have hz4 := hg.size
  replace Y1 := Lib.hid (Y1.out.kept hg (by simp; omega))
  replace Y2 := Lib.hid (Y2.out.kept hg (by simp; omega))
  replace X := Lib.hid (X.out.kept hg (by simp; omega))
  replace I1 := Lib.hid (I1.out.notR (by omega) hg)
  replace G := Lib.hid (grownBy_trans G.out hg)
  replace HR := Lib.hid hr
  clear hr hg
  by_cases hx0 : x = 0
  · subst hx0
    have XK := Lib.hid X.out
    have x_0 := X.out.out.at0
    have x_1 := X.out.out.at1
    have y1_0 := Y1.out.out.at0
    have y1_1 := Y1.out.out.at1
    have y2_0 := Y2.out.out.at0
    have y2_1 := Y2.out.out.at1
    have y1q0 := Y1.out.out.free0
    have y1q1 := Y1.out.out.free1
    have y2q0 := Y2.out.out.free0
    have y2q1 := Y2.out.out.free1
    go_wp2_with fail
    clear x_0 x_1 y1_0 y1_1 y2_0 y2_1 y1q0 y1q1 y2q0 y2q1
    refine wp_region_held_drew (S := fun w' => w'.cell? ⟨o, 0, none⟩ = some (Value.int .i64 n1) ∧ w'.cell? ⟨o, 1, none⟩ = some (.slice a1 z1.length c1)) (by kernel_rfl) (by exact ⟨X.out.out.at0, X.out.out.at1⟩) (fun hHeld => ?_)
    replace X := Lib.hid (show Bx _ _ _ w4.drew from X.out)
    replace Y1 := Lib.hid (show Bx _ _ _ w4.drew from Y1.out)
    replace Y2 := Lib.hid (show Bx _ _ _ w4.drew from Y2.out)
    replace I1 := Lib.hid (show Ints _ w4.drew _ _ from I1.out)
    replace HR := Lib.hid (show Rdr B R _ w4.drew from HR.out)
    replace G := Lib.hid (grown_drew G.out)
    have hzd : w4.drew.heap.size = w4.heap.size := rfl
    generalize w4.drew = v0 at *
    refine wpAnyH_take (i := 0) (v := ?_) rfl (by kernel_rfl) (by kernel_rfl) (by kernel_rfl) (fun _ _ _ h => h) (Or.inl ⟨by rfl, ?_⟩) (by assumption) ?_
    rotate_left
    · (intro w hSw; (try dsimp only at hSw); go_simp; try with_reducible rfl)
    try simp only [List.getElem_toArray, List.getElem_cons_zero, Act.put, List.setIfInBounds_toArray, List.set_cons_zero, List.set_cons_succ]
    refine wpAnyH_take (i := 1) (v := ?_) rfl (by kernel_rfl) (by kernel_rfl) (by kernel_rfl) (fun _ _ _ h => h) (Or.inl ⟨by rfl, ?_⟩) (by assumption) ?_
    rotate_left
    · (intro w hSw; (try dsimp only at hSw); go_simp; try with_reducible rfl)
    try simp only [List.getElem_toArray, List.getElem_cons_zero, List.getElem_cons_succ, Act.put, List.setIfInBounds_toArray, List.set_cons_zero, List.set_cons_succ]
    refine wpAnyH_ready (rs := [2]) (by kernel_rfl) (by simp) ?_
    refine AllReadyH.cons rfl (fun K hK => ?_) AllReadyH.nil
    try simp only [List.getElem_toArray]
    go_simp
    refine (specThinClass B R (p1 + 1) (by omega) _ HR.out).mono ?_
    rintro e v1 ⟨n2, a2, c2, p2, z2, rfl, hin, ⟨hm0, hm1, hl2⟩, hp2, hr, hg⟩
    have hzv := hg.size
    replace X := Lib.hid (X.out.kept hg (by simp; omega))
    replace Y1 := Lib.hid (Y1.out.kept hg (by simp; omega))
    replace Y2 := Lib.hid (Y2.out.kept hg (by simp; omega))
    replace I1 := Lib.hid (I1.out.notR (by omega) hg)
    have I2 := Lib.hid (hin.mono (show q1 ≤ v0.heap.size by omega))
    replace G := Lib.hid (grownBy_trans G.out hg)
    clear hin hg hr HR
    refine hK.out _ _ (by exact ⟨X.out.out.at0, X.out.out.at1⟩) (fun hHeld => ?_)
    clear hK K
    try simp only [List.getElem_toArray, List.getElem_cons_zero, List.getElem_cons_succ, Act.put, List.setIfInBounds_toArray, List.set_cons_zero, List.set_cons_succ]
    refine wpAnyH_ready (rs := [3]) (by kernel_rfl) (by simp) ?_
    refine AllReadyH.cons rfl (fun K hK => ?_) AllReadyH.nil
    try simp only [List.getElem_toArray]
    have y1_0 := Y1.out.out.at0
    have y1_1 := Y1.out.out.at1
    have y1q0 := Y1.out.out.free0
    have y1q1 := Y1.out.out.free1
    go_simp
    clear y1_0 y1_1 y1q0 y1q1
    replace X := Lib.hid ((X.out.other (p := q1) (j := 0) (by omega) (.int .i64 n1)).other (p := q1) (j := 1) (by omega) (.slice a1 z1.length c1))
    replace Y2 := Lib.hid ((Y2.out.other (p := q1) (j := 0) (by omega) (.int .i64 n1)).other (p := q1) (j := 1) (by omega) (.slice a1 z1.length c1))
    replace I1 := Lib.hid ((I1.out.bx Y1.out 0 (.int .i64 n1)).bx (Y1.out.setN n1) 1 (.slice a1 z1.length c1))
    replace I2 := Lib.hid ((I2.out.bx Y1.out 0 (.int .i64 n1)).bx (Y1.out.setN n1) 1 (.slice a1 z1.length c1))
    replace Y1 := Lib.hid ((Y1.out.setN n1).set (.slice a1 z1.length c1))
    replace G := Lib.hid (grown_set (grown_set G.out (o := q1) (by omega) (j := 0) (.int .i64 n1)) (o := q1) (by omega) (j := 1) (.slice a1 z1.length c1))
    refine hK.out _ _ (by exact ⟨X.out.out.at0, X.out.out.at1⟩) (fun hHeld => ?_)
    clear hK K
    try simp only [List.getElem_toArray, List.getElem_cons_zero, List.getElem_cons_succ, Act.put, List.setIfInBounds_toArray, List.set_cons_zero, List.set_cons_succ]
    refine wpAnyH_ready (rs := [4]) (by kernel_rfl) (by simp) ?_
    refine AllReadyH.cons rfl (fun K hK => ?_) AllReadyH.nil
    try simp only [List.getElem_toArray]
    have y2_0 := Y2.out.out.at0
    have y2_1 := Y2.out.out.at1
    have y2q0 := Y2.out.out.free0
    have y2q1 := Y2.out.out.free1
    go_simp
    clear y2_0 y2_1 y2q0 y2q1
    replace X := Lib.hid ((X.out.other (p := q2) (j := 0) (by omega) (.int .i64 n2)).other (p := q2) (j := 1) (by omega) (.slice a2 z2.length c2))
    replace Y1 := Lib.hid ((Y1.out.other (p := q2) (j := 0) (by omega) (.int .i64 n2)).other (p := q2) (j := 1) (by omega) (.slice a2 z2.length c2))
    replace I1 := Lib.hid ((I1.out.bx Y2.out 0 (.int .i64 n2)).bx (Y2.out.setN n2) 1 (.slice a2 z2.length c2))
    replace I2 := Lib.hid ((I2.out.bx Y2.out 0 (.int .i64 n2)).bx (Y2.out.setN n2) 1 (.slice a2 z2.length c2))
    replace Y2 := Lib.hid ((Y2.out.setN n2).set (.slice a2 z2.length c2))
    replace G := Lib.hid (grown_set (grown_set G.out (o := q2) (by omega) (j := 0) (.int .i64 n2)) (o := q2) (by omega) (j := 1) (.slice a2 z2.length c2))
    refine hK.out _ _ (by exact ⟨X.out.out.at0, X.out.out.at1⟩) (fun hHeld => ?_)
    clear hK K
    try simp only [List.getElem_toArray, List.getElem_cons_zero, List.getElem_cons_succ, Act.put, List.setIfInBounds_toArray, List.set_cons_zero, List.set_cons_succ]
    refine wpAnyH_done (by kernel_rfl) ?_ _
    generalize hW : World.setCell _ _ _ = W9 at *
    have r0 := Y1.out.out.at0
    have r1 := Y1.out.out.at1
    have s0 := Y2.out.out.at0
    have s1 := Y2.out.out.at1
    go_wp2_with fail
    refine bodyPost_ret (v := .tuple #[.agg #[.int .i64 n1, .slice a1 z1.length c1], .agg #[.int .i64 n2, .slice a2 z2.length c2]]) (by simp [results, Try.results49, go_sem, r0, r1, s0, s1]) rfl ?_
    exact ⟨n1, n2, z1, z2, a1, a2, c1, c2, rfl, ⟨by omega, by omega, by omega⟩, ⟨by omega, by omega, by omega⟩, by rw [hq1]; exact I1.out, by rw [hq1]; exact I2.out, G.out⟩
  · have hxI : ¬ (x : Int) = 0 := by omega
    have hxd : decide ((x : Int) = 0) = false := decide_eq_false hxI
    have x_0 := X.out.out.at0
    have x_1 := X.out.out.at1
    go_wp2_with fail
    clear x_0 x_1
    have HV := Lib.hid (fun v w h => specValid n1 v z1 w h)
    refine (HV.out _ _ I1.out.rd).mono ?_
    rintro e w5 ⟨rfl, hb⟩
    have hz5 := hb.size
    replace X := Lib.hid (X.out.next hb X.out.lt)
    replace Y1 := Lib.hid (Y1.out.next hb Y1.out.lt)
    replace Y2 := Lib.hid (Y2.out.next hb Y2.out.lt)
    replace I1 := Lib.hid (I1.out.below hb (Nat.le_refl _))
    replace HR := Lib.hid (HR.out.next hb (by omega))
    replace G := Lib.hid (grown_next G.out hb)
    clear hb HV
    by_cases hv : vldB n1 z1 = true
    · obtain ⟨m, ns, rfl, rfl, hcl⟩ := vldB_cls hv
      have hcm := hcl.pts
      rw [hv]
      clear hcl
      generalize toI ns = z1 at *
      have XK := Lib.hid X.out
      have x_0 := X.out.out.at0
      have x_1 := X.out.out.at1
      have y1_0 := Y1.out.out.at0
      have y1_1 := Y1.out.out.at1
      have y2_0 := Y2.out.out.at0
      have y2_1 := Y2.out.out.at1
      have y1q0 := Y1.out.out.free0
      have y1q1 := Y1.out.out.free1
      have y2q0 := Y2.out.out.free0
      have y2q1 := Y2.out.out.free1
      go_wp2_with fail
      clear x_0 x_1 y1_0 y1_1 y2_0 y2_1 y1q0 y1q1 y2q0 y2q1
      refine wp_region_held_drew (S := fun w' => w'.cell? ⟨o, 0, none⟩ = some (Value.int .i64 (m : Int)) ∧ w'.cell? ⟨o, 1, none⟩ = some (.slice a1 z1.length c1)) (by kernel_rfl) (by exact ⟨X.out.out.at0, X.out.out.at1⟩) (fun hHeld => ?_)
      replace X := Lib.hid (show Bx _ _ _ w5.drew from X.out)
      replace Y1 := Lib.hid (show Bx _ _ _ w5.drew from Y1.out)
      replace Y2 := Lib.hid (show Bx _ _ _ w5.drew from Y2.out)
      replace I1 := Lib.hid (show Ints _ w5.drew _ _ from I1.out)
      replace HR := Lib.hid (show Rdr B R _ w5.drew from HR.out)
      replace G := Lib.hid (grown_drew G.out)
      have hzd : w5.drew.heap.size = w5.heap.size := rfl
      generalize w5.drew = v0 at *
      refine wpAnyH_take (i := 0) (v := ?_) rfl (by kernel_rfl) (by kernel_rfl) (by kernel_rfl) (fun _ _ _ h => h) (Or.inl ⟨by rfl, ?_⟩) (by assumption) ?_
      rotate_left
      · (intro w hSw; (try dsimp only at hSw); go_simp; try with_reducible rfl)
      try simp only [List.getElem_toArray, List.getElem_cons_zero, Act.put, List.setIfInBounds_toArray, List.set_cons_zero, List.set_cons_succ]
      refine wpAnyH_take (i := 1) (v := ?_) rfl (by kernel_rfl) (by kernel_rfl) (by kernel_rfl) (fun _ _ _ h => h) (Or.inl ⟨by rfl, ?_⟩) (by assumption) ?_
      rotate_left
      · (intro w hSw; (try dsimp only at hSw); go_simp; try with_reducible rfl)
      try simp only [List.getElem_toArray, List.getElem_cons_zero, List.getElem_cons_succ, Act.put, List.setIfInBounds_toArray, List.set_cons_zero, List.set_cons_succ]
      refine wpAnyH_take (i := 2) (v := ?_) rfl (by kernel_rfl) (by kernel_rfl) (by kernel_rfl) (fun _ _ _ h => h) (Or.inl ⟨by rfl, ?_⟩) (by assumption) ?_
      rotate_left
      · (intro w hSw; (try dsimp only at hSw); go_simp; try with_reducible rfl)
      try simp only [List.getElem_toArray, List.getElem_cons_zero, List.getElem_cons_succ, Act.put, List.setIfInBounds_toArray, List.set_cons_zero, List.set_cons_succ]
      refine wpAnyH_take (i := 3) (v := ?_) rfl (by kernel_rfl) (by kernel_rfl) (by kernel_rfl) (fun _ _ _ h => h) (Or.inl ⟨by rfl, ?_⟩) (by assumption) ?_
      rotate_left
      · (intro w hSw; (try dsimp only at hSw); go_simp; try with_reducible rfl)
      try simp only [List.getElem_toArray, List.getElem_cons_zero, List.getElem_cons_succ, Act.put, List.setIfInBounds_toArray, List.set_cons_zero, List.set_cons_succ]
      refine wpAnyH_ready (rs := [4]) (by kernel_rfl) (by simp) ?_
      refine AllReadyH.cons rfl (fun K hK => ?_) AllReadyH.nil
      try simp only [List.getElem_toArray]
      go_simp
      refine (specClassOf B R (p1 + 1) m hcm (by omega) _ HR.out).mono ?_
      rintro e v1 ⟨a2, c2, p2, ms2, rfl, hin, hcls2, hp2, hr, hg⟩
      have hzv := hg.size
      replace X := Lib.hid (X.out.kept hg (by simp; omega))
      replace Y1 := Lib.hid (Y1.out.kept hg (by simp; omega))
      replace Y2 := Lib.hid (Y2.out.kept hg (by simp; omega))
      replace I1 := Lib.hid (I1.out.notR (by omega) hg)
      have I2 := Lib.hid (hin.mono (show q1 ≤ v0.heap.size by omega))
      replace G := Lib.hid (grownBy_trans G.out hg)
      clear hin hg hr HR
      have hl2' := hcls2.length
      have HL2 := Lib.hid (toI_length ms2)
      generalize hz2' : toI ms2 = z2 at *
      have hzl : z2.length = ms2.length := HL2.out
      rw [← hzl]
      rw [← hzl] at I2 hl2'
      clear hzl HL2 hz2' hcls2
      refine hK.out _ _ (by exact ⟨X.out.out.at0, X.out.out.at1⟩) (fun hHeld => ?_)
      clear hK K
      try simp only [List.getElem_toArray, List.getElem_cons_zero, List.getElem_cons_succ, Act.put, List.setIfInBounds_toArray, List.set_cons_zero, List.set_cons_succ]
      refine wpAnyH_ready (rs := [5]) (by kernel_rfl) (by simp) ?_
      refine AllReadyH.cons rfl (fun K hK => ?_) AllReadyH.nil
      try simp only [List.getElem_toArray]
      have y1_0 := Y1.out.out.at0
      have y1_1 := Y1.out.out.at1
      have y1q0 := Y1.out.out.free0
      have y1q1 := Y1.out.out.free1
      go_simp
      clear y1_0 y1_1 y1q0 y1q1
      replace X := Lib.hid ((X.out.other (p := q1) (j := 0) (by omega) (.int .i64 (m : Int))).other (p := q1) (j := 1) (by omega) (.slice a1 z1.length c1))
      replace Y2 := Lib.hid ((Y2.out.other (p := q1) (j := 0) (by omega) (.int .i64 (m : Int))).other (p := q1) (j := 1) (by omega) (.slice a1 z1.length c1))
      replace I1 := Lib.hid ((I1.out.bx Y1.out 0 (.int .i64 (m : Int))).bx (Y1.out.setN (m : Int)) 1 (.slice a1 z1.length c1))
      replace I2 := Lib.hid ((I2.out.bx Y1.out 0 (.int .i64 (m : Int))).bx (Y1.out.setN (m : Int)) 1 (.slice a1 z1.length c1))
      replace Y1 := Lib.hid ((Y1.out.setN (m : Int)).set (.slice a1 z1.length c1))
      replace G := Lib.hid (grown_set (grown_set G.out (o := q1) (by omega) (j := 0) (.int .i64 (m : Int))) (o := q1) (by omega) (j := 1) (.slice a1 z1.length c1))
      refine hK.out _ _ (by exact ⟨X.out.out.at0, X.out.out.at1⟩) (fun hHeld => ?_)
      clear hK K
      try simp only [List.getElem_toArray, List.getElem_cons_zero, List.getElem_cons_succ, Act.put, List.setIfInBounds_toArray, List.set_cons_zero, List.set_cons_succ]
      refine wpAnyH_ready (rs := [6]) (by kernel_rfl) (by simp) ?_
      refine AllReadyH.cons rfl (fun K hK => ?_) AllReadyH.nil
      try simp only [List.getElem_toArray]
      have y2_0 := Y2.out.out.at0
      have y2_1 := Y2.out.out.at1
      have y2q0 := Y2.out.out.free0
      have y2q1 := Y2.out.out.free1
      go_simp
      clear y2_0 y2_1 y2q0 y2q1
      replace X := Lib.hid ((X.out.other (p := q2) (j := 0) (by omega) (.int .i64 (m : Int))).other (p := q2) (j := 1) (by omega) (.slice a2 z2.length c2))
      replace Y1 := Lib.hid ((Y1.out.other (p := q2) (j := 0) (by omega) (.int .i64 (m : Int))).other (p := q2) (j := 1) (by omega) (.slice a2 z2.length c2))
      replace I1 := Lib.hid ((I1.out.bx Y2.out 0 (.int .i64 (m : Int))).bx (Y2.out.setN (m : Int)) 1 (.slice a2 z2.length c2))
      replace I2 := Lib.hid ((I2.out.bx Y2.out 0 (.int .i64 (m : Int))).bx (Y2.out.setN (m : Int)) 1 (.slice a2 z2.length c2))
      replace Y2 := Lib.hid ((Y2.out.setN (m : Int)).set (.slice a2 z2.length c2))
      replace G := Lib.hid (grown_set (grown_set G.out (o := q2) (by omega) (j := 0) (.int .i64 (m : Int))) (o := q2) (by omega) (j := 1) (.slice a2 z2.length c2))
      refine hK.out _ _ (by exact ⟨X.out.out.at0, X.out.out.at1⟩) (fun hHeld => ?_)
      clear hK K
      try simp only [List.getElem_toArray, List.getElem_cons_zero, List.getElem_cons_succ, Act.put, List.setIfInBounds_toArray, List.set_cons_zero, List.set_cons_succ]
      refine wpAnyH_done (by kernel_rfl) ?_ _
      generalize hW : World.setCell _ _ _ = W9 at *
      have r0 := Y1.out.out.at0
      have r1 := Y1.out.out.at1
      have s0 := Y2.out.out.at0
      have s1 := Y2.out.out.at1
      go_wp2_with fail
      refine bodyPost_ret (v := .tuple #[.agg #[.int .i64 (m : Int), .slice a1 z1.length c1], .agg #[.int .i64 (m : Int), .slice a2 z2.length c2]]) (by simp [results, Try.results49, go_sem, r0, r1, s0, s1]) rfl ?_
      exact ⟨(m : Int), (m : Int), z1, z2, a1, a2, c1, c2, rfl, ⟨by omega, by omega, by omega⟩, ⟨by omega, by omega, by omega⟩, by rw [hq1]; exact I1.out, by rw [hq1]; exact I2.out, G.out⟩
    · rw [Bool.not_eq_true] at hv
      rw [hv]
      have XK := Lib.hid X.out
      have x_0 := X.out.out.at0
      have x_1 := X.out.out.at1
      have y1_0 := Y1.out.out.at0
      have y1_1 := Y1.out.out.at1
      have y2_0 := Y2.out.out.at0
      have y2_1 := Y2.out.out.at1
      have y1q0 := Y1.out.out.free0
      have y1q1 := Y1.out.out.free1
      have y2q0 := Y2.out.out.free0
      have y2q1 := Y2.out.out.free1
      go_wp2_with fail
      clear x_0 x_1 y1_0 y1_1 y2_0 y2_1 y1q0 y1q1 y2q0 y2q1
      refine wp_region_held_drew (S := fun w' => w'.cell? ⟨o, 0, none⟩ = some (Value.int .i64 n1) ∧ w'.cell? ⟨o, 1, none⟩ = some (.slice a1 z1.length c1)) (by kernel_rfl) (by exact ⟨X.out.out.at0, X.out.out.at1⟩) (fun hHeld => ?_)
      replace X := Lib.hid (show Bx _ _ _ w5.drew from X.out)
      replace Y1 := Lib.hid (show Bx _ _ _ w5.drew from Y1.out)
      replace Y2 := Lib.hid (show Bx _ _ _ w5.drew from Y2.out)
      replace I1 := Lib.hid (show Ints _ w5.drew _ _ from I1.out)
      replace HR := Lib.hid (show Rdr B R _ w5.drew from HR.out)
      replace G := Lib.hid (grown_drew G.out)
      have hzd : w5.drew.heap.size = w5.heap.size := rfl
      generalize w5.drew = v0 at *
      refine wpAnyH_take (i := 0) (v := ?_) rfl (by kernel_rfl) (by kernel_rfl) (by kernel_rfl) (fun _ _ _ h => h) (Or.inl ⟨by rfl, ?_⟩) (by assumption) ?_
      rotate_left
      · (intro w hSw; (try dsimp only at hSw); go_simp; try with_reducible rfl)
      try simp only [List.getElem_toArray, List.getElem_cons_zero, Act.put, List.setIfInBounds_toArray, List.set_cons_zero, List.set_cons_succ]
      refine wpAnyH_take (i := 1) (v := ?_) rfl (by kernel_rfl) (by kernel_rfl) (by kernel_rfl) (fun _ _ _ h => h) (Or.inl ⟨by rfl, ?_⟩) (by assumption) ?_
      rotate_left
      · (intro w hSw; (try dsimp only at hSw); go_simp; try with_reducible rfl)
      try simp only [List.getElem_toArray, List.getElem_cons_zero, List.getElem_cons_succ, Act.put, List.setIfInBounds_toArray, List.set_cons_zero, List.set_cons_succ]
      refine wpAnyH_ready (rs := [2]) (by kernel_rfl) (by simp) ?_
      refine AllReadyH.cons rfl (fun K hK => ?_) AllReadyH.nil
      try simp only [List.getElem_toArray]
      go_simp
      refine (specThinClass B R (p1 + 1) (by omega) _ HR.out).mono ?_
      rintro e v1 ⟨n2, a2, c2, p2, z2, rfl, hin, ⟨hm0, hm1, hl2⟩, hp2, hr, hg⟩
      have hzv := hg.size
      replace X := Lib.hid (X.out.kept hg (by simp; omega))
      replace Y1 := Lib.hid (Y1.out.kept hg (by simp; omega))
      replace Y2 := Lib.hid (Y2.out.kept hg (by simp; omega))
      replace I1 := Lib.hid (I1.out.notR (by omega) hg)
      have I2 := Lib.hid (hin.mono (show q1 ≤ v0.heap.size by omega))
      replace G := Lib.hid (grownBy_trans G.out hg)
      clear hin hg hr HR
      refine hK.out _ _ (by exact ⟨X.out.out.at0, X.out.out.at1⟩) (fun hHeld => ?_)
      clear hK K
      try simp only [List.getElem_toArray, List.getElem_cons_zero, List.getElem_cons_succ, Act.put, List.setIfInBounds_toArray, List.set_cons_zero, List.set_cons_succ]
      refine wpAnyH_ready (rs := [3]) (by kernel_rfl) (by simp) ?_
      refine AllReadyH.cons rfl (fun K hK => ?_) AllReadyH.nil
      try simp only [List.getElem_toArray]
      have y1_0 := Y1.out.out.at0
      have y1_1 := Y1.out.out.at1
      have y1q0 := Y1.out.out.free0
      have y1q1 := Y1.out.out.free1
      go_simp
      clear y1_0 y1_1 y1q0 y1q1
      replace X := Lib.hid ((X.out.other (p := q1) (j := 0) (by omega) (.int .i64 n1)).other (p := q1) (j := 1) (by omega) (.slice a1 z1.length c1))
      replace Y2 := Lib.hid ((Y2.out.other (p := q1) (j := 0) (by omega) (.int .i64 n1)).other (p := q1) (j := 1) (by omega) (.slice a1 z1.length c1))
      replace I1 := Lib.hid ((I1.out.bx Y1.out 0 (.int .i64 n1)).bx (Y1.out.setN n1) 1 (.slice a1 z1.length c1))
      replace I2 := Lib.hid ((I2.out.bx Y1.out 0 (.int .i64 n1)).bx (Y1.out.setN n1) 1 (.slice a1 z1.length c1))
      replace Y1 := Lib.hid ((Y1.out.setN n1).set (.slice a1 z1.length c1))
      replace G := Lib.hid (grown_set (grown_set G.out (o := q1) (by omega) (j := 0) (.int .i64 n1)) (o := q1) (by omega) (j := 1) (.slice a1 z1.length c1))
      refine hK.out _ _ (by exact ⟨X.out.out.at0, X.out.out.at1⟩) (fun hHeld => ?_)
      clear hK K
      try simp only [List.getElem_toArray, List.getElem_cons_zero, List.getElem_cons_succ, Act.put, List.setIfInBounds_toArray, List.set_cons_zero, List.set_cons_succ]
      refine wpAnyH_ready (rs := [4]) (by kernel_rfl) (by simp) ?_
      refine AllReadyH.cons rfl (fun K hK => ?_) AllReadyH.nil
      try simp only [List.getElem_toArray]
      have y2_0 := Y2.out.out.at0
      have y2_1 := Y2.out.out.at1
      have y2q0 := Y2.out.out.free0
      have y2q1 := Y2.out.out.free1
      go_simp
      clear y2_0 y2_1 y2q0 y2q1
      replace X := Lib.hid ((X.out.other (p := q2) (j := 0) (by omega) (.int .i64 n2)).other (p := q2) (j := 1) (by omega) (.slice a2 z2.length c2))
      replace Y1 := Lib.hid ((Y1.out.other (p := q2) (j := 0) (by omega) (.int .i64 n2)).other (p := q2) (j := 1) (by omega) (.slice a2 z2.length c2))
      replace I1 := Lib.hid ((I1.out.bx Y2.out 0 (.int .i64 n2)).bx (Y2.out.setN n2) 1 (.slice a2 z2.length c2))
      replace I2 := Lib.hid ((I2.out.bx Y2.out 0 (.int .i64 n2)).bx (Y2.out.setN n2) 1 (.slice a2 z2.length c2))
      replace Y2 := Lib.hid ((Y2.out.setN n2).set (.slice a2 z2.length c2))
      replace G := Lib.hid (grown_set (grown_set G.out (o := q2) (by omega) (j := 0) (.int .i64 n2)) (o := q2) (by omega) (j := 1) (.slice a2 z2.length c2))
      refine hK.out _ _ (by exact ⟨X.out.out.at0, X.out.out.at1⟩) (fun hHeld => ?_)
      clear hK K
      try simp only [List.getElem_toArray, List.getElem_cons_zero, List.getElem_cons_succ, Act.put, List.setIfInBounds_toArray, List.set_cons_zero, List.set_cons_succ]
      refine wpAnyH_done (by kernel_rfl) ?_ _
      generalize hW : World.setCell _ _ _ = W9 at *
      have r0 := Y1.out.out.at0
      have r1 := Y1.out.out.at1
      have s0 := Y2.out.out.at0
      have s1 := Y2.out.out.at1
      go_wp2_with fail
      refine bodyPost_ret (v := .tuple #[.agg #[.int .i64 n1, .slice a1 z1.length c1], .agg #[.int .i64 n2, .slice a2 z2.length c2]]) (by simp [results, Try.results49, go_sem, r0, r1, s0, s1]) rfl ?_
      exact ⟨n1, n2, z1, z2, a1, a2, c1, c2, rfl, ⟨by omega, by omega, by omega⟩, ⟨by omega, by omega, by omega⟩, by rw [hq1]; exact I1.out, by rw [hq1]; exact I2.out, G.out⟩

end Go.Proofs.Ytpcjecahplglfab
