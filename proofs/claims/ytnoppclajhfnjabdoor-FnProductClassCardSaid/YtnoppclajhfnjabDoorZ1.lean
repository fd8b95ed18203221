/- The draw of two classes. Conditions: the reader stands at p. What the laws of UnionClass and MeetClass draw: two classes. Conditions: the code is a slice of bytes. One of some numbers of a literal is drawn. No conditions. What the law of ProductClass draws: two classes. Conditions: the code is a slice of bytes. -/
import Derived.Deep.RegionHeld3
import Derived.Test.YtnoppclajhfnjabDoorBent
import Derived.Test.YtnoppclajhfnjabDoorThin
import Derived.Test.YtnoppclajhfnjabDoorZK
namespace Go.Proofs.YtnoppclajhfnjabDoor
open Go.RowKit

/-- two classes are drawn -/
def GotTwo (R : Nat) (w : World) (e : Ending) (w' : World) : Prop := ∃ (n1 n2 : Int) (z1 z2 : List Int) (a1 a2 : Option Addr) (c1 c2 : Nat),
  e = .returned (.tuple #[.agg #[.int .i64 n1, .slice a1 z1.length c1], .agg #[.int .i64 n2, .slice a2 z2.length c2]]) ∧ (-8 ≤ n1 ∧ n1 ≤ 8 ∧ z1.length ≤ 34) ∧ (-8 ≤ n2 ∧ n2 ≤ 8 ∧ z2.length ≤ 34) ∧
  Ints w.heap.size w' (.slice a1 z1.length c1) z1 ∧ Ints w.heap.size w' (.slice a2 z2.length c2) z2 ∧ w.grownBy w' (some R)
theorem Ints.notR {B R : Nat} {w w' : World} {v : Value} {xs : List Int} (h : Ints B w v xs) (hR : R < B) (hg : w.grownBy w' (some R)) : Ints B w' v xs :=
  h.kept hg (by right; intro e; have := (h.lt _ e).1; omega)


end Go.Proofs.YtnoppclajhfnjabDoor

namespace Go.Proofs.YtnoppclajhfnjabDoor
open Go.RowKit

/-- two classes are drawn, and nothing that was there is changed -/
def GotCC (w : World) (e : Ending) (w' : World) : Prop := ∃ (n1 n2 : Int) (z1 z2 : List Int) (a1 a2 : Option Addr) (c1 c2 : Nat),
  e = .returned (.tuple #[.agg #[.int .i64 n1, .slice a1 z1.length c1], .agg #[.int .i64 n2, .slice a2 z2.length c2]]) ∧ (-8 ≤ n1 ∧ n1 ≤ 8 ∧ z1.length ≤ 34) ∧ (-8 ≤ n2 ∧ n2 ≤ 8 ∧ z2.length ≤ 34) ∧
  Ints w.heap.size w' (.slice a1 z1.length c1) z1 ∧ Ints w.heap.size w' (.slice a2 z2.length c2) z2 ∧ Below w.heap.size w w'



end Go.Proofs.YtnoppclajhfnjabDoor

namespace Go.Proofs.YtnoppclajhfnjabDoor
open Go.RowKit

/-- one of some numbers is drawn -/
theorem specOneLit (B R p : Nat) (l : List Int) (k : Nat) (o : Obj) (hk : l.length = k) (h0 : 0 < k) (hp : p ≤ 1000000) (w : World) (h : Rdr B R p w) (ho : o = Obj.cells (l.map (Value.int .i64)).toArray 3) (hm : k ≤ 100) (b : Nat) (hb : w.heap.size = b) :
    Calls Tryd.prog 97 #[.pointer (some ⟨R, 0, none⟩), .slice (some ⟨b, 0, none⟩) k k] (w.alloc o) fun e w' => (∃ i, i < k ∧ e = .returned (.int .i64 (l.getD i 0))) ∧ Rdr B R (p + 1) w' ∧ w.grownBy w' (some R) := by
  subst hk; subst ho; subst hb
  have hRB := h.1
  have hBw := h.2.1
  refine (specOne B R p (some ⟨w.heap.size, 0, none⟩) l.length l hp h0 _ (h.alloc _) (rdLit _ _ _ rfl (by omega)) (fun b' o e => by cases e; omega)).mono ?_
  rintro e w' ⟨h1, h2, h3⟩
  exact ⟨h1, h2, grownBy_trans (World.grownBy_alloc _ _ _) h3⟩

end Go.Proofs.YtnoppclajhfnjabDoor

namespace Go.Proofs.YtnoppclajhfnjabDoor
open Go.RowKit

set_option maxHeartbeats 12800000 in
set_option maxRecDepth 100000 in
theorem dDrawProductClass (a : Option Addr) (b off n cap : Nat) (w : World) (hc : n ≤ cap) (hn : n ≤ 1048576) (hcap : cap ≤ maxLen) (h : Byt w a b off n) :
    Calls Tryd.prog 48 #[.slice a n cap] w (GotCC w) := by
  have HN := Lib.hid (specNewReader a b off n cap ((w.alloc (Obj.cells #[.int .i64 0, .slice none 0 0] 25)).alloc (Obj.cells #[.int .i64 0, .slice none 0 0] 25)) hc hn hcap ((h.kept (World.grownBy_alloc _ _ none) (by simp)).kept (World.grownBy_alloc _ _ none) (by simp)))
  have Y1 := Lib.hid (show Bx 0 (.slice none 0 0) w.heap.size ((w.alloc (Obj.cells #[.int .i64 0, .slice none 0 0] 25)).alloc (Obj.cells #[.int .i64 0, .slice none 0 0] 25)) from (Bx.new _ _ _).alloc _)
  have Y2 := Lib.hid (show Bx 0 (.slice none 0 0) (w.heap.size + 1) ((w.alloc (Obj.cells #[.int .i64 0, .slice none 0 0] 25)).alloc (Obj.cells #[.int .i64 0, .slice none 0 0] 25)) from heap_alloc_at (by simp))
  have G := Lib.hid (show w.grownBy ((w.alloc (Obj.cells #[.int .i64 0, .slice none 0 0] 25)).alloc (Obj.cells #[.int .i64 0, .slice none 0 0] 25)) none from grownBy_trans (World.grownBy_alloc _ _ _) (World.grownBy_alloc _ _ _))
  have HZ := Lib.hid (show ((w.alloc (Obj.cells #[.int .i64 0, .slice none 0 0] 25)).alloc (Obj.cells #[.int .i64 0, .slice none 0 0] 25)).heap.size = w.heap.size + 2 by simp)
  clear h
  go_enter Tryd.func48, Tryd.ntmps48
  go_wp2_with fail
  generalize ((w.alloc (Obj.cells #[.int .i64 0, .slice none 0 0] 25)).alloc (Obj.cells #[.int .i64 0, .slice none 0 0] 25)) = w0 at *
  refine HN.out.mono ?_
  rintro e w1 ⟨rfl, hr, hg⟩
  rw [HZ.out] at hr
  rw [HZ.out]
  have hRB := hr.1
  have hBw := hr.2.1
  have hz1 := hg.size
  have hz0 := HZ.out
  replace G := Lib.hid (show w.grownBy w1 (some (w.heap.size + 2)) from by have h9 := grownBy_trans G.out hg; exact ⟨h9.os, h9.tape, h9.output, h9.size, fun k hk _ => h9.block k hk (by simp)⟩)
  replace Y1 := Lib.hid (Y1.out.kept hg (by simp))
  replace Y2 := Lib.hid (Y2.out.kept hg (by simp))
  have HR := Lib.hid hr
  clear hr hg HN HZ
  generalize hq1 : w.heap.size = q1 at *
  generalize hq2 : q1 + 1 = q2 at *
  generalize hqR : q1 + 2 = R at *
  generalize hqB : R + 1 = B at *
  go_wp2_with fail
  refine (specOneLit B R 0 [2, 1, 3, 0] 4 (Obj.cells #[.int .i64 2, .int .i64 1, .int .i64 3, .int .i64 0] 3) rfl (by omega) (by omega) w1 HR.out rfl (by omega) _ (by first | rfl | omega)).mono ?_
  rintro e w2 ⟨⟨i1, hi1, rfl⟩, hr, hg⟩
  have hz2 := hg.size
  obtain ⟨n1, hn1, hv1⟩ : ∃ n : Nat, n ≤ 5 ∧ ([2, 1, 3, 0] : List Int).getD i1 0 = (n : Int) := by
    rcases (show i1 = 0 ∨ i1 = 1 ∨ i1 = 2 ∨ i1 = 3 by omega) with rfl | rfl | rfl | rfl
    · exact ⟨2, by omega, rfl⟩
    · exact ⟨1, by omega, rfl⟩
    · exact ⟨3, by omega, rfl⟩
    · exact ⟨0, by omega, rfl⟩
  rw [hv1]
  replace Y1 := Lib.hid (Y1.out.kept hg (by simp; omega))
  replace Y2 := Lib.hid (Y2.out.kept hg (by simp; omega))
  replace G := Lib.hid (grownBy_trans G.out hg)
  replace HR := Lib.hid hr
  clear hr hg hv1 hi1
  go_wp2_with fail
  refine (specClassOf B R (0 + 1) n1 hn1 (by omega) _ HR.out).mono ?_
  rintro e w3 ⟨a1, c1, p1, ms, rfl, hin, hcls, hp1, hr, hg⟩
  have hz3 := hg.size
  have hl := toI_length ms
  have hl1 := hcls.length
  rw [← hl] at hin hl1 ⊢
  clear hl hcls
  generalize toI ms = z1 at *
  replace Y1 := Lib.hid (Y1.out.kept hg (by simp; omega))
  replace Y2 := Lib.hid (Y2.out.kept hg (by simp; omega))
  replace G := Lib.hid (grownBy_trans G.out hg)
  have X := Lib.hid (Bx.new (n1 : Int) (.slice a1 z1.length c1) w3)
  have I1 := Lib.hid ((hin.mono (show B ≤ w2.heap.size by omega)).alloc (Obj.cells #[.int .i64 (n1 : Int), .slice a1 z1.length c1] 25))
  replace HR := Lib.hid (hr.alloc (Obj.cells #[.int .i64 (n1 : Int), .slice a1 z1.length c1] 25))
  replace G := Lib.hid (grownBy_trans G.out (World.grownBy_alloc _ (Obj.cells #[.int .i64 (n1 : Int), .slice a1 z1.length c1] 25) _))
  replace Y1 := Lib.hid (Y1.out.alloc (Obj.cells #[.int .i64 (n1 : Int), .slice a1 z1.length c1] 25))
  replace Y2 := Lib.hid (Y2.out.alloc (Obj.cells #[.int .i64 (n1 : Int), .slice a1 z1.length c1] 25))
  have HZ := Lib.hid (show (w3.alloc (Obj.cells #[.int .i64 (n1 : Int), .slice a1 z1.length c1] 25)).heap.size = w3.heap.size + 1 by simp)
  clear hin hr hg
  go_wp2_with fail
  generalize (w3.alloc (Obj.cells #[.int .i64 (n1 : Int), .slice a1 z1.length c1] 25)) = w4 at *
  have hz4 := HZ.out
  clear HZ
  generalize ho1 : w3.heap.size = o at *
  go_wp2_with fail
  refine (specOneLit B R p1 [1, 2, 0] 3 (Obj.cells #[.int .i64 1, .int .i64 2, .int .i64 0] 3) rfl (by omega) (by omega) w4 HR.out rfl (by omega) _ (by first | rfl | omega)).mono ?_
  rintro e w5 ⟨⟨i2, hi2, rfl⟩, hr, hg⟩
  have hz5 := hg.size
  obtain ⟨n2, hn2, hv2⟩ : ∃ n : Nat, n ≤ 5 ∧ ([1, 2, 0] : List Int).getD i2 0 = (n : Int) := by
    rcases (show i2 = 0 ∨ i2 = 1 ∨ i2 = 2 by omega) with rfl | rfl | rfl
    · exact ⟨1, by omega, rfl⟩
    · exact ⟨2, by omega, rfl⟩
    · exact ⟨0, by omega, rfl⟩
  rw [hv2]
  replace Y1 := Lib.hid (Y1.out.kept hg (by simp; omega))
  replace Y2 := Lib.hid (Y2.out.kept hg (by simp; omega))
  replace X := Lib.hid (X.out.kept hg (by simp; omega))
  replace I1 := Lib.hid (I1.out.notR (by omega) hg)
  replace G := Lib.hid (grownBy_trans G.out hg)
  replace HR := Lib.hid hr
  clear hr hg hv2 hi2
  go_wp2_with fail
  refine (specClassOf B R (p1 + 1) n2 hn2 (by omega) _ HR.out).mono ?_
  rintro e w6 ⟨a2, c2, p2, ms, rfl, hin, hcls, hp2, hr, hg⟩
  have hz6 := hg.size
  have hl := toI_length ms
  have hl2 := hcls.length
  rw [← hl] at hin hl2 ⊢
  clear hl hcls
  generalize toI ms = z2 at *
  replace Y1 := Lib.hid (Y1.out.kept hg (by simp; omega))
  replace Y2 := Lib.hid (Y2.out.kept hg (by simp; omega))
  replace X := Lib.hid (X.out.kept hg (by simp; omega))
  replace I1 := Lib.hid (I1.out.notR (by omega) hg)
  replace G := Lib.hid (grownBy_trans G.out hg)
  have Z := Lib.hid (Bx.new (n2 : Int) (.slice a2 z2.length c2) w6)
  have I2 := Lib.hid ((hin.mono (show B ≤ w5.heap.size by omega)).alloc (Obj.cells #[.int .i64 (n2 : Int), .slice a2 z2.length c2] 25))
  replace HR := Lib.hid (hr.alloc (Obj.cells #[.int .i64 (n2 : Int), .slice a2 z2.length c2] 25))
  replace G := Lib.hid (grownBy_trans G.out (World.grownBy_alloc _ (Obj.cells #[.int .i64 (n2 : Int), .slice a2 z2.length c2] 25) _))
  replace Y1 := Lib.hid (Y1.out.alloc (Obj.cells #[.int .i64 (n2 : Int), .slice a2 z2.length c2] 25))
  replace Y2 := Lib.hid (Y2.out.alloc (Obj.cells #[.int .i64 (n2 : Int), .slice a2 z2.length c2] 25))
  replace X := Lib.hid (X.out.alloc (Obj.cells #[.int .i64 (n2 : Int), .slice a2 z2.length c2] 25))
  replace I1 := Lib.hid (I1.out.alloc (Obj.cells #[.int .i64 (n2 : Int), .slice a2 z2.length c2] 25))
  have HZ := Lib.hid (show (w6.alloc (Obj.cells #[.int .i64 (n2 : Int), .slice a2 z2.length c2] 25)).heap.size = w6.heap.size + 1 by simp)
  clear hin hr hg
  go_wp2_with fail
  generalize (w6.alloc (Obj.cells #[.int .i64 (n2 : Int), .slice a2 z2.length c2] 25)) = w7 at *
  have hz7 := HZ.out
  clear HZ
  generalize ho2 : w6.heap.size = q at *
  refine (specPick B R p2 16 (by omega) _ HR.out).mono ?_
  rintro e w8 ⟨⟨x, rfl, hx⟩, hr, hg⟩
  have hz8 := hg.size
  replace Y1 := Lib.hid (Y1.out.kept hg (by simp; omega))
  replace Y2 := Lib.hid (Y2.out.kept hg (by simp; omega))
  replace X := Lib.hid (X.out.kept hg (by simp; omega))
  replace Z := Lib.hid (Z.out.kept hg (by simp; omega))
  replace I1 := Lib.hid (I1.out.notR (by omega) hg)
  replace I2 := Lib.hid (I2.out.notR (by omega) hg)
  replace G := Lib.hid (grownBy_trans G.out hg)
  replace HR := Lib.hid hr
  clear hr hg
  by_cases hx0 : x = 0
  · subst hx0
    have x_0 := X.out.out.at0
    have x_1 := X.out.out.at1
    have y1_0 := Y1.out.out.at0
    have y1_1 := Y1.out.out.at1
    have y2_0 := Y2.out.out.at0
    have y2_1 := Y2.out.out.at1
    have y1q0 := Y1.out.out.free0
    have y1q1 := Y1.out.out.free1
    have y2q0 := Y2.out.out.free0
    have y2q1 := Y2.out.out.free1
    go_wp2_with fail
    clear x_0 x_1 y1_0 y1_1 y2_0 y2_1 y1q0 y1q1 y2q0 y2q1
    refine wp_region_held_drew (S := fun w' => w'.cell? ⟨o, 0, none⟩ = some (Value.int .i64 (n1 : Int)) ∧ w'.cell? ⟨o, 1, none⟩ = some (.slice a1 z1.length c1)) (by kernel_rfl) (by exact ⟨X.out.out.at0, X.out.out.at1⟩) (fun hHeld => ?_)
    clear Z I2
    replace X := Lib.hid (show Bx _ _ _ w8.drew from X.out)
    replace Y1 := Lib.hid (show Bx _ _ _ w8.drew from Y1.out)
    replace Y2 := Lib.hid (show Bx _ _ _ w8.drew from Y2.out)
    replace I1 := Lib.hid (show Ints _ w8.drew _ _ from I1.out)
    replace HR := Lib.hid (show Rdr B R _ w8.drew from HR.out)
    replace G := Lib.hid (grown_drew G.out)
    have hzd : w8.drew.heap.size = w8.heap.size := rfl
    generalize w8.drew = v0 at *
    refine wpAnyH_take (i := 0) (v := ?_) rfl (by kernel_rfl) (by kernel_rfl) (by kernel_rfl) (fun _ _ _ h => h) (Or.inl ⟨by rfl, ?_⟩) (by assumption) ?_
    rotate_left
    · (intro w hSw; (try dsimp only at hSw); go_simp; try with_reducible rfl)
    try simp only [List.getElem_toArray, List.getElem_cons_zero, Act.put, List.setIfInBounds_toArray, List.set_cons_zero, List.set_cons_succ]
    refine wpAnyH_take (i := 1) (v := ?_) rfl (by kernel_rfl) (by kernel_rfl) (by kernel_rfl) (fun _ _ _ h => h) (Or.inl ⟨by rfl, ?_⟩) (by assumption) ?_
    rotate_left
    · (intro w hSw; (try dsimp only at hSw); go_simp; try with_reducible rfl)
    try simp only [List.getElem_toArray, List.getElem_cons_zero, List.getElem_cons_succ, Act.put, List.setIfInBounds_toArray, List.set_cons_zero, List.set_cons_succ]
    refine wpAnyH_ready (rs := [2]) (by kernel_rfl) (by simp) ?_
    refine AllReadyH.cons rfl (fun K hK => ?_) AllReadyH.nil
    try simp only [List.getElem_toArray]
    go_simp
    refine (specThinClass B R (p2 + 1) (by omega) _ HR.out).mono ?_
    rintro e v1 ⟨n3, a3, c3, p3, z3, rfl, hin, ⟨hm0, hm1, hl3⟩, hp3, hr, hg⟩
    have hzv := hg.size
    replace X := Lib.hid (X.out.kept hg (by simp; omega))
    replace Y1 := Lib.hid (Y1.out.kept hg (by simp; omega))
    replace Y2 := Lib.hid (Y2.out.kept hg (by simp; omega))
    replace I1 := Lib.hid (I1.out.notR (by omega) hg)
    have I3 := Lib.hid (hin.mono (show q1 ≤ v0.heap.size by omega))
    replace G := Lib.hid (grownBy_trans G.out hg)
    clear hin hg hr HR
    refine hK.out _ _ (by exact ⟨X.out.out.at0, X.out.out.at1⟩) (fun hHeld => ?_)
    clear hK K
    try simp only [List.getElem_toArray, List.getElem_cons_zero, List.getElem_cons_succ, Act.put, List.setIfInBounds_toArray, List.set_cons_zero, List.set_cons_succ]
    refine wpAnyH_ready (rs := [3]) (by kernel_rfl) (by simp) ?_
    refine AllReadyH.cons rfl (fun K hK => ?_) AllReadyH.nil
    try simp only [List.getElem_toArray]
    have y1_0 := Y1.out.out.at0
    have y1_1 := Y1.out.out.at1
    have y1q0 := Y1.out.out.free0
    have y1q1 := Y1.out.out.free1
    go_simp
    clear y1_0 y1_1 y1q0 y1q1
    replace X := Lib.hid ((X.out.other (p := q1) (j := 0) (by omega) (.int .i64 (n1 : Int))).other (p := q1) (j := 1) (by omega) (.slice a1 z1.length c1))
    replace Y2 := Lib.hid ((Y2.out.other (p := q1) (j := 0) (by omega) (.int .i64 (n1 : Int))).other (p := q1) (j := 1) (by omega) (.slice a1 z1.length c1))
    replace I1 := Lib.hid ((I1.out.bx Y1.out 0 (.int .i64 (n1 : Int))).bx (Y1.out.setN (n1 : Int)) 1 (.slice a1 z1.length c1))
    replace I3 := Lib.hid ((I3.out.bx Y1.out 0 (.int .i64 (n1 : Int))).bx (Y1.out.setN (n1 : Int)) 1 (.slice a1 z1.length c1))
    replace Y1 := Lib.hid ((Y1.out.setN (n1 : Int)).set (.slice a1 z1.length c1))
    replace G := Lib.hid (grown_set (grown_set G.out (o := q1) (by omega) (j := 0) (.int .i64 (n1 : Int))) (o := q1) (by omega) (j := 1) (.slice a1 z1.length c1))
    refine hK.out _ _ (by exact ⟨X.out.out.at0, X.out.out.at1⟩) (fun hHeld => ?_)
    clear hK K
    try simp only [List.getElem_toArray, List.getElem_cons_zero, List.getElem_cons_succ, Act.put, List.setIfInBounds_toArray, List.set_cons_zero, List.set_cons_succ]
    refine wpAnyH_ready (rs := [4]) (by kernel_rfl) (by simp) ?_
    refine AllReadyH.cons rfl (fun K hK => ?_) AllReadyH.nil
    try simp only [List.getElem_toArray]
    have y2_0 := Y2.out.out.at0
    have y2_1 := Y2.out.out.at1
    have y2q0 := Y2.out.out.free0
    have y2q1 := Y2.out.out.free1
    go_simp
    clear y2_0 y2_1 y2q0 y2q1
    replace X := Lib.hid ((X.out.other (p := q2) (j := 0) (by omega) (.int .i64 n3)).other (p := q2) (j := 1) (by omega) (.slice a3 z3.length c3))
    replace Y1 := Lib.hid ((Y1.out.other (p := q2) (j := 0) (by omega) (.int .i64 n3)).other (p := q2) (j := 1) (by omega) (.slice a3 z3.length c3))
    replace I1 := Lib.hid ((I1.out.bx Y2.out 0 (.int .i64 n3)).bx (Y2.out.setN n3) 1 (.slice a3 z3.length c3))
    replace I3 := Lib.hid ((I3.out.bx Y2.out 0 (.int .i64 n3)).bx (Y2.out.setN n3) 1 (.slice a3 z3.length c3))
    replace Y2 := Lib.hid ((Y2.out.setN n3).set (.slice a3 z3.length c3))
    replace G := Lib.hid (grown_set (grown_set G.out (o := q2) (by omega) (j := 0) (.int .i64 n3)) (o := q2) (by omega) (j := 1) (.slice a3 z3.length c3))
    refine hK.out _ _ (by exact ⟨X.out.out.at0, X.out.out.at1⟩) (fun hHeld => ?_)
    clear hK K
    try simp only [List.getElem_toArray, List.getElem_cons_zero, List.getElem_cons_succ, Act.put, List.setIfInBounds_toArray, List.set_cons_zero, List.set_cons_succ]
    refine wpAnyH_done (by kernel_rfl) ?_ _
    generalize hW : World.setCell _ _ _ = W9 at *
    have r0 := Y1.out.out.at0
    have r1 := Y1.out.out.at1
    have s0 := Y2.out.out.at0
    have s1 := Y2.out.out.at1
    go_wp2_with fail
    refine bodyPost_ret (v := .tuple #[.agg #[.int .i64 (n1 : Int), .slice a1 z1.length c1], .agg #[.int .i64 n3, .slice a3 z3.length c3]]) (by simp [results, Tryd.results48, go_sem, r0, r1, s0, s1]) rfl ?_
    exact ⟨(n1 : Int), n3, z1, z3, a1, a3, c1, c3, rfl, ⟨by omega, by omega, by omega⟩, ⟨by omega, by omega, by omega⟩, by rw [hq1]; exact I1.out.mono (by omega), by rw [hq1]; exact I3.out.mono (by omega), by rw [hq1]; exact (Below.refl _ _).grown G.out (by omega) (fun k hk => by cases hk; omega)⟩
  · have hxI : ¬ (x : Int) = 0 := by omega
    have hxd : ((x : Int) == 0) = false := by simpa using hxI
    have x_0 := X.out.out.at0
    have x_1 := X.out.out.at1
    have z_0 := Z.out.out.at0
    have z_1 := Z.out.out.at1
    have y1_0 := Y1.out.out.at0
    have y1_1 := Y1.out.out.at1
    have y2_0 := Y2.out.out.at0
    have y2_1 := Y2.out.out.at1
    have y1q0 := Y1.out.out.free0
    have y1q1 := Y1.out.out.free1
    have y2q0 := Y2.out.out.free0
    have y2q1 := Y2.out.out.free1
    go_wp2_with fail
    clear x_0 x_1 z_0 z_1 y1_0 y1_1 y2_0 y2_1 y1q0 y1q1 y2q0 y2q1
    refine wp_region_held_drew (S := fun w' => w'.cell? ⟨o, 0, none⟩ = some (Value.int .i64 (n1 : Int)) ∧ w'.cell? ⟨o, 1, none⟩ = some (.slice a1 z1.length c1) ∧ w'.cell? ⟨q, 0, none⟩ = some (Value.int .i64 (n2 : Int)) ∧ w'.cell? ⟨q, 1, none⟩ = some (.slice a2 z2.length c2)) (by kernel_rfl) (by exact ⟨X.out.out.at0, X.out.out.at1, Z.out.out.at0, Z.out.out.at1⟩) (fun hHeld => ?_)
    replace X := Lib.hid (show Bx _ _ _ w8.drew from X.out)
    replace Z := Lib.hid (show Bx _ _ _ w8.drew from Z.out)
    replace Y1 := Lib.hid (show Bx _ _ _ w8.drew from Y1.out)
    replace Y2 := Lib.hid (show Bx _ _ _ w8.drew from Y2.out)
    replace I1 := Lib.hid (show Ints _ w8.drew _ _ from I1.out)
    replace I2 := Lib.hid (show Ints _ w8.drew _ _ from I2.out)
    replace HR := Lib.hid (show Rdr B R _ w8.drew from HR.out)
    replace G := Lib.hid (grown_drew G.out)
    have hzd : w8.drew.heap.size = w8.heap.size := rfl
    generalize w8.drew = v0 at *
    refine wpAnyH_take (i := 0) (v := ?_) rfl (by kernel_rfl) (by kernel_rfl) (by kernel_rfl) (fun _ _ _ h => h) (Or.inl ⟨by rfl, ?_⟩) (by assumption) ?_
    rotate_left
    · (intro w hSw; (try dsimp only at hSw); go_simp; try with_reducible rfl)
    try simp only [List.getElem_toArray, List.getElem_cons_zero, Act.put, List.setIfInBounds_toArray, List.set_cons_zero, List.set_cons_succ]
    refine wpAnyH_take (i := 1) (v := ?_) rfl (by kernel_rfl) (by kernel_rfl) (by kernel_rfl) (fun _ _ _ h => h) (Or.inl ⟨by rfl, ?_⟩) (by assumption) ?_
    rotate_left
    · (intro w hSw; (try dsimp only at hSw); go_simp; try with_reducible rfl)
    try simp only [List.getElem_toArray, List.getElem_cons_zero, List.getElem_cons_succ, Act.put, List.setIfInBounds_toArray, List.set_cons_zero, List.set_cons_succ]
    refine wpAnyH_ready (rs := [2]) (by kernel_rfl) (by simp) ?_
    refine AllReadyH.cons rfl (fun K hK => ?_) AllReadyH.nil
    try simp only [List.getElem_toArray]
    have y1_0 := Y1.out.out.at0
    have y1_1 := Y1.out.out.at1
    have y1q0 := Y1.out.out.free0
    have y1q1 := Y1.out.out.free1
    go_simp
    clear y1_0 y1_1 y1q0 y1q1
    replace X := Lib.hid ((X.out.other (p := q1) (j := 0) (by omega) (.int .i64 (n1 : Int))).other (p := q1) (j := 1) (by omega) (.slice a1 z1.length c1))
    replace Z := Lib.hid ((Z.out.other (p := q1) (j := 0) (by omega) (.int .i64 (n1 : Int))).other (p := q1) (j := 1) (by omega) (.slice a1 z1.length c1))
    replace Y2 := Lib.hid ((Y2.out.other (p := q1) (j := 0) (by omega) (.int .i64 (n1 : Int))).other (p := q1) (j := 1) (by omega) (.slice a1 z1.length c1))
    replace I1 := Lib.hid ((I1.out.bx Y1.out 0 (.int .i64 (n1 : Int))).bx (Y1.out.setN (n1 : Int)) 1 (.slice a1 z1.length c1))
    replace I2 := Lib.hid ((I2.out.bx Y1.out 0 (.int .i64 (n1 : Int))).bx (Y1.out.setN (n1 : Int)) 1 (.slice a1 z1.length c1))
    replace Y1 := Lib.hid ((Y1.out.setN (n1 : Int)).set (.slice a1 z1.length c1))
    replace G := Lib.hid (grown_set (grown_set G.out (o := q1) (by omega) (j := 0) (.int .i64 (n1 : Int))) (o := q1) (by omega) (j := 1) (.slice a1 z1.length c1))
    refine hK.out _ _ (by exact ⟨X.out.out.at0, X.out.out.at1, Z.out.out.at0, Z.out.out.at1⟩) (fun hHeld => ?_)
    clear hK K
    try simp only [List.getElem_toArray, List.getElem_cons_zero, List.getElem_cons_succ, Act.put, List.setIfInBounds_toArray, List.set_cons_zero, List.set_cons_succ]
    refine wpAnyH_ready (rs := [3]) (by kernel_rfl) (by simp) ?_
    refine AllReadyH.cons rfl (fun K hK => ?_) AllReadyH.nil
    try simp only [List.getElem_toArray]
    have y2_0 := Y2.out.out.at0
    have y2_1 := Y2.out.out.at1
    have y2q0 := Y2.out.out.free0
    have y2q1 := Y2.out.out.free1
    go_simp
    clear y2_0 y2_1 y2q0 y2q1
    replace X := Lib.hid ((X.out.other (p := q2) (j := 0) (by omega) (.int .i64 (n2 : Int))).other (p := q2) (j := 1) (by omega) (.slice a2 z2.length c2))
    replace Z := Lib.hid ((Z.out.other (p := q2) (j := 0) (by omega) (.int .i64 (n2 : Int))).other (p := q2) (j := 1) (by omega) (.slice a2 z2.length c2))
    replace Y1 := Lib.hid ((Y1.out.other (p := q2) (j := 0) (by omega) (.int .i64 (n2 : Int))).other (p := q2) (j := 1) (by omega) (.slice a2 z2.length c2))
    replace I1 := Lib.hid ((I1.out.bx Y2.out 0 (.int .i64 (n2 : Int))).bx (Y2.out.setN (n2 : Int)) 1 (.slice a2 z2.length c2))
    replace I2 := Lib.hid ((I2.out.bx Y2.out 0 (.int .i64 (n2 : Int))).bx (Y2.out.setN (n2 : Int)) 1 (.slice a2 z2.length c2))
    replace Y2 := Lib.hid ((Y2.out.setN (n2 : Int)).set (.slice a2 z2.length c2))
    replace G := Lib.hid (grown_set (grown_set G.out (o := q2) (by omega) (j := 0) (.int .i64 (n2 : Int))) (o := q2) (by omega) (j := 1) (.slice a2 z2.length c2))
    refine hK.out _ _ (by exact ⟨X.out.out.at0, X.out.out.at1, Z.out.out.at0, Z.out.out.at1⟩) (fun hHeld => ?_)
    clear hK K
    try simp only [List.getElem_toArray, List.getElem_cons_zero, List.getElem_cons_succ, Act.put, List.setIfInBounds_toArray, List.set_cons_zero, List.set_cons_succ]
    refine wpAnyH_done (by kernel_rfl) ?_ _
    generalize hW : World.setCell _ _ _ = W9 at *
    have r0 := Y1.out.out.at0
    have r1 := Y1.out.out.at1
    have s0 := Y2.out.out.at0
    have s1 := Y2.out.out.at1
    go_wp2_with fail
    refine bodyPost_ret (v := .tuple #[.agg #[.int .i64 (n1 : Int), .slice a1 z1.length c1], .agg #[.int .i64 (n2 : Int), .slice a2 z2.length c2]]) (by simp [results, Tryd.results48, go_sem, r0, r1, s0, s1]) rfl ?_
    exact ⟨(n1 : Int), (n2 : Int), z1, z2, a1, a2, c1, c2, rfl, ⟨by omega, by omega, by omega⟩, ⟨by omega, by omega, by omega⟩, by rw [hq1]; exact I1.out.mono (by omega), by rw [hq1]; exact I2.out.mono (by omega), by rw [hq1]; exact (Below.refl _ _).grown G.out (by omega) (fun k hk => by cases hk; omega)⟩

end Go.Proofs.YtnoppclajhfnjabDoor
