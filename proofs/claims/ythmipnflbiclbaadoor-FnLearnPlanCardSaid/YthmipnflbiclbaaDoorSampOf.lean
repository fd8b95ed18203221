/- A sample of a class, most often: sampleOf. Conditions: small numbers; the reader has drawn at most 70000 numbers. -/
import Derived.Test.YthmipnflbiclbaaDoorAppE2
import Derived.Test.YthmipnflbiclbaaDoorMarkE
import Derived.Test.YthmipnflbiclbaaDoorOneLit
import Derived.Test.YthmipnflbiclbaaDoorOneOf
namespace Go.Proofs.YthmipnflbiclbaaDoor
open Go.RowKit

/-- examples are drawn -/
def GotEx (B R k : Nat) (w : World) (e : Ending) (w' : World) : Prop := ∃ (a : Option Addr) (cap p' : Nat) (es : List (Int × Bool)), e = .returned (.slice a es.length cap) ∧ es.length ≤ 36 ∧ ExS w.heap.size w' (.slice a es.length cap) es ∧ p' ≤ k ∧ Rdr B R p' w' ∧ w.grownBy w' (some R)
theorem ExS.pick {B R : Nat} {w w' : World} {v : Value} {es : List (Int × Bool)} (h : ExS B w v es) (hR : R < B) (hg : w.grownBy w' (some R)) : ExS B w' v es :=
  h.kept hg (by
    cases e : v.ownBlock with
    | none => exact .inl rfl
    | some g =>
      right
      intro e2
      have := (h.lt g e).1
      cases e2
      omega)
/-- block o holds an example of two cells -/
def Bx2 (p : Int) (l : Bool) (o : Nat) (w : World) : Prop := w.heap[o]? = some (.cells #[.int .i64 p, .bool l] 92 (0, 0))
theorem Bx2.lt {p : Int} {l : Bool} {o : Nat} {w : World} (h : Bx2 p l o w) : o < w.heap.size := (Array.getElem?_eq_some_iff.1 h).1
theorem Bx2.at0 {p : Int} {l : Bool} {o : Nat} {w : World} (h : Bx2 p l o w) : w.cell? ⟨o, 0, none⟩ = some (.int .i64 p) := by simp [World.cell?, show w.heap[o]? = _ from h]
theorem Bx2.at1 {p : Int} {l : Bool} {o : Nat} {w : World} (h : Bx2 p l o w) : w.cell? ⟨o, 1, none⟩ = some (.bool l) := by simp [World.cell?, show w.heap[o]? = _ from h]
theorem Bx2.free1 {p : Int} {l : Bool} {o : Nat} {w : World} (h : Bx2 p l o w) : w.frozen? ⟨o, 1, none⟩ = false := by simp [World.frozen?, show w.heap[o]? = _ from h]
theorem Bx2.kept {p : Int} {l : Bool} {o : Nat} {r : Option Nat} {w w' : World} (h : Bx2 p l o w) (hg : w.grownBy w' r) (hne : some o ≠ r) : Bx2 p l o w' := (hg.block o h.lt hne).trans h
theorem Bx2.set {p : Int} {l : Bool} {o : Nat} {w : World} (h : Bx2 p l o w) (b : Bool) : Bx2 p b o (w.setCell ⟨o, 1, none⟩ (.bool b)) := by
  obtain ⟨hlt, hk⟩ := Array.getElem?_eq_some_iff.1 h
  show (w.heap.modify o _)[o]? = _
  rw [Array.getElem?_eq_getElem (by rw [Array.size_modify]; exact hlt), Array.getElem_modify_self, hk]
  rfl
theorem ExS.set_other {B o j : Nat} {w : World} {v : Value} {es : List (Int × Bool)} (h : ExS B w v es) (hne : v.ownBlock ≠ some o) (u : Value) : ExS B (w.setCell ⟨o, j, none⟩ u) v es :=
  h.kept (grownBy_set w j u) (.inr hne)
theorem ExS.grow_row {B : Nat} {a w w' : World} {R : Option Nat} {v : Value} {es : List (Int × Bool)} (h : a.grownBy w R) (hr : ExS B w v es) (hB : a.heap.size ≤ B) (hg : w.grownBy w' v.ownBlock) : a.grownBy w' R :=
  h.andThen hg (fun k hk => .inl (Nat.le_trans hB (hr.lt k hk).1))
theorem Rdr.rowE {B C R p : Nat} {w w' : World} {v : Value} {es : List (Int × Bool)} (h : Rdr B R p w) (hr : ExS C w v es) (hB : B ≤ C) (hg : w.grownBy w' v.ownBlock) : Rdr B R p w' :=
  h.kept hg (fun e => by have := (hr.lt _ e.symm).1; have := h.1; omega) (fun k hk => by have := (hr.lt k hk).1; omega)

theorem ExS.set0 {B g n c : Nat} {w : World} {es : List (Int × Bool)} (h : ExS B w (.slice (some ⟨g, 0, none⟩) n c) es) (hn : es.length = n) (h0 : 0 < n) (v : Int) : ∃ fs : List (Int × Bool), fs.length = n ∧ ExS B (w.setCell ⟨g, 0, none⟩ (.int .i64 v)) (.slice (some ⟨g, 0, none⟩) n c) fs := by
  subst hn
  obtain ⟨e, es', rfl⟩ : ∃ e es', es = e :: es' := by
    cases es with
    | nil => simp at h0
    | cons e es' => exact ⟨e, es', rfl⟩
  refine ⟨(v, e.2) :: es', by simp, ?_⟩
  have h1 := (World.ownsRow.stored (show w.ownsRow B 92 2 (.slice (some ⟨g, 0, none⟩) (e :: es').length c) (e :: es').length (flatE (e :: es')) from h) 0 (.int .i64 v)).1
  exact h1
theorem ExS.cell0 {B g n c : Nat} {w : World} {es : List (Int × Bool)} (h : ExS B w (.slice (some ⟨g, 0, none⟩) n c) es) (hn : es.length = n) (h0 : 0 < n) : w.cell? ⟨g, 0, none⟩ = some (.int .i64 (es.getD 0 (0, false)).1) := by
  subst hn
  rw [World.ownsRow.cellAt (show w.ownsRow B 92 2 (.slice (some ⟨g, 0, none⟩) es.length c) es.length (flatE es) from h) 0 (by omega)]
  exact (flatE_at es 0 h0).1
theorem ExS.free0 {B g n c : Nat} {w : World} {es : List (Int × Bool)} (h : ExS B w (.slice (some ⟨g, 0, none⟩) n c) es) : w.frozen? ⟨g, 0, none⟩ = false := by
  rcases h.2 with ⟨e, _⟩ | ⟨g2, cp, cu, e, _, hg, _⟩
  · cases e
  · simp only [Value.slice.injEq, Option.some.injEq, Addr.mk.injEq] at e
    obtain ⟨⟨rfl, _⟩, _⟩ := e
    exact frozen_of_row _ _ _ _ _ hg

set_option maxHeartbeats 800000 in
theorem specHasAny (s : Int) (x : Nat) (hx : x ≤ 12) (w : World) :
    Calls Tryd.prog 95 #[.int .i64 s, .int .i64 (x : Int)] w fun e w' => (∃ lb : Bool, e = .returned (.bool lb)) ∧ w' = w := by
  have hp := two_pow_le x hx
  go_enter Tryd.func95, Tryd.ntmps95
  go_wp2_with fail
  refine (specPower (x : Int) _ (by omega) (by omega)).mono ?_
  rintro e w1 ⟨rfl, rfl⟩
  rw [Int.toNat_natCast]
  generalize (2 : Int) ^ x = q at *
  have hne : q ≠ 0 := by omega
  go_wp2_with fail
  go_ret
  exact ⟨⟨_, rfl⟩, rfl⟩

set_option maxHeartbeats 6400000 in
set_option maxRecDepth 100000 in
theorem specSampleOf (C B R p : Nat) (n : Int) (a : Option Addr) (cap : Nat) (zs : List Int) (hp : p ≤ 70000) (hn0 : -8 ≤ n) (hn1 : n ≤ 8) (hBC : B ≤ C) (w : World) (h : Rdr B R p w) (hin : Ints C w (.slice a zs.length cap) zs) (hzl : zs.length ≤ 1000) :
    Calls Tryd.prog 82 #[.pointer (some ⟨R, 0, none⟩), .agg #[.int .i64 n, .slice a zs.length cap]] w (GotEx B R (p + 60) w) := by
  have hRB := h.1
  have hBw := h.2.1
  have HX := Lib.hid (show Bx n (.slice a zs.length cap) w.heap.size ((w.alloc (Obj.cells #[.int .i64 n, .slice a zs.length cap] 25)).alloc (Obj.cells #[] 92)) from (Bx.new _ _ _).alloc _)
  have HE := Lib.hid (show ExS (w.heap.size + 1) ((w.alloc (Obj.cells #[.int .i64 n, .slice a zs.length cap] 25)).alloc (Obj.cells #[] 92)) (.slice (some ⟨w.heap.size + 1, 0, none⟩) 0 0) [] from ExS.lit' (by simp) (by simp))
  have HR := Lib.hid (show Rdr B R p ((w.alloc (Obj.cells #[.int .i64 n, .slice a zs.length cap] 25)).alloc (Obj.cells #[] 92)) from (h.alloc _).alloc _)
  have HG := Lib.hid (show w.grownBy ((w.alloc (Obj.cells #[.int .i64 n, .slice a zs.length cap] 25)).alloc (Obj.cells #[] 92)) (some R) from grownBy_trans (World.grownBy_alloc _ _ _) (World.grownBy_alloc _ _ _))
  have HO := Lib.hid (specOneOf C B R p n a cap zs (by omega) hBC ((w.alloc (Obj.cells #[.int .i64 n, .slice a zs.length cap] 25)).alloc (Obj.cells #[] 92)) HR.out ((hin.alloc _).alloc _) hzl)
  have HZ := Lib.hid (show ((w.alloc (Obj.cells #[.int .i64 n, .slice a zs.length cap] 25)).alloc (Obj.cells #[] 92)).heap.size = w.heap.size + 2 by simp)
  clear h hin
  go_enter Tryd.func82, Tryd.ntmps82
  go_wp2_with fail
  generalize ((w.alloc (Obj.cells #[.int .i64 n, .slice a zs.length cap] 25)).alloc (Obj.cells #[] 92)) = w1 at *
  have hz1 := HZ.out
  refine HO.out.mono ?_
  rintro e w2 ⟨s, p2, rfl, hp2, hr2, hg2⟩
  have hz2 := hg2.size
  have HX2 := Lib.hid (HX.out.kept hg2 (by simp; omega))
  have HE2 := Lib.hid (HE.out.pick (by omega) hg2)
  have HR2 := Lib.hid hr2
  have HG2 := Lib.hid (grownBy_trans HG.out hg2)
  clear hr2 hg2 HX HE HR HG HO HZ
  go_wp2_with fail
  refine (specOneLit B R p2 [3, 2, 4, 6, 1, 0, 12] 7 (Obj.cells #[.int .i64 3, .int .i64 2, .int .i64 4, .int .i64 6, .int .i64 1, .int .i64 0, .int .i64 12] 3) rfl (by omega) (by omega) w2 HR2.out rfl (by omega) _ rfl).mono ?_
  rintro e w3 ⟨⟨i, hi, rfl⟩, hr3, hg3⟩
  obtain ⟨c, hc, hcv⟩ : ∃ c : Nat, c ≤ 12 ∧ ([3, 2, 4, 6, 1, 0, 12] : List Int).getD i 0 = (c : Int) := by
    rcases (show i = 0 ∨ i = 1 ∨ i = 2 ∨ i = 3 ∨ i = 4 ∨ i = 5 ∨ i = 6 by omega) with rfl | rfl | rfl | rfl | rfl | rfl | rfl
    · exact ⟨3, by omega, rfl⟩
    · exact ⟨2, by omega, rfl⟩
    · exact ⟨4, by omega, rfl⟩
    · exact ⟨6, by omega, rfl⟩
    · exact ⟨1, by omega, rfl⟩
    · exact ⟨0, by omega, rfl⟩
    · exact ⟨12, by omega, rfl⟩
  rw [hcv]
  have hz3 := hg3.size
  have HX3 := Lib.hid (HX2.out.kept hg3 (by simp; omega))
  have HE3 := Lib.hid (HE2.out.pick (by omega) hg3)
  have HR3 := Lib.hid hr3
  have HG3 := Lib.hid (grownBy_trans HG2.out hg3)
  clear hr3 hg3 HX2 HE2 HR2 HG2 hcv hi
  go_wp2_with fail
  go_loopw [5, 7, 8] (fun v5 v7 _v8 wr => ∃ (k q c' : Nat) (a' : Option Addr) (es : List (Int × Bool)), v5 = .slice a' es.length c' ∧ v7 = .int .i64 (k : Int) ∧ k + es.length ≤ 12 ∧ Bx n (.slice a zs.length cap) w.heap.size wr ∧ ExS (w.heap.size + 1) wr (.slice a' es.length c') es ∧ q ≤ p2 + 1 + 3 * es.length ∧ Rdr B R q wr ∧ w.grownBy wr (some R) ∧ w.heap.size + 2 ≤ wr.heap.size ∧ a' ≠ none) (fun _ v7 _ _ => (intOf v7).toNat)
  case atStart => exact ⟨c, _, _, _, [], rfl, rfl, by simpa using hc, HX3.out, HE3.out, Nat.le_refl _, HR3.out, HG3.out, by omega, by simp⟩
  case round =>
    obtain ⟨k, q, c', a', es, rfl, rfl, hk, hx, hes, hq, hr, hg, hsz, hna⟩ := hrel
    have HX := Lib.hid hx
    have HE := Lib.hid hes
    have HR := Lib.hid hr
    have HG := Lib.hid hg
    clear hx hes hr hg HX3 HE3 HR3 HG3
    generalize hL : es.length = L at *
    by_cases hk0 : 0 < k
    · by_cases hmx : n < 1
      · have x0 := HX.out.out.at0
        have hmb : decide (n < 1) = true := decide_eq_true hmx
        go_wp2_with fail
        refine (specPick B R q 1 (by omega) _ HR.out).mono ?_
        rintro e w5 ⟨⟨x, rfl, hx8⟩, hr5, hg5⟩
        have hx12 : x ≤ 12 := by omega
        have hz5 := hg5.size
        have X5 := Lib.hid (HX.out.kept hg5 (by simp; omega))
        have E5 := Lib.hid (HE.out.pick (by omega) hg5)
        have R5 := Lib.hid hr5
        have G5 := Lib.hid (grownBy_trans HG.out hg5)
        clear hr5 hg5 hx8 x0 HX HE HR HG hmb
        go_wp2_with fail
        refine (specPick B R (q + 1) 2 (by omega) _ R5.out).mono ?_
        rintro e w6 ⟨⟨y, rfl, hy2⟩, hr6, hg6⟩
        have hz6 := hg6.size
        have X6 := Lib.hid (X5.out.kept hg6 (by simp; omega))
        have E6 := Lib.hid (E5.out.pick (by omega) hg6)
        have R6 := Lib.hid hr6
        have G6 := Lib.hid (grownBy_trans G5.out hg6)
        clear hr6 hg6 hy2 X5 E5 R5 G5 hmx
        go_upto_region 7 with (fail)
        generalize ((y : Int) == 0) = lb at *
        have hrow7 := Lib.hid (show (Value.slice a' L c').ownBlock ≠ some w6.heap.size from fun e => by have := (E6.out.lt _ e).2; omega)
        have T7 := Lib.hid (show Bx2 (x : Int) lb w6.heap.size (w6.alloc (Obj.cells #[.int .i64 (x : Int), .bool lb] 92)) from heap_alloc_new w6 _)
        have X7 := Lib.hid (X6.out.alloc (Obj.cells #[.int .i64 (x : Int), .bool lb] 92))
        have E7 := Lib.hid (E6.out.alloc (Obj.cells #[.int .i64 (x : Int), .bool lb] 92))
        have R7 := Lib.hid (R6.out.alloc (Obj.cells #[.int .i64 (x : Int), .bool lb] 92))
        have G7 := Lib.hid (show w.grownBy (w6.alloc (Obj.cells #[.int .i64 (x : Int), .bool lb] 92)) (some R) from grownBy_trans G6.out (World.grownBy_alloc _ _ _))
        have HZ7 := Lib.hid (show (w6.alloc (Obj.cells #[.int .i64 (x : Int), .bool lb] 92)).heap.size = w6.heap.size + 1 by simp)
        clear X6 E6 R6 G6
        generalize (w6.alloc (Obj.cells #[.int .i64 (x : Int), .bool lb] 92)) = w7 at *
        generalize hqe : w6.heap.size = qe at *
        have hz7 : qe < w7.heap.size := by have := HZ7.out; omega
        clear HZ7
        by_cases hs0 : 0 ≤ s
        · have hsd : decide (0 ≤ s) = true := decide_eq_true hs0
          go_wp2_with fail
          refine (specPick B R (q + 1 + 1) 8 (by omega) _ R7.out).mono ?_
          rintro e w8 ⟨⟨z, rfl, hz⟩, hr8, hg8⟩
          have hz8 := hg8.size
          have T8 := Lib.hid (T7.out.kept hg8 (by simp; omega))
          have X8 := Lib.hid (X7.out.kept hg8 (by simp; omega))
          have E8 := Lib.hid (E7.out.pick (by omega) hg8)
          have R8 := Lib.hid hr8
          have G8 := Lib.hid (grownBy_trans G7.out hg8)
          clear hr8 hg8 hz T7 X7 E7 R7 G7
          by_cases hz0 : z = 0
          · subst hz0
            have e0 := T8.out.at0
            have e1 := T8.out.at1
            go_wp2_with (at_builtin; refine wpList_appE rfl (.tmp 41) (.tmp 43) rfl (w.heap.size + 1) _ es rfl (by exact E8.out.alloc _) _ (x : Int) lb rfl ⟨by rw [World.cell?_alloc_at _ _ _ _ rfl]; rfl, by rw [World.cell?_alloc_at _ _ _ _ rfl]; rfl⟩ (by omega) (by simp; omega) ?_; intro a1 c1 w9 hin9 hb9 hg9; rw [hL] at hin9 ⊢; have I9 := Lib.hid hin9; have G9 := Lib.hid (show w8.grownBy w9 (Value.slice a' L c').ownBlock from grownBy_trans (World.grownBy_alloc _ _ _) hg9); have X9 := Lib.hid (X8.out.kept G9.out (fun e => by have := (E8.out.lt _ e.symm).1; omega)); have R9 := Lib.hid (R8.out.rowE E8.out (by omega) G9.out); have F9 := Lib.hid (ExS.grow_row G8.out E8.out (by omega) G9.out); have hz9 := G9.out.size; clear hin9 hb9 hg9 e0 e1)
            go_roundw
            case rel => exact ⟨k - 1, _, c1, a1, es ++ [((x : Int), lb)], by rw [List.length_append, hL]; rfl, by go_num, by rw [List.length_append, hL]; simp; omega, X9.out, by rw [List.length_append, hL]; exact I9.out, by rw [List.length_append, hL]; simp; omega, R9.out, F9.out, by omega, by intro e; subst e; rcases I9.out.2 with ⟨_, h0⟩ | ⟨g, cp, cu, e, _⟩ <;> simp_all⟩
            case measure => simp [intOf]; omega
          · have hzp : 0 < z := by omega
            have e0 := T8.out.at0
            go_wp2_with fail
            refine (specHasAny s x hx12 _).mono ?_
            rintro e w9 ⟨⟨lb2, rfl⟩, hw9⟩
            subst w9
            have e1 := T8.out.at1
            have f1 := T8.out.free1
            go_upto_region 9 with (fail)
            have TA := Lib.hid (T8.out.set lb2)
            have XA := Lib.hid (X8.out.other (p := qe) (j := 1) (by omega) (.bool lb2))
            have EA := Lib.hid (E8.out.set_other (o := qe) (j := 1) (fun e => hrow7.out e) (.bool lb2))
            have RA := Lib.hid (R8.out.set (o := qe) (j := 1) (by omega) (.bool lb2))
            have GA := Lib.hid (grown_set G8.out (o := qe) (by omega) (j := 1) (.bool lb2))
            have HZ9 := Lib.hid (show (w8.setCell ⟨qe, 1, none⟩ (.bool lb2)).heap.size = w8.heap.size by simp)
            clear T8 X8 E8 R8 G8 e0 e1 f1
            generalize (w8.setCell ⟨qe, 1, none⟩ (.bool lb2)) = wA at *
            have hz9' : w8.heap.size ≤ wA.heap.size := Nat.le_of_eq HZ9.out.symm
            clear HZ9
            have e0 := TA.out.at0
            have e1 := TA.out.at1
            go_wp2_with (at_builtin; refine wpList_appE rfl (.tmp 41) (.tmp 43) rfl (w.heap.size + 1) _ es rfl (by exact EA.out.alloc _) _ (x : Int) lb2 rfl ⟨by rw [World.cell?_alloc_at _ _ _ _ rfl]; rfl, by rw [World.cell?_alloc_at _ _ _ _ rfl]; rfl⟩ (by omega) (by simp; omega) ?_; intro a1 c1 w9 hin9 hb9 hg9; rw [hL] at hin9 ⊢; have I9 := Lib.hid hin9; have G9 := Lib.hid (show wA.grownBy w9 (Value.slice a' L c').ownBlock from grownBy_trans (World.grownBy_alloc _ _ _) hg9); have X9 := Lib.hid (XA.out.kept G9.out (fun e => by have := (EA.out.lt _ e.symm).1; omega)); have R9 := Lib.hid (RA.out.rowE EA.out (by omega) G9.out); have F9 := Lib.hid (ExS.grow_row GA.out EA.out (by omega) G9.out); have hz9 := G9.out.size; clear hin9 hb9 hg9 e0 e1)
            go_roundw
            case rel => exact ⟨k - 1, _, c1, a1, es ++ [((x : Int), lb2)], by rw [List.length_append, hL]; rfl, by go_num, by rw [List.length_append, hL]; simp; omega, X9.out, by rw [List.length_append, hL]; exact I9.out, by rw [List.length_append, hL]; simp; omega, R9.out, F9.out, by omega, by intro e; subst e; rcases I9.out.2 with ⟨_, h0⟩ | ⟨g, cp, cu, e, _⟩ <;> simp_all⟩
            case measure => simp [intOf]; omega
        · have hsd : decide (0 ≤ s) = false := decide_eq_false hs0
          have e0 := T7.out.at0
          have e1 := T7.out.at1
          go_wp2_with (at_builtin; refine wpList_appE rfl (.tmp 41) (.tmp 43) rfl (w.heap.size + 1) _ es rfl (by exact E7.out.alloc _) _ (x : Int) lb rfl ⟨by rw [World.cell?_alloc_at _ _ _ _ rfl]; rfl, by rw [World.cell?_alloc_at _ _ _ _ rfl]; rfl⟩ (by omega) (by simp; omega) ?_; intro a1 c1 w9 hin9 hb9 hg9; rw [hL] at hin9 ⊢; have I9 := Lib.hid hin9; have G9 := Lib.hid (show w7.grownBy w9 (Value.slice a' L c').ownBlock from grownBy_trans (World.grownBy_alloc _ _ _) hg9); have X9 := Lib.hid (X7.out.kept G9.out (fun e => by have := (E7.out.lt _ e.symm).1; omega)); have R9 := Lib.hid (R7.out.rowE E7.out (by omega) G9.out); have F9 := Lib.hid (ExS.grow_row G7.out E7.out (by omega) G9.out); have hz9 := G9.out.size; clear hin9 hb9 hg9 e0 e1)
          go_roundw
          case rel => exact ⟨k - 1, _, c1, a1, es ++ [((x : Int), lb)], by rw [List.length_append, hL]; rfl, by go_num, by rw [List.length_append, hL]; simp; omega, X9.out, by rw [List.length_append, hL]; exact I9.out, by rw [List.length_append, hL]; simp; omega, R9.out, F9.out, by omega, by intro e; subst e; rcases I9.out.2 with ⟨_, h0⟩ | ⟨g, cp, cu, e, _⟩ <;> simp_all⟩
          case measure => simp [intOf]; omega
      · have x0 := HX.out.out.at0
        have hmb : decide (n < 1) = false := decide_eq_false hmx
        go_wp2_with fail
        refine (specPick B R q n (by omega) _ HR.out).mono ?_
        rintro e w5 ⟨⟨x, rfl, hx8⟩, hr5, hg5⟩
        have hx12 : x ≤ 12 := by omega
        have hz5 := hg5.size
        have X5 := Lib.hid (HX.out.kept hg5 (by simp; omega))
        have E5 := Lib.hid (HE.out.pick (by omega) hg5)
        have R5 := Lib.hid hr5
        have G5 := Lib.hid (grownBy_trans HG.out hg5)
        clear hr5 hg5 hx8 x0 HX HE HR HG hmb
        go_wp2_with fail
        refine (specPick B R (q + 1) 2 (by omega) _ R5.out).mono ?_
        rintro e w6 ⟨⟨y, rfl, hy2⟩, hr6, hg6⟩
        have hz6 := hg6.size
        have X6 := Lib.hid (X5.out.kept hg6 (by simp; omega))
        have E6 := Lib.hid (E5.out.pick (by omega) hg6)
        have R6 := Lib.hid hr6
        have G6 := Lib.hid (grownBy_trans G5.out hg6)
        clear hr6 hg6 hy2 X5 E5 R5 G5 hmx
        go_upto_region 7 with (fail)
        generalize ((y : Int) == 0) = lb at *
        have hrow7 := Lib.hid (show (Value.slice a' L c').ownBlock ≠ some w6.heap.size from fun e => by have := (E6.out.lt _ e).2; omega)
        have T7 := Lib.hid (show Bx2 (x : Int) lb w6.heap.size (w6.alloc (Obj.cells #[.int .i64 (x : Int), .bool lb] 92)) from heap_alloc_new w6 _)
        have X7 := Lib.hid (X6.out.alloc (Obj.cells #[.int .i64 (x : Int), .bool lb] 92))
        have E7 := Lib.hid (E6.out.alloc (Obj.cells #[.int .i64 (x : Int), .bool lb] 92))
        have R7 := Lib.hid (R6.out.alloc (Obj.cells #[.int .i64 (x : Int), .bool lb] 92))
        have G7 := Lib.hid (show w.grownBy (w6.alloc (Obj.cells #[.int .i64 (x : Int), .bool lb] 92)) (some R) from grownBy_trans G6.out (World.grownBy_alloc _ _ _))
        have HZ7 := Lib.hid (show (w6.alloc (Obj.cells #[.int .i64 (x : Int), .bool lb] 92)).heap.size = w6.heap.size + 1 by simp)
        clear X6 E6 R6 G6
        generalize (w6.alloc (Obj.cells #[.int .i64 (x : Int), .bool lb] 92)) = w7 at *
        generalize hqe : w6.heap.size = qe at *
        have hz7 : qe < w7.heap.size := by have := HZ7.out; omega
        clear HZ7
        by_cases hs0 : 0 ≤ s
        · have hsd : decide (0 ≤ s) = true := decide_eq_true hs0
          go_wp2_with fail
          refine (specPick B R (q + 1 + 1) 8 (by omega) _ R7.out).mono ?_
          rintro e w8 ⟨⟨z, rfl, hz⟩, hr8, hg8⟩
          have hz8 := hg8.size
          have T8 := Lib.hid (T7.out.kept hg8 (by simp; omega))
          have X8 := Lib.hid (X7.out.kept hg8 (by simp; omega))
          have E8 := Lib.hid (E7.out.pick (by omega) hg8)
          have R8 := Lib.hid hr8
          have G8 := Lib.hid (grownBy_trans G7.out hg8)
          clear hr8 hg8 hz T7 X7 E7 R7 G7
          by_cases hz0 : z = 0
          · subst hz0
            have e0 := T8.out.at0
            have e1 := T8.out.at1
            go_wp2_with (at_builtin; refine wpList_appE rfl (.tmp 41) (.tmp 43) rfl (w.heap.size + 1) _ es rfl (by exact E8.out.alloc _) _ (x : Int) lb rfl ⟨by rw [World.cell?_alloc_at _ _ _ _ rfl]; rfl, by rw [World.cell?_alloc_at _ _ _ _ rfl]; rfl⟩ (by omega) (by simp; omega) ?_; intro a1 c1 w9 hin9 hb9 hg9; rw [hL] at hin9 ⊢; have I9 := Lib.hid hin9; have G9 := Lib.hid (show w8.grownBy w9 (Value.slice a' L c').ownBlock from grownBy_trans (World.grownBy_alloc _ _ _) hg9); have X9 := Lib.hid (X8.out.kept G9.out (fun e => by have := (E8.out.lt _ e.symm).1; omega)); have R9 := Lib.hid (R8.out.rowE E8.out (by omega) G9.out); have F9 := Lib.hid (ExS.grow_row G8.out E8.out (by omega) G9.out); have hz9 := G9.out.size; clear hin9 hb9 hg9 e0 e1)
            go_roundw
            case rel => exact ⟨k - 1, _, c1, a1, es ++ [((x : Int), lb)], by rw [List.length_append, hL]; rfl, by go_num, by rw [List.length_append, hL]; simp; omega, X9.out, by rw [List.length_append, hL]; exact I9.out, by rw [List.length_append, hL]; simp; omega, R9.out, F9.out, by omega, by intro e; subst e; rcases I9.out.2 with ⟨_, h0⟩ | ⟨g, cp, cu, e, _⟩ <;> simp_all⟩
            case measure => simp [intOf]; omega
          · have hzp : 0 < z := by omega
            have e0 := T8.out.at0
            go_wp2_with fail
            refine (specHasAny s x hx12 _).mono ?_
            rintro e w9 ⟨⟨lb2, rfl⟩, hw9⟩
            subst w9
            have e1 := T8.out.at1
            have f1 := T8.out.free1
            go_upto_region 9 with (fail)
            have TA := Lib.hid (T8.out.set lb2)
            have XA := Lib.hid (X8.out.other (p := qe) (j := 1) (by omega) (.bool lb2))
            have EA := Lib.hid (E8.out.set_other (o := qe) (j := 1) (fun e => hrow7.out e) (.bool lb2))
            have RA := Lib.hid (R8.out.set (o := qe) (j := 1) (by omega) (.bool lb2))
            have GA := Lib.hid (grown_set G8.out (o := qe) (by omega) (j := 1) (.bool lb2))
            have HZ9 := Lib.hid (show (w8.setCell ⟨qe, 1, none⟩ (.bool lb2)).heap.size = w8.heap.size by simp)
            clear T8 X8 E8 R8 G8 e0 e1 f1
            generalize (w8.setCell ⟨qe, 1, none⟩ (.bool lb2)) = wA at *
            have hz9' : w8.heap.size ≤ wA.heap.size := Nat.le_of_eq HZ9.out.symm
            clear HZ9
            have e0 := TA.out.at0
            have e1 := TA.out.at1
            go_wp2_with (at_builtin; refine wpList_appE rfl (.tmp 41) (.tmp 43) rfl (w.heap.size + 1) _ es rfl (by exact EA.out.alloc _) _ (x : Int) lb2 rfl ⟨by rw [World.cell?_alloc_at _ _ _ _ rfl]; rfl, by rw [World.cell?_alloc_at _ _ _ _ rfl]; rfl⟩ (by omega) (by simp; omega) ?_; intro a1 c1 w9 hin9 hb9 hg9; rw [hL] at hin9 ⊢; have I9 := Lib.hid hin9; have G9 := Lib.hid (show wA.grownBy w9 (Value.slice a' L c').ownBlock from grownBy_trans (World.grownBy_alloc _ _ _) hg9); have X9 := Lib.hid (XA.out.kept G9.out (fun e => by have := (EA.out.lt _ e.symm).1; omega)); have R9 := Lib.hid (RA.out.rowE EA.out (by omega) G9.out); have F9 := Lib.hid (ExS.grow_row GA.out EA.out (by omega) G9.out); have hz9 := G9.out.size; clear hin9 hb9 hg9 e0 e1)
            go_roundw
            case rel => exact ⟨k - 1, _, c1, a1, es ++ [((x : Int), lb2)], by rw [List.length_append, hL]; rfl, by go_num, by rw [List.length_append, hL]; simp; omega, X9.out, by rw [List.length_append, hL]; exact I9.out, by rw [List.length_append, hL]; simp; omega, R9.out, F9.out, by omega, by intro e; subst e; rcases I9.out.2 with ⟨_, h0⟩ | ⟨g, cp, cu, e, _⟩ <;> simp_all⟩
            case measure => simp [intOf]; omega
        · have hsd : decide (0 ≤ s) = false := decide_eq_false hs0
          have e0 := T7.out.at0
          have e1 := T7.out.at1
          go_wp2_with (at_builtin; refine wpList_appE rfl (.tmp 41) (.tmp 43) rfl (w.heap.size + 1) _ es rfl (by exact E7.out.alloc _) _ (x : Int) lb rfl ⟨by rw [World.cell?_alloc_at _ _ _ _ rfl]; rfl, by rw [World.cell?_alloc_at _ _ _ _ rfl]; rfl⟩ (by omega) (by simp; omega) ?_; intro a1 c1 w9 hin9 hb9 hg9; rw [hL] at hin9 ⊢; have I9 := Lib.hid hin9; have G9 := Lib.hid (show w7.grownBy w9 (Value.slice a' L c').ownBlock from grownBy_trans (World.grownBy_alloc _ _ _) hg9); have X9 := Lib.hid (X7.out.kept G9.out (fun e => by have := (E7.out.lt _ e.symm).1; omega)); have R9 := Lib.hid (R7.out.rowE E7.out (by omega) G9.out); have F9 := Lib.hid (ExS.grow_row G7.out E7.out (by omega) G9.out); have hz9 := G9.out.size; clear hin9 hb9 hg9 e0 e1)
          go_roundw
          case rel => exact ⟨k - 1, _, c1, a1, es ++ [((x : Int), lb)], by rw [List.length_append, hL]; rfl, by go_num, by rw [List.length_append, hL]; simp; omega, X9.out, by rw [List.length_append, hL]; exact I9.out, by rw [List.length_append, hL]; simp; omega, R9.out, F9.out, by omega, by intro e; subst e; rcases I9.out.2 with ⟨_, h0⟩ | ⟨g, cp, cu, e, _⟩ <;> simp_all⟩
          case measure => simp [intOf]; omega
    · obtain rfl : k = 0 := by omega
      obtain ⟨g, rfl⟩ : ∃ g, a' = some ⟨g, 0, none⟩ := by
        rcases HE.out.2 with ⟨e, _⟩ | ⟨g, cp, cu, e, _⟩
        · simp only [Value.slice.injEq] at e
          exact absurd e.1 hna
        · simp only [Value.slice.injEq] at e
          exact ⟨g, e.1⟩
      clear hna HX
      by_cases hL0 : 0 < L
      · go_wp2_with fail
        refine (specPick B R q 24 (by omega) _ HR.out).mono ?_
        rintro e w4 ⟨⟨y, rfl, _⟩, hr4, hg4⟩
        have hz4 := hg4.size
        have E4 := Lib.hid (HE.out.pick (by omega) hg4)
        have R4 := Lib.hid hr4
        have G4 := Lib.hid (grownBy_trans HG.out hg4)
        clear hr4 hg4 HE HR HG
        by_cases hy0 : y = 0
        · subst hy0
          go_wp2_with fail
          refine (specOneLit B R (q + 1) [-1, 5] 2 (Obj.cells #[.int .i64 (-1), .int .i64 5] 3) rfl (by omega) (by omega) w4 R4.out rfl (by omega) _ rfl).mono ?_
          rintro e w5 ⟨⟨i2, hi2, rfl⟩, hr5, hg5⟩
          have hz5 := hg5.size
          have E5 := Lib.hid (E4.out.pick (by omega) hg5)
          have R5 := Lib.hid hr5
          have G5 := Lib.hid (grownBy_trans G4.out hg5)
          clear hr5 hg5 E4 R4 G4 hi2
          generalize ([-1, 5] : List Int).getD i2 0 = v at *
          have c0 := (ExS.cell0 E5.out hL hL0)
          have f0 := E5.out.free0
          have hgl := (E5.out.lt g rfl)
          go_upto_region 12 with (fail)
          obtain ⟨fs, hfs, hE6⟩ := E5.out.set0 hL hL0 v
          have E6 := Lib.hid hE6
          have R6 := Lib.hid (R5.out.set (o := g) (j := 0) (by omega) (.int .i64 v))
          have G6 := Lib.hid (grown_set G5.out (o := g) (by omega) (j := 0) (.int .i64 v))
          have HZ6 := Lib.hid (show (w5.setCell ⟨g, 0, none⟩ (.int .i64 v)).heap.size = w5.heap.size by simp)
          clear hE6 E5 R5 G5 c0 f0 hgl
          generalize (w5.setCell ⟨g, 0, none⟩ (.int .i64 v)) = w6 at *
          have hz6 := HZ6.out
          clear HZ6 hL
          go_wp2_with fail
          refine (specPick B R (q + 1 + 1) 40 (by omega) _ R6.out).mono ?_
          rintro e wp ⟨⟨z, rfl, _⟩, hrp, hgp⟩
          have hzp := hgp.size
          have EP := Lib.hid (E6.out.pick (by omega) hgp)
          have RP := Lib.hid hrp
          have GP := Lib.hid (grownBy_trans G6.out hgp)
          clear hrp hgp
          by_cases hz0 : z = 0
          · subst hz0
            have hgE := Lib.hid (EP.out.lt g rfl)
            go_wp2_with (first
              | (at_builtin; refine wpList_appES rfl (.tmp 62) (.tmp 63) rfl (w.heap.size + 1) g L c' fs hfs rfl EP.out rfl (by omega) (by omega) ?_; intro a3 c3 w10 hin10 hc10 hb10 hg10; have E10 := Lib.hid hin10; have C10 := Lib.hid hc10; have R10 := Lib.hid (RP.out.rowE EP.out (by omega) (by exact hg10)); have G10 := Lib.hid (ExS.grow_row GP.out EP.out (by omega) (by exact hg10)); have hz10 := hg10.size; clear hin10 hc10 hb10 hg10)
              | (at_builtin; refine wpList_appEF rfl (.tmp 64) (.tmp 65) rfl (w.heap.size + 1) (L + L) L c' _ ⟨g, 0, none⟩ (fs ++ fs) fs (by rw [List.length_append, hfs]) hfs rfl E10.out rfl C10.out (by omega) (by omega) ?_; intro a4 c4 w11 hin11 hb11 hg11; have E11 := Lib.hid hin11; have R11 := Lib.hid (R10.out.rowE E10.out (by omega) hg11); have G11 := Lib.hid (ExS.grow_row G10.out E10.out (by omega) hg11); clear hin11 hb11 hg11))
            go_ret
            have hl3 : (fs ++ fs ++ fs).length = L + L + L := by rw [List.length_append, List.length_append, hfs]
            refine ⟨a4, c4, _, fs ++ fs ++ fs, by rw [hl3]; rfl, by rw [hl3]; omega, by rw [hl3]; exact E11.out.mono (by omega), ?_, R11.out, G11.out⟩
            omega
          · have hz1 : ¬ (z : Int) = 0 := by omega
            have hz2 : ((z : Int) == 0) = false := by simpa using hz1
            go_wp2_with fail
            go_ret
            refine ⟨some ⟨g, 0, none⟩, c', _, fs, by rw [hfs]; rfl, by rw [hfs]; omega, by rw [hfs]; exact EP.out.mono (by omega), ?_, RP.out, GP.out⟩
            omega
        · have hy1 : ¬ (y : Int) = 0 := by omega
          have hy2 : ((y : Int) == 0) = false := by simpa using hy1
          have hfs := hL
          clear hL
          go_wp2_with fail
          refine (specPick B R (q + 1) 40 (by omega) _ R4.out).mono ?_
          rintro e wp ⟨⟨z, rfl, _⟩, hrp, hgp⟩
          have hzp := hgp.size
          have EP := Lib.hid (E4.out.pick (by omega) hgp)
          have RP := Lib.hid hrp
          have GP := Lib.hid (grownBy_trans G4.out hgp)
          clear hrp hgp
          by_cases hz0 : z = 0
          · subst hz0
            have hgE := Lib.hid (EP.out.lt g rfl)
            go_wp2_with (first
              | (at_builtin; refine wpList_appES rfl (.tmp 62) (.tmp 63) rfl (w.heap.size + 1) g L c' es hfs rfl EP.out rfl (by omega) (by omega) ?_; intro a3 c3 w10 hin10 hc10 hb10 hg10; have E10 := Lib.hid hin10; have C10 := Lib.hid hc10; have R10 := Lib.hid (RP.out.rowE EP.out (by omega) (by exact hg10)); have G10 := Lib.hid (ExS.grow_row GP.out EP.out (by omega) (by exact hg10)); have hz10 := hg10.size; clear hin10 hc10 hb10 hg10)
              | (at_builtin; refine wpList_appEF rfl (.tmp 64) (.tmp 65) rfl (w.heap.size + 1) (L + L) L c' _ ⟨g, 0, none⟩ (es ++ es) es (by rw [List.length_append, hfs]) hfs rfl E10.out rfl C10.out (by omega) (by omega) ?_; intro a4 c4 w11 hin11 hb11 hg11; have E11 := Lib.hid hin11; have R11 := Lib.hid (R10.out.rowE E10.out (by omega) hg11); have G11 := Lib.hid (ExS.grow_row G10.out E10.out (by omega) hg11); clear hin11 hb11 hg11))
            go_ret
            have hl3 : (es ++ es ++ es).length = L + L + L := by rw [List.length_append, List.length_append, hfs]
            refine ⟨a4, c4, _, es ++ es ++ es, by rw [hl3]; rfl, by rw [hl3]; omega, by rw [hl3]; exact E11.out.mono (by omega), ?_, R11.out, G11.out⟩
            omega
          · have hz1 : ¬ (z : Int) = 0 := by omega
            have hz2 : ((z : Int) == 0) = false := by simpa using hz1
            go_wp2_with fail
            go_ret
            refine ⟨some ⟨g, 0, none⟩, c', _, es, by rw [hfs]; rfl, by rw [hfs]; omega, by rw [hfs]; exact EP.out.mono (by omega), ?_, RP.out, GP.out⟩
            omega
      · obtain rfl : L = 0 := by omega
        have hfs := hL
        clear hL
        go_wp2_with fail
        refine (specPick B R q 40 (by omega) _ HR.out).mono ?_
        rintro e wp ⟨⟨z, rfl, _⟩, hrp, hgp⟩
        have hzp := hgp.size
        have EP := Lib.hid (HE.out.pick (by omega) hgp)
        have RP := Lib.hid hrp
        have GP := Lib.hid (grownBy_trans HG.out hgp)
        clear hrp hgp
        by_cases hz0 : z = 0
        · subst hz0
          have hgE := Lib.hid (EP.out.lt g rfl)
          go_wp2_with (first
            | (at_builtin; refine wpList_appES rfl (.tmp 62) (.tmp 63) rfl (w.heap.size + 1) g 0 c' es hfs rfl EP.out rfl (by omega) (by omega) ?_; intro a3 c3 w10 hin10 hc10 hb10 hg10; have E10 := Lib.hid hin10; have C10 := Lib.hid hc10; have R10 := Lib.hid (RP.out.rowE EP.out (by omega) (by exact hg10)); have G10 := Lib.hid (ExS.grow_row GP.out EP.out (by omega) (by exact hg10)); have hz10 := hg10.size; clear hin10 hc10 hb10 hg10)
            | (at_builtin; refine wpList_appEF rfl (.tmp 64) (.tmp 65) rfl (w.heap.size + 1) (0 + 0) 0 c' _ ⟨g, 0, none⟩ (es ++ es) es (by rw [List.length_append, hfs]) hfs rfl E10.out rfl C10.out (by omega) (by omega) ?_; intro a4 c4 w11 hin11 hb11 hg11; have E11 := Lib.hid hin11; have R11 := Lib.hid (R10.out.rowE E10.out (by omega) hg11); have G11 := Lib.hid (ExS.grow_row G10.out E10.out (by omega) hg11); clear hin11 hb11 hg11))
          go_ret
          have hl3 : (es ++ es ++ es).length = 0 + 0 + 0 := by rw [List.length_append, List.length_append, hfs]
          refine ⟨a4, c4, _, es ++ es ++ es, by rw [hl3]; rfl, by rw [hl3]; omega, by rw [hl3]; exact E11.out.mono (by omega), ?_, R11.out, G11.out⟩
          omega
        · have hz1 : ¬ (z : Int) = 0 := by omega
          have hz2 : ((z : Int) == 0) = false := by simpa using hz1
          go_wp2_with fail
          go_ret
          refine ⟨some ⟨g, 0, none⟩, c', _, es, by rw [hfs]; rfl, by rw [hfs]; omega, by rw [hfs]; exact EP.out.mono (by omega), ?_, RP.out, GP.out⟩
          omega

end Go.Proofs.YthmipnflbiclbaaDoor
