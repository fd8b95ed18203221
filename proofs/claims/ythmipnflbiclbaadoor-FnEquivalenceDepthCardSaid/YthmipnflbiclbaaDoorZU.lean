/- Slices of examples: read, made anew, compared. Conditions: at most 1048576 of them. ValidSample, the program's and the model's. Conditions: Sets is a slice of ints, the list one of examples. Sets of sets as the bits of a number: familyOf, split. Conditions: the table setsWith reads as its initialiser lays it. The model's fits. Conditions: the set is small, the point is below 5. The first ones of a list that meet a test. No conditions. The model's fits, keep, yes, no. Conditions: sets is a slice of small sets, the point is below 5. The sets that fit an example: fitting. Conditions: the point is one of five; the table setsWith is laid. What is left of sets behind examples. No program of its own. The program's familyOf. Conditions: Sets is a slice of small sets. The program's class of a family. No conditions. ConsistentOf, the program's. Conditions: Sets is a slice of ints, the list one of examples; the table setsWith is laid. -/
import Derived.Deep.RegionHeld3
import Derived.Test.YthmipnflbiclbaaDoorZA
import Derived.Test.YthmipnflbiclbaaDoorZB
import Derived.Test.YthmipnflbiclbaaDoorZD
import Derived.Test.YthmipnflbiclbaaDoorZH
namespace Go.Proofs.YthmipnflbiclbaaDoor
open Go.RowKit

theorem info5 : (Tryd.prog.info? 92).map (fun i => (i.zero, i.size, i.bytes)) = some (some (.agg #[.int .i64 0, .bool false]), 2, 16) := by kernel_rfl

/-- the slice v, wherever it lies, reads as the examples es -/
def RdE (w : World) (v : Value) (es : List (Int × Bool)) : Prop :=
  ∃ (a : Option Addr) (b off cap : Nat), v = .slice a es.length cap ∧ (0 < es.length → a = some ⟨b, off, none⟩ ∧ b < w.heap.size) ∧ es.length ≤ 9223372036854775807 ∧
    ∀ j, j < es.length → w.cell? ⟨b, off + j * 2, none⟩ = some (.int .i64 (es.getD j (0, false)).1) ∧ w.cell? ⟨b, off + j * 2 + 1, none⟩ = some (.bool (es.getD j (0, false)).2)

theorem RdE.below {k : Nat} {w w' : World} {v : Value} {es : List (Int × Bool)} (h : RdE w v es) (hb : Below k w w') (hk : w.heap.size ≤ k) : RdE w' v es := by
  obtain ⟨a, b, off, cap, e, h1, h3, h5⟩ := h
  refine ⟨a, b, off, cap, e, fun h => ⟨(h1 h).1, Nat.lt_of_lt_of_le (h1 h).2 hb.size⟩, h3, fun j hj => ?_⟩
  have hlt : b < k := Nat.lt_of_lt_of_le (h1 (by omega)).2 hk
  rw [hb.cell (p := ⟨b, off + j * 2, none⟩) hlt, hb.cell (p := ⟨b, off + j * 2 + 1, none⟩) hlt]
  exact h5 j hj

/-- the cells of examples -/
def flatE (es : List (Int × Bool)) : List Value := es.flatMap (fun e => [.int .i64 e.1, .bool e.2])
theorem flatE_length (es : List (Int × Bool)) : (flatE es).length = es.length * 2 := by
  induction es with
  | nil => rfl
  | cons e es ih => simp [flatE] at ih ⊢; omega
theorem flatE_at (es : List (Int × Bool)) (k : Nat) (hk : k < es.length) : (flatE es)[k * 2]? = some (.int .i64 (es.getD k (0, false)).1) ∧ (flatE es)[k * 2 + 1]? = some (.bool (es.getD k (0, false)).2) := by
  induction es generalizing k with
  | nil => simp at hk
  | cons e es ih =>
    cases k with
    | zero => simp [flatE]
    | succ k =>
      have := ih k (by simpa using hk)
      have e1 : flatE (e :: es) = .int .i64 e.1 :: .bool e.2 :: flatE es := rfl
      rw [e1, show (k + 1) * 2 = k * 2 + 1 + 1 by omega]
      simpa using this

/-- the slice v is owned from block B on and reads as es -/
def ExS (B : Nat) (w : World) (v : Value) (es : List (Int × Bool)) : Prop := w.ownsRow B 92 2 v es.length (flatE es)
theorem ExS.below {B k : Nat} {w w' : World} {v : Value} {es : List (Int × Bool)} (h : ExS B w v es) (hb : Below k w w') (hk : w.heap.size ≤ k) : ExS B w' v es := by
  refine ⟨h.1, ?_⟩
  rcases h.2 with h2 | ⟨g, cap, cur, e, hB, hg, r⟩
  · exact .inl h2
  · refine .inr ⟨g, cap, cur, e, hB, ?_, r⟩
    rw [hb.block g (Nat.lt_of_lt_of_le (Array.getElem?_eq_some_iff.1 hg).1 hk)]
    exact hg
theorem ExS.rd {B : Nat} {w : World} {v : Value} {es : List (Int × Bool)} (h : ExS B w v es) : RdE w v es := by
  have h' := h
  rcases h.2 with ⟨rfl, hn⟩ | ⟨g, cap, cur, rfl, hb, hg, hnc, hcm, hcs, htake⟩
  · have : es = [] := List.eq_nil_of_length_eq_zero hn
    subst this
    exact ⟨none, 0, 0, 0, rfl, fun h => by simp at h, by simp, fun j hj => by simp at hj⟩
  · refine ⟨some ⟨g, 0, none⟩, g, 0, cap, rfl, fun _ => ⟨rfl, (Array.getElem?_eq_some_iff.1 hg).1⟩, by unfold maxLen at hcm; omega, fun j hj => ?_⟩
    have e := flatE_at es j hj
    rw [Nat.zero_add, World.ownsRow.cellAt h' (j * 2) (by omega), World.ownsRow.cellAt h' (j * 2 + 1) (by omega)]
    exact e

/-- what a call answers whose result is examples of its own -/
def RetEx (es : List (Int × Bool)) (w : World) (e : Ending) (w' : World) : Prop :=
  ∃ a cap, e = .returned (.slice a es.length cap) ∧ ExS w.heap.size w' (.slice a es.length cap) es ∧ Below w.heap.size w w'

set_option maxHeartbeats 800000 in
theorem szExS (a : Option Addr) (n cap : Nat) (left : Int) (w : World) (h0 : 0 ≤ left) (h1 : left ≤ 1048576) (hn : n ≤ 9223372036854775807) :
    Calls Tryd.prog 52 #[.slice a n cap, .int .i64 left] w fun e w' => e = .returned (.int .i64 (if left < n then -1 else left - n)) ∧ w' = w := by
  by_cases h : left < n
  · rw [if_pos h]
    have hd : decide (left - (n : Int) < 0) = true := decide_eq_true (by omega)
    go_enter Tryd.func52, Tryd.ntmps52
    go_wp2_with fail
    go_ret
    exact ⟨rfl, rfl⟩
  · rw [if_neg h]
    have hd : decide (left - (n : Int) < 0) = false := decide_eq_false (by omega)
    go_enter Tryd.func52, Tryd.ntmps52
    go_wp2_with fail
    go_ret
    exact ⟨rfl, rfl⟩

set_option maxHeartbeats 800000 in
theorem toEx (p : Int) (l : Bool) (w : World) :
    Calls Tryd.prog 103 #[.agg #[.int .i64 p, .bool l]] w fun e w' => e = .returned (.agg #[.int .i64 p, .bool l]) ∧ Below w.heap.size w w' := by
  go_enter Tryd.func103, Tryd.ntmps103
  go_wp2_with fail
  refine bodyPost_ret (v := .agg #[.int .i64 p, .bool l]) (by simp [results, Tryd.results103, go_sem]) rfl ?_
  exact ⟨rfl, by go_grown⟩

set_option maxHeartbeats 800000 in
theorem eqEx (p q : Int) (l m : Bool) (w : World) :
    Calls Tryd.prog 104 #[.agg #[.int .i64 p, .bool l], .agg #[.int .i64 q, .bool m]] w fun e w' => e = .returned (.bool (decide ((p, l) = (q, m)))) ∧ Below w.heap.size w w' := by
  by_cases h : p = q
  · subst h
    cases l <;> cases m
    all_goals
      go_enter Tryd.func104, Tryd.ntmps104
      go_wp2_with fail
      go_ret
      exact ⟨ret_bool (by simp), by go_grown⟩
  · have hb : (p != q) = true := by simpa using h
    go_enter Tryd.func104, Tryd.ntmps104
    go_wp2_with fail
    go_ret
    exact ⟨ret_bool (by simp [h]), by go_grown⟩

theorem flat_ext {xs : List Value} {es : List (Int × Bool)} (hl : xs.length = es.length * 2) (h : ∀ j, j < es.length → xs[j * 2]? = some (.int .i64 (es.getD j (0, false)).1) ∧ xs[j * 2 + 1]? = some (.bool (es.getD j (0, false)).2)) : xs = flatE es := by
  apply List.ext_getElem?
  intro i
  by_cases hi : i < es.length * 2
  · have e := flatE_at es (i / 2) (by omega)
    have e2 := h (i / 2) (by omega)
    rcases (show i = i / 2 * 2 ∨ i = i / 2 * 2 + 1 by omega) with hc | hc
    · rw [hc, e.1, e2.1]
    · rw [hc, e.2, e2.2]
  · rw [List.getElem?_eq_none (by omega), List.getElem?_eq_none (by rw [flatE_length]; omega)]

set_option maxHeartbeats 1600000 in
set_option maxRecDepth 100000 in
theorem toExS (v : Value) (es : List (Int × Bool)) (w : World) (h : RdE w v es) (hn : es.length ≤ 1048576) :
    Calls Tryd.prog 53 #[v] w (RetEx es w) := by
  obtain ⟨a, b, off, cap, rfl, h1, h3, h5⟩ := h
  obtain ⟨i0, hi, hz0, hz1, hz2⟩ := info_parts info5
  have H5 := Lib.hid h5
  have H1 := Lib.hid h1
  have Hz2 := Lib.hid hz2
  clear h5 h3 h1 hz2
  go_enter Tryd.func53, Tryd.ntmps53
  go_wp2_with (at_make; refine wpList_make_full _ rfl _ _ 40 rfl w.heap.size 92 i0 (.agg #[.int .i64 0, .bool false]) 2 Tryd.underlying40 hi hz0 hz1 _ _ _ _ es.length rfl rfl rfl rfl (by rw [Hz2.out]; omega) (by unfold maxLen; omega) (Nat.le_refl _) ?_; intro w1 hown hgrow)
  have HO := Lib.hid hown
  have hb1 : Below w.heap.size w w1 := (Below.refl _ _).grown hgrow (Nat.le_refl _) (fun k hk => by simp at hk)
  have HB1 := Lib.hid hb1
  clear hown hgrow hi hz0 hz1 hb1
  go_loopw [4] (fun i wr => ∃ (k : Nat) (xs : List Value), k ≤ es.length ∧ i = .int .i64 k ∧ wr.ownsRow w.heap.size 92 2 (.slice (some ⟨w.heap.size, 0, none⟩) es.length es.length) es.length xs ∧ Hid (∀ j, j < k → xs[j * 2]? = some (.int .i64 (es.getD j (0, false)).1) ∧ xs[j * 2 + 1]? = some (.bool (es.getD j (0, false)).2)) ∧ Below w.heap.size w wr) (fun i _ => es.length - (intOf i).toNat)
  case atStart => exact ⟨0, _, Nat.zero_le _, rfl, HO.out, Lib.hid fun j hj => by omega, HB1.out⟩
  case round =>
    obtain ⟨k, xs, hk, rfl, hown, HX, hbk⟩ := hrel
    have HW := Lib.hid hown
    have Hbk := Lib.hid hbk
    have hxl := hown.1
    have hwz : w.heap.size < wr.heap.size ∨ es.length = 0 := by
      rcases hown.2 with ⟨e, _⟩ | ⟨g, cp, cu, e, _, hg, _⟩
      · simp at e
      · simp only [Value.slice.injEq, Option.some.injEq, Addr.mk.injEq] at e
        obtain ⟨⟨rfl, _⟩, _⟩ := e
        exact .inl (Array.getElem?_eq_some_iff.1 hg).1
    clear hown hbk
    by_cases hlt : k < es.length
    · obtain ⟨rfl, hbl⟩ := H1.out (by omega)
      have hc0 := (Hbk.out.cell (p := ⟨b, off + k * 2, none⟩) hbl).trans (H5.out k hlt).1
      have hc1 := (Hbk.out.cell (p := ⟨b, off + k * 2 + 1, none⟩) hbl).trans (H5.out k hlt).2
      have HE := Lib.hid (show es.getD k (0, false) = ((es.getD k (0, false)).1, (es.getD k (0, false)).2) from rfl)
      generalize (es.getD k (0, false)).1 = p at *
      generalize (es.getD k (0, false)).2 = l at *
      go_wp2_with fail
      refine (toEx p l _).mono ?_
      rintro e w5 ⟨rfl, hb5⟩
      have HW5 := Lib.hid (show w5.ownsRow w.heap.size 92 2 (.slice (some ⟨w.heap.size, 0, none⟩) es.length es.length) es.length xs from by
        refine ⟨HW.out.1, ?_⟩
        rcases HW.out.2 with h2 | ⟨g, cp, cu, e, hB, hg, r⟩
        · exact .inl h2
        · refine .inr ⟨g, cp, cu, e, hB, ?_, r⟩
          rw [hb5.block g (Array.getElem?_eq_some_iff.1 hg).1]
          exact hg)
      have hz5 := hb5.size
      have B5 := Lib.hid (Hbk.out.trans (hb5.mono (show w.heap.size ≤ wr.heap.size from Hbk.out.size)))
      have S1 := Lib.hid (World.ownsRow.stored HW5.out (k * 2) (.int .i64 p)).1
      have S2 := Lib.hid (World.ownsRow.stored S1.out (k * 2 + 1) (.bool l)).1
      obtain ⟨u0, hu0⟩ : ∃ u, xs[k * 2]? = some u := ⟨xs[k * 2], List.getElem?_eq_getElem (by omega)⟩
      obtain ⟨u1, hu1⟩ : ∃ u, xs[k * 2 + 1]? = some u := ⟨xs[k * 2 + 1], List.getElem?_eq_getElem (by omega)⟩
      have X0 := (World.ownsRow.cellAt HW5.out (k * 2) (by omega)).trans hu0
      have X1 := (World.ownsRow.cellAt HW5.out (k * 2 + 1) (by omega)).trans hu1
      obtain ⟨F0, F1⟩ : w5.frozen? ⟨w.heap.size, k * 2, none⟩ = false ∧ w5.frozen? ⟨w.heap.size, k * 2 + 1, none⟩ = false := by
        rcases HW5.out.2 with ⟨e, _⟩ | ⟨g, cp, cu, e, _, hg, _⟩
        · simp at e
        · simp only [Value.slice.injEq, Option.some.injEq, Addr.mk.injEq] at e
          obtain ⟨⟨rfl, _⟩, _⟩ := e
          exact ⟨frozen_of_row _ _ _ _ _ hg, frozen_of_row _ _ _ _ _ hg⟩
      have HXN := Lib.hid (show ∀ j, j < k + 1 → ((xs.set (k * 2) (Value.int .i64 p)).set (k * 2 + 1) (Value.bool l))[j * 2]? = some (.int .i64 (es.getD j (0, false)).1) ∧ ((xs.set (k * 2) (Value.int .i64 p)).set (k * 2 + 1) (Value.bool l))[j * 2 + 1]? = some (.bool (es.getD j (0, false)).2) from by
        intro j hj
        by_cases e : j = k
        · subst e
          rw [HE.out]
          refine ⟨?_, ?_⟩
          · rw [List.getElem?_set_ne (by omega), List.getElem?_set_self (by omega)]
          · rw [List.getElem?_set_self (by simp; omega)]
        · have := HX.out j (by omega)
          rw [List.getElem?_set_ne (by omega), List.getElem?_set_ne (by omega), List.getElem?_set_ne (by omega), List.getElem?_set_ne (by omega)]
          exact this)
      clear hu0 hu1
      go_wp2_with fail
      go_roundw
      case rel => exact ⟨k + 1, _, by omega, by go_num, S2.out, HXN, (B5.out.setCell (Nat.le_refl _) _).setCell (Nat.le_refl _) _⟩
      case measure => simp [intOf]; omega
    · obtain rfl : k = es.length := by omega
      have hxs := flat_ext hxl HX.out
      subst hxs
      go_wp2_with fail
      go_ret
      exact ⟨_, _, rfl, HW.out, Hbk.out⟩

/-- are the first n the same? -/
def eqToE (za zb : List (Int × Bool)) (n : Nat) : Prop := ∀ j, j < n → za.getD j (0, false) = zb.getD j (0, false)

set_option maxHeartbeats 1600000 in
set_option maxRecDepth 100000 in
theorem eqExSame (va vb : Value) (es : List (Int × Bool)) (w : World) (ha : RdE w va es) (hb : RdE w vb es) :
    Calls Tryd.prog 54 #[va, vb] w fun e w' => e = .returned (.bool true) ∧ Below w.heap.size w w' := by
  obtain ⟨a, ga, oa, ca, rfl, ha1, ha3, ha5⟩ := ha
  obtain ⟨b, gb, ob, cb, rfl, hb1, _, hb5⟩ := hb
  have HA1 := Lib.hid ha1
  have HA5 := Lib.hid ha5
  have HB1 := Lib.hid hb1
  have HB5 := Lib.hid hb5
  clear ha1 ha5 hb1 hb5
  generalize hn : es.length = n at *
  clear hn
  go_enter Tryd.func54, Tryd.ntmps54
  go_wp2_with fail
  go_loopw [5] (fun i wr => ∃ k : Nat, k ≤ n ∧ i = .int .i64 k ∧ Below w.heap.size w wr) (fun i _ => n - (intOf i).toNat)
  case atStart => exact ⟨0, Nat.zero_le _, rfl, Below.refl _ _⟩
  case round =>
    obtain ⟨k, hk, rfl, hbe⟩ := hrel
    have HBE := Lib.hid hbe
    have hz := hbe.size
    clear hbe
    by_cases hlt : k < n
    · obtain ⟨rfl, hla⟩ := HA1.out (by omega)
      obtain ⟨rfl, hlb⟩ := HB1.out (by omega)
      have c0 := (HBE.out.cell (p := ⟨ga, oa + k * 2, none⟩) hla).trans (HA5.out k hlt).1
      have c1 := (HBE.out.cell (p := ⟨ga, oa + k * 2 + 1, none⟩) hla).trans (HA5.out k hlt).2
      have d0 := (HBE.out.cell (p := ⟨gb, ob + k * 2, none⟩) hlb).trans (HB5.out k hlt).1
      have d1 := (HBE.out.cell (p := ⟨gb, ob + k * 2 + 1, none⟩) hlb).trans (HB5.out k hlt).2
      generalize (es.getD k (0, false)).1 = p at *
      generalize (es.getD k (0, false)).2 = l at *
      have hkI : (k : Int) < (n : Int) := by omega
      have HQ := Lib.hid (fun w => eqEx p p l l w)
      rw [show decide ((p, l) = (p, l)) = true by simp] at HQ
      go_wp2_with fail
      go_region_held3 (fun w' => (w'.cell? ⟨ga, oa + k * 2, none⟩ = some (.int .i64 p) ∧ w'.cell? ⟨ga, oa + k * 2 + 1, none⟩ = some (.bool l)) ∧ w'.cell? ⟨gb, ob + k * 2, none⟩ = some (.int .i64 p) ∧ w'.cell? ⟨gb, ob + k * 2 + 1, none⟩ = some (.bool l)) (first | exact ⟨⟨c0, c1⟩, d0, d1⟩ | exact ⟨⟨x0, x1⟩, y0, y1⟩ | go_keep) (first | (go_at_call 104; refine (HQ.out _).mono ?_; rintro e w4 ⟨rfl, hb4⟩; have hb34 : Below wr.heap.size wr w4 := Below.trans (by first | exact Below.refl _ _ | exact (Below.refl _ _).drew) hb4; have B34 := Lib.hid hb34; have x0 := (hb34.cell (p := ⟨ga, oa + k * 2, none⟩) (by show ga < wr.heap.size; omega)).trans c0; have x1 := (hb34.cell (p := ⟨ga, oa + k * 2 + 1, none⟩) (by show ga < wr.heap.size; omega)).trans c1; have y0 := (hb34.cell (p := ⟨gb, ob + k * 2, none⟩) (by show gb < wr.heap.size; omega)).trans d0; have y1 := (hb34.cell (p := ⟨gb, ob + k * 2 + 1, none⟩) (by show gb < wr.heap.size; omega)).trans d1; clear hb4 hb34))
      go_wp2_with fail
      go_roundw
      case rel => exact ⟨k + 1, by omega, by go_num, HBE.out.trans (B34.out.mono hz)⟩
      case measure => simp [intOf]; omega
    · obtain rfl : k = n := by omega
      go_wp2_with fail
      go_ret
      exact ⟨rfl, HBE.out⟩

end Go.Proofs.YthmipnflbiclbaaDoor

namespace Go.Proofs.YthmipnflbiclbaaDoor
open Go.RowKit

/-- are all points of the first k in 0..n-1? -/
def ptsTo (n : Int) (es : List (Int × Bool)) (k : Nat) : Bool := (List.range k).all (fun j => decide (0 ≤ (es.getD j (0, false)).1) && decide ((es.getD j (0, false)).1 < n))
theorem ptsTo_yes {n : Int} {es : List (Int × Bool)} {k : Nat} (h : ptsTo n es k = true) (h1 : 0 ≤ (es.getD k (0, false)).1) (h2 : (es.getD k (0, false)).1 < n) : ptsTo n es (k + 1) = true := by
  simp only [ptsTo, List.range_succ, List.all_append, List.all_cons, List.all_nil, Bool.and_true, Bool.and_eq_true, decide_eq_true_eq] at h ⊢
  exact ⟨h, h1, h2⟩
theorem ptsTo_no {n : Int} {es : List (Int × Bool)} {k m : Nat} (hk : k < m) (h : ¬ (0 ≤ (es.getD k (0, false)).1 ∧ (es.getD k (0, false)).1 < n)) : ptsTo n es m = false := by
  rw [← Bool.not_eq_true]
  intro hh
  simp only [ptsTo, List.all_eq_true, List.mem_range, Bool.and_eq_true, decide_eq_true_eq] at hh
  exact h (hh k hk)
/-- ValidSample's answer -/
def vsB (n : Int) (zs : List Int) (es : List (Int × Bool)) : Bool := vldB n zs && (decide (es.length ≤ 12) && ptsTo n es es.length)
theorem vsB_bad {n : Int} {zs : List Int} {es : List (Int × Bool)} (h : vldB n zs = false) : vsB n zs es = false := by simp [vsB, h]
theorem vsB_in {n : Int} {zs : List Int} {es : List (Int × Bool)} (h : vldB n zs = true) : vsB n zs es = (decide (es.length ≤ 12) && ptsTo n es es.length) := by simp [vsB, h]

set_option maxHeartbeats 800000 in
theorem specSample (m : Nat) (hm : m ≤ 5) (v : Value) (es : List (Int × Bool)) (w : World) (h : RdE w v es) :
    Calls Tryd.prog 83 #[.int .i64 (m : Int), v] w fun e w' => e = .returned (.bool (decide (es.length ≤ 12) && ptsTo m es es.length)) ∧ w' = w := by
  obtain ⟨a, b, off, cap, rfl, h1, h3, h5⟩ := h
  have H5 := Lib.hid h5
  have H1 := Lib.hid h1
  clear h5 h1
  go_enter Tryd.func83, Tryd.ntmps83
  go_wp2_with fail
  go_loop [5] (fun i => ∃ k : Nat, k ≤ es.length ∧ i = .int .i64 k ∧ ptsTo m es k = true) (fun i => es.length - (intOf i).toNat)
  case atStart => exact ⟨0, Nat.zero_le _, rfl, rfl⟩
  case round =>
    obtain ⟨k, hk, rfl, hp⟩ := hrel
    have HP := Lib.hid hp
    clear hp
    by_cases hlt : k < es.length
    · obtain ⟨rfl, _⟩ := H1.out (by omega)
      have hc := (H5.out k hlt).1
      have HY := Lib.hid (fun h1 h2 => ptsTo_yes HP.out h1 h2)
      have HN := Lib.hid (fun h => ptsTo_no (n := m) (es := es) (m := es.length) hlt h)
      generalize (es.getD k (0, false)).1 = p at *
      by_cases hq : 0 ≤ p ∧ p < m
      · have HB := Lib.hid (show (decide ((0 : Int) ≤ p) && decide (p ≤ (m : Int) - 1)) = true by simp; omega)
        have HR := Lib.hid (HY.out hq.1 hq.2)
        clear hq
        go_wp2_with fail
        refine (specInRange _ _ _ _).mono ?_
        rintro e w1 ⟨rfl, rfl⟩
        rw [HB.out]
        go_wp2_with fail
        go_round
        case rel => exact ⟨k + 1, by omega, by go_num, HR.out⟩
        case measure => simp [intOf]; omega
      · have HB := Lib.hid (show (decide ((0 : Int) ≤ p) && decide (p ≤ (m : Int) - 1)) = false by
          rw [← Bool.not_eq_true]
          simp
          omega)
        have HR := Lib.hid (HN.out hq)
        clear hq
        go_wp2_with fail
        refine (specInRange _ _ _ _).mono ?_
        rintro e w1 ⟨rfl, rfl⟩
        rw [HB.out]
        go_wp2_with fail
        go_ret
        exact ⟨ret_bool (by rw [HR.out, Bool.and_false]), rfl⟩
    · obtain rfl : k = es.length := by omega
      go_wp2_with fail
      go_ret
      exact ⟨ret_bool (by rw [HP.out, Bool.and_true, decide_eq_decide]; omega), rfl⟩


/-- what the closure captures -/
def VCap (n : Int) (v : Value) (zs : List Int) (o : Nat) (w : World) : Prop := w.cell? ⟨o, 0, none⟩ = some (.int .i64 n) ∧ w.cell? ⟨o, 1, none⟩ = some v ∧ Rd w v zs ∧ o < w.heap.size
theorem VCap.next {n : Int} {v : Value} {zs : List Int} {o : Nat} {w w' : World} (h : VCap n v zs o w) (hb : Below w.heap.size w w') : VCap n v zs o w' :=
  ⟨(hb.cell (p := ⟨o, 0, none⟩) h.2.2.2).trans h.1, (hb.cell (p := ⟨o, 1, none⟩) h.2.2.2).trans h.2.1, h.2.2.1.below hb (Nat.le_refl _), Nat.lt_of_lt_of_le h.2.2.2 hb.size⟩

set_option maxHeartbeats 1600000 in
set_option maxRecDepth 100000 in
theorem implVS1 (n : Int) (v : Value) (zs : List Int) (o : Nat) (p : Int) (l : Bool) (w : World) (h : VCap n v zs o w) :
    Calls Tryd.prog 86 #[.agg #[.int .i64 p, .bool l], .pointer (some ⟨o, 0, none⟩)] w fun e w' => e = .returned (.bool (!ptB n zs p)) ∧ Below w.heap.size w w' := by
  obtain ⟨c0, c1, hr, ho⟩ := h
  have H := Lib.hid hr
  obtain ⟨a, b, off, cap, rfl, _, _, _⟩ := hr
  have HB := Lib.hid (show Below w.heap.size w (w.alloc (Obj.cells #[.int .i64 p, .bool l] 92)) from (Below.refl _ _).alloc (Nat.le_refl _) _)
  have d0 := (HB.out.cell (p := ⟨o, 0, none⟩) ho).trans c0
  have d1 := (HB.out.cell (p := ⟨o, 1, none⟩) ho).trans c1
  have HI := Lib.hid (implIsPointOf n _ zs p _ (H.out.below HB.out (Nat.le_refl _)))
  generalize ptB n zs p = q at *
  go_enter Tryd.func86, Tryd.ntmps86
  go_wp2_with fail
  refine HI.out.mono ?_
  rintro e w2 ⟨rfl, hb2⟩
  go_wp2_with fail
  go_ret
  exact ⟨rfl, HB.out.trans (hb2.mono (by simp))⟩

set_option maxHeartbeats 1600000 in
set_option maxRecDepth 100000 in
theorem implIndexVS (n : Int) (v : Value) (zs : List Int) (o : Nat) (u : Value) (es : List (Int × Bool)) (w : World) (h : VCap n v zs o w) (hu : RdE w u es) (hv : vldB n zs = true) :
    Calls Tryd.prog 124 #[u, .func (Fn.func 86) #[] #[.pointer (some ⟨o, 0, none⟩)]] w fun e w' => (∃ r : Int, e = .returned (.int .i64 r) ∧ decide (0 ≤ r) = !ptsTo n es es.length) ∧ Below w.heap.size w w' := by
  have HC := Lib.hid h
  have HVV := Lib.hid hv
  obtain ⟨a, b, off, cap, rfl, h1, h3, h5⟩ := hu
  have H5 := Lib.hid h5
  have H1 := Lib.hid h1
  clear h5 h1 h hv
  go_enter Tryd.func124, Tryd.ntmps124
  go_wp2_with fail
  go_loopw [8] (fun i wr => ∃ k : Nat, k ≤ es.length ∧ i = .int .i64 k ∧ ptsTo n es k = true ∧ Below w.heap.size w wr) (fun i _ => es.length - (intOf i).toNat)
  case atStart => exact ⟨0, Nat.zero_le _, rfl, rfl, Below.refl _ _⟩
  case round =>
    obtain ⟨k, hk, rfl, hp, hbe⟩ := hrel
    have HP := Lib.hid hp
    have HBE := Lib.hid hbe
    have hz := hbe.size
    clear hp hbe
    by_cases hlt : k < es.length
    · obtain ⟨rfl, hbl⟩ := H1.out (by omega)
      have c0 := (HBE.out.cell (p := ⟨b, off + k * 2, none⟩) hbl).trans (H5.out k hlt).1
      have c1 := (HBE.out.cell (p := ⟨b, off + k * 2 + 1, none⟩) hbl).trans (H5.out k hlt).2
      have HY := Lib.hid (fun h1 h2 => ptsTo_yes HP.out h1 h2)
      have HN := Lib.hid (fun h => ptsTo_no (n := n) (es := es) (m := es.length) hlt h)
      generalize (es.getD k (0, false)).1 = p at *
      generalize (es.getD k (0, false)).2 = l at *
      have HF := Lib.hid (implVS1 n v zs o p l _ (HC.out.next HBE.out))
      by_cases hq : 0 ≤ p ∧ p < n
      · have HR := Lib.hid (HY.out hq.1 hq.2)
        rw [show (!ptB n zs p) = false by simp [ptB, HVV.out, hq]] at HF
        clear hq
        go_wp2_with fail
        refine HF.out.mono ?_
        rintro e w2 ⟨rfl, hb2⟩
        have B2 := Lib.hid (HBE.out.trans (hb2.mono hz))
        clear hb2
        go_wp2_with fail
        go_roundw
        case rel => exact ⟨k + 1, by omega, by go_num, HR.out, B2.out⟩
        case measure => simp [intOf]; omega
      · have HR := Lib.hid (HN.out hq)
        rw [show (!ptB n zs p) = true by
          rw [show ptB n zs p = false by
            rw [← Bool.not_eq_true]
            simp only [ptB, HVV.out, Bool.true_and, Bool.and_eq_true, decide_eq_true_eq]
            exact hq]
          rfl] at HF
        clear hq
        go_wp2_with fail
        refine HF.out.mono ?_
        rintro e w2 ⟨rfl, hb2⟩
        have B2 := Lib.hid (HBE.out.trans (hb2.mono hz))
        clear hb2
        go_wp2_with fail
        go_ret
        exact ⟨⟨k, rfl, by rw [HR.out]; simp⟩, B2.out⟩
    · obtain rfl : k = es.length := by omega
      go_wp2_with fail
      go_ret
      exact ⟨⟨-1, rfl, by rw [HP.out]; rfl⟩, HBE.out⟩

set_option maxHeartbeats 1600000 in
set_option maxRecDepth 100000 in
theorem implContainsVS (n : Int) (v : Value) (zs : List Int) (o : Nat) (u : Value) (es : List (Int × Bool)) (w : World) (h : VCap n v zs o w) (hu : RdE w u es) (hv : vldB n zs = true) :
    Calls Tryd.prog 85 #[u, .func (Fn.func 86) #[] #[.pointer (some ⟨o, 0, none⟩)]] w fun e w' => e = .returned (.bool (!ptsTo n es es.length)) ∧ Below w.heap.size w w' := by
  have HI := Lib.hid (implIndexVS n v zs o u es w h hu hv)
  obtain ⟨a, b, off, cap, rfl, _, _, _⟩ := hu
  clear h hv
  go_enter Tryd.func85, Tryd.ntmps85
  go_wp2_with fail
  refine HI.out.mono ?_
  rintro e w2 ⟨⟨r, rfl, hr⟩, hb2⟩
  have HR := Lib.hid hr
  clear hr
  go_wp2_with fail
  go_ret
  exact ⟨ret_bool HR.out, hb2⟩

set_option maxHeartbeats 1600000 in
set_option maxRecDepth 100000 in
theorem implValidSample (n : Int) (v : Value) (zs : List Int) (u : Value) (es : List (Int × Bool)) (w : World) (h : Rd w v zs) (hu : RdE w u es) :
    Calls Tryd.prog 34 #[.agg #[.int .i64 n, v], u] w fun e w' => e = .returned (.bool (vsB n zs es)) ∧ Below w.heap.size w w' := by
  have H := Lib.hid h
  have HU := Lib.hid hu
  obtain ⟨a, b, off, cap, rfl, _, _, _⟩ := h
  obtain ⟨a2, b2, off2, cap2, rfl, _, _, _⟩ := hu
  have B0 := Lib.hid (Box.made n (.slice a zs.length cap) w 25)
  by_cases hv : vldB n zs = true
  · have HV := Lib.hid hv
    have HE := Lib.hid (vsB_in (es := es) hv)
    clear hv
    by_cases h12 : es.length ≤ 12
    · have hd : decide ((12 : Int) < (es.length : Int)) = false := decide_eq_false (by omega)
      have HE2 := Lib.hid (show vsB n zs es = ptsTo n es es.length by rw [HE.out, decide_eq_true h12, Bool.true_and])
      clear HE
      go_enter Tryd.func34, Tryd.ntmps34
      go_wp2_with fail
      refine (implValid n _ zs _ (H.out.below (k := w.heap.size) (by go_grown) (Nat.le_refl _))).mono ?_
      rintro e w1 ⟨rfl, hb⟩
      rw [HV.out]
      have hs1 : w.heap.size < w1.heap.size := by have := hb.size; simp at this; omega
      have B1 := Lib.hid (B0.out.next (by simp) hb)
      clear hb
      have HF := Lib.hid (implContainsVS n (.slice a zs.length cap) zs w.heap.size _ es w1 ⟨B1.out.at0, B1.out.at1, H.out.below B1.out.below (Nat.le_refl _), hs1⟩ (HU.out.below B1.out.below (Nat.le_refl _)) HV.out)
      generalize ptsTo n es es.length = q at *
      go_wp2_with fail
      refine HF.out.mono ?_
      rintro e w2 ⟨rfl, hb2⟩
      have B2 := Lib.hid (B1.out.next hs1 hb2)
      clear hb2
      go_wp2_with fail
      go_ret
      exact ⟨ret_bool (by first | exact HE2.out.symm | (rw [HE2.out]; simp)), B2.out.below⟩
    · have hd : decide ((12 : Int) < (es.length : Int)) = true := decide_eq_true (by omega)
      have HE2 := Lib.hid (show vsB n zs es = false by rw [HE.out, decide_eq_false h12, Bool.false_and])
      clear HE
      go_enter Tryd.func34, Tryd.ntmps34
      go_wp2_with fail
      refine (implValid n _ zs _ (H.out.below (k := w.heap.size) (by go_grown) (Nat.le_refl _))).mono ?_
      rintro e w1 ⟨rfl, hb⟩
      rw [HV.out]
      have B1 := Lib.hid (B0.out.next (by simp) hb)
      clear hb
      go_wp2_with fail
      go_ret
      exact ⟨ret_bool HE2.out.symm, B1.out.below⟩
  · rw [Bool.not_eq_true] at hv
    have HE := Lib.hid (vsB_bad (es := es) hv)
    have HV := Lib.hid hv
    clear hv
    go_enter Tryd.func34, Tryd.ntmps34
    go_wp2_with fail
    refine (implValid n _ zs _ (H.out.below (k := w.heap.size) (by go_grown) (Nat.le_refl _))).mono ?_
    rintro e w1 ⟨rfl, hb⟩
    rw [HV.out]
    have B1 := Lib.hid (B0.out.next (by simp) hb)
    clear hb
    go_wp2_with fail
    go_ret
    exact ⟨ret_bool HE.out.symm, B1.out.below⟩

end Go.Proofs.YthmipnflbiclbaaDoor

namespace Go.Proofs.YthmipnflbiclbaaDoor
open Go.RowKit

/-- the sets below 32 that have the point x, as bits -/
def swZ : List Int := [2863311530, 3435973836, 4042322160, 4278255360, 4294901760]
def sw (x : Nat) : BitVec 32 := BitVec.ofInt 32 (swZ.getD x 0)
/-- the table -/
def SW (w : World) : Prop := 0 < w.heap.size ∧ ∀ x, x < 5 → w.cell? ⟨0, x, none⟩ = some (.int .u32 (swZ.getD x 0))
theorem SW.below {w w' : World} {B : Nat} (h : SW w) (hb : Below B w w') (hB : 0 < B) : SW w' :=
  ⟨Nat.lt_of_lt_of_le h.1 hb.size, fun x hx => by rw [hb.cell (p := ⟨0, x, none⟩) hB]; exact h.2 x hx⟩
theorem SW.next {w w' : World} (h : SW w) (hb : Below w.heap.size w w') : SW w' := h.below hb h.1

theorem sw_bit {x s : Nat} (hx : x < 5) (hs : s < 32) : (sw x).getLsbD s = hasX x s := by
  have key : ∀ x : Fin 5, ∀ s : Fin 32, (sw x).getLsbD s = hasX x s := by decide +kernel
  exact key ⟨x, hx⟩ ⟨s, hs⟩
theorem sw_int {x : Nat} (hx : x < 5) : swZ.getD x 0 = ((sw x).toNat : Int) := by
  have key : ∀ x : Fin 5, swZ.getD x 0 = ((sw x).toNat : Int) := by decide +kernel
  exact key ⟨x, hx⟩

/-- the sets of a list, as bits -/
def famB : List Nat → BitVec 32
  | [] => 0
  | s :: l => famB l ||| (1#32 <<< s)
def fm (l : List Nat) : Int := ((famB l).toNat : Int)
theorem famB_bit (l : List Nat) {s : Nat} (hs : s < 32) : (famB l).getLsbD s = decide (s ∈ l) := by
  induction l with
  | nil => simp [famB]
  | cons t l ih =>
    rw [famB, BitVec.getLsbD_or, ih, Bool.eq_iff_iff]
    simp [hs]
    constructor
    · rintro (h | ⟨h1, h2⟩)
      · exact .inr h
      · exact .inl (by omega)
    · rintro (rfl | h)
      · exact .inr ⟨Nat.le_refl _, by omega⟩
      · exact .inl h
theorem famB_ext {a : BitVec 32} {l : List Nat} (h : ∀ s, s < 32 → a.getLsbD s = decide (s ∈ l)) : a = famB l := by
  apply BitVec.eq_of_getLsbD_eq
  intro s hs
  rw [h s hs, famB_bit l hs]
theorem fm_nil : fm [] = 0 := by simp [fm, famB]
theorem fm_ne {l : List Nat} (h32 : ∀ s ∈ l, s < 32) : fm l ≠ 0 ↔ l ≠ [] := by
  constructor
  · rintro h rfl
    exact h fm_nil
  · intro h h0
    cases l with
    | nil => exact h rfl
    | cons t l =>
      have h1 : famB (t :: l) = 0 := by
        apply BitVec.eq_of_toNat_eq
        unfold fm at h0
        simp
        omega
      have h2 := famB_bit (t :: l) (h32 t (by simp))
      rw [h1] at h2
      simp at h2
theorem ofInt_toNat (b : BitVec 32) : BitVec.ofInt 32 (b.toNat : Int) = b := by simp
theorem wrap_u32 (c : BitVec 32) : IntKind.u32.wrap (c.toNat : Int) = (c.toNat : Int) := by
  have := c.isLt
  simp [IntKind.wrap, IntKind.bits, IntKind.signed]
  omega
theorem u32_and (a b : BitVec 32) : bits .and .u32 (a.toNat : Int) (b.toNat : Int) = ((a &&& b).toNat : Int) := by
  show IntKind.u32.wrap ((BitVec.ofInt 32 (a.toNat : Int) &&& BitVec.ofInt 32 (b.toNat : Int)).toNat : Int) = _
  rw [ofInt_toNat, ofInt_toNat]
  exact wrap_u32 _
theorem u32_andNot (a b : BitVec 32) : bits .andNot .u32 (a.toNat : Int) (b.toNat : Int) = ((a &&& ~~~ b).toNat : Int) := by
  show IntKind.u32.wrap ((BitVec.ofInt 32 (a.toNat : Int) &&& ~~~ BitVec.ofInt 32 (b.toNat : Int)).toNat : Int) = _
  rw [ofInt_toNat, ofInt_toNat]
  exact wrap_u32 _
theorem u32_or (a b : BitVec 32) : bits .or .u32 (a.toNat : Int) (b.toNat : Int) = ((a ||| b).toNat : Int) := by
  show IntKind.u32.wrap ((BitVec.ofInt 32 (a.toNat : Int) ||| BitVec.ofInt 32 (b.toNat : Int)).toNat : Int) = _
  rw [ofInt_toNat, ofInt_toNat]
  exact wrap_u32 _
/-- those that have x, and those that do not -/
def wth (x : Nat) (l : List Nat) : List Nat := l.filter (fun s => hasX x s)
def wto (x : Nat) (l : List Nat) : List Nat := l.filter (fun s => !hasX x s)
theorem fm_wth {x : Nat} (hx : x < 5) (l : List Nat) : bits .and .u32 (fm l) (swZ.getD x 0) = fm (wth x l) := by
  rw [sw_int hx, fm, u32_and, fm]
  congr 2
  apply famB_ext
  intro s hs
  rw [BitVec.getLsbD_and, famB_bit l hs, sw_bit hx hs, Bool.eq_iff_iff]
  simp [wth]
theorem fm_wto {x : Nat} (hx : x < 5) (l : List Nat) : bits .andNot .u32 (fm l) (swZ.getD x 0) = fm (wto x l) := by
  rw [sw_int hx, fm, u32_andNot, fm]
  congr 2
  apply famB_ext
  intro s hs
  rw [BitVec.getLsbD_and, BitVec.getLsbD_not, famB_bit l hs, sw_bit hx hs, Bool.eq_iff_iff]
  simp [wto, hs]

set_option maxHeartbeats 800000 in
theorem implSplit (l : List Nat) (x : Nat) (hx : x < 5) (w : World) (h : SW w) :
    Calls Tryd.prog 125 #[.int .u32 (fm l), .int .i64 (x : Int)] w fun e w' => e = .returned (.tuple #[.int .u32 (fm (wth x l)), .int .u32 (fm (wto x l))]) ∧ ∃ d, w' = w.drewN d := by
  have hc := h.2 x hx
  have h1 := fm_wth hx l
  have h2 := fm_wto hx l
  generalize swZ.getD x 0 = z at *
  generalize fm l = F at *
  generalize fm (wth x l) = F1 at *
  generalize fm (wto x l) = F2 at *
  have hx5 : (x : Int) < 5 := by omega
  go_enter Tryd.func125, Tryd.ntmps125
  go_wp2_with fail
  go_quiet (fail)
  go_wp2_with fail
  refine bodyPost_ret (v := .tuple #[.int .u32 F1, .int .u32 F2]) (by simp [results, Tryd.results125, go_sem]) rfl ?_
  exact ⟨rfl, nq, rfl⟩

end Go.Proofs.YthmipnflbiclbaaDoor

namespace Go.Proofs.YthmipnflbiclbaaDoor
open Go.RowKit

set_option maxHeartbeats 800000 in
theorem specFits (s x : Nat) (l : Bool) (hs : s < 32) (hx : x < 5) (w : World) :
    Calls Tryd.prog 136 #[.int .i64 (s : Int), .agg #[.int .i64 (x : Int), .bool l]] w fun e w' => e = .returned (.bool (hasX x s == l)) ∧ Below w.heap.size w w' := by
  have HH := Lib.hid (fun w => specHas s x (by omega) hx w)
  generalize hasX x s = h at *
  go_enter Tryd.func136, Tryd.ntmps136
  go_wp2_with fail
  go_quiet ((go_at_call 95; exact Calls.quiet_of_same (HH.out _)))
  go_wp2_with fail
  go_ret
  exact ⟨rfl, below_drewN (by go_grown) nq⟩

end Go.Proofs.YthmipnflbiclbaaDoor

namespace Go.Proofs.YthmipnflbiclbaaDoor

theorem take_succ' {ns : List Nat} {k : Nat} (hk : k < ns.length) : ns.take (k + 1) = ns.take k ++ [ns.getD k 0] := by
  rw [List.take_add_one, List.getElem?_eq_getElem hk, List.getD_eq_getElem?_getD, List.getElem?_eq_getElem hk]; rfl
def keepTo (p : Nat → Bool) (ns : List Nat) (k : Nat) : List Nat := (ns.take k).filter p
theorem keepTo_yes {p : Nat → Bool} {ns : List Nat} {k : Nat} (hk : k < ns.length) (h : p (ns.getD k 0) = true) : keepTo p ns (k + 1) = keepTo p ns k ++ [ns.getD k 0] := by
  rw [keepTo, take_succ' hk, List.filter_append, List.filter_cons_of_pos h]; rfl
theorem keepTo_no {p : Nat → Bool} {ns : List Nat} {k : Nat} (hk : k < ns.length) (h : p (ns.getD k 0) = false) : keepTo p ns (k + 1) = keepTo p ns k := by
  rw [keepTo, take_succ' hk, List.filter_append, List.filter_cons_of_neg (fun e => by rw [h] at e; cases e)]; simp [keepTo]
theorem keepTo_le (p : Nat → Bool) (ns : List Nat) (k : Nat) : (keepTo p ns k).length ≤ ns.length := by
  have h1 := List.length_filter_le p (ns.take k)
  have h2 := List.length_take_le k ns
  have h3 : (ns.take k).length ≤ ns.length := by simp; omega
  unfold keepTo
  omega
theorem keepTo_all (p : Nat → Bool) (ns : List Nat) : keepTo p ns ns.length = ns.filter p := by rw [keepTo, List.take_length]

end Go.Proofs.YthmipnflbiclbaaDoor

namespace Go.Proofs.YthmipnflbiclbaaDoor
open Go.RowKit

set_option maxHeartbeats 3200000 in
set_option maxRecDepth 100000 in
theorem specKeep (v : Value) (ns : List Nat) (x : Nat) (l : Bool) (hx : x < 5) (h32 : ∀ t ∈ ns, t < 32) (hl : ns.length ≤ 32) (w : World) (h : Rd w v (toI ns)) :
    Calls Tryd.prog 123 #[v, .agg #[.int .i64 (x : Int), .bool l]] w (RetInts (toI (ns.filter (fun s => hasX x s == l))) w) := by
  have H := Lib.hid h
  obtain ⟨a, b, off, cap, rfl, h1, h3, h5⟩ := h
  rw [toI_length] at h1 h3 h5 H ⊢
  have H5 := Lib.hid h5
  have H1 := Lib.hid h1
  clear h5 h1
  obtain ⟨P, hP⟩ : ∃ P, P = (fun s => hasX x s == l) := ⟨_, rfl⟩
  rw [← hP]
  have HPP := Lib.hid hP
  clear hP
  have HB := Lib.hid (show Below w.heap.size w (w.alloc (Obj.cells #[.int .i64 (x : Int), .bool l] 92)) from (Below.refl _ _).alloc (Nat.le_refl _) _)
  have HE0 := Lib.hid (show (w.alloc (Obj.cells #[.int .i64 (x : Int), .bool l] 92)).cell? ⟨w.heap.size, 0, none⟩ = some (.int .i64 (x : Int)) by simp [go_sem])
  have HE1 := Lib.hid (show (w.alloc (Obj.cells #[.int .i64 (x : Int), .bool l] 92)).cell? ⟨w.heap.size, 1, none⟩ = some (.bool l) by simp [go_sem])
  have HZ := Lib.hid (show (w.alloc (Obj.cells #[.int .i64 (x : Int), .bool l] 92)).heap.size = w.heap.size + 1 by simp)
  go_enter Tryd.func123, Tryd.ntmps123
  go_wp2_with fail
  generalize (w.alloc (Obj.cells #[.int .i64 (x : Int), .bool l] 92)) = w1 at *
  have hz1 := HZ.out
  go_loopw [5, 6] (fun o i wr => ∃ (k : Nat) (a' : Option Addr) (c' : Nat), k ≤ ns.length ∧ i = .int .i64 k ∧ o = .slice a' (keepTo P ns k).length c' ∧ Ints w1.heap.size wr (.slice a' (keepTo P ns k).length c') (toI (keepTo P ns k)) ∧ Below w1.heap.size w1 wr) (fun _ i _ => ns.length - (intOf i).toNat)
  case atStart => exact ⟨0, _, _, Nat.zero_le _, rfl, rfl, Ints.lit' (by first | omega | simp) (by first | omega | simp), by go_grown⟩
  case round =>
    obtain ⟨k, a', c', hk, rfl, rfl, hin, hbe⟩ := hrel
    have HIN := Lib.hid hin
    have HBE := Lib.hid hbe
    have hz := hbe.size
    have d0 := (hbe.cell (p := ⟨w.heap.size, 0, none⟩) (by show w.heap.size < _; omega)).trans HE0.out
    have d1 := (hbe.cell (p := ⟨w.heap.size, 1, none⟩) (by show w.heap.size < _; omega)).trans HE1.out
    clear hin hbe
    by_cases hlt : k < ns.length
    · obtain ⟨rfl, hbl⟩ := H1.out (by omega)
      have hcx := (HBE.out.cell (p := ⟨b, off + k, none⟩) (by show b < w1.heap.size; omega)).trans ((HB.out.cell (p := ⟨b, off + k, none⟩) hbl).trans (H5.out k (by omega)))
      rw [toI_getD] at hcx
      have hxx := h32 _ (getD_of_lt hlt)
      have HY := Lib.hid (keepTo_yes (p := P) hlt)
      have HN := Lib.hid (keepTo_no (p := P) hlt)
      have hA32 := keepTo_le P ns k
      have hkI : (k : Int) < (ns.length : Int) := by omega
      generalize ns.getD k 0 = s at *
      generalize keepTo P ns k = A at *
      have HAl := Lib.hid (toI_length A)
      have HFT := Lib.hid (fun w => specFits s x l (by omega) hx w)
      rw [show (hasX x s == l) = P s by rw [HPP.out]] at HFT
      by_cases hp : P s = true
      · have HF := Lib.hid (HY.out hp)
        rw [hp] at HFT
        clear hp
        go_wp2_with fail
        go_region_held3 (fun w' => w'.cell? ⟨b, off + k, none⟩ = some (.int .i64 (s : Int)) ∧ w'.cell? ⟨w.heap.size, 0, none⟩ = some (.int .i64 (x : Int)) ∧ w'.cell? ⟨w.heap.size, 1, none⟩ = some (.bool l)) (first | exact ⟨hcx, d0, d1⟩ | exact ⟨hcx2, f0, f1⟩ | go_keep) (first | (go_at_call 136; refine (HFT.out _).mono ?_; rintro e w4 ⟨rfl, hb4⟩; have hb34 : Below wr.heap.size wr w4 := Below.trans (by first | exact Below.refl _ _ | exact (Below.refl _ _).drew) hb4; have B34 := Lib.hid hb34; have hcx2 := (hb34.cell (p := ⟨b, off + k, none⟩) (by show b < wr.heap.size; omega)).trans hcx; have f0 := (hb34.cell (p := ⟨w.heap.size, 0, none⟩) (by show w.heap.size < wr.heap.size; omega)).trans d0; have f1 := (hb34.cell (p := ⟨w.heap.size, 1, none⟩) (by show w.heap.size < wr.heap.size; omega)).trans d1; clear hb4 hb34))
        have HIN2 := Lib.hid (HIN.out.below B34.out (Nat.le_refl _))
        have HBE2 := Lib.hid (HBE.out.trans (B34.out.mono hz))
        have hz2 := B34.out.size
        go_wp2_with (at_builtin; refine wpList_app rfl (.tmp 20) (.tmp 25) rfl w1.heap.size _ (toI A) rfl (by exact HIN2.out.alloc _) _ _ _ [(s : Int)] rfl (src_cell (by rw [World.cell?_alloc_at _ _ _ _ rfl]; rfl)) (by rw [HAl.out]; omega) (by simp; omega) ?_; intro a1 c1 w5 hin5 hb5 hg5; rw [HAl.out] at hin5; have I5 := Lib.hid hin5; have B5 := Lib.hid (HBE2.out.trans (Below.trans ((Below.refl _ _).alloc (by omega) _) hb5)); clear hin5 hb5 hg5; rw [HAl.out])
        go_roundw
        case rel => exact ⟨k + 1, a1, c1, by omega, by go_num, by rw [HF.out]; simp, by rw [HF.out, toI_append]; simpa [toI] using I5.out, B5.out⟩
        case measure => simp [intOf]; omega
      · rw [Bool.not_eq_true] at hp
        have HF := Lib.hid (HN.out hp)
        rw [hp] at HFT
        clear hp
        go_wp2_with fail
        go_region_held3 (fun w' => w'.cell? ⟨b, off + k, none⟩ = some (.int .i64 (s : Int)) ∧ w'.cell? ⟨w.heap.size, 0, none⟩ = some (.int .i64 (x : Int)) ∧ w'.cell? ⟨w.heap.size, 1, none⟩ = some (.bool l)) (first | exact ⟨hcx, d0, d1⟩ | exact ⟨hcx2, f0, f1⟩ | go_keep) (first | (go_at_call 136; refine (HFT.out _).mono ?_; rintro e w4 ⟨rfl, hb4⟩; have hb34 : Below wr.heap.size wr w4 := Below.trans (by first | exact Below.refl _ _ | exact (Below.refl _ _).drew) hb4; have B34 := Lib.hid hb34; have hcx2 := (hb34.cell (p := ⟨b, off + k, none⟩) (by show b < wr.heap.size; omega)).trans hcx; have f0 := (hb34.cell (p := ⟨w.heap.size, 0, none⟩) (by show w.heap.size < wr.heap.size; omega)).trans d0; have f1 := (hb34.cell (p := ⟨w.heap.size, 1, none⟩) (by show w.heap.size < wr.heap.size; omega)).trans d1; clear hb4 hb34))
        have HIN2 := Lib.hid (HIN.out.below B34.out (Nat.le_refl _))
        have HBE2 := Lib.hid (HBE.out.trans (B34.out.mono hz))
        go_wp2_with fail
        go_roundw
        case rel => exact ⟨k + 1, a', c', by omega, by go_num, by rw [HF.out], by rw [HF.out]; exact HIN2.out, HBE2.out⟩
        case measure => simp [intOf]; omega
    · obtain rfl : k = ns.length := by omega
      rw [keepTo_all] at HIN ⊢
      generalize ns.filter P = R at *
      have HRl := Lib.hid (toI_length R)
      go_wp2_with fail
      go_ret
      exact ⟨a', c', by rw [HRl.out]; rfl, by rw [HRl.out]; exact HIN.out.mono (by omega), HB.out.trans (HBE.out.mono (by omega))⟩



end Go.Proofs.YthmipnflbiclbaaDoor

namespace Go.Proofs.YthmipnflbiclbaaDoor
open Go.RowKit

/-- those that fit an example -/
def kp (l : List Nat) (e : Int × Bool) : List Nat := l.filter (fun s => hasX e.1.toNat s == e.2)
theorem kp_true (l : List Nat) (x : Nat) : kp l ((x : Int), true) = wth x l := by unfold kp wth; congr 1; funext s; simp
theorem kp_false (l : List Nat) (x : Nat) : kp l ((x : Int), false) = wto x l := by unfold kp wto; congr 1; funext s; simp

set_option maxHeartbeats 1600000 in
set_option maxRecDepth 100000 in
theorem implFitting (l : List Nat) (x : Nat) (b : Bool) (hx : x < 5) (w : World) (hsw : SW w) :
    Calls Tryd.prog 87 #[.int .u32 (fm l), .agg #[.int .i64 (x : Int), .bool b]] w fun e w' => e = .returned (.int .u32 (fm (kp l ((x : Int), b)))) ∧ Below w.heap.size w w' := by
  have HSW := Lib.hid hsw
  have HS := Lib.hid (fun w h => implSplit l x hx w h)
  cases b with
  | true =>
    rw [kp_true]
    clear hsw
    generalize fm l = F at *
    generalize fm (wth x l) = F1 at *
    generalize fm (wto x l) = F2 at *
    go_enter Tryd.func87, Tryd.ntmps87
    go_wp2_with fail
    refine (HS.out _ (HSW.out.next (by go_grown))).mono ?_
    rintro e w2 ⟨rfl, d, rfl⟩
    go_wp2_with fail
    go_ret
    exact ⟨rfl, below_drewN (by go_grown) d⟩
  | false =>
    rw [kp_false]
    clear hsw
    generalize fm l = F at *
    generalize fm (wth x l) = F1 at *
    generalize fm (wto x l) = F2 at *
    go_enter Tryd.func87, Tryd.ntmps87
    go_wp2_with fail
    refine (HS.out _ (HSW.out.next (by go_grown))).mono ?_
    rintro e w2 ⟨rfl, d, rfl⟩
    go_wp2_with fail
    go_ret
    exact ⟨rfl, below_drewN (by go_grown) d⟩


end Go.Proofs.YthmipnflbiclbaaDoor

namespace Go.Proofs.YthmipnflbiclbaaDoor
open Go.RowKit

/-- what is left behind k examples -/
def nowTo (ns : List Nat) (es : List (Int × Bool)) : Nat → List Nat
  | 0 => ns
  | k + 1 => kp (nowTo ns es k) (es.getD k (0, false))
theorem nowTo_sub (ns : List Nat) (es : List (Int × Bool)) (k : Nat) : (∀ t ∈ nowTo ns es k, t ∈ ns) ∧ (nowTo ns es k).length ≤ ns.length := by
  induction k with
  | zero => exact ⟨fun t h => h, Nat.le_refl _⟩
  | succ k ih =>
    refine ⟨fun t h => ih.1 t (List.mem_filter.1 h).1, Nat.le_trans (List.length_filter_le _ _) ih.2⟩
theorem pts_at {n : Int} {es : List (Int × Bool)} (h : ptsTo n es es.length = true) {k : Nat} (hk : k < es.length) : 0 ≤ (es.getD k (0, false)).1 ∧ (es.getD k (0, false)).1 < n := by
  simp only [ptsTo, List.all_eq_true, List.mem_range, Bool.and_eq_true, decide_eq_true_eq] at h
  exact h k hk


end Go.Proofs.YthmipnflbiclbaaDoor

namespace Go.Proofs.YthmipnflbiclbaaDoor
open Go.RowKit

theorem fm_succ {ns : List Nat} {k : Nat} (hk : k < ns.length) (h32 : ∀ t ∈ ns, t < 32) : bits .or .u32 (fm (ns.take k)) ((2 : Int) ^ ns.getD k 0) = fm (ns.take (k + 1)) := by
  have h1 := h32 _ (getD_of_lt hk)
  have e1 : ns.take (k + 1) = ns.take k ++ [ns.getD k 0] := by
    rw [List.take_add_one, List.getElem?_eq_getElem hk, List.getD_eq_getElem?_getD, List.getElem?_eq_getElem hk]; rfl
  rw [e1]
  generalize ns.getD k 0 = s at *
  have h2 : (2 : Int) ^ s = ((1#32 <<< s).toNat : Int) := by
    have key : ∀ s : Fin 32, (2 : Int) ^ (s : Nat) = ((1#32 <<< (s : Nat)).toNat : Int) := by decide +kernel
    exact key ⟨s, h1⟩
  rw [h2, fm, u32_or, fm]
  congr 2
  apply famB_ext
  intro t ht
  have h3 : (1#32 <<< s).getLsbD t = decide (t = s) := by
    have := famB_bit [s] ht
    simpa [famB] using this
  rw [BitVec.getLsbD_or, famB_bit _ ht, h3, Bool.eq_iff_iff]
  simp

set_option maxHeartbeats 800000 in
theorem implFamilyOf (n : Int) (v : Value) (ns : List Nat) (h32 : ∀ t ∈ ns, t < 32) (w : World) (h : Rd w v (toI ns)) :
    Calls Tryd.prog 66 #[.agg #[.int .i64 n, v]] w fun e w' => e = .returned (.int .u32 (fm ns)) ∧ Below w.heap.size w w' := by
  obtain ⟨a, b, off, cap, rfl, h1, h3, h5⟩ := h
  rw [toI_length] at *
  have H5 := Lib.hid h5
  have H1 := Lib.hid h1
  clear h5 h1
  go_enter Tryd.func66, Tryd.ntmps66
  go_wp2_with fail
  go_loopw [3, 9] (fun f i wr => ∃ k : Nat, k ≤ ns.length ∧ i = .int .i64 k ∧ f = .int .u32 (fm (ns.take k)) ∧ wr = w.alloc (Obj.cells #[.int .i64 n, .slice a ns.length cap] 25)) (fun _ i _ => ns.length - (intOf i).toNat)
  case atStart => exact ⟨0, Nat.zero_le _, rfl, by rw [List.take_zero, fm_nil], rfl⟩
  case round =>
    obtain ⟨k, hk, rfl, rfl, rfl⟩ := hrel
    by_cases hlt : k < ns.length
    · obtain ⟨rfl, hbl⟩ := H1.out (by omega)
      have hc := H5.out k hlt
      rw [toI_getD] at hc
      have hx := h32 _ (getD_of_lt hlt)
      have HS := Lib.hid (fm_succ hlt h32)
      have HM := Lib.hid (show (2 : Int) ^ ns.getD k 0 % 4294967296 = 2 ^ ns.getD k 0 by
        have key : ∀ s : Fin 32, (2 : Int) ^ (s : Nat) % 4294967296 = 2 ^ (s : Nat) := by decide +kernel
        exact key ⟨_, hx⟩)
      generalize ns.getD k 0 = x at *
      have hc2 := (show Below w.heap.size w (w.alloc (Obj.cells #[.int .i64 n, .slice (some ⟨b, off, none⟩) ns.length cap] 25)) from (Below.refl _ _).alloc (Nat.le_refl _) _).cell (p := ⟨b, off + k, none⟩) hbl
      rw [hc] at hc2
      go_wp2_with fail
      go_roundw
      case rel => exact ⟨k + 1, by omega, by go_num, by rw [← HS.out, HM.out], trivial⟩
      case measure => simp [intOf]; omega
    · obtain rfl : k = ns.length := by omega
      go_wp2_with fail
      go_ret
      exact ⟨ret_int (by rw [List.take_length]), by go_grown⟩

end Go.Proofs.YthmipnflbiclbaaDoor

namespace Go.Proofs.YthmipnflbiclbaaDoor
open Go.RowKit

theorem fm_test (l : List Nat) {j : Nat} (hj : j < 32) : bits .and .u32 (fm l / 2 ^ j) 1 = if decide (j ∈ l) = true then 1 else 0 := by
  have e1 : fm l / 2 ^ j = ((famB l >>> j).toNat : Int) := by
    rw [BitVec.toNat_ushiftRight, Nat.shiftRight_eq_div_pow, fm]
    simp
  have e2 : (1 : Int) = ((1#32).toNat : Int) := by decide
  rw [e1]
  rw (occs := .pos [1]) [e2]
  rw [u32_and, BitVec.toNat_and, BitVec.toNat_ushiftRight, Nat.shiftRight_eq_div_pow, ← famB_bit l hj, BitVec.getLsbD]
  show (((famB l).toNat / 2 ^ j &&& 1 : Nat) : Int) = _
  rw [Nat.and_one_is_mod, ← Nat.toNat_testBit]
  cases (famB l).toNat.testBit j <;> rfl

set_option maxHeartbeats 3200000 in
set_option maxRecDepth 100000 in
theorem implFamClass (m : Nat) (hm : m ≤ 5) (l : List Nat) (w : World) :
    Calls Tryd.prog 88 #[.int .u32 (fm l), .int .i64 (m : Int)] w (RetClass m (toI ((List.range (2 ^ m)).filter (fun s => decide (s ∈ l)))) w) := by
  obtain ⟨K, hK⟩ : ∃ K, K = (fun s => decide (s ∈ l)) := ⟨_, rfl⟩
  have HTst := Lib.hid (fun j hj => fm_test l (j := j) hj)
  rw [← hK]
  have HKK := Lib.hid hK
  clear hK
  have hF0 : 0 ≤ fm l := by unfold fm; omega
  have hF1 : fm l < 4294967296 := by unfold fm; have := (famB l).isLt; omega
  generalize fm l = F at *
  have hw := wrap_pow m hm
  have HW := Lib.hid hw.1
  have hw2 := hw.2
  have HP := Lib.hid (show ((2 ^ m : Nat) : Int) = (2 : Int) ^ m by simp)
  clear hw
  go_enter Tryd.func88, Tryd.ntmps88
  go_wp2_with fail
  go_loopw [11] (fun i wr => ∃ (j : Nat) (a' : Option Addr) (c' : Nat), (j : Int) ≤ wrap64 (2 ^ m) ∧ i = .int .i64 j ∧ Out m (.slice a' ((List.range j).filter K).length c') (w.heap.size + 1) wr ∧ Ints (w.heap.size + 1 + 1) wr (.slice a' ((List.range j).filter K).length c') (toI ((List.range j).filter K)) ∧ Below (w.heap.size + 1) (w.alloc (Obj.cells #[.int .i64 0, .slice none 0 0] 25)) wr ∧ w.heap.size + 1 < wr.heap.size) (fun i _ => 40 - (intOf i).toNat)
  case atStart => exact ⟨0, none, 0, by omega, rfl, ⟨by simp [go_sem], by simp [go_sem], by simp [go_sem], by simp [go_sem]⟩, Ints.nil _ _, (Below.refl _ _).alloc (by simp) _, by simp⟩
  case round =>
    obtain ⟨j, a', c', hj, rfl, ho, hin, hbe, hsz⟩ := hrel
    have HO := Lib.hid ho
    have HIN := Lib.hid hin
    have HB := Lib.hid hbe
    clear ho hin hbe
    by_cases hlt : (j : Int) < wrap64 (2 ^ m)
    · have hj32 : j < 32 := by omega
      have hlook := HTst.out j hj32
      rw [show decide (j ∈ l) = K j by rw [HKK.out]] at hlook
      have hfl := filt_le K j
      by_cases hp : K j = true
      · have HF := Lib.hid (filt_yes hp)
        have HAl := Lib.hid (toI_length ((List.range j).filter K))
        rw [if_pos hp] at hlook
        clear hp
        generalize (List.range j).filter K = A at *
        have e1 := HO.out.at1
        go_wp2_with (at_builtin; refine wpList_app rfl (.tmp 20) (.tmp 22) rfl (w.heap.size + 1 + 1) _ (toI A) rfl (by exact HIN.out.alloc _) _ _ _ [(j : Int)] rfl (src_cell (by rw [World.cell?_alloc_at _ _ _ _ rfl]; rfl)) (by rw [HAl.out]; omega) (by simp; omega) ?_; intro a1 c1 w3 hin3 hb3 hg3; have hb13 : Below (w.heap.size + 1 + 1) wr w3 := Below.trans ((Below.refl _ _).alloc (by omega) _) hb3; have O3 := Lib.hid (HO.out.next hb13 (by omega)); have H13 := Lib.hid hb13; have I3 := Lib.hid hin3; clear hin3 hb3 hg3 hb13; have f1 := O3.out.at1; have g1 := O3.out.free1)
        rw [HAl.out] at I3
        go_roundw
        case rel => exact ⟨j + 1, a1, c1, by omega, by go_num, by rw [HF.out, HAl.out, List.length_append]; exact O3.out.set _, by rw [HF.out, HAl.out, List.length_append, toI_append]; exact I3.out.setCell_below (by simp) _, (HB.out.trans (H13.out.mono (by omega))).setCell (by simp) _, by have := H13.out.size; simp; omega⟩
        case measure => simp [intOf]; omega
      · rw [Bool.not_eq_true] at hp
        have HF := Lib.hid (filt_no hp)
        rw [if_neg (by rw [hp]; decide)] at hlook
        clear hp
        generalize (List.range j).filter K = A at *
        go_wp2_with fail
        go_roundw
        case rel => exact ⟨j + 1, a', c', by omega, by go_num, by rw [HF.out]; exact HO.out, by rw [HF.out]; exact HIN.out, HB.out, hsz⟩
        case measure => simp [intOf]; omega
    · have hj2 : j = 2 ^ m := by have := HW.out; have := HP.out; omega
      have HJ := Lib.hid hj2
      clear hj2
      have OR := Lib.hid ((show Out 0 (.slice none 0 0) w.heap.size (w.alloc (Obj.cells #[.int .i64 0, .slice none 0 0] 25)) from ⟨by simp [go_sem], by simp [go_sem], by simp [go_sem], by simp [go_sem]⟩).next HB.out (by omega))
      have e0 := HO.out.at0
      have e1 := HO.out.at1
      have r0 := OR.out.at0
      have r1 := OR.out.at1
      have q0 := OR.out.free0
      have q1 := OR.out.free1
      go_wp2_with fail
      refine bodyPost_ret (v := .agg #[.int .i64 (m : Int), .slice a' ((List.range j).filter K).length c']) (by simp [results, Tryd.results88, go_sem, r0, r1]) rfl ?_
      rw [← HJ.out]
      have HAl := toI_length ((List.range j).filter K)
      refine ⟨a', c', by rw [HAl], ?_, ?_⟩
      · rw [HAl]
        refine Ints.mono (B := w.heap.size + 1 + 1) ?_ (by omega)
        repeat (refine Ints.setCell_below ?_ (by simp; try omega) _)
        exact HIN.out
      · have hb0 : Below w.heap.size w wr := Below.trans (b := w.alloc (Obj.cells #[.int .i64 0, .slice none 0 0] 25)) (by go_grown) (HB.out.mono (by omega))
        clear e0 e1 r0 r1 q0 q1
        go_grown

end Go.Proofs.YthmipnflbiclbaaDoor

namespace Go.Proofs.YthmipnflbiclbaaDoor
open Go.RowKit

def conN (n : Int) (zs : List Int) (es : List (Int × Bool)) : Int := if vsB n zs es = true then n else 0
def conL (n : Int) (zs : List Int) (es : List (Int × Bool)) : List Int := if vsB n zs es = true then toI (nowTo (zs.map Int.toNat) es es.length) else []
theorem conL_len (n : Int) (zs : List Int) (es : List (Int × Bool)) : (conL n zs es).length ≤ 1048576 := by
  unfold conL
  split
  · rename_i hv
    have hvd : vldB n zs = true := by simp only [vsB, Bool.and_eq_true] at hv; exact hv.1
    obtain ⟨m, ns, rfl, rfl, hc⟩ := vldB_cls hvd
    rw [toI_length, toNat_toI]
    have := (nowTo_sub ns es es.length).2
    have := hc.length
    omega
  · simp
theorem nowTo_asc {ns : List Nat} (h : ns.Pairwise (· < ·)) (es : List (Int × Bool)) (k : Nat) : (nowTo ns es k).Pairwise (· < ·) := by
  induction k with
  | zero => exact h
  | succ k ih => exact ih.filter _
theorem range_mem {n : Nat} {l : List Nat} (ha : l.Pairwise (· < ·)) (hl : ∀ t ∈ l, t < n) : (List.range n).filter (fun s => decide (s ∈ l)) = l := by
  have h1 : ((List.range n).filter (fun s => decide (s ∈ l))).Pairwise (· < ·) := List.Pairwise.filter _ List.pairwise_lt_range
  have hp : List.Perm ((List.range n).filter (fun s => decide (s ∈ l))) l := by
    apply (List.perm_ext_iff_of_nodup (List.nodup_range.filter _) (ha.imp (fun h => Nat.ne_of_lt h))).2
    intro s
    rw [List.mem_filter, List.mem_range, decide_eq_true_eq]
    exact ⟨fun h => h.2, fun h => ⟨hl s h, h⟩⟩
  exact hp.eq_of_pairwise (fun a b _ _ h1 h2 => by omega) h1 ha

set_option maxHeartbeats 6400000 in
set_option maxRecDepth 100000 in
theorem implConsistentOf (n : Int) (v : Value) (zs : List Int) (u : Value) (es : List (Int × Bool)) (w : World) (h : Rd w v zs) (hu : RdE w u es) (hsw : SW w) :
    Calls Tryd.prog 35 #[.agg #[.int .i64 n, v], u] w (RetClass (conN n zs es) (conL n zs es) w) := by
  have H := Lib.hid h
  have HU := Lib.hid hu
  have HSW := Lib.hid hsw
  have HVS := Lib.hid (fun w h hu => implValidSample n v zs u es w h hu)
  obtain ⟨a, b, off, cap, rfl, _, _, _⟩ := h
  obtain ⟨a2, b2, off2, cap2, rfl, he1, _, he5⟩ := hu
  have HE1 := Lib.hid he1
  have HE5 := Lib.hid he5
  clear he1 he5 hsw
  by_cases hv : vsB n zs es = true
  · have hvd : vldB n zs = true := by simp only [vsB, Bool.and_eq_true] at hv; exact hv.1
    have hpt : ptsTo n es es.length = true := by simp only [vsB, Bool.and_eq_true] at hv; exact hv.2.2
    have h12 : es.length ≤ 12 := by simp only [vsB, Bool.and_eq_true, decide_eq_true_eq] at hv; exact hv.2.1
    have HV := Lib.hid hv
    obtain ⟨m, ns, rfl, rfl, hc⟩ := vldB_cls hvd
    have hm := hc.pts
    have HC := Lib.hid hc
    have hl := hc.length
    have HP := Lib.hid hpt
    have HN := Lib.hid (show conN m (toI ns) es = m by rw [conN, if_pos hv])
    have HT := Lib.hid (show conL m (toI ns) es = toI (nowTo ns es es.length) by rw [conL, if_pos hv, toNat_toI])
    have HR := Lib.hid (range_mem (n := 2 ^ m) (nowTo_asc hc.asc es es.length) (fun t ht => hc.lt t ((nowTo_sub ns es es.length).1 t ht)))
    rw [toI_length] at H HVS ⊢
    have OB := Lib.hid (show Out m (.slice a ns.length cap) w.heap.size ((w.alloc (Obj.cells #[.int .i64 (m : Int), .slice a ns.length cap] 25)).alloc (Obj.cells #[.int .i64 0, .slice none 0 0] 25)) from ⟨by simp [go_sem], by simp [go_sem], by simp [go_sem], by simp [go_sem]⟩)
    have OR := Lib.hid (show Out 0 (.slice none 0 0) (w.heap.size + 1) ((w.alloc (Obj.cells #[.int .i64 (m : Int), .slice a ns.length cap] 25)).alloc (Obj.cells #[.int .i64 0, .slice none 0 0] 25)) from ⟨by simp [go_sem], by simp [go_sem], by simp [go_sem], by simp [go_sem]⟩)
    clear hv hvd hpt hc
    go_enter Tryd.func35, Tryd.ntmps35
    go_wp2_with fail
    refine (HVS.out _ (H.out.below (k := w.heap.size) (by go_grown) (Nat.le_refl _)) (HU.out.below (k := w.heap.size) (by go_grown) (Nat.le_refl _))).mono ?_
    rintro e w1 ⟨rfl, hb⟩
    rw [HV.out]
    have hs1 : w.heap.size + 1 < w1.heap.size := by have := hb.size; simp at this; omega
    have OB1 := Lib.hid (OB.out.next hb (by simp only [World.size_alloc]; omega))
    have OR1 := Lib.hid (OR.out.next hb (by simp only [World.size_alloc]; omega))
    have HB1 := Lib.hid (show Below w.heap.size w w1 from Below.trans (by go_grown) (hb.mono (by simp; omega)))
    clear hb
    have R1 := Lib.hid (H.out.below HB1.out (Nat.le_refl _))
    have c0 := OB1.out.at0
    have c1 := OB1.out.at1
    go_wp2_with fail
    refine (implFamilyOf m _ ns HC.out.lt32 _ R1.out).mono ?_
    rintro e w2 ⟨rfl, hb2⟩
    have hs2 : w.heap.size + 1 < w2.heap.size := by have := hb2.size; omega
    have OB2 := Lib.hid (OB1.out.next hb2 (by omega))
    have OR2 := Lib.hid (OR1.out.next hb2 hs1)
    have HB2 := Lib.hid (HB1.out.trans (hb2.mono (by omega)))
    clear hb2 c0 c1
    go_wp2_with fail
    go_loopw [5, 17] (fun f i wr => ∃ k : Nat, k ≤ es.length ∧ i = .int .i64 k ∧ f = .int .u32 (fm (nowTo ns es k)) ∧ Below w2.heap.size w2 wr) (fun _ i _ => es.length - (intOf i).toNat)
    case atStart => exact ⟨0, Nat.zero_le _, rfl, rfl, Below.refl _ _⟩
    case round =>
      obtain ⟨k, hk, rfl, rfl, hbe⟩ := hrel
      have BE := Lib.hid hbe
      have hz := hbe.size
      have HBW := Lib.hid (HB2.out.trans (hbe.mono (by omega)))
      have SW2 := Lib.hid (HSW.out.next HBW.out)
      clear hbe
      by_cases hlt : k < es.length
      · obtain ⟨rfl, hbl⟩ := HE1.out (by omega)
        have hc0 := (HBW.out.cell (p := ⟨b2, off2 + k * 2, none⟩) hbl).trans (HE5.out k hlt).1
        have hc1 := (HBW.out.cell (p := ⟨b2, off2 + k * 2 + 1, none⟩) hbl).trans (HE5.out k hlt).2
        obtain ⟨hp0, hp1⟩ := pts_at HP.out hlt
        have HE := Lib.hid (show es.getD k (0, false) = ((es.getD k (0, false)).1, (es.getD k (0, false)).2) from rfl)
        have HNS := Lib.hid (show nowTo ns es (k + 1) = kp (nowTo ns es k) (es.getD k (0, false)) from rfl)
        rw [HE.out] at HNS
        obtain ⟨x, hx⟩ := Int.eq_ofNat_of_zero_le hp0
        rw [hx] at hc0 hp0 hp1 HNS
        generalize (es.getD k (0, false)).2 = lb at *
        have hx5 : x < 5 := by omega
        clear hx HE
        generalize nowTo ns es k = L at *
        have HF := Lib.hid (fun w h => implFitting L x lb hx5 w h)
        have EX := Lib.hid (show Below wr.heap.size wr (wr.alloc (Obj.cells #[.int .i64 (x : Int), .bool lb] 92)) from (Below.refl _ _).alloc (Nat.le_refl _) _)
        have EZ := Lib.hid (show wr.heap.size < (wr.alloc (Obj.cells #[.int .i64 (x : Int), .bool lb] 92)).heap.size by simp)
        have e0 := (show (wr.alloc (Obj.cells #[.int .i64 (x : Int), .bool lb] 92)).cell? ⟨wr.heap.size, 0, none⟩ = some (.int .i64 (x : Int)) by simp [go_sem])
        have e1 := (show (wr.alloc (Obj.cells #[.int .i64 (x : Int), .bool lb] 92)).cell? ⟨wr.heap.size, 1, none⟩ = some (.bool lb) by simp [go_sem])
        have HSE := Lib.hid (SW2.out.next EX.out)
        go_wp2_with fail
        generalize (wr.alloc (Obj.cells #[.int .i64 (x : Int), .bool lb] 92)) = we at *
        refine (HF.out _ HSE.out).mono ?_
        rintro e w6 ⟨rfl, hb6⟩
        have B6 := Lib.hid (EX.out.trans (hb6.mono (Nat.le_of_lt EZ.out)))
        clear hb6 e0 e1
        go_wp2_with fail
        go_roundw
        case rel => exact ⟨k + 1, by omega, by go_num, by rw [HNS.out], BE.out.trans (B6.out.mono hz)⟩
        case measure => simp [intOf]; omega
      · obtain rfl : k = es.length := by omega
        have OB3 := Lib.hid (OB2.out.next BE.out (by omega))
        have OR3 := Lib.hid (OR2.out.next BE.out hs2)
        have HFC := Lib.hid (fun w => implFamClass m hm (nowTo ns es es.length) w)
        rw [HR.out] at HFC
        generalize nowTo ns es es.length = L at *
        have d0 := OB3.out.at0
        have d1 := OB3.out.at1
        have hs3 : w.heap.size + 1 < wr.heap.size := by omega
        go_wp2_with fail
        refine (HFC.out _).mono ?_
        rintro e w4 ⟨a4, c4, rfl, hin4, hb4⟩
        have hz4 := hb4.size
        have OR4 := Lib.hid (OR3.out.next hb4 (by omega))
        have HIN := Lib.hid hin4
        have HB4 := Lib.hid (show Below w.heap.size w w4 from HBW.out.trans (hb4.mono (by omega)))
        clear hin4 hb4 d0 d1
        have r0 := OR4.out.at0
        have r1 := OR4.out.at1
        have q0 := OR4.out.free0
        have q1 := OR4.out.free1
        go_wp2_with fail
        refine bodyPost_ret (v := .agg #[.int .i64 (m : Int), .slice a4 (toI L).length c4]) (by simp [results, Tryd.results35, go_sem, r0, r1]) rfl ?_
        rw [HN.out, HT.out]
        refine ⟨a4, c4, rfl, ?_, ?_⟩
        · refine Ints.mono (B := wr.heap.size) ?_ (by omega)
          repeat (refine Ints.setCell_below ?_ (by simp; omega) _)
          exact HIN.out
        · have hb0 := HB4.out
          clear r0 r1 q0 q1
          go_grown
  · have HN := Lib.hid (show conN n zs es = 0 by rw [conN, if_neg hv])
    have HT := Lib.hid (show conL n zs es = [] by rw [conL, if_neg hv])
    rw [Bool.not_eq_true] at hv
    have HV := Lib.hid hv
    clear hv
    go_enter Tryd.func35, Tryd.ntmps35
    go_wp2_with fail
    refine (HVS.out _ (H.out.below (k := w.heap.size) (by go_grown) (Nat.le_refl _)) (HU.out.below (k := w.heap.size) (by go_grown) (Nat.le_refl _))).mono ?_
    rintro e w1 ⟨rfl, hb⟩
    rw [HV.out]
    obtain ⟨hc, hf⟩ := bcell hb
    have Hb := Lib.hid hb
    clear hb
    go_wp2_with fail
    refine bodyPost_ret (v := .agg #[.int .i64 0, .slice none 0 0]) (by simp [results, Tryd.results35, go_sem, hc]) rfl ?_
    rw [HN.out, HT.out]
    refine ⟨none, 0, rfl, Ints.nil _ _, ?_⟩
    have hb0 : Below w.heap.size w w1 := Below.trans (by go_grown) (Hb.out.mono (by simp; omega))
    clear hc hf
    go_grown

end Go.Proofs.YthmipnflbiclbaaDoor
