/- Slices of examples: read, made anew, compared. Conditions: at most 1048576 of them. -/
import Derived.Deep.RegionHeld3
import Derived.Test.YtlnnoeicboamgaaDoorZA
namespace Go.Proofs.YtlnnoeicboamgaaDoor
open Go.RowKit

theorem info5 : (Tryd.prog.info? 62).map (fun i => (i.zero, i.size, i.bytes)) = some (some (.agg #[.int .i64 0, .bool false]), 2, 16) := by kernel_rfl

/-- the slice v, wherever it lies, reads as the examples es -/
def RdE (w : World) (v : Value) (es : List (Int × Bool)) : Prop :=
  ∃ (a : Option Addr) (b off cap : Nat), v = .slice a es.length cap ∧ (0 < es.length → a = some ⟨b, off, none⟩ ∧ b < w.heap.size) ∧ es.length ≤ 9223372036854775807 ∧
    ∀ j, j < es.length → w.cell? ⟨b, off + j * 2, none⟩ = some (.int .i64 (es.getD j (0, false)).1) ∧ w.cell? ⟨b, off + j * 2 + 1, none⟩ = some (.bool (es.getD j (0, false)).2)

theorem RdE.below {k : Nat} {w w' : World} {v : Value} {es : List (Int × Bool)} (h : RdE w v es) (hb : Below k w w') (hk : w.heap.size ≤ k) : RdE w' v es := by
  obtain ⟨a, b, off, cap, e, h1, h3, h5⟩ := h
  refine ⟨a, b, off, cap, e, fun h => ⟨(h1 h).1, Nat.lt_of_lt_of_le (h1 h).2 hb.size⟩, h3, fun j hj => ?_⟩
  have hlt : b < k := Nat.lt_of_lt_of_le (h1 (by omega)).2 hk
  rw [hb.cell (p := ⟨b, off + j * 2, none⟩) hlt, hb.cell (p := ⟨b, off + j * 2 + 1, none⟩) hlt]
  exact h5 j hj

/-- the cells of examples -/
def flatE (es : List (Int × Bool)) : List Value := es.flatMap (fun e => [.int .i64 e.1, .bool e.2])
theorem flatE_length (es : List (Int × Bool)) : (flatE es).length = es.length * 2 := by
  induction es with
  | nil => rfl
  | cons e es ih => simp [flatE] at ih ⊢; omega
theorem flatE_at (es : List (Int × Bool)) (k : Nat) (hk : k < es.length) : (flatE es)[k * 2]? = some (.int .i64 (es.getD k (0, false)).1) ∧ (flatE es)[k * 2 + 1]? = some (.bool (es.getD k (0, false)).2) := by
  induction es generalizing k with
  | nil => simp at hk
  | cons e es ih =>
    cases k with
    | zero => simp [flatE]
    | succ k =>
      have := ih k (by simpa using hk)
      have e1 : flatE (e :: es) = .int .i64 e.1 :: .bool e.2 :: flatE es := rfl
      rw [e1, show (k + 1) * 2 = k * 2 + 1 + 1 by omega]
      simpa using this

/-- the slice v is owned from block B on and reads as es -/
def ExS (B : Nat) (w : World) (v : Value) (es : List (Int × Bool)) : Prop := w.ownsRow B 62 2 v es.length (flatE es)
theorem ExS.below {B k : Nat} {w w' : World} {v : Value} {es : List (Int × Bool)} (h : ExS B w v es) (hb : Below k w w') (hk : w.heap.size ≤ k) : ExS B w' v es := by
  refine ⟨h.1, ?_⟩
  rcases h.2 with h2 | ⟨g, cap, cur, e, hB, hg, r⟩
  · exact .inl h2
  · refine .inr ⟨g, cap, cur, e, hB, ?_, r⟩
    rw [hb.block g (Nat.lt_of_lt_of_le (Array.getElem?_eq_some_iff.1 hg).1 hk)]
    exact hg
theorem ExS.rd {B : Nat} {w : World} {v : Value} {es : List (Int × Bool)} (h : ExS B w v es) : RdE w v es := by
  have h' := h
  rcases h.2 with ⟨rfl, hn⟩ | ⟨g, cap, cur, rfl, hb, hg, hnc, hcm, hcs, htake⟩
  · have : es = [] := List.eq_nil_of_length_eq_zero hn
    subst this
    exact ⟨none, 0, 0, 0, rfl, fun h => by simp at h, by simp, fun j hj => by simp at hj⟩
  · refine ⟨some ⟨g, 0, none⟩, g, 0, cap, rfl, fun _ => ⟨rfl, (Array.getElem?_eq_some_iff.1 hg).1⟩, by unfold maxLen at hcm; omega, fun j hj => ?_⟩
    have e := flatE_at es j hj
    rw [Nat.zero_add, World.ownsRow.cellAt h' (j * 2) (by omega), World.ownsRow.cellAt h' (j * 2 + 1) (by omega)]
    exact e

/-- what a call answers whose result is examples of its own -/
def RetEx (es : List (Int × Bool)) (w : World) (e : Ending) (w' : World) : Prop :=
  ∃ a cap, e = .returned (.slice a es.length cap) ∧ ExS w.heap.size w' (.slice a es.length cap) es ∧ Below w.heap.size w w'

set_option maxHeartbeats 800000 in
theorem szExS (a : Option Addr) (n cap : Nat) (left : Int) (w : World) (h0 : 0 ≤ left) (h1 : left ≤ 1048576) (hn : n ≤ 9223372036854775807) :
    Calls Tryd.prog 10 #[.slice a n cap, .int .i64 left] w fun e w' => e = .returned (.int .i64 (if left < n then -1 else left - n)) ∧ w' = w := by
  by_cases h : left < n
  · rw [if_pos h]
    have hd : decide (left - (n : Int) < 0) = true := decide_eq_true (by omega)
    go_enter Tryd.func10, Tryd.ntmps10
    go_wp2_with fail
    go_ret
    exact ⟨rfl, rfl⟩
  · rw [if_neg h]
    have hd : decide (left - (n : Int) < 0) = false := decide_eq_false (by omega)
    go_enter Tryd.func10, Tryd.ntmps10
    go_wp2_with fail
    go_ret
    exact ⟨rfl, rfl⟩

set_option maxHeartbeats 800000 in
theorem toEx (p : Int) (l : Bool) (w : World) :
    Calls Tryd.prog 44 #[.agg #[.int .i64 p, .bool l]] w fun e w' => e = .returned (.agg #[.int .i64 p, .bool l]) ∧ Below w.heap.size w w' := by
  go_enter Tryd.func44, Tryd.ntmps44
  go_wp2_with fail
  refine bodyPost_ret (v := .agg #[.int .i64 p, .bool l]) (by simp [results, Tryd.results44, go_sem]) rfl ?_
  exact ⟨rfl, by go_grown⟩

set_option maxHeartbeats 800000 in
theorem eqEx (p q : Int) (l m : Bool) (w : World) :
    Calls Tryd.prog 48 #[.agg #[.int .i64 p, .bool l], .agg #[.int .i64 q, .bool m]] w fun e w' => e = .returned (.bool (decide ((p, l) = (q, m)))) ∧ Below w.heap.size w w' := by
  by_cases h : p = q
  · subst h
    cases l <;> cases m
    all_goals
      go_enter Tryd.func48, Tryd.ntmps48
      go_wp2_with fail
      go_ret
      exact ⟨ret_bool (by simp), by go_grown⟩
  · have hb : (p != q) = true := by simpa using h
    go_enter Tryd.func48, Tryd.ntmps48
    go_wp2_with fail
    go_ret
    exact ⟨ret_bool (by simp [h]), by go_grown⟩

theorem flat_ext {xs : List Value} {es : List (Int × Bool)} (hl : xs.length = es.length * 2) (h : ∀ j, j < es.length → xs[j * 2]? = some (.int .i64 (es.getD j (0, false)).1) ∧ xs[j * 2 + 1]? = some (.bool (es.getD j (0, false)).2)) : xs = flatE es := by
  apply List.ext_getElem?
  intro i
  by_cases hi : i < es.length * 2
  · have e := flatE_at es (i / 2) (by omega)
    have e2 := h (i / 2) (by omega)
    rcases (show i = i / 2 * 2 ∨ i = i / 2 * 2 + 1 by omega) with hc | hc
    · rw [hc, e.1, e2.1]
    · rw [hc, e.2, e2.2]
  · rw [List.getElem?_eq_none (by omega), List.getElem?_eq_none (by rw [flatE_length]; omega)]

set_option maxHeartbeats 1600000 in
set_option maxRecDepth 100000 in
theorem toExS (v : Value) (es : List (Int × Bool)) (w : World) (h : RdE w v es) (hn : es.length ≤ 1048576) :
    Calls Tryd.prog 14 #[v] w (RetEx es w) := by
  obtain ⟨a, b, off, cap, rfl, h1, h3, h5⟩ := h
  obtain ⟨i0, hi, hz0, hz1, hz2⟩ := info_parts info5
  have H5 := Lib.hid h5
  have H1 := Lib.hid h1
  have Hz2 := Lib.hid hz2
  clear h5 h3 h1 hz2
  go_enter Tryd.func14, Tryd.ntmps14
  go_wp2_with (at_make; refine wpList_make_full _ rfl _ _ 33 rfl w.heap.size 62 i0 (.agg #[.int .i64 0, .bool false]) 2 Tryd.underlying33 hi hz0 hz1 _ _ _ _ es.length rfl rfl rfl rfl (by rw [Hz2.out]; omega) (by unfold maxLen; omega) (Nat.le_refl _) ?_; intro w1 hown hgrow)
  have HO := Lib.hid hown
  have hb1 : Below w.heap.size w w1 := (Below.refl _ _).grown hgrow (Nat.le_refl _) (fun k hk => by simp at hk)
  have HB1 := Lib.hid hb1
  clear hown hgrow hi hz0 hz1 hb1
  go_loopw [4] (fun i wr => ∃ (k : Nat) (xs : List Value), k ≤ es.length ∧ i = .int .i64 k ∧ wr.ownsRow w.heap.size 62 2 (.slice (some ⟨w.heap.size, 0, none⟩) es.length es.length) es.length xs ∧ Hid (∀ j, j < k → xs[j * 2]? = some (.int .i64 (es.getD j (0, false)).1) ∧ xs[j * 2 + 1]? = some (.bool (es.getD j (0, false)).2)) ∧ Below w.heap.size w wr) (fun i _ => es.length - (intOf i).toNat)
  case atStart => exact ⟨0, _, Nat.zero_le _, rfl, HO.out, Lib.hid fun j hj => by omega, HB1.out⟩
  case round =>
    obtain ⟨k, xs, hk, rfl, hown, HX, hbk⟩ := hrel
    have HW := Lib.hid hown
    have Hbk := Lib.hid hbk
    have hxl := hown.1
    have hwz : w.heap.size < wr.heap.size ∨ es.length = 0 := by
      rcases hown.2 with ⟨e, _⟩ | ⟨g, cp, cu, e, _, hg, _⟩
      · simp at e
      · simp only [Value.slice.injEq, Option.some.injEq, Addr.mk.injEq] at e
        obtain ⟨⟨rfl, _⟩, _⟩ := e
        exact .inl (Array.getElem?_eq_some_iff.1 hg).1
    clear hown hbk
    by_cases hlt : k < es.length
    · obtain ⟨rfl, hbl⟩ := H1.out (by omega)
      have hc0 := (Hbk.out.cell (p := ⟨b, off + k * 2, none⟩) hbl).trans (H5.out k hlt).1
      have hc1 := (Hbk.out.cell (p := ⟨b, off + k * 2 + 1, none⟩) hbl).trans (H5.out k hlt).2
      have HE := Lib.hid (show es.getD k (0, false) = ((es.getD k (0, false)).1, (es.getD k (0, false)).2) from rfl)
      generalize (es.getD k (0, false)).1 = p at *
      generalize (es.getD k (0, false)).2 = l at *
      go_wp2_with fail
      refine (toEx p l _).mono ?_
      rintro e w5 ⟨rfl, hb5⟩
      have HW5 := Lib.hid (show w5.ownsRow w.heap.size 62 2 (.slice (some ⟨w.heap.size, 0, none⟩) es.length es.length) es.length xs from by
        refine ⟨HW.out.1, ?_⟩
        rcases HW.out.2 with h2 | ⟨g, cp, cu, e, hB, hg, r⟩
        · exact .inl h2
        · refine .inr ⟨g, cp, cu, e, hB, ?_, r⟩
          rw [hb5.block g (Array.getElem?_eq_some_iff.1 hg).1]
          exact hg)
      have hz5 := hb5.size
      have B5 := Lib.hid (Hbk.out.trans (hb5.mono (show w.heap.size ≤ wr.heap.size from Hbk.out.size)))
      have S1 := Lib.hid (World.ownsRow.stored HW5.out (k * 2) (.int .i64 p)).1
      have S2 := Lib.hid (World.ownsRow.stored S1.out (k * 2 + 1) (.bool l)).1
      obtain ⟨u0, hu0⟩ : ∃ u, xs[k * 2]? = some u := ⟨xs[k * 2], List.getElem?_eq_getElem (by omega)⟩
      obtain ⟨u1, hu1⟩ : ∃ u, xs[k * 2 + 1]? = some u := ⟨xs[k * 2 + 1], List.getElem?_eq_getElem (by omega)⟩
      have X0 := (World.ownsRow.cellAt HW5.out (k * 2) (by omega)).trans hu0
      have X1 := (World.ownsRow.cellAt HW5.out (k * 2 + 1) (by omega)).trans hu1
      obtain ⟨F0, F1⟩ : w5.frozen? ⟨w.heap.size, k * 2, none⟩ = false ∧ w5.frozen? ⟨w.heap.size, k * 2 + 1, none⟩ = false := by
        rcases HW5.out.2 with ⟨e, _⟩ | ⟨g, cp, cu, e, _, hg, _⟩
        · simp at e
        · simp only [Value.slice.injEq, Option.some.injEq, Addr.mk.injEq] at e
          obtain ⟨⟨rfl, _⟩, _⟩ := e
          exact ⟨frozen_of_row _ _ _ _ _ hg, frozen_of_row _ _ _ _ _ hg⟩
      have HXN := Lib.hid (show ∀ j, j < k + 1 → ((xs.set (k * 2) (Value.int .i64 p)).set (k * 2 + 1) (Value.bool l))[j * 2]? = some (.int .i64 (es.getD j (0, false)).1) ∧ ((xs.set (k * 2) (Value.int .i64 p)).set (k * 2 + 1) (Value.bool l))[j * 2 + 1]? = some (.bool (es.getD j (0, false)).2) from by
        intro j hj
        by_cases e : j = k
        · subst e
          rw [HE.out]
          refine ⟨?_, ?_⟩
          · rw [List.getElem?_set_ne (by omega), List.getElem?_set_self (by omega)]
          · rw [List.getElem?_set_self (by simp; omega)]
        · have := HX.out j (by omega)
          rw [List.getElem?_set_ne (by omega), List.getElem?_set_ne (by omega), List.getElem?_set_ne (by omega), List.getElem?_set_ne (by omega)]
          exact this)
      clear hu0 hu1
      go_wp2_with fail
      go_roundw
      case rel => exact ⟨k + 1, _, by omega, by go_num, S2.out, HXN, (B5.out.setCell (Nat.le_refl _) _).setCell (Nat.le_refl _) _⟩
      case measure => simp [intOf]; omega
    · obtain rfl : k = es.length := by omega
      have hxs := flat_ext hxl HX.out
      subst hxs
      go_wp2_with fail
      go_ret
      exact ⟨_, _, rfl, HW.out, Hbk.out⟩

/-- are the first n the same? -/
def eqToE (za zb : List (Int × Bool)) (n : Nat) : Prop := ∀ j, j < n → za.getD j (0, false) = zb.getD j (0, false)

set_option maxHeartbeats 1600000 in
set_option maxRecDepth 100000 in
theorem eqExSame (va vb : Value) (es : List (Int × Bool)) (w : World) (ha : RdE w va es) (hb : RdE w vb es) :
    Calls Tryd.prog 18 #[va, vb] w fun e w' => e = .returned (.bool true) ∧ Below w.heap.size w w' := by
  obtain ⟨a, ga, oa, ca, rfl, ha1, ha3, ha5⟩ := ha
  obtain ⟨b, gb, ob, cb, rfl, hb1, _, hb5⟩ := hb
  have HA1 := Lib.hid ha1
  have HA5 := Lib.hid ha5
  have HB1 := Lib.hid hb1
  have HB5 := Lib.hid hb5
  clear ha1 ha5 hb1 hb5
  generalize hn : es.length = n at *
  clear hn
  go_enter Tryd.func18, Tryd.ntmps18
  go_wp2_with fail
  go_loopw [5] (fun i wr => ∃ k : Nat, k ≤ n ∧ i = .int .i64 k ∧ Below w.heap.size w wr) (fun i _ => n - (intOf i).toNat)
  case atStart => exact ⟨0, Nat.zero_le _, rfl, Below.refl _ _⟩
  case round =>
    obtain ⟨k, hk, rfl, hbe⟩ := hrel
    have HBE := Lib.hid hbe
    have hz := hbe.size
    clear hbe
    by_cases hlt : k < n
    · obtain ⟨rfl, hla⟩ := HA1.out (by omega)
      obtain ⟨rfl, hlb⟩ := HB1.out (by omega)
      have c0 := (HBE.out.cell (p := ⟨ga, oa + k * 2, none⟩) hla).trans (HA5.out k hlt).1
      have c1 := (HBE.out.cell (p := ⟨ga, oa + k * 2 + 1, none⟩) hla).trans (HA5.out k hlt).2
      have d0 := (HBE.out.cell (p := ⟨gb, ob + k * 2, none⟩) hlb).trans (HB5.out k hlt).1
      have d1 := (HBE.out.cell (p := ⟨gb, ob + k * 2 + 1, none⟩) hlb).trans (HB5.out k hlt).2
      generalize (es.getD k (0, false)).1 = p at *
      generalize (es.getD k (0, false)).2 = l at *
      have hkI : (k : Int) < (n : Int) := by omega
      have HQ := Lib.hid (fun w => eqEx p p l l w)
      rw [show decide ((p, l) = (p, l)) = true by simp] at HQ
      go_wp2_with fail
      go_region_held3 (fun w' => (w'.cell? ⟨ga, oa + k * 2, none⟩ = some (.int .i64 p) ∧ w'.cell? ⟨ga, oa + k * 2 + 1, none⟩ = some (.bool l)) ∧ w'.cell? ⟨gb, ob + k * 2, none⟩ = some (.int .i64 p) ∧ w'.cell? ⟨gb, ob + k * 2 + 1, none⟩ = some (.bool l)) (first | exact ⟨⟨c0, c1⟩, d0, d1⟩ | exact ⟨⟨x0, x1⟩, y0, y1⟩ | go_keep) (first | (go_at_call 48; refine (HQ.out _).mono ?_; rintro e w4 ⟨rfl, hb4⟩; have hb34 : Below wr.heap.size wr w4 := Below.trans (by first | exact Below.refl _ _ | exact (Below.refl _ _).drew) hb4; have B34 := Lib.hid hb34; have x0 := (hb34.cell (p := ⟨ga, oa + k * 2, none⟩) (by show ga < wr.heap.size; omega)).trans c0; have x1 := (hb34.cell (p := ⟨ga, oa + k * 2 + 1, none⟩) (by show ga < wr.heap.size; omega)).trans c1; have y0 := (hb34.cell (p := ⟨gb, ob + k * 2, none⟩) (by show gb < wr.heap.size; omega)).trans d0; have y1 := (hb34.cell (p := ⟨gb, ob + k * 2 + 1, none⟩) (by show gb < wr.heap.size; omega)).trans d1; clear hb4 hb34))
      go_wp2_with fail
      go_roundw
      case rel => exact ⟨k + 1, by omega, by go_num, HBE.out.trans (B34.out.mono hz)⟩
      case measure => simp [intOf]; omega
    · obtain rfl : k = n := by omega
      go_wp2_with fail
      go_ret
      exact ⟨rfl, HBE.out⟩

end Go.Proofs.YtlnnoeicboamgaaDoor
