/- Slices of examples: read, made anew, compared. Conditions: at most 1048576 of them. ValidSample, the program's and the model's. Conditions: Sets is a slice of ints, the list one of examples. The sets that fit an example: fitting. Conditions: the point is one of five; the table setsWith is laid. OptimalRun, the program's and the model's. Conditions: Sets is a slice of ints, the list one of examples; the table setsWith is laid. The model's members. Conditions: ascending sets of n points. MembershipDepth, the program's and the model's. Conditions: Sets is a slice of ints; the table setsWith is laid. FirstQuestion, the program's and the model's. Conditions: Sets is a slice of ints; the table setsWith is laid. The worst run, as lists: what is left, and which examples are told. No program. The program's class of a family. No conditions. ConsistentOf, the program's. Conditions: Sets is a slice of ints, the list one of examples; the table setsWith is laid. The mathematics of FnFirstQuestion: a first question parts the sets, and its parts want one question less. Conditions: the class is valid. -/
import Derived.Deep.RegionHeld3
import Derived.Deep.RegionWith
import Derived.Test.YtiocaopabkbgpaaDoorSett
import Derived.Test.YtiocaopabkbgpaaDoorZA
import Derived.Test.YtiocaopabkbgpaaDoorZB
import Derived.Test.YtiocaopabkbgpaaDoorZD
import Derived.Test.YtiocaopabkbgpaaDoorZH
import Derived.Test.YtiocaopabkbgpaaDoorZL
namespace Go.Proofs.YtiocaopabkbgpaaDoor
open Go.RowKit

theorem info5 : (Tryd.prog.info? 59).map (fun i => (i.zero, i.size, i.bytes)) = some (some (.agg #[.int .i64 0, .bool false]), 2, 16) := by kernel_rfl

/-- the slice v, wherever it lies, reads as the examples es -/
def RdE (w : World) (v : Value) (es : List (Int × Bool)) : Prop :=
  ∃ (a : Option Addr) (b off cap : Nat), v = .slice a es.length cap ∧ (0 < es.length → a = some ⟨b, off, none⟩ ∧ b < w.heap.size) ∧ es.length ≤ 9223372036854775807 ∧
    ∀ j, j < es.length → w.cell? ⟨b, off + j * 2, none⟩ = some (.int .i64 (es.getD j (0, false)).1) ∧ w.cell? ⟨b, off + j * 2 + 1, none⟩ = some (.bool (es.getD j (0, false)).2)

theorem RdE.below {k : Nat} {w w' : World} {v : Value} {es : List (Int × Bool)} (h : RdE w v es) (hb : Below k w w') (hk : w.heap.size ≤ k) : RdE w' v es := by
  obtain ⟨a, b, off, cap, e, h1, h3, h5⟩ := h
  refine ⟨a, b, off, cap, e, fun h => ⟨(h1 h).1, Nat.lt_of_lt_of_le (h1 h).2 hb.size⟩, h3, fun j hj => ?_⟩
  have hlt : b < k := Nat.lt_of_lt_of_le (h1 (by omega)).2 hk
  rw [hb.cell (p := ⟨b, off + j * 2, none⟩) hlt, hb.cell (p := ⟨b, off + j * 2 + 1, none⟩) hlt]
  exact h5 j hj

/-- the cells of examples -/
def flatE (es : List (Int × Bool)) : List Value := es.flatMap (fun e => [.int .i64 e.1, .bool e.2])
theorem flatE_length (es : List (Int × Bool)) : (flatE es).length = es.length * 2 := by
  induction es with
  | nil => rfl
  | cons e es ih => simp [flatE] at ih ⊢; omega
theorem flatE_at (es : List (Int × Bool)) (k : Nat) (hk : k < es.length) : (flatE es)[k * 2]? = some (.int .i64 (es.getD k (0, false)).1) ∧ (flatE es)[k * 2 + 1]? = some (.bool (es.getD k (0, false)).2) := by
  induction es generalizing k with
  | nil => simp at hk
  | cons e es ih =>
    cases k with
    | zero => simp [flatE]
    | succ k =>
      have := ih k (by simpa using hk)
      have e1 : flatE (e :: es) = .int .i64 e.1 :: .bool e.2 :: flatE es := rfl
      rw [e1, show (k + 1) * 2 = k * 2 + 1 + 1 by omega]
      simpa using this

/-- the slice v is owned from block B on and reads as es -/
def ExS (B : Nat) (w : World) (v : Value) (es : List (Int × Bool)) : Prop := w.ownsRow B 59 2 v es.length (flatE es)
theorem ExS.below {B k : Nat} {w w' : World} {v : Value} {es : List (Int × Bool)} (h : ExS B w v es) (hb : Below k w w') (hk : w.heap.size ≤ k) : ExS B w' v es := by
  refine ⟨h.1, ?_⟩
  rcases h.2 with h2 | ⟨g, cap, cur, e, hB, hg, r⟩
  · exact .inl h2
  · refine .inr ⟨g, cap, cur, e, hB, ?_, r⟩
    rw [hb.block g (Nat.lt_of_lt_of_le (Array.getElem?_eq_some_iff.1 hg).1 hk)]
    exact hg
theorem ExS.rd {B : Nat} {w : World} {v : Value} {es : List (Int × Bool)} (h : ExS B w v es) : RdE w v es := by
  have h' := h
  rcases h.2 with ⟨rfl, hn⟩ | ⟨g, cap, cur, rfl, hb, hg, hnc, hcm, hcs, htake⟩
  · have : es = [] := List.eq_nil_of_length_eq_zero hn
    subst this
    exact ⟨none, 0, 0, 0, rfl, fun h => by simp at h, by simp, fun j hj => by simp at hj⟩
  · refine ⟨some ⟨g, 0, none⟩, g, 0, cap, rfl, fun _ => ⟨rfl, (Array.getElem?_eq_some_iff.1 hg).1⟩, by unfold maxLen at hcm; omega, fun j hj => ?_⟩
    have e := flatE_at es j hj
    rw [Nat.zero_add, World.ownsRow.cellAt h' (j * 2) (by omega), World.ownsRow.cellAt h' (j * 2 + 1) (by omega)]
    exact e

/-- what a call answers whose result is examples of its own -/
def RetEx (es : List (Int × Bool)) (w : World) (e : Ending) (w' : World) : Prop :=
  ∃ a cap, e = .returned (.slice a es.length cap) ∧ ExS w.heap.size w' (.slice a es.length cap) es ∧ Below w.heap.size w w'




theorem flat_ext {xs : List Value} {es : List (Int × Bool)} (hl : xs.length = es.length * 2) (h : ∀ j, j < es.length → xs[j * 2]? = some (.int .i64 (es.getD j (0, false)).1) ∧ xs[j * 2 + 1]? = some (.bool (es.getD j (0, false)).2)) : xs = flatE es := by
  apply List.ext_getElem?
  intro i
  by_cases hi : i < es.length * 2
  · have e := flatE_at es (i / 2) (by omega)
    have e2 := h (i / 2) (by omega)
    rcases (show i = i / 2 * 2 ∨ i = i / 2 * 2 + 1 by omega) with hc | hc
    · rw [hc, e.1, e2.1]
    · rw [hc, e.2, e2.2]
  · rw [List.getElem?_eq_none (by omega), List.getElem?_eq_none (by rw [flatE_length]; omega)]


/-- are the first n the same? -/
def eqToE (za zb : List (Int × Bool)) (n : Nat) : Prop := ∀ j, j < n → za.getD j (0, false) = zb.getD j (0, false)


end Go.Proofs.YtiocaopabkbgpaaDoor

namespace Go.Proofs.YtiocaopabkbgpaaDoor
open Go.RowKit

/-- are all points of the first k in 0..n-1? -/
def ptsTo (n : Int) (es : List (Int × Bool)) (k : Nat) : Bool := (List.range k).all (fun j => decide (0 ≤ (es.getD j (0, false)).1) && decide ((es.getD j (0, false)).1 < n))
theorem ptsTo_yes {n : Int} {es : List (Int × Bool)} {k : Nat} (h : ptsTo n es k = true) (h1 : 0 ≤ (es.getD k (0, false)).1) (h2 : (es.getD k (0, false)).1 < n) : ptsTo n es (k + 1) = true := by
  simp only [ptsTo, List.range_succ, List.all_append, List.all_cons, List.all_nil, Bool.and_true, Bool.and_eq_true, decide_eq_true_eq] at h ⊢
  exact ⟨h, h1, h2⟩
theorem ptsTo_no {n : Int} {es : List (Int × Bool)} {k m : Nat} (hk : k < m) (h : ¬ (0 ≤ (es.getD k (0, false)).1 ∧ (es.getD k (0, false)).1 < n)) : ptsTo n es m = false := by
  rw [← Bool.not_eq_true]
  intro hh
  simp only [ptsTo, List.all_eq_true, List.mem_range, Bool.and_eq_true, decide_eq_true_eq] at hh
  exact h (hh k hk)
/-- ValidSample's answer -/
def vsB (n : Int) (zs : List Int) (es : List (Int × Bool)) : Bool := vldB n zs && (decide (es.length ≤ 12) && ptsTo n es es.length)
theorem vsB_bad {n : Int} {zs : List Int} {es : List (Int × Bool)} (h : vldB n zs = false) : vsB n zs es = false := by simp [vsB, h]
theorem vsB_in {n : Int} {zs : List Int} {es : List (Int × Bool)} (h : vldB n zs = true) : vsB n zs es = (decide (es.length ≤ 12) && ptsTo n es es.length) := by simp [vsB, h]

set_option maxHeartbeats 800000 in
theorem specSample (m : Nat) (hm : m ≤ 5) (v : Value) (es : List (Int × Bool)) (w : World) (h : RdE w v es) :
    Calls Tryd.prog 53 #[.int .i64 (m : Int), v] w fun e w' => e = .returned (.bool (decide (es.length ≤ 12) && ptsTo m es es.length)) ∧ w' = w := by
  obtain ⟨a, b, off, cap, rfl, h1, h3, h5⟩ := h
  have H5 := Lib.hid h5
  have H1 := Lib.hid h1
  clear h5 h1
  go_enter Tryd.func53, Tryd.ntmps53
  go_wp2_with fail
  go_loop [5] (fun i => ∃ k : Nat, k ≤ es.length ∧ i = .int .i64 k ∧ ptsTo m es k = true) (fun i => es.length - (intOf i).toNat)
  case atStart => exact ⟨0, Nat.zero_le _, rfl, rfl⟩
  case round =>
    obtain ⟨k, hk, rfl, hp⟩ := hrel
    have HP := Lib.hid hp
    clear hp
    by_cases hlt : k < es.length
    · obtain ⟨rfl, _⟩ := H1.out (by omega)
      have hc := (H5.out k hlt).1
      have HY := Lib.hid (fun h1 h2 => ptsTo_yes HP.out h1 h2)
      have HN := Lib.hid (fun h => ptsTo_no (n := m) (es := es) (m := es.length) hlt h)
      generalize (es.getD k (0, false)).1 = p at *
      by_cases hq : 0 ≤ p ∧ p < m
      · have HB := Lib.hid (show (decide ((0 : Int) ≤ p) && decide (p ≤ (m : Int) - 1)) = true by simp; omega)
        have HR := Lib.hid (HY.out hq.1 hq.2)
        clear hq
        go_wp2_with fail
        refine (specInRange _ _ _ _).mono ?_
        rintro e w1 ⟨rfl, rfl⟩
        rw [HB.out]
        go_wp2_with fail
        go_round
        case rel => exact ⟨k + 1, by omega, by go_num, HR.out⟩
        case measure => simp [intOf]; omega
      · have HB := Lib.hid (show (decide ((0 : Int) ≤ p) && decide (p ≤ (m : Int) - 1)) = false by
          rw [← Bool.not_eq_true]
          simp
          omega)
        have HR := Lib.hid (HN.out hq)
        clear hq
        go_wp2_with fail
        refine (specInRange _ _ _ _).mono ?_
        rintro e w1 ⟨rfl, rfl⟩
        rw [HB.out]
        go_wp2_with fail
        go_ret
        exact ⟨ret_bool (by rw [HR.out, Bool.and_false]), rfl⟩
    · obtain rfl : k = es.length := by omega
      go_wp2_with fail
      go_ret
      exact ⟨ret_bool (by rw [HP.out, Bool.and_true, decide_eq_decide]; omega), rfl⟩


/-- what the closure captures -/
def VCap (n : Int) (v : Value) (zs : List Int) (o : Nat) (w : World) : Prop := w.cell? ⟨o, 0, none⟩ = some (.int .i64 n) ∧ w.cell? ⟨o, 1, none⟩ = some v ∧ Rd w v zs ∧ o < w.heap.size
theorem VCap.next {n : Int} {v : Value} {zs : List Int} {o : Nat} {w w' : World} (h : VCap n v zs o w) (hb : Below w.heap.size w w') : VCap n v zs o w' :=
  ⟨(hb.cell (p := ⟨o, 0, none⟩) h.2.2.2).trans h.1, (hb.cell (p := ⟨o, 1, none⟩) h.2.2.2).trans h.2.1, h.2.2.1.below hb (Nat.le_refl _), Nat.lt_of_lt_of_le h.2.2.2 hb.size⟩

set_option maxHeartbeats 1600000 in
set_option maxRecDepth 100000 in
theorem implVS1 (n : Int) (v : Value) (zs : List Int) (o : Nat) (p : Int) (l : Bool) (w : World) (h : VCap n v zs o w) :
    Calls Tryd.prog 56 #[.agg #[.int .i64 p, .bool l], .pointer (some ⟨o, 0, none⟩)] w fun e w' => e = .returned (.bool (!ptB n zs p)) ∧ Below w.heap.size w w' := by
  obtain ⟨c0, c1, hr, ho⟩ := h
  have H := Lib.hid hr
  obtain ⟨a, b, off, cap, rfl, _, _, _⟩ := hr
  have HB := Lib.hid (show Below w.heap.size w (w.alloc (Obj.cells #[.int .i64 p, .bool l] 59)) from (Below.refl _ _).alloc (Nat.le_refl _) _)
  have d0 := (HB.out.cell (p := ⟨o, 0, none⟩) ho).trans c0
  have d1 := (HB.out.cell (p := ⟨o, 1, none⟩) ho).trans c1
  have HI := Lib.hid (implIsPointOf n _ zs p _ (H.out.below HB.out (Nat.le_refl _)))
  generalize ptB n zs p = q at *
  go_enter Tryd.func56, Tryd.ntmps56
  go_wp2_with fail
  refine HI.out.mono ?_
  rintro e w2 ⟨rfl, hb2⟩
  go_wp2_with fail
  go_ret
  exact ⟨rfl, HB.out.trans (hb2.mono (by simp))⟩

set_option maxHeartbeats 1600000 in
set_option maxRecDepth 100000 in
theorem implIndexVS (n : Int) (v : Value) (zs : List Int) (o : Nat) (u : Value) (es : List (Int × Bool)) (w : World) (h : VCap n v zs o w) (hu : RdE w u es) (hv : vldB n zs = true) :
    Calls Tryd.prog 98 #[u, .func (Fn.func 56) #[] #[.pointer (some ⟨o, 0, none⟩)]] w fun e w' => (∃ r : Int, e = .returned (.int .i64 r) ∧ decide (0 ≤ r) = !ptsTo n es es.length) ∧ Below w.heap.size w w' := by
  have HC := Lib.hid h
  have HVV := Lib.hid hv
  obtain ⟨a, b, off, cap, rfl, h1, h3, h5⟩ := hu
  have H5 := Lib.hid h5
  have H1 := Lib.hid h1
  clear h5 h1 h hv
  go_enter Tryd.func98, Tryd.ntmps98
  go_wp2_with fail
  go_loopw [8] (fun i wr => ∃ k : Nat, k ≤ es.length ∧ i = .int .i64 k ∧ ptsTo n es k = true ∧ Below w.heap.size w wr) (fun i _ => es.length - (intOf i).toNat)
  case atStart => exact ⟨0, Nat.zero_le _, rfl, rfl, Below.refl _ _⟩
  case round =>
    obtain ⟨k, hk, rfl, hp, hbe⟩ := hrel
    have HP := Lib.hid hp
    have HBE := Lib.hid hbe
    have hz := hbe.size
    clear hp hbe
    by_cases hlt : k < es.length
    · obtain ⟨rfl, hbl⟩ := H1.out (by omega)
      have c0 := (HBE.out.cell (p := ⟨b, off + k * 2, none⟩) hbl).trans (H5.out k hlt).1
      have c1 := (HBE.out.cell (p := ⟨b, off + k * 2 + 1, none⟩) hbl).trans (H5.out k hlt).2
      have HY := Lib.hid (fun h1 h2 => ptsTo_yes HP.out h1 h2)
      have HN := Lib.hid (fun h => ptsTo_no (n := n) (es := es) (m := es.length) hlt h)
      generalize (es.getD k (0, false)).1 = p at *
      generalize (es.getD k (0, false)).2 = l at *
      have HF := Lib.hid (implVS1 n v zs o p l _ (HC.out.next HBE.out))
      by_cases hq : 0 ≤ p ∧ p < n
      · have HR := Lib.hid (HY.out hq.1 hq.2)
        rw [show (!ptB n zs p) = false by simp [ptB, HVV.out, hq]] at HF
        clear hq
        go_wp2_with fail
        refine HF.out.mono ?_
        rintro e w2 ⟨rfl, hb2⟩
        have B2 := Lib.hid (HBE.out.trans (hb2.mono hz))
        clear hb2
        go_wp2_with fail
        go_roundw
        case rel => exact ⟨k + 1, by omega, by go_num, HR.out, B2.out⟩
        case measure => simp [intOf]; omega
      · have HR := Lib.hid (HN.out hq)
        rw [show (!ptB n zs p) = true by
          rw [show ptB n zs p = false by
            rw [← Bool.not_eq_true]
            simp only [ptB, HVV.out, Bool.true_and, Bool.and_eq_true, decide_eq_true_eq]
            exact hq]
          rfl] at HF
        clear hq
        go_wp2_with fail
        refine HF.out.mono ?_
        rintro e w2 ⟨rfl, hb2⟩
        have B2 := Lib.hid (HBE.out.trans (hb2.mono hz))
        clear hb2
        go_wp2_with fail
        go_ret
        exact ⟨⟨k, rfl, by rw [HR.out]; simp⟩, B2.out⟩
    · obtain rfl : k = es.length := by omega
      go_wp2_with fail
      go_ret
      exact ⟨⟨-1, rfl, by rw [HP.out]; rfl⟩, HBE.out⟩

set_option maxHeartbeats 1600000 in
set_option maxRecDepth 100000 in
theorem implContainsVS (n : Int) (v : Value) (zs : List Int) (o : Nat) (u : Value) (es : List (Int × Bool)) (w : World) (h : VCap n v zs o w) (hu : RdE w u es) (hv : vldB n zs = true) :
    Calls Tryd.prog 55 #[u, .func (Fn.func 56) #[] #[.pointer (some ⟨o, 0, none⟩)]] w fun e w' => e = .returned (.bool (!ptsTo n es es.length)) ∧ Below w.heap.size w w' := by
  have HI := Lib.hid (implIndexVS n v zs o u es w h hu hv)
  obtain ⟨a, b, off, cap, rfl, _, _, _⟩ := hu
  clear h hv
  go_enter Tryd.func55, Tryd.ntmps55
  go_wp2_with fail
  refine HI.out.mono ?_
  rintro e w2 ⟨⟨r, rfl, hr⟩, hb2⟩
  have HR := Lib.hid hr
  clear hr
  go_wp2_with fail
  go_ret
  exact ⟨ret_bool HR.out, hb2⟩

set_option maxHeartbeats 1600000 in
set_option maxRecDepth 100000 in
theorem implValidSample (n : Int) (v : Value) (zs : List Int) (u : Value) (es : List (Int × Bool)) (w : World) (h : Rd w v zs) (hu : RdE w u es) :
    Calls Tryd.prog 15 #[.agg #[.int .i64 n, v], u] w fun e w' => e = .returned (.bool (vsB n zs es)) ∧ Below w.heap.size w w' := by
  have H := Lib.hid h
  have HU := Lib.hid hu
  obtain ⟨a, b, off, cap, rfl, _, _, _⟩ := h
  obtain ⟨a2, b2, off2, cap2, rfl, _, _, _⟩ := hu
  have B0 := Lib.hid (Box.made n (.slice a zs.length cap) w 25)
  by_cases hv : vldB n zs = true
  · have HV := Lib.hid hv
    have HE := Lib.hid (vsB_in (es := es) hv)
    clear hv
    by_cases h12 : es.length ≤ 12
    · have hd : decide ((12 : Int) < (es.length : Int)) = false := decide_eq_false (by omega)
      have HE2 := Lib.hid (show vsB n zs es = ptsTo n es es.length by rw [HE.out, decide_eq_true h12, Bool.true_and])
      clear HE
      go_enter Tryd.func15, Tryd.ntmps15
      go_wp2_with fail
      refine (implValid n _ zs _ (H.out.below (k := w.heap.size) (by go_grown) (Nat.le_refl _))).mono ?_
      rintro e w1 ⟨rfl, hb⟩
      rw [HV.out]
      have hs1 : w.heap.size < w1.heap.size := by have := hb.size; simp at this; omega
      have B1 := Lib.hid (B0.out.next (by simp) hb)
      clear hb
      have HF := Lib.hid (implContainsVS n (.slice a zs.length cap) zs w.heap.size _ es w1 ⟨B1.out.at0, B1.out.at1, H.out.below B1.out.below (Nat.le_refl _), hs1⟩ (HU.out.below B1.out.below (Nat.le_refl _)) HV.out)
      generalize ptsTo n es es.length = q at *
      go_wp2_with fail
      refine HF.out.mono ?_
      rintro e w2 ⟨rfl, hb2⟩
      have B2 := Lib.hid (B1.out.next hs1 hb2)
      clear hb2
      go_wp2_with fail
      go_ret
      exact ⟨ret_bool (by first | exact HE2.out.symm | (rw [HE2.out]; simp)), B2.out.below⟩
    · have hd : decide ((12 : Int) < (es.length : Int)) = true := decide_eq_true (by omega)
      have HE2 := Lib.hid (show vsB n zs es = false by rw [HE.out, decide_eq_false h12, Bool.false_and])
      clear HE
      go_enter Tryd.func15, Tryd.ntmps15
      go_wp2_with fail
      refine (implValid n _ zs _ (H.out.below (k := w.heap.size) (by go_grown) (Nat.le_refl _))).mono ?_
      rintro e w1 ⟨rfl, hb⟩
      rw [HV.out]
      have B1 := Lib.hid (B0.out.next (by simp) hb)
      clear hb
      go_wp2_with fail
      go_ret
      exact ⟨ret_bool HE2.out.symm, B1.out.below⟩
  · rw [Bool.not_eq_true] at hv
    have HE := Lib.hid (vsB_bad (es := es) hv)
    have HV := Lib.hid hv
    clear hv
    go_enter Tryd.func15, Tryd.ntmps15
    go_wp2_with fail
    refine (implValid n _ zs _ (H.out.below (k := w.heap.size) (by go_grown) (Nat.le_refl _))).mono ?_
    rintro e w1 ⟨rfl, hb⟩
    rw [HV.out]
    have B1 := Lib.hid (B0.out.next (by simp) hb)
    clear hb
    go_wp2_with fail
    go_ret
    exact ⟨ret_bool HE.out.symm, B1.out.below⟩

end Go.Proofs.YtiocaopabkbgpaaDoor

namespace Go.Proofs.YtiocaopabkbgpaaDoor
open Go.RowKit

/-- those that fit an example -/
def kp (l : List Nat) (e : Int × Bool) : List Nat := l.filter (fun s => hasX e.1.toNat s == e.2)
theorem kp_true (l : List Nat) (x : Nat) : kp l ((x : Int), true) = wth x l := by unfold kp wth; congr 1; funext s; simp
theorem kp_false (l : List Nat) (x : Nat) : kp l ((x : Int), false) = wto x l := by unfold kp wto; congr 1; funext s; simp

set_option maxHeartbeats 1600000 in
set_option maxRecDepth 100000 in
theorem implFitting (l : List Nat) (x : Nat) (b : Bool) (hx : x < 5) (w : World) (hsw : SW w) :
    Calls Tryd.prog 50 #[.int .u32 (fm l), .agg #[.int .i64 (x : Int), .bool b]] w fun e w' => e = .returned (.int .u32 (fm (kp l ((x : Int), b)))) ∧ Below w.heap.size w w' := by
  have HSW := Lib.hid hsw
  have HS := Lib.hid (fun w h => implSplit l x hx w h)
  cases b with
  | true =>
    rw [kp_true]
    clear hsw
    generalize fm l = F at *
    generalize fm (wth x l) = F1 at *
    generalize fm (wto x l) = F2 at *
    go_enter Tryd.func50, Tryd.ntmps50
    go_wp2_with fail
    refine (HS.out _ (HSW.out.next (by go_grown))).mono ?_
    rintro e w2 ⟨rfl, d, rfl⟩
    go_wp2_with fail
    go_ret
    exact ⟨rfl, below_drewN (by go_grown) d⟩
  | false =>
    rw [kp_false]
    clear hsw
    generalize fm l = F at *
    generalize fm (wth x l) = F1 at *
    generalize fm (wto x l) = F2 at *
    go_enter Tryd.func50, Tryd.ntmps50
    go_wp2_with fail
    refine (HS.out _ (HSW.out.next (by go_grown))).mono ?_
    rintro e w2 ⟨rfl, d, rfl⟩
    go_wp2_with fail
    go_ret
    exact ⟨rfl, below_drewN (by go_grown) d⟩


end Go.Proofs.YtiocaopabkbgpaaDoor

namespace Go.Proofs.YtiocaopabkbgpaaDoor
open Go.RowKit

/-- what is left behind k examples -/
def nowTo (ns : List Nat) (es : List (Int × Bool)) : Nat → List Nat
  | 0 => ns
  | k + 1 => kp (nowTo ns es k) (es.getD k (0, false))
/-- the mistakes of a rule behind k examples -/
def misTo (G : List Nat → Nat → Bool) (ns : List Nat) (es : List (Int × Bool)) : Nat → Int
  | 0 => 0
  | k + 1 => misTo G ns es k + (if G (nowTo ns es k) (es.getD k (0, false)).1.toNat = (es.getD k (0, false)).2 then 0 else 1)
theorem misTo_bd (G : List Nat → Nat → Bool) (ns : List Nat) (es : List (Int × Bool)) (k : Nat) : 0 ≤ misTo G ns es k ∧ misTo G ns es k ≤ k := by
  induction k with
  | zero => simp [misTo]
  | succ k ih =>
    rw [misTo]
    split <;> omega
theorem nowTo_sub (ns : List Nat) (es : List (Int × Bool)) (k : Nat) : (∀ t ∈ nowTo ns es k, t ∈ ns) ∧ (nowTo ns es k).length ≤ ns.length := by
  induction k with
  | zero => exact ⟨fun t h => h, Nat.le_refl _⟩
  | succ k ih =>
    refine ⟨fun t h => ih.1 t (List.mem_filter.1 h).1, Nat.le_trans (List.length_filter_le _ _) ih.2⟩
def gOpt (l : List Nat) (x : Nat) : Bool := decide (mst (wto x l) < mst (wth x l))
def runB (G : List Nat → Nat → Bool) (n : Int) (zs : List Int) (es : List (Int × Bool)) : Int := if vsB n zs es = true then misTo G (zs.map Int.toNat) es es.length else -1
theorem pts_at {n : Int} {es : List (Int × Bool)} (h : ptsTo n es es.length = true) {k : Nat} (hk : k < es.length) : 0 ≤ (es.getD k (0, false)).1 ∧ (es.getD k (0, false)).1 < n := by
  simp only [ptsTo, List.all_eq_true, List.mem_range, Bool.and_eq_true, decide_eq_true_eq] at h
  exact h k hk

set_option maxHeartbeats 1600000 in
set_option maxRecDepth 100000 in
theorem implGuessOpt (l : List Nat) (x : Nat) (hx : x < 5) (h32 : ∀ t ∈ l, t < 32) (hl : l.length ≤ 32) (w : World) (hsw : SW w) :
    Calls Tryd.prog 89 #[.agg #[], .int .u32 (fm l), .int .i64 (x : Int)] w fun e w' => e = .returned (.agg #[.int .i64 (x : Int), .bool (gOpt l x)]) ∧ Below w.heap.size w w' := by
  have HSW := Lib.hid hsw
  have hl1 := List.length_filter_le (fun s => hasX x s) l
  have hl2 := List.length_filter_le (fun s => !hasX x s) l
  have HS := Lib.hid (fun w h => implSplit l x hx w h)
  have HM1 := Lib.hid (fun w h => implMistakeDepth (wth x l) (wth_lt h32) (by unfold wth; omega) w h)
  have HM2 := Lib.hid (fun w h => implMistakeDepth (wto x l) (wto_lt h32) (by unfold wto; omega) w h)
  rw [gOpt]
  clear hsw hl1 hl2
  generalize fm l = F at *
  generalize fm (wth x l) = F1 at *
  generalize fm (wto x l) = F2 at *
  generalize mst (wth x l) = D1 at *
  generalize mst (wto x l) = D2 at *
  have r0 := (show ((w.alloc (Obj.cells #[] 81)).alloc (Obj.cells #[.int .i64 0, .bool false] 59)).cell? ⟨w.heap.size + 1, 0, none⟩ = some (.int .i64 0) by simp [go_sem])
  have r1 := (show ((w.alloc (Obj.cells #[] 81)).alloc (Obj.cells #[.int .i64 0, .bool false] 59)).cell? ⟨w.heap.size + 1, 1, none⟩ = some (.bool false) by simp [go_sem])
  have q0 := (show ((w.alloc (Obj.cells #[] 81)).alloc (Obj.cells #[.int .i64 0, .bool false] 59)).frozen? ⟨w.heap.size + 1, 0, none⟩ = false by simp [go_sem])
  have q1 := (show ((w.alloc (Obj.cells #[] 81)).alloc (Obj.cells #[.int .i64 0, .bool false] 59)).frozen? ⟨w.heap.size + 1, 1, none⟩ = false by simp [go_sem])
  have HB0 := Lib.hid (show Below w.heap.size w ((w.alloc (Obj.cells #[] 81)).alloc (Obj.cells #[.int .i64 0, .bool false] 59)) by go_grown)
  have HZ0 := Lib.hid (show ((w.alloc (Obj.cells #[] 81)).alloc (Obj.cells #[.int .i64 0, .bool false] 59)).heap.size = w.heap.size + 2 by simp)
  have HR := Lib.hid (And.intro (And.intro r0 r1) (And.intro q0 q1))
  clear r0 r1 q0 q1
  go_enter Tryd.func89, Tryd.ntmps89
  go_wp2_with fail
  generalize ((w.alloc (Obj.cells #[] 81)).alloc (Obj.cells #[.int .i64 0, .bool false] 59)) = w0 at *
  refine (HS.out _ (HSW.out.next HB0.out)).mono ?_
  rintro e w1 ⟨rfl, d, rfl⟩
  go_wp2_with fail
  have S1 := Lib.hid (show SW (w0.drewN d) from SW.heap (HSW.out.next HB0.out) rfl)
  refine (HM1.out _ S1.out).mono ?_
  rintro e w2 ⟨rfl, hb2⟩
  have B2 := Lib.hid (show Below w0.heap.size w0 w2 from Below.trans (below_drewN (Below.refl _ _) d) hb2)
  have hz2 := B2.out.size
  clear hb2
  go_wp2_with fail
  refine (HM2.out _ ((HSW.out.next HB0.out).next B2.out)).mono ?_
  rintro e w3 ⟨rfl, hb3⟩
  have B3 := Lib.hid (B2.out.trans (hb3.mono hz2))
  clear hb3
  have hlt : w.heap.size + 1 < w0.heap.size := by have := HZ0.out; omega
  have r0 := (B3.out.cell (p := ⟨w.heap.size + 1, 0, none⟩) hlt).trans HR.out.1.1
  have r1 := (B3.out.cell (p := ⟨w.heap.size + 1, 1, none⟩) hlt).trans HR.out.1.2
  have q0 := (B3.out.frozen (p := ⟨w.heap.size + 1, 0, none⟩) hlt).trans HR.out.2.1
  have q1 := (B3.out.frozen (p := ⟨w.heap.size + 1, 1, none⟩) hlt).trans HR.out.2.2
  have HBW := Lib.hid (HB0.out.trans (B3.out.mono (show w.heap.size ≤ w0.heap.size by omega)))
  go_wp2_with fail
  refine bodyPost_ret (v := .agg #[.int .i64 (x : Int), .bool (decide (D2 < D1))]) (by simp [results, Tryd.results89, go_sem, r0, r1]) rfl ?_
  refine ⟨rfl, ?_⟩
  have hb0 := HBW.out
  clear r0 r1 q0 q1
  go_grown

set_option maxHeartbeats 6400000 in
set_option maxRecDepth 100000 in
theorem implMistakesOpt (n : Int) (v : Value) (zs : List Int) (u : Value) (es : List (Int × Bool)) (w : World) (h : Rd w v zs) (hu : RdE w u es) (hsw : SW w) :
    Calls Tryd.prog 70 #[.iface 81 (.agg #[]), .agg #[.int .i64 n, v], u] w fun e w' => e = .returned (.int .i64 (runB gOpt n zs es)) ∧ Below w.heap.size w w' := by
  have H := Lib.hid h
  have HU := Lib.hid hu
  have HSW := Lib.hid hsw
  have HVS := Lib.hid (fun w h hu => implValidSample n v zs u es w h hu)
  obtain ⟨a, b, off, cap, rfl, _, _, _⟩ := h
  obtain ⟨a2, b2, off2, cap2, rfl, he1, _, he5⟩ := hu
  have HE1 := Lib.hid he1
  have HE5 := Lib.hid he5
  clear he1 he5 hsw
  have B0 := Lib.hid (Box.made n (.slice a zs.length cap) w 25)
  by_cases hv : vsB n zs es = true
  · have hvd : vldB n zs = true := by simp only [vsB, Bool.and_eq_true] at hv; exact hv.1
    have hpt : ptsTo n es es.length = true := by simp only [vsB, Bool.and_eq_true] at hv; exact hv.2.2
    have h12 : es.length ≤ 12 := by simp only [vsB, Bool.and_eq_true, decide_eq_true_eq] at hv; exact hv.2.1
    have HV := Lib.hid hv
    obtain ⟨m, ns, rfl, rfl, hc⟩ := vldB_cls hvd
    have hm := hc.pts
    have HC := Lib.hid hc
    have hl := hc.length
    have HP := Lib.hid hpt
    have HT := Lib.hid (show runB gOpt m (toI ns) es = misTo gOpt ns es es.length by rw [runB, if_pos hv, toNat_toI])
    rw [toI_length] at H B0 HVS ⊢
    clear hv hvd hpt hc
    go_enter Tryd.func70, Tryd.ntmps70
    go_wp2_with fail
    refine (HVS.out _ (H.out.below (k := w.heap.size) (by go_grown) (Nat.le_refl _)) (HU.out.below (k := w.heap.size) (by go_grown) (Nat.le_refl _))).mono ?_
    rintro e w1 ⟨rfl, hb⟩
    rw [HV.out]
    have hs1 : w.heap.size < w1.heap.size := by have := hb.size; simp at this; omega
    have B1 := Lib.hid (B0.out.next (by simp) hb)
    clear hb
    have R1 := Lib.hid (H.out.below B1.out.below (Nat.le_refl _))
    have c0 := B1.out.at0
    have c1 := B1.out.at1
    go_wp2_with fail
    refine (implFamilyOf m _ ns HC.out.lt32 _ R1.out).mono ?_
    rintro e w2 ⟨rfl, hb2⟩
    have B2 := Lib.hid (B1.out.next hs1 hb2)
    have hz2 := hb2.size
    clear hb2 c0 c1
    go_wp2_with fail
    go_loopw [7, 8, 19] (fun f mi i wr => ∃ k : Nat, k ≤ es.length ∧ i = .int .i64 k ∧ f = .int .u32 (fm (nowTo ns es k)) ∧ mi = .int .i64 (misTo gOpt ns es k) ∧ Below w.heap.size w wr) (fun _ _ i _ => es.length - (intOf i).toNat)
    case atStart => exact ⟨0, Nat.zero_le _, rfl, rfl, rfl, B2.out.below⟩
    case round =>
      obtain ⟨k, hk, rfl, rfl, rfl, hbe⟩ := hrel
      have BE := Lib.hid hbe
      have hz := hbe.size
      have SW2 := Lib.hid (HSW.out.next hbe)
      obtain ⟨hb0, hb1⟩ := misTo_bd gOpt ns es k
      clear hbe
      by_cases hlt : k < es.length
      · obtain ⟨rfl, hbl⟩ := HE1.out (by omega)
        have hc0 := (BE.out.cell (p := ⟨b2, off2 + k * 2, none⟩) hbl).trans (HE5.out k hlt).1
        have hc1 := (BE.out.cell (p := ⟨b2, off2 + k * 2 + 1, none⟩) hbl).trans (HE5.out k hlt).2
        obtain ⟨hp0, hp1⟩ := pts_at HP.out hlt
        have HE := Lib.hid (show es.getD k (0, false) = ((es.getD k (0, false)).1, (es.getD k (0, false)).2) from rfl)
        have HNS := Lib.hid (show nowTo ns es (k + 1) = kp (nowTo ns es k) (es.getD k (0, false)) from rfl)
        have HMS := Lib.hid (show misTo gOpt ns es (k + 1) = misTo gOpt ns es k + (if gOpt (nowTo ns es k) (es.getD k (0, false)).1.toNat = (es.getD k (0, false)).2 then 0 else 1) from rfl)
        obtain ⟨hsub, hln⟩ := nowTo_sub ns es k
        have HSub := Lib.hid (fun t ht => HC.out.lt32 t (hsub t ht))
        clear hsub
        rw [HE.out] at HNS
        obtain ⟨x, hx⟩ := Int.eq_ofNat_of_zero_le hp0
        rw [hx] at hc0 hp0 hp1 HNS HMS
        rw [Int.toNat_natCast] at HMS
        generalize (es.getD k (0, false)).2 = lb at *
        have hx5 : x < 5 := by omega
        clear hx HE
        generalize nowTo ns es k = L at *
        generalize misTo gOpt ns es k = M at *
        have HG := Lib.hid (fun w h => implGuessOpt L x hx5 HSub.out (by omega) w h)
        have HF := Lib.hid (fun w h => implFitting L x lb hx5 w h)
        generalize gOpt L x = gg at *
        have EX := Lib.hid (show Below wr.heap.size wr (wr.alloc (Obj.cells #[.int .i64 (x : Int), .bool lb] 59)) from (Below.refl _ _).alloc (Nat.le_refl _) _)
        have EZ := Lib.hid (show wr.heap.size < (wr.alloc (Obj.cells #[.int .i64 (x : Int), .bool lb] 59)).heap.size by simp)
        have e0 := (show (wr.alloc (Obj.cells #[.int .i64 (x : Int), .bool lb] 59)).cell? ⟨wr.heap.size, 0, none⟩ = some (.int .i64 (x : Int)) by simp [go_sem])
        have e1 := (show (wr.alloc (Obj.cells #[.int .i64 (x : Int), .bool lb] 59)).cell? ⟨wr.heap.size, 1, none⟩ = some (.bool lb) by simp [go_sem])
        have HSE := Lib.hid (SW2.out.next EX.out)
        cases gg
        · cases lb
          · go_wp2_with fail
            generalize (wr.alloc (Obj.cells #[.int .i64 (x : Int), .bool false] 59)) = we at *
            go_region_held3 (fun w' => w'.cell? ⟨wr.heap.size, 0, none⟩ = some (.int .i64 (x : Int)) ∧ w'.cell? ⟨wr.heap.size, 1, none⟩ = some (.bool false)) (first | exact ⟨e0, e1⟩ | exact ⟨f0, f1⟩ | go_keep) (first | (go_at_call 89; refine (HG.out _ (by first | exact HSE.out | exact SW.heap HSE.out rfl)).mono ?_; rintro e w4 ⟨rfl, hb4⟩; have B4 := Lib.hid (show Below we.heap.size we w4 from Below.trans (by first | exact Below.refl _ _ | exact (Below.refl _ _).drew) hb4); have f0 := (B4.out.cell (p := ⟨wr.heap.size, 0, none⟩) EZ.out).trans e0; have f1 := (B4.out.cell (p := ⟨wr.heap.size, 1, none⟩) EZ.out).trans e1; clear hb4))
            have B5 := Lib.hid (show Below wr.heap.size wr w4 from EX.out.trans (B4.out.mono (Nat.le_of_lt EZ.out)))
            have hz5 := B5.out.size
            clear e0 e1
            go_wp2_with fail
            refine (HF.out _ (SW2.out.next B5.out)).mono ?_
            rintro e w6 ⟨rfl, hb6⟩
            have B6 := Lib.hid (B5.out.trans (hb6.mono hz5))
            clear hb6
            go_wp2_with fail
            go_roundw
            case rel => exact ⟨k + 1, by omega, by go_num, by rw [HNS.out], by rw [HMS.out]; simp, BE.out.trans (B6.out.mono hz)⟩
            case measure => simp [intOf]; omega
          · go_wp2_with fail
            generalize (wr.alloc (Obj.cells #[.int .i64 (x : Int), .bool true] 59)) = we at *
            go_region_held3 (fun w' => w'.cell? ⟨wr.heap.size, 0, none⟩ = some (.int .i64 (x : Int)) ∧ w'.cell? ⟨wr.heap.size, 1, none⟩ = some (.bool true)) (first | exact ⟨e0, e1⟩ | exact ⟨f0, f1⟩ | go_keep) (first | (go_at_call 89; refine (HG.out _ (by first | exact HSE.out | exact SW.heap HSE.out rfl)).mono ?_; rintro e w4 ⟨rfl, hb4⟩; have B4 := Lib.hid (show Below we.heap.size we w4 from Below.trans (by first | exact Below.refl _ _ | exact (Below.refl _ _).drew) hb4); have f0 := (B4.out.cell (p := ⟨wr.heap.size, 0, none⟩) EZ.out).trans e0; have f1 := (B4.out.cell (p := ⟨wr.heap.size, 1, none⟩) EZ.out).trans e1; clear hb4))
            have B5 := Lib.hid (show Below wr.heap.size wr w4 from EX.out.trans (B4.out.mono (Nat.le_of_lt EZ.out)))
            have hz5 := B5.out.size
            clear e0 e1
            go_wp2_with fail
            refine (HF.out _ (SW2.out.next B5.out)).mono ?_
            rintro e w6 ⟨rfl, hb6⟩
            have B6 := Lib.hid (B5.out.trans (hb6.mono hz5))
            clear hb6
            go_wp2_with fail
            go_roundw
            case rel => exact ⟨k + 1, by omega, by go_num, by rw [HNS.out], by rw [HMS.out]; simp, BE.out.trans (B6.out.mono hz)⟩
            case measure => simp [intOf]; omega
        · cases lb
          · go_wp2_with fail
            generalize (wr.alloc (Obj.cells #[.int .i64 (x : Int), .bool false] 59)) = we at *
            go_region_held3 (fun w' => w'.cell? ⟨wr.heap.size, 0, none⟩ = some (.int .i64 (x : Int)) ∧ w'.cell? ⟨wr.heap.size, 1, none⟩ = some (.bool false)) (first | exact ⟨e0, e1⟩ | exact ⟨f0, f1⟩ | go_keep) (first | (go_at_call 89; refine (HG.out _ (by first | exact HSE.out | exact SW.heap HSE.out rfl)).mono ?_; rintro e w4 ⟨rfl, hb4⟩; have B4 := Lib.hid (show Below we.heap.size we w4 from Below.trans (by first | exact Below.refl _ _ | exact (Below.refl _ _).drew) hb4); have f0 := (B4.out.cell (p := ⟨wr.heap.size, 0, none⟩) EZ.out).trans e0; have f1 := (B4.out.cell (p := ⟨wr.heap.size, 1, none⟩) EZ.out).trans e1; clear hb4))
            have B5 := Lib.hid (show Below wr.heap.size wr w4 from EX.out.trans (B4.out.mono (Nat.le_of_lt EZ.out)))
            have hz5 := B5.out.size
            clear e0 e1
            go_wp2_with fail
            refine (HF.out _ (SW2.out.next B5.out)).mono ?_
            rintro e w6 ⟨rfl, hb6⟩
            have B6 := Lib.hid (B5.out.trans (hb6.mono hz5))
            clear hb6
            go_wp2_with fail
            go_roundw
            case rel => exact ⟨k + 1, by omega, by go_num, by rw [HNS.out], by rw [HMS.out]; simp, BE.out.trans (B6.out.mono hz)⟩
            case measure => simp [intOf]; omega
          · go_wp2_with fail
            generalize (wr.alloc (Obj.cells #[.int .i64 (x : Int), .bool true] 59)) = we at *
            go_region_held3 (fun w' => w'.cell? ⟨wr.heap.size, 0, none⟩ = some (.int .i64 (x : Int)) ∧ w'.cell? ⟨wr.heap.size, 1, none⟩ = some (.bool true)) (first | exact ⟨e0, e1⟩ | exact ⟨f0, f1⟩ | go_keep) (first | (go_at_call 89; refine (HG.out _ (by first | exact HSE.out | exact SW.heap HSE.out rfl)).mono ?_; rintro e w4 ⟨rfl, hb4⟩; have B4 := Lib.hid (show Below we.heap.size we w4 from Below.trans (by first | exact Below.refl _ _ | exact (Below.refl _ _).drew) hb4); have f0 := (B4.out.cell (p := ⟨wr.heap.size, 0, none⟩) EZ.out).trans e0; have f1 := (B4.out.cell (p := ⟨wr.heap.size, 1, none⟩) EZ.out).trans e1; clear hb4))
            have B5 := Lib.hid (show Below wr.heap.size wr w4 from EX.out.trans (B4.out.mono (Nat.le_of_lt EZ.out)))
            have hz5 := B5.out.size
            clear e0 e1
            go_wp2_with fail
            refine (HF.out _ (SW2.out.next B5.out)).mono ?_
            rintro e w6 ⟨rfl, hb6⟩
            have B6 := Lib.hid (B5.out.trans (hb6.mono hz5))
            clear hb6
            go_wp2_with fail
            go_roundw
            case rel => exact ⟨k + 1, by omega, by go_num, by rw [HNS.out], by rw [HMS.out]; simp, BE.out.trans (B6.out.mono hz)⟩
            case measure => simp [intOf]; omega
      · obtain rfl : k = es.length := by omega
        go_wp2_with fail
        go_ret
        exact ⟨ret_int HT.out.symm, BE.out⟩
  · have HT := Lib.hid (show runB gOpt n zs es = -1 by rw [runB, if_neg hv])
    rw [Bool.not_eq_true] at hv
    have HV := Lib.hid hv
    clear hv
    go_enter Tryd.func70, Tryd.ntmps70
    go_wp2_with fail
    refine (HVS.out _ (H.out.below (k := w.heap.size) (by go_grown) (Nat.le_refl _)) (HU.out.below (k := w.heap.size) (by go_grown) (Nat.le_refl _))).mono ?_
    rintro e w1 ⟨rfl, hb⟩
    rw [HV.out]
    have B1 := Lib.hid (B0.out.next (by simp) hb)
    clear hb
    go_wp2_with fail
    go_ret
    exact ⟨ret_int HT.out.symm, B1.out.below⟩

set_option maxHeartbeats 800000 in
theorem implOptimalRun (n : Int) (v : Value) (zs : List Int) (u : Value) (es : List (Int × Bool)) (w : World) (h : Rd w v zs) (hu : RdE w u es) (hsw : SW w) :
    Calls Tryd.prog 27 #[.agg #[.int .i64 n, v], u] w fun e w' => e = .returned (.int .i64 (runB gOpt n zs es)) ∧ Below w.heap.size w w' := by
  have HM := Lib.hid (fun w h hu hs => implMistakesOpt n v zs u es w h hu hs)
  have H := Lib.hid h
  have HU := Lib.hid hu
  have HSW := Lib.hid hsw
  obtain ⟨a, b, off, cap, rfl, _, _, _⟩ := h
  obtain ⟨a2, b2, off2, cap2, rfl, _, _, _⟩ := hu
  clear hsw
  go_enter Tryd.func27, Tryd.ntmps27
  go_wp2_with fail
  refine (HM.out _ (H.out.below (k := w.heap.size) (by go_grown) (Nat.le_refl _)) (HU.out.below (k := w.heap.size) (by go_grown) (Nat.le_refl _)) (HSW.out.next (by go_grown))).mono ?_
  rintro e w1 ⟨rfl, hb⟩
  go_wp2_with fail
  go_ret
  exact ⟨rfl, Below.trans (by go_grown) (hb.mono (by simp))⟩

end Go.Proofs.YtiocaopabkbgpaaDoor

namespace Go.Proofs.YtiocaopabkbgpaaDoor
open Go.RowKit

theorem qst_fuel (l : List Nat) (hl : l.length ≤ 31) : qst l = dep max min 31 l := dep_fuel _ _ _ _ _ (by omega) (by omega)
theorem qst_small {l : List Nat} (h : l.length < 2) : qst l = 0 := by
  have hs : ∀ x, wth x l = [] ∨ wto x l = [] := by
    intro x
    by_cases h1 : wth x l = []
    · exact .inl h1
    · by_cases h2 : wto x l = []
      · exact .inr h2
      · have := split_len x l h1 h2
        have := List.length_pos_iff.2 h1
        omega
  have key : ∀ k, depTo max min 31 l k = 0 := by
    intro k
    induction k with
    | zero => rfl
    | succ k ih => rw [depTo_succ, stp_skip (hs k), ih]
  exact key 5
/-- the best so far, as the model has it: n for none -/
def bst (n : Nat) (B : Int) : Int := if B = 0 then (n : Int) else min n B

/-- 1 if x parts the sets -/
def spl (l : List Nat) (x : Nat) : Int := if wth x l = [] ∨ wto x l = [] then 0 else 1
def spn (l : List Nat) : Int := spl l 0 + spl l 1 + spl l 2 + spl l 3 + spl l 4
theorem spl_bd (l : List Nat) (x : Nat) : 0 ≤ spl l x ∧ spl l x ≤ 1 := by unfold spl; split <;> omega
theorem wth_mem {x t : Nat} {l : List Nat} : t ∈ wth x l ↔ t ∈ l ∧ hasX x t = true := by simp [wth]
theorem wto_mem {x t : Nat} {l : List Nat} : t ∈ wto x l ↔ t ∈ l ∧ hasX x t = false := by simp [wto]
theorem ne_of_sub {a b : List Nat} (h : ∀ t ∈ a, t ∈ b) (ha : a ≠ []) : b ≠ [] := by
  rintro rfl
  cases a with
  | nil => exact ha rfl
  | cons t a => exact absurd (h t (by simp)) (by simp)
theorem spl_mono {a l : List Nat} (h : ∀ t ∈ a, t ∈ l) (y : Nat) : spl a y ≤ spl l y := by
  unfold spl
  split
  · split <;> omega
  · rename_i h1
    have h2 : ¬ (wth y l = [] ∨ wto y l = []) := by
      rintro (e | e)
      · exact ne_of_sub (a := wth y a) (b := wth y l) (fun t ht => wth_mem.2 ⟨h t (wth_mem.1 ht).1, (wth_mem.1 ht).2⟩) (fun e' => h1 (.inl e')) e
      · exact ne_of_sub (a := wto y a) (b := wto y l) (fun t ht => wto_mem.2 ⟨h t (wto_mem.1 ht).1, (wto_mem.1 ht).2⟩) (fun e' => h1 (.inr e')) e
    rw [if_neg h2]
    exact Int.le_refl _
theorem spl_wth (x : Nat) (l : List Nat) : spl (wth x l) x = 0 := by
  have h : wto x (wth x l) = [] := by
    rw [wto, List.filter_eq_nil_iff]
    intro t ht
    simp [(wth_mem.1 ht).2]
  rw [spl, if_pos (.inr h)]
theorem spl_wto (x : Nat) (l : List Nat) : spl (wto x l) x = 0 := by
  have h : wth x (wto x l) = [] := by
    rw [wth, List.filter_eq_nil_iff]
    intro t ht
    simp [(wto_mem.1 ht).2]
  rw [spl, if_pos (.inl h)]
theorem spn_less {a l : List Nat} {x : Nat} (hx : x < 5) (h : ∀ t ∈ a, t ∈ l) (h0 : spl a x = 0) (h1 : spl l x = 1) : spn a + 1 ≤ spn l := by
  have m := fun y => spl_mono h y
  have m0 := m 0; have m1 := m 1; have m2 := m 2; have m3 := m 3; have m4 := m 4
  unfold spn
  rcases (show x = 0 ∨ x = 1 ∨ x = 2 ∨ x = 3 ∨ x = 4 by omega) with rfl | rfl | rfl | rfl | rfl <;> omega
theorem spn_pos (l : List Nat) : 0 ≤ spn l := by
  have m := fun y => (spl_bd l y).1
  have m0 := m 0; have m1 := m 1; have m2 := m 2; have m3 := m 3; have m4 := m 4
  unfold spn
  omega
theorem dep_spn (n : Nat) (l : List Nat) : dep max min n l ≤ spn l := by
  induction n generalizing l with
  | zero => simp only [dep]; exact spn_pos l
  | succ n ih =>
    have key : ∀ k, k ≤ 5 → depTo max min n l k ≤ spn l := by
      intro k
      induction k with
      | zero => intro _; simp only [depTo, List.range_zero, List.foldl_nil]; exact spn_pos l
      | succ k ihk =>
        intro hk
        have := ihk (by omega)
        rw [depTo_succ, stp]
        split
        · exact this
        · rename_i hs
          have h1 : spl l k = 1 := by rw [spl, if_neg hs]
          have a := ih (wth k l)
          have b := ih (wto k l)
          have a2 := spn_less (a := wth k l) (l := l) (x := k) (by omega) (fun t ht => (wth_mem.1 ht).1) (spl_wth k l) h1
          have b2 := spn_less (a := wto k l) (l := l) (x := k) (by omega) (fun t ht => (wto_mem.1 ht).1) (spl_wto k l) h1
          split <;> omega
    exact key 5 (Nat.le_refl _)
theorem spn_le {n : Nat} (hn : n ≤ 5) {l : List Nat} (hl : ∀ t ∈ l, t < 2 ^ n) : spn l ≤ n := by
  have z : ∀ y, n ≤ y → spl l y = 0 := fun y hy => by rw [spl, if_pos (.inl (wth_nil hl hy))]
  have m := fun y => (spl_bd l y).2
  have m0 := m 0; have m1 := m 1; have m2 := m 2; have m3 := m 3; have m4 := m 4
  have z0 := z 0; have z1 := z 1; have z2 := z 2; have z3 := z 3; have z4 := z 4
  unfold spn
  rcases (show n = 0 ∨ n = 1 ∨ n = 2 ∨ n = 3 ∨ n = 4 ∨ n = 5 by omega) with rfl | rfl | rfl | rfl | rfl | rfl
  · have := z0 (by omega); have := z1 (by omega); have := z2 (by omega); have := z3 (by omega); have := z4 (by omega); omega
  · have := z1 (by omega); have := z2 (by omega); have := z3 (by omega); have := z4 (by omega); omega
  · have := z2 (by omega); have := z3 (by omega); have := z4 (by omega); omega
  · have := z3 (by omega); have := z4 (by omega); omega
  · have := z4 (by omega); omega
  · omega
theorem qst_le {n : Nat} (hn : n ≤ 5) {l : List Nat} (hl : ∀ t ∈ l, t < 2 ^ n) : qst l ≤ n := Int.le_trans (dep_spn 32 l) (spn_le hn hl)
theorem bit_ne {s t : Nat} (hs : s < 32) (ht : t < 32) (h : s ≠ t) : ∃ x, x < 5 ∧ hasX x s ≠ hasX x t := by
  have key : ∀ s t : Fin 32, s ≠ t → ∃ x : Fin 5, hasX x s ≠ hasX x t := by decide +kernel
  obtain ⟨x, hx⟩ := key ⟨s, hs⟩ ⟨t, ht⟩ (fun e => h (by simpa using e))
  exact ⟨x, x.isLt, hx⟩
theorem dep_split {J C : Int → Int → Int} (n : Nat) {l : List Nat} (hJ : ∀ a b, 0 ≤ a → 0 ≤ b → 0 ≤ J a b) (hC : ∀ a b, 0 < a → 0 < b → 0 < C a b) (hD : ∀ l, 0 ≤ dep J C n l) {x : Nat} (hx : x < 5) (h1 : wth x l ≠ []) (h2 : wto x l ≠ []) : 0 < dep J C (n + 1) l := by
  have key : ∀ k, (0 ≤ depTo J C n l k) ∧ (x < k → 0 < depTo J C n l k) := by
    intro k
    induction k with
    | zero => exact ⟨by simp [depTo], fun h => by omega⟩
    | succ k ih =>
      have hj := hJ _ _ (hD (wth k l)) (hD (wto k l))
      rw [depTo_succ, stp]
      split
      · rename_i hs
        refine ⟨ih.1, fun h => ih.2 ?_⟩
        by_cases e : x = k
        · subst e; exact absurd hs (by simp [h1, h2])
        · omega
      · split
        · rename_i hp
          have := hC _ _ hp (show 0 < 1 + J (dep J C n (wth k l)) (dep J C n (wto k l)) by omega)
          exact ⟨by omega, fun _ => this⟩
        · exact ⟨by omega, fun _ => by omega⟩
  exact (key 5).2 hx
theorem split_ex {l : List Nat} (h32 : ∀ t ∈ l, t < 32) (has : l.Pairwise (· < ·)) (hl : 2 ≤ l.length) : ∃ x, x < 5 ∧ wth x l ≠ [] ∧ wto x l ≠ [] := by
  match l, hl with
  | s :: t :: r, _ =>
    have hst : s < t := (List.pairwise_cons.1 has).1 t (by simp)
    obtain ⟨x, hx, hne⟩ := bit_ne (h32 s (by simp)) (h32 t (by simp)) (by omega)
    refine ⟨x, hx, ?_⟩
    have ms : s ∈ s :: t :: r := by simp
    have mt : t ∈ s :: t :: r := by simp
    have nn : ∀ {a : List Nat} {u : Nat}, u ∈ a → a ≠ [] := fun h e => by rw [e] at h; simp at h
    cases e1 : hasX x s <;> cases e2 : hasX x t
    · rw [e1, e2] at hne; exact absurd rfl hne
    · exact ⟨nn (wth_mem.2 ⟨mt, e2⟩), nn (wto_mem.2 ⟨ms, e1⟩)⟩
    · exact ⟨nn (wth_mem.2 ⟨ms, e1⟩), nn (wto_mem.2 ⟨mt, e2⟩)⟩
    · rw [e1, e2] at hne; exact absurd rfl hne
theorem qst_pos {l : List Nat} (h32 : ∀ t ∈ l, t < 32) (has : l.Pairwise (· < ·)) (hl : 2 ≤ l.length) : 0 < qst l := by
  obtain ⟨x, hx, h1, h2⟩ := split_ex h32 has hl
  exact dep_split 31 (fun a b _ _ => by omega) (fun a b _ _ => by omega) (fun l => (dep_bdQu 31 l).1) hx h1 h2



end Go.Proofs.YtiocaopabkbgpaaDoor

namespace Go.Proofs.YtiocaopabkbgpaaDoor
open Go.RowKit

def memB (n : Int) (zs : List Int) : Int := if vldB n zs = true then qst (zs.map Int.toNat) else -1

set_option maxHeartbeats 1600000 in
set_option maxRecDepth 100000 in
theorem implMembershipDepth (n : Int) (v : Value) (zs : List Int) (w : World) (h : Rd w v zs) (hsw : SW w) :
    Calls Tryd.prog 36 #[.agg #[.int .i64 n, v]] w fun e w' => e = .returned (.int .i64 (memB n zs)) ∧ Below w.heap.size w w' := by
  have H := Lib.hid h
  have HSW := Lib.hid hsw
  clear hsw
  obtain ⟨a, b, off, cap, rfl, h1, h3, h5⟩ := h
  have B0 := Lib.hid (Box.made n (.slice a zs.length cap) w 25)
  by_cases hv : vldB n zs = true
  · obtain ⟨m, ns, rfl, rfl, hc⟩ := vldB_cls hv
    have hm := hc.pts
    have HV := Lib.hid hv
    have HT := Lib.hid (show memB m (toI ns) = qst ns by rw [memB, if_pos hv, toNat_toI])
    have HC := Lib.hid hc
    have hl := hc.length
    rw [toI_length] at h1 h3 h5 H B0 ⊢
    clear hv hc h1 h5
    go_enter Tryd.func36, Tryd.ntmps36
    go_wp2_with fail
    refine (implValid m _ (toI ns) _ (H.out.below (k := w.heap.size) (by go_grown) (Nat.le_refl _))).mono ?_
    rintro e w1 ⟨rfl, hb⟩
    rw [HV.out]
    have hs1 : w.heap.size < w1.heap.size := by have := hb.size; simp at this; omega
    have B1 := Lib.hid (B0.out.next (by simp) hb)
    clear hb
    have R1 := Lib.hid (H.out.below B1.out.below (Nat.le_refl _))
    have c0 := B1.out.at0
    have c1 := B1.out.at1
    go_wp2_with fail
    have SW1 := Lib.hid (HSW.out.next B1.out.below)
    refine (implFamilyOf m _ ns HC.out.lt32 _ R1.out).mono ?_
    rintro e w2 ⟨rfl, hb2⟩
    have B2 := Lib.hid (B1.out.next hs1 hb2)
    have SW2 := Lib.hid (SW1.out.next hb2)
    have hz2 := hb2.size
    clear hb2 c0 c1
    go_wp2_with fail
    refine (implQuestionDepth ns HC.out.lt32 hl _ SW2.out).mono ?_
    rintro e w3 ⟨rfl, hb3⟩
    have B3 := Lib.hid (B2.out.next (by omega) hb3)
    clear hb3
    go_wp2_with fail
    go_ret
    exact ⟨ret_int HT.out.symm, B3.out.below⟩
  · have HT := Lib.hid (show memB n zs = -1 by rw [memB, if_neg hv])
    rw [Bool.not_eq_true] at hv
    have HV := Lib.hid hv
    clear hv
    go_enter Tryd.func36, Tryd.ntmps36
    go_wp2_with fail
    refine (implValid n _ zs _ (H.out.below (k := w.heap.size) (by go_grown) (Nat.le_refl _))).mono ?_
    rintro e w1 ⟨rfl, hb⟩
    rw [HV.out]
    have B1 := Lib.hid (B0.out.next (by simp) hb)
    clear hb
    go_wp2_with fail
    go_ret
    exact ⟨ret_int HT.out.symm, B1.out.below⟩


end Go.Proofs.YtiocaopabkbgpaaDoor

namespace Go.Proofs.YtiocaopabkbgpaaDoor
open Go.RowKit

/-- the first of five points for which P holds -/
def fst5 (P : Nat → Bool) : Option Nat := (List.range 5).find? P
def fstN (P : Nat → Bool) : Int := ((fst5 P).getD 0 : Nat)
def fstB (P : Nat → Bool) : Bool := (fst5 P).isSome
theorem fst5_at {P : Nat → Bool} {k : Nat} (hk : k < 5) (h : P k = true) (hb : ∀ j, j < k → P j = false) : fst5 P = some k := by
  unfold fst5
  rw [List.find?_eq_some_iff_append]
  refine ⟨h, List.range k, List.range' (k + 1) (4 - k), ?_, fun j hj => by rw [hb j (List.mem_range.1 hj)]; rfl⟩
  have : k = 0 ∨ k = 1 ∨ k = 2 ∨ k = 3 ∨ k = 4 := by omega
  rcases this with rfl | rfl | rfl | rfl | rfl <;> decide
theorem fst5_none {P : Nat → Bool} (hb : ∀ j, j < 5 → P j = false) : fst5 P = none := by
  unfold fst5
  rw [List.find?_eq_none]
  intro j hj
  rw [hb j (List.mem_range.1 hj)]
  simp

/-- is the question for x good? -/
def fqP (l : List Nat) (x : Nat) : Bool := decide (max (qst (wth x l)) (qst (wto x l)) < qst l)
theorem qst_nn (l : List Nat) : 0 ≤ qst l := (dep_bdQu 32 l).1
theorem qst_top (l : List Nat) : qst l ≤ 32 := (dep_bdQu 32 l).2
theorem wto_of_nil {x : Nat} {l : List Nat} (h : wth x l = []) : wto x l = l := by
  rw [wto, List.filter_eq_self]
  intro t ht
  rw [wth, List.filter_eq_nil_iff] at h
  simpa using h t ht
theorem wth_of_nil {x : Nat} {l : List Nat} (h : wto x l = []) : wth x l = l := by
  rw [wth, List.filter_eq_self]
  intro t ht
  rw [wto, List.filter_eq_nil_iff] at h
  simpa using h t ht
theorem fqP_skip {x : Nat} {l : List Nat} (h : wth x l = [] ∨ wto x l = []) : fqP l x = false := by
  rw [fqP, decide_eq_false_iff_not]
  have := qst_nn l
  rcases h with h | h
  · rw [wto_of_nil h, h]; omega
  · rw [wth_of_nil h, h]; omega
theorem qst_min {x : Nat} {l : List Nat} (hx : x < 5) (hl : l.length ≤ 32) (h1 : wth x l ≠ []) (h2 : wto x l ≠ []) : qst l ≤ 1 + max (qst (wth x l)) (qst (wto x l)) := by
  have hlen := split_len x l h1 h2
  rw [qst_fuel (wth x l) (by omega), qst_fuel (wto x l) (by omega)]
  have key : ∀ k, x < k → depTo max min 31 l k ≤ 1 + max (dep max min 31 (wth x l)) (dep max min 31 (wto x l)) := by
    intro k
    induction k with
    | zero => intro h; omega
    | succ k ih =>
      intro h
      rw [depTo_succ, stp]
      by_cases e : x = k
      · subst e
        rw [if_neg (by simp [h1, h2])]
        split <;> omega
      · have := ih (by omega)
        have b0 := (depTo_bdQu 31 l k).1
        split
        · exact this
        · split
          · omega
          · rename_i hz
            exfalso
            have hpos : 0 < depTo max min 31 l k := by
              have key2 : ∀ j, (0 ≤ depTo max min 31 l j) ∧ (x < j → 0 < depTo max min 31 l j) := by
                intro j
                induction j with
                | zero => exact ⟨by simp [depTo], fun h => by omega⟩
                | succ j ihj =>
                  have a1 := (dep_bdQu 31 (wth j l)).1
                  have a2 := (dep_bdQu 31 (wto j l)).1
                  rw [depTo_succ, stp]
                  split
                  · rename_i hs
                    refine ⟨ihj.1, fun h => ihj.2 ?_⟩
                    by_cases e : x = j
                    · subst e; exact absurd hs (by simp [h1, h2])
                    · omega
                  · split
                    · exact ⟨by omega, fun _ => by omega⟩
                    · exact ⟨by omega, fun _ => by omega⟩
              exact (key2 k).2 (by omega)
            omega
  exact key 5 hx
theorem fqP_eq {x : Nat} {l : List Nat} (hx : x < 5) (hl : l.length ≤ 32) (h1 : wth x l ≠ []) (h2 : wto x l ≠ []) : fqP l x = decide (1 + max (qst (wth x l)) (qst (wto x l)) = qst l) := by
  have := qst_min hx hl h1 h2
  rw [fqP, decide_eq_decide]
  omega



def fqN (n : Int) (zs : List Int) : Int := if vldB n zs = true then fstN (fqP (zs.map Int.toNat)) else 0
def fqB (n : Int) (zs : List Int) : Bool := if vldB n zs = true then fstB (fqP (zs.map Int.toNat)) else false



end Go.Proofs.YtiocaopabkbgpaaDoor

namespace Go.Proofs.YtiocaopabkbgpaaDoor
open Go.RowKit

theorem mst_to {l : List Nat} (h : l ≠ []) : mst l = depTo min max 31 l 5 := by rw [mst, if_neg h]; rfl
theorem mst_part {x : Nat} {l : List Nat} (hl : l.length ≤ 32) (h1 : wth x l ≠ []) (h2 : wto x l ≠ []) : mst (wth x l) = dep min max 31 (wth x l) ∧ mst (wto x l) = dep min max 31 (wto x l) := by
  have := split_len x l h1 h2
  exact ⟨mst_ne h1 (by omega), mst_ne h2 (by omega)⟩
theorem mst_max {x : Nat} {l : List Nat} (hx : x < 5) (hl : l.length ≤ 32) (h1 : wth x l ≠ []) (h2 : wto x l ≠ []) : 1 + min (mst (wth x l)) (mst (wto x l)) ≤ mst l := by
  have hne : l ≠ [] := by
    rintro rfl
    exact h1 rfl
  rw [(mst_part hl h1 h2).1, (mst_part hl h1 h2).2, mst_to hne]
  have key : ∀ k, x < k → 1 + min (dep min max 31 (wth x l)) (dep min max 31 (wto x l)) ≤ depTo min max 31 l k := by
    intro k
    induction k with
    | zero => intro h; omega
    | succ k ih =>
      intro h
      have b1 := (dep_bdLo 31 (wth x l)).1
      have b2 := (dep_bdLo 31 (wto x l)).1
      rw [depTo_succ, stp]
      by_cases e : x = k
      · subst e
        rw [if_neg (by simp [h1, h2])]
        split <;> omega
      · have := ih (by omega)
        split
        · exact this
        · split <;> omega
  exact key 5 hx
theorem mst_att {l : List Nat} (k : Nat) (h : 0 < depTo min max 31 l k) : ∃ x, x < k ∧ wth x l ≠ [] ∧ wto x l ≠ [] ∧ depTo min max 31 l k = 1 + min (dep min max 31 (wth x l)) (dep min max 31 (wto x l)) := by
  induction k with
  | zero => simp [depTo] at h
  | succ k ih =>
    rw [depTo_succ, stp] at h ⊢
    by_cases hs : wth k l = [] ∨ wto k l = []
    · rw [if_pos hs] at h ⊢
      obtain ⟨x, hx, r⟩ := ih h
      exact ⟨x, by omega, r⟩
    · rw [if_neg hs] at h ⊢
      have hs' : wth k l ≠ [] ∧ wto k l ≠ [] := by simpa using hs
      by_cases hb : 0 < depTo min max 31 l k
      · rw [if_pos hb]
        by_cases hc : depTo min max 31 l k ≤ 1 + min (dep min max 31 (wth k l)) (dep min max 31 (wto k l))
        · exact ⟨k, by omega, hs'.1, hs'.2, by omega⟩
        · obtain ⟨x, hx, r1, r2, r3⟩ := ih hb
          exact ⟨x, by omega, r1, r2, by omega⟩
      · rw [if_neg hb]
        exact ⟨k, by omega, hs'.1, hs'.2, rfl⟩

/-- is the point x told next? -/
def wP (l : List Nat) (x : Nat) : Bool := decide (mst l - 1 ≤ min (mst (wth x l)) (mst (wto x l)))
def wX (l : List Nat) : Nat := (fst5 (wP l)).getD 0
/-- the example that is told next -/
def wEx (l : List Nat) : Int × Bool := ((wX l : Int), !gOpt l (wX l))
def wL (l : List Nat) : Nat → List Nat
  | 0 => l
  | k + 1 => kp (wL l k) (wEx (wL l k))
def wE (l : List Nat) : Nat → List (Int × Bool)
  | 0 => []
  | k + 1 => wE l k ++ [wEx (wL l k)]
theorem wE_len (l : List Nat) (k : Nat) : (wE l k).length = k := by
  induction k with
  | zero => rfl
  | succ k ih => rw [wE, List.length_append, ih]; rfl
theorem mst_nil : mst [] = -1 := by simp [mst]
theorem wP_ne {l : List Nat} {x : Nat} (h : 0 < mst l) (hp : wP l x = true) : wth x l ≠ [] ∧ wto x l ≠ [] := by
  rw [wP, decide_eq_true_eq] at hp
  constructor
  · intro e
    rw [e, mst_nil] at hp
    omega
  · intro e
    rw [e, mst_nil] at hp
    omega
theorem wP_some {l : List Nat} (hl : l.length ≤ 32) (h : 0 < mst l) : ∃ x, x < 5 ∧ wP l x = true := by
  have hne : l ≠ [] := by
    rintro rfl
    rw [mst_nil] at h
    omega
  rw [mst_to hne] at h
  obtain ⟨x, hx, h1, h2, h3⟩ := mst_att 5 h
  refine ⟨x, hx, ?_⟩
  rw [wP, decide_eq_true_eq, mst_to hne, (mst_part hl h1 h2).1, (mst_part hl h1 h2).2]
  omega
theorem w_min {l : List Nat} {x : Nat} (hx : x < 5) (hl : l.length ≤ 32) (h : 0 < mst l) (hp : wP l x = true) : min (mst (wth x l)) (mst (wto x l)) = mst l - 1 := by
  obtain ⟨h1, h2⟩ := wP_ne h hp
  have := mst_max hx hl h1 h2
  rw [wP, decide_eq_true_eq] at hp
  omega
theorem w_step {l : List Nat} (hl : l.length ≤ 32) (h : 0 < mst l) : ∃ x, x < 5 ∧ fst5 (wP l) = some x ∧ wX l = x ∧ wP l x = true ∧ mst (kp l (wEx l)) = mst l - 1 := by
  obtain ⟨y, hy, hyp⟩ := wP_some hl h
  cases hf : fst5 (wP l) with
  | none =>
    exfalso
    rw [fst5, List.find?_eq_none] at hf
    exact hf y (List.mem_range.2 hy) hyp
  | some x =>
    have hx : x < 5 := List.mem_range.1 (List.mem_of_find?_eq_some hf)
    have hp : wP l x = true := List.find?_some hf
    have hw : wX l = x := by rw [wX, hf]; rfl
    refine ⟨x, hx, rfl, hw, hp, ?_⟩
    have hm := w_min hx hl h hp
    rw [wEx, hw]
    cases hg : gOpt l x with
    | true =>
      rw [gOpt, decide_eq_true_eq] at hg
      show mst (kp l ((x : Int), false)) = _
      rw [kp_false]
      omega
    | false =>
      rw [gOpt, decide_eq_false_iff_not] at hg
      show mst (kp l ((x : Int), true)) = _
      rw [kp_true]
      omega
theorem wL_sub (l : List Nat) (k : Nat) : (∀ t ∈ wL l k, t ∈ l) ∧ (wL l k).length ≤ l.length := by
  induction k with
  | zero => exact ⟨fun t h => h, Nat.le_refl _⟩
  | succ k ih => exact ⟨fun t h => ih.1 t (List.mem_filter.1 h).1, Nat.le_trans (List.length_filter_le _ _) ih.2⟩
theorem wL_mst {l : List Nat} (hl : l.length ≤ 32) (k : Nat) (hk : (k : Int) ≤ mst l) : mst (wL l k) = mst l - k := by
  induction k with
  | zero => simp [wL]
  | succ k ih =>
    have h1 := ih (by omega)
    have h2 := (wL_sub l k).2
    obtain ⟨x, _, _, _, _, h3⟩ := w_step (l := wL l k) (by omega) (by omega)
    rw [wL, h3, h1]
    omega
theorem mst_top (l : List Nat) : -1 ≤ mst l ∧ mst l ≤ 32 := by
  unfold mst
  split
  · omega
  · have := dep_bdLo 32 l
    omega
def worL (n : Int) (zs : List Int) : List (Int × Bool) := if vldB n zs = true then wE (zs.map Int.toNat) (mst (zs.map Int.toNat)).toNat else []
theorem worL_len (n : Int) (zs : List Int) : (worL n zs).length ≤ 1048576 := by
  unfold worL
  split
  · rw [wE_len]
    have := mst_top (zs.map Int.toNat)
    omega
  · simp

end Go.Proofs.YtiocaopabkbgpaaDoor

namespace Go.Proofs.YtiocaopabkbgpaaDoor
open Go.RowKit

theorem fm_test (l : List Nat) {j : Nat} (hj : j < 32) : bits .and .u32 (fm l / 2 ^ j) 1 = if decide (j ∈ l) = true then 1 else 0 := by
  have e1 : fm l / 2 ^ j = ((famB l >>> j).toNat : Int) := by
    rw [BitVec.toNat_ushiftRight, Nat.shiftRight_eq_div_pow, fm]
    simp
  have e2 : (1 : Int) = ((1#32).toNat : Int) := by decide
  rw [e1]
  rw (occs := .pos [1]) [e2]
  rw [u32_and, BitVec.toNat_and, BitVec.toNat_ushiftRight, Nat.shiftRight_eq_div_pow, ← famB_bit l hj, BitVec.getLsbD]
  show (((famB l).toNat / 2 ^ j &&& 1 : Nat) : Int) = _
  rw [Nat.and_one_is_mod, ← Nat.toNat_testBit]
  cases (famB l).toNat.testBit j <;> rfl

set_option maxHeartbeats 3200000 in
set_option maxRecDepth 100000 in
theorem implFamClass (m : Nat) (hm : m ≤ 5) (l : List Nat) (w : World) :
    Calls Tryd.prog 51 #[.int .u32 (fm l), .int .i64 (m : Int)] w (RetClass m (toI ((List.range (2 ^ m)).filter (fun s => decide (s ∈ l)))) w) := by
  obtain ⟨K, hK⟩ : ∃ K, K = (fun s => decide (s ∈ l)) := ⟨_, rfl⟩
  have HTst := Lib.hid (fun j hj => fm_test l (j := j) hj)
  rw [← hK]
  have HKK := Lib.hid hK
  clear hK
  have hF0 : 0 ≤ fm l := by unfold fm; omega
  have hF1 : fm l < 4294967296 := by unfold fm; have := (famB l).isLt; omega
  generalize fm l = F at *
  have hw := wrap_pow m hm
  have HW := Lib.hid hw.1
  have hw2 := hw.2
  have HP := Lib.hid (show ((2 ^ m : Nat) : Int) = (2 : Int) ^ m by simp)
  clear hw
  go_enter Tryd.func51, Tryd.ntmps51
  go_wp2_with fail
  go_loopw [11] (fun i wr => ∃ (j : Nat) (a' : Option Addr) (c' : Nat), (j : Int) ≤ wrap64 (2 ^ m) ∧ i = .int .i64 j ∧ Out m (.slice a' ((List.range j).filter K).length c') (w.heap.size + 1) wr ∧ Ints (w.heap.size + 1 + 1) wr (.slice a' ((List.range j).filter K).length c') (toI ((List.range j).filter K)) ∧ Below (w.heap.size + 1) (w.alloc (Obj.cells #[.int .i64 0, .slice none 0 0] 25)) wr ∧ w.heap.size + 1 < wr.heap.size) (fun i _ => 40 - (intOf i).toNat)
  case atStart => exact ⟨0, none, 0, by omega, rfl, ⟨by simp [go_sem], by simp [go_sem], by simp [go_sem], by simp [go_sem]⟩, Ints.nil _ _, (Below.refl _ _).alloc (by simp) _, by simp⟩
  case round =>
    obtain ⟨j, a', c', hj, rfl, ho, hin, hbe, hsz⟩ := hrel
    have HO := Lib.hid ho
    have HIN := Lib.hid hin
    have HB := Lib.hid hbe
    clear ho hin hbe
    by_cases hlt : (j : Int) < wrap64 (2 ^ m)
    · have hj32 : j < 32 := by omega
      have hlook := HTst.out j hj32
      rw [show decide (j ∈ l) = K j by rw [HKK.out]] at hlook
      have hfl := filt_le K j
      by_cases hp : K j = true
      · have HF := Lib.hid (filt_yes hp)
        have HAl := Lib.hid (toI_length ((List.range j).filter K))
        rw [if_pos hp] at hlook
        clear hp
        generalize (List.range j).filter K = A at *
        have e1 := HO.out.at1
        go_wp2_with (at_builtin; refine wpList_app rfl (.tmp 20) (.tmp 22) rfl (w.heap.size + 1 + 1) _ (toI A) rfl (by exact HIN.out.alloc _) _ _ _ [(j : Int)] rfl (src_cell (by rw [World.cell?_alloc_at _ _ _ _ rfl]; rfl)) (by rw [HAl.out]; omega) (by simp; omega) ?_; intro a1 c1 w3 hin3 hb3 hg3; have hb13 : Below (w.heap.size + 1 + 1) wr w3 := Below.trans ((Below.refl _ _).alloc (by omega) _) hb3; have O3 := Lib.hid (HO.out.next hb13 (by omega)); have H13 := Lib.hid hb13; have I3 := Lib.hid hin3; clear hin3 hb3 hg3 hb13; have f1 := O3.out.at1; have g1 := O3.out.free1)
        rw [HAl.out] at I3
        go_roundw
        case rel => exact ⟨j + 1, a1, c1, by omega, by go_num, by rw [HF.out, HAl.out, List.length_append]; exact O3.out.set _, by rw [HF.out, HAl.out, List.length_append, toI_append]; exact I3.out.setCell_below (by simp) _, (HB.out.trans (H13.out.mono (by omega))).setCell (by simp) _, by have := H13.out.size; simp; omega⟩
        case measure => simp [intOf]; omega
      · rw [Bool.not_eq_true] at hp
        have HF := Lib.hid (filt_no hp)
        rw [if_neg (by rw [hp]; decide)] at hlook
        clear hp
        generalize (List.range j).filter K = A at *
        go_wp2_with fail
        go_roundw
        case rel => exact ⟨j + 1, a', c', by omega, by go_num, by rw [HF.out]; exact HO.out, by rw [HF.out]; exact HIN.out, HB.out, hsz⟩
        case measure => simp [intOf]; omega
    · have hj2 : j = 2 ^ m := by have := HW.out; have := HP.out; omega
      have HJ := Lib.hid hj2
      clear hj2
      have OR := Lib.hid ((show Out 0 (.slice none 0 0) w.heap.size (w.alloc (Obj.cells #[.int .i64 0, .slice none 0 0] 25)) from ⟨by simp [go_sem], by simp [go_sem], by simp [go_sem], by simp [go_sem]⟩).next HB.out (by omega))
      have e0 := HO.out.at0
      have e1 := HO.out.at1
      have r0 := OR.out.at0
      have r1 := OR.out.at1
      have q0 := OR.out.free0
      have q1 := OR.out.free1
      go_wp2_with fail
      refine bodyPost_ret (v := .agg #[.int .i64 (m : Int), .slice a' ((List.range j).filter K).length c']) (by simp [results, Tryd.results51, go_sem, r0, r1]) rfl ?_
      rw [← HJ.out]
      have HAl := toI_length ((List.range j).filter K)
      refine ⟨a', c', by rw [HAl], ?_, ?_⟩
      · rw [HAl]
        refine Ints.mono (B := w.heap.size + 1 + 1) ?_ (by omega)
        repeat (refine Ints.setCell_below ?_ (by simp; try omega) _)
        exact HIN.out
      · have hb0 : Below w.heap.size w wr := Below.trans (b := w.alloc (Obj.cells #[.int .i64 0, .slice none 0 0] 25)) (by go_grown) (HB.out.mono (by omega))
        clear e0 e1 r0 r1 q0 q1
        go_grown

end Go.Proofs.YtiocaopabkbgpaaDoor

namespace Go.Proofs.YtiocaopabkbgpaaDoor
open Go.RowKit

def conN (n : Int) (zs : List Int) (es : List (Int × Bool)) : Int := if vsB n zs es = true then n else 0
def conL (n : Int) (zs : List Int) (es : List (Int × Bool)) : List Int := if vsB n zs es = true then toI (nowTo (zs.map Int.toNat) es es.length) else []
theorem conL_len (n : Int) (zs : List Int) (es : List (Int × Bool)) : (conL n zs es).length ≤ 1048576 := by
  unfold conL
  split
  · rename_i hv
    have hvd : vldB n zs = true := by simp only [vsB, Bool.and_eq_true] at hv; exact hv.1
    obtain ⟨m, ns, rfl, rfl, hc⟩ := vldB_cls hvd
    rw [toI_length, toNat_toI]
    have := (nowTo_sub ns es es.length).2
    have := hc.length
    omega
  · simp
theorem nowTo_asc {ns : List Nat} (h : ns.Pairwise (· < ·)) (es : List (Int × Bool)) (k : Nat) : (nowTo ns es k).Pairwise (· < ·) := by
  induction k with
  | zero => exact h
  | succ k ih => exact ih.filter _
theorem range_mem {n : Nat} {l : List Nat} (ha : l.Pairwise (· < ·)) (hl : ∀ t ∈ l, t < n) : (List.range n).filter (fun s => decide (s ∈ l)) = l := by
  have h1 : ((List.range n).filter (fun s => decide (s ∈ l))).Pairwise (· < ·) := List.Pairwise.filter _ List.pairwise_lt_range
  have hp : List.Perm ((List.range n).filter (fun s => decide (s ∈ l))) l := by
    apply (List.perm_ext_iff_of_nodup (List.nodup_range.filter _) (ha.imp (fun h => Nat.ne_of_lt h))).2
    intro s
    rw [List.mem_filter, List.mem_range, decide_eq_true_eq]
    exact ⟨fun h => h.2, fun h => ⟨hl s h, h⟩⟩
  exact hp.eq_of_pairwise (fun a b _ _ h1 h2 => by omega) h1 ha

set_option maxHeartbeats 6400000 in
set_option maxRecDepth 100000 in
theorem implConsistentOf (n : Int) (v : Value) (zs : List Int) (u : Value) (es : List (Int × Bool)) (w : World) (h : Rd w v zs) (hu : RdE w u es) (hsw : SW w) :
    Calls Tryd.prog 12 #[.agg #[.int .i64 n, v], u] w (RetClass (conN n zs es) (conL n zs es) w) := by
  have H := Lib.hid h
  have HU := Lib.hid hu
  have HSW := Lib.hid hsw
  have HVS := Lib.hid (fun w h hu => implValidSample n v zs u es w h hu)
  obtain ⟨a, b, off, cap, rfl, _, _, _⟩ := h
  obtain ⟨a2, b2, off2, cap2, rfl, he1, _, he5⟩ := hu
  have HE1 := Lib.hid he1
  have HE5 := Lib.hid he5
  clear he1 he5 hsw
  by_cases hv : vsB n zs es = true
  · have hvd : vldB n zs = true := by simp only [vsB, Bool.and_eq_true] at hv; exact hv.1
    have hpt : ptsTo n es es.length = true := by simp only [vsB, Bool.and_eq_true] at hv; exact hv.2.2
    have h12 : es.length ≤ 12 := by simp only [vsB, Bool.and_eq_true, decide_eq_true_eq] at hv; exact hv.2.1
    have HV := Lib.hid hv
    obtain ⟨m, ns, rfl, rfl, hc⟩ := vldB_cls hvd
    have hm := hc.pts
    have HC := Lib.hid hc
    have hl := hc.length
    have HP := Lib.hid hpt
    have HN := Lib.hid (show conN m (toI ns) es = m by rw [conN, if_pos hv])
    have HT := Lib.hid (show conL m (toI ns) es = toI (nowTo ns es es.length) by rw [conL, if_pos hv, toNat_toI])
    have HR := Lib.hid (range_mem (n := 2 ^ m) (nowTo_asc hc.asc es es.length) (fun t ht => hc.lt t ((nowTo_sub ns es es.length).1 t ht)))
    rw [toI_length] at H HVS ⊢
    have OB := Lib.hid (show Out m (.slice a ns.length cap) w.heap.size ((w.alloc (Obj.cells #[.int .i64 (m : Int), .slice a ns.length cap] 25)).alloc (Obj.cells #[.int .i64 0, .slice none 0 0] 25)) from ⟨by simp [go_sem], by simp [go_sem], by simp [go_sem], by simp [go_sem]⟩)
    have OR := Lib.hid (show Out 0 (.slice none 0 0) (w.heap.size + 1) ((w.alloc (Obj.cells #[.int .i64 (m : Int), .slice a ns.length cap] 25)).alloc (Obj.cells #[.int .i64 0, .slice none 0 0] 25)) from ⟨by simp [go_sem], by simp [go_sem], by simp [go_sem], by simp [go_sem]⟩)
    clear hv hvd hpt hc
    go_enter Tryd.func12, Tryd.ntmps12
    go_wp2_with fail
    refine (HVS.out _ (H.out.below (k := w.heap.size) (by go_grown) (Nat.le_refl _)) (HU.out.below (k := w.heap.size) (by go_grown) (Nat.le_refl _))).mono ?_
    rintro e w1 ⟨rfl, hb⟩
    rw [HV.out]
    have hs1 : w.heap.size + 1 < w1.heap.size := by have := hb.size; simp at this; omega
    have OB1 := Lib.hid (OB.out.next hb (by simp only [World.size_alloc]; omega))
    have OR1 := Lib.hid (OR.out.next hb (by simp only [World.size_alloc]; omega))
    have HB1 := Lib.hid (show Below w.heap.size w w1 from Below.trans (by go_grown) (hb.mono (by simp; omega)))
    clear hb
    have R1 := Lib.hid (H.out.below HB1.out (Nat.le_refl _))
    have c0 := OB1.out.at0
    have c1 := OB1.out.at1
    go_wp2_with fail
    refine (implFamilyOf m _ ns HC.out.lt32 _ R1.out).mono ?_
    rintro e w2 ⟨rfl, hb2⟩
    have hs2 : w.heap.size + 1 < w2.heap.size := by have := hb2.size; omega
    have OB2 := Lib.hid (OB1.out.next hb2 (by omega))
    have OR2 := Lib.hid (OR1.out.next hb2 hs1)
    have HB2 := Lib.hid (HB1.out.trans (hb2.mono (by omega)))
    clear hb2 c0 c1
    go_wp2_with fail
    go_loopw [5, 17] (fun f i wr => ∃ k : Nat, k ≤ es.length ∧ i = .int .i64 k ∧ f = .int .u32 (fm (nowTo ns es k)) ∧ Below w2.heap.size w2 wr) (fun _ i _ => es.length - (intOf i).toNat)
    case atStart => exact ⟨0, Nat.zero_le _, rfl, rfl, Below.refl _ _⟩
    case round =>
      obtain ⟨k, hk, rfl, rfl, hbe⟩ := hrel
      have BE := Lib.hid hbe
      have hz := hbe.size
      have HBW := Lib.hid (HB2.out.trans (hbe.mono (by omega)))
      have SW2 := Lib.hid (HSW.out.next HBW.out)
      clear hbe
      by_cases hlt : k < es.length
      · obtain ⟨rfl, hbl⟩ := HE1.out (by omega)
        have hc0 := (HBW.out.cell (p := ⟨b2, off2 + k * 2, none⟩) hbl).trans (HE5.out k hlt).1
        have hc1 := (HBW.out.cell (p := ⟨b2, off2 + k * 2 + 1, none⟩) hbl).trans (HE5.out k hlt).2
        obtain ⟨hp0, hp1⟩ := pts_at HP.out hlt
        have HE := Lib.hid (show es.getD k (0, false) = ((es.getD k (0, false)).1, (es.getD k (0, false)).2) from rfl)
        have HNS := Lib.hid (show nowTo ns es (k + 1) = kp (nowTo ns es k) (es.getD k (0, false)) from rfl)
        rw [HE.out] at HNS
        obtain ⟨x, hx⟩ := Int.eq_ofNat_of_zero_le hp0
        rw [hx] at hc0 hp0 hp1 HNS
        generalize (es.getD k (0, false)).2 = lb at *
        have hx5 : x < 5 := by omega
        clear hx HE
        generalize nowTo ns es k = L at *
        have HF := Lib.hid (fun w h => implFitting L x lb hx5 w h)
        have EX := Lib.hid (show Below wr.heap.size wr (wr.alloc (Obj.cells #[.int .i64 (x : Int), .bool lb] 59)) from (Below.refl _ _).alloc (Nat.le_refl _) _)
        have EZ := Lib.hid (show wr.heap.size < (wr.alloc (Obj.cells #[.int .i64 (x : Int), .bool lb] 59)).heap.size by simp)
        have e0 := (show (wr.alloc (Obj.cells #[.int .i64 (x : Int), .bool lb] 59)).cell? ⟨wr.heap.size, 0, none⟩ = some (.int .i64 (x : Int)) by simp [go_sem])
        have e1 := (show (wr.alloc (Obj.cells #[.int .i64 (x : Int), .bool lb] 59)).cell? ⟨wr.heap.size, 1, none⟩ = some (.bool lb) by simp [go_sem])
        have HSE := Lib.hid (SW2.out.next EX.out)
        go_wp2_with fail
        generalize (wr.alloc (Obj.cells #[.int .i64 (x : Int), .bool lb] 59)) = we at *
        refine (HF.out _ HSE.out).mono ?_
        rintro e w6 ⟨rfl, hb6⟩
        have B6 := Lib.hid (EX.out.trans (hb6.mono (Nat.le_of_lt EZ.out)))
        clear hb6 e0 e1
        go_wp2_with fail
        go_roundw
        case rel => exact ⟨k + 1, by omega, by go_num, by rw [HNS.out], BE.out.trans (B6.out.mono hz)⟩
        case measure => simp [intOf]; omega
      · obtain rfl : k = es.length := by omega
        have OB3 := Lib.hid (OB2.out.next BE.out (by omega))
        have OR3 := Lib.hid (OR2.out.next BE.out hs2)
        have HFC := Lib.hid (fun w => implFamClass m hm (nowTo ns es es.length) w)
        rw [HR.out] at HFC
        generalize nowTo ns es es.length = L at *
        have d0 := OB3.out.at0
        have d1 := OB3.out.at1
        have hs3 : w.heap.size + 1 < wr.heap.size := by omega
        go_wp2_with fail
        refine (HFC.out _).mono ?_
        rintro e w4 ⟨a4, c4, rfl, hin4, hb4⟩
        have hz4 := hb4.size
        have OR4 := Lib.hid (OR3.out.next hb4 (by omega))
        have HIN := Lib.hid hin4
        have HB4 := Lib.hid (show Below w.heap.size w w4 from HBW.out.trans (hb4.mono (by omega)))
        clear hin4 hb4 d0 d1
        have r0 := OR4.out.at0
        have r1 := OR4.out.at1
        have q0 := OR4.out.free0
        have q1 := OR4.out.free1
        go_wp2_with fail
        refine bodyPost_ret (v := .agg #[.int .i64 (m : Int), .slice a4 (toI L).length c4]) (by simp [results, Tryd.results12, go_sem, r0, r1]) rfl ?_
        rw [HN.out, HT.out]
        refine ⟨a4, c4, rfl, ?_, ?_⟩
        · refine Ints.mono (B := wr.heap.size) ?_ (by omega)
          repeat (refine Ints.setCell_below ?_ (by simp; omega) _)
          exact HIN.out
        · have hb0 := HB4.out
          clear r0 r1 q0 q1
          go_grown
  · have HN := Lib.hid (show conN n zs es = 0 by rw [conN, if_neg hv])
    have HT := Lib.hid (show conL n zs es = [] by rw [conL, if_neg hv])
    rw [Bool.not_eq_true] at hv
    have HV := Lib.hid hv
    clear hv
    go_enter Tryd.func12, Tryd.ntmps12
    go_wp2_with fail
    refine (HVS.out _ (H.out.below (k := w.heap.size) (by go_grown) (Nat.le_refl _)) (HU.out.below (k := w.heap.size) (by go_grown) (Nat.le_refl _))).mono ?_
    rintro e w1 ⟨rfl, hb⟩
    rw [HV.out]
    obtain ⟨hc, hf⟩ := bcell hb
    have Hb := Lib.hid hb
    clear hb
    go_wp2_with fail
    refine bodyPost_ret (v := .agg #[.int .i64 0, .slice none 0 0]) (by simp [results, Tryd.results12, go_sem, hc]) rfl ?_
    rw [HN.out, HT.out]
    refine ⟨none, 0, rfl, Ints.nil _ _, ?_⟩
    have hb0 : Below w.heap.size w w1 := Below.trans (by go_grown) (Hb.out.mono (by simp; omega))
    clear hc hf
    go_grown

end Go.Proofs.YtiocaopabkbgpaaDoor

namespace Go.Proofs.YtiocaopabkbgpaaDoor
open Go.RowKit

theorem depTo_att (n : Nat) (l : List Nat) (k : Nat) (hk : k ≤ 5) : depTo max min n l k = 0 ∨ ∃ x, x < k ∧ wth x l ≠ [] ∧ wto x l ≠ [] ∧ depTo max min n l k = 1 + max (dep max min n (wth x l)) (dep max min n (wto x l)) := by
  induction k with
  | zero => left; simp [depTo]
  | succ k ih =>
    rw [depTo_succ, stp]
    by_cases h : wth k l = [] ∨ wto k l = []
    · rw [if_pos h]
      rcases ih (by omega) with h0 | ⟨x, hx, h1, h2, h3⟩
      · exact .inl h0
      · exact .inr ⟨x, by omega, h1, h2, h3⟩
    · rw [if_neg h]
      have h' : wth k l ≠ [] ∧ wto k l ≠ [] := ⟨fun e => h (.inl e), fun e => h (.inr e)⟩
      split
      · rcases ih (by omega) with h0 | ⟨x, hx, h1, h2, h3⟩
        · omega
        · right
          by_cases e : depTo max min n l k ≤ 1 + max (dep max min n (wth k l)) (dep max min n (wto k l))
          · rw [Int.min_eq_left e]
            exact ⟨x, by omega, h1, h2, h3⟩
          · rw [Int.min_eq_right (by omega)]
            exact ⟨k, by omega, h'.1, h'.2, rfl⟩
      · exact .inr ⟨k, by omega, h'.1, h'.2, rfl⟩
theorem qst_att {l : List Nat} (hl : l.length ≤ 32) (hq : 0 < qst l) : ∃ x, x < 5 ∧ fqP l x = true := by
  rcases depTo_att 31 l 5 (by omega) with h0 | ⟨x, hx, h1, h2, h3⟩
  · have : qst l = depTo max min 31 l 5 := rfl
    omega
  · refine ⟨x, hx, ?_⟩
    rw [fqP_eq hx hl h1 h2, decide_eq_true_eq]
    have hlen := split_len x l h1 h2
    rw [qst_fuel (wth x l) (by omega), qst_fuel (wto x l) (by omega), ← h3]
    rfl
theorem fq_none {m : Nat} {ns : List Nat} (h : Cls m ns) (hb : fstB (fqP ns) = false) : ns.length < 2 := by
  rw [← Nat.not_le]
  intro h2
  obtain ⟨x, hx, hp⟩ := qst_att h.length (qst_pos h.lt32 h.asc h2)
  rw [fstB, fst5, Option.isSome_eq_false_iff, Option.isNone_iff_eq_none, List.find?_eq_none] at hb
  exact hb x (List.mem_range.2 hx) hp
theorem fq_some {m : Nat} {ns : List Nat} (h : Cls m ns) (hb : fstB (fqP ns) = true) : ∃ x : Nat, fstN (fqP ns) = (x : Int) ∧ x < m ∧ 1 + max (qst (wth x ns)) (qst (wto x ns)) = qst ns := by
  rw [fstB] at hb
  obtain ⟨x, hx⟩ := Option.isSome_iff_exists.1 hb
  have hp := List.find?_some hx
  have hm := List.mem_range.1 (List.mem_of_find?_eq_some hx)
  have hn : ¬ (wth x ns = [] ∨ wto x ns = []) := fun e => by rw [fqP_skip e] at hp; exact absurd hp (by decide)
  have h1 : wth x ns ≠ [] := fun e => hn (.inl e)
  have h2 : wto x ns ≠ [] := fun e => hn (.inr e)
  refine ⟨x, ?_, ?_, ?_⟩
  · rw [fstN, hx]; rfl
  · rw [← Nat.not_le]
    intro hle
    exact h1 (wth_nil h.lt hle)
  · rw [fqP_eq hm h.length h1 h2, decide_eq_true_eq] at hp
    exact hp
theorem vs_one {m x : Nat} {ns : List Nat} {l : Bool} (hv : vldB (m : Int) (toI ns) = true) (hx : x < m) : vsB (m : Int) (toI ns) [((x : Int), l)] = true := by
  rw [vsB_in hv]
  simp [ptsTo, hx]
theorem con_yes {m x : Nat} {ns : List Nat} (hv : vldB (m : Int) (toI ns) = true) (hx : x < m) : conN (m : Int) (toI ns) [((x : Int), true)] = m ∧ conL (m : Int) (toI ns) [((x : Int), true)] = toI (wth x ns) := by
  rw [conN, conL, if_pos (vs_one hv hx), if_pos (vs_one hv hx), toNat_toI]
  refine ⟨rfl, ?_⟩
  show toI (kp ns ((x : Int), true)) = _
  rw [kp_true]
theorem con_no {m x : Nat} {ns : List Nat} (hv : vldB (m : Int) (toI ns) = true) (hx : x < m) : conN (m : Int) (toI ns) [((x : Int), false)] = m ∧ conL (m : Int) (toI ns) [((x : Int), false)] = toI (wto x ns) := by
  rw [conN, conL, if_pos (vs_one hv hx), if_pos (vs_one hv hx), toNat_toI]
  refine ⟨rfl, ?_⟩
  show toI (kp ns ((x : Int), false)) = _
  rw [kp_false]
theorem cls_filter {m : Nat} {ns : List Nat} (h : Cls m ns) (P : Nat → Bool) : Cls m (ns.filter P) :=
  ⟨h.pts, h.asc.filter _, fun t ht => h.lt t (List.mem_filter.1 ht).1⟩
theorem mem_cls {m : Nat} {ns : List Nat} (h : Cls m ns) : memB (m : Int) (toI ns) = qst ns := by rw [memB, if_pos (cls_vldB h), toNat_toI]
/-- one example in a block of its own -/
theorem oneEx (w : World) (x : Int) (l : Bool) : RdE (w.alloc (Obj.cells #[.int .i64 x, .bool l] 59)) (.slice (some ⟨w.heap.size, 0, none⟩) 1 1) [(x, l)] := by
  refine ⟨some ⟨w.heap.size, 0, none⟩, w.heap.size, 0, 1, rfl, fun _ => ⟨rfl, by simp⟩, by simp, fun j hj => ?_⟩
  obtain rfl : j = 0 := by simpa using hj
  exact ⟨by simp [go_sem], by simp [go_sem]⟩

end Go.Proofs.YtiocaopabkbgpaaDoor
