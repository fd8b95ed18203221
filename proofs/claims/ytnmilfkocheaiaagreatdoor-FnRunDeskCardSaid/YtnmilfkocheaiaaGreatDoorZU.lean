/- Slices of examples: read, made anew, compared. Conditions: at most 1048576 of them. ValidSample, the program's and the model's. Conditions: Sets is a slice of ints, the list one of examples. Sets of sets as the bits of a number: familyOf, split. Conditions: the table setsWith reads as its initialiser lays it. The model's fits. Conditions: the set is small, the point is below 5. The first ones of a list that meet a test. No conditions. The model's fits, keep, yes, no. Conditions: sets is a slice of small sets, the point is below 5. The sets that fit an example: fitting. Conditions: the point is one of five; the table setsWith is laid. What is left of sets behind examples. No program of its own. The program's familyOf. Conditions: Sets is a slice of small sets. The program's class of a family. No conditions. ConsistentOf, the program's. Conditions: Sets is a slice of ints, the list one of examples; the table setsWith is laid. -/
import Derived.Deep.RegionHeld3
import Derived.Test.YtnmilfkocheaiaaGreatDoorZA
import Derived.Test.YtnmilfkocheaiaaGreatDoorZB
import Derived.Test.YtnmilfkocheaiaaGreatDoorZD
import Derived.Test.YtnmilfkocheaiaaGreatDoorZH
namespace Go.Proofs.YtnmilfkocheaiaaGreatDoor
open Go.RowKit

theorem info5 : (Tryz.prog.info? 97).map (fun i => (i.zero, i.size, i.bytes)) = some (some (.agg #[.int .i64 0, .bool false]), 2, 16) := by kernel_rfl

/-- the slice v, wherever it lies, reads as the examples es -/
def RdE (w : World) (v : Value) (es : List (Int × Bool)) : Prop :=
  ∃ (a : Option Addr) (b off cap : Nat), v = .slice a es.length cap ∧ (0 < es.length → a = some ⟨b, off, none⟩ ∧ b < w.heap.size) ∧ es.length ≤ 9223372036854775807 ∧
    ∀ j, j < es.length → w.cell? ⟨b, off + j * 2, none⟩ = some (.int .i64 (es.getD j (0, false)).1) ∧ w.cell? ⟨b, off + j * 2 + 1, none⟩ = some (.bool (es.getD j (0, false)).2)

theorem RdE.below {k : Nat} {w w' : World} {v : Value} {es : List (Int × Bool)} (h : RdE w v es) (hb : Below k w w') (hk : w.heap.size ≤ k) : RdE w' v es := by
  obtain ⟨a, b, off, cap, e, h1, h3, h5⟩ := h
  refine ⟨a, b, off, cap, e, fun h => ⟨(h1 h).1, Nat.lt_of_lt_of_le (h1 h).2 hb.size⟩, h3, fun j hj => ?_⟩
  have hlt : b < k := Nat.lt_of_lt_of_le (h1 (by omega)).2 hk
  rw [hb.cell (p := ⟨b, off + j * 2, none⟩) hlt, hb.cell (p := ⟨b, off + j * 2 + 1, none⟩) hlt]
  exact h5 j hj

/-- the cells of examples -/
def flatE (es : List (Int × Bool)) : List Value := es.flatMap (fun e => [.int .i64 e.1, .bool e.2])
theorem flatE_length (es : List (Int × Bool)) : (flatE es).length = es.length * 2 := by
  induction es with
  | nil => rfl
  | cons e es ih => simp [flatE] at ih ⊢; omega
theorem flatE_at (es : List (Int × Bool)) (k : Nat) (hk : k < es.length) : (flatE es)[k * 2]? = some (.int .i64 (es.getD k (0, false)).1) ∧ (flatE es)[k * 2 + 1]? = some (.bool (es.getD k (0, false)).2) := by
  induction es generalizing k with
  | nil => simp at hk
  | cons e es ih =>
    cases k with
    | zero => simp [flatE]
    | succ k =>
      have := ih k (by simpa using hk)
      have e1 : flatE (e :: es) = .int .i64 e.1 :: .bool e.2 :: flatE es := rfl
      rw [e1, show (k + 1) * 2 = k * 2 + 1 + 1 by omega]
      simpa using this

/-- the slice v is owned from block B on and reads as es -/
def ExS (B : Nat) (w : World) (v : Value) (es : List (Int × Bool)) : Prop := w.ownsRow B 97 2 v es.length (flatE es)
theorem ExS.below {B k : Nat} {w w' : World} {v : Value} {es : List (Int × Bool)} (h : ExS B w v es) (hb : Below k w w') (hk : w.heap.size ≤ k) : ExS B w' v es := by
  refine ⟨h.1, ?_⟩
  rcases h.2 with h2 | ⟨g, cap, cur, e, hB, hg, r⟩
  · exact .inl h2
  · refine .inr ⟨g, cap, cur, e, hB, ?_, r⟩
    rw [hb.block g (Nat.lt_of_lt_of_le (Array.getElem?_eq_some_iff.1 hg).1 hk)]
    exact hg
theorem ExS.rd {B : Nat} {w : World} {v : Value} {es : List (Int × Bool)} (h : ExS B w v es) : RdE w v es := by
  have h' := h
  rcases h.2 with ⟨rfl, hn⟩ | ⟨g, cap, cur, rfl, hb, hg, hnc, hcm, hcs, htake⟩
  · have : es = [] := List.eq_nil_of_length_eq_zero hn
    subst this
    exact ⟨none, 0, 0, 0, rfl, fun h => by simp at h, by simp, fun j hj => by simp at hj⟩
  · refine ⟨some ⟨g, 0, none⟩, g, 0, cap, rfl, fun _ => ⟨rfl, (Array.getElem?_eq_some_iff.1 hg).1⟩, by unfold maxLen at hcm; omega, fun j hj => ?_⟩
    have e := flatE_at es j hj
    rw [Nat.zero_add, World.ownsRow.cellAt h' (j * 2) (by omega), World.ownsRow.cellAt h' (j * 2 + 1) (by omega)]
    exact e

/-- what a call answers whose result is examples of its own -/
def RetEx (es : List (Int × Bool)) (w : World) (e : Ending) (w' : World) : Prop :=
  ∃ a cap, e = .returned (.slice a es.length cap) ∧ ExS w.heap.size w' (.slice a es.length cap) es ∧ Below w.heap.size w w'




theorem flat_ext {xs : List Value} {es : List (Int × Bool)} (hl : xs.length = es.length * 2) (h : ∀ j, j < es.length → xs[j * 2]? = some (.int .i64 (es.getD j (0, false)).1) ∧ xs[j * 2 + 1]? = some (.bool (es.getD j (0, false)).2)) : xs = flatE es := by
  apply List.ext_getElem?
  intro i
  by_cases hi : i < es.length * 2
  · have e := flatE_at es (i / 2) (by omega)
    have e2 := h (i / 2) (by omega)
    rcases (show i = i / 2 * 2 ∨ i = i / 2 * 2 + 1 by omega) with hc | hc
    · rw [hc, e.1, e2.1]
    · rw [hc, e.2, e2.2]
  · rw [List.getElem?_eq_none (by omega), List.getElem?_eq_none (by rw [flatE_length]; omega)]


/-- are the first n the same? -/
def eqToE (za zb : List (Int × Bool)) (n : Nat) : Prop := ∀ j, j < n → za.getD j (0, false) = zb.getD j (0, false)


end Go.Proofs.YtnmilfkocheaiaaGreatDoor

namespace Go.Proofs.YtnmilfkocheaiaaGreatDoor
open Go.RowKit

/-- are all points of the first k in 0..n-1? -/
def ptsTo (n : Int) (es : List (Int × Bool)) (k : Nat) : Bool := (List.range k).all (fun j => decide (0 ≤ (es.getD j (0, false)).1) && decide ((es.getD j (0, false)).1 < n))
theorem ptsTo_yes {n : Int} {es : List (Int × Bool)} {k : Nat} (h : ptsTo n es k = true) (h1 : 0 ≤ (es.getD k (0, false)).1) (h2 : (es.getD k (0, false)).1 < n) : ptsTo n es (k + 1) = true := by
  simp only [ptsTo, List.range_succ, List.all_append, List.all_cons, List.all_nil, Bool.and_true, Bool.and_eq_true, decide_eq_true_eq] at h ⊢
  exact ⟨h, h1, h2⟩
theorem ptsTo_no {n : Int} {es : List (Int × Bool)} {k m : Nat} (hk : k < m) (h : ¬ (0 ≤ (es.getD k (0, false)).1 ∧ (es.getD k (0, false)).1 < n)) : ptsTo n es m = false := by
  rw [← Bool.not_eq_true]
  intro hh
  simp only [ptsTo, List.all_eq_true, List.mem_range, Bool.and_eq_true, decide_eq_true_eq] at hh
  exact h (hh k hk)
/-- ValidSample's answer -/
def vsB (n : Int) (zs : List Int) (es : List (Int × Bool)) : Bool := vldB n zs && (decide (es.length ≤ 12) && ptsTo n es es.length)
theorem vsB_bad {n : Int} {zs : List Int} {es : List (Int × Bool)} (h : vldB n zs = false) : vsB n zs es = false := by simp [vsB, h]
theorem vsB_in {n : Int} {zs : List Int} {es : List (Int × Bool)} (h : vldB n zs = true) : vsB n zs es = (decide (es.length ≤ 12) && ptsTo n es es.length) := by simp [vsB, h]



/-- what the closure captures -/
def VCap (n : Int) (v : Value) (zs : List Int) (o : Nat) (w : World) : Prop := w.cell? ⟨o, 0, none⟩ = some (.int .i64 n) ∧ w.cell? ⟨o, 1, none⟩ = some v ∧ Rd w v zs ∧ o < w.heap.size
theorem VCap.next {n : Int} {v : Value} {zs : List Int} {o : Nat} {w w' : World} (h : VCap n v zs o w) (hb : Below w.heap.size w w') : VCap n v zs o w' :=
  ⟨(hb.cell (p := ⟨o, 0, none⟩) h.2.2.2).trans h.1, (hb.cell (p := ⟨o, 1, none⟩) h.2.2.2).trans h.2.1, h.2.2.1.below hb (Nat.le_refl _), Nat.lt_of_lt_of_le h.2.2.2 hb.size⟩





end Go.Proofs.YtnmilfkocheaiaaGreatDoor

namespace Go.Proofs.YtnmilfkocheaiaaGreatDoor
open Go.RowKit

/-- the sets below 32 that have the point x, as bits -/
def swZ : List Int := [2863311530, 3435973836, 4042322160, 4278255360, 4294901760]
def sw (x : Nat) : BitVec 32 := BitVec.ofInt 32 (swZ.getD x 0)
/-- the table -/
def SW (w : World) : Prop := 5 < w.heap.size ∧ ∀ x, x < 5 → w.cell? ⟨5, x, none⟩ = some (.int .u32 (swZ.getD x 0))
theorem SW.below {w w' : World} {B : Nat} (h : SW w) (hb : Below B w w') (hB : 5 < B) : SW w' :=
  ⟨Nat.lt_of_lt_of_le h.1 hb.size, fun x hx => by rw [hb.cell (p := ⟨5, x, none⟩) hB]; exact h.2 x hx⟩
theorem SW.next {w w' : World} (h : SW w) (hb : Below w.heap.size w w') : SW w' := h.below hb h.1

theorem sw_bit {x s : Nat} (hx : x < 5) (hs : s < 32) : (sw x).getLsbD s = hasX x s := by
  have key : ∀ x : Fin 5, ∀ s : Fin 32, (sw x).getLsbD s = hasX x s := by decide +kernel
  exact key ⟨x, hx⟩ ⟨s, hs⟩
theorem sw_int {x : Nat} (hx : x < 5) : swZ.getD x 0 = ((sw x).toNat : Int) := by
  have key : ∀ x : Fin 5, swZ.getD x 0 = ((sw x).toNat : Int) := by decide +kernel
  exact key ⟨x, hx⟩

/-- the sets of a list, as bits -/
def famB : List Nat → BitVec 32
  | [] => 0
  | s :: l => famB l ||| (1#32 <<< s)
def fm (l : List Nat) : Int := ((famB l).toNat : Int)
theorem famB_bit (l : List Nat) {s : Nat} (hs : s < 32) : (famB l).getLsbD s = decide (s ∈ l) := by
  induction l with
  | nil => simp [famB]
  | cons t l ih =>
    rw [famB, BitVec.getLsbD_or, ih, Bool.eq_iff_iff]
    simp [hs]
    constructor
    · rintro (h | ⟨h1, h2⟩)
      · exact .inr h
      · exact .inl (by omega)
    · rintro (rfl | h)
      · exact .inr ⟨Nat.le_refl _, by omega⟩
      · exact .inl h
theorem famB_ext {a : BitVec 32} {l : List Nat} (h : ∀ s, s < 32 → a.getLsbD s = decide (s ∈ l)) : a = famB l := by
  apply BitVec.eq_of_getLsbD_eq
  intro s hs
  rw [h s hs, famB_bit l hs]
theorem fm_nil : fm [] = 0 := by simp [fm, famB]
theorem fm_ne {l : List Nat} (h32 : ∀ s ∈ l, s < 32) : fm l ≠ 0 ↔ l ≠ [] := by
  constructor
  · rintro h rfl
    exact h fm_nil
  · intro h h0
    cases l with
    | nil => exact h rfl
    | cons t l =>
      have h1 : famB (t :: l) = 0 := by
        apply BitVec.eq_of_toNat_eq
        unfold fm at h0
        simp
        omega
      have h2 := famB_bit (t :: l) (h32 t (by simp))
      rw [h1] at h2
      simp at h2
theorem ofInt_toNat (b : BitVec 32) : BitVec.ofInt 32 (b.toNat : Int) = b := by simp
theorem wrap_u32 (c : BitVec 32) : IntKind.u32.wrap (c.toNat : Int) = (c.toNat : Int) := by
  have := c.isLt
  simp [IntKind.wrap, IntKind.bits, IntKind.signed]
  omega
theorem u32_and (a b : BitVec 32) : bits .and .u32 (a.toNat : Int) (b.toNat : Int) = ((a &&& b).toNat : Int) := by
  show IntKind.u32.wrap ((BitVec.ofInt 32 (a.toNat : Int) &&& BitVec.ofInt 32 (b.toNat : Int)).toNat : Int) = _
  rw [ofInt_toNat, ofInt_toNat]
  exact wrap_u32 _
theorem u32_andNot (a b : BitVec 32) : bits .andNot .u32 (a.toNat : Int) (b.toNat : Int) = ((a &&& ~~~ b).toNat : Int) := by
  show IntKind.u32.wrap ((BitVec.ofInt 32 (a.toNat : Int) &&& ~~~ BitVec.ofInt 32 (b.toNat : Int)).toNat : Int) = _
  rw [ofInt_toNat, ofInt_toNat]
  exact wrap_u32 _
theorem u32_or (a b : BitVec 32) : bits .or .u32 (a.toNat : Int) (b.toNat : Int) = ((a ||| b).toNat : Int) := by
  show IntKind.u32.wrap ((BitVec.ofInt 32 (a.toNat : Int) ||| BitVec.ofInt 32 (b.toNat : Int)).toNat : Int) = _
  rw [ofInt_toNat, ofInt_toNat]
  exact wrap_u32 _
/-- those that have x, and those that do not -/
def wth (x : Nat) (l : List Nat) : List Nat := l.filter (fun s => hasX x s)
def wto (x : Nat) (l : List Nat) : List Nat := l.filter (fun s => !hasX x s)
theorem fm_wth {x : Nat} (hx : x < 5) (l : List Nat) : bits .and .u32 (fm l) (swZ.getD x 0) = fm (wth x l) := by
  rw [sw_int hx, fm, u32_and, fm]
  congr 2
  apply famB_ext
  intro s hs
  rw [BitVec.getLsbD_and, famB_bit l hs, sw_bit hx hs, Bool.eq_iff_iff]
  simp [wth]
theorem fm_wto {x : Nat} (hx : x < 5) (l : List Nat) : bits .andNot .u32 (fm l) (swZ.getD x 0) = fm (wto x l) := by
  rw [sw_int hx, fm, u32_andNot, fm]
  congr 2
  apply famB_ext
  intro s hs
  rw [BitVec.getLsbD_and, BitVec.getLsbD_not, famB_bit l hs, sw_bit hx hs, Bool.eq_iff_iff]
  simp [wto, hs]

set_option maxHeartbeats 800000 in
theorem implSplit (l : List Nat) (x : Nat) (hx : x < 5) (w : World) (h : SW w) :
    Calls Tryz.prog 154 #[.int .u32 (fm l), .int .i64 (x : Int)] w fun e w' => e = .returned (.tuple #[.int .u32 (fm (wth x l)), .int .u32 (fm (wto x l))]) ∧ ∃ d, w' = w.drewN d := by
  have hc := h.2 x hx
  have h1 := fm_wth hx l
  have h2 := fm_wto hx l
  generalize swZ.getD x 0 = z at *
  generalize fm l = F at *
  generalize fm (wth x l) = F1 at *
  generalize fm (wto x l) = F2 at *
  have hx5 : (x : Int) < 5 := by omega
  go_enter Tryz.func154, Tryz.ntmps154
  go_wp2_with fail
  go_quiet (fail)
  go_wp2_with fail
  refine bodyPost_ret (v := .tuple #[.int .u32 F1, .int .u32 F2]) (by simp [results, Tryz.results154, go_sem]) rfl ?_
  exact ⟨rfl, nq, rfl⟩

end Go.Proofs.YtnmilfkocheaiaaGreatDoor

namespace Go.Proofs.YtnmilfkocheaiaaGreatDoor
open Go.RowKit

set_option maxHeartbeats 800000 in
theorem specFits (s x : Nat) (l : Bool) (hs : s < 32) (hx : x < 5) (w : World) :
    Calls Tryz.prog 116 #[.int .i64 (s : Int), .agg #[.int .i64 (x : Int), .bool l]] w fun e w' => e = .returned (.bool (hasX x s == l)) ∧ Below w.heap.size w w' := by
  have HH := Lib.hid (fun w => specHas s x (by omega) hx w)
  generalize hasX x s = h at *
  go_enter Tryz.func116, Tryz.ntmps116
  go_wp2_with fail
  go_quiet ((go_at_call 89; exact Calls.quiet_of_same (HH.out _)))
  go_wp2_with fail
  go_ret
  exact ⟨rfl, below_drewN (by go_grown) nq⟩

end Go.Proofs.YtnmilfkocheaiaaGreatDoor

namespace Go.Proofs.YtnmilfkocheaiaaGreatDoor

theorem take_succ' {ns : List Nat} {k : Nat} (hk : k < ns.length) : ns.take (k + 1) = ns.take k ++ [ns.getD k 0] := by
  rw [List.take_add_one, List.getElem?_eq_getElem hk, List.getD_eq_getElem?_getD, List.getElem?_eq_getElem hk]; rfl
def keepTo (p : Nat → Bool) (ns : List Nat) (k : Nat) : List Nat := (ns.take k).filter p
theorem keepTo_yes {p : Nat → Bool} {ns : List Nat} {k : Nat} (hk : k < ns.length) (h : p (ns.getD k 0) = true) : keepTo p ns (k + 1) = keepTo p ns k ++ [ns.getD k 0] := by
  rw [keepTo, take_succ' hk, List.filter_append, List.filter_cons_of_pos h]; rfl
theorem keepTo_no {p : Nat → Bool} {ns : List Nat} {k : Nat} (hk : k < ns.length) (h : p (ns.getD k 0) = false) : keepTo p ns (k + 1) = keepTo p ns k := by
  rw [keepTo, take_succ' hk, List.filter_append, List.filter_cons_of_neg (fun e => by rw [h] at e; cases e)]; simp [keepTo]
theorem keepTo_le (p : Nat → Bool) (ns : List Nat) (k : Nat) : (keepTo p ns k).length ≤ ns.length := by
  have h1 := List.length_filter_le p (ns.take k)
  have h2 := List.length_take_le k ns
  have h3 : (ns.take k).length ≤ ns.length := by simp; omega
  unfold keepTo
  omega
theorem keepTo_all (p : Nat → Bool) (ns : List Nat) : keepTo p ns ns.length = ns.filter p := by rw [keepTo, List.take_length]

end Go.Proofs.YtnmilfkocheaiaaGreatDoor

namespace Go.Proofs.YtnmilfkocheaiaaGreatDoor
open Go.RowKit

set_option maxHeartbeats 3200000 in
set_option maxRecDepth 100000 in
theorem specKeep (v : Value) (ns : List Nat) (x : Nat) (l : Bool) (hx : x < 5) (h32 : ∀ t ∈ ns, t < 32) (hl : ns.length ≤ 32) (w : World) (h : Rd w v (toI ns)) :
    Calls Tryz.prog 87 #[v, .agg #[.int .i64 (x : Int), .bool l]] w (RetInts (toI (ns.filter (fun s => hasX x s == l))) w) := by
  have H := Lib.hid h
  obtain ⟨a, b, off, cap, rfl, h1, h3, h5⟩ := h
  rw [toI_length] at h1 h3 h5 H ⊢
  have H5 := Lib.hid h5
  have H1 := Lib.hid h1
  clear h5 h1
  obtain ⟨P, hP⟩ : ∃ P, P = (fun s => hasX x s == l) := ⟨_, rfl⟩
  rw [← hP]
  have HPP := Lib.hid hP
  clear hP
  have HB := Lib.hid (show Below w.heap.size w (w.alloc (Obj.cells #[.int .i64 (x : Int), .bool l] 97)) from (Below.refl _ _).alloc (Nat.le_refl _) _)
  have HE0 := Lib.hid (show (w.alloc (Obj.cells #[.int .i64 (x : Int), .bool l] 97)).cell? ⟨w.heap.size, 0, none⟩ = some (.int .i64 (x : Int)) by simp [go_sem])
  have HE1 := Lib.hid (show (w.alloc (Obj.cells #[.int .i64 (x : Int), .bool l] 97)).cell? ⟨w.heap.size, 1, none⟩ = some (.bool l) by simp [go_sem])
  have HZ := Lib.hid (show (w.alloc (Obj.cells #[.int .i64 (x : Int), .bool l] 97)).heap.size = w.heap.size + 1 by simp)
  go_enter Tryz.func87, Tryz.ntmps87
  go_wp2_with fail
  generalize (w.alloc (Obj.cells #[.int .i64 (x : Int), .bool l] 97)) = w1 at *
  have hz1 := HZ.out
  go_loopw [5, 6] (fun o i wr => ∃ (k : Nat) (a' : Option Addr) (c' : Nat), k ≤ ns.length ∧ i = .int .i64 k ∧ o = .slice a' (keepTo P ns k).length c' ∧ Ints w1.heap.size wr (.slice a' (keepTo P ns k).length c') (toI (keepTo P ns k)) ∧ Below w1.heap.size w1 wr) (fun _ i _ => ns.length - (intOf i).toNat)
  case atStart => exact ⟨0, _, _, Nat.zero_le _, rfl, rfl, Ints.lit' (by first | omega | simp) (by first | omega | simp), by go_grown⟩
  case round =>
    obtain ⟨k, a', c', hk, rfl, rfl, hin, hbe⟩ := hrel
    have HIN := Lib.hid hin
    have HBE := Lib.hid hbe
    have hz := hbe.size
    have d0 := (hbe.cell (p := ⟨w.heap.size, 0, none⟩) (by show w.heap.size < _; omega)).trans HE0.out
    have d1 := (hbe.cell (p := ⟨w.heap.size, 1, none⟩) (by show w.heap.size < _; omega)).trans HE1.out
    clear hin hbe
    by_cases hlt : k < ns.length
    · obtain ⟨rfl, hbl⟩ := H1.out (by omega)
      have hcx := (HBE.out.cell (p := ⟨b, off + k, none⟩) (by show b < w1.heap.size; omega)).trans ((HB.out.cell (p := ⟨b, off + k, none⟩) hbl).trans (H5.out k (by omega)))
      rw [toI_getD] at hcx
      have hxx := h32 _ (getD_of_lt hlt)
      have HY := Lib.hid (keepTo_yes (p := P) hlt)
      have HN := Lib.hid (keepTo_no (p := P) hlt)
      have hA32 := keepTo_le P ns k
      have hkI : (k : Int) < (ns.length : Int) := by omega
      generalize ns.getD k 0 = s at *
      generalize keepTo P ns k = A at *
      have HAl := Lib.hid (toI_length A)
      have HFT := Lib.hid (fun w => specFits s x l (by omega) hx w)
      rw [show (hasX x s == l) = P s by rw [HPP.out]] at HFT
      by_cases hp : P s = true
      · have HF := Lib.hid (HY.out hp)
        rw [hp] at HFT
        clear hp
        go_wp2_with fail
        go_region_held3 (fun w' => w'.cell? ⟨b, off + k, none⟩ = some (.int .i64 (s : Int)) ∧ w'.cell? ⟨w.heap.size, 0, none⟩ = some (.int .i64 (x : Int)) ∧ w'.cell? ⟨w.heap.size, 1, none⟩ = some (.bool l)) (first | exact ⟨hcx, d0, d1⟩ | exact ⟨hcx2, f0, f1⟩ | go_keep) (first | (go_at_call 116; refine (HFT.out _).mono ?_; rintro e w4 ⟨rfl, hb4⟩; have hb34 : Below wr.heap.size wr w4 := Below.trans (by first | exact Below.refl _ _ | exact (Below.refl _ _).drew) hb4; have B34 := Lib.hid hb34; have hcx2 := (hb34.cell (p := ⟨b, off + k, none⟩) (by show b < wr.heap.size; omega)).trans hcx; have f0 := (hb34.cell (p := ⟨w.heap.size, 0, none⟩) (by show w.heap.size < wr.heap.size; omega)).trans d0; have f1 := (hb34.cell (p := ⟨w.heap.size, 1, none⟩) (by show w.heap.size < wr.heap.size; omega)).trans d1; clear hb4 hb34))
        have HIN2 := Lib.hid (HIN.out.below B34.out (Nat.le_refl _))
        have HBE2 := Lib.hid (HBE.out.trans (B34.out.mono hz))
        have hz2 := B34.out.size
        go_wp2_with (at_builtin; refine wpList_app rfl (.tmp 20) (.tmp 25) rfl w1.heap.size _ (toI A) rfl (by exact HIN2.out.alloc _) _ _ _ [(s : Int)] rfl (src_cell (by rw [World.cell?_alloc_at _ _ _ _ rfl]; rfl)) (by rw [HAl.out]; omega) (by simp; omega) ?_; intro a1 c1 w5 hin5 hb5 hg5; rw [HAl.out] at hin5; have I5 := Lib.hid hin5; have B5 := Lib.hid (HBE2.out.trans (Below.trans ((Below.refl _ _).alloc (by omega) _) hb5)); clear hin5 hb5 hg5; rw [HAl.out])
        go_roundw
        case rel => exact ⟨k + 1, a1, c1, by omega, by go_num, by rw [HF.out]; simp, by rw [HF.out, toI_append]; simpa [toI] using I5.out, B5.out⟩
        case measure => simp [intOf]; omega
      · rw [Bool.not_eq_true] at hp
        have HF := Lib.hid (HN.out hp)
        rw [hp] at HFT
        clear hp
        go_wp2_with fail
        go_region_held3 (fun w' => w'.cell? ⟨b, off + k, none⟩ = some (.int .i64 (s : Int)) ∧ w'.cell? ⟨w.heap.size, 0, none⟩ = some (.int .i64 (x : Int)) ∧ w'.cell? ⟨w.heap.size, 1, none⟩ = some (.bool l)) (first | exact ⟨hcx, d0, d1⟩ | exact ⟨hcx2, f0, f1⟩ | go_keep) (first | (go_at_call 116; refine (HFT.out _).mono ?_; rintro e w4 ⟨rfl, hb4⟩; have hb34 : Below wr.heap.size wr w4 := Below.trans (by first | exact Below.refl _ _ | exact (Below.refl _ _).drew) hb4; have B34 := Lib.hid hb34; have hcx2 := (hb34.cell (p := ⟨b, off + k, none⟩) (by show b < wr.heap.size; omega)).trans hcx; have f0 := (hb34.cell (p := ⟨w.heap.size, 0, none⟩) (by show w.heap.size < wr.heap.size; omega)).trans d0; have f1 := (hb34.cell (p := ⟨w.heap.size, 1, none⟩) (by show w.heap.size < wr.heap.size; omega)).trans d1; clear hb4 hb34))
        have HIN2 := Lib.hid (HIN.out.below B34.out (Nat.le_refl _))
        have HBE2 := Lib.hid (HBE.out.trans (B34.out.mono hz))
        go_wp2_with fail
        go_roundw
        case rel => exact ⟨k + 1, a', c', by omega, by go_num, by rw [HF.out], by rw [HF.out]; exact HIN2.out, HBE2.out⟩
        case measure => simp [intOf]; omega
    · obtain rfl : k = ns.length := by omega
      rw [keepTo_all] at HIN ⊢
      generalize ns.filter P = R at *
      have HRl := Lib.hid (toI_length R)
      go_wp2_with fail
      go_ret
      exact ⟨a', c', by rw [HRl.out]; rfl, by rw [HRl.out]; exact HIN.out.mono (by omega), HB.out.trans (HBE.out.mono (by omega))⟩

set_option maxHeartbeats 800000 in
theorem specYes (v : Value) (ns : List Nat) (x : Nat) (hx : x < 5) (h32 : ∀ t ∈ ns, t < 32) (hl : ns.length ≤ 32) (w : World) (h : Rd w v (toI ns)) :
    Calls Tryz.prog 51 #[v, .int .i64 (x : Int)] w (RetInts (toI (wth x ns)) w) := by
  have HK := Lib.hid (specKeep v ns x true hx h32 hl w h)
  rw [show ns.filter (fun s => hasX x s == true) = wth x ns by unfold wth; congr 1; funext s; cases hasX x s <;> rfl] at HK
  generalize wth x ns = R at *
  obtain ⟨a, b, off, cap, rfl, _, _, _⟩ := h
  have HRl := Lib.hid (toI_length R)
  go_enter Tryz.func51, Tryz.ntmps51
  go_wp2_with fail
  refine HK.out.mono ?_
  rintro e w1 ⟨a1, c1, rfl, hin, hb⟩
  rw [HRl.out] at hin ⊢
  go_wp2_with fail
  go_ret
  exact ⟨a1, c1, by rw [HRl.out]; rfl, by rw [HRl.out]; exact hin, hb⟩

set_option maxHeartbeats 800000 in
theorem specNo (v : Value) (ns : List Nat) (x : Nat) (hx : x < 5) (h32 : ∀ t ∈ ns, t < 32) (hl : ns.length ≤ 32) (w : World) (h : Rd w v (toI ns)) :
    Calls Tryz.prog 52 #[v, .int .i64 (x : Int)] w (RetInts (toI (wto x ns)) w) := by
  have HK := Lib.hid (specKeep v ns x false hx h32 hl w h)
  rw [show ns.filter (fun s => hasX x s == false) = wto x ns by unfold wto; congr 1; funext s; cases hasX x s <;> rfl] at HK
  generalize wto x ns = R at *
  obtain ⟨a, b, off, cap, rfl, _, _, _⟩ := h
  have HRl := Lib.hid (toI_length R)
  go_enter Tryz.func52, Tryz.ntmps52
  go_wp2_with fail
  refine HK.out.mono ?_
  rintro e w1 ⟨a1, c1, rfl, hin, hb⟩
  rw [HRl.out] at hin ⊢
  go_wp2_with fail
  go_ret
  exact ⟨a1, c1, by rw [HRl.out]; rfl, by rw [HRl.out]; exact hin, hb⟩

end Go.Proofs.YtnmilfkocheaiaaGreatDoor

namespace Go.Proofs.YtnmilfkocheaiaaGreatDoor
open Go.RowKit

/-- those that fit an example -/
def kp (l : List Nat) (e : Int × Bool) : List Nat := l.filter (fun s => hasX e.1.toNat s == e.2)
theorem kp_true (l : List Nat) (x : Nat) : kp l ((x : Int), true) = wth x l := by unfold kp wth; congr 1; funext s; simp
theorem kp_false (l : List Nat) (x : Nat) : kp l ((x : Int), false) = wto x l := by unfold kp wto; congr 1; funext s; simp

set_option maxHeartbeats 1600000 in
set_option maxRecDepth 100000 in
theorem implFitting (l : List Nat) (x : Nat) (b : Bool) (hx : x < 5) (w : World) (hsw : SW w) :
    Calls Tryz.prog 157 #[.int .u32 (fm l), .agg #[.int .i64 (x : Int), .bool b]] w fun e w' => e = .returned (.int .u32 (fm (kp l ((x : Int), b)))) ∧ Below w.heap.size w w' := by
  have HSW := Lib.hid hsw
  have HS := Lib.hid (fun w h => implSplit l x hx w h)
  cases b with
  | true =>
    rw [kp_true]
    clear hsw
    generalize fm l = F at *
    generalize fm (wth x l) = F1 at *
    generalize fm (wto x l) = F2 at *
    go_enter Tryz.func157, Tryz.ntmps157
    go_wp2_with fail
    refine (HS.out _ (HSW.out.next (by go_grown))).mono ?_
    rintro e w2 ⟨rfl, d, rfl⟩
    go_wp2_with fail
    go_ret
    exact ⟨rfl, below_drewN (by go_grown) d⟩
  | false =>
    rw [kp_false]
    clear hsw
    generalize fm l = F at *
    generalize fm (wth x l) = F1 at *
    generalize fm (wto x l) = F2 at *
    go_enter Tryz.func157, Tryz.ntmps157
    go_wp2_with fail
    refine (HS.out _ (HSW.out.next (by go_grown))).mono ?_
    rintro e w2 ⟨rfl, d, rfl⟩
    go_wp2_with fail
    go_ret
    exact ⟨rfl, below_drewN (by go_grown) d⟩


end Go.Proofs.YtnmilfkocheaiaaGreatDoor

namespace Go.Proofs.YtnmilfkocheaiaaGreatDoor
open Go.RowKit

/-- what is left behind k examples -/
def nowTo (ns : List Nat) (es : List (Int × Bool)) : Nat → List Nat
  | 0 => ns
  | k + 1 => kp (nowTo ns es k) (es.getD k (0, false))
theorem nowTo_sub (ns : List Nat) (es : List (Int × Bool)) (k : Nat) : (∀ t ∈ nowTo ns es k, t ∈ ns) ∧ (nowTo ns es k).length ≤ ns.length := by
  induction k with
  | zero => exact ⟨fun t h => h, Nat.le_refl _⟩
  | succ k ih =>
    refine ⟨fun t h => ih.1 t (List.mem_filter.1 h).1, Nat.le_trans (List.length_filter_le _ _) ih.2⟩
theorem pts_at {n : Int} {es : List (Int × Bool)} (h : ptsTo n es es.length = true) {k : Nat} (hk : k < es.length) : 0 ≤ (es.getD k (0, false)).1 ∧ (es.getD k (0, false)).1 < n := by
  simp only [ptsTo, List.all_eq_true, List.mem_range, Bool.and_eq_true, decide_eq_true_eq] at h
  exact h k hk


end Go.Proofs.YtnmilfkocheaiaaGreatDoor

namespace Go.Proofs.YtnmilfkocheaiaaGreatDoor
open Go.RowKit

theorem fm_succ {ns : List Nat} {k : Nat} (hk : k < ns.length) (h32 : ∀ t ∈ ns, t < 32) : bits .or .u32 (fm (ns.take k)) ((2 : Int) ^ ns.getD k 0) = fm (ns.take (k + 1)) := by
  have h1 := h32 _ (getD_of_lt hk)
  have e1 : ns.take (k + 1) = ns.take k ++ [ns.getD k 0] := by
    rw [List.take_add_one, List.getElem?_eq_getElem hk, List.getD_eq_getElem?_getD, List.getElem?_eq_getElem hk]; rfl
  rw [e1]
  generalize ns.getD k 0 = s at *
  have h2 : (2 : Int) ^ s = ((1#32 <<< s).toNat : Int) := by
    have key : ∀ s : Fin 32, (2 : Int) ^ (s : Nat) = ((1#32 <<< (s : Nat)).toNat : Int) := by decide +kernel
    exact key ⟨s, h1⟩
  rw [h2, fm, u32_or, fm]
  congr 2
  apply famB_ext
  intro t ht
  have h3 : (1#32 <<< s).getLsbD t = decide (t = s) := by
    have := famB_bit [s] ht
    simpa [famB] using this
  rw [BitVec.getLsbD_or, famB_bit _ ht, h3, Bool.eq_iff_iff]
  simp

set_option maxHeartbeats 800000 in
theorem implFamilyOf (n : Int) (v : Value) (ns : List Nat) (h32 : ∀ t ∈ ns, t < 32) (w : World) (h : Rd w v (toI ns)) :
    Calls Tryz.prog 102 #[.agg #[.int .i64 n, v]] w fun e w' => e = .returned (.int .u32 (fm ns)) ∧ Below w.heap.size w w' := by
  obtain ⟨a, b, off, cap, rfl, h1, h3, h5⟩ := h
  rw [toI_length] at *
  have H5 := Lib.hid h5
  have H1 := Lib.hid h1
  clear h5 h1
  go_enter Tryz.func102, Tryz.ntmps102
  go_wp2_with fail
  go_loopw [3, 9] (fun f i wr => ∃ k : Nat, k ≤ ns.length ∧ i = .int .i64 k ∧ f = .int .u32 (fm (ns.take k)) ∧ wr = w.alloc (Obj.cells #[.int .i64 n, .slice a ns.length cap] 47)) (fun _ i _ => ns.length - (intOf i).toNat)
  case atStart => exact ⟨0, Nat.zero_le _, rfl, by rw [List.take_zero, fm_nil], rfl⟩
  case round =>
    obtain ⟨k, hk, rfl, rfl, rfl⟩ := hrel
    by_cases hlt : k < ns.length
    · obtain ⟨rfl, hbl⟩ := H1.out (by omega)
      have hc := H5.out k hlt
      rw [toI_getD] at hc
      have hx := h32 _ (getD_of_lt hlt)
      have HS := Lib.hid (fm_succ hlt h32)
      have HM := Lib.hid (show (2 : Int) ^ ns.getD k 0 % 4294967296 = 2 ^ ns.getD k 0 by
        have key : ∀ s : Fin 32, (2 : Int) ^ (s : Nat) % 4294967296 = 2 ^ (s : Nat) := by decide +kernel
        exact key ⟨_, hx⟩)
      generalize ns.getD k 0 = x at *
      have hc2 := (show Below w.heap.size w (w.alloc (Obj.cells #[.int .i64 n, .slice (some ⟨b, off, none⟩) ns.length cap] 47)) from (Below.refl _ _).alloc (Nat.le_refl _) _).cell (p := ⟨b, off + k, none⟩) hbl
      rw [hc] at hc2
      go_wp2_with fail
      go_roundw
      case rel => exact ⟨k + 1, by omega, by go_num, by rw [← HS.out, HM.out], trivial⟩
      case measure => simp [intOf]; omega
    · obtain rfl : k = ns.length := by omega
      go_wp2_with fail
      go_ret
      exact ⟨ret_int (by rw [List.take_length]), by go_grown⟩

end Go.Proofs.YtnmilfkocheaiaaGreatDoor

namespace Go.Proofs.YtnmilfkocheaiaaGreatDoor
open Go.RowKit

theorem fm_test (l : List Nat) {j : Nat} (hj : j < 32) : bits .and .u32 (fm l / 2 ^ j) 1 = if decide (j ∈ l) = true then 1 else 0 := by
  have e1 : fm l / 2 ^ j = ((famB l >>> j).toNat : Int) := by
    rw [BitVec.toNat_ushiftRight, Nat.shiftRight_eq_div_pow, fm]
    simp
  have e2 : (1 : Int) = ((1#32).toNat : Int) := by decide
  rw [e1]
  rw (occs := .pos [1]) [e2]
  rw [u32_and, BitVec.toNat_and, BitVec.toNat_ushiftRight, Nat.shiftRight_eq_div_pow, ← famB_bit l hj, BitVec.getLsbD]
  show (((famB l).toNat / 2 ^ j &&& 1 : Nat) : Int) = _
  rw [Nat.and_one_is_mod, ← Nat.toNat_testBit]
  cases (famB l).toNat.testBit j <;> rfl


end Go.Proofs.YtnmilfkocheaiaaGreatDoor

namespace Go.Proofs.YtnmilfkocheaiaaGreatDoor
open Go.RowKit

def conN (n : Int) (zs : List Int) (es : List (Int × Bool)) : Int := if vsB n zs es = true then n else 0
def conL (n : Int) (zs : List Int) (es : List (Int × Bool)) : List Int := if vsB n zs es = true then toI (nowTo (zs.map Int.toNat) es es.length) else []
theorem conL_len (n : Int) (zs : List Int) (es : List (Int × Bool)) : (conL n zs es).length ≤ 1048576 := by
  unfold conL
  split
  · rename_i hv
    have hvd : vldB n zs = true := by simp only [vsB, Bool.and_eq_true] at hv; exact hv.1
    obtain ⟨m, ns, rfl, rfl, hc⟩ := vldB_cls hvd
    rw [toI_length, toNat_toI]
    have := (nowTo_sub ns es es.length).2
    have := hc.length
    omega
  · simp
theorem nowTo_asc {ns : List Nat} (h : ns.Pairwise (· < ·)) (es : List (Int × Bool)) (k : Nat) : (nowTo ns es k).Pairwise (· < ·) := by
  induction k with
  | zero => exact h
  | succ k ih => exact ih.filter _
theorem range_mem {n : Nat} {l : List Nat} (ha : l.Pairwise (· < ·)) (hl : ∀ t ∈ l, t < n) : (List.range n).filter (fun s => decide (s ∈ l)) = l := by
  have h1 : ((List.range n).filter (fun s => decide (s ∈ l))).Pairwise (· < ·) := List.Pairwise.filter _ List.pairwise_lt_range
  have hp : List.Perm ((List.range n).filter (fun s => decide (s ∈ l))) l := by
    apply (List.perm_ext_iff_of_nodup (List.nodup_range.filter _) (ha.imp (fun h => Nat.ne_of_lt h))).2
    intro s
    rw [List.mem_filter, List.mem_range, decide_eq_true_eq]
    exact ⟨fun h => h.2, fun h => ⟨hl s h, h⟩⟩
  exact hp.eq_of_pairwise (fun a b _ _ h1 h2 => by omega) h1 ha


end Go.Proofs.YtnmilfkocheaiaaGreatDoor
