/- Sets of sets as the bits of a number: familyOf, split. Conditions: the table setsWith reads as its initialiser lays it. -/
import Derived.Test.YtlnnoeicboamgaaDoorZA
import Derived.Test.YtlnnoeicboamgaaDoorZH
namespace Go.Proofs.YtlnnoeicboamgaaDoor
open Go.RowKit

/-- the sets below 32 that have the point x, as bits -/
def swZ : List Int := [2863311530, 3435973836, 4042322160, 4278255360, 4294901760]
def sw (x : Nat) : BitVec 32 := BitVec.ofInt 32 (swZ.getD x 0)
/-- the table -/
def SW (w : World) : Prop := 0 < w.heap.size ∧ ∀ x, x < 5 → w.cell? ⟨0, x, none⟩ = some (.int .u32 (swZ.getD x 0))
theorem SW.below {w w' : World} {B : Nat} (h : SW w) (hb : Below B w w') (hB : 0 < B) : SW w' :=
  ⟨Nat.lt_of_lt_of_le h.1 hb.size, fun x hx => by rw [hb.cell (p := ⟨0, x, none⟩) hB]; exact h.2 x hx⟩
theorem SW.next {w w' : World} (h : SW w) (hb : Below w.heap.size w w') : SW w' := h.below hb h.1

theorem sw_bit {x s : Nat} (hx : x < 5) (hs : s < 32) : (sw x).getLsbD s = hasX x s := by
  have key : ∀ x : Fin 5, ∀ s : Fin 32, (sw x).getLsbD s = hasX x s := by decide +kernel
  exact key ⟨x, hx⟩ ⟨s, hs⟩
theorem sw_int {x : Nat} (hx : x < 5) : swZ.getD x 0 = ((sw x).toNat : Int) := by
  have key : ∀ x : Fin 5, swZ.getD x 0 = ((sw x).toNat : Int) := by decide +kernel
  exact key ⟨x, hx⟩

/-- the sets of a list, as bits -/
def famB : List Nat → BitVec 32
  | [] => 0
  | s :: l => famB l ||| (1#32 <<< s)
def fm (l : List Nat) : Int := ((famB l).toNat : Int)
theorem famB_bit (l : List Nat) {s : Nat} (hs : s < 32) : (famB l).getLsbD s = decide (s ∈ l) := by
  induction l with
  | nil => simp [famB]
  | cons t l ih =>
    rw [famB, BitVec.getLsbD_or, ih, Bool.eq_iff_iff]
    simp [hs]
    constructor
    · rintro (h | ⟨h1, h2⟩)
      · exact .inr h
      · exact .inl (by omega)
    · rintro (rfl | h)
      · exact .inr ⟨Nat.le_refl _, by omega⟩
      · exact .inl h
theorem famB_ext {a : BitVec 32} {l : List Nat} (h : ∀ s, s < 32 → a.getLsbD s = decide (s ∈ l)) : a = famB l := by
  apply BitVec.eq_of_getLsbD_eq
  intro s hs
  rw [h s hs, famB_bit l hs]
theorem fm_nil : fm [] = 0 := by simp [fm, famB]
theorem fm_ne {l : List Nat} (h32 : ∀ s ∈ l, s < 32) : fm l ≠ 0 ↔ l ≠ [] := by
  constructor
  · rintro h rfl
    exact h fm_nil
  · intro h h0
    cases l with
    | nil => exact h rfl
    | cons t l =>
      have h1 : famB (t :: l) = 0 := by
        apply BitVec.eq_of_toNat_eq
        unfold fm at h0
        simp
        omega
      have h2 := famB_bit (t :: l) (h32 t (by simp))
      rw [h1] at h2
      simp at h2
theorem ofInt_toNat (b : BitVec 32) : BitVec.ofInt 32 (b.toNat : Int) = b := by simp
theorem wrap_u32 (c : BitVec 32) : IntKind.u32.wrap (c.toNat : Int) = (c.toNat : Int) := by
  have := c.isLt
  simp [IntKind.wrap, IntKind.bits, IntKind.signed]
  omega
theorem u32_and (a b : BitVec 32) : bits .and .u32 (a.toNat : Int) (b.toNat : Int) = ((a &&& b).toNat : Int) := by
  show IntKind.u32.wrap ((BitVec.ofInt 32 (a.toNat : Int) &&& BitVec.ofInt 32 (b.toNat : Int)).toNat : Int) = _
  rw [ofInt_toNat, ofInt_toNat]
  exact wrap_u32 _
theorem u32_andNot (a b : BitVec 32) : bits .andNot .u32 (a.toNat : Int) (b.toNat : Int) = ((a &&& ~~~ b).toNat : Int) := by
  show IntKind.u32.wrap ((BitVec.ofInt 32 (a.toNat : Int) &&& ~~~ BitVec.ofInt 32 (b.toNat : Int)).toNat : Int) = _
  rw [ofInt_toNat, ofInt_toNat]
  exact wrap_u32 _
theorem u32_or (a b : BitVec 32) : bits .or .u32 (a.toNat : Int) (b.toNat : Int) = ((a ||| b).toNat : Int) := by
  show IntKind.u32.wrap ((BitVec.ofInt 32 (a.toNat : Int) ||| BitVec.ofInt 32 (b.toNat : Int)).toNat : Int) = _
  rw [ofInt_toNat, ofInt_toNat]
  exact wrap_u32 _
/-- those that have x, and those that do not -/
def wth (x : Nat) (l : List Nat) : List Nat := l.filter (fun s => hasX x s)
def wto (x : Nat) (l : List Nat) : List Nat := l.filter (fun s => !hasX x s)
theorem fm_wth {x : Nat} (hx : x < 5) (l : List Nat) : bits .and .u32 (fm l) (swZ.getD x 0) = fm (wth x l) := by
  rw [sw_int hx, fm, u32_and, fm]
  congr 2
  apply famB_ext
  intro s hs
  rw [BitVec.getLsbD_and, famB_bit l hs, sw_bit hx hs, Bool.eq_iff_iff]
  simp [wth]
theorem fm_wto {x : Nat} (hx : x < 5) (l : List Nat) : bits .andNot .u32 (fm l) (swZ.getD x 0) = fm (wto x l) := by
  rw [sw_int hx, fm, u32_andNot, fm]
  congr 2
  apply famB_ext
  intro s hs
  rw [BitVec.getLsbD_and, BitVec.getLsbD_not, famB_bit l hs, sw_bit hx hs, Bool.eq_iff_iff]
  simp [wto, hs]

set_option maxHeartbeats 800000 in
theorem implSplit (l : List Nat) (x : Nat) (hx : x < 5) (w : World) (h : SW w) :
    Calls Tryd.prog 82 #[.int .u32 (fm l), .int .i64 (x : Int)] w fun e w' => e = .returned (.tuple #[.int .u32 (fm (wth x l)), .int .u32 (fm (wto x l))]) ∧ ∃ d, w' = w.drewN d := by
  have hc := h.2 x hx
  have h1 := fm_wth hx l
  have h2 := fm_wto hx l
  generalize swZ.getD x 0 = z at *
  generalize fm l = F at *
  generalize fm (wth x l) = F1 at *
  generalize fm (wto x l) = F2 at *
  have hx5 : (x : Int) < 5 := by omega
  go_enter Tryd.func82, Tryd.ntmps82
  go_wp2_with fail
  go_quiet (fail)
  go_wp2_with fail
  refine bodyPost_ret (v := .tuple #[.int .u32 F1, .int .u32 F2]) (by simp [results, Tryd.results82, go_sem]) rfl ?_
  exact ⟨rfl, nq, rfl⟩

end Go.Proofs.YtlnnoeicboamgaaDoor
