/- FirstRepresentation, the program's and the model's. Conditions: Sets is a slice of ints. -/
import Derived.Deep.RegionLaw
import Derived.Test.YtnoppclajhfnjabDoorFill
import Derived.Test.YtnoppclajhfnjabDoorFndP
import Derived.Test.YtnoppclajhfnjabDoorZA
namespace Go.Proofs.YtnoppclajhfnjabDoor
open Go.RowKit

/-- what FirstRepresentation finds -/
def frpO (n : Int) (zs : List Int) (most : Int) : Option (List Nat) := if (vldB n zs && decide (zs.length ≤ 7)) = true then fndP (zs.map Int.toNat) most (2 ^ n.toNat) zs.length [] else none
def optL : Option (List Nat) → List Int
  | none => []
  | some r => toI r
def frpL (n : Int) (zs : List Int) (most : Int) : List Int := optL (frpO n zs most)
def frpB (n : Int) (zs : List Int) (most : Int) : Bool := (frpO n zs most).isSome
theorem frpO_in {m : Nat} {ns : List Nat} {most : Int} (hv : vldB (m : Int) (toI ns) = true) (hl : ns.length ≤ 7) : frpO (m : Int) (toI ns) most = fndP ns most (2 ^ m) ns.length [] := by
  rw [frpO, hv, toI_length, decide_eq_true hl, Bool.true_and, if_pos rfl, toNat_toI, Int.toNat_natCast]
theorem frpO_bad {n : Int} {zs : List Int} {most : Int} (hv : vldB n zs = false) : frpO n zs most = none := by rw [frpO, hv, Bool.false_and, if_neg (by decide)]
theorem frpO_many {n : Int} {zs : List Int} {most : Int} (hl : ¬ zs.length ≤ 7) : frpO n zs most = none := by rw [frpO, decide_eq_false hl, Bool.and_false, if_neg (by decide)]
theorem fnd_len {ns : List Nat} {most : Int} {q k : Nat} {r : List Nat} (h : fndP ns most q k [] = some r) : r.length = k ∧ ∀ x ∈ r, x < q := by
  obtain ⟨t, h1, h2, h3⟩ := fnd_ok k [] r h
  rw [List.nil_append] at h1
  subst h1
  refine ⟨h2, fun x hx => ?_⟩
  obtain ⟨j, hj, e⟩ := List.getElem_of_mem hx
  have := (h3 j (by omega)).1
  rw [List.getD_eq_getElem?_getD, List.getElem?_eq_getElem hj, Option.getD_some, e] at this
  exact this
theorem frpL_len (n : Int) (zs : List Int) (most : Int) : (frpL n zs most).length ≤ 1048576 := by
  unfold frpL frpO
  split
  · rename_i h
    rw [Bool.and_eq_true, decide_eq_true_eq] at h
    cases e : fndP (zs.map Int.toNat) most (2 ^ n.toNat) zs.length [] with
    | none => simp [optL]
    | some r =>
      have := (fnd_len e).1
      simp [optL, toI_length]
      omega
  · simp [optL]
/-- a call answers a list of ints of its own and a bool -/
def RetIB (xs : List Int) (b : Bool) (w : World) (e : Ending) (w' : World) : Prop := ∃ a cap, e = .returned (.tuple #[.slice a xs.length cap, .bool b]) ∧ Ints w.heap.size w' (.slice a xs.length cap) xs ∧ Below w.heap.size w w'

theorem step_make {w : World} {ops : Array Oper} {o : Oper} {a : Act} {K : Act → World → Prop} {Q : Exit → Act → World → Prop} {E : Prop} (hgd : o.guard = none) (l : Operand)
    (hop : o.op = Op.makeSlice 23 l l) (n : Nat) (hl : a.eval l = .int .i64 (n : Int)) (hn : n ≤ 1000)
    (hK : ∀ w', Ints w.heap.size w' (.slice (some ⟨w.heap.size, 0, none⟩) n n) (List.replicate n 0) → w.grownBy w' none → K (a.put o.dst (.slice (some ⟨w.heap.size, 0, none⟩) n n)) w') : if Region.wanted o (yielded ops a.tmps) = true then Oper.wp Tryd.prog o a w K Q else E := by
  have hw : Region.wanted o (yielded ops a.tmps) = true := by simp [Region.wanted, hgd]
  rw [if_pos hw]
  obtain ⟨i0, hi, hz0, hz1, hz2⟩ := info_parts info3
  obtain ⟨w', hrun, r1, r2⟩ := run_make_full (P := Tryd.prog) w w.heap.size 23 3 i0 (.int .i64 0) 1 Tryd.underlying23 hi hz0 hz1 .i64 .i64 n (by rw [hz2]; omega) (by unfold maxLen; omega) (Nat.le_refl _)
  unfold Oper.wp
  simp [execOp, hop, hl, hrun, Result.andThen]
  exact hK w' (Ints.of_made r1) r2


end Go.Proofs.YtnoppclajhfnjabDoor
