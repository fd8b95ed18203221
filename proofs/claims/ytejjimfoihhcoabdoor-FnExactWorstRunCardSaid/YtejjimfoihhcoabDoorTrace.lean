/- The model's trace, validSet, TraceOf, shatters, IsShattered. Conditions: Sets is a slice of ints. -/
import Derived.Test.YtejjimfoihhcoabDoorTidy
import Derived.Test.YtejjimfoihhcoabDoorValS
namespace Go.Proofs.YtejjimfoihhcoabDoor
open Go.RowKit

theorem RetInts.after {xs : List Int} {w w2 w' : World} {e : Ending} (hb : Below w.heap.size w w2) (h : RetInts xs w2 e w') : RetInts xs w e w' := by
  obtain ⟨a, c, he, hin, hb2⟩ := h
  exact ⟨a, c, he, hin.mono hb.size, hb.trans (hb2.mono hb.size)⟩

theorem and_lt32 {a : Nat} (s : Nat) (h : a < 32) : a &&& s < 32 := Nat.lt_of_le_of_lt Nat.and_le_left h

theorem tidy_tr (ns : List Nat) (s : Nat) : tidyL (ns.map (fun t => t &&& s)) = tr ns s := by
  unfold tidyL tr
  apply flt_congr
  intro x _
  rw [Bool.eq_iff_iff]
  simp


end Go.Proofs.YtejjimfoihhcoabDoor
