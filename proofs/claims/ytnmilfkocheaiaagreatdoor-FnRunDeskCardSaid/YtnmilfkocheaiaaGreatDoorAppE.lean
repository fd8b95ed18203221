/- append of one example to a slice of examples that the call itself has made. Conditions: fewer than a million of them. -/
import Derived.Test.YtnmilfkocheaiaaGreatDoorZA
import Derived.Test.YtnmilfkocheaiaaGreatDoorZU
namespace Go.Proofs.YtnmilfkocheaiaaGreatDoor
open Go.RowKit

theorem ExS.alloc {B : Nat} {w : World} {v : Value} {es : List (Int × Bool)} (h : ExS B w v es) (o : Obj) : ExS B (w.alloc o) v es := World.ownsRow.alloc h o
theorem ExS.mono {B B' : Nat} {w : World} {v : Value} {es : List (Int × Bool)} (h : ExS B w v es) (hB : B' ≤ B) : ExS B' w v es := by
  refine ⟨h.1, ?_⟩
  rcases h.2 with h2 | ⟨g, cap, cur, e, hb, r⟩
  · exact .inl h2
  · exact .inr ⟨g, cap, cur, e, Nat.le_trans hB hb, r⟩
theorem ExS.nil (B : Nat) (w : World) : ExS B w (.slice none 0 0) [] := World.ownsRow_nil w B _ 2
theorem ExS.lit' {B : Nat} {w : World} {H : Nat} (hB : B ≤ w.heap.size) (hH : w.heap.size = H) : ExS B (w.alloc (.cells #[] 97)) (.slice (some ⟨H, 0, none⟩) 0 0) [] := hH ▸ World.ownsRow_lit w #[] 0 hB (by unfold maxLen; omega) rfl
theorem flatE_append (es fs : List (Int × Bool)) : flatE (es ++ fs) = flatE es ++ flatE fs := by simp [flatE]
/-- one example that lies in a block of its own -/
def SrcE (w : World) (H : Nat) (p : Int) (l : Bool) : Prop := w.cell? ⟨H, 0, none⟩ = some (.int .i64 p) ∧ w.cell? ⟨H, 1, none⟩ = some (.bool l)




end Go.Proofs.YtnmilfkocheaiaaGreatDoor
