/- The program's classOf: the class of the sets that are keys. No conditions. -/
import Derived.Test.YtejjimfoihhcoabDoorCube
import Derived.Test.YtejjimfoihhcoabDoorIdx
namespace Go.Proofs.YtejjimfoihhcoabDoor
open Go.RowKit

/-- the class that is being made in block o -/
structure Out (n : Int) (v : Value) (o : Nat) (w : World) : Prop where
  at0 : w.cell? ⟨o, 0, none⟩ = some (.int .i64 n)
  at1 : w.cell? ⟨o, 1, none⟩ = some v
  free0 : w.frozen? ⟨o, 0, none⟩ = false
  free1 : w.frozen? ⟨o, 1, none⟩ = false

theorem Out.next {n : Int} {v : Value} {o B : Nat} {w w' : World} (h : Out n v o w) (hb : Below B w w') (ho : o < B) : Out n v o w' :=
  ⟨(hb.cell (p := ⟨o, 0, none⟩) ho).trans h.at0, (hb.cell (p := ⟨o, 1, none⟩) ho).trans h.at1, (hb.frozen (p := ⟨o, 0, none⟩) ho).trans h.free0, (hb.frozen (p := ⟨o, 1, none⟩) ho).trans h.free1⟩

theorem Out.kept {n : Int} {v : Value} {o : Nat} {r : Option Nat} {w w' : World} (h : Out n v o w) (hg : w.grownBy w' r) (hne : some o ≠ r) (hlt : o < w.heap.size) : Out n v o w' := by
  have hb := hg.block o hlt hne
  have hc : ∀ i, w'.cell? ⟨o, i, none⟩ = w.cell? ⟨o, i, none⟩ := fun i => World.cell?_of_block (w := w) (a := ⟨o, i, none⟩) hb
  have hf : ∀ i, w'.frozen? ⟨o, i, none⟩ = w.frozen? ⟨o, i, none⟩ := fun i => World.frozen?_of_block (w := w) (a := ⟨o, i, none⟩) hb
  exact ⟨(hc 0).trans h.at0, (hc 1).trans h.at1, (hf 0).trans h.free0, (hf 1).trans h.free1⟩

theorem Out.set {n : Int} {v : Value} {o : Nat} {w : World} (h : Out n v o w) (u : Value) : Out n u o (w.setCell ⟨o, 1, none⟩ u) :=
  ⟨(World.cell?_setCell_other _ _ _ _ (by simp)).trans h.at0, World.cell?_setCell_same _ _ _ h.at1, by rw [World.frozen?_setCell]; exact h.free0, by rw [World.frozen?_setCell]; exact h.free1⟩


end Go.Proofs.YtejjimfoihhcoabDoor
