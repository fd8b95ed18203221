/- Cells that are known and kept, for the loops over iterators. No conditions. -/
import Derived.LoopIn
import Derived.LoopNIn
import Derived.OwnWalkIn
import Derived.RangeFuncBound
import Derived.RangeFuncCalls
import Derived.RangeFuncLeaves
import Derived.RangeFuncNested
import Derived.Shelf.Abstract
import Derived.Shelf.RegionOpen
import Derived.TacticsInMore
import Derived.Test.YtnoppclajhfnjaaDoorZA
import Derived.WalkKit
namespace Go.Proofs.YtnoppclajhfnjaaDoor
open Go.RowKit Go.Shelf

theorem cell_new_l (W : World) (v : Value) (t : TypeId) : (W.alloc (.cells #[v] t)).cell? ⟨W.heap.size, 0, none⟩ = some v ∧ (W.alloc (.cells #[v] t)).frozen? ⟨W.heap.size, 0, none⟩ = false := ⟨by simp, by simp⟩
theorem cell_alloc_l {W : World} {a : Addr} {v : Value} (o : Obj) (h : W.cell? a = some v) : (W.alloc o).cell? a = some v := cell_kept h (World.grownBy_alloc W o none) (fun r e => by cases e)
theorem frozen_alloc_l {W : World} {a : Addr} {v : Value} (o : Obj) (h : W.cell? a = some v) (hf : W.frozen? a = false) : (W.alloc o).frozen? a = false := (frozen_kept h (World.grownBy_alloc W o none) (fun r e => by cases e)).trans hf
/-- the cell of block b is kept -/
def Kc (b : Nat) (A B : World) : Prop := ∀ v, A.cell? ⟨b, 0, none⟩ = some v → B.cell? ⟨b, 0, none⟩ = some v
theorem kc_t {b : Nat} {A B C : World} (h : Kc b A B) (k : Kc b B C) : Kc b A C := fun v e => k v (h v e)
theorem kc_b {b n0 : Nat} (W : World) (l : Nat) (o o' : Obj) (_ : n0 ≤ l) (h : W.heap[l]? = some o) (hc : o.isCells = false) (_ : o.isWalk = false) : Kc b W (W.putObj l o') :=
  fun _ e => cell_kept e (grownBy_putObj' W l o') (fun r er => by cases er; exact ⟨o, h, hc⟩)
theorem kc_below {b n0 : Nat} (hb : b < n0) {A B : World} (h : Below n0 A B) : Kc b A B := fun _ e => (h.cell (p := ⟨b, 0, none⟩) hb).trans e
theorem keeps_below {A B : World} (h : Below A.heap.size A B) : KeepsOthers A B := ⟨h.size, fun k _ hk _ => (h.block k (Array.getElem?_eq_some_iff.1 hk).1).trans hk⟩

/-- cells that are known -/
def CS (cs : List (Addr × Value)) (W : World) : Prop := ∀ p ∈ cs, W.cell? p.1 = some p.2
def Kcs (cs : List (Addr × Value)) (A B : World) : Prop := CS cs A → CS cs B
theorem kcs_t {cs : List (Addr × Value)} {A B C : World} (h : Kcs cs A B) (k : Kcs cs B C) : Kcs cs A C := fun e => k (h e)
theorem kcs_b {cs : List (Addr × Value)} {n0 : Nat} (W : World) (l : Nat) (o o' : Obj) (_ : n0 ≤ l) (h : W.heap[l]? = some o) (hc : o.isCells = false) (_ : o.isWalk = false) : Kcs cs W (W.putObj l o') :=
  fun e p hp => cell_kept (e p hp) (grownBy_putObj' W l o') (fun r er => by cases er; exact ⟨o, h, hc⟩)
theorem cs_own {β : Type} (cs : List (Addr × Value)) : Own (fun (_ : β) W => CS cs W) := fun _ _ _ _ hs hg hr p hp => cell_kept (hs p hp) hg hr
theorem CS.lt {cs : List (Addr × Value)} {W : World} (h : CS cs W) (p : Addr × Value) (hp : p ∈ cs) : p.1.block < W.heap.size := World.block_lt_of_cell? W _ (h p hp)
theorem CS.next {cs : List (Addr × Value)} {W W' : World} (h : CS cs W) (hb : Below W.heap.size W W') : CS cs W' := fun p hp => (hb.cell (h.lt p hp)).trans (h p hp)
theorem CS.below {cs : List (Addr × Value)} {N : Nat} {W W' : World} (h : CS cs W) (hb : Below N W W') (hN : ∀ p ∈ cs, p.1.block < N) : CS cs W' := fun p hp => (hb.cell (hN p hp)).trans (h p hp)
theorem grown_none {A B : World} (h : Below A.heap.size A B) : A.grownBy B none := ⟨h.os, h.tape, h.output, h.size, fun k hk _ => h.block k hk⟩
abbrev encG (x : Fin 32) : Array Value := #[.int .i64 ((x.val : Nat) : Int)]

end Go.Proofs.YtnoppclajhfnjaaDoor
