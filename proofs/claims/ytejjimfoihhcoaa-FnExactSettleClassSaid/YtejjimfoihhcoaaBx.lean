/- A class in a block of its own: read, written, and never a row of ints. No conditions. -/
import Derived.Test.YtejjimfoihhcoaaClassOf
import Derived.OneCell
namespace Go.Proofs.Ytejjimfoihhcoaa
open Go.RowKit

theorem heap_alloc_at {w : World} {o : Obj} {k : Nat} (h : w.heap.size = k) : (w.alloc o).heap[k]? = some o := h ▸ heap_alloc_new w o
/-- block o holds a class of two cells -/
def Bx (n : Int) (v : Value) (o : Nat) (w : World) : Prop := w.heap[o]? = some (.cells #[.int .i64 n, v] 27 (0, 0))

theorem Bx.lt {n : Int} {v : Value} {o : Nat} {w : World} (h : Bx n v o w) : o < w.heap.size := (Array.getElem?_eq_some_iff.1 h).1
theorem Bx.out {n : Int} {v : Value} {o : Nat} {w : World} (h : Bx n v o w) : Out n v o w :=
  ⟨by simp [World.cell?, show w.heap[o]? = _ from h], by simp [World.cell?, show w.heap[o]? = _ from h], by simp [World.frozen?, show w.heap[o]? = _ from h], by simp [World.frozen?, show w.heap[o]? = _ from h]⟩
theorem Bx.new (n : Int) (v : Value) (w : World) : Bx n v w.heap.size (w.alloc (.cells #[.int .i64 n, v] 27)) := heap_alloc_new w _
theorem Bx.kept {n : Int} {v : Value} {o : Nat} {r : Option Nat} {w w' : World} (h : Bx n v o w) (hg : w.grownBy w' r) (hne : some o ≠ r) : Bx n v o w' := (hg.block o h.lt hne).trans h
theorem Bx.alloc {n : Int} {v : Value} {o : Nat} {w : World} (h : Bx n v o w) (x : Obj) : Bx n v o (w.alloc x) := h.kept (World.grownBy_alloc w x none) (by simp)
theorem Bx.next {n : Int} {v : Value} {o B : Nat} {w w' : World} (h : Bx n v o w) (hb : Below B w w') (ho : o < B) : Bx n v o w' := (hb.block o ho).trans h
theorem Bx.drewN {n : Int} {v : Value} {o : Nat} {w : World} (h : Bx n v o w) (q : Nat) : Bx n v o (w.drewN q) := h
theorem Bx.set {n : Int} {v : Value} {o : Nat} {w : World} (h : Bx n v o w) (u : Value) : Bx n u o (w.setCell ⟨o, 1, none⟩ u) := by
  obtain ⟨hlt, hk⟩ := Array.getElem?_eq_some_iff.1 h
  show (w.heap.modify o _)[o]? = _
  rw [Array.getElem?_eq_getElem (by rw [Array.size_modify]; exact hlt), Array.getElem_modify_self, hk]
  rfl
theorem Bx.setN {n : Int} {v : Value} {o : Nat} {w : World} (h : Bx n v o w) (m : Int) : Bx m v o (w.setCell ⟨o, 0, none⟩ (.int .i64 m)) := by
  obtain ⟨hlt, hk⟩ := Array.getElem?_eq_some_iff.1 h
  show (w.heap.modify o _)[o]? = _
  rw [Array.getElem?_eq_getElem (by rw [Array.size_modify]; exact hlt), Array.getElem_modify_self, hk]
  rfl
theorem Bx.other {n : Int} {v : Value} {o p j : Nat} {w : World} (h : Bx n v o w) (hne : o ≠ p) (u : Value) : Bx n v o (w.setCell ⟨p, j, none⟩ u) := by
  show (w.setCell ⟨p, j, none⟩ u).heap[o]? = _
  rw [Below.heap_setCell _ _ _ _ hne]
  exact h
theorem Bx.not_row {n : Int} {u : Value} {o B : Nat} {w : World} (h : Bx n u o w) {v : Value} {xs : List Int} (hr : Ints B w v xs) : some o ≠ v.ownBlock := by
  rcases hr.2 with ⟨rfl, _⟩ | ⟨g, cap, cur, rfl, _, hgb, _⟩
  · simp [Value.ownBlock]
  · intro e'
    obtain rfl : o = g := by simpa [Value.ownBlock] using e'
    have := (show w.heap[o]? = _ from h).symm.trans hgb
    simp at this
theorem Ints.bx {B : Nat} {w : World} {v : Value} {xs : List Int} (h : Ints B w v xs) {n : Int} {u : Value} {o : Nat} (hb : Bx n u o w) (j : Nat) (x : Value) : Ints B (w.setCell ⟨o, j, none⟩ x) v xs :=
  ownsRow_setCell_other h (fun e => hb.not_row h e.symm) x

end Go.Proofs.Ytejjimfoihhcoaa
