/- A law's class in a block of its own, and rows that lie apart. No conditions. -/
import Derived.Test.YtiocaopabkbgpaaZH
namespace Go.Proofs.Ytiocaopabkbgpaa
open Go.RowKit

/-- block o holds a class of two cells -/
def Bxl (n : Int) (v : Value) (o : Nat) (w : World) : Prop := w.heap[o]? = some (.cells #[.int .i64 n, v] 35 (0, 0))

theorem Bxl.lt {n : Int} {v : Value} {o : Nat} {w : World} (h : Bxl n v o w) : o < w.heap.size := (Array.getElem?_eq_some_iff.1 h).1
theorem Bxl.out {n : Int} {v : Value} {o : Nat} {w : World} (h : Bxl n v o w) : Out n v o w :=
  ⟨by simp [World.cell?, show w.heap[o]? = _ from h], by simp [World.cell?, show w.heap[o]? = _ from h], by simp [World.frozen?, show w.heap[o]? = _ from h], by simp [World.frozen?, show w.heap[o]? = _ from h]⟩
theorem Bxl.new (n : Int) (v : Value) (w : World) : Bxl n v w.heap.size (w.alloc (.cells #[.int .i64 n, v] 35)) := heap_alloc_new w _
theorem Bxl.kept {n : Int} {v : Value} {o : Nat} {r : Option Nat} {w w' : World} (h : Bxl n v o w) (hg : w.grownBy w' r) (hne : some o ≠ r) : Bxl n v o w' := (hg.block o h.lt hne).trans h
theorem Bxl.alloc {n : Int} {v : Value} {o : Nat} {w : World} (h : Bxl n v o w) (x : Obj) : Bxl n v o (w.alloc x) := h.kept (World.grownBy_alloc w x none) (by simp)
theorem Bxl.next {n : Int} {v : Value} {o B : Nat} {w w' : World} (h : Bxl n v o w) (hb : Below B w w') (ho : o < B) : Bxl n v o w' := (hb.block o ho).trans h
theorem Bxl.drewN {n : Int} {v : Value} {o : Nat} {w : World} (h : Bxl n v o w) (q : Nat) : Bxl n v o (w.drewN q) := h
theorem Bxl.set {n : Int} {v : Value} {o : Nat} {w : World} (h : Bxl n v o w) (u : Value) : Bxl n u o (w.setCell ⟨o, 1, none⟩ u) := by
  obtain ⟨hlt, hk⟩ := Array.getElem?_eq_some_iff.1 h
  show (w.heap.modify o _)[o]? = _
  rw [Array.getElem?_eq_getElem (by rw [Array.size_modify]; exact hlt), Array.getElem_modify_self, hk]
  rfl
theorem Bxl.setN {n : Int} {v : Value} {o : Nat} {w : World} (h : Bxl n v o w) (m : Int) : Bxl m v o (w.setCell ⟨o, 0, none⟩ (.int .i64 m)) := by
  obtain ⟨hlt, hk⟩ := Array.getElem?_eq_some_iff.1 h
  show (w.heap.modify o _)[o]? = _
  rw [Array.getElem?_eq_getElem (by rw [Array.size_modify]; exact hlt), Array.getElem_modify_self, hk]
  rfl
theorem Bxl.other {n : Int} {v : Value} {o p j : Nat} {w : World} (h : Bxl n v o w) (hne : o ≠ p) (u : Value) : Bxl n v o (w.setCell ⟨p, j, none⟩ u) := by
  show (w.setCell ⟨p, j, none⟩ u).heap[o]? = _
  rw [Below.heap_setCell _ _ _ _ hne]
  exact h
theorem Bxl.not_row {n : Int} {u : Value} {o B : Nat} {w : World} (h : Bxl n u o w) {v : Value} {xs : List Int} (hr : Ints B w v xs) : some o ≠ v.ownBlock := by
  rcases hr.2 with ⟨rfl, _⟩ | ⟨g, cap, cur, rfl, _, hgb, _⟩
  · simp [Value.ownBlock]
  · intro e'
    obtain rfl : o = g := by simpa [Value.ownBlock] using e'
    have := (show w.heap[o]? = _ from h).symm.trans hgb
    simp at this
theorem Ints.bxl {B : Nat} {w : World} {v : Value} {xs : List Int} (h : Ints B w v xs) {n : Int} {u : Value} {o : Nat} (hb : Bxl n u o w) (j : Nat) (x : Value) : Ints B (w.setCell ⟨o, j, none⟩ x) v xs :=
  ownsRow_setCell_other h (fun e => hb.not_row h e.symm) x
theorem own_apart {v1 v2 : Value} {hi : Nat} (h1 : ∀ k, v1.ownBlock = some k → k < hi) (h2 : ∀ k, v2.ownBlock = some k → hi ≤ k) : v1.ownBlock = none ∨ v1.ownBlock ≠ v2.ownBlock := by
  cases e : v1.ownBlock with
  | none => exact .inl rfl
  | some k =>
    right
    intro e2
    have := h1 k e
    have := h2 k e2.symm
    omega
theorem own_apart' {v1 v2 : Value} {hi : Nat} (h1 : ∀ k, v1.ownBlock = some k → k < hi) (h2 : ∀ k, v2.ownBlock = some k → hi ≤ k) : v2.ownBlock = none ∨ v2.ownBlock ≠ v1.ownBlock := by
  cases e : v2.ownBlock with
  | none => exact .inl rfl
  | some k =>
    right
    intro e2
    have := h1 k e2.symm
    have := h2 k e
    omega

end Go.Proofs.Ytiocaopabkbgpaa
