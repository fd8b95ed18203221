/- Samples cut: the first examples, and the others. No conditions. -/
import Derived.Test.YtiocaopabkbgpaaDoorMarkE
namespace Go.Proofs.YtiocaopabkbgpaaDoor
open Go.RowKit

theorem RdE.take {w : World} {a : Option Addr} {n c : Nat} {es : List (Int × Bool)} (h : RdE w (.slice a n c) es) (k : Nat) (hk : k ≤ n) : RdE w (.slice a k c) (es.take k) := by
  obtain ⟨a', b, off, cap, e, h1, h3, h5⟩ := h
  simp only [Value.slice.injEq] at e
  obtain ⟨rfl, rfl, rfl⟩ := e
  have hl : (es.take k).length = k := by rw [List.length_take]; omega
  refine ⟨a, b, off, c, by rw [hl], fun h => h1 (by omega), by omega, fun j hj => ?_⟩
  have := h5 j (by omega)
  simp only [List.getD_eq_getElem?_getD, List.getElem?_take, if_pos (show j < k by omega)] at this ⊢
  exact this
theorem RdE.drop {w : World} {b off n c : Nat} {es : List (Int × Bool)} (h : RdE w (.slice (some ⟨b, off, none⟩) n c) es) (k : Nat) (hk : k ≤ n) (c' : Nat) : RdE w (.slice (some ⟨b, off + k * 2, none⟩) (n - k) c') (es.drop k) := by
  obtain ⟨a', b', off', cap, e, h1, h3, h5⟩ := h
  simp only [Value.slice.injEq] at e
  obtain ⟨rfl, rfl, rfl⟩ := e
  have hl : (es.drop k).length = es.length - k := by rw [List.length_drop]
  by_cases h0 : es.length - k = 0
  · rw [h0] at hl ⊢
    have e0 := List.length_eq_zero_iff.1 hl
    rw [e0]
    exact ⟨_, 0, 0, c', rfl, fun h => by simp at h, by simp, fun j hj => by simp at hj⟩
  · obtain ⟨e2, hb⟩ := h1 (by omega)
    simp only [Option.some.injEq, Addr.mk.injEq, and_true] at e2
    obtain ⟨rfl, rfl⟩ := e2
    refine ⟨_, b, off + k * 2, c', by rw [hl], fun _ => ⟨rfl, hb⟩, by omega, fun j hj => ?_⟩
    have := h5 (k + j) (by omega)
    simp only [List.getD_eq_getElem?_getD, List.getElem?_drop] at this ⊢
    rw [show off + k * 2 + j * 2 = off + (k + j) * 2 by omega]
    exact this
theorem RdE.empty (w : World) (a : Option Addr) (c : Nat) : RdE w (.slice a 0 c) [] := ⟨a, 0, 0, c, rfl, fun h => by simp at h, by simp, fun j hj => by simp at hj⟩
theorem ExS.addr {B n c : Nat} {w : World} {a : Option Addr} {es : List (Int × Bool)} (h : ExS B w (.slice a n c) es) : n ≤ c ∧ (0 < n → ∃ g, a = some ⟨g, 0, none⟩) := by
  rcases h.2 with ⟨e, _⟩ | ⟨g, cap, cur, e, _, _, hnc, _⟩
  · simp only [Value.slice.injEq] at e
    obtain ⟨rfl, rfl, rfl⟩ := e
    exact ⟨Nat.le_refl _, fun h => absurd h (Nat.lt_irrefl _)⟩
  · simp only [Value.slice.injEq] at e
    obtain ⟨rfl, rfl, rfl⟩ := e
    exact ⟨hnc, fun _ => ⟨g, rfl⟩⟩
theorem ExS.len {B n c : Nat} {w : World} {a : Option Addr} {es : List (Int × Bool)} (h : ExS B w (.slice a n c) es) : n = es.length := by
  rcases h.2 with ⟨e, h0⟩ | ⟨g, cap, cur, e, _⟩
  · simp only [Value.slice.injEq] at e
    rw [h0]; exact e.2.1
  · simp only [Value.slice.injEq] at e
    exact e.2.1

end Go.Proofs.YtiocaopabkbgpaaDoor
