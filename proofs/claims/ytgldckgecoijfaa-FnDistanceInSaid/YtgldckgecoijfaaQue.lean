/- A queue of nodes: a slice that is cut at its front, and one node appended. Conditions: at most a million elements. -/
import Derived.ArgAppend
import Derived.Test.YtgldckgecoijfaaNode
namespace Go.Proofs.Ytgldckgecoijfaa
open Go.RowKit

/-- the slice at off in the block g, with room for cap, holds the nodes in the blocks bs -/
def Qc (w : World) (g off cap : Nat) (bs : List Nat) : Prop :=
  g < w.heap.size ∧ bs.length ≤ cap ∧ (∀ j, j < bs.length → w.cell? ⟨g, off + j, none⟩ = some (ndp (bs.getD j 0))) ∧ ∀ j, j < cap → (w.cell? ⟨g, off + j, none⟩).isSome = true ∧ w.frozen? ⟨g, off + j, none⟩ = false
theorem Qc.keep {w w' : World} {g off cap : Nat} {bs : List Nat} (h : Qc w g off cap bs) (e : w'.heap[g]? = w.heap[g]?) : Qc w' g off cap bs := by
  obtain ⟨h1, h2, h3, h4⟩ := h
  have hc : ∀ j, w'.cell? ⟨g, j, none⟩ = w.cell? ⟨g, j, none⟩ := fun j => World.cell?_of_block (w := w) (w' := w') (a := ⟨g, j, none⟩) e
  have hf : ∀ j, w'.frozen? ⟨g, j, none⟩ = w.frozen? ⟨g, j, none⟩ := fun j => World.frozen?_of_block (w := w) (w' := w') (a := ⟨g, j, none⟩) e
  refine ⟨?_, h2, fun j hj => (hc _).trans (h3 j hj), fun j hj => ?_⟩
  · rw [Array.getElem?_eq_getElem h1] at e
    exact (Array.getElem?_eq_some_iff.1 e).1
  · rw [hc, hf]; exact h4 j hj
theorem Qc.alloc {w : World} {g off cap : Nat} {bs : List Nat} (h : Qc w g off cap bs) (o : Obj) : Qc (w.alloc o) g off cap bs := h.keep (Below.heap_alloc w o g h.1)
theorem Qc.other {w : World} {g off cap k j : Nat} {bs : List Nat} (h : Qc w g off cap bs) (hne : g ≠ k) (u : Value) : Qc (w.setCell ⟨k, j, none⟩ u) g off cap bs := h.keep (heap_setCell_other w ⟨k, j, none⟩ g u hne)
/-- the first one is taken off -/
theorem Qc.pop {w : World} {g off cap b : Nat} {bs : List Nat} (h : Qc w g off (cap + 1) (b :: bs)) : Qc w g (off + 1) cap bs := by
  obtain ⟨h1, h2, h3, h4⟩ := h
  rw [List.length_cons] at h2 h3
  refine ⟨h1, by omega, fun j hj => ?_, fun j hj => ?_⟩
  · have := h3 (j + 1) (by omega)
    rw [show off + (j + 1) = off + 1 + j by omega] at this
    rw [this]
    simp
  · have := h4 (j + 1) (by omega)
    rw [show off + (j + 1) = off + 1 + j by omega] at this
    exact this
theorem Qc.none {w : World} {g off : Nat} (h : g < w.heap.size) : Qc w g off 0 [] := ⟨h, Nat.le_refl _, fun j hj => absurd hj (by simp), fun j hj => absurd hj (by omega)⟩
theorem Qc.one {w : World} {p : Nat} : Qc (w.alloc (.cells #[ndp p] 58)) w.heap.size 0 1 [p] := by
  have hb : (w.alloc (.cells #[ndp p] 58)).heap[w.heap.size]? = some (.cells #[ndp p] 58 (0, 0)) := heap_alloc_new w _
  refine ⟨(Array.getElem?_eq_some_iff.1 hb).1, by simp, fun j hj => ?_, fun j hj => ?_⟩
  · obtain rfl : j = 0 := by simpa using hj
    rw [cell_of_row _ _ _ _ _ _ hb]; rfl
  · obtain rfl : j = 0 := by omega
    exact ⟨by rw [cell_of_row _ _ _ _ _ _ hb]; rfl, frozen_of_row _ _ _ _ _ hb⟩

set_option maxRecDepth 100000 in
theorem run_appQ {w : World} {ty : TypeId} {g off cap n : Nat} {bs : List Nat} (hn : bs.length = n) (h : Qc w g off cap bs) {H p : Nat} (hs : w.cell? ⟨H, 0, none⟩ = some (ndp p)) (hl : n ≤ 1000000) :
    ∃ g' off' cap' w', (Builtin.append_ #[59, 59] ty #[.slice (some ⟨g, off, none⟩) n cap, .slice (some ⟨H, 0, none⟩) 1 1]).run Try.prog w = .ok (.slice (some ⟨g', off', none⟩) (n + 1) cap') w' ∧ (g' = g ∨ w.heap.size ≤ g') ∧ Qc w' g' off' cap' (bs ++ [p]) ∧ w.grownBy w' (some g) := by
  subst hn
  obtain ⟨i, hi, hz0, hz1, hz2⟩ := info_parts infoN
  obtain ⟨h1, h2, h3, h4⟩ := h
  have hnews : ∀ j u, [ndp p][j]? = some u → w.cell? ((⟨H, 0, none⟩ : Addr).add j) = some u := fun j u hu => by
    match j, hu with
    | 0, hu => simp at hu; subst hu; rw [Addr.add_lit]; exact hs
    | j + 1, hu => simp at hu
  by_cases hroom : bs.length + 1 ≤ cap
  · have hr := run_append_room_cells (P := Try.prog) w 59 ty 58 i Try.underlying59 hi g off bs.length cap ⟨H, 0, none⟩ 1 1 [ndp p] (by rw [hz1]; rfl) hnews (by simp [Value.oneCell', ndp]) hroom
      (fun j hj => by
        obtain rfl : j = 0 := by simpa using hj
        rw [hz1, Nat.mul_one, Nat.add_zero]
        exact (h4 bs.length (by omega)).1)
      (fun j hj => by
        obtain rfl : j = 0 := by simpa using hj
        rw [hz1, Nat.mul_one, Nat.add_zero]
        exact (h4 bs.length (by omega)).2)
    rw [hz1, Nat.mul_one] at hr
    have e : w.setCells g (off + bs.length) [ndp p] = w.setCell ⟨g, off + bs.length, none⟩ (ndp p) := by simp [World.setCells]
    rw [e] at hr
    refine ⟨g, off, cap, _, hr, .inl rfl, ⟨by simp [World.setCell]; exact h1, by rw [List.length_append]; exact hroom, fun j hj => ?_, fun j hj => ?_⟩, grownBy_set w _ _⟩
    · rw [List.length_append, List.length_singleton] at hj
      by_cases hj2 : j < bs.length
      · rw [World.cell?_setCell_other _ _ _ _ (fun k => by simp only [Addr.mk.injEq, true_and, and_true] at k; omega), h3 j hj2]
        congr 1
        rw [List.getD_eq_getElem?_getD, List.getD_eq_getElem?_getD, List.getElem?_append_left hj2]
      · obtain rfl : j = bs.length := by omega
        obtain ⟨u, hu⟩ := Option.isSome_iff_exists.1 (h4 bs.length (by omega)).1
        rw [World.cell?_setCell_same _ _ _ hu]
        congr 1
        rw [List.getD_eq_getElem?_getD, List.getElem?_append_right (Nat.le_refl _), Nat.sub_self]
        rfl
    · rw [World.frozen?_setCell]
      refine ⟨?_, (h4 j hj).2⟩
      by_cases e : j = bs.length
      · subst e
        obtain ⟨u, hu⟩ := Option.isSome_iff_exists.1 (h4 bs.length hj).1
        rw [World.cell?_setCell_same _ _ _ hu]; rfl
      · rw [World.cell?_setCell_other _ _ _ _ (fun k => by simp only [Addr.mk.injEq, true_and, and_true] at k; omega)]
        exact (h4 j hj).1
  · obtain ⟨v', w', hr, hown, hg⟩ := run_append_arg_grows (P := Try.prog) w 59 ty 58 i (.pointer none) 1 8 Try.underlying59 hi hz0 hz1 hz2 rfl (by decide) ⟨g, off, none⟩ bs.length cap (bs.map ndp) (by simp) (fun j u hu => by
        have hj : j < bs.length := by simpa using (List.getElem?_eq_some_iff.1 hu).1
        rw [Addr.add_lit, h3 j hj, ← hu]
        simp [List.getD, hj]) ⟨H, 0, none⟩ 1 1 [ndp p] rfl hnews (by omega) (by unfold maxLen; omega) (by omega)
    rcases hown.2 with ⟨_, e⟩ | ⟨g', cap', cur, rfl, hB, hh, hc1, hc2, hc3, hc4⟩
    · omega
    · refine ⟨g', 0, cap', w', hr, .inr hB, ⟨(Array.getElem?_eq_some_iff.1 hh).1, by rw [List.length_append]; exact hc1, fun j hj => ?_, fun j hj => ?_⟩, ⟨hg.os, hg.tape, hg.output, hg.size, fun k hk hne => hg.block k hk (by simp)⟩⟩
      · rw [List.length_append, List.length_singleton] at hj
        rw [Nat.zero_add, World.ownsRow.cellAt hown j (by omega)]
        by_cases hj2 : j < bs.length
        · rw [List.getElem?_append_left (by simpa using hj2), List.getD_eq_getElem?_getD, List.getElem?_append_left hj2]
          simp [hj2]
        · obtain rfl : j = bs.length := by omega
          rw [List.getElem?_append_right (by simp), List.length_map, Nat.sub_self, List.getD_eq_getElem?_getD, List.getElem?_append_right (Nat.le_refl _), Nat.sub_self]
          rfl
      · rw [Nat.zero_add]
        refine ⟨?_, frozen_of_row _ _ _ _ _ hh⟩
        rw [cell_of_row _ _ _ _ _ _ hh, Array.getElem?_eq_getElem (by omega)]
        rfl

theorem wpList_appQ {w : World} {ops : Array Oper} {rest : List Oper} {o : Oper} {a : Act} {Q : Exit → Act → World → Prop} (hgd : o.guard = none) (s x : Operand)
    (ho : o.op = Op.call { callee := Callee.builtin Builtin.append, args := #[s, x], argTypes := #[59, 59] })
    (g off n cap : Nat) (bs : List Nat) (hn : bs.length = n) (hs : a.eval s = .slice (some ⟨g, off, none⟩) n cap) (h : Qc w g off cap bs) (H p : Nat) (hx : a.eval x = .slice (some ⟨H, 0, none⟩) 1 1) (hsrc : w.cell? ⟨H, 0, none⟩ = some (ndp p)) (hl : n ≤ 1000000)
    (hK : ∀ g' off' cap' w', (g' = g ∨ w.heap.size ≤ g') → Qc w' g' off' cap' (bs ++ [p]) → w.grownBy w' (some g) → wpList Try.prog ops Q rest (a.put o.dst (.slice (some ⟨g', off', none⟩) (n + 1) cap')) w') : wpList Try.prog ops Q (o :: rest) a w := by
  refine wpList_plain hgd fun K hK' => ?_
  obtain ⟨g', off', cap', w', hrun, r1, r2, r3⟩ := run_appQ (ty := o.type) hn h hsrc hl
  unfold Oper.wp
  simp [execOp, ho, resolve, invoke, builtin, hs, hx, hrun, Result.andThen]
  exact hK' _ _ (hK g' off' cap' w' r1 r2 r3)

end Go.Proofs.Ytgldckgecoijfaa
