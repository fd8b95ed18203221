/- A slice of ints that is cut at its front: read, and one number appended. Conditions: at most a million elements. -/
import Derived.ArgAppend
import Derived.Test.YtfcdnecikflehaaBent
namespace Go.Proofs.Ytfcdnecikflehaa
open Go.RowKit

/-- the row of a slice that is cut reads as what is left -/
theorem Ints.cut_rd {C g n c : Nat} {w : World} {pre zs : List Int} (hn : n = zs.length) (h : Ints C w (.slice (some ⟨g, 0, none⟩) (pre.length + n) (pre.length + c)) (pre ++ zs)) : Rd w (.slice (some ⟨g, pre.length, none⟩) n c) zs := by
  subst hn
  have hlt := (h.lt g rfl).2
  have hb := h.rd
  obtain ⟨_, _, _, _, _, _, hbig, _⟩ := hb
  rw [List.length_append] at hbig
  refine ⟨some ⟨g, pre.length, none⟩, g, pre.length, c, rfl, fun _ => ⟨rfl, hlt⟩, by omega, fun j hj => ?_⟩
  have h1 := (h.cellAt (pre.length + j) (by rw [List.length_append]; omega)).1
  rw [h1, List.getD_eq_getElem?_getD, List.getElem?_append_right (by omega), Nat.add_sub_cancel_left, ← List.getD_eq_getElem?_getD]

/-- a row from its block's cell 0 on, or what is left of one that is cut at its front -/
def CutI (C : Nat) (w : World) (v : Value) (zs : List Int) : Prop :=
  Ints C w v zs ∨ ∃ (g q n c : Nat) (pre : List Int), v = .slice (some ⟨g, q, none⟩) n c ∧ q = pre.length ∧ n = zs.length ∧ Ints C w (.slice (some ⟨g, 0, none⟩) (q + n) (q + c)) (pre ++ zs)
theorem CutI.rd {C : Nat} {w : World} {v : Value} {zs : List Int} (h : CutI C w v zs) : Rd w v zs := by
  rcases h with h | ⟨g, q, n, c, pre, rfl, rfl, hn, h⟩
  · exact h.rd
  · exact Ints.cut_rd hn h
theorem CutI.map {C D : Nat} {w w' : World} {v : Value} {zs : List Int} (h : CutI C w v zs) (hf : ∀ v zs, Ints C w v zs → Ints D w' v zs) : CutI D w' v zs := by
  rcases h with h | ⟨g, q, n, c, pre, e, e1, e2, h⟩
  · exact Or.inl (hf _ _ h)
  · exact Or.inr ⟨g, q, n, c, pre, e, e1, e2, hf _ _ h⟩

set_option maxRecDepth 100000 in
theorem run_appC {C : Nat} {w : World} {ty : TypeId} {g cap H : Nat} {pre zs : List Int} {x : Int} (h : Ints C w (.slice (some ⟨g, 0, none⟩) (pre.length + zs.length) (pre.length + cap)) (pre ++ zs)) (hs : w.cell? ⟨H, 0, none⟩ = some (.int .i64 x)) (hl : pre.length + zs.length ≤ 1000000) (hC : C ≤ w.heap.size) :
    ∃ (g' : Nat) (pre' : List Int) (cap' : Nat) (w' : World), (Builtin.append_ #[23, 23] ty #[.slice (some ⟨g, pre.length, none⟩) zs.length cap, .slice (some ⟨H, 0, none⟩) 1 1]).run Try.prog w = .ok (.slice (some ⟨g', pre'.length, none⟩) (zs.length + 1) cap') w' ∧ Ints C w' (.slice (some ⟨g', 0, none⟩) (pre'.length + (zs.length + 1)) (pre'.length + cap')) (pre' ++ (zs ++ [x])) ∧ w.grownBy w' (some g) := by
  obtain ⟨i, hi, hz0, hz1, hz2⟩ := info_parts info3
  have hnews : ∀ j u, [Value.int .i64 x][j]? = some u → w.cell? ((⟨H, 0, none⟩ : Addr).add j) = some u := fun j u hu => by
    match j, hu with
    | 0, hu => simp at hu; subst hu; rw [Addr.add_lit]; exact hs
    | j + 1, hu => simp at hu
  by_cases hroom : zs.length + 1 ≤ cap
  · -- the row behind it grows in place
    have hcells : ∀ j, j < [Value.int .i64 x].length → (w.cell? ⟨g, (pre.length + zs.length) * i.size + j, none⟩).isSome = true ∧ w.frozen? ⟨g, (pre.length + zs.length) * i.size + j, none⟩ = false := fun j hj => by
      obtain rfl : j = 0 := by simpa using hj
      rw [hz1, Nat.mul_one, Nat.add_zero]
      rcases h.2 with ⟨e, _⟩ | ⟨g2, cap2, cur, e, _, hg, _, _, hcs, _⟩
      · cases e
      · simp only [Value.slice.injEq, Option.some.injEq, Addr.mk.injEq, and_true] at e
        obtain ⟨rfl, _, rfl⟩ := e
        refine ⟨?_, frozen_of_row _ _ _ _ _ hg⟩
        rw [cell_of_row _ _ _ _ _ _ hg, Array.getElem?_eq_getElem (by omega)]
        rfl
    have hr1 := run_append_room_cells (P := Try.prog) w 23 ty 3 i Try.underlying23 hi g 0 (pre.length + zs.length) (pre.length + cap) ⟨H, 0, none⟩ 1 1 [.int .i64 x] (by rw [hz1]; rfl) hnews (by simp [Value.oneCell']) (by omega)
      (fun j hj => by rw [Nat.zero_add]; exact (hcells j hj).1) (fun j hj => by rw [Nat.zero_add]; exact (hcells j hj).2)
    have hr2 := run_append_room_cells (P := Try.prog) w 23 ty 3 i Try.underlying23 hi g pre.length zs.length cap ⟨H, 0, none⟩ 1 1 [.int .i64 x] (by rw [hz1]; rfl) hnews (by simp [Value.oneCell']) hroom
      (fun j hj => by have h9 := (hcells j hj).1; rw [hz1, Nat.mul_one] at h9 ⊢; exact h9) (fun j hj => by have h9 := (hcells j hj).2; rw [hz1, Nat.mul_one] at h9 ⊢; exact h9)
    obtain ⟨a', cap', w', hr3, hin, _, hg3⟩ := run_app (ty := ty) (ms := [x]) h (src_cell hs) (by rw [List.length_append]; omega) hC
    rw [hr1] at hr3
    simp only [Result.ok.injEq, Value.slice.injEq] at hr3
    obtain ⟨⟨rfl, _, rfl⟩, rfl⟩ := hr3
    rw [hz1, Nat.mul_one, Nat.zero_add] at hin hg3
    rw [hz1, Nat.mul_one] at hr2
    refine ⟨g, pre, cap, _, hr2, ?_, hg3⟩
    rw [List.append_assoc] at hin
    rw [← Nat.add_assoc]
    rw [List.length_append] at hin
    exact hin
  · have hlz := h.rd
    obtain ⟨v', w', hr, hown, hg⟩ := run_append_arg_grows (P := Try.prog) w 23 ty 3 i (.int .i64 0) 1 8 Try.underlying23 hi hz0 hz1 hz2 rfl (by decide) ⟨g, pre.length, none⟩ zs.length cap (zs.map (Value.int .i64)) (by simp) (fun j u hu => by
        have hj : j < zs.length := by simpa using (List.getElem?_eq_some_iff.1 hu).1
        have h1 := (h.cellAt (pre.length + j) (by rw [List.length_append]; omega)).1
        rw [List.getD_eq_getElem?_getD, List.getElem?_append_right (by omega), Nat.add_sub_cancel_left] at h1
        rw [Addr.add_lit, h1, ← hu]
        simp [hj]) ⟨H, 0, none⟩ 1 1 [.int .i64 x] rfl hnews (by omega) (by unfold maxLen; omega) (by omega)
    have hin : Ints C w' v' ([] ++ (zs ++ [x])) := by
      refine Ints.mono (B := w.heap.size) ?_ hC
      unfold Ints
      rw [List.nil_append, List.length_append, List.map_append]
      exact hown
    rcases hown.2 with ⟨_, e⟩ | ⟨g', cap', cur, rfl, _⟩
    · omega
    · refine ⟨g', [], cap', w', hr, ?_, ⟨hg.os, hg.tape, hg.output, hg.size, fun k hk hne => hg.block k hk (by simp)⟩⟩
      rw [List.length_nil, Nat.zero_add, Nat.zero_add]
      exact hin

theorem step_appC {w : World} {ops : Array Oper} {o : Oper} {a : Act} {K : Act → World → Prop} {Q : Exit → Act → World → Prop} {E : Prop} (hgd : o.guard = none) (s x : Operand)
    (ho : o.op = Op.call { callee := Callee.builtin Builtin.append, args := #[s, x], argTypes := #[23, 23] })
    (C g cap q n : Nat) (pre zs : List Int) (hq : q = pre.length) (hn : n = zs.length) (hs : a.eval s = .slice (some ⟨g, q, none⟩) n cap) (h : Ints C w (.slice (some ⟨g, 0, none⟩) (q + n) (q + cap)) (pre ++ zs)) (H : Nat) (y : Int) (hx : a.eval x = .slice (some ⟨H, 0, none⟩) 1 1) (hsrc : w.cell? ⟨H, 0, none⟩ = some (.int .i64 y)) (hl : q + n ≤ 1000000) (hC : C ≤ w.heap.size)
    (hK : ∀ (g' : Nat) (pre' : List Int) (cap' : Nat) (w' : World), Ints C w' (.slice (some ⟨g', 0, none⟩) (pre'.length + (n + 1)) (pre'.length + cap')) (pre' ++ (zs ++ [y])) → w.grownBy w' (some g) → K (a.put o.dst (.slice (some ⟨g', pre'.length, none⟩) (n + 1) cap')) w') : if Region.wanted o (yielded ops a.tmps) = true then Oper.wp Try.prog o a w K Q else E := by
  have hw : Region.wanted o (yielded ops a.tmps) = true := by simp [Region.wanted, hgd]
  rw [if_pos hw]
  subst hq
  subst hn
  obtain ⟨g', pre', cap', w', hrun, r1, r2⟩ := run_appC (ty := o.type) h hsrc hl hC
  unfold Oper.wp
  simp [execOp, ho, resolve, invoke, builtin, hs, hx, hrun, Result.andThen]
  exact hK g' pre' cap' w' r1 r2

end Go.Proofs.Ytfcdnecikflehaa
