/- Slices of pointers to nodes that the call itself has made: read, and one appended. Conditions: fewer than a million elements. -/
import Derived.Test.YtpkilacappjkhaaZA
namespace Go.Proofs.Ytpkilacappjkhaa
open Go.RowKit

theorem infoN : (Try.prog.info? 42).map (fun i => (i.zero, i.size, i.bytes)) = some (some (.pointer none), 1, 8) := by kernel_rfl
/-- the pointer to the node in block b -/
def ndp (b : Nat) : Value := .pointer (some ⟨b, 0, none⟩)
/-- the slice v is owned, its blocks from B on, and holds the nodes in the blocks bs -/
def NdS (B : Nat) (w : World) (v : Value) (bs : List Nat) : Prop := w.ownsRow B 42 1 v bs.length (bs.map ndp)
/-- the slice v, wherever it lies, reads as the nodes in the blocks bs -/
def RdN (w : World) (v : Value) (bs : List Nat) : Prop :=
  ∃ (a : Option Addr) (b off cap : Nat), v = .slice a bs.length cap ∧ (0 < bs.length → a = some ⟨b, off, none⟩ ∧ b < w.heap.size) ∧ bs.length ≤ 9223372036854775807 ∧
    ∀ j, j < bs.length → w.cell? ⟨b, off + j, none⟩ = some (ndp (bs.getD j 0))
theorem RdN.below {k : Nat} {w w' : World} {v : Value} {bs : List Nat} (h : RdN w v bs) (hb : Below k w w') (hk : w.heap.size ≤ k) : RdN w' v bs := by
  obtain ⟨a, b, off, cap, e, h1, h2, h3⟩ := h
  refine ⟨a, b, off, cap, e, fun hp => ⟨(h1 hp).1, Nat.lt_of_lt_of_le (h1 hp).2 hb.size⟩, h2, fun j hj => ?_⟩
  have hlt := (h1 (by omega)).2
  exact (hb.cell (p := ⟨b, off + j, none⟩) (Nat.lt_of_lt_of_le hlt hk)).trans (h3 j hj)
theorem NdS.nil (B : Nat) (w : World) : NdS B w (.slice none 0 0) [] := World.ownsRow_nil w B _ 1
theorem NdS.alloc {B : Nat} {w : World} {v : Value} {bs : List Nat} (h : NdS B w v bs) (o : Obj) : NdS B (w.alloc o) v bs := World.ownsRow.alloc h o
theorem NdS.mono {B B' : Nat} {w : World} {v : Value} {bs : List Nat} (h : NdS B w v bs) (hB : B' ≤ B) : NdS B' w v bs := by
  refine ⟨h.1, ?_⟩
  rcases h.2 with h2 | ⟨g, cap, cur, e, hb, r⟩
  · exact .inl h2
  · exact .inr ⟨g, cap, cur, e, Nat.le_trans hB hb, r⟩
theorem NdS.below {B k : Nat} {w w' : World} {v : Value} {bs : List Nat} (h : NdS B w v bs) (hb : Below k w w') (hk : w.heap.size ≤ k) : NdS B w' v bs := by
  refine ⟨h.1, ?_⟩
  rcases h.2 with h2 | ⟨g, cap, cur, e, hB, hg, r⟩
  · exact .inl h2
  · refine .inr ⟨g, cap, cur, e, hB, ?_, r⟩
    rw [hb.block g (Nat.lt_of_lt_of_le (Array.getElem?_eq_some_iff.1 hg).1 hk)]
    exact hg
theorem NdS.rd {B : Nat} {w : World} {v : Value} {bs : List Nat} (h : NdS B w v bs) : RdN w v bs := by
  have h' := h
  rcases h.2 with ⟨rfl, hn⟩ | ⟨g, cap, cur, rfl, hb, hg, hnc, hcm, hcs, htake⟩
  · have : bs = [] := List.eq_nil_of_length_eq_zero hn
    subst this
    exact ⟨none, 0, 0, 0, rfl, fun h => by simp at h, by simp, fun j hj => by simp at hj⟩
  · refine ⟨some ⟨g, 0, none⟩, g, 0, cap, rfl, fun _ => ⟨rfl, (Array.getElem?_eq_some_iff.1 hg).1⟩, by unfold maxLen at hcm; omega, fun j hj => ?_⟩
    rw [Nat.zero_add, World.ownsRow.cellAt h' j (by omega)]
    simp [List.getD, hj]

theorem run_appN {w : World} {ty : TypeId} {B : Nat} {v : Value} {bs : List Nat} (h : NdS B w v bs) {H p : Nat} (hs : w.cell? ⟨H, 0, none⟩ = some (ndp p)) (hl : bs.length ≤ 1000000) (hB : B ≤ w.heap.size) :
    ∃ a' cap' w', (Builtin.append_ #[40, 40] ty #[v, .slice (some ⟨H, 0, none⟩) 1 1]).run Try.prog w = .ok (.slice a' (bs.length + 1) cap') w' ∧ NdS B w' (.slice a' (bs.length + 1) cap') (bs ++ [p]) ∧ Below B w w' ∧ w.grownBy w' v.ownBlock := by
  obtain ⟨i, hi, hz0, hz1, hz2⟩ := info_parts infoN
  obtain ⟨v', w', hr, hown, hg, _⟩ := run_append_own (P := Try.prog) w B 40 ty 42 i (.pointer none) 1 8 Try.underlying40 hi hz0 hz1 hz2 rfl (by decide) v bs.length (bs.map ndp) h
    ⟨H, 0, none⟩ 1 1 [ndp p] rfl (fun j u hu => by
      match j, hu with
      | 0, hu => simp at hu; subst hu; rw [Addr.add_lit]; exact hs
      | j + 1, hu => simp at hu) (by simp [Value.oneCell', ndp]) (by unfold maxLen; omega) (by omega) hB
  have hin : NdS B w' v' (bs ++ [p]) := by
    unfold NdS
    rw [List.length_append, List.map_append]
    exact hown
  rcases hin.2 with ⟨_, e0⟩ | ⟨g, cap, cur, rfl, _⟩
  · simp at e0
  · rw [List.length_append] at hr hin
    exact ⟨some ⟨g, 0, none⟩, cap, w', hr, hin, (Below.refl _ _).grown hg hB (fun k hk => by
      rcases h.2 with ⟨rfl, _⟩ | ⟨g2, cap2, cur2, rfl, hB2, _⟩
      · cases hk
      · obtain rfl := Option.some.inj hk
        exact hB2), hg⟩

theorem wpList_appN {w : World} {ops : Array Oper} {rest : List Oper} {o : Oper} {a : Act} {Q : Exit → Act → World → Prop} (hgd : o.guard = none) (s x : Operand)
    (ho : o.op = Op.call { callee := Callee.builtin Builtin.append, args := #[s, x], argTypes := #[40, 40] })
    (B : Nat) (v : Value) (bs : List Nat) (hs : a.eval s = v) (h : NdS B w v bs) (H p : Nat) (hx : a.eval x = .slice (some ⟨H, 0, none⟩) 1 1) (hsrc : w.cell? ⟨H, 0, none⟩ = some (ndp p)) (hl : bs.length ≤ 1000000) (hB : B ≤ w.heap.size)
    (hK : ∀ a' cap' w', NdS B w' (.slice a' (bs.length + 1) cap') (bs ++ [p]) → Below B w w' → w.grownBy w' v.ownBlock → wpList Try.prog ops Q rest (a.put o.dst (.slice a' (bs.length + 1) cap')) w') : wpList Try.prog ops Q (o :: rest) a w := by
  refine wpList_plain hgd fun K hK' => ?_
  obtain ⟨a', cap', w', hrun, r1, r2, r3⟩ := run_appN (ty := o.type) h hsrc hl hB
  unfold Oper.wp
  simp [execOp, ho, resolve, invoke, builtin, hs, hx, hrun, Result.andThen]
  exact hK' _ _ (hK a' cap' w' r1 r2 r3)

end Go.Proofs.Ytpkilacappjkhaa
