/- Slices of slices of ints that the call itself has made: read, and one appended. Conditions: fewer than a million elements. -/
import Derived.Test.YtpkilacappjkhaaZA
namespace Go.Proofs.Ytpkilacappjkhaa
open Go.RowKit

theorem infoL : (Try.prog.info? 23).map (fun i => (i.zero, i.size, i.bytes)) = some (some (.slice none 0 0), 1, 24) := by kernel_rfl
/-- a slice of ints: its block, its length and its capacity -/
structure Sl where
  g : Nat
  n : Nat
  c : Nat
def slv (s : Sl) : Value := .slice (some ⟨s.g, 0, none⟩) s.n s.c
abbrev sl0 : Sl := ⟨0, 0, 0⟩
/-- the slice v is owned, its blocks from B on, and holds the slices bs -/
def LsS (B : Nat) (w : World) (v : Value) (bs : List Sl) : Prop := w.ownsRow B 23 1 v bs.length (bs.map slv)
/-- the slice v, wherever it lies, reads as the slices bs -/
def RdLs (w : World) (v : Value) (bs : List Sl) : Prop :=
  ∃ (a : Option Addr) (b off cap : Nat), v = .slice a bs.length cap ∧ (0 < bs.length → a = some ⟨b, off, none⟩ ∧ b < w.heap.size) ∧ bs.length ≤ 9223372036854775807 ∧
    ∀ j, j < bs.length → w.cell? ⟨b, off + j, none⟩ = some (slv (bs.getD j sl0))
theorem RdLs.below {k : Nat} {w w' : World} {v : Value} {bs : List Sl} (h : RdLs w v bs) (hb : Below k w w') (hk : w.heap.size ≤ k) : RdLs w' v bs := by
  obtain ⟨a, b, off, cap, e, h1, h2, h3⟩ := h
  refine ⟨a, b, off, cap, e, fun hp => ⟨(h1 hp).1, Nat.lt_of_lt_of_le (h1 hp).2 hb.size⟩, h2, fun j hj => ?_⟩
  have hlt := (h1 (by omega)).2
  exact (hb.cell (p := ⟨b, off + j, none⟩) (Nat.lt_of_lt_of_le hlt hk)).trans (h3 j hj)
theorem LsS.nil (B : Nat) (w : World) : LsS B w (.slice none 0 0) [] := World.ownsRow_nil w B _ 1
theorem LsS.alloc {B : Nat} {w : World} {v : Value} {bs : List Sl} (h : LsS B w v bs) (o : Obj) : LsS B (w.alloc o) v bs := World.ownsRow.alloc h o
theorem LsS.mono {B B' : Nat} {w : World} {v : Value} {bs : List Sl} (h : LsS B w v bs) (hB : B' ≤ B) : LsS B' w v bs := by
  refine ⟨h.1, ?_⟩
  rcases h.2 with h2 | ⟨g, cap, cur, e, hb, r⟩
  · exact .inl h2
  · exact .inr ⟨g, cap, cur, e, Nat.le_trans hB hb, r⟩
theorem LsS.below {B k : Nat} {w w' : World} {v : Value} {bs : List Sl} (h : LsS B w v bs) (hb : Below k w w') (hk : w.heap.size ≤ k) : LsS B w' v bs := by
  refine ⟨h.1, ?_⟩
  rcases h.2 with h2 | ⟨g, cap, cur, e, hB, hg, r⟩
  · exact .inl h2
  · refine .inr ⟨g, cap, cur, e, hB, ?_, r⟩
    rw [hb.block g (Nat.lt_of_lt_of_le (Array.getElem?_eq_some_iff.1 hg).1 hk)]
    exact hg
theorem LsS.rd {B : Nat} {w : World} {v : Value} {bs : List Sl} (h : LsS B w v bs) : RdLs w v bs := by
  have h' := h
  rcases h.2 with ⟨rfl, hn⟩ | ⟨g, cap, cur, rfl, hb, hg, hnc, hcm, hcs, htake⟩
  · have : bs = [] := List.eq_nil_of_length_eq_zero hn
    subst this
    exact ⟨none, 0, 0, 0, rfl, fun h => by simp at h, by simp, fun j hj => by simp at hj⟩
  · refine ⟨some ⟨g, 0, none⟩, g, 0, cap, rfl, fun _ => ⟨rfl, (Array.getElem?_eq_some_iff.1 hg).1⟩, by unfold maxLen at hcm; omega, fun j hj => ?_⟩
    rw [Nat.zero_add, World.ownsRow.cellAt h' j (by omega)]
    simp [List.getD, hj]

theorem run_appL {w : World} {ty : TypeId} {B : Nat} {v : Value} {bs : List Sl} (h : LsS B w v bs) {H : Nat} {p : Sl} (hs : w.cell? ⟨H, 0, none⟩ = some (slv p)) (hl : bs.length ≤ 1000000) (hB : B ≤ w.heap.size) :
    ∃ a' cap' w', (Builtin.append_ #[72, 72] ty #[v, .slice (some ⟨H, 0, none⟩) 1 1]).run Try.prog w = .ok (.slice a' (bs.length + 1) cap') w' ∧ LsS B w' (.slice a' (bs.length + 1) cap') (bs ++ [p]) ∧ Below B w w' ∧ w.grownBy w' v.ownBlock := by
  obtain ⟨i, hi, hz0, hz1, hz2⟩ := info_parts infoL
  obtain ⟨v', w', hr, hown, hg, _⟩ := run_append_own (P := Try.prog) w B 72 ty 23 i (.slice none 0 0) 1 24 Try.underlying72 hi hz0 hz1 hz2 rfl (by decide) v bs.length (bs.map slv) h
    ⟨H, 0, none⟩ 1 1 [slv p] rfl (fun j u hu => by
      match j, hu with
      | 0, hu => simp at hu; subst hu; rw [Addr.add_lit]; exact hs
      | j + 1, hu => simp at hu) (by simp [Value.oneCell', slv]) (by unfold maxLen; omega) (by omega) hB
  have hin : LsS B w' v' (bs ++ [p]) := by
    unfold LsS
    rw [List.length_append, List.map_append]
    exact hown
  rcases hin.2 with ⟨_, e0⟩ | ⟨g, cap, cur, rfl, _⟩
  · simp at e0
  · rw [List.length_append] at hr hin
    exact ⟨some ⟨g, 0, none⟩, cap, w', hr, hin, (Below.refl _ _).grown hg hB (fun k hk => by
      rcases h.2 with ⟨rfl, _⟩ | ⟨g2, cap2, cur2, rfl, hB2, _⟩
      · cases hk
      · obtain rfl := Option.some.inj hk
        exact hB2), hg⟩

theorem wpList_appL {w : World} {ops : Array Oper} {rest : List Oper} {o : Oper} {a : Act} {Q : Exit → Act → World → Prop} (hgd : o.guard = none) (s x : Operand)
    (ho : o.op = Op.call { callee := Callee.builtin Builtin.append, args := #[s, x], argTypes := #[72, 72] })
    (B : Nat) (v : Value) (bs : List Sl) (hs : a.eval s = v) (h : LsS B w v bs) (H : Nat) (p : Sl) (hx : a.eval x = .slice (some ⟨H, 0, none⟩) 1 1) (hsrc : w.cell? ⟨H, 0, none⟩ = some (slv p)) (hl : bs.length ≤ 1000000) (hB : B ≤ w.heap.size)
    (hK : ∀ a' cap' w', LsS B w' (.slice a' (bs.length + 1) cap') (bs ++ [p]) → Below B w w' → w.grownBy w' v.ownBlock → wpList Try.prog ops Q rest (a.put o.dst (.slice a' (bs.length + 1) cap')) w') : wpList Try.prog ops Q (o :: rest) a w := by
  refine wpList_plain hgd fun K hK' => ?_
  obtain ⟨a', cap', w', hrun, r1, r2, r3⟩ := run_appL (ty := o.type) h hsrc hl hB
  unfold Oper.wp
  simp [execOp, ho, resolve, invoke, builtin, hs, hx, hrun, Result.andThen]
  exact hK' _ _ (hK a' cap' w' r1 r2 r3)

end Go.Proofs.Ytpkilacappjkhaa
