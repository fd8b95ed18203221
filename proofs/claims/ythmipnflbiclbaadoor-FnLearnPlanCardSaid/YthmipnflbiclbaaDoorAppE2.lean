/- append of many examples to a slice of examples that the call itself has made, of its own ones too. Conditions: fewer than a million of them. -/
import Derived.Test.YthmipnflbiclbaaDoorAppE
namespace Go.Proofs.YthmipnflbiclbaaDoor
open Go.RowKit

theorem flatE_one (es : List (Int × Bool)) : ∀ u ∈ flatE es, u.oneCell' = true := by
  intro u hu
  simp only [flatE, List.mem_flatMap] at hu
  obtain ⟨e, _, hu⟩ := hu
  simp only [List.mem_cons, List.not_mem_nil, or_false] at hu
  rcases hu with rfl | rfl <;> rfl
/-- the cells of examples from an address on -/
def CelE (w : World) (a : Addr) (es : List (Int × Bool)) : Prop := ∀ j u, (flatE es)[j]? = some u → w.cell? (a.add j) = some u

theorem run_appE_src {w : World} {ty : TypeId} {B : Nat} {v : Value} {es : List (Int × Bool)} (h : ExS B w v es) {a2 : Addr} {c2 : Nat} {fs : List (Int × Bool)} (hs : CelE w a2 fs) (hl : es.length + fs.length ≤ 1000000) (hB : B ≤ w.heap.size) :
    ∃ a' cap' w', (Builtin.append_ #[40, 40] ty #[v, .slice (some a2) fs.length c2]).run Tryd.prog w = .ok (.slice a' (es.length + fs.length) cap') w' ∧ ExS B w' (.slice a' (es.length + fs.length) cap') (es ++ fs) ∧ Below B w w' ∧ w.grownBy w' v.ownBlock := by
  obtain ⟨i, hi, hz0, hz1, hz2⟩ := info_parts info5
  obtain ⟨v', w', hr, hown, hg, _⟩ := run_append_own (P := Tryd.prog) w B 40 ty 92 i (.agg #[.int .i64 0, .bool false]) 2 16 Tryd.underlying40 hi hz0 hz1 hz2 rfl (by decide) v es.length (flatE es) h
    a2 fs.length c2 (flatE fs) (flatE_length fs) hs (flatE_one fs) (by unfold maxLen; omega) (by omega) hB
  have hin : ExS B w' v' (es ++ fs) := by
    unfold ExS
    rw [List.length_append, flatE_append]
    exact hown
  have hbl : Below B w w' := (Below.refl _ _).grown hg hB (fun k hk => by
      rcases h.2 with ⟨rfl, _⟩ | ⟨g2, cap2, cur2, rfl, hB2, _⟩
      · cases hk
      · obtain rfl := Option.some.inj hk
        exact hB2)
  rcases hin.2 with ⟨rfl, e0⟩ | ⟨g, cap, cur, rfl, _⟩
  · have e1 : es.length + fs.length = 0 := by rw [← List.length_append]; exact e0
    rw [e1]
    exact ⟨none, 0, w', hr, hin, hbl, hg⟩
  · rw [List.length_append] at hr hin
    exact ⟨some ⟨g, 0, none⟩, cap, w', hr, hin, hbl, hg⟩

theorem run_appE_self {w : World} {ty : TypeId} {B g n cap : Nat} {es : List (Int × Bool)} (hn : es.length = n) (h : ExS B w (.slice (some ⟨g, 0, none⟩) n cap) es) (hl : n ≤ 100000) (hB : B ≤ w.heap.size) :
    ∃ a' cap' w', (Builtin.append_ #[40, 40] ty #[.slice (some ⟨g, 0, none⟩) n cap, .slice (some ⟨g, 0, none⟩) n cap]).run Tryd.prog w = .ok (.slice a' (n + n) cap') w' ∧ ExS B w' (.slice a' (n + n) cap') (es ++ es) ∧ CelE w' ⟨g, 0, none⟩ es ∧ Below B w w' ∧ w.grownBy w' (some g) := by
  subst hn
  obtain ⟨i, hi, hz0, hz1, hz2⟩ := info_parts info5
  have hown0 : w.ownsRow B 92 2 (.slice (some ⟨g, 0, none⟩) es.length cap) es.length (flatE es) := h
  have holds : CelE w ⟨g, 0, none⟩ es := World.ownsRow.cells (g := g) hown0 rfl
  have hglt : g < w.heap.size ∧ B ≤ g := by
    rcases h.2 with ⟨e, _⟩ | ⟨g2, cap2, cur2, e, hB2, hg2, _⟩
    · cases e
    · simp only [Value.slice.injEq, Option.some.injEq, Addr.mk.injEq] at e
      obtain ⟨⟨rfl, _⟩, _⟩ := e
      exact ⟨(Array.getElem?_eq_some_iff.1 hg2).1, hB2⟩
  obtain ⟨a', cap', w', hr, hin, hbl, hg⟩ := run_appE_src (ty := ty) h (c2 := cap) holds (by omega) hB
  refine ⟨a', cap', w', hr, hin, ?_, hbl, hg⟩
  by_cases hroom : es.length + es.length ≤ cap
  · obtain ⟨w2, hr2, hown2, _⟩ := run_append_fits (P := Tryd.prog) w B 40 ty 92 i 2 Tryd.underlying40 hi hz1 g es.length cap (flatE es) hown0 ⟨g, 0, none⟩ es.length cap (flatE es) (flatE_length es) holds (flatE_one es) hroom
    rw [hr] at hr2
    obtain rfl : w' = w2 := by injection hr2
    intro j u hu
    have hj : j < es.length * 2 := by rw [← flatE_length]; exact (List.getElem?_eq_some_iff.1 hu).1
    have hc := World.ownsRow.cellAt hown2 j (by omega)
    rw [List.getElem?_append_left (by rw [flatE_length]; exact hj), hu] at hc
    rw [Addr.add_lit, Nat.zero_add]
    exact hc
  · have hr2 := run_append_grow (P := Tryd.prog) w 40 ty 92 i (.agg #[.int .i64 0, .bool false]) Tryd.underlying40 hi hz0 ⟨g, 0, none⟩ es.length cap (flatE es) (by rw [hz1]; exact flatE_length es) holds ⟨g, 0, none⟩ es.length cap (flatE es) (by rw [hz1]; exact flatE_length es) holds (by omega) (by omega) (by rw [hz2]; exact growslice_fits (by omega) (by omega))
    rw [hr] at hr2
    have hw : w' = w.drew.alloc (.cells ((flatE es).toArray ++ (flatE es).toArray ++ Builtin.zeroCells (Value.agg #[.int .i64 0, .bool false]).cells (grownCap w (es.length + es.length) cap 92 - (es.length + es.length))) 92) := by injection hr2
    subst hw
    intro j u hu
    rw [← holds j u hu]
    rw [Addr.add_lit, Nat.zero_add]
    exact World.cell?_of_block (w := w) (a := ⟨g, j, none⟩) (heap_alloc_old w.drew _ (r := g) hglt.1)

theorem wpList_appES {w : World} {ops : Array Oper} {rest : List Oper} {o : Oper} {a : Act} {Q : Exit → Act → World → Prop} (hgd : o.guard = none) (s x : Operand)
    (ho : o.op = Op.call { callee := Callee.builtin Builtin.append, args := #[s, x], argTypes := #[40, 40] })
    (B g n cap : Nat) (es : List (Int × Bool)) (hn : es.length = n) (hs : a.eval s = .slice (some ⟨g, 0, none⟩) n cap) (h : ExS B w (.slice (some ⟨g, 0, none⟩) n cap) es) (hx : a.eval x = .slice (some ⟨g, 0, none⟩) n cap) (hl : n ≤ 100000) (hB : B ≤ w.heap.size)
    (hK : ∀ a' cap' w', ExS B w' (.slice a' (n + n) cap') (es ++ es) → CelE w' ⟨g, 0, none⟩ es → Below B w w' → w.grownBy w' (some g) → wpList Tryd.prog ops Q rest (a.put o.dst (.slice a' (n + n) cap')) w') : wpList Tryd.prog ops Q (o :: rest) a w := by
  refine wpList_plain hgd fun K hK' => ?_
  obtain ⟨a', cap', w', hrun, r1, r2, r3, r4⟩ := run_appE_self (ty := o.type) hn h hl hB
  unfold Oper.wp
  simp [execOp, ho, resolve, invoke, builtin, hs, hx, hrun, Result.andThen]
  exact hK' _ _ (hK a' cap' w' r1 r2 r3 r4)

theorem wpList_appEF {w : World} {ops : Array Oper} {rest : List Oper} {o : Oper} {a : Act} {Q : Exit → Act → World → Prop} (hgd : o.guard = none) (s x : Operand)
    (ho : o.op = Op.call { callee := Callee.builtin Builtin.append, args := #[s, x], argTypes := #[40, 40] })
    (B k n c2 : Nat) (v : Value) (a2 : Addr) (es fs : List (Int × Bool)) (hk : es.length = k) (hn : fs.length = n) (hs : a.eval s = v) (h : ExS B w v es) (hx : a.eval x = .slice (some a2) n c2) (hc : CelE w a2 fs) (hl : k + n ≤ 1000000) (hB : B ≤ w.heap.size)
    (hK : ∀ a' cap' w', ExS B w' (.slice a' (k + n) cap') (es ++ fs) → Below B w w' → w.grownBy w' v.ownBlock → wpList Tryd.prog ops Q rest (a.put o.dst (.slice a' (k + n) cap')) w') : wpList Tryd.prog ops Q (o :: rest) a w := by
  subst hk; subst hn
  refine wpList_plain hgd fun K hK' => ?_
  obtain ⟨a', cap', w', hrun, r1, r2, r3⟩ := run_appE_src (ty := o.type) h (c2 := c2) hc hl hB
  unfold Oper.wp
  simp [execOp, ho, resolve, invoke, builtin, hs, hx, hrun, Result.andThen]
  exact hK' _ _ (hK a' cap' w' r1 r2 r3)

end Go.Proofs.YthmipnflbiclbaaDoor
