/- A map[int]bool that a call made, whose keys are small sets, each true: made, stored into, deleted from, looked up. No conditions. -/
import Derived.Test.YtejjimfoihhcoaaEq
import Derived.Test.YtejjimfoihhcoaaMath
import Derived.Maps.OwnOps
import Derived.Maps.OwnSet
namespace Go.Proofs.Ytejjimfoihhcoaa
open Go.RowKit Go.Maps

theorem keyInt : Keyed Try.prog 3 := int_keyed Try.underlying3
theorem zeroBool (w : World) : (zeroValue 4).run Try.prog w = .ok (.bool false) w := by kernel_rfl
theorem wf_nat {x : Nat} (h : x < 4096) : (Lit.int .i64 (x : Int)).wf = true := by
  simp [Lit.wf, IntKind.min, IntKind.max, IntKind.signed, IntKind.bits]; omega
theorem keyOf_nat {x : Nat} (h : x < 4096) : keyOf Try.prog 3 (.int .i64 (x : Int)) = some (.int .i64 (x : Int)) := keyOf_int_mk Try.underlying3 (wf_nat h)
theorem isKeyNat {x : Nat} : WideAt.IsKeyLit (.int .i64 (x : Int)) := by simp [WideAt.IsKeyLit]

/-- block b is a map of at most n entries whose keys are the sets for which K holds, each true -/
def Keys (w : World) (b n : Nat) (K : Nat → Bool) : Prop :=
  ∃ D : DataW Unit, w.ownsMap Try.prog 3 (plainElem Try.prog 4) b n D ∧ IsMap D ∧ ∀ x : Nat, x < 4096 → D.atKey (.int .i64 (x : Int)) (.lit (.bool false)) = .lit (.bool (K x))
theorem Keys.made (w : World) : Keys (w.alloc (.map #[] 0)) w.heap.size 0 (fun _ => false) :=
  ⟨.map [], World.ownsMap_made _ _ _ _, isMap_empty, fun _ _ => rfl⟩
theorem Keys.lt {w : World} {b n : Nat} {K : Nat → Bool} (h : Keys w b n K) : b < w.heap.size := by
  obtain ⟨D, h1, _⟩ := h
  exact h1.lt
theorem Keys.mono {w : World} {b n m : Nat} {K : Nat → Bool} (h : Keys w b n K) (hm : n ≤ m) : Keys w b m K := by
  obtain ⟨D, h1, h2⟩ := h
  exact ⟨D, h1.mono hm, h2⟩
theorem Keys.below {w w' : World} {b n B : Nat} {K : Nat → Bool} (h : Keys w b n K) (hb : Below B w w') (hB : b < B) : Keys w' b n K := by
  obtain ⟨D, ⟨es, c, h1, h2⟩, h3⟩ := h
  exact ⟨D, ⟨es, c, by rw [hb.block b hB]; exact h1, h2⟩, h3⟩
theorem Keys.kept {w w' : World} {b n : Nat} {r : Option Nat} {K : Nat → Bool} (h : Keys w b n K) (hg : w.grownBy w' r) (hne : some b ≠ r) : Keys w' b n K := by
  obtain ⟨D, h1, h2⟩ := h
  exact ⟨D, h1.kept hg hne, h2⟩
theorem Keys.congr {w : World} {b n : Nat} {K L : Nat → Bool} (h : Keys w b n K) (he : ∀ x, x < 4096 → K x = L x) : Keys w b n L := by
  obtain ⟨D, h1, h2, h3⟩ := h
  exact ⟨D, h1, h2, fun x hx => by rw [h3 x hx, he x hx]⟩

theorem litNe {x y : Nat} (h : y ≠ x) : (Lit.int .i64 (y : Int)) ≠ Lit.int .i64 (x : Int) := by
  intro e
  simp only [Lit.int.injEq, true_and] at e
  omega

theorem Keys.look {w : World} {b n : Nat} {K : Nat → Bool} (h : Keys w b n K) (k : Nat) (hk : k < 4096) :
    (Instr.lookup 49 (.map (some b)) (.int .i64 (k : Int)) false).run Try.prog w = .ok (.bool (K k)) w := by
  obtain ⟨D, h1, h2, h3⟩ := h
  obtain ⟨v, ps, hrun, hv⟩ := h1.lookup keyInt Try.underlying49 (zeroBool w) (plainElem_bool Try.underlying4 false) (keyOf_nat hk)
  rw [h3 k hk] at hv
  have hvb : v = .bool (K k) := by
    unfold plainElem at hv
    rw [show Try.prog.underlying 4 = some .bool from Try.underlying4] at hv
    cases v <;> simp_all
  subst hvb
  exact hrun

section
variable {ops : Array Oper} {rest : List Oper} {o : Oper} {a : Act} {Q : Exit → Act → World → Prop}

theorem wpList_keys_put (w : World) (hg : o.guard = none) (m x v : Operand) (hop : o.op = Op.mapUpdate 49 m x v)
    (b n : Nat) (K : Nat → Bool) (hm : a.eval m = .map (some b)) (h : Keys w b n K) (hn : n < 4096) (k : Nat) (hk : k < 4096) (hx : a.eval x = .int .i64 (k : Int)) (hv : a.eval v = .bool true)
    (hK : ∀ w', Keys w' b (n + 1) (fun y => decide (y = k) || K y) → w.grownBy w' (some b) → wpList Try.prog ops Q rest (a.put o.dst undef) w') :
    wpList Try.prog ops Q (o :: rest) a w := by
  obtain ⟨D, h1, h2, h3⟩ := h
  refine wpList_mapUpdate_own w hg m x v 49 hop 3 4 keyInt Try.underlying49 (plainElem Try.prog 4) b n D hm h1 (by unfold maxLen; omega) _ _ _ hx hv (keyOf_nat hk) (.lit (.bool true)) [] (plainElem_bool Try.underlying4 true) ?_
  intro w' hown hgr
  refine hK w' ⟨_, hown, h2.put _ _, fun y hy => ?_⟩ hgr
  by_cases e : y = k
  · subst e
    rw [atKey_put_same h2 isKeyNat]
    simp
  · rw [atKey_put_other (litNe e), h3 y hy]
    simp [e]

theorem wpList_keys_del (w : World) (hg : o.guard = none) (m x : Operand) (hop : o.op = Op.call { callee := Callee.builtin Builtin.delete, args := #[m, x], argTypes := #[49, 3] })
    (b n : Nat) (K : Nat → Bool) (hm : a.eval m = .map (some b)) (h : Keys w b n K) (k : Nat) (hk : k < 4096) (hx : a.eval x = .int .i64 (k : Int))
    (hK : ∀ w', Keys w' b n (fun y => !decide (y = k) && K y) → w.grownBy w' (some b) → wpList Try.prog ops Q rest (a.put o.dst (.tuple #[])) w') :
    wpList Try.prog ops Q (o :: rest) a w := by
  obtain ⟨D, h1, h2, h3⟩ := h
  refine wpList_delete_own w hg m x 49 3 hop 4 keyInt Try.underlying49 (plainElem Try.prog 4) b n D hm h1 _ _ hx (keyOf_nat hk) ?_
  intro w' hown ht
  refine hK w' ⟨_, hown, h2.del _, fun y hy => ?_⟩ ht.grown
  by_cases e : y = k
  · subst e
    rw [atKey_del_same]
    simp
  · rw [atKey_del_other (litNe e), h3 y hy]
    simp [e]

theorem wpList_keys_look (w : World) (hg : o.guard = none) (m x : Operand) (hop : o.op = Op.lookup 49 m x false)
    (b n : Nat) (K : Nat → Bool) (hm : a.eval m = .map (some b)) (h : Keys w b n K) (k : Nat) (hk : k < 4096) (hx : a.eval x = .int .i64 (k : Int))
    (hK : wpList Try.prog ops Q rest (a.put o.dst (.bool (K k))) w) :
    wpList Try.prog ops Q (o :: rest) a w := by
  refine wpList_plain hg fun K' hK' => ?_
  have hrun := h.look k hk
  unfold Oper.wp
  simp [execOp, hop, hm, hx, hrun, Result.andThen]
  exact hK' _ _ hK

end

end Go.Proofs.Ytejjimfoihhcoaa
