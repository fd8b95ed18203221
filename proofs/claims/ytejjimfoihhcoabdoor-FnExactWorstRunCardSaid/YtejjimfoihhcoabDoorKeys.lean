/- A map[int]bool that a call made, whose keys are small sets, each true: made, stored into, deleted from, looked up. No conditions. -/
import Derived.Test.YtejjimfoihhcoabDoorEq
import Derived.Test.YtejjimfoihhcoabDoorMath
import Derived.Maps.OwnOps
import Derived.Maps.OwnSet
namespace Go.Proofs.YtejjimfoihhcoabDoor
open Go.RowKit Go.Maps

theorem keyInt : Keyed Tryd.prog 3 := int_keyed Tryd.underlying3
theorem zeroBool (w : World) : (zeroValue 4).run Tryd.prog w = .ok (.bool false) w := by kernel_rfl
theorem wf_nat {x : Nat} (h : x < 4096) : (Lit.int .i64 (x : Int)).wf = true := by
  simp [Lit.wf, IntKind.min, IntKind.max, IntKind.signed, IntKind.bits]; omega
theorem keyOf_nat {x : Nat} (h : x < 4096) : keyOf Tryd.prog 3 (.int .i64 (x : Int)) = some (.int .i64 (x : Int)) := keyOf_int_mk Tryd.underlying3 (wf_nat h)
theorem isKeyNat {x : Nat} : WideAt.IsKeyLit (.int .i64 (x : Int)) := by simp [WideAt.IsKeyLit]

/-- block b is a map of at most n entries whose keys are the sets for which K holds, each true -/
def Keys (w : World) (b n : Nat) (K : Nat → Bool) : Prop :=
  ∃ D : DataW Unit, w.ownsMap Tryd.prog 3 (plainElem Tryd.prog 4) b n D ∧ IsMap D ∧ ∀ x : Nat, x < 4096 → D.atKey (.int .i64 (x : Int)) (.lit (.bool false)) = .lit (.bool (K x))
theorem Keys.made (w : World) : Keys (w.alloc (.map #[] 0)) w.heap.size 0 (fun _ => false) :=
  ⟨.map [], World.ownsMap_made _ _ _ _, isMap_empty, fun _ _ => rfl⟩
theorem Keys.lt {w : World} {b n : Nat} {K : Nat → Bool} (h : Keys w b n K) : b < w.heap.size := by
  obtain ⟨D, h1, _⟩ := h
  exact h1.lt
theorem Keys.mono {w : World} {b n m : Nat} {K : Nat → Bool} (h : Keys w b n K) (hm : n ≤ m) : Keys w b m K := by
  obtain ⟨D, h1, h2⟩ := h
  exact ⟨D, h1.mono hm, h2⟩
theorem Keys.below {w w' : World} {b n B : Nat} {K : Nat → Bool} (h : Keys w b n K) (hb : Below B w w') (hB : b < B) : Keys w' b n K := by
  obtain ⟨D, ⟨es, c, h1, h2⟩, h3⟩ := h
  exact ⟨D, ⟨es, c, by rw [hb.block b hB]; exact h1, h2⟩, h3⟩
theorem Keys.kept {w w' : World} {b n : Nat} {r : Option Nat} {K : Nat → Bool} (h : Keys w b n K) (hg : w.grownBy w' r) (hne : some b ≠ r) : Keys w' b n K := by
  obtain ⟨D, h1, h2⟩ := h
  exact ⟨D, h1.kept hg hne, h2⟩
theorem Keys.congr {w : World} {b n : Nat} {K L : Nat → Bool} (h : Keys w b n K) (he : ∀ x, x < 4096 → K x = L x) : Keys w b n L := by
  obtain ⟨D, h1, h2, h3⟩ := h
  exact ⟨D, h1, h2, fun x hx => by rw [h3 x hx, he x hx]⟩

theorem litNe {x y : Nat} (h : y ≠ x) : (Lit.int .i64 (y : Int)) ≠ Lit.int .i64 (x : Int) := by
  intro e
  simp only [Lit.int.injEq, true_and] at e
  omega


section
variable {ops : Array Oper} {rest : List Oper} {o : Oper} {a : Act} {Q : Exit → Act → World → Prop}




end

end Go.Proofs.YtejjimfoihhcoabDoor
