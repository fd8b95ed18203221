/- RecursiveDimension, the program's. Conditions: Sets is a slice of ints; the table setsWith is laid. -/
import Derived.Test.YthmipnflbiclbaaDoorZY
namespace Go.Proofs.YthmipnflbiclbaaDoor
open Go.RowKit Go.Shelf
attribute [local go_sem] Oper.semAt_some

theorem ints_own (N : Nat) (v : Value) (zs : List Int) (B : Nat) : OwnFrom B (fun (_ : Unit) W => Ints N W v zs) := fun _ X Y row hs hg hr => by
  refine hs.kept hg ?_
  rcases hs.2 with ⟨rfl, _⟩ | ⟨g, cap, cur, rfl, _, hgb, _⟩
  · exact .inl rfl
  · refine .inr (fun e => ?_)
    obtain ⟨_, o, ho, hc⟩ := hr g (by simpa [Value.ownBlock] using e.symm)
    rw [hgb] at ho; cases ho; cases hc
theorem Ints.put {B b : Nat} {W : World} {v u : Value} {zs : List Int} (h : Ints B W v zs) (hb : b < B) : Ints B (W.setCell ⟨b, 0, none⟩ u) v zs := own_far h hb



end Go.Proofs.YthmipnflbiclbaaDoor
