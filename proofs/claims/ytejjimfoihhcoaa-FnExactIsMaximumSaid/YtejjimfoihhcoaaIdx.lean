/- Marks read at an index; the sets below a bound for which a test holds. No conditions. -/
import Derived.Test.YtejjimfoihhcoaaArr2
import Derived.Test.YtejjimfoihhcoaaApp
import Derived.Test.YtejjimfoihhcoaaTrace
namespace Go.Proofs.Ytejjimfoihhcoaa
open Go.RowKit

theorem infoB : (Try.prog.info? 4).map (·.size) = some 1 := by kernel_rfl
theorem run_indexM (p : Nat → Bool) (k : Nat) (hk : k < 32) (w : World) : (Instr.index 75 (marksV p) (.int .i64 (k : Int))).run Try.prog w = .ok (.bool (p k)) w := by
  obtain ⟨i, hi, hs⟩ := Option.map_eq_some_iff.1 infoB
  have hg : (marksC p)[k]? = some (.bool (p k)) := by simp [marksC, markL, hk]
  have h0 : (0 : Int) ≤ (k : Int) ∧ (k : Int) < 32 := by omega
  simp [Instr.index, marksV, asIntOf, run_underlying Try.underlying75, h0, sizeOf, typeInfo, hi, hs, part, hg, isAgg, run_underlying Try.underlying4]
  intro h
  omega

theorem wpList_indexM {w : World} {ops : Array Oper} {rest : List Oper} {o : Oper} {a : Act} {Q : Exit → Act → World → Prop} (hgd : o.guard = none) (x i : Operand) (ho : o.op = .index 75 x i)
    (p : Nat → Bool) (k : Nat) (hx : a.eval x = marksV p) (hi : a.eval i = .int .i64 (k : Int)) (hk : k < 32) (h : wpList Try.prog ops Q rest (a.put o.dst (.bool (p k))) w) : wpList Try.prog ops Q (o :: rest) a w :=
  wpList_plain hgd fun K hK => by
    unfold Oper.wp execOp
    simp only [ho, hx, hi, Sem.run_bind, Sem.run_pure, run_indexM p k hk, Result.andThen_ok]
    exact hK _ _ h

theorem filt_yes {p : Nat → Bool} {k : Nat} (h : p k = true) : (List.range (k + 1)).filter p = (List.range k).filter p ++ [k] := by simp [List.range_succ, h]
theorem filt_no {p : Nat → Bool} {k : Nat} (h : p k = false) : (List.range (k + 1)).filter p = (List.range k).filter p := by simp [List.range_succ, h]
theorem filt_le (p : Nat → Bool) (k : Nat) : ((List.range k).filter p).length ≤ k := by have := List.length_filter_le p (List.range k); simpa using this

end Go.Proofs.Ytejjimfoihhcoaa
