/- Two arrays of marks compared. No conditions. -/
import Derived.Test.YtejjimfoihhcoaaIdx
namespace Go.Proofs.Ytejjimfoihhcoaa
open Go.RowKit

theorem run_part_marks (p : Nat → Bool) (k : Nat) (hk : k < 32) (w : World) : (part 4 (marksC p) k).run Try.prog w = .ok (.bool (p k)) w := by
  have hg : (marksC p)[k]? = some (.bool (p k)) := by simp [marksC, markL, hk]
  simp [part, hg, isAgg, run_underlying Try.underlying4]

theorem run_forMarks (p q : Nat → Bool) (f : Nat → Option Bool × Unit → Sem (ForInStep (Option Bool × Unit))) (hf : ∀ j, j < 32 → ∀ s w, (f j s).run Try.prog w = .ok (if p j == q j then ForInStep.yield (none, ()) else ForInStep.done (some false, ())) w) {w : World} :
    ∀ ls : List Nat, (∀ j ∈ ls, j < 32) → (forIn ls ((none, ()) : Option Bool × Unit) f).run Try.prog w = .ok (if ls.all (fun i => p i == q i) then none else some false, ()) w := by
  intro ls
  induction ls with
  | nil => intro _; simp
  | cons j ls ih =>
    intro hj
    simp only [List.forIn_cons, Sem.run_bind, hf j (hj j (by simp)), Result.andThen_ok, List.all_cons]
    by_cases e : p j == q j
    · simp only [e, if_true, Bool.true_and]
      exact ih (fun i hi => hj i (by simp [hi]))
    · rw [Bool.not_eq_true] at e
      simp only [e, Bool.false_eq_true, if_false, Bool.false_and, Sem.run_pure]

theorem run_equalIn_marks (d : Nat) (p q : Nat → Bool) (w : World) : (Op.equalIn (d + 2) 75 (.agg (marksC p)) (.agg (marksC q))).run Try.prog w = .ok ((List.range 32).all fun i => p i == q i) w := by
  obtain ⟨i, hi, hs⟩ := Option.map_eq_some_iff.1 infoB
  unfold Op.equalIn
  simp only [Sem.run_bind, run_underlying Try.underlying75, Result.andThen_ok, sizeOf, typeInfo]
  simp only [run_program, hi, Sem.run_pure, Result.andThen_ok, hs, Nat.mul_one]
  rw [Std.Legacy.Range.forIn_eq_forIn_range']
  have e2 : List.range' ([:32] : Std.Legacy.Range).start ([:32] : Std.Legacy.Range).size ([:32] : Std.Legacy.Range).step = List.range 32 := by decide +kernel
  rw [e2, run_forMarks p q _ (fun j hj s w => ?_) (List.range 32) (fun j hj => List.mem_range.1 hj), Result.andThen_ok]
  · by_cases e : (List.range 32).all fun i => p i == q i
    · simp [e]
    · rw [Bool.not_eq_true] at e
      simp [e]
  · simp only [Sem.run_bind, run_part_marks _ _ hj, Result.andThen_ok, run_equalIn_bool' w d _ (p j) (q j) Try.underlying4]
    by_cases e : p j == q j
    · simp only [e, Bool.not_true, Bool.false_eq_true, if_false, Sem.run_pure, if_true]
    · rw [Bool.not_eq_true] at e
      simp only [e, Bool.not_false, if_true, Sem.run_pure, Bool.false_eq_true, if_false]

theorem run_eqlM (p q : Nat → Bool) (w : World) : (binOp .eql 75 (.agg (marksC p)) (.agg (marksC q))).run Try.prog w = .ok (.bool ((List.range 32).all fun i => p i == q i)) w := by
  rw [run_eql_struct, show (10000 : Nat) = 9998 + 2 from rfl, run_equalIn_marks, Result.andThen_ok]

/-- the marks are those of the parts exactly if as many parts are there as may be -/
theorem sht_marks (ns : List Nat) (s : Nat) (hs : s < 32) : ((List.range 32).all fun i => (ns.any fun t => t &&& s == i) == (i &&& s == i)) = sht ns s := by
  have hsub : ∀ x, x ∈ tr ns s → x ∈ flt (fun p => p &&& s == p) := by
    intro x hx
    obtain ⟨hx32, h⟩ := mem_flt.1 hx
    refine mem_flt.2 ⟨hx32, ?_⟩
    obtain ⟨t, _, ht⟩ := List.any_eq_true.1 h
    rw [beq_iff_eq] at ht ⊢
    rw [← ht, Nat.and_assoc, Nat.and_self]
  have hcard : (flt (fun p => p &&& s == p)).length = 2 ^ pc s := by
    have : ∀ s : Fin 32, (flt (fun p => p &&& (s : Nat) == p)).length = 2 ^ pc s := by decide +kernel
    exact this ⟨s, hs⟩
  rw [Bool.eq_iff_iff, List.all_eq_true, sht, decide_eq_true_eq]
  constructor
  · intro h
    rw [← hcard]
    congr 1
    exact flt_congr fun x hx => by simpa using h x (List.mem_range.2 hx)
  · intro h x hx
    have hx32 := List.mem_range.1 hx
    have e : tr ns s = flt (fun p => p &&& s == p) := by
      have hsl : (tr ns s).Sublist (flt (fun p => p &&& s == p)) := by
        have : tr ns s = (flt (fun p => p &&& s == p)).filter (fun x => decide (x ∈ tr ns s)) := by
          apply asc_ext (flt_asc _) ((flt_asc _).filter _)
          intro y
          rw [List.mem_filter, decide_eq_true_eq]
          exact ⟨fun hy => ⟨hsub y hy, hy⟩, fun hy => hy.2⟩
        rw [this]
        exact List.filter_sublist
      exact hsl.eq_of_length (by rw [h, hcard])
    rw [beq_iff_eq, Bool.eq_iff_iff]
    have := congrArg (x ∈ ·) e
    simp only [tr, mem_flt, eq_iff_iff] at this
    exact ⟨fun h => (this.1 ⟨hx32, h⟩).2, fun h => (this.2 ⟨hx32, h⟩).2⟩

theorem wpList_eqlM {w : World} {ops : Array Oper} {rest : List Oper} {o : Oper} {a : Act} {Q : Exit → Act → World → Prop} (x y : Operand) (hg : Region.wanted o (yielded ops a.tmps) = true)
    (ho : o.op = .binOp .eql 75 x y 75) (p q : Nat → Bool) (hx : a.eval x = .agg (marksC p)) (hy : a.eval y = .agg (marksC q))
    (h : wpList Try.prog ops Q rest (a.put o.dst (.bool ((List.range 32).all fun i => p i == q i))) w) : wpList Try.prog ops Q (o :: rest) a w := by
  refine wpList_step fun K hK => ?_
  rw [if_pos hg]
  unfold Oper.wp execOp
  have hm : Try.prog.eqGuardType Try.prog.depth 75 = false := by kernel_rfl
  simp only [ho, hx, hy, Sem.run_bind, Sem.run_pure, run_eqGuard_agg w .eql _ x y _ _ hm, run_eqlM p q w, Result.andThen_ok]
  exact hK _ _ h

end Go.Proofs.Ytejjimfoihhcoaa
