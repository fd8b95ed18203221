/- A map from families to numbers that remembers what is due: made, filled, looked up. No conditions. -/
import Derived.Maps.OwnOps
import Derived.Maps.OwnSet
import Derived.Test.YthmipnflbiclbaaDoorGdM
namespace Go.Proofs.YthmipnflbiclbaaDoor
open Go.RowKit Go.Maps

theorem keyFam : Keyed Tryd.prog 80 := int_keyed Tryd.underlying80
theorem zeroInt (w : World) : (zeroValue 3).run Tryd.prog w = .ok (.int .i64 0) w := by kernel_rfl
theorem wf_fm (l : List Nat) : (Lit.int .u32 (fm l)).wf = true := by
  have h : fm l < 4294967296 := by unfold fm; have := (famB l).isLt; omega
  have h0 : 0 ≤ fm l := by unfold fm; omega
  simp [Lit.wf, IntKind.min, IntKind.max, IntKind.signed, IntKind.bits]; omega
theorem wf_small {x : Int} (h : 0 ≤ x ∧ x ≤ 100) : (Lit.int .i64 x).wf = true := by
  simp [Lit.wf, IntKind.min, IntKind.max, IntKind.signed, IntKind.bits]; omega
theorem keyOf_fm (l : List Nat) : keyOf Tryd.prog 80 (.int .u32 (fm l)) = some (.int .u32 (fm l)) := keyOf_int_mk Tryd.underlying80 (wf_fm l)
theorem isKeyFm (l : List Nat) : WideAt.IsKeyLit (.int .u32 (fm l)) := by simp [WideAt.IsKeyLit]

/-- a list of sets below 32, in order -/
def Srt (l : List Nat) : Prop := (∀ u ∈ l, u < 32) ∧ l.Pairwise (· < ·)
/-- block b is a map of at most n entries that tells of families what f does, if it tells anything; it tells 0 of none -/
def Memo (f : List Nat → Int) (w : World) (b n : Nat) : Prop :=
  ∃ D : DataW Unit, w.ownsMap Tryd.prog 80 (plainElem Tryd.prog 3) b n D ∧ IsMap D ∧ ∀ l, Srt l → (l ≠ [] ∧ ∀ z, D.atKey (.int .u32 (fm l)) z = z) ∨ (∀ z, D.atKey (.int .u32 (fm l)) z = .lit (.int .i64 (f l)))
theorem Memo.lt {f : List Nat → Int} {w : World} {b n : Nat} (h : Memo f w b n) : b < w.heap.size := by
  obtain ⟨D, h1, _⟩ := h
  exact h1.lt
theorem Memo.mono {f : List Nat → Int} {w : World} {b n m : Nat} (h : Memo f w b n) (hm : n ≤ m) : Memo f w b m := by
  obtain ⟨D, h1, h2⟩ := h
  exact ⟨D, h1.mono hm, h2⟩
theorem Memo.kept {f : List Nat → Int} {w w' : World} {b n : Nat} {r : Option Nat} (h : Memo f w b n) (hg : w.grownBy w' r) (hne : some b ≠ r) : Memo f w' b n := by
  obtain ⟨D, h1, h2⟩ := h
  exact ⟨D, h1.kept hg hne, h2⟩
theorem Memo.next {f : List Nat → Int} {w w' : World} {b n : Nat} (h : Memo f w b n) (hb : Below w.heap.size w w') : Memo f w' b n := h.kept (r := none) ⟨hb.os, hb.tape, hb.output, hb.size, fun k hk _ => hb.block k hk⟩ (by simp)
theorem fm_none : fm [] = 0 := fm_nil
/-- the map that tells 0 of none alone -/
theorem Memo.first {f : List Nat → Int} (hf : f [] = 0) {w : World} {b : Nat} (h : w.ownsMap Tryd.prog 80 (plainElem Tryd.prog 3) b 1 ((DataW.map [] : DataW Unit).put (.int .u32 0) (.lit (.int .i64 0)))) : Memo f w b 1 := by
  refine ⟨_, h, isMap_empty.put _ _, fun l hl => ?_⟩
  by_cases e : l = []
  · subst e
    refine .inr (fun z => ?_)
    rw [fm_none, atKey_put_same isMap_empty (by simp [WideAt.IsKeyLit]), hf]
  · refine .inl ⟨e, fun z => ?_⟩
    have hne : (Lit.int .u32 (fm l)) ≠ Lit.int .u32 0 := by
      intro h9
      simp only [Lit.int.injEq, true_and] at h9
      rw [← fm_none] at h9
      exact e ((fm_one hl.1 (fun u hu => by cases hu) hl.2 List.Pairwise.nil).1 h9)
    rw [atKey_put_other hne]
    rfl
section
variable {f : List Nat → Int} {ops : Array Oper} {rest : List Oper} {o : Oper} {a : Act} {Q : Exit → Act → World → Prop}

/-- 'm[k] = v' in a map's own text -/
theorem wpList_lay {H : Type} {P : Program} (w : World) (hg : o.guard = none) (m x v : Operand) (t : TypeId) (hop : o.op = Op.insert t m x v)
    (k e : TypeId) (K : Keyed P k) (ht : P.underlying t = some (.map k e)) (R : Value → Option (DataW H × List MemPlace)) (b n : Nat) (D : DataW H)
    (hm : a.eval m = .map (some b)) (hown : w.ownsMap P k R b n D) (hn : n < maxLen) (key val : Value) (kl : Lit) (hx : a.eval x = key) (hv : a.eval v = val) (hkey : keyOf P k key = some kl)
    (d : DataW H) (ps : List MemPlace) (hval : R val = some (d, ps))
    (hK : ∀ w', w'.ownsMap P k R b (n + 1) (D.put kl d) → w.grownBy w' (some b) → wpList P ops Q rest (a.put o.dst undef) w') :
    wpList P ops Q (o :: rest) a w := by
  refine wpList_plain hg fun K' hK' => ?_
  obtain ⟨w', hrun, r1, r2⟩ := hown.update K ht hn hkey hval
  unfold Oper.wp
  simp [execOp, hop, hm, hx, hv, hrun, Result.andThen]
  exact hK' _ _ (hK w' r1 r2)
theorem wpList_memo_put (w : World) (hg : o.guard = none) (m x v : Operand) (hop : o.op = Op.mapUpdate 116 m x v)
    (b n : Nat) (hm : a.eval m = .map (some b)) (h : Memo f w b n) (hn : n < maxLen) (l : List Nat) (hl : Srt l) (hx : a.eval x = .int .u32 (fm l)) (hv : a.eval v = .int .i64 (f l)) (hf : 0 ≤ f l ∧ f l ≤ 100)
    (hK : ∀ w', Memo f w' b (n + 1) → w.grownBy w' (some b) → wpList Tryd.prog ops Q rest (a.put o.dst undef) w') :
    wpList Tryd.prog ops Q (o :: rest) a w := by
  obtain ⟨D, h1, h2, h3⟩ := h
  refine wpList_mapUpdate_own w hg m x v 116 hop 80 3 keyFam Tryd.underlying116 (plainElem Tryd.prog 3) b n D hm h1 hn _ _ _ hx hv (keyOf_fm l) (.lit (.int .i64 (f l))) [] (plainElem_int Tryd.underlying3 (wf_small hf)) ?_
  intro w' hown hgr
  refine hK w' ⟨_, hown, h2.put _ _, fun k hk => ?_⟩ hgr
  by_cases e : k = l
  · subst e
    exact .inr (fun z => atKey_put_same h2 (isKeyFm k) _ _)
  · have hne : (Lit.int .u32 (fm k)) ≠ Lit.int .u32 (fm l) := by
      intro h9
      simp only [Lit.int.injEq, true_and] at h9
      exact e ((fm_one hk.1 hl.1 hk.2 hl.2).1 h9)
    rcases h3 k hk with ⟨h4, h5⟩ | h5
    · exact .inl ⟨h4, fun z => by rw [atKey_put_other hne]; exact h5 z⟩
    · exact .inr (fun z => by rw [atKey_put_other hne]; exact h5 z)
theorem Memo.look {w : World} {b n : Nat} (h : Memo f w b n) (l : List Nat) (hl : Srt l) : ∃ (c : Int) (bb : Bool), (Instr.lookup 116 (.map (some b)) (.int .u32 (fm l)) true).run Tryd.prog w = .ok (.tuple #[.int .i64 c, .bool bb]) w ∧ (bb = true → c = f l) ∧ (bb = false → l ≠ []) := by
  obtain ⟨D, h1, h2, h3⟩ := h
  obtain ⟨v, ps, hrun, hv⟩ := h1.look_ok keyFam Tryd.underlying116 (zeroInt w) (plainElem_int Tryd.underlying3 (by decide : (Lit.int .i64 0).wf = true)) (keyOf_fm l)
  obtain ⟨c, rfl, hc, _⟩ := plainElem_int_inv Tryd.underlying3 hv
  refine ⟨c, _, hrun, fun hb => ?_, fun hb => ?_⟩
  · rcases h3 l hl with ⟨_, h5⟩ | h5
    · rw [has_false_of_atKey h5] at hb; cases hb
    · have hat := congrArg Prod.fst hc
      rw [h5] at hat
      simp only [DataW.lit.injEq, Lit.int.injEq, true_and] at hat
      exact hat.symm
  · rcases h3 l hl with ⟨h4, _⟩ | h5
    · exact h4
    · rw [has_true_of_atKey h5] at hb; cases hb
theorem wpList_memo_look (w : World) (hg : o.guard = none) (m x : Operand) (hop : o.op = Op.lookup 116 m x true)
    (b : Nat) (hm : a.eval m = .map (some b)) (F : Int) (hx : a.eval x = .int .u32 F) (c : Int) (bb : Bool) (hrun : (Instr.lookup 116 (.map (some b)) (.int .u32 F) true).run Tryd.prog w = .ok (.tuple #[.int .i64 c, .bool bb]) w)
    (hK : wpList Tryd.prog ops Q rest (a.put o.dst (.tuple #[.int .i64 c, .bool bb])) w) :
    wpList Tryd.prog ops Q (o :: rest) a w := by
  refine wpList_plain hg fun K' hK' => ?_
  unfold Oper.wp
  simp [execOp, hop, hm, hx, hrun, Result.andThen]
  exact hK' _ _ hK
end

end Go.Proofs.YthmipnflbiclbaaDoor
