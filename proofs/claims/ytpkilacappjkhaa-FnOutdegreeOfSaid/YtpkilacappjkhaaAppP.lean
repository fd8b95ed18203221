/- append of one pair to a slice of pairs that the call itself has made. Conditions: fewer than a million of them. -/
import Derived.Test.YtpkilacappjkhaaPr
import Derived.Test.YtpkilacappjkhaaZA
namespace Go.Proofs.Ytpkilacappjkhaa
open Go.RowKit

theorem PrS.alloc {B : Nat} {w : World} {v : Value} {es : List (Int × Int)} (h : PrS B w v es) (o : Obj) : PrS B (w.alloc o) v es := World.ownsRow.alloc h o
theorem PrS.mono {B B' : Nat} {w : World} {v : Value} {es : List (Int × Int)} (h : PrS B w v es) (hB : B' ≤ B) : PrS B' w v es := by
  refine ⟨h.1, ?_⟩
  rcases h.2 with h2 | ⟨g, cap, cur, e, hb, r⟩
  · exact .inl h2
  · exact .inr ⟨g, cap, cur, e, Nat.le_trans hB hb, r⟩
theorem PrS.nil (B : Nat) (w : World) : PrS B w (.slice none 0 0) [] := World.ownsRow_nil w B _ 2
theorem PrS.lit' {B : Nat} {w : World} {H : Nat} (hB : B ≤ w.heap.size) (hH : w.heap.size = H) : PrS B (w.alloc (.cells #[] 52)) (.slice (some ⟨H, 0, none⟩) 0 0) [] := hH ▸ World.ownsRow_lit w #[] 0 hB (by unfold maxLen; omega) rfl
theorem flatP_append (es fs : List (Int × Int)) : flatP (es ++ fs) = flatP es ++ flatP fs := by simp [flatP]
/-- one pair that lies in a block of its own -/
def SrcP (w : World) (H : Nat) (p : Int) (l : Int) : Prop := w.cell? ⟨H, 0, none⟩ = some (.int .i64 p) ∧ w.cell? ⟨H, 1, none⟩ = some (.int .i64 l)

theorem run_appP {w : World} {ty : TypeId} {B : Nat} {v : Value} {es : List (Int × Int)} (h : PrS B w v es) {H : Nat} {p l : Int} (hs : SrcP w H p l) (hl : es.length ≤ 1000000) (hB : B ≤ w.heap.size) :
    ∃ a' cap' w', (Builtin.append_ #[29, 29] ty #[v, .slice (some ⟨H, 0, none⟩) 1 1]).run Try.prog w = .ok (.slice a' (es.length + 1) cap') w' ∧ PrS B w' (.slice a' (es.length + 1) cap') (es ++ [(p, l)]) ∧ Below B w w' ∧ w.grownBy w' v.ownBlock := by
  obtain ⟨i, hi, hz0, hz1, hz2⟩ := info_parts infoP
  obtain ⟨v', w', hr, hown, hg, _⟩ := run_append_own (P := Try.prog) w B 29 ty 52 i (.agg #[.int .i64 0, .int .i64 0]) 2 16 Try.underlying29 hi hz0 hz1 hz2 rfl (by decide) v es.length (flatP es) h
    ⟨H, 0, none⟩ 1 1 [.int .i64 p, .int .i64 l] rfl (fun j u hu => by
      match j, hu with
      | 0, hu => simp at hu; subst hu; rw [Addr.add_lit]; exact hs.1
      | 1, hu => simp at hu; subst hu; rw [Addr.add_lit]; exact hs.2
      | j + 2, hu => simp at hu) (by simp [Value.oneCell']) (by unfold maxLen; omega) (by omega) hB
  have hin : PrS B w' v' (es ++ [(p, l)]) := by
    unfold PrS
    rw [List.length_append, flatP_append]
    exact hown
  rcases hin.2 with ⟨_, e0⟩ | ⟨g, cap, cur, rfl, _⟩
  · simp at e0
  · rw [List.length_append] at hr hin
    exact ⟨some ⟨g, 0, none⟩, cap, w', hr, hin, (Below.refl _ _).grown hg hB (fun k hk => by
      rcases h.2 with ⟨rfl, _⟩ | ⟨g2, cap2, cur2, rfl, hB2, _⟩
      · cases hk
      · obtain rfl := Option.some.inj hk
        exact hB2), hg⟩

theorem wpList_appP {w : World} {ops : Array Oper} {rest : List Oper} {o : Oper} {a : Act} {Q : Exit → Act → World → Prop} (hgd : o.guard = none) (s x : Operand)
    (ho : o.op = Op.call { callee := Callee.builtin Builtin.append, args := #[s, x], argTypes := #[29, 29] })
    (B : Nat) (v : Value) (es : List (Int × Int)) (hs : a.eval s = v) (h : PrS B w v es) (H : Nat) (p : Int) (l : Int) (hx : a.eval x = .slice (some ⟨H, 0, none⟩) 1 1) (hsrc : SrcP w H p l) (hl : es.length ≤ 1000000) (hB : B ≤ w.heap.size)
    (hK : ∀ a' cap' w', PrS B w' (.slice a' (es.length + 1) cap') (es ++ [(p, l)]) → Below B w w' → w.grownBy w' v.ownBlock → wpList Try.prog ops Q rest (a.put o.dst (.slice a' (es.length + 1) cap')) w') : wpList Try.prog ops Q (o :: rest) a w := by
  refine wpList_plain hgd fun K hK' => ?_
  obtain ⟨a', cap', w', hrun, r1, r2, r3⟩ := run_appP (ty := o.type) h hsrc hl hB
  unfold Oper.wp
  simp [execOp, ho, resolve, invoke, builtin, hs, hx, hrun, Result.andThen]
  exact hK' _ _ (hK a' cap' w' r1 r2 r3)

theorem step_appP {w : World} {ops : Array Oper} {o : Oper} {a : Act} {K : Act → World → Prop} {Q : Exit → Act → World → Prop} {E : Prop} (hgd : o.guard = none) (s x : Operand)
    (ho : o.op = Op.call { callee := Callee.builtin Builtin.append, args := #[s, x], argTypes := #[29, 29] })
    (B : Nat) (v : Value) (es : List (Int × Int)) (hs : a.eval s = v) (h : PrS B w v es) (H : Nat) (p : Int) (l : Int) (hx : a.eval x = .slice (some ⟨H, 0, none⟩) 1 1) (hsrc : SrcP w H p l) (hl : es.length ≤ 1000000) (hB : B ≤ w.heap.size)
    (hK : ∀ a' cap' w', PrS B w' (.slice a' (es.length + 1) cap') (es ++ [(p, l)]) → Below B w w' → w.grownBy w' v.ownBlock → K (a.put o.dst (.slice a' (es.length + 1) cap')) w') : if Region.wanted o (yielded ops a.tmps) = true then Oper.wp Try.prog o a w K Q else E := by
  have hw : Region.wanted o (yielded ops a.tmps) = true := by simp [Region.wanted, hgd]
  rw [if_pos hw]
  obtain ⟨a', cap', w', hrun, r1, r2, r3⟩ := run_appP (ty := o.type) h hsrc hl hB
  unfold Oper.wp
  simp [execOp, ho, resolve, invoke, builtin, hs, hx, hrun, Result.andThen]
  exact hK a' cap' w' r1 r2 r3

end Go.Proofs.Ytpkilacappjkhaa
