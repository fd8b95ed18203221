/- One int appended to a row that the call owns: the row stays in its block or goes to a new one. Conditions: at most a million elements. -/
import Derived.Test.YtpkilacappjkhaaZA
namespace Go.Proofs.Ytpkilacappjkhaa
open Go.RowKit

theorem app1_where {w w' : World} {ty : TypeId} {B g n cap : Nat} {xs : List Int} (hn : xs.length = n) (h : Ints B w (.slice (some ⟨g, 0, none⟩) n cap) xs) {H : Nat} {y : Int} (hs : w.cell? ⟨H, 0, none⟩ = some (.int .i64 y)) (hl : n ≤ 1000000) {a' : Option Addr} {cap' : Nat}
    (hr : (Builtin.append_ #[23, 23] ty #[.slice (some ⟨g, 0, none⟩) n cap, .slice (some ⟨H, 0, none⟩) 1 1]).run Try.prog w = .ok (.slice a' (n + 1) cap') w') : ∃ g', a' = some ⟨g', 0, none⟩ ∧ (g' = g ∨ w.heap.size ≤ g') := by
  subst hn
  obtain ⟨i, hi, hz0, hz1, hz2⟩ := info_parts info3
  have hnews : ∀ j u, [Value.int .i64 y][j]? = some u → w.cell? ((⟨H, 0, none⟩ : Addr).add j) = some u := fun j u hu => by
    match j, hu with
    | 0, hu => simp at hu; subst hu; rw [Addr.add_lit]; exact hs
    | j + 1, hu => simp at hu
  by_cases hroom : xs.length + 1 ≤ cap
  · obtain ⟨w2, hr2, _⟩ := run_append_fits (P := Try.prog) w B 23 ty 3 i 1 Try.underlying23 hi hz1 g xs.length cap (xs.map (Value.int .i64)) h ⟨H, 0, none⟩ 1 1 [.int .i64 y] rfl hnews (by simp [Value.oneCell']) hroom
    rw [hr] at hr2
    injection hr2 with h1 h2
    injection h1 with h3
    exact ⟨g, h3, .inl rfl⟩
  · have hr2 := run_append_grow (P := Try.prog) w 23 ty 3 i (.int .i64 0) Try.underlying23 hi hz0 ⟨g, 0, none⟩ xs.length cap (xs.map (Value.int .i64)) (by rw [hz1]; simp) (World.ownsRow.cells (g := g) h rfl) ⟨H, 0, none⟩ 1 1 [.int .i64 y] (by rw [hz1]; simp) hnews (by omega) (by omega) (by rw [hz2]; exact growslice_fits (by omega) (by omega))
    rw [hr] at hr2
    injection hr2 with h1 h2
    injection h1 with h3
    exact ⟨_, h3, .inr (Nat.le_refl _)⟩

theorem wpList_app1 {w : World} {ops : Array Oper} {rest : List Oper} {o : Oper} {a : Act} {Q : Exit → Act → World → Prop} (hgd : o.guard = none) (s x : Operand)
    (ho : o.op = Op.call { callee := Callee.builtin Builtin.append, args := #[s, x], argTypes := #[23, 23] })
    (B g n cap : Nat) (xs : List Int) (hn : xs.length = n) (hs : a.eval s = .slice (some ⟨g, 0, none⟩) n cap) (h : Ints B w (.slice (some ⟨g, 0, none⟩) n cap) xs) (H : Nat) (y : Int) (hx : a.eval x = .slice (some ⟨H, 0, none⟩) 1 1) (hsrc : w.cell? ⟨H, 0, none⟩ = some (.int .i64 y)) (hl : n ≤ 1000000) (hB : B ≤ w.heap.size)
    (hK : ∀ g' cap' w', (g' = g ∨ w.heap.size ≤ g') → Ints B w' (.slice (some ⟨g', 0, none⟩) (n + 1) cap') (xs ++ [y]) → Below B w w' → w.grownBy w' (some g) → wpList Try.prog ops Q rest (a.put o.dst (.slice (some ⟨g', 0, none⟩) (n + 1) cap')) w') : wpList Try.prog ops Q (o :: rest) a w := by
  refine wpList_plain hgd fun K hK' => ?_
  obtain ⟨a', cap', w', hrun, r1, r2, r3⟩ := run_app (ty := o.type) h (src_cell hsrc) (by omega) hB
  rw [hn] at hrun r1
  obtain ⟨g', rfl, hg'⟩ := app1_where hn h hsrc hl hrun
  unfold Oper.wp
  simp [execOp, ho, resolve, invoke, builtin, hs, hx, hrun, Result.andThen]
  exact hK' _ _ (hK g' cap' w' hg' r1 r2 r3)
theorem Ints.someAt {B n c : Nat} {w : World} {a : Option Addr} {zs : List Int} (h : Ints B w (.slice a n c) zs) (hn : 0 < n) : ∃ g, a = some ⟨g, 0, none⟩ ∧ B ≤ g ∧ g < w.heap.size := by
  obtain ⟨a', g, cap, e, h1, h2, _, h4, _⟩ := h.shape
  simp only [Value.slice.injEq] at e
  obtain ⟨rfl, e2, rfl⟩ := e
  have hne : a ≠ none := fun k => by
    have := (h2 k).1
    rw [this] at e2
    simp at e2
    omega
  obtain rfl := h1.resolve_right hne
  exact ⟨g, rfl, h4 hne⟩

end Go.Proofs.Ytpkilacappjkhaa
