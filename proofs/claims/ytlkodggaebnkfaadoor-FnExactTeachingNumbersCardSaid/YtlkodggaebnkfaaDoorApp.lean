/- append to a slice of ints that the call itself has made, from whatever source; bits of small numbers. Conditions: fewer than a thousand million elements. -/
import Derived.Test.YtlkodggaebnkfaaDoorEq
import Derived.Test.YtlkodggaebnkfaaDoorMath
import Derived.Deep.RegionLaw
namespace Go.Proofs.YtlkodggaebnkfaaDoor
open Go.RowKit

/-- what is appended: m elements that read as ms -/
def Src (w : World) (ao : Option Addr) (m c : Nat) (ms : List Int) : Prop :=
  ms.length = m ∧ (ao = none → m = 0 ∧ c = 0) ∧ ∀ ad, ao = some ad → ∀ j, j < m → w.cell? (ad.add j) = some (.int .i64 (ms.getD j 0))

theorem src_one (w : World) (x : Int) (t : TypeId) : Src (w.alloc (.cells #[.int .i64 x] t)) (some ⟨w.heap.size, 0, none⟩) 1 1 [x] := by
  refine ⟨rfl, fun h => by simp at h, fun ad had j hj => ?_⟩
  simp only [Option.some.injEq] at had
  subst had
  obtain rfl : j = 0 := by omega
  rw [Addr.add_lit, World.cell?_alloc_at _ _ _ _ rfl]
  rfl

theorem Rd.src {w : World} {a : Option Addr} {n cap : Nat} {xs : List Int} (h : Rd w (.slice a n cap) xs) (hn : a = none → n = 0 ∧ cap = 0) : Src w a n cap xs := by
  obtain ⟨a', b, off, cap', e, h1, h3, h5⟩ := h
  simp only [Value.slice.injEq] at e
  obtain ⟨rfl, rfl, rfl⟩ := e
  refine ⟨rfl, hn, fun ad had j hj => ?_⟩
  obtain ⟨h1, _⟩ := h1 (by omega)
  rw [h1] at had
  simp only [Option.some.injEq] at had
  subst had
  rw [Addr.add_lit]
  exact h5 j hj

theorem run_app {w : World} {ty : TypeId} {B : Nat} {v : Value} {xs : List Int} (h : Ints B w v xs) {ao : Option Addr} {m c : Nat} {ms : List Int} (hs : Src w ao m c ms) (hl : xs.length + m ≤ 1000000000) (hB : B ≤ w.heap.size) :
    ∃ a' cap' w', (Builtin.append_ #[22, 22] ty #[v, .slice ao m c]).run Tryd.prog w = .ok (.slice a' (xs.length + m) cap') w' ∧ Ints B w' (.slice a' (xs.length + m) cap') (xs ++ ms) ∧ Below B w w' ∧ w.grownBy w' v.ownBlock := by
  obtain ⟨i, hi, hz0, hz1, hz2⟩ := info_parts info3
  obtain ⟨hm, hnone, hc⟩ := hs
  cases ao with
  | none =>
    obtain ⟨rfl, rfl⟩ := hnone rfl
    obtain rfl : ms = [] := List.eq_nil_of_length_eq_zero hm
    have hr := run_append_owned_none (P := Tryd.prog) w B 22 ty 3 i 1 Tryd.underlying22 hi v _ _ h
    obtain ⟨a, g, cap, rfl, _⟩ := h.shape
    exact ⟨a, cap, w, hr, by simpa using h, Below.refl _ _, World.grownBy.refl _ _⟩
  | some ad =>
    obtain ⟨v', w', hr, hown, hg, _⟩ := run_append_own (P := Tryd.prog) w B 22 ty 3 i (.int .i64 0) 1 8 Tryd.underlying22 hi hz0 hz1 hz2 rfl (by decide) v xs.length (xs.map (Value.int .i64)) h
      ad m c (ms.map (Value.int .i64)) (by simp [hm]) (fun j u hu => by
        have hj : j < m := by
          have := (List.getElem?_eq_some_iff.1 hu).1
          simpa [hm] using this
        rw [hc ad rfl j hj, ← hu]
        simp [List.getD, hm, hj]) (ints_oneCell _ _) (by unfold maxLen; omega) (by omega) hB
    have hin : Ints B w' v' (xs ++ ms) := by
      unfold Ints
      rw [List.length_append, List.map_append, hm]
      exact hown
    obtain ⟨a, g, cap, rfl, _⟩ := hin.shape
    rw [List.length_append, hm] at hr hin
    exact ⟨a, cap, w', hr, hin, (Below.refl _ _).grown hg hB (fun k hk => (h.lt k hk).1), hg⟩

theorem wpList_app {w : World} {ops : Array Oper} {rest : List Oper} {o : Oper} {a : Act} {Q : Exit → Act → World → Prop} (hgd : o.guard = none) (s x : Operand)
    (ho : o.op = Op.call { callee := Callee.builtin Builtin.append, args := #[s, x], argTypes := #[22, 22] })
    (B : Nat) (v : Value) (xs : List Int) (hs : a.eval s = v) (h : Ints B w v xs) (ao : Option Addr) (m c : Nat) (ms : List Int) (hx : a.eval x = .slice ao m c) (hsrc : Src w ao m c ms) (hl : xs.length + m ≤ 1000000000) (hB : B ≤ w.heap.size)
    (hK : ∀ a' cap' w', Ints B w' (.slice a' (xs.length + m) cap') (xs ++ ms) → Below B w w' → w.grownBy w' v.ownBlock → wpList Tryd.prog ops Q rest (a.put o.dst (.slice a' (xs.length + m) cap')) w') : wpList Tryd.prog ops Q (o :: rest) a w := by
  refine wpList_plain hgd fun K hK' => ?_
  obtain ⟨a', cap', w', hrun, r1, r2, r3⟩ := run_app (ty := o.type) h hsrc hl hB
  unfold Oper.wp
  simp [execOp, ho, resolve, invoke, builtin, hs, hx, hrun, Result.andThen]
  exact hK' _ _ (hK a' cap' w' r1 r2 r3)

theorem step_app {w : World} {ops : Array Oper} {o : Oper} {a : Act} {K : Act → World → Prop} {Q : Exit → Act → World → Prop} {E : Prop} (hgd : o.guard = none) (s x : Operand)
    (ho : o.op = Op.call { callee := Callee.builtin Builtin.append, args := #[s, x], argTypes := #[22, 22] })
    (B : Nat) (v : Value) (xs : List Int) (hs : a.eval s = v) (h : Ints B w v xs) (ao : Option Addr) (m c : Nat) (ms : List Int) (hx : a.eval x = .slice ao m c) (hsrc : Src w ao m c ms) (hl : xs.length + m ≤ 1000000000) (hB : B ≤ w.heap.size)
    (hK : ∀ a' cap' w', Ints B w' (.slice a' (xs.length + m) cap') (xs ++ ms) → Below B w w' → w.grownBy w' v.ownBlock → K (a.put o.dst (.slice a' (xs.length + m) cap')) w') : if Region.wanted o (yielded ops a.tmps) = true then Oper.wp Tryd.prog o a w K Q else E := by
  have hw : Region.wanted o (yielded ops a.tmps) = true := by simp [Region.wanted, hgd]
  rw [if_pos hw]
  obtain ⟨a', cap', w', hrun, r1, r2, r3⟩ := run_app (ty := o.type) h hsrc hl hB
  unfold Oper.wp
  simp [execOp, ho, resolve, invoke, builtin, hs, hx, hrun, Result.andThen]
  exact hK a' cap' w' r1 r2 r3

theorem Ints.alloc {B : Nat} {w : World} {v : Value} {zs : List Int} (h : Ints B w v zs) (o : Obj) : Ints B (w.alloc o) v zs := World.ownsRow.alloc h o
theorem Ints.drewN {B : Nat} {w : World} {v : Value} {zs : List Int} (h : Ints B w v zs) (q : Nat) : Ints B (w.drewN q) v zs := h
theorem Ints.lit (B : Nat) (w : World) (hB : B ≤ w.heap.size) : Ints B (w.alloc (.cells #[] 3)) (.slice (some ⟨w.heap.size, 0, none⟩) 0 0) [] := World.ownsRow_lit w #[] 0 hB (by unfold maxLen; omega) rfl

theorem Ints.lit' {B : Nat} {w : World} {H : Nat} (hB : B ≤ w.heap.size) (hH : w.heap.size = H) : Ints B (w.alloc (.cells #[] 3)) (.slice (some ⟨H, 0, none⟩) 0 0) [] := hH ▸ Ints.lit B w hB
theorem src_cell {w : World} {H : Nat} {x : Int} (h : w.cell? ⟨H, 0, none⟩ = some (.int .i64 x)) : Src w (some ⟨H, 0, none⟩) 1 1 [x] := by
  refine ⟨rfl, fun h => by simp at h, fun ad had j hj => ?_⟩
  simp only [Option.some.injEq] at had
  subst had
  obtain rfl : j = 0 := by omega
  rw [Addr.add_lit]
  exact h
theorem cell_drew (v : World) (a : Addr) : v.drew.cell? a = v.cell? a := rfl
theorem Ints.len_le_cap {B g n c : Nat} {w : World} {xs : List Int} (h : Ints B w (.slice (some ⟨g, 0, none⟩) n c) xs) : n ≤ c := by
  rcases h.2 with ⟨e, _⟩ | ⟨g', cap, cur, e, _, _, hnc, _⟩
  · simp at e
  · simp only [Value.slice.injEq] at e
    obtain ⟨_, rfl, rfl⟩ := e
    exact hnc
theorem Src.below {w w' : World} {a : Addr} {m c : Nat} {ms : List Int} (h : Src w (some a) m c ms) (hb : Below w.heap.size w w') : Src w' (some a) m c ms := by
  obtain ⟨h1, h2, h3⟩ := h
  refine ⟨h1, h2, fun ad had j hj => ?_⟩
  have hc := h3 ad had j hj
  have hlt := World.block_lt_of_cell? w _ hc
  exact (hb.cell hlt).trans hc
/-- a part of a slice, from its beginning -/
theorem Ints.src_take {B g n c : Nat} {w : World} {xs : List Int} (h : Ints B w (.slice (some ⟨g, 0, none⟩) n c) xs) (j : Nat) (hj : j ≤ n) (cc : Nat) : Src w (some ⟨g, 0, none⟩) j cc (xs.take j) := by
  have hn : n = xs.length := by obtain ⟨_, _, _, e, _⟩ := h.shape; simp at e; exact e.2.1
  subst hn
  refine ⟨by simp; omega, fun h => by simp at h, fun ad had t ht => ?_⟩
  simp only [Option.some.injEq] at had
  subst had
  rw [Addr.add_lit, Nat.zero_add, (h.cellAt t (by omega)).1]
  simp [List.getD, ht]
/-- a part of a slice, to its end -/
theorem Ints.src_drop {B g n c : Nat} {w : World} {xs : List Int} (h : Ints B w (.slice (some ⟨g, 0, none⟩) n c) xs) (j : Nat) (hj : j ≤ n) (cc : Nat) (ao : Option Addr) (hne : ao ≠ none) (hao : j < n → ao = some ⟨g, j, none⟩) : Src w ao (n - j) cc (xs.drop j) := by
  have hn : n = xs.length := by obtain ⟨_, _, _, e, _⟩ := h.shape; simp at e; exact e.2.1
  subst hn
  refine ⟨by simp, fun h => absurd h hne, fun ad had t ht => ?_⟩
  rw [hao (by omega)] at had
  simp only [Option.some.injEq] at had
  subst had
  rw [Addr.add_lit, (h.cellAt (j + t) (by omega)).1]
  simp [List.getD]

theorem ofInt_i64 (a : Nat) (ha : a < 4096) : (BitVec.ofInt 64 (a : Int)).toNat = a := ofInt_u64 a (by omega)
theorem i64_and (a b : Nat) (ha : a < 4096) (hb : b < 4096) : bits .and .i64 (a : Int) (b : Int) = ((a &&& b : Nat) : Int) := by
  have hx : a &&& b < 2 ^ 12 := Nat.and_lt_two_pow _ (by omega)
  show IntKind.i64.wrap ((BitVec.ofInt 64 (a : Int) &&& BitVec.ofInt 64 (b : Int)).toNat : Int) = _
  rw [BitVec.toNat_and, ofInt_i64 a ha, ofInt_i64 b hb, IntKind.wrap_i64]
  omega
theorem i64_or (a b : Nat) (ha : a < 4096) (hb : b < 4096) : bits .or .i64 (a : Int) (b : Int) = ((a ||| b : Nat) : Int) := by
  have hx : a ||| b < 2 ^ 12 := Nat.or_lt_two_pow (by omega) (by omega)
  show IntKind.i64.wrap ((BitVec.ofInt 64 (a : Int) ||| BitVec.ofInt 64 (b : Int)).toNat : Int) = _
  rw [BitVec.toNat_or, ofInt_i64 a ha, ofInt_i64 b hb, IntKind.wrap_i64]
  omega
theorem i64_xor (a b : Nat) (ha : a < 4096) (hb : b < 4096) : bits .xor .i64 (a : Int) (b : Int) = ((a ^^^ b : Nat) : Int) := by
  have hx : a ^^^ b < 2 ^ 12 := Nat.xor_lt_two_pow (by omega) (by omega)
  show IntKind.i64.wrap ((BitVec.ofInt 64 (a : Int) ^^^ BitVec.ofInt 64 (b : Int)).toNat : Int) = _
  rw [BitVec.toNat_xor, ofInt_i64 a ha, ofInt_i64 b hb, IntKind.wrap_i64]
  omega

end Go.Proofs.YtlkodggaebnkfaaDoor
