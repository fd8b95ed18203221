/- The class of sets by chance that the laws draw: picked. Conditions: at most five points; the reader has drawn at most 100000 numbers. -/
import Derived.Maps.Range
import Derived.Test.YtpkilacappjkhaaDraw
import Derived.Test.YtpkilacappjkhaaZA
import Derived.Test.YtpkilacappjkhaaZH
namespace Go.Proofs.Ytpkilacappjkhaa
open Go.RowKit

/-- ascending numbers below k -/
def Asc (k : Nat) (l : List Nat) : Prop := l.Pairwise (· < ·) ∧ (∀ t ∈ l, t < k) ∧ l.length ≤ k
theorem Asc.push {k : Nat} {l : List Nat} (h : Asc k l) : Asc (k + 1) (l ++ [k]) := by
  refine ⟨?_, ?_, ?_⟩
  · rw [List.pairwise_append]
    exact ⟨h.1, by simp, fun a ha b hb => by simp at hb; subst hb; exact h.2.1 a ha⟩
  · intro t ht
    rcases List.mem_append.1 ht with ht | ht
    · have := h.2.1 t ht; omega
    · simp at ht; omega
  · have := h.2.2
    simp
    omega
theorem Asc.up {k : Nat} {l : List Nat} (h : Asc k l) : Asc (k + 1) l := ⟨h.1, fun t ht => by have := h.2.1 t ht; omega, by have := h.2.2; omega⟩
/-- behind a step that changes the block of one row alone -/
theorem grown_row {B : Nat} {a w w' : World} {R : Option Nat} {v : Value} {xs : List Int} (h : a.grownBy w R) (hr : Ints B w v xs) (hB : a.heap.size ≤ B) (hg : w.grownBy w' v.ownBlock) : a.grownBy w' R :=
  h.andThen hg (fun k hk => .inl (Nat.le_trans hB (hr.lt k hk).1))
theorem grown_set {a w : World} {R : Option Nat} (h : a.grownBy w R) {o j : Nat} (ho : a.heap.size ≤ o) (u : Value) : a.grownBy (w.setCell ⟨o, j, none⟩ u) R :=
  h.andThen (grownBy_set w j u) (fun k hk => by cases hk; exact .inl ho)
theorem Rdr.row {B C R p : Nat} {w w' : World} {v : Value} {xs : List Int} (h : Rdr B R p w) (hr : Ints C w v xs) (hB : B ≤ C) (hg : w.grownBy w' v.ownBlock) : Rdr B R p w' :=
  h.kept hg (fun e => by have := (hr.lt _ e.symm).1; have := h.1; omega) (fun k hk => by have := (hr.lt k hk).1; omega)
theorem Rdr.set {B R p o j : Nat} {w : World} (h : Rdr B R p w) (ho : B ≤ o) (u : Value) : Rdr B R p (w.setCell ⟨o, j, none⟩ u) :=
  h.kept (grownBy_set w j u) (fun e => by cases e; have := h.1; omega) (fun k hk => by cases hk; exact ho)
theorem Rdr.alloc {B R p : Nat} {w : World} (h : Rdr B R p w) (o : Obj) : Rdr B R p (w.alloc o) :=
  h.kept (World.grownBy_alloc w o none) (by simp) (fun k hk => by cases hk)
theorem Ints.pick {B R : Nat} {w w' : World} {v : Value} {xs : List Int} (h : Ints B w v xs) (hR : R < B) (hg : w.grownBy w' (some R)) : Ints B w' v xs :=
  h.kept hg (by
    cases e : v.ownBlock with
    | none => exact .inl rfl
    | some g =>
      right
      intro e2
      have := (h.lt g e).1
      cases e2
      omega)

set_option maxHeartbeats 3200000 in
set_option maxRecDepth 100000 in
theorem specPicked (B R p n : Nat) (hn : n ≤ 5) (hp : p ≤ 100000) (w : World) (h : Rdr B R p w) :
    Calls Try.prog 47 #[.pointer (some ⟨R, 0, none⟩), .int .i64 (n : Int)] w fun e w' => ∃ (a : Option Addr) (cap p' : Nat) (ms : List Nat), e = .returned (.agg #[.int .i64 (n : Int), .slice a ms.length cap]) ∧ Ints w.heap.size w' (.slice a ms.length cap) (toI ms) ∧ Cls n ms ∧ p' ≤ p + 40 ∧ Rdr B R p' w' ∧ w.grownBy w' (some R) := by
  have hRB := h.1
  have hBw := h.2.1
  have hp32 := pow_le_32 hn
  have hp2 := two_pow_le n (by omega)
  obtain ⟨q, hq⟩ : ∃ q, q = (2 : Int) ^ n := ⟨_, rfl⟩
  have HPW := Lib.hid (fun w => hq ▸ power_q n hn w)
  have hq32 : 0 ≤ q ∧ q ≤ 4096 := by rw [hq]; omega
  have HQ := Lib.hid (show q = ((2 ^ n : Nat) : Int) by rw [hq]; simp)
  have hq32' : q ≤ 32 := by rw [HQ.out]; omega
  have HN5 := Lib.hid hn
  clear hq hp2 hp32
  have G0 := Lib.hid (show w.grownBy ((((w.alloc (Obj.cells #[.int .i64 0, .slice none 0 0] 25)).alloc (Obj.cells #[] 3)).alloc (Obj.cells #[.int .i64 (n : Int), .slice (some ⟨w.heap.size + 1, 0, none⟩) 0 0] 25)).alloc (Obj.cells #[.int .i64 2, .int .i64 3, .int .i64 4, .int .i64 5] 3)) (some R) from grownBy_trans (grownBy_trans (grownBy_trans (World.grownBy_alloc _ _ _) (World.grownBy_alloc _ _ _)) (World.grownBy_alloc _ _ _)) (World.grownBy_alloc _ _ _))
  have HR0 := Lib.hid (show Rdr B R p ((((w.alloc (Obj.cells #[.int .i64 0, .slice none 0 0] 25)).alloc (Obj.cells #[] 3)).alloc (Obj.cells #[.int .i64 (n : Int), .slice (some ⟨w.heap.size + 1, 0, none⟩) 0 0] 25)).alloc (Obj.cells #[.int .i64 2, .int .i64 3, .int .i64 4, .int .i64 5] 3)) from (((h.alloc _).alloc _).alloc _).alloc _)
  have HZ := Lib.hid (show ((((w.alloc (Obj.cells #[.int .i64 0, .slice none 0 0] 25)).alloc (Obj.cells #[] 3)).alloc (Obj.cells #[.int .i64 (n : Int), .slice (some ⟨w.heap.size + 1, 0, none⟩) 0 0] 25)).alloc (Obj.cells #[.int .i64 2, .int .i64 3, .int .i64 4, .int .i64 5] 3)).heap.size = w.heap.size + 4 by simp)
  obtain ⟨l, hl⟩ : ∃ l : List Int, l = [2, 3, 4, 5] := ⟨_, rfl⟩
  have hlen : l.length = 4 := by rw [hl]; rfl
  have HL := Lib.hid (show Rd ((((w.alloc (Obj.cells #[.int .i64 0, .slice none 0 0] 25)).alloc (Obj.cells #[] 3)).alloc (Obj.cells #[.int .i64 (n : Int), .slice (some ⟨w.heap.size + 1, 0, none⟩) 0 0] 25)).alloc (Obj.cells #[.int .i64 2, .int .i64 3, .int .i64 4, .int .i64 5] 3)) (.slice (some ⟨w.heap.size + 3, 0, none⟩) 4 4) l from by
    subst hl
    refine ⟨some ⟨w.heap.size + 3, 0, none⟩, w.heap.size + 3, 0, 4, rfl, fun _ => ⟨rfl, by simp⟩, by simp, fun j hj => ?_⟩
    have hj4 : j < 4 := hj
    rw [Nat.zero_add, show w.heap.size + 3 = (((w.alloc (Obj.cells #[.int .i64 0, .slice none 0 0] 25)).alloc (Obj.cells #[] 3)).alloc (Obj.cells #[.int .i64 (n : Int), .slice (some ⟨w.heap.size + 1, 0, none⟩) 0 0] 25)).heap.size by simp, World.cell?_alloc_at _ _ _ _ rfl]
    rcases (show j = 0 ∨ j = 1 ∨ j = 2 ∨ j = 3 by omega) with rfl | rfl | rfl | rfl <;> rfl)
  have HO := Lib.hid (show Bx n (.slice (some ⟨w.heap.size + 1, 0, none⟩) 0 0) (w.heap.size + 2) ((((w.alloc (Obj.cells #[.int .i64 0, .slice none 0 0] 25)).alloc (Obj.cells #[] 3)).alloc (Obj.cells #[.int .i64 (n : Int), .slice (some ⟨w.heap.size + 1, 0, none⟩) 0 0] 25)).alloc (Obj.cells #[.int .i64 2, .int .i64 3, .int .i64 4, .int .i64 5] 3)) from (show Bx n (.slice (some ⟨w.heap.size + 1, 0, none⟩) 0 0) (w.heap.size + 2) (((w.alloc (Obj.cells #[.int .i64 0, .slice none 0 0] 25)).alloc (Obj.cells #[] 3)).alloc (Obj.cells #[.int .i64 (n : Int), .slice (some ⟨w.heap.size + 1, 0, none⟩) 0 0] 25)) from heap_alloc_at (by simp)).alloc _)
  have HRes := Lib.hid (show Bx 0 (.slice none 0 0) w.heap.size ((((w.alloc (Obj.cells #[.int .i64 0, .slice none 0 0] 25)).alloc (Obj.cells #[] 3)).alloc (Obj.cells #[.int .i64 (n : Int), .slice (some ⟨w.heap.size + 1, 0, none⟩) 0 0] 25)).alloc (Obj.cells #[.int .i64 2, .int .i64 3, .int .i64 4, .int .i64 5] 3)) from (((Bx.new _ _ _).alloc _).alloc _).alloc _)
  have HIn := Lib.hid (show Ints (w.heap.size + 1) ((((w.alloc (Obj.cells #[.int .i64 0, .slice none 0 0] 25)).alloc (Obj.cells #[] 3)).alloc (Obj.cells #[.int .i64 (n : Int), .slice (some ⟨w.heap.size + 1, 0, none⟩) 0 0] 25)).alloc (Obj.cells #[.int .i64 2, .int .i64 3, .int .i64 4, .int .i64 5] 3)) (.slice (some ⟨w.heap.size + 1, 0, none⟩) 0 0) [] from
    ((Ints.lit' (w := w.alloc (Obj.cells #[.int .i64 0, .slice none 0 0] 25)) (by simp) (by simp)).alloc _).alloc _)
  rw [← hlen] at HL
  have HOne := Lib.hid (specOne B R p (some ⟨w.heap.size + 3, 0, none⟩) l.length l (by omega) (by omega) _ HR0.out HL.out (fun b' o e => by cases e; omega))
  rw [hlen] at HOne
  clear h hl HL HR0
  go_enter Try.func47, Try.ntmps47
  go_wp2_with fail
  generalize ((((w.alloc (Obj.cells #[.int .i64 0, .slice none 0 0] 25)).alloc (Obj.cells #[] 3)).alloc (Obj.cells #[.int .i64 (n : Int), .slice (some ⟨w.heap.size + 1, 0, none⟩) 0 0] 25)).alloc (Obj.cells #[.int .i64 2, .int .i64 3, .int .i64 4, .int .i64 5] 3)) = w1 at *
  have hz1 := HZ.out
  refine HOne.out.mono ?_
  rintro e w2 ⟨⟨i1, hi1, rfl⟩, hr2, hg2⟩
  have HR2 := Lib.hid hr2
  have HG2 := Lib.hid (grownBy_trans G0.out hg2)
  have hz2 := hg2.size
  have HO2 := Lib.hid (HO.out.kept hg2 (by simp; omega))
  have HRes2 := Lib.hid (HRes.out.kept hg2 (by simp; omega))
  have HI2 := Lib.hid (HIn.out.pick (by omega) hg2)
  clear hr2 hg2 HOne G0
  generalize l.getD i1 0 = most at *
  go_wp2_with fail
  go_loopw [7] (fun i wr => ∃ (j : Nat) (a' : Option Addr) (c' : Nat) (ms : List Nat), (j : Int) ≤ q ∧ i = .int .i64 j ∧ Asc j ms ∧ Bx n (.slice a' ms.length c') (w.heap.size + 2) wr ∧ Bx 0 (.slice none 0 0) w.heap.size wr ∧ Ints (w.heap.size + 1) wr (.slice a' ms.length c') (toI ms) ∧ Rdr B R (p + 1 + j) wr ∧ w.grownBy wr (some R) ∧ w.heap.size + 2 < wr.heap.size) (fun i _ => 64 - (intOf i).toNat)
  case atStart => exact ⟨0, _, _, [], by omega, rfl, ⟨List.Pairwise.nil, by simp, by simp⟩, HO2.out, HRes2.out, HI2.out, HR2.out, HG2.out, by omega⟩
  case round =>
    obtain ⟨j, a', c', ms, hj, rfl, hasc, ho, hres, hin, hr, hg, hsz⟩ := hrel
    have HO3 := Lib.hid ho
    have HRes3 := Lib.hid hres
    have HI3 := Lib.hid hin
    have HR3 := Lib.hid hr
    have HG3 := Lib.hid hg
    have HAs := Lib.hid hasc
    clear ho hres hin hr hg
    by_cases hlt : (j : Int) < q
    · have HPk := Lib.hid (specPick B R (p + 1 + j) most (by omega) _ HR3.out)
      have hml := hasc.2.2
      clear hasc
      go_wp2_with fail
      refine (HPW.out _).mono ?_
      rintro e w4 ⟨rfl, rfl⟩
      go_wp2_with fail
      refine HPk.out.mono ?_
      rintro e w5 ⟨⟨x, rfl, _⟩, hr5, hg5⟩
      have hz5 := hg5.size
      have HR5 := Lib.hid hr5
      have HG5 := Lib.hid (grownBy_trans HG3.out hg5)
      have HO5 := Lib.hid (HO3.out.kept hg5 (by simp; omega))
      have HRes5 := Lib.hid (HRes3.out.kept hg5 (by simp; omega))
      have HI5 := Lib.hid (HI3.out.pick (by omega) hg5)
      clear hr5 hg5 HPk
      by_cases hx : x = 0
      · subst hx
        have HAl := Lib.hid (toI_length ms)
        have e1 := HO5.out.out.at1
        go_wp2_with (at_builtin; refine wpList_app rfl (.tmp 25) (.tmp 27) rfl (w.heap.size + 1) _ (toI ms) rfl (by exact HI5.out.alloc _) _ _ _ [(j : Int)] rfl (src_cell (by rw [World.cell?_alloc_at _ _ _ _ rfl]; rfl)) (by rw [HAl.out]; omega) (by simp; omega) ?_; intro a1 c1 w6 hin6 hb6 hg6; have I6 := Lib.hid hin6; have G6 := Lib.hid (show w5.grownBy w6 (Value.slice a' ms.length c').ownBlock from grownBy_trans (World.grownBy_alloc _ _ _) hg6); clear hin6 hb6 hg6; have hz6 := G6.out.size; have X6 := Lib.hid (HO5.out.kept G6.out (HO5.out.not_row HI5.out)); have Y6 := Lib.hid (HRes5.out.kept G6.out (HRes5.out.not_row HI5.out)); have R6 := Lib.hid (HR5.out.row HI5.out (by omega) G6.out); have F6 := Lib.hid (grown_row HG5.out HI5.out (by omega) G6.out); have f1 := X6.out.out.at1; have g1 := X6.out.out.free1)
        rw [HAl.out] at I6
        go_roundw
        case rel => exact ⟨j + 1, a1, c1, ms ++ [j], by omega, by go_num, HAs.out.push, by rw [HAl.out, List.length_append]; exact X6.out.set _, Y6.out.other (by omega) _, by rw [HAl.out, List.length_append, toI_append]; exact I6.out.bx X6.out 1 _, by rw [show p + 1 + (j + 1) = p + 1 + j + 1 by omega]; exact R6.out.set (by omega) _, grown_set F6.out (by omega) _, by simp; omega⟩
        case measure => simp [intOf]; omega
      · have hxI : ¬ (x : Int) = 0 := by omega
        have hxb : ((x : Int) == 0) = false := by simpa using hxI
        go_wp2_with fail
        go_roundw
        case rel => exact ⟨j + 1, a', c', ms, by omega, by go_num, HAs.out.up, HO5.out, HRes5.out, HI5.out, by rw [show p + 1 + (j + 1) = p + 1 + j + 1 by omega]; exact HR5.out, HG5.out, by omega⟩
        case measure => simp [intOf]; omega
    · have HJ := Lib.hid (show j = 2 ^ n by have := HQ.out; omega)
      have hj32 : j ≤ 32 := by omega
      clear hasc
      have HAl := Lib.hid (toI_length ms)
      go_wp2_with fail
      refine (HPW.out _).mono ?_
      rintro e w4 ⟨rfl, rfl⟩
      have x0 := HO3.out.out.at0
      have x1 := HO3.out.out.at1
      have r0 := HRes3.out.out.at0
      have r1 := HRes3.out.out.at1
      have q0 := HRes3.out.out.free0
      have q1 := HRes3.out.out.free1
      go_wp2_with fail
      refine bodyPost_ret (v := .agg #[.int .i64 (n : Int), .slice a' ms.length c']) (by simp [results, Try.results47, go_sem, r0, r1]) rfl ?_
      refine ⟨a', c', p + 1 + j, ms, rfl, ?_, ⟨HN5.out, HAs.out.1, fun t ht => by rw [← HJ.out]; exact HAs.out.2.1 t ht⟩, by omega, ?_, ?_⟩
      · refine Ints.mono (B := w.heap.size + 1) ?_ (by omega)
        repeat (refine Ints.setCell_below ?_ (by simp) _)
        exact HI3.out
      · repeat (refine Rdr.set ?_ (by omega) _)
        exact HR3.out
      · repeat (refine grown_set ?_ (Nat.le_refl _) _)
        exact HG3.out

end Go.Proofs.Ytpkilacappjkhaa
