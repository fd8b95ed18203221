/- A text that the laws draw: one of some strings, mutate, the draw of ParseClass. Conditions: the reader has drawn at most 90000 numbers; the code is a slice of bytes. -/
import Derived.Deep.RegionHeld3
import Derived.Test.YtkamocciaaapmaaDoorSplS
import Derived.Test.YtkamocciaaapmaaDoorTxtI
import Derived.Test.YtkamocciaaapmaaDoorZK
namespace Go.Proofs.YtkamocciaaapmaaDoor
open Go.RowKit

theorem run_str_h (w : World) (s : ByteArray) (h : Nat) (h2 : h ≤ s.size) : (Instr.slice 9 (.string s) none (some (.int .i64 (h : Int))) none).run Tryd.prog w = .ok (.string (s.extract 0 h)) w := by
  simp [Instr.slice, run_underlying Tryd.underlying9, Instr.sliceBounds, run_sliceBound, (by omega : (0 : Int) ≤ (h : Int)), (by omega : (h : Int) ≤ (s.size : Int))]
theorem run_str_l (w : World) (s : ByteArray) (l : Nat) (h1 : l ≤ s.size) : (Instr.slice 9 (.string s) (some (.int .i64 (l : Int))) none none).run Tryd.prog w = .ok (.string (s.extract l s.size)) w := by
  simp [Instr.slice, run_underlying Tryd.underlying9, Instr.sliceBounds, run_sliceBound, (by omega : (0 : Int) ≤ (l : Int)), (by omega : (l : Int) ≤ (s.size : Int))]

set_option maxHeartbeats 800000 in
theorem specOfLit (B R p : Nat) (L : List ByteArray) (k : Nat) (o : Obj) (hk : L.length = k) (h0 : 0 < k) (hp : p ≤ 1000000) (w : World) (h : Rdr B R p w) (ho : o = Obj.cells (L.map Value.string).toArray 9) (b : Nat) (hb : w.heap.size = b) :
    Calls Tryd.prog 54 #[.pointer (some ⟨R, 0, none⟩), .slice (some ⟨b, 0, none⟩) k k] (w.alloc o) fun e w' => (∃ i, i < k ∧ e = .returned (.string (L.getD i ⟨#[]⟩))) ∧ Rdr B R (p + 1) w' ∧ w.grownBy w' (some R) := by
  subst hk; subst hb
  have hRB := h.1
  have hBw := h.2.1
  have HP := Lib.hid (fun n => specPick B R p n hp (w.alloc o) (h.alloc _))
  have HC := Lib.hid (show ∀ w', (w.alloc o).grownBy w' (some R) → ∀ x, x < L.length → w'.cell? ⟨w.heap.size, x, none⟩ = some (.string (L.getD x ⟨#[]⟩)) from fun w' hg x hx => by
    have hh : w'.heap[w.heap.size]? = some o := (hg.block w.heap.size (by simp) (by simp; omega)).trans (heap_alloc_new w o)
    subst ho
    simp only [World.cell?, hh]
    simp [List.getD_eq_getElem?_getD, List.getElem?_eq_getElem hx])
  have HG := Lib.hid (fun w' (hg : (w.alloc o).grownBy w' (some R)) => show w.grownBy w' (some R) from grownBy_trans (World.grownBy_alloc _ _ _) hg)
  clear h ho
  generalize w.alloc o = w0 at *
  generalize w.heap.size = g at *
  go_enter Tryd.func54, Tryd.ntmps54
  go_wp2_with fail
  refine (HP.out _).mono ?_
  rintro e w1 ⟨⟨x, rfl, hx⟩, hr, hg⟩
  have hxl : x < L.length := by omega
  have hxI : (x : Int) < (L.length : Int) := by omega
  have hcx := HC.out w1 hg x hxl
  have HR1 := Lib.hid hr
  have HG1 := Lib.hid (HG.out w1 hg)
  have HX := Lib.hid hxl
  clear hr hg hx HC HP HG
  obtain ⟨y, hy⟩ : ∃ y, y = L.getD x ⟨#[]⟩ := ⟨_, rfl⟩
  rw [← hy] at hcx
  have HY := Lib.hid hy
  clear hy
  go_wp2_with fail
  go_ret
  exact ⟨⟨x, HX.out, by rw [← HY.out]; rfl⟩, HR1.out, HG1.out⟩

set_option maxHeartbeats 1600000 in
set_option maxRecDepth 100000 in
theorem specMutate (B R p : Nat) (s : ByteArray) (hs : s.size ≤ 1000) (hp : p ≤ 90000) (w : World) (h : Rdr B R p w) :
    Calls Tryd.prog 38 #[.pointer (some ⟨R, 0, none⟩), .string s] w fun e w' => (∃ x : ByteArray, x.size ≤ 1010 ∧ e = .returned (.string x)) ∧ w.grownBy w' (some R) := by
  have hw1 : IntKind.i64.wrap ((s.size : Int) + 1) = (s.size : Int) + 1 := by rw [IntKind.wrap_i64]; omega
  have HR := Lib.hid h
  clear h
  go_enter Tryd.func38, Tryd.ntmps38
  go_wp2_with fail
  refine (specPick B R p _ (by omega) _ HR.out).mono ?_
  rintro e w1 ⟨⟨k, rfl, hk⟩, hr, hg⟩
  have hks : k ≤ s.size := by omega
  replace HR := Lib.hid hr
  have G := Lib.hid hg
  clear hr hg hk hw1
  go_wp2_with fail
  refine (specPick B R (p + 1) _ (by omega) _ HR.out).mono ?_
  rintro e w2 ⟨⟨y, rfl, hy⟩, hr, hg⟩
  replace HR := Lib.hid hr
  replace G := Lib.hid (grownBy_trans G.out hg)
  clear hr hg
  have hy5 : y = 0 ∨ y = 1 ∨ y = 2 ∨ y = 3 ∨ y = 4 := by omega
  clear hy
  rcases hy5 with rfl | rfl | rfl | rfl | rfl
  · by_cases hlt : k < s.size
    · have hki : (k : Int) < (s.size : Int) := by omega
      obtain ⟨q, hq⟩ : ∃ q, q = k + 1 := ⟨_, rfl⟩
      have hwq : IntKind.i64.wrap ((k : Int) + 1) = (q : Int) := by rw [IntKind.wrap_i64]; omega
      have hA := fun w => run_str_h w s k hks
      have hB := fun w => run_str_l w s q (by omega)
      have hAs : (s.extract 0 k).size ≤ 1000 := by rw [ByteArray.size_extract]; omega
      have hBs : (s.extract q s.size).size ≤ 1000 - (s.extract 0 k).size := by rw [ByteArray.size_extract, ByteArray.size_extract]; omega
      generalize s.extract 0 k = A at *
      generalize s.extract q s.size = C at *
      clear hq
      go_upto_region 6 with (fail)
      refine wp_region_held_drew (S := fun _ => True) (by kernel_rfl) (by exact trivial) (fun hHeld => ?_)
      have HRd := Lib.hid (show Rdr B R (p + 1 + 1) w2.drew from HR.out.drew)
      have Gd := Lib.hid (grown_drew G.out)
      generalize w2.drew = v0 at *
      refine wpAnyH_take (i := 0) (v := ?_) rfl (by kernel_rfl) (by kernel_rfl) (by kernel_rfl) (fun _ _ _ h => h) (Or.inl ⟨by rfl, ?_⟩) (by assumption) ?_
      rotate_left
      · (intro w hSw; (try dsimp only at hSw); go_simp; try with_reducible rfl)
      try simp only [List.getElem_toArray, List.getElem_cons_zero, Act.put, List.setIfInBounds_toArray, List.set_cons_zero, List.set_cons_succ]
      refine wpAnyH_take (i := 1) (v := ?_) rfl (by kernel_rfl) (by kernel_rfl) (by kernel_rfl) (fun _ _ _ h => h) (Or.inl ⟨by rfl, ?_⟩) (by assumption) ?_
      rotate_left
      · (intro w hSw; (try dsimp only at hSw); go_simp; try with_reducible rfl)
      try simp only [List.getElem_toArray, List.getElem_cons_zero, List.getElem_cons_succ, Act.put, List.setIfInBounds_toArray, List.set_cons_zero, List.set_cons_succ]
      refine wpAnyH_take (i := 2) (v := ?_) rfl (by kernel_rfl) (by kernel_rfl) (by kernel_rfl) (fun _ _ _ h => h) (Or.inl ⟨by rfl, ?_⟩) (by assumption) ?_
      rotate_left
      · (intro w hSw; (try dsimp only at hSw); go_simp; try with_reducible rfl)
      try simp only [List.getElem_toArray, List.getElem_cons_zero, List.getElem_cons_succ, Act.put, List.setIfInBounds_toArray, List.set_cons_zero, List.set_cons_succ]
      refine wpAnyH_take (i := 3) (v := ?_) rfl (by kernel_rfl) (by kernel_rfl) (by kernel_rfl) (fun _ _ _ h => h) (Or.inl ⟨by rfl, ?_⟩) (by assumption) ?_
      rotate_left
      · (intro w hSw; (try dsimp only at hSw); go_simp; try with_reducible rfl)
      try simp only [List.getElem_toArray, List.getElem_cons_zero, List.getElem_cons_succ, Act.put, List.setIfInBounds_toArray, List.set_cons_zero, List.set_cons_succ]
      refine wpAnyH_take (i := 7) (v := ?_) rfl (by kernel_rfl) (by kernel_rfl) (by kernel_rfl) (fun _ _ _ h => h) (Or.inl ⟨by rfl, ?_⟩) (by assumption) ?_
      rotate_left
      · (intro w hSw; (try dsimp only at hSw); go_simp; try with_reducible rfl)
      try simp only [List.getElem_toArray, List.getElem_cons_zero, List.getElem_cons_succ, Act.put, List.setIfInBounds_toArray, List.set_cons_zero, List.set_cons_succ]
      refine wpAnyH_take (i := 8) (v := ?_) rfl (by kernel_rfl) (by kernel_rfl) (by kernel_rfl) (fun _ _ _ h => h) (Or.inl ⟨by rfl, ?_⟩) (by assumption) ?_
      rotate_left
      · (intro w hSw; (try dsimp only at hSw); go_simp; try with_reducible rfl)
      try simp only [List.getElem_toArray, List.getElem_cons_zero, List.getElem_cons_succ, Act.put, List.setIfInBounds_toArray, List.set_cons_zero, List.set_cons_succ]
      refine wpAnyH_take (i := 9) (v := ?_) rfl (by kernel_rfl) (by kernel_rfl) (by kernel_rfl) (fun _ _ _ h => h) (Or.inl ⟨by rfl, ?_⟩) (by assumption) ?_
      rotate_left
      · (intro w hSw; (try dsimp only at hSw); go_simp; (try rw [hwq]); try with_reducible rfl)
      try simp only [List.getElem_toArray, List.getElem_cons_zero, List.getElem_cons_succ, Act.put, List.setIfInBounds_toArray, List.set_cons_zero, List.set_cons_succ]
      refine wpAnyH_take (i := 10) (v := ?_) rfl (by kernel_rfl) (by kernel_rfl) (by kernel_rfl) (fun _ _ _ h => h) (Or.inl ⟨by rfl, ?_⟩) (by assumption) ?_
      rotate_left
      · (intro w hSw; (try dsimp only at hSw); go_simp; try with_reducible rfl)
      try simp only [List.getElem_toArray, List.getElem_cons_zero, List.getElem_cons_succ, Act.put, List.setIfInBounds_toArray, List.set_cons_zero, List.set_cons_succ]
      refine wpAnyH_ready (rs := [4]) (by kernel_rfl) (by simp) ?_
      refine AllReadyH.cons rfl (fun K hK => ?_) AllReadyH.nil
      try simp only [List.getElem_toArray]
      go_simp
      refine hK.out _ _ (by exact trivial) (fun hHeld => ?_)
      clear hK K
      try simp only [List.getElem_toArray, List.getElem_cons_zero, List.getElem_cons_succ, Act.put, List.setIfInBounds_toArray, List.set_cons_zero, List.set_cons_succ]
      refine wpAnyH_ready (rs := [5]) (by kernel_rfl) (by simp) ?_
      refine AllReadyH.cons rfl (fun K hK => ?_) AllReadyH.nil
      try simp only [List.getElem_toArray]
      go_simp
      refine (specOfLit B R (p + 1 + 1) [(⟨#[48]⟩ : ByteArray), ⟨#[49]⟩, ⟨#[55]⟩, ⟨#[44]⟩, ⟨#[58]⟩, ⟨#[45]⟩, ⟨#[97]⟩, ⟨#[32]⟩] 8 (Obj.cells #[.string ⟨#[48]⟩, .string ⟨#[49]⟩, .string ⟨#[55]⟩, .string ⟨#[44]⟩, .string ⟨#[58]⟩, .string ⟨#[45]⟩, .string ⟨#[97]⟩, .string ⟨#[32]⟩] 9) rfl (by omega) (by omega) v0 HRd.out rfl _ rfl).mono ?_
      rintro e v1 ⟨⟨i, hi, rfl⟩, hr1, hg1⟩
      have hx1 : (([(⟨#[48]⟩ : ByteArray), ⟨#[49]⟩, ⟨#[55]⟩, ⟨#[44]⟩, ⟨#[58]⟩, ⟨#[45]⟩, ⟨#[97]⟩, ⟨#[32]⟩]).getD i ⟨#[]⟩).size ≤ 1 := by
        rcases (show i = 0 ∨ i = 1 ∨ i = 2 ∨ i = 3 ∨ i = 4 ∨ i = 5 ∨ i = 6 ∨ i = 7 by omega) with rfl | rfl | rfl | rfl | rfl | rfl | rfl | rfl <;> decide
      generalize ([(⟨#[48]⟩ : ByteArray), ⟨#[49]⟩, ⟨#[55]⟩, ⟨#[44]⟩, ⟨#[58]⟩, ⟨#[45]⟩, ⟨#[97]⟩, ⟨#[32]⟩]).getD i ⟨#[]⟩ = X at *
      have G1 := Lib.hid (grownBy_trans Gd.out hg1)
      have hno1 : ¬ 9223372036854775807 < A.size + X.size := by omega
      have hno2 : ¬ 9223372036854775807 < A.size + X.size + C.size := by omega
      clear hr1 hg1
      refine hK.out _ _ (by exact trivial) (fun hHeld => ?_)
      clear hK K
      try simp only [List.getElem_toArray, List.getElem_cons_zero, List.getElem_cons_succ, Act.put, List.setIfInBounds_toArray, List.set_cons_zero, List.set_cons_succ]
      refine wpAnyH_take (i := 6) (v := ?_) rfl (by kernel_rfl) (by kernel_rfl) (by kernel_rfl) (fun _ _ _ h => h) (Or.inl ⟨by rfl, ?_⟩) (by assumption) ?_
      rotate_left
      · (intro w hSw; (try dsimp only at hSw); go_simp; try with_reducible rfl)
      try simp only [List.getElem_toArray, List.getElem_cons_zero, List.getElem_cons_succ, Act.put, List.setIfInBounds_toArray, List.set_cons_zero, List.set_cons_succ]
      refine wpAnyH_take (i := 11) (v := ?_) rfl (by kernel_rfl) (by kernel_rfl) (by kernel_rfl) (fun _ _ _ h => h) (Or.inl ⟨by rfl, ?_⟩) (by assumption) ?_
      rotate_left
      · (intro w hSw; (try dsimp only at hSw); go_simp; try with_reducible rfl)
      try simp only [List.getElem_toArray, List.getElem_cons_zero, List.getElem_cons_succ, Act.put, List.setIfInBounds_toArray, List.set_cons_zero, List.set_cons_succ]
      refine wpAnyH_take (i := 12) (v := ?_) rfl (by kernel_rfl) (by kernel_rfl) (by kernel_rfl) (fun _ _ _ h => h) (Or.inl ⟨by rfl, ?_⟩) (by assumption) ?_
      rotate_left
      · (intro w hSw; (try dsimp only at hSw); go_simp; try with_reducible rfl)
      try simp only [List.getElem_toArray, List.getElem_cons_zero, List.getElem_cons_succ, Act.put, List.setIfInBounds_toArray, List.set_cons_zero, List.set_cons_succ]
      refine wpAnyH_done (by kernel_rfl) ?_ _
      go_wp2_with fail
      go_ret
      exact ⟨⟨_, by rw [ByteArray.size_append, ByteArray.size_append]; omega, rfl⟩, by first | exact G1.out | exact G1.out.drew⟩
    · have hki : ¬ (k : Int) < (s.size : Int) := by omega
      go_wp2_with fail
      go_ret
      exact ⟨⟨s, by omega, rfl⟩, G.out⟩

  · by_cases hlt : k < s.size
    · have hki : (k : Int) < (s.size : Int) := by omega
      obtain ⟨q, hq⟩ : ∃ q, q = k + 1 := ⟨_, rfl⟩
      have hwq : IntKind.i64.wrap ((k : Int) + 1) = (q : Int) := by rw [IntKind.wrap_i64]; omega
      have hA := fun w => run_str_h w s k hks
      have hB := fun w => run_str_l w s q (by omega)
      have hAs : (s.extract 0 k).size ≤ 1000 := by rw [ByteArray.size_extract]; omega
      have hBs : (s.extract q s.size).size ≤ 1000 - (s.extract 0 k).size := by rw [ByteArray.size_extract, ByteArray.size_extract]; omega
      generalize s.extract 0 k = A at *
      generalize s.extract q s.size = C at *
      clear hq
      go_upto_region 6 with (fail)
      refine wp_region_held_drew (S := fun _ => True) (by kernel_rfl) (by exact trivial) (fun hHeld => ?_)
      have HRd := Lib.hid (show Rdr B R (p + 1 + 1) w2.drew from HR.out.drew)
      have Gd := Lib.hid (grown_drew G.out)
      generalize w2.drew = v0 at *
      refine wpAnyH_take (i := 0) (v := ?_) rfl (by kernel_rfl) (by kernel_rfl) (by kernel_rfl) (fun _ _ _ h => h) (Or.inl ⟨by rfl, ?_⟩) (by assumption) ?_
      rotate_left
      · (intro w hSw; (try dsimp only at hSw); go_simp; try with_reducible rfl)
      try simp only [List.getElem_toArray, List.getElem_cons_zero, Act.put, List.setIfInBounds_toArray, List.set_cons_zero, List.set_cons_succ]
      refine wpAnyH_take (i := 1) (v := ?_) rfl (by kernel_rfl) (by kernel_rfl) (by kernel_rfl) (fun _ _ _ h => h) (Or.inl ⟨by rfl, ?_⟩) (by assumption) ?_
      rotate_left
      · (intro w hSw; (try dsimp only at hSw); go_simp; try with_reducible rfl)
      try simp only [List.getElem_toArray, List.getElem_cons_zero, List.getElem_cons_succ, Act.put, List.setIfInBounds_toArray, List.set_cons_zero, List.set_cons_succ]
      refine wpAnyH_take (i := 2) (v := ?_) rfl (by kernel_rfl) (by kernel_rfl) (by kernel_rfl) (fun _ _ _ h => h) (Or.inl ⟨by rfl, ?_⟩) (by assumption) ?_
      rotate_left
      · (intro w hSw; (try dsimp only at hSw); go_simp; try with_reducible rfl)
      try simp only [List.getElem_toArray, List.getElem_cons_zero, List.getElem_cons_succ, Act.put, List.setIfInBounds_toArray, List.set_cons_zero, List.set_cons_succ]
      refine wpAnyH_take (i := 3) (v := ?_) rfl (by kernel_rfl) (by kernel_rfl) (by kernel_rfl) (fun _ _ _ h => h) (Or.inl ⟨by rfl, ?_⟩) (by assumption) ?_
      rotate_left
      · (intro w hSw; (try dsimp only at hSw); go_simp; try with_reducible rfl)
      try simp only [List.getElem_toArray, List.getElem_cons_zero, List.getElem_cons_succ, Act.put, List.setIfInBounds_toArray, List.set_cons_zero, List.set_cons_succ]
      refine wpAnyH_take (i := 7) (v := ?_) rfl (by kernel_rfl) (by kernel_rfl) (by kernel_rfl) (fun _ _ _ h => h) (Or.inl ⟨by rfl, ?_⟩) (by assumption) ?_
      rotate_left
      · (intro w hSw; (try dsimp only at hSw); go_simp; try with_reducible rfl)
      try simp only [List.getElem_toArray, List.getElem_cons_zero, List.getElem_cons_succ, Act.put, List.setIfInBounds_toArray, List.set_cons_zero, List.set_cons_succ]
      refine wpAnyH_take (i := 8) (v := ?_) rfl (by kernel_rfl) (by kernel_rfl) (by kernel_rfl) (fun _ _ _ h => h) (Or.inl ⟨by rfl, ?_⟩) (by assumption) ?_
      rotate_left
      · (intro w hSw; (try dsimp only at hSw); go_simp; try with_reducible rfl)
      try simp only [List.getElem_toArray, List.getElem_cons_zero, List.getElem_cons_succ, Act.put, List.setIfInBounds_toArray, List.set_cons_zero, List.set_cons_succ]
      refine wpAnyH_take (i := 9) (v := ?_) rfl (by kernel_rfl) (by kernel_rfl) (by kernel_rfl) (fun _ _ _ h => h) (Or.inl ⟨by rfl, ?_⟩) (by assumption) ?_
      rotate_left
      · (intro w hSw; (try dsimp only at hSw); go_simp; (try rw [hwq]); try with_reducible rfl)
      try simp only [List.getElem_toArray, List.getElem_cons_zero, List.getElem_cons_succ, Act.put, List.setIfInBounds_toArray, List.set_cons_zero, List.set_cons_succ]
      refine wpAnyH_take (i := 10) (v := ?_) rfl (by kernel_rfl) (by kernel_rfl) (by kernel_rfl) (fun _ _ _ h => h) (Or.inl ⟨by rfl, ?_⟩) (by assumption) ?_
      rotate_left
      · (intro w hSw; (try dsimp only at hSw); go_simp; try with_reducible rfl)
      try simp only [List.getElem_toArray, List.getElem_cons_zero, List.getElem_cons_succ, Act.put, List.setIfInBounds_toArray, List.set_cons_zero, List.set_cons_succ]
      refine wpAnyH_ready (rs := [4]) (by kernel_rfl) (by simp) ?_
      refine AllReadyH.cons rfl (fun K hK => ?_) AllReadyH.nil
      try simp only [List.getElem_toArray]
      go_simp
      refine hK.out _ _ (by exact trivial) (fun hHeld => ?_)
      clear hK K
      try simp only [List.getElem_toArray, List.getElem_cons_zero, List.getElem_cons_succ, Act.put, List.setIfInBounds_toArray, List.set_cons_zero, List.set_cons_succ]
      refine wpAnyH_ready (rs := [5]) (by kernel_rfl) (by simp) ?_
      refine AllReadyH.cons rfl (fun K hK => ?_) AllReadyH.nil
      try simp only [List.getElem_toArray]
      go_simp
      refine (specOfLit B R (p + 1 + 1) [(⟨#[48]⟩ : ByteArray), ⟨#[49]⟩, ⟨#[55]⟩, ⟨#[44]⟩, ⟨#[58]⟩, ⟨#[45]⟩, ⟨#[97]⟩, ⟨#[32]⟩] 8 (Obj.cells #[.string ⟨#[48]⟩, .string ⟨#[49]⟩, .string ⟨#[55]⟩, .string ⟨#[44]⟩, .string ⟨#[58]⟩, .string ⟨#[45]⟩, .string ⟨#[97]⟩, .string ⟨#[32]⟩] 9) rfl (by omega) (by omega) v0 HRd.out rfl _ rfl).mono ?_
      rintro e v1 ⟨⟨i, hi, rfl⟩, hr1, hg1⟩
      have hx1 : (([(⟨#[48]⟩ : ByteArray), ⟨#[49]⟩, ⟨#[55]⟩, ⟨#[44]⟩, ⟨#[58]⟩, ⟨#[45]⟩, ⟨#[97]⟩, ⟨#[32]⟩]).getD i ⟨#[]⟩).size ≤ 1 := by
        rcases (show i = 0 ∨ i = 1 ∨ i = 2 ∨ i = 3 ∨ i = 4 ∨ i = 5 ∨ i = 6 ∨ i = 7 by omega) with rfl | rfl | rfl | rfl | rfl | rfl | rfl | rfl <;> decide
      generalize ([(⟨#[48]⟩ : ByteArray), ⟨#[49]⟩, ⟨#[55]⟩, ⟨#[44]⟩, ⟨#[58]⟩, ⟨#[45]⟩, ⟨#[97]⟩, ⟨#[32]⟩]).getD i ⟨#[]⟩ = X at *
      have G1 := Lib.hid (grownBy_trans Gd.out hg1)
      have hno1 : ¬ 9223372036854775807 < A.size + X.size := by omega
      have hno2 : ¬ 9223372036854775807 < A.size + X.size + C.size := by omega
      clear hr1 hg1
      refine hK.out _ _ (by exact trivial) (fun hHeld => ?_)
      clear hK K
      try simp only [List.getElem_toArray, List.getElem_cons_zero, List.getElem_cons_succ, Act.put, List.setIfInBounds_toArray, List.set_cons_zero, List.set_cons_succ]
      refine wpAnyH_take (i := 6) (v := ?_) rfl (by kernel_rfl) (by kernel_rfl) (by kernel_rfl) (fun _ _ _ h => h) (Or.inl ⟨by rfl, ?_⟩) (by assumption) ?_
      rotate_left
      · (intro w hSw; (try dsimp only at hSw); go_simp; try with_reducible rfl)
      try simp only [List.getElem_toArray, List.getElem_cons_zero, List.getElem_cons_succ, Act.put, List.setIfInBounds_toArray, List.set_cons_zero, List.set_cons_succ]
      refine wpAnyH_take (i := 11) (v := ?_) rfl (by kernel_rfl) (by kernel_rfl) (by kernel_rfl) (fun _ _ _ h => h) (Or.inl ⟨by rfl, ?_⟩) (by assumption) ?_
      rotate_left
      · (intro w hSw; (try dsimp only at hSw); go_simp; try with_reducible rfl)
      try simp only [List.getElem_toArray, List.getElem_cons_zero, List.getElem_cons_succ, Act.put, List.setIfInBounds_toArray, List.set_cons_zero, List.set_cons_succ]
      refine wpAnyH_take (i := 12) (v := ?_) rfl (by kernel_rfl) (by kernel_rfl) (by kernel_rfl) (fun _ _ _ h => h) (Or.inl ⟨by rfl, ?_⟩) (by assumption) ?_
      rotate_left
      · (intro w hSw; (try dsimp only at hSw); go_simp; try with_reducible rfl)
      try simp only [List.getElem_toArray, List.getElem_cons_zero, List.getElem_cons_succ, Act.put, List.setIfInBounds_toArray, List.set_cons_zero, List.set_cons_succ]
      refine wpAnyH_done (by kernel_rfl) ?_ _
      go_wp2_with fail
      go_ret
      exact ⟨⟨_, by rw [ByteArray.size_append, ByteArray.size_append]; omega, rfl⟩, by first | exact G1.out | exact G1.out.drew⟩
    · have hki : ¬ (k : Int) < (s.size : Int) := by omega
      go_wp2_with fail
      go_ret
      exact ⟨⟨s, by omega, rfl⟩, G.out⟩

  · have hA := fun w => run_str_h w s k hks
    have hAs : (s.extract 0 k).size ≤ 1000 := by rw [ByteArray.size_extract]; omega
    generalize s.extract 0 k = A at *
    go_wp2_with fail
    go_ret
    exact ⟨⟨A, by omega, rfl⟩, G.out⟩
  · have HO := Lib.hid (specOfLit B R (p + 1 + 1) [(⟨#[48]⟩ : ByteArray), ⟨#[44]⟩, ⟨#[32]⟩, ⟨#[44, 51, 49]⟩] 4 (Obj.cells #[.string ⟨#[48]⟩, .string ⟨#[44]⟩, .string ⟨#[32]⟩, .string ⟨#[44, 51, 49]⟩] 9) rfl (by omega) (by omega) w2 HR.out rfl _ rfl)
    go_wp2_with fail
    refine HO.out.mono ?_
    rintro e v1 ⟨⟨i, hi, rfl⟩, hr1, hg1⟩
    have hx1 : (([(⟨#[48]⟩ : ByteArray), ⟨#[44]⟩, ⟨#[32]⟩, ⟨#[44, 51, 49]⟩]).getD i ⟨#[]⟩).size ≤ 3 := by
      rcases (show i = 0 ∨ i = 1 ∨ i = 2 ∨ i = 3 by omega) with rfl | rfl | rfl | rfl <;> decide
    generalize ([(⟨#[48]⟩ : ByteArray), ⟨#[44]⟩, ⟨#[32]⟩, ⟨#[44, 51, 49]⟩]).getD i ⟨#[]⟩ = X at *
    have G1 := Lib.hid (grownBy_trans G.out hg1)
    have hno1 : ¬ 9223372036854775807 < s.size + X.size := by omega
    clear hr1 hg1 HO
    go_wp2_with fail
    go_ret
    exact ⟨⟨_, by rw [ByteArray.size_append]; omega, rfl⟩, G1.out⟩
  · go_wp2_with fail
    go_ret
    exact ⟨⟨s, by omega, rfl⟩, G.out⟩

set_option maxHeartbeats 1600000 in
set_option maxRecDepth 100000 in
theorem dDrawParseClass (a : Option Addr) (b off n cap : Nat) (w : World) (hc : n ≤ cap) (hn : n ≤ 1048576) (hcap : cap ≤ maxLen) (h : Byt w a b off n) :
    Calls Tryd.prog 18 #[.slice a n cap] w fun e w' => (∃ x : ByteArray, x.size ≤ 1010 ∧ e = .returned (.string x)) ∧ Below w.heap.size w w' := by
  have HN := Lib.hid (specNewReader a b off n cap w hc hn hcap h)
  clear h hc hn hcap
  go_enter Tryd.func18, Tryd.ntmps18
  go_wp2_with fail
  refine HN.out.mono ?_
  rintro e w1 ⟨rfl, hr, hg⟩
  have HR := Lib.hid hr
  have B := Lib.hid (show Below w.heap.size w w1 from (Below.refl _ _).grown hg (Nat.le_refl _) (fun k hk => by cases hk))
  have hzw : w.heap.size + 1 ≤ w1.heap.size := hr.2.1
  generalize hRR : w.heap.size = R at *
  clear hr hg HN
  go_wp2_with fail
  refine (specGoodClass (R + 1) R 0 (by omega) _ HR.out).mono ?_
  rintro e w2 ⟨m, hm, a2, c2, p2, ns, rfl, hin, hcls, hp2, hr2, hg2⟩
  have hl := hcls.length
  have hp5 := pow_le_32 hm
  have HT := Lib.hid (fun w h => specClassTextIn m (.slice a2 ns.length c2) ns w h (by omega) (fun t ht => by have := hcls.lt t ht; omega) (by omega))
  have hsz := ctT_size (m := m) (ns := ns) (by omega) (fun t ht => by have := hcls.lt t ht; omega) ns.length (Nat.le_refl _)
  have I := Lib.hid hin
  replace HR := Lib.hid hr2
  replace B := Lib.hid (B.out.grown hg2 (by omega) (fun k hk => by cases hk; omega))
  have hz2 := hg2.size
  clear hin hcls hr2 hg2
  go_wp2_with fail
  refine (HT.out _ I.out.rd).mono ?_
  rintro e w3 ⟨rfl, hb3⟩
  have hz3 := hb3.size
  replace HR := Lib.hid (HR.out.next hb3 (by omega))
  replace B := Lib.hid (B.out.trans (hb3.mono (by omega)))
  generalize ctT m ns ns.length = T at *
  have hT : T.size ≤ 1000 := by omega
  clear hb3 HT I hsz
  go_wp2_with fail
  refine (specPick (R + 1) R p2 3 (by omega) _ HR.out).mono ?_
  rintro e w4 ⟨⟨y, rfl, _⟩, hr4, hg4⟩
  replace HR := Lib.hid hr4
  replace B := Lib.hid (B.out.grown hg4 (by omega) (fun k hk => by cases hk; omega))
  have hz4 := hg4.size
  clear hr4 hg4
  by_cases hy : y = 0
  · subst hy
    go_wp2_with fail
    refine (specMutate (R + 1) R (p2 + 1) T hT (by omega) _ HR.out).mono ?_
    rintro e w5 ⟨⟨x, hx, rfl⟩, hg5⟩
    have HX := Lib.hid hx
    replace B := Lib.hid (B.out.grown hg5 (by omega) (fun k hk => by cases hk; omega))
    clear hg5 hx
    go_wp2_with fail
    go_ret
    exact ⟨⟨x, HX.out, rfl⟩, by rw [hRR]; exact B.out⟩
  · have hyI : ¬ (y : Int) = 0 := by omega
    have hyd : ((y : Int) == 0) = false := by simpa using hyI
    go_wp2_with fail
    go_ret
    exact ⟨⟨T, by omega, rfl⟩, by rw [hRR]; exact B.out⟩

end Go.Proofs.YtkamocciaaapmaaDoor
