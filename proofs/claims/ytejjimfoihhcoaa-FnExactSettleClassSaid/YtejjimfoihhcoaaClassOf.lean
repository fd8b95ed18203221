/- The program's classOf: the class of the sets that are keys. No conditions. -/
import Derived.Test.YtejjimfoihhcoaaCube
import Derived.Test.YtejjimfoihhcoaaIdx
namespace Go.Proofs.Ytejjimfoihhcoaa
open Go.RowKit

/-- the class that is being made in block o -/
structure Out (n : Int) (v : Value) (o : Nat) (w : World) : Prop where
  at0 : w.cell? ⟨o, 0, none⟩ = some (.int .i64 n)
  at1 : w.cell? ⟨o, 1, none⟩ = some v
  free0 : w.frozen? ⟨o, 0, none⟩ = false
  free1 : w.frozen? ⟨o, 1, none⟩ = false

theorem Out.next {n : Int} {v : Value} {o B : Nat} {w w' : World} (h : Out n v o w) (hb : Below B w w') (ho : o < B) : Out n v o w' :=
  ⟨(hb.cell (p := ⟨o, 0, none⟩) ho).trans h.at0, (hb.cell (p := ⟨o, 1, none⟩) ho).trans h.at1, (hb.frozen (p := ⟨o, 0, none⟩) ho).trans h.free0, (hb.frozen (p := ⟨o, 1, none⟩) ho).trans h.free1⟩

theorem Out.kept {n : Int} {v : Value} {o : Nat} {r : Option Nat} {w w' : World} (h : Out n v o w) (hg : w.grownBy w' r) (hne : some o ≠ r) (hlt : o < w.heap.size) : Out n v o w' := by
  have hb := hg.block o hlt hne
  have hc : ∀ i, w'.cell? ⟨o, i, none⟩ = w.cell? ⟨o, i, none⟩ := fun i => World.cell?_of_block (w := w) (a := ⟨o, i, none⟩) hb
  have hf : ∀ i, w'.frozen? ⟨o, i, none⟩ = w.frozen? ⟨o, i, none⟩ := fun i => World.frozen?_of_block (w := w) (a := ⟨o, i, none⟩) hb
  exact ⟨(hc 0).trans h.at0, (hc 1).trans h.at1, (hf 0).trans h.free0, (hf 1).trans h.free1⟩

theorem Out.set {n : Int} {v : Value} {o : Nat} {w : World} (h : Out n v o w) (u : Value) : Out n u o (w.setCell ⟨o, 1, none⟩ u) :=
  ⟨(World.cell?_setCell_other _ _ _ _ (by simp)).trans h.at0, World.cell?_setCell_same _ _ _ h.at1, by rw [World.frozen?_setCell]; exact h.free0, by rw [World.frozen?_setCell]; exact h.free1⟩

set_option maxHeartbeats 3200000 in
set_option maxRecDepth 100000 in
theorem implClassOf (m : Nat) (hm : m ≤ 5) (b c : Nat) (K : Nat → Bool) (w : World) (h : Keys w b c K) :
    Calls Try.prog 46 #[.int .i64 (m : Int), .map (some b)] w (RetClass m (toI ((List.range (2 ^ m)).filter K)) w) := by
  have HK := Lib.hid h
  have hbw := h.lt
  have hw := wrap_pow m hm
  have HW := Lib.hid hw.1
  have hw2 := hw.2
  have HP := Lib.hid (show ((2 ^ m : Nat) : Int) = (2 : Int) ^ m by simp)
  clear h hw
  go_enter Try.func46, Try.ntmps46
  go_wp2_with fail
  have HK1 := Lib.hid (HK.out.below (B := w.heap.size) (w' := w.alloc (Obj.cells #[.int .i64 0, .slice none 0 0] 27)) (by go_grown) hbw)
  go_loopw [11] (fun i wr => ∃ (j : Nat) (a' : Option Addr) (c' : Nat), (j : Int) ≤ wrap64 (2 ^ m) ∧ i = .int .i64 j ∧ Out m (.slice a' ((List.range j).filter K).length c') (w.heap.size + 1) wr ∧ Ints (w.heap.size + 1 + 1) wr (.slice a' ((List.range j).filter K).length c') (toI ((List.range j).filter K)) ∧ Below (w.heap.size + 1) (w.alloc (Obj.cells #[.int .i64 0, .slice none 0 0] 27)) wr ∧ w.heap.size + 1 < wr.heap.size) (fun i _ => 40 - (intOf i).toNat)
  case atStart => exact ⟨0, none, 0, by omega, rfl, ⟨by simp [go_sem], by simp [go_sem], by simp [go_sem], by simp [go_sem]⟩, Ints.nil _ _, (Below.refl _ _).alloc (by simp) _, by simp⟩
  case round =>
    obtain ⟨j, a', c', hj, rfl, ho, hin, hbe, hsz⟩ := hrel
    have HO := Lib.hid ho
    have HIN := Lib.hid hin
    have HB := Lib.hid hbe
    clear ho hin hbe
    by_cases hlt : (j : Int) < wrap64 (2 ^ m)
    · have hlook := (HK1.out.below HB.out (by omega)).look j (by omega)
      have hfl := filt_le K j
      by_cases hp : K j = true
      · have HF := Lib.hid (filt_yes hp)
        have HAl := Lib.hid (toI_length ((List.range j).filter K))
        rw [hp] at hlook
        clear hp
        generalize (List.range j).filter K = A at *
        have e1 := HO.out.at1
        go_wp2_with (at_builtin; refine wpList_app rfl (.tmp 18) (.tmp 20) rfl (w.heap.size + 1 + 1) _ (toI A) rfl (by exact HIN.out.alloc _) _ _ _ [(j : Int)] rfl (src_cell (by rw [World.cell?_alloc_at _ _ _ _ rfl]; rfl)) (by rw [HAl.out]; omega) (by simp; omega) ?_; intro a1 c1 w3 hin3 hb3 hg3; have hb13 : Below (w.heap.size + 1 + 1) wr w3 := Below.trans ((Below.refl _ _).alloc (by omega) _) hb3; have O3 := Lib.hid (HO.out.next hb13 (by omega)); have H13 := Lib.hid hb13; have I3 := Lib.hid hin3; clear hin3 hb3 hg3 hb13; have f1 := O3.out.at1; have g1 := O3.out.free1)
        rw [HAl.out] at I3
        go_roundw
        case rel => exact ⟨j + 1, a1, c1, by omega, by go_num, by rw [HF.out, HAl.out, List.length_append]; exact O3.out.set _, by rw [HF.out, HAl.out, List.length_append, toI_append]; exact I3.out.setCell_below (by simp) _, (HB.out.trans (H13.out.mono (by omega))).setCell (by simp) _, by have := H13.out.size; simp; omega⟩
        case measure => simp [intOf]; omega
      · rw [Bool.not_eq_true] at hp
        have HF := Lib.hid (filt_no hp)
        rw [hp] at hlook
        clear hp
        generalize (List.range j).filter K = A at *
        go_wp2_with fail
        go_roundw
        case rel => exact ⟨j + 1, a', c', by omega, by go_num, by rw [HF.out]; exact HO.out, by rw [HF.out]; exact HIN.out, HB.out, hsz⟩
        case measure => simp [intOf]; omega
    · have hj2 : j = 2 ^ m := by have := HW.out; have := HP.out; omega
      have HJ := Lib.hid hj2
      clear hj2
      have OR := Lib.hid ((show Out 0 (.slice none 0 0) w.heap.size (w.alloc (Obj.cells #[.int .i64 0, .slice none 0 0] 27)) from ⟨by simp [go_sem], by simp [go_sem], by simp [go_sem], by simp [go_sem]⟩).next HB.out (by omega))
      have e0 := HO.out.at0
      have e1 := HO.out.at1
      have r0 := OR.out.at0
      have r1 := OR.out.at1
      have q0 := OR.out.free0
      have q1 := OR.out.free1
      go_wp2_with fail
      refine bodyPost_ret (v := .agg #[.int .i64 (m : Int), .slice a' ((List.range j).filter K).length c']) (by simp [results, Try.results46, go_sem, r0, r1]) rfl ?_
      rw [← HJ.out]
      have HAl := toI_length ((List.range j).filter K)
      refine ⟨a', c', by rw [HAl], ?_, ?_⟩
      · rw [HAl]
        refine Ints.mono (B := w.heap.size + 1 + 1) ?_ (by omega)
        repeat (refine Ints.setCell_below ?_ (by simp; try omega) _)
        exact HIN.out
      · have hb0 : Below w.heap.size w wr := Below.trans (b := w.alloc (Obj.cells #[.int .i64 0, .slice none 0 0] 27)) (by go_grown) (HB.out.mono (by omega))
        clear e0 e1 r0 r1 q0 q1
        go_grown

end Go.Proofs.Ytejjimfoihhcoaa
