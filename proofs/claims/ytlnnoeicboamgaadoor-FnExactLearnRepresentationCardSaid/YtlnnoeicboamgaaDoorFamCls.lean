/- The program's class of a family. No conditions. -/
import Derived.Test.YtlnnoeicboamgaaDoorFamOf
import Derived.Test.YtlnnoeicboamgaaDoorZD
namespace Go.Proofs.YtlnnoeicboamgaaDoor
open Go.RowKit

theorem fm_test (l : List Nat) {j : Nat} (hj : j < 32) : bits .and .u32 (fm l / 2 ^ j) 1 = if decide (j ∈ l) = true then 1 else 0 := by
  have e1 : fm l / 2 ^ j = ((famB l >>> j).toNat : Int) := by
    rw [BitVec.toNat_ushiftRight, Nat.shiftRight_eq_div_pow, fm]
    simp
  have e2 : (1 : Int) = ((1#32).toNat : Int) := by decide
  rw [e1]
  rw (occs := .pos [1]) [e2]
  rw [u32_and, BitVec.toNat_and, BitVec.toNat_ushiftRight, Nat.shiftRight_eq_div_pow, ← famB_bit l hj, BitVec.getLsbD]
  show (((famB l).toNat / 2 ^ j &&& 1 : Nat) : Int) = _
  rw [Nat.and_one_is_mod, ← Nat.toNat_testBit]
  cases (famB l).toNat.testBit j <;> rfl

set_option maxHeartbeats 3200000 in
set_option maxRecDepth 100000 in
theorem implFamClass (m : Nat) (hm : m ≤ 5) (l : List Nat) (w : World) :
    Calls Tryd.prog 54 #[.int .u32 (fm l), .int .i64 (m : Int)] w (RetClass m (toI ((List.range (2 ^ m)).filter (fun s => decide (s ∈ l)))) w) := by
  obtain ⟨K, hK⟩ : ∃ K, K = (fun s => decide (s ∈ l)) := ⟨_, rfl⟩
  have HTst := Lib.hid (fun j hj => fm_test l (j := j) hj)
  rw [← hK]
  have HKK := Lib.hid hK
  clear hK
  have hF0 : 0 ≤ fm l := by unfold fm; omega
  have hF1 : fm l < 4294967296 := by unfold fm; have := (famB l).isLt; omega
  generalize fm l = F at *
  have hw := wrap_pow m hm
  have HW := Lib.hid hw.1
  have hw2 := hw.2
  have HP := Lib.hid (show ((2 ^ m : Nat) : Int) = (2 : Int) ^ m by simp)
  clear hw
  go_enter Tryd.func54, Tryd.ntmps54
  go_wp2_with fail
  go_loopw [11] (fun i wr => ∃ (j : Nat) (a' : Option Addr) (c' : Nat), (j : Int) ≤ wrap64 (2 ^ m) ∧ i = .int .i64 j ∧ Out m (.slice a' ((List.range j).filter K).length c') (w.heap.size + 1) wr ∧ Ints (w.heap.size + 1 + 1) wr (.slice a' ((List.range j).filter K).length c') (toI ((List.range j).filter K)) ∧ Below (w.heap.size + 1) (w.alloc (Obj.cells #[.int .i64 0, .slice none 0 0] 30)) wr ∧ w.heap.size + 1 < wr.heap.size) (fun i _ => 40 - (intOf i).toNat)
  case atStart => exact ⟨0, none, 0, by omega, rfl, ⟨by simp [go_sem], by simp [go_sem], by simp [go_sem], by simp [go_sem]⟩, Ints.nil _ _, (Below.refl _ _).alloc (by simp) _, by simp⟩
  case round =>
    obtain ⟨j, a', c', hj, rfl, ho, hin, hbe, hsz⟩ := hrel
    have HO := Lib.hid ho
    have HIN := Lib.hid hin
    have HB := Lib.hid hbe
    clear ho hin hbe
    by_cases hlt : (j : Int) < wrap64 (2 ^ m)
    · have hj32 : j < 32 := by omega
      have hlook := HTst.out j hj32
      rw [show decide (j ∈ l) = K j by rw [HKK.out]] at hlook
      have hfl := filt_le K j
      by_cases hp : K j = true
      · have HF := Lib.hid (filt_yes hp)
        have HAl := Lib.hid (toI_length ((List.range j).filter K))
        rw [if_pos hp] at hlook
        clear hp
        generalize (List.range j).filter K = A at *
        have e1 := HO.out.at1
        go_wp2_with (at_builtin; refine wpList_app rfl (.tmp 20) (.tmp 22) rfl (w.heap.size + 1 + 1) _ (toI A) rfl (by exact HIN.out.alloc _) _ _ _ [(j : Int)] rfl (src_cell (by rw [World.cell?_alloc_at _ _ _ _ rfl]; rfl)) (by rw [HAl.out]; omega) (by simp; omega) ?_; intro a1 c1 w3 hin3 hb3 hg3; have hb13 : Below (w.heap.size + 1 + 1) wr w3 := Below.trans ((Below.refl _ _).alloc (by omega) _) hb3; have O3 := Lib.hid (HO.out.next hb13 (by omega)); have H13 := Lib.hid hb13; have I3 := Lib.hid hin3; clear hin3 hb3 hg3 hb13; have f1 := O3.out.at1; have g1 := O3.out.free1)
        rw [HAl.out] at I3
        go_roundw
        case rel => exact ⟨j + 1, a1, c1, by omega, by go_num, by rw [HF.out, HAl.out, List.length_append]; exact O3.out.set _, by rw [HF.out, HAl.out, List.length_append, toI_append]; exact I3.out.setCell_below (by simp) _, (HB.out.trans (H13.out.mono (by omega))).setCell (by simp) _, by have := H13.out.size; simp; omega⟩
        case measure => simp [intOf]; omega
      · rw [Bool.not_eq_true] at hp
        have HF := Lib.hid (filt_no hp)
        rw [if_neg (by rw [hp]; decide)] at hlook
        clear hp
        generalize (List.range j).filter K = A at *
        go_wp2_with fail
        go_roundw
        case rel => exact ⟨j + 1, a', c', by omega, by go_num, by rw [HF.out]; exact HO.out, by rw [HF.out]; exact HIN.out, HB.out, hsz⟩
        case measure => simp [intOf]; omega
    · have hj2 : j = 2 ^ m := by have := HW.out; have := HP.out; omega
      have HJ := Lib.hid hj2
      clear hj2
      have OR := Lib.hid ((show Out 0 (.slice none 0 0) w.heap.size (w.alloc (Obj.cells #[.int .i64 0, .slice none 0 0] 30)) from ⟨by simp [go_sem], by simp [go_sem], by simp [go_sem], by simp [go_sem]⟩).next HB.out (by omega))
      have e0 := HO.out.at0
      have e1 := HO.out.at1
      have r0 := OR.out.at0
      have r1 := OR.out.at1
      have q0 := OR.out.free0
      have q1 := OR.out.free1
      go_wp2_with fail
      refine bodyPost_ret (v := .agg #[.int .i64 (m : Int), .slice a' ((List.range j).filter K).length c']) (by simp [results, Tryd.results54, go_sem, r0, r1]) rfl ?_
      rw [← HJ.out]
      have HAl := toI_length ((List.range j).filter K)
      refine ⟨a', c', by rw [HAl], ?_, ?_⟩
      · rw [HAl]
        refine Ints.mono (B := w.heap.size + 1 + 1) ?_ (by omega)
        repeat (refine Ints.setCell_below ?_ (by simp; try omega) _)
        exact HIN.out
      · have hb0 : Below w.heap.size w wr := Below.trans (b := w.alloc (Obj.cells #[.int .i64 0, .slice none 0 0] 30)) (by go_grown) (HB.out.mono (by omega))
        clear e0 e1 r0 r1 q0 q1
        go_grown

end Go.Proofs.YtlnnoeicboamgaaDoor
