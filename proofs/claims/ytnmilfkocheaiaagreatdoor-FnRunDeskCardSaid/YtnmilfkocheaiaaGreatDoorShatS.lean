/- spec.ShatteredSets: the sets for which a test holds, ascending. Conditions: Sets is a slice of ints. -/
import Derived.Test.YtnmilfkocheaiaaGreatDoorShat
namespace Go.Proofs.YtnmilfkocheaiaaGreatDoor
open Go.RowKit

set_option maxHeartbeats 1600000 in
set_option maxRecDepth 100000 in
theorem specShatAll (m : Nat) (v : Value) (ns : List Nat) (w : World) (hc : Cls m ns) (h : Rd w v (toI ns)) :
    Calls Tryz.prog 27 #[.agg #[.int .i64 m, v]] w (RetInts (toI ((List.range (2 ^ m)).filter (sht ns))) w) := by
  have H := Lib.hid h
  obtain ⟨a, b, off, cap, rfl, _, _, _⟩ := h
  have hm := hc.pts
  have hl := hc.length
  have HC := Lib.hid hc
  have hp32 := pow_le_32 hm
  have HP := Lib.hid (show ((2 ^ m : Nat) : Int) = (2 : Int) ^ m by simp)
  clear hc
  generalize (2 ^ m : Nat) = M at *
  go_enter Tryz.func27, Tryz.ntmps27
  go_wp2_with fail
  go_loopw [3, 4] (fun o i wr => ∃ j : Nat, j ≤ M ∧ i = .int .i64 j ∧ (∃ a' c', o = .slice a' ((List.range j).filter (sht ns)).length c') ∧ Ints (w.heap.size + 1) wr o (toI ((List.range j).filter (sht ns))) ∧ Box m (.slice a (toI ns).length cap) w wr ∧ w.heap.size < wr.heap.size) (fun _ i _ => 40 - (intOf i).toNat)
  case atStart => exact ⟨0, by omega, rfl, ⟨_, _, rfl⟩, Ints.lit' (by simp) (by simp), (Box.made _ _ _ _).next (by simp) (by go_grown), by simp; omega⟩
  case round =>
    obtain ⟨j, hj, rfl, ⟨a', c', rfl⟩, hin, hbx, hsz⟩ := hrel
    have HIN := Lib.hid hin
    have HBX := Lib.hid hbx
    clear hin hbx
    have c0 := HBX.out.at0
    have c1 := HBX.out.at1
    go_wp2_with fail
    refine (power_q m hm _).mono ?_
    rintro e w' ⟨rfl, rfl⟩
    rw [← HP.out]
    by_cases hlt : j < M
    · have hfl := filt_le (sht ns) j
      by_cases hp : sht ns j = true
      · have HF := Lib.hid (filt_yes hp)
        have HP2 := Lib.hid hp
        clear hp
        have HAl := Lib.hid (toI_length ((List.range j).filter (sht ns)))
        generalize (List.range j).filter (sht ns) = A at *
        go_wp2_with fail
        refine (specShatters _ ns j _ HC.out.lt32 (by omega) (by omega) (H.out.below HBX.out.below (Nat.le_refl _))).mono ?_
        rintro e w2 ⟨rfl, hb2⟩
        rw [HP2.out]
        have B2 := Lib.hid (HBX.out.next hsz hb2)
        have hs2 : w.heap.size < w2.heap.size := Nat.lt_of_lt_of_le hsz hb2.size
        have I2 := Lib.hid (HIN.out.below hb2 (Nat.le_refl _))
        clear hb2 c0 c1
        go_wp2_with (at_builtin; refine wpList_app rfl (.tmp 17) (.tmp 19) rfl (w.heap.size + 1) _ (toI A) rfl (by exact I2.out.alloc _) _ _ _ [(j : Int)] rfl (src_cell (by rw [World.cell?_alloc_at _ _ _ _ rfl]; rfl)) (by rw [HAl.out]; omega) (by simp; omega) ?_; intro a1 c1 w3 hin3 hb3 hg3)
        rw [HAl.out] at hin3
        have B3 := Lib.hid ((B2.out.next hs2 ((Below.refl _ _).alloc (Nat.le_refl _) _)).grown hg3 (fun r hr => (I2.out.lt r hr).1))
        have hs3 : w.heap.size < w3.heap.size := by have := hb3.size; simp at this; omega
        have I3 := Lib.hid hin3
        clear hin3 hb3 hg3
        go_roundw
        case rel => exact ⟨j + 1, by omega, by go_num, ⟨a1, c1, by rw [HF.out, HAl.out]; simp⟩, by rw [HF.out, toI_append, HAl.out]; exact I3.out, B3.out, hs3⟩
        case measure => simp [intOf]; omega
      · rw [Bool.not_eq_true] at hp
        have HF := Lib.hid (filt_no hp)
        have HP2 := Lib.hid hp
        clear hp
        generalize (List.range j).filter (sht ns) = A at *
        go_wp2_with fail
        refine (specShatters _ ns j _ HC.out.lt32 (by omega) (by omega) (H.out.below HBX.out.below (Nat.le_refl _))).mono ?_
        rintro e w2 ⟨rfl, hb2⟩
        rw [HP2.out]
        have B2 := Lib.hid (HBX.out.next hsz hb2)
        have hs2 : w.heap.size < w2.heap.size := Nat.lt_of_lt_of_le hsz hb2.size
        have I2 := Lib.hid (HIN.out.below hb2 (Nat.le_refl _))
        clear hb2 c0 c1
        go_wp2_with fail
        go_roundw
        case rel => exact ⟨j + 1, by omega, by go_num, ⟨_, _, by rw [HF.out]⟩, by rw [HF.out]; exact I2.out, B2.out, hs2⟩
        case measure => simp [intOf]; omega
    · obtain rfl : j = M := by omega
      go_wp2_with fail
      go_ret
      exact RetInts.of (HIN.out.mono (by omega)) HBX.out.below


end Go.Proofs.YtnmilfkocheaiaaGreatDoor
