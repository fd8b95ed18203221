/- spec.ShatteredSets: the sets for which a test holds, ascending. Conditions: Sets is a slice of ints. -/
import Derived.Test.YtfnlfhgjmnjgaaaShat
namespace Go.Proofs.Ytfnlfhgjmnjgaaa
open Go.RowKit

set_option maxHeartbeats 1600000 in
set_option maxRecDepth 100000 in
theorem specShatAll (m : Nat) (v : Value) (ns : List Nat) (w : World) (hc : Cls m ns) (h : Rd w v (toI ns)) :
    Calls Try.prog 55 #[.agg #[.int .i64 m, v]] w (RetInts (toI ((List.range (2 ^ m)).filter (sht ns))) w) := by
  have H := Lib.hid h
  obtain ⟨a, b, off, cap, rfl, _, _, _⟩ := h
  have hm := hc.pts
  have hl := hc.length
  have HC := Lib.hid hc
  have hp32 := pow_le_32 hm
  have HP := Lib.hid (show ((2 ^ m : Nat) : Int) = (2 : Int) ^ m by simp)
  clear hc
  generalize (2 ^ m : Nat) = M at *
  go_enter Try.func55, Try.ntmps55
  go_wp2_with fail
  go_loopw [3, 4] (fun o i wr => ∃ j : Nat, j ≤ M ∧ i = .int .i64 j ∧ (∃ a' c', o = .slice a' ((List.range j).filter (sht ns)).length c') ∧ Ints (w.heap.size + 1) wr o (toI ((List.range j).filter (sht ns))) ∧ Box m (.slice a (toI ns).length cap) w wr ∧ w.heap.size < wr.heap.size) (fun _ i _ => 40 - (intOf i).toNat)
  case atStart => exact ⟨0, by omega, rfl, ⟨_, _, rfl⟩, Ints.lit' (by simp) (by simp), (Box.made _ _ _ _).next (by simp) (by go_grown), by simp; omega⟩
  case round =>
    obtain ⟨j, hj, rfl, ⟨a', c', rfl⟩, hin, hbx, hsz⟩ := hrel
    have HIN := Lib.hid hin
    have HBX := Lib.hid hbx
    clear hin hbx
    have c0 := HBX.out.at0
    have c1 := HBX.out.at1
    go_wp2_with fail
    refine (power_q m hm _).mono ?_
    rintro e w' ⟨rfl, rfl⟩
    rw [← HP.out]
    by_cases hlt : j < M
    · have hfl := filt_le (sht ns) j
      by_cases hp : sht ns j = true
      · have HF := Lib.hid (filt_yes hp)
        have HP2 := Lib.hid hp
        clear hp
        have HAl := Lib.hid (toI_length ((List.range j).filter (sht ns)))
        generalize (List.range j).filter (sht ns) = A at *
        go_wp2_with fail
        refine (specShatters _ ns j _ HC.out.lt32 (by omega) (by omega) (H.out.below HBX.out.below (Nat.le_refl _))).mono ?_
        rintro e w2 ⟨rfl, hb2⟩
        rw [HP2.out]
        have B2 := Lib.hid (HBX.out.next hsz hb2)
        have hs2 : w.heap.size < w2.heap.size := Nat.lt_of_lt_of_le hsz hb2.size
        have I2 := Lib.hid (HIN.out.below hb2 (Nat.le_refl _))
        clear hb2 c0 c1
        go_wp2_with (at_builtin; refine wpList_app rfl (.tmp 17) (.tmp 19) rfl (w.heap.size + 1) _ (toI A) rfl (by exact I2.out.alloc _) _ _ _ [(j : Int)] rfl (src_cell (by rw [World.cell?_alloc_at _ _ _ _ rfl]; rfl)) (by rw [HAl.out]; omega) (by simp; omega) ?_; intro a1 c1 w3 hin3 hb3 hg3)
        rw [HAl.out] at hin3
        have B3 := Lib.hid ((B2.out.next hs2 ((Below.refl _ _).alloc (Nat.le_refl _) _)).grown hg3 (fun r hr => (I2.out.lt r hr).1))
        have hs3 : w.heap.size < w3.heap.size := by have := hb3.size; simp at this; omega
        have I3 := Lib.hid hin3
        clear hin3 hb3 hg3
        go_roundw
        case rel => exact ⟨j + 1, by omega, by go_num, ⟨a1, c1, by rw [HF.out, HAl.out]; simp⟩, by rw [HF.out, toI_append, HAl.out]; exact I3.out, B3.out, hs3⟩
        case measure => simp [intOf]; omega
      · rw [Bool.not_eq_true] at hp
        have HF := Lib.hid (filt_no hp)
        have HP2 := Lib.hid hp
        clear hp
        generalize (List.range j).filter (sht ns) = A at *
        go_wp2_with fail
        refine (specShatters _ ns j _ HC.out.lt32 (by omega) (by omega) (H.out.below HBX.out.below (Nat.le_refl _))).mono ?_
        rintro e w2 ⟨rfl, hb2⟩
        rw [HP2.out]
        have B2 := Lib.hid (HBX.out.next hsz hb2)
        have hs2 : w.heap.size < w2.heap.size := Nat.lt_of_lt_of_le hsz hb2.size
        have I2 := Lib.hid (HIN.out.below hb2 (Nat.le_refl _))
        clear hb2 c0 c1
        go_wp2_with fail
        go_roundw
        case rel => exact ⟨j + 1, by omega, by go_num, ⟨_, _, by rw [HF.out]⟩, by rw [HF.out]; exact I2.out, B2.out, hs2⟩
        case measure => simp [intOf]; omega
    · obtain rfl : j = M := by omega
      go_wp2_with fail
      go_ret
      exact RetInts.of (HIN.out.mono (by omega)) HBX.out.below

set_option maxHeartbeats 400000 in
theorem specShatteredSets (n : Int) (v : Value) (zs : List Int) (w : World) (h : Rd w v zs) :
    Calls Try.prog 28 #[.agg #[.int .i64 n, v]] w (RetInts (shatL n zs) w) := by
  have H := Lib.hid h
  obtain ⟨a, b, off, cap, rfl, _, _, _⟩ := h
  by_cases hv : vldB n zs = true
  · obtain ⟨m, ns, rfl, rfl, hc⟩ := vldB_cls hv
    have HC := Lib.hid hc
    have HL := Lib.hid (shatL_in hv)
    have HV := Lib.hid hv
    clear hv hc
    go_enter Try.func28, Try.ntmps28
    go_wp2_with fail
    refine (specValid m _ (toI ns) _ (H.out.below (k := w.heap.size) (by go_grown) (Nat.le_refl _))).mono ?_
    rintro e w1 ⟨rfl, hb⟩
    rw [HV.out]
    have B1 := Lib.hid ((Box.made m (.slice a (toI ns).length cap) w _).next (by simp) hb)
    clear hb
    have c0 := B1.out.at0
    have c1 := B1.out.at1
    go_wp2_with fail
    refine (specShatAll m _ ns _ HC.out (H.out.below B1.out.below (Nat.le_refl _))).mono ?_
    intro e w2 h2
    obtain ⟨a2, c2, rfl, hin2, hb2⟩ := RetInts.after B1.out.below h2
    have HI2 := Lib.hid hin2
    have HB2 := Lib.hid hb2
    clear hin2 hb2 h2 c0 c1
    go_wp2_with fail
    go_ret
    rw [HL.out]
    exact ⟨a2, c2, rfl, HI2.out, HB2.out⟩
  · rw [Bool.not_eq_true] at hv
    have HT := Lib.hid (shatL_bad hv)
    have HV := Lib.hid hv
    clear hv
    go_enter Try.func28, Try.ntmps28
    go_wp2_with fail
    refine (specValid n _ zs _ (H.out.below (k := w.heap.size) (by go_grown) (Nat.le_refl _))).mono ?_
    rintro e w1 ⟨rfl, hb⟩
    rw [HV.out]
    have B1 := Lib.hid ((Box.made n (.slice a zs.length cap) w _).next (by simp) hb)
    clear hb
    go_wp2_with fail
    go_ret
    rw [HT.out]
    exact ⟨none, 0, rfl, Ints.nil _ _, B1.out.below⟩

end Go.Proofs.Ytfnlfhgjmnjgaaa
