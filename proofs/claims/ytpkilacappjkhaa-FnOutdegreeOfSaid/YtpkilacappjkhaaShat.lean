/- impl.ShatteredSets: the sets for which a test holds, ascending. Conditions: Sets is a slice of ints. -/
import Derived.Test.YtpkilacappjkhaaZB
namespace Go.Proofs.Ytpkilacappjkhaa
open Go.RowKit

/-- what impl.ShatteredSets answers -/
def shatL (n : Int) (zs : List Int) : List Int := if vldB n zs = true then toI ((List.range (2 ^ n.toNat)).filter (sht (zs.map Int.toNat))) else []
theorem shatL_bad {n : Int} {zs : List Int} (h : vldB n zs = false) : shatL n zs = [] := by simp [shatL, h]
theorem shatL_in {n : Nat} {ns : List Nat} (h : vldB n (toI ns) = true) : shatL n (toI ns) = toI ((List.range (2 ^ n)).filter (sht ns)) := by simp [shatL, h, toNat_toI]
theorem shatL_len (n : Int) (zs : List Int) : (shatL n zs).length ≤ 1048576 := by
  unfold shatL
  split
  · rename_i h
    obtain ⟨m, ns, rfl, rfl, hc⟩ := vldB_cls h
    rw [toI_length, Int.toNat_natCast]
    have := filt_le (sht ((toI ns).map Int.toNat)) (2 ^ m)
    have := pow_le_32 hc.pts
    omega
  · simp

set_option maxHeartbeats 1600000 in
set_option maxRecDepth 100000 in
theorem setsWhereShat (n : Int) (v : Value) (zs : List Int) (w : World) (h : Rd w v zs) :
    Calls Try.prog 35 #[.agg #[.int .i64 n, v], .func (.func 36) #[] #[]] w (RetInts (shatL n zs) w) := by
  have H := Lib.hid h
  obtain ⟨a, b, off, cap, rfl, _, _, _⟩ := h
  by_cases hv : vldB n zs = true
  · obtain ⟨m, ns, rfl, rfl, hc⟩ := vldB_cls hv
    have hm := hc.pts
    have hw := wrap_pow m hm
    have HW := Lib.hid hw.1
    have hw2 := hw.2
    have HP := Lib.hid (show ((2 ^ m : Nat) : Int) = (2 : Int) ^ m by simp)
    have HL := Lib.hid (shatL_in hv)
    have HB := Lib.hid (fun (t : Nat) (ht : setB m (t : Int) = true) => shatB_in hv ht)
    have HV := Lib.hid hv
    clear hw hv hc
    go_enter Try.func35, Try.ntmps35
    go_wp2_with fail
    refine (implValid m _ (toI ns) _ (H.out.below (k := w.heap.size) (by go_grown) (Nat.le_refl _))).mono ?_
    rintro e w1 ⟨rfl, hb⟩
    rw [HV.out]
    have B1 := Lib.hid ((Box.made m (.slice a (toI ns).length cap) w _).next (by simp) hb)
    have hs1 : w.heap.size < w1.heap.size := by have := hb.size; simp at this; omega
    clear hb
    have c0 := B1.out.at0
    go_wp2_with fail
    clear c0
    go_loopw [5, 13] (fun o i wr => ∃ j : Nat, (j : Int) ≤ wrap64 (2 ^ m) ∧ i = .int .i64 j ∧ (∃ a' c', o = .slice a' ((List.range j).filter (sht ns)).length c') ∧ Ints (w.heap.size + 1) wr o (toI ((List.range j).filter (sht ns))) ∧ Box m (.slice a (toI ns).length cap) w wr ∧ w.heap.size < wr.heap.size) (fun _ i _ => 40 - (intOf i).toNat)
    case atStart => exact ⟨0, by omega, rfl, ⟨none, 0, rfl⟩, Ints.nil _ _, B1.out, hs1⟩
    case round =>
      obtain ⟨j, hj, rfl, ⟨a', c', rfl⟩, hin, hbx, hsz⟩ := hrel
      have HIN := Lib.hid hin
      have HBX := Lib.hid hbx
      clear hin hbx
      by_cases hlt : (j : Int) < wrap64 (2 ^ m)
      · have hsj : setB m (j : Int) = true := by have := HW.out; simp [setB]; omega
        have hfl := filt_le (sht ns) j
        have HQ := Lib.hid (HB.out j hsj)
        clear hsj
        have c0 := HBX.out.at0
        have c1 := HBX.out.at1
        by_cases hp : sht ns j = true
        · have HF := Lib.hid (filt_yes hp)
          have HP2 := Lib.hid hp
          clear hp
          have HAl := Lib.hid (toI_length ((List.range j).filter (sht ns)))
          generalize (List.range j).filter (sht ns) = A at *
          go_wp2_with fail
          refine (implIsShattered m _ (toI ns) (j : Int) _ (H.out.below HBX.out.below (Nat.le_refl _))).mono ?_
          rintro e w2 ⟨rfl, hb2⟩
          rw [HQ.out, HP2.out]
          have B2 := Lib.hid (HBX.out.next hsz hb2)
          have hs2 : w.heap.size < w2.heap.size := Nat.lt_of_lt_of_le hsz hb2.size
          have I2 := Lib.hid (HIN.out.below hb2 (Nat.le_refl _))
          clear hb2 c0 c1
          go_wp2_with (at_builtin; refine wpList_app rfl (.tmp 20) (.tmp 22) rfl (w.heap.size + 1) _ (toI A) rfl (by exact I2.out.alloc _) _ _ _ [(j : Int)] rfl (src_cell (by rw [World.cell?_alloc_at _ _ _ _ rfl]; rfl)) (by rw [HAl.out]; omega) (by simp; omega) ?_; intro a1 c1 w3 hin3 hb3 hg3)
          rw [HAl.out] at hin3
          have B3 := Lib.hid ((B2.out.next hs2 ((Below.refl _ _).alloc (Nat.le_refl _) _)).grown hg3 (fun r hr => (I2.out.lt r hr).1))
          have hs3 : w.heap.size < w3.heap.size := by have := hb3.size; simp at this; omega
          have I3 := Lib.hid hin3
          clear hin3 hb3 hg3
          go_roundw
          case rel => exact ⟨j + 1, by omega, by go_num, ⟨a1, c1, by rw [HF.out, HAl.out]; simp⟩, by rw [HF.out, toI_append, HAl.out]; exact I3.out, B3.out, hs3⟩
          case measure => simp [intOf]; omega
        · rw [Bool.not_eq_true] at hp
          have HF := Lib.hid (filt_no hp)
          have HP2 := Lib.hid hp
          clear hp
          generalize (List.range j).filter (sht ns) = A at *
          go_wp2_with fail
          refine (implIsShattered m _ (toI ns) (j : Int) _ (H.out.below HBX.out.below (Nat.le_refl _))).mono ?_
          rintro e w2 ⟨rfl, hb2⟩
          rw [HQ.out, HP2.out]
          have B2 := Lib.hid (HBX.out.next hsz hb2)
          have hs2 : w.heap.size < w2.heap.size := Nat.lt_of_lt_of_le hsz hb2.size
          have I2 := Lib.hid (HIN.out.below hb2 (Nat.le_refl _))
          clear hb2 c0 c1
          go_wp2_with fail
          go_roundw
          case rel => exact ⟨j + 1, by omega, by go_num, ⟨_, _, by rw [HF.out]⟩, by rw [HF.out]; exact I2.out, B2.out, hs2⟩
          case measure => simp [intOf]; omega
      · have hj2 : j = 2 ^ m := by have := HW.out; have := HP.out; omega
        have HJ := Lib.hid hj2
        clear hj2
        go_wp2_with fail
        go_ret
        rw [HL.out, ← HJ.out]
        exact RetInts.of (HIN.out.mono (by omega)) HBX.out.below
  · rw [Bool.not_eq_true] at hv
    have HT := Lib.hid (shatL_bad hv)
    have HV := Lib.hid hv
    clear hv
    go_enter Try.func35, Try.ntmps35
    go_wp2_with fail
    refine (implValid n _ zs _ (H.out.below (k := w.heap.size) (by go_grown) (Nat.le_refl _))).mono ?_
    rintro e w1 ⟨rfl, hb⟩
    rw [HV.out]
    have B1 := Lib.hid ((Box.made n (.slice a zs.length cap) w _).next (by simp) hb)
    clear hb
    go_wp2_with fail
    go_ret
    rw [HT.out]
    exact ⟨none, 0, rfl, Ints.nil _ _, B1.out.below⟩

set_option maxHeartbeats 400000 in
theorem implShatteredSets (n : Int) (v : Value) (zs : List Int) (w : World) (h : Rd w v zs) :
    Calls Try.prog 21 #[.agg #[.int .i64 n, v]] w (RetInts (shatL n zs) w) := by
  have H := Lib.hid h
  obtain ⟨a, b, off, cap, rfl, _, _, _⟩ := h
  go_enter Try.func21, Try.ntmps21
  go_wp2_with fail
  refine (setsWhereShat n _ zs _ (H.out.below (k := w.heap.size) (by go_grown) (Nat.le_refl _))).mono ?_
  intro e w2 h2
  obtain ⟨a2, c2, rfl, hin2, hb2⟩ := RetInts.after (w := w) (by go_grown) h2
  have HI2 := Lib.hid hin2
  have HB2 := Lib.hid hb2
  clear hin2 hb2 h2
  go_wp2_with fail
  go_ret
  exact ⟨a2, c2, rfl, HI2.out, HB2.out⟩

end Go.Proofs.Ytpkilacappjkhaa
