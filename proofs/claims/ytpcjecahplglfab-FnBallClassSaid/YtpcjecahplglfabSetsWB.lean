/- setsWhere with the test of BallClass$1. Conditions: at most five points. -/
import Derived.Test.YtpcjecahplglfabCsk
import Derived.Test.YtpcjecahplglfabShat
namespace Go.Proofs.Ytpcjecahplglfab
open Go.RowKit Go.Shelf

set_option maxHeartbeats 1600000 in
set_option maxRecDepth 100000 in
theorem setsWhereB (m : Nat) (hm : m ≤ 5) (o1 o2 : Nat) (p : Nat → Bool) (cs : List (Addr × Value)) (w : World) (hcs : CS cs w)
    (HM : Hid (∀ (j : Nat) (W : World), j < 2 ^ m → CS cs W → Calls Try.prog 66 #[.agg #[.int .i64 (m : Int), .slice none 0 0], .int .i64 ((j : Nat) : Int), .pointer (some ⟨o1, 0, none⟩), .pointer (some ⟨o2, 0, none⟩)] W fun e w' => e = .returned (.bool (p j)) ∧ Below W.heap.size W w')) :
    Calls Try.prog 65 #[.agg #[.int .i64 (m : Int), .slice none 0 0], .func (.func 66) #[] #[.pointer (some ⟨o1, 0, none⟩), .pointer (some ⟨o2, 0, none⟩)]] w (RetInts (toI ((List.range (2 ^ m)).filter p)) w) := by
  have HCS := Lib.hid hcs
  have hlo : ∀ q ∈ cs, q.1.block < w.heap.size := hcs.lt
  have HLo := Lib.hid hlo
  have hw := wrap_pow m hm
  have HW := Lib.hid hw.1
  have hw2 := hw.2
  have HP := Lib.hid (show ((2 ^ m : Nat) : Int) = (2 : Int) ^ m by simp)
  have hv : vldB (m : Int) [] = true := vldB_all hm (fun j hj => by simp at hj)
  have HR := Lib.hid (fun w => implValid (m : Int) (.slice none 0 0) [] w ⟨none, 0, 0, 0, rfl, fun h => by simp at h, by simp, fun j hj => by simp at hj⟩)
  rw [hv] at HR
  clear hw hv hcs hlo
  go_enter Try.func65, Try.ntmps65
  go_wp2_with fail
  refine (HR.out _).mono ?_
  rintro e w1 ⟨rfl, hb⟩
  have B1 := Lib.hid ((Box.made (m : Int) (.slice none 0 0) w _).next (by simp) hb)
  have hs1 : w.heap.size < w1.heap.size := by have := hb.size; simp at this; omega
  clear hb
  have c0 := B1.out.at0
  go_wp2_with fail
  clear c0
  go_loopw [5, 13] (fun o i wr => ∃ j : Nat, (j : Int) ≤ wrap64 (2 ^ m) ∧ i = .int .i64 j ∧ (∃ a' c', o = .slice a' ((List.range j).filter p).length c') ∧ Ints (w.heap.size + 1) wr o (toI ((List.range j).filter p)) ∧ Box (m : Int) (.slice none 0 0) w wr ∧ w.heap.size < wr.heap.size) (fun _ i _ => 40 - (intOf i).toNat)
  case atStart => exact ⟨0, by omega, rfl, ⟨none, 0, rfl⟩, Ints.nil _ _, B1.out, hs1⟩
  case round =>
    obtain ⟨j, hj, rfl, ⟨a', c', rfl⟩, hin, hbx, hsz⟩ := hrel
    have HIN := Lib.hid hin
    have HBX := Lib.hid hbx
    clear hin hbx
    by_cases hlt : (j : Int) < wrap64 (2 ^ m)
    · have hj2 : j < 2 ^ m := by have := HW.out; have := HP.out; omega
      have hfl := filt_le p j
      have HQ := Lib.hid (HM.out j wr hj2 (HCS.out.below HBX.out.below HLo.out))
      clear hj2
      have c0 := HBX.out.at0
      have c1 := HBX.out.at1
      by_cases hp : p j = true
      · have HF := Lib.hid (filt_yes hp)
        rw [hp] at HQ
        clear hp
        have HAl := Lib.hid (toI_length ((List.range j).filter p))
        generalize (List.range j).filter p = A at *
        go_wp2_with fail
        refine HQ.out.mono ?_
        rintro e w2 ⟨rfl, hb2⟩
        have B2 := Lib.hid (HBX.out.next hsz hb2)
        have hs2 : w.heap.size < w2.heap.size := Nat.lt_of_lt_of_le hsz hb2.size
        have I2 := Lib.hid (HIN.out.below hb2 (Nat.le_refl _))
        clear hb2 c0 c1
        go_wp2_with (at_builtin; refine wpList_app rfl (.tmp 20) (.tmp 22) rfl (w.heap.size + 1) _ (toI A) rfl (by exact I2.out.alloc _) _ _ _ [(j : Int)] rfl (src_cell (by rw [World.cell?_alloc_at _ _ _ _ rfl]; rfl)) (by rw [HAl.out]; omega) (by simp; omega) ?_; intro a1 c1 w3 hin3 hb3 hg3)
        rw [HAl.out] at hin3
        have B3 := Lib.hid ((B2.out.next hs2 ((Below.refl _ _).alloc (Nat.le_refl _) _)).grown hg3 (fun r hr => (I2.out.lt r hr).1))
        have hs3 : w.heap.size < w3.heap.size := by have := hb3.size; simp at this; omega
        have I3 := Lib.hid hin3
        clear hin3 hb3 hg3
        go_roundw
        case rel => exact ⟨j + 1, by omega, by go_num, ⟨a1, c1, by rw [HF.out, HAl.out]; simp⟩, by rw [HF.out, toI_append, HAl.out]; exact I3.out, B3.out, hs3⟩
        case measure => simp [intOf]; omega
      · rw [Bool.not_eq_true] at hp
        have HF := Lib.hid (filt_no hp)
        rw [hp] at HQ
        clear hp
        generalize (List.range j).filter p = A at *
        go_wp2_with fail
        refine HQ.out.mono ?_
        rintro e w2 ⟨rfl, hb2⟩
        have B2 := Lib.hid (HBX.out.next hsz hb2)
        have hs2 : w.heap.size < w2.heap.size := Nat.lt_of_lt_of_le hsz hb2.size
        have I2 := Lib.hid (HIN.out.below hb2 (Nat.le_refl _))
        clear hb2 c0 c1
        go_wp2_with fail
        go_roundw
        case rel => exact ⟨j + 1, by omega, by go_num, ⟨_, _, by rw [HF.out]⟩, by rw [HF.out]; exact I2.out, B2.out, hs2⟩
        case measure => simp [intOf]; omega
    · have hj2 : j = 2 ^ m := by have := HW.out; have := HP.out; omega
      have HJ := Lib.hid hj2
      clear hj2
      go_wp2_with fail
      go_ret
      rw [← HJ.out]
      exact RetInts.of (HIN.out.mono (by omega)) HBX.out.below

end Go.Proofs.Ytpcjecahplglfab
