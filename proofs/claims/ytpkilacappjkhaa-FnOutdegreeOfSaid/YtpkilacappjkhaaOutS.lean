/- OutdegreeOf, the model's. Conditions: Sets is a slice of ints. -/
import Derived.Test.YtpkilacappjkhaaEdgS
import Derived.Test.YtpkilacappjkhaaOutY
namespace Go.Proofs.Ytpkilacappjkhaa
open Go.RowKit

theorem vio_le {ns : List Nat} (hl : ns.length ≤ 32) {k : Nat} (h : ∀ j, j < k → Vio ns j) : k ≤ 1024 := by
  rcases Nat.eq_zero_or_pos k with e | e
  · omega
  · have h1 := (h (k - 1) (by omega)).lt
    have h2 : ns.length * ns.length ≤ 32 * 32 := Nat.mul_le_mul hl hl
    omega

set_option maxHeartbeats 3200000 in
set_option maxRecDepth 100000 in
theorem specOutIn (m : Nat) (ns : List Nat) (v : Value) (w : World) (hc : Cls m ns) (hv : vldB m (toI ns) = true) (h : Rd w v (toI ns)) :
    Calls Try.prog 7 #[.agg #[.int .i64 m, v]] w fun e w' => ∃ k : Nat, e = .returned (.int .i64 (k : Int)) ∧ Odg ns k ∧ Below w.heap.size w w' := by
  have H := Lib.hid h
  obtain ⟨a, b, off, cap, rfl, h1, h3, h5⟩ := h
  rw [toI_length] at H h1 h3 h5 ⊢
  have hl := hc.length
  have HV := Lib.hid (fun w h => specValid m (.slice a ns.length cap) (toI ns) w h)
  rw [hv] at HV
  have HE := Lib.hid (fun w h => specEdges (.slice a ns.length cap) ns w hc.length hc.lt32 h)
  have HM := Lib.hid (fun most pv w hm h hp => specMayTurn ns most (.slice a ns.length cap) pv w hc.asc hc.length hm h hp)
  have B0 := Lib.hid (Box.made m (.slice a ns.length cap) w 25)
  clear h1 h5 hv hc
  go_enter Try.func7, Try.ntmps7
  go_wp2_with fail
  refine (HV.out _ (H.out.below (k := w.heap.size) (by go_grown) (Nat.le_refl _))).mono ?_
  rintro e w1 ⟨rfl, hb⟩
  have B1 := Lib.hid (B0.out.next (by simp) hb)
  have hs1 : w.heap.size < w1.heap.size := by have := hb.size; simp at this; omega
  clear hb B0
  have c0 := B1.out.at0
  have c1 := B1.out.at1
  go_wp2_with fail
  refine (HE.out _ (H.out.below B1.out.below (Nat.le_refl _))).mono ?_
  rintro e w2 ⟨a2, cap2, rfl, hin2, hb2⟩
  have B2 := Lib.hid (B1.out.next hs1 hb2)
  have P2 := Lib.hid hin2.rd
  have hz2 := hb2.size
  obtain ⟨M, hM⟩ : ∃ M, M = (egTo ns ns.length).length := ⟨_, rfl⟩
  rw [← hM] at P2 ⊢
  clear hb2 hin2 c0 c1 hM
  go_wp2_with fail
  go_loopw [4] (fun i wr => ∃ k : Nat, i = .int .i64 (k : Int) ∧ (∀ j, j < k → Vio ns j) ∧ Below w2.heap.size w2 wr) (fun i _ => 1100 - (intOf i).toNat)
  case atStart => exact ⟨0, rfl, fun j hj => absurd hj (Nat.not_lt_zero j), Below.refl _ _⟩
  case round =>
    obtain ⟨k, rfl, hV, hbe⟩ := hrel
    have hk := vio_le hl hV
    have VR := Lib.hid hV
    have BE := Lib.hid hbe
    have B3 := Lib.hid (B2.out.next (by omega) hbe)
    have hzr := hbe.size
    clear hV hbe
    have c0 := B3.out.at0
    have c1 := B3.out.at1
    go_wp2_with fail
    refine (HM.out k _ wr (by omega) (H.out.below B3.out.below (Nat.le_refl _)) (P2.out.below BE.out (Nat.le_refl _))).mono ?_
    rintro e w4 (⟨rfl, hb4, hvio⟩ | ⟨rfl, hb4, hasg⟩)
    · have V2 := Lib.hid (show ∀ j, j < k + 1 → Vio ns j from fun j hj => by
        by_cases e : j = k
        · subst e; exact hvio
        · exact VR.out j (by omega))
      have BE2 := Lib.hid (BE.out.trans (hb4.mono hzr))
      clear hb4 hvio c0 c1
      go_wp2_with fail
      go_roundw
      case rel => exact ⟨k + 1, by go_num, V2.out, BE2.out⟩
      case measure => simp [intOf]; omega
    · have OD := Lib.hid (show Odg ns k from ⟨hasg, VR.out⟩)
      have B4 := Lib.hid (B3.out.below.trans (hb4.mono (by have := B3.out.below.size; omega)))
      clear hb4 hasg c0 c1
      go_wp2_with fail
      go_ret
      exact ⟨k, rfl, OD.out, B4.out⟩

set_option maxHeartbeats 1600000 in
set_option maxRecDepth 100000 in
theorem specOutNo (n : Int) (v : Value) (zs : List Int) (w : World) (hv : vldB n zs = false) (h : Rd w v zs) :
    Calls Try.prog 7 #[.agg #[.int .i64 n, v]] w fun e w' => e = .returned (.int .i64 (-1)) ∧ Below w.heap.size w w' := by
  have H := Lib.hid h
  obtain ⟨a, b, off, cap, rfl, _, _, _⟩ := h
  have HV := Lib.hid (fun w h => specValid n (.slice a zs.length cap) zs w h)
  rw [hv] at HV
  have B0 := Lib.hid (Box.made n (.slice a zs.length cap) w 25)
  generalize hL : zs.length = L at *
  clear hv hL
  go_enter Try.func7, Try.ntmps7
  go_wp2_with fail
  refine (HV.out _ (H.out.below (k := w.heap.size) (by go_grown) (Nat.le_refl _))).mono ?_
  rintro e w1 ⟨rfl, hb⟩
  have B1 := Lib.hid (B0.out.next (by simp) hb)
  clear hb B0
  go_wp2_with fail
  go_ret
  exact ⟨rfl, B1.out.below⟩

end Go.Proofs.Ytpkilacappjkhaa
