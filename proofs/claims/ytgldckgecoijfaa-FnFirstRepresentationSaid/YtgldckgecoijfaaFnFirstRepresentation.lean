/- FnFirstRepresentation's walk: first plans are plans. Conditions: the code is a slice of bytes. -/
import Derived.Test.YtgldckgecoijfaaDrawsFr
import Derived.Test.YtgldckgecoijfaaFrpM
import Derived.Test.YtgldckgecoijfaaRepH
import Derived.Test.YtgldckgecoijfaaZJ
import Derived.Test.YtgldckgecoijfaaZK
namespace Go.Proofs.Ytgldckgecoijfaa
open Go.RowKit

theorem eqB_self (xs : List Int) : eqB xs xs = true := eqB_of rfl (fun _ _ => rfl)

set_option maxHeartbeats 6400000 in
set_option maxRecDepth 100000 in
theorem walkFnFirstRepresentation (a : Option Addr) (b off n cap : Nat) (w : World) (hc : n ≤ cap) (hcap : cap ≤ maxLen) (h : Byt w a b off n) :
    Calls Try.prog 10 #[.slice a n cap] w fun e w' => e = .returned (.bool true) ∧ Below w.heap.size w w' := by
  by_cases hn : n ≤ 1048576
  · have HD := Lib.hid (dDrawFirstRepresentation a b off n cap w hc hn hcap h)
    clear h
    go_enter Try.func10, Try.ntmps10
    go_wp2_with fail
    refine HD.out.mono ?_
    rintro e w1 ⟨N, zs, s, hbd, a1, c1, rfl, hin, hb⟩
    generalize hL : zs.length = L at *
    have X := Lib.hid (Bx.new N (.slice a1 L c1) w1)
    have I1 := Lib.hid ((hin.mono (Nat.zero_le _)).alloc (Obj.cells #[.int .i64 N, .slice a1 L c1] 25))
    have B := Lib.hid (hb.alloc hb.size (Obj.cells #[.int .i64 N, .slice a1 L c1] 25))
    have HZ2 := Lib.hid (show (w1.alloc (Obj.cells #[.int .i64 N, .slice a1 L c1] 25)).heap.size = w1.heap.size + 1 by simp)
    have hz1 := hb.size
    clear hin hb HD
    go_wp2_with fail
    generalize (w1.alloc (Obj.cells #[.int .i64 N, .slice a1 L c1] 25)) = w2 at *
    have hz2 := HZ2.out
    generalize ho : w1.heap.size = o at *
    obtain ⟨hN0, hN1, hL34, hs0, hs1⟩ := hbd
    cases hk : frpB N zs s with
    | false =>
      have HI := Lib.hid (fun v w h => implFirstRepresentation N v zs s w h)
      have HS := Lib.hid (fun v w h => specFirstRepresentation N v zs s w h)
      rw [frp_none hk, hk] at HI HS
      clear hk
      refine (HI.out _ _ I1.out.rd).mono ?_
      rintro e w3 ⟨a3, c3, rfl, hin3, hb3⟩
      have hz3 := hb3.size
      replace X := Lib.hid (X.out.next hb3 X.out.lt)
      replace I1 := Lib.hid (I1.out.below hb3 (Nat.le_refl _))
      replace B := Lib.hid (B.out.trans (hb3.mono B.out.size))
      have IA := Lib.hid (hin3.mono (Nat.zero_le _))
      clear hin3 hb3
      have x0 := X.out.out.at0
      have x1 := X.out.out.at1
      go_wp2_with fail
      clear x0 x1
      refine (HS.out _ _ I1.out.rd).mono ?_
      rintro e w4 ⟨a4, c4, rfl, hin4, hb4⟩
      have hz4 := hb4.size
      replace X := Lib.hid (X.out.next hb4 X.out.lt)
      replace I1 := Lib.hid (I1.out.below hb4 (Nat.le_refl _))
      replace IA := Lib.hid (IA.out.below hb4 (Nat.le_refl _))
      replace B := Lib.hid (B.out.trans (hb4.mono B.out.size))
      have IB := Lib.hid (hin4.mono (Nat.zero_le _))
      clear hin4 hb4
      have x0 := X.out.out.at0
      have x1 := X.out.out.at1
      go_wp2_with fail
      clear x0 x1
      have HQ1 := Lib.hid (lawsEqualInts _ _ [] [] _ IA.out.rd IB.out.rd)
      rw [eqB_self] at HQ1
      refine (HQ1.out).mono ?_
      rintro e w5 ⟨rfl, hd5⟩
      have hb5 : Below w4.heap.size w4 w5 := by obtain ⟨d, rfl⟩ := hd5; exact below_drewN (Below.refl _ _) d
      clear hd5
      have hz5 := hb5.size
      replace X := Lib.hid (X.out.next hb5 X.out.lt)
      replace I1 := Lib.hid (I1.out.below hb5 (Nat.le_refl _))
      replace IA := Lib.hid (IA.out.below hb5 (Nat.le_refl _))
      replace IB := Lib.hid (IB.out.below hb5 (Nat.le_refl _))
      replace B := Lib.hid (B.out.trans (hb5.mono B.out.size))
      clear hb5
      have x0 := X.out.out.at0
      have x1 := X.out.out.at1
      go_wp2_with fail
      clear x0 x1
      have HQ2 := Lib.hid (lawsEqualInts _ _ [] [] _ IA.out.rd IB.out.rd)
      rw [eqB_self] at HQ2
      refine (HQ2.out).mono ?_
      rintro e w6 ⟨rfl, hd6⟩
      have hb6 : Below w5.heap.size w5 w6 := by obtain ⟨d, rfl⟩ := hd6; exact below_drewN (Below.refl _ _) d
      clear hd6
      have hz6 := hb6.size
      replace X := Lib.hid (X.out.next hb6 X.out.lt)
      replace I1 := Lib.hid (I1.out.below hb6 (Nat.le_refl _))
      replace IA := Lib.hid (IA.out.below hb6 (Nat.le_refl _))
      replace IB := Lib.hid (IB.out.below hb6 (Nat.le_refl _))
      replace B := Lib.hid (B.out.trans (hb6.mono B.out.size))
      clear hb6
      have x0 := X.out.out.at0
      have x1 := X.out.out.at1
      go_wp2_with fail
      clear x0 x1
      go_ret
      exact ⟨rfl, by first | exact B.out | exact B.out.drew⟩
    | true =>
      obtain ⟨m, ns, A, rfl, rfl, hcl, hv, hl7, hA⟩ := frp_some hk
      have hL2 : ns.length = L := by rw [← hL, toI_length]
      obtain ⟨g1, g2, g3⟩ := fnd_plan hcl hA
      have HI := Lib.hid (fun v w h => implFirstRepresentation (m : Int) v (toI ns) s w h)
      have HS := Lib.hid (fun v w h => specFirstRepresentation (m : Int) v (toI ns) s w h)
      rw [hk, show frpL (m : Int) (toI ns) s = toI A by rw [frpL, frpO_in hv hl7, hA]; rfl] at HI HS
      have HM := Lib.hid (fun v w h => implFirstRepresentation (m : Int) v (toI ns) (s + 1) w h)
      rw [show frpB (m : Int) (toI ns) (s + 1) = true by rw [frpB, frpO_in hv hl7]; exact fnd_mono (p := s) (show s ≤ s + 1 by omega) _ _ (by rw [hA]; rfl)] at HM
      have HP := Lib.hid (fun v u w h hu => implIsRepresentation (m : Int) v u (toI ns) (toI A) w h hu)
      rw [show repB (m : Int) (toI ns) (toI A) = true by rw [repB_in hv, toI_length, g1, g3, decide_eq_true rfl]; rfl] at HP
      have hlm := frpL_len (m : Int) (toI ns) (s + 1)
      generalize frpL (m : Int) (toI ns) (s + 1) = M at *
      have hp5 := pow_le_32 hcl.pts
      have hA7 : A.length ≤ 7 := by omega
      have HSm := Lib.hid (show ∀ x ∈ A, x < 32 ∧ ((pc x : Nat) : Int) ≤ s from fun x hx => ⟨Nat.lt_of_lt_of_le (g2 x hx).1 hp5, (g2 x hx).2⟩)
      have HALl := Lib.hid (toI_length A)
      have hw1 : IntKind.i64.wrap (s + 1) = s + 1 := by rw [IntKind.wrap_i64]; omega
      clear g1 g2 g3 hA hv hcl hk hp5 hl7
      refine (HI.out _ _ I1.out.rd).mono ?_
      rintro e w3 ⟨a3, c3, rfl, hin3, hb3⟩
      rw [toI_length] at hin3 ⊢
      have hz3 := hb3.size
      replace X := Lib.hid (X.out.next hb3 X.out.lt)
      replace I1 := Lib.hid (I1.out.below hb3 (Nat.le_refl _))
      replace B := Lib.hid (B.out.trans (hb3.mono B.out.size))
      have IA := Lib.hid (hin3.mono (Nat.zero_le _))
      clear hin3 hb3
      have x0 := X.out.out.at0
      have x1 := X.out.out.at1
      go_wp2_with fail
      clear x0 x1
      refine (HS.out _ _ I1.out.rd).mono ?_
      rintro e w4 ⟨a4, c4, rfl, hin4, hb4⟩
      rw [toI_length] at hin4 ⊢
      have hz4 := hb4.size
      replace X := Lib.hid (X.out.next hb4 X.out.lt)
      replace I1 := Lib.hid (I1.out.below hb4 (Nat.le_refl _))
      replace IA := Lib.hid (IA.out.below hb4 (Nat.le_refl _))
      replace B := Lib.hid (B.out.trans (hb4.mono B.out.size))
      have IB := Lib.hid (hin4.mono (Nat.zero_le _))
      clear hin4 hb4
      have x0 := X.out.out.at0
      have x1 := X.out.out.at1
      go_wp2_with fail
      clear x0 x1
      have HQ := Lib.hid (lawsEqualInts _ _ (toI A) (toI A) _ IA.out.rd IB.out.rd)
      rw [eqB_self] at HQ
      refine (HQ.out).mono ?_
      rintro e w5 ⟨rfl, hd5⟩
      have hb5 : Below w4.heap.size w4 w5 := by obtain ⟨d, rfl⟩ := hd5; exact below_drewN (Below.refl _ _) d
      clear hd5
      have hz5 := hb5.size
      replace X := Lib.hid (X.out.next hb5 X.out.lt)
      replace I1 := Lib.hid (I1.out.below hb5 (Nat.le_refl _))
      replace IA := Lib.hid (IA.out.below hb5 (Nat.le_refl _))
      replace IB := Lib.hid (IB.out.below hb5 (Nat.le_refl _))
      replace B := Lib.hid (B.out.trans (hb5.mono B.out.size))
      clear hb5
      obtain ⟨ar, br, offr, capr, er, h1, h3, h5⟩ := IA.out.rd
      simp only [Value.slice.injEq] at er
      obtain ⟨rfl, -, rfl⟩ := er
      rw [toI_length] at h1 h3 h5
      have H1 := Lib.hid h1
      have H5 := Lib.hid h5
      clear h1 h5
      have x0 := X.out.out.at0
      have x1 := X.out.out.at1
      go_wp2_with fail
      clear x0 x1
      go_loopw [9] (fun i wr => ∃ j : Nat, j ≤ A.length ∧ i = .int .i64 j ∧ Below w5.heap.size w5 wr) (fun i _ => A.length - (intOf i).toNat)
      case atStart => exact ⟨0, Nat.zero_le _, rfl, Below.refl _ _⟩
      case round =>
        obtain ⟨j, hj, rfl, hbe⟩ := hrel
        have HBE := Lib.hid hbe
        have hzr := hbe.size
        replace X := Lib.hid (X.out.next hbe (by omega))
        replace I1 := Lib.hid (I1.out.below hbe (Nat.le_refl _))
        replace IA := Lib.hid (IA.out.below hbe (Nat.le_refl _))
        replace B := Lib.hid (B.out.trans (hbe.mono (by omega)))
        by_cases hlt : j < A.length
        · obtain ⟨rfl, hbl⟩ := H1.out (by omega)
          have hcx := (hbe.cell (p := ⟨br, offr + j, none⟩) hbl).trans (H5.out j hlt)
          clear hbe
          rw [toI_getD] at hcx
          obtain ⟨hx32, hxs⟩ := HSm.out _ (getD_of_lt hlt)
          generalize A.getD j 0 = x at *
          have hjI : (j : Int) < (A.length : Int) := by omega
          have HSz := Lib.hid (fun w => lawsSize x hx32 w)
          generalize pc x = z at *
          have hzI : ¬ s < (z : Int) := by omega
          have hzd : decide (s < (z : Int)) = false := decide_eq_false hzI
          go_wp2_with fail
          refine (HSz.out _).mono ?_
          rintro e w9 ⟨rfl, hw9⟩
          subst w9
          go_wp2_with fail
          go_roundw
          case rel => exact ⟨j + 1, by omega, by go_num, HBE.out⟩
          case measure => simp [intOf]; omega
        · clear hbe
          obtain ⟨w6, hwr⟩ : ∃ w6, w6 = wr := ⟨_, rfl⟩
          subst hwr
          have x0 := X.out.out.at0
          have x1 := X.out.out.at1
          go_wp2_with fail
          clear x0 x1
          refine (HM.out _ _ I1.out.rd).mono ?_
          rintro e w7 ⟨a7, c7, rfl, hin7, hb7⟩
          have hz7 := hb7.size
          replace X := Lib.hid (X.out.next hb7 X.out.lt)
          replace I1 := Lib.hid (I1.out.below hb7 (Nat.le_refl _))
          replace IA := Lib.hid (IA.out.below hb7 (Nat.le_refl _))
          replace B := Lib.hid (B.out.trans (hb7.mono B.out.size))
          have IM := Lib.hid (hin7.mono (Nat.zero_le _))
          clear hin7 hb7
          have x0 := X.out.out.at0
          have x1 := X.out.out.at1
          go_wp2_with fail
          clear x0 x1
          refine (HP.out _ _ _ I1.out.rd IA.out.rd).mono ?_
          rintro e w8 ⟨rfl, hb8⟩
          have hz8 := hb8.size
          replace X := Lib.hid (X.out.next hb8 X.out.lt)
          replace I1 := Lib.hid (I1.out.below hb8 (Nat.le_refl _))
          replace IA := Lib.hid (IA.out.below hb8 (Nat.le_refl _))
          replace IM := Lib.hid (IM.out.below hb8 (Nat.le_refl _))
          replace B := Lib.hid (B.out.trans (hb8.mono B.out.size))
          clear hb8
          have x0 := X.out.out.at0
          have x1 := X.out.out.at1
          go_wp2_with fail
          clear x0 x1
          go_ret
          exact ⟨rfl, by first | exact B.out | exact B.out.drew⟩
  · go_enter Try.func10, Try.ntmps10
    go_wp2_with fail
    go_ret
    exact ⟨rfl, Below.refl _ _⟩

end Go.Proofs.Ytgldckgecoijfaa
