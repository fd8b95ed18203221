/- FnRepresentationNumber's walk: plans need no more points than layers. Conditions: the code is a slice of bytes. -/
import Derived.Test.YtnoppclajhfnjabDoorDrawsRn
import Derived.Test.YtnoppclajhfnjabDoorRecI
import Derived.Test.YtnoppclajhfnjabDoorRnM
import Derived.Test.YtnoppclajhfnjabDoorZJ
import Derived.Test.YtnoppclajhfnjabDoorZK
namespace Go.Proofs.YtnoppclajhfnjabDoor
open Go.RowKit

theorem eqB_self (xs : List Int) : eqB xs xs = true := eqB_of rfl (fun _ _ => rfl)

set_option maxHeartbeats 6400000 in
set_option maxRecDepth 100000 in
theorem walkFnRepresentationNumber (a : Option Addr) (b off n cap : Nat) (w : World) (hc : n ≤ cap) (hcap : cap ≤ maxLen) (h : Byt w a b off n) (hsw : SW w) :
    Calls Tryd.prog 7 #[.slice a n cap] w fun e w' => e = .returned (.bool true) ∧ Below w.heap.size w w' := by
  have HSW := Lib.hid hsw
  clear hsw
  by_cases hn : n ≤ 1048576
  · have HD := Lib.hid (dDrawRepresentationNumber a b off n cap w hc hn hcap h)
    clear h
    go_enter Tryd.func7, Tryd.ntmps7
    go_wp2_with fail
    refine HD.out.mono ?_
    rintro e w1 ⟨N, zs, hbd, a1, c1, rfl, hin, hb⟩
    generalize hL : zs.length = L at *
    have X := Lib.hid (Bx.new N (.slice a1 L c1) w1)
    have I1 := Lib.hid ((hin.mono (Nat.zero_le _)).alloc (Obj.cells #[.int .i64 N, .slice a1 L c1] 25))
    have B := Lib.hid (hb.alloc hb.size (Obj.cells #[.int .i64 N, .slice a1 L c1] 25))
    have HZ2 := Lib.hid (show (w1.alloc (Obj.cells #[.int .i64 N, .slice a1 L c1] 25)).heap.size = w1.heap.size + 1 by simp)
    have hz1 := hb.size
    clear hin hb HD
    go_wp2_with fail
    generalize (w1.alloc (Obj.cells #[.int .i64 N, .slice a1 L c1] 25)) = w2 at *
    have hz2 := HZ2.out
    generalize ho : w1.heap.size = o at *
    obtain ⟨hN0, hN1, hL34⟩ := hbd
    by_cases hk : (vldB N zs && decide (zs.length ≤ 7)) = true
    · rw [Bool.and_eq_true, decide_eq_true_eq] at hk
      obtain ⟨hv, hl7⟩ := hk
      obtain ⟨m, ns, rfl, rfl, hcl⟩ := vldB_cls hv
      obtain ⟨r, hrm, hr⟩ := rn_ex hcl
      have hm := hcl.pts
      have hln : ns.length ≤ 7 := by rw [toI_length] at hl7; exact hl7
      have HI := Lib.hid (fun v w h => implRnIn m ns r v w hm hv hln hrm hr h)
      have HS := Lib.hid (fun v w h => specRnIn m ns r v w hcl hv hln hrm hr h)
      have HF := Lib.hid (fun v w h => implFirstRepresentation (m : Int) v (toI ns) (r : Int) w h)
      have HG := Lib.hid (fun v w h => implFirstRepresentation (m : Int) v (toI ns) ((r : Int) - 1) w h)
      have HR := Lib.hid (fun v w h hs => implRecursiveDimension (m : Int) v (toI ns) w h hs)
      have h1 := rn_rd hcl hr
      rw [rdB_in hv] at HR
      have f1 : frpB (m : Int) (toI ns) (r : Int) = true := by rw [frpB, frpO_in hv hln]; exact hr.1
      have f2 : frpB (m : Int) (toI ns) ((r : Int) - 1) = true → r = 0 := fun h => by
        apply Classical.byContradiction
        intro h0
        rw [frpB, frpO_in hv hln] at h
        have h2 := hr.2 (r - 1) (by omega)
        rw [show ((r - 1 : Nat) : Int) = (r : Int) - 1 by omega] at h2
        rw [h2] at h
        cases h
      rw [f1] at HF
      have hr5 : r ≤ 5 := by omega
      generalize frpL (m : Int) (toI ns) (r : Int) = F1 at *
      generalize frpL (m : Int) (toI ns) ((r : Int) - 1) = F2 at *
      generalize frpB (m : Int) (toI ns) ((r : Int) - 1) = b2 at *
      generalize rdM m ns = E at *
      have hw : IntKind.i64.wrap ((r : Int) - 1) = (r : Int) - 1 := by rw [IntKind.wrap_i64]; omega
      have hr0 : ¬ (r : Int) < 0 := by omega
      clear hr hv hcl f1
      refine (HI.out _ _ I1.out.rd).mono ?_
      rintro e w3 ⟨rfl, hb3⟩
      have hz3 := hb3.size
      replace X := Lib.hid (X.out.next hb3 (by omega))
      replace I1 := Lib.hid (I1.out.below hb3 (Nat.le_refl _))
      replace B := Lib.hid (B.out.trans (hb3.mono (by omega)))
      clear hb3
      have x0 := X.out.out.at0
      have x1 := X.out.out.at1
      go_wp2_with fail
      clear x0 x1
      refine (HS.out _ _ I1.out.rd).mono ?_
      rintro e w4 ⟨rfl, hb4⟩
      have hz4 := hb4.size
      replace X := Lib.hid (X.out.next hb4 (by omega))
      replace I1 := Lib.hid (I1.out.below hb4 (Nat.le_refl _))
      replace B := Lib.hid (B.out.trans (hb4.mono (by omega)))
      clear hb4
      have x0 := X.out.out.at0
      have x1 := X.out.out.at1
      go_wp2_with fail
      clear x0 x1
      refine (HF.out _ _ I1.out.rd).mono ?_
      rintro e w5 ⟨a5, c5, rfl, hin5, hb5⟩
      have hz5 := hb5.size
      replace X := Lib.hid (X.out.next hb5 (by omega))
      replace I1 := Lib.hid (I1.out.below hb5 (Nat.le_refl _))
      replace B := Lib.hid (B.out.trans (hb5.mono (by omega)))
      have IF := Lib.hid (hin5.mono (Nat.zero_le _))
      clear hin5 hb5
      have x0 := X.out.out.at0
      have x1 := X.out.out.at1
      go_wp2_with fail
      clear x0 x1
      clear IF
      refine (HG.out _ _ I1.out.rd).mono ?_
      rintro e w6 ⟨a6, c6, rfl, hin6, hb6⟩
      have hz6 := hb6.size
      replace X := Lib.hid (X.out.next hb6 (by omega))
      replace I1 := Lib.hid (I1.out.below hb6 (Nat.le_refl _))
      replace B := Lib.hid (B.out.trans (hb6.mono (by omega)))
      have IG := Lib.hid (hin6.mono (Nat.zero_le _))
      clear hin6 hb6
      clear IG
      clear HI HS HF HG hw
      cases b2
      case false =>
        clear f2
        by_cases hx : E < 0
        · have HM := Lib.hid (show max E 0 = 0 by omega)
          have hd : decide (E < 0) = true := decide_eq_true hx
          have k1 : decide (((r : Nat) : Int) ≤ 0) = true := decide_eq_true (by omega)
          have k2 : ((r : Nat) : Int) ≤ 0 := by omega
          obtain rfl : r = 0 := by omega
          have x0 := X.out.out.at0
          have x1 := X.out.out.at1
          go_wp2_with fail
          clear x0 x1
          refine (HR.out _ _ I1.out.rd (by first | exact HSW.out.next B.out | exact (show SW (World.drew _) from HSW.out.next B.out) | exact HSW.out.next (B.out.trans ((Below.refl _ _).drew)))).mono ?_
          rintro e w7 ⟨rfl, hb7⟩
          have hz7 := hb7.size
          replace X := Lib.hid (X.out.next hb7 (by omega))
          replace I1 := Lib.hid (I1.out.below hb7 (Nat.le_refl _))
          replace B := Lib.hid (B.out.trans (hb7.mono (by omega)))
          clear hb7
          have x0 := X.out.out.at0
          have x1 := X.out.out.at1
          go_wp2_with fail
          clear x0 x1
          go_ret
          exact ⟨rfl, by first | exact B.out | exact B.out.drew⟩
        · have HM := Lib.hid (show max E 0 = E by omega)
          have hd : decide (E < 0) = false := decide_eq_false hx
          have k1 : decide (((r : Nat) : Int) ≤ E) = true := decide_eq_true (by omega)
          have k2 : ((r : Nat) : Int) ≤ E := by omega
          have x0 := X.out.out.at0
          have x1 := X.out.out.at1
          go_wp2_with fail
          clear x0 x1
          refine (HR.out _ _ I1.out.rd (by first | exact HSW.out.next B.out | exact (show SW (World.drew _) from HSW.out.next B.out) | exact HSW.out.next (B.out.trans ((Below.refl _ _).drew)))).mono ?_
          rintro e w7 ⟨rfl, hb7⟩
          have hz7 := hb7.size
          replace X := Lib.hid (X.out.next hb7 (by omega))
          replace I1 := Lib.hid (I1.out.below hb7 (Nat.le_refl _))
          replace B := Lib.hid (B.out.trans (hb7.mono (by omega)))
          clear hb7
          have x0 := X.out.out.at0
          have x1 := X.out.out.at1
          go_wp2_with fail
          clear x0 x1
          go_ret
          exact ⟨rfl, by first | exact B.out | exact B.out.drew⟩

      case true =>
        obtain rfl := f2 rfl
        by_cases hx : E < 0
        · have HM := Lib.hid (show max E 0 = 0 by omega)
          have hd : decide (E < 0) = true := decide_eq_true hx
          have k1 : decide (((0 : Nat) : Int) ≤ 0) = true := decide_eq_true (by omega)
          have k2 : ((0 : Nat) : Int) ≤ 0 := by omega
          skip
          have x0 := X.out.out.at0
          have x1 := X.out.out.at1
          go_wp2_with fail
          clear x0 x1
          refine (HR.out _ _ I1.out.rd (by first | exact HSW.out.next B.out | exact (show SW (World.drew _) from HSW.out.next B.out) | exact HSW.out.next (B.out.trans ((Below.refl _ _).drew)))).mono ?_
          rintro e w7 ⟨rfl, hb7⟩
          have hz7 := hb7.size
          replace X := Lib.hid (X.out.next hb7 (by omega))
          replace I1 := Lib.hid (I1.out.below hb7 (Nat.le_refl _))
          replace B := Lib.hid (B.out.trans (hb7.mono (by omega)))
          clear hb7
          have x0 := X.out.out.at0
          have x1 := X.out.out.at1
          go_wp2_with fail
          clear x0 x1
          go_ret
          exact ⟨rfl, by first | exact B.out | exact B.out.drew⟩
        · have HM := Lib.hid (show max E 0 = E by omega)
          have hd : decide (E < 0) = false := decide_eq_false hx
          have k1 : decide (((0 : Nat) : Int) ≤ E) = true := decide_eq_true (by omega)
          have k2 : ((0 : Nat) : Int) ≤ E := by omega
          have k3 : (0 : Int) ≤ E := k2
          have x0 := X.out.out.at0
          have x1 := X.out.out.at1
          go_wp2_with fail
          clear x0 x1
          refine (HR.out _ _ I1.out.rd (by first | exact HSW.out.next B.out | exact (show SW (World.drew _) from HSW.out.next B.out) | exact HSW.out.next (B.out.trans ((Below.refl _ _).drew)))).mono ?_
          rintro e w7 ⟨rfl, hb7⟩
          have hz7 := hb7.size
          replace X := Lib.hid (X.out.next hb7 (by omega))
          replace I1 := Lib.hid (I1.out.below hb7 (Nat.le_refl _))
          replace B := Lib.hid (B.out.trans (hb7.mono (by omega)))
          clear hb7
          have x0 := X.out.out.at0
          have x1 := X.out.out.at1
          go_wp2_with fail
          clear x0 x1
          go_ret
          exact ⟨rfl, by first | exact B.out | exact B.out.drew⟩
    · rw [Bool.not_eq_true] at hk
      have HI := Lib.hid (fun v w h => implRnNo N v zs w hk h)
      have HS := Lib.hid (fun v w h => specRnNo N v zs w hk h)
      clear hk
      refine (HI.out _ _ I1.out.rd).mono ?_
      rintro e w3 ⟨rfl, hb3⟩
      have hz3 := hb3.size
      replace X := Lib.hid (X.out.next hb3 (by omega))
      replace I1 := Lib.hid (I1.out.below hb3 (Nat.le_refl _))
      replace B := Lib.hid (B.out.trans (hb3.mono (by omega)))
      clear hb3
      have x0 := X.out.out.at0
      have x1 := X.out.out.at1
      go_wp2_with fail
      clear x0 x1
      refine (HS.out _ _ I1.out.rd).mono ?_
      rintro e w4 ⟨rfl, hb4⟩
      have hz4 := hb4.size
      replace X := Lib.hid (X.out.next hb4 (by omega))
      replace I1 := Lib.hid (I1.out.below hb4 (Nat.le_refl _))
      replace B := Lib.hid (B.out.trans (hb4.mono (by omega)))
      clear hb4
      have x0 := X.out.out.at0
      have x1 := X.out.out.at1
      go_wp2_with fail
      clear x0 x1
      refine (HS.out _ _ I1.out.rd).mono ?_
      rintro e w5 ⟨rfl, hb5⟩
      have hz5 := hb5.size
      replace X := Lib.hid (X.out.next hb5 (by omega))
      replace I1 := Lib.hid (I1.out.below hb5 (Nat.le_refl _))
      replace B := Lib.hid (B.out.trans (hb5.mono (by omega)))
      clear hb5
      have x0 := X.out.out.at0
      have x1 := X.out.out.at1
      go_wp2_with fail
      clear x0 x1
      go_ret
      exact ⟨rfl, by first | exact B.out | exact B.out.drew⟩
  · go_enter Tryd.func7, Tryd.ntmps7
    go_wp2_with fail
    go_ret
    exact ⟨rfl, Below.refl _ _⟩

end Go.Proofs.YtnoppclajhfnjabDoor
