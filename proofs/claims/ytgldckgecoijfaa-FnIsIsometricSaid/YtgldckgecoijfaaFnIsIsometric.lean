/- FnIsIsometric's walk: extremal classes are isometric, and isometric ones are in one part. Conditions: the code is a slice of bytes. -/
import Derived.Test.YtgldckgecoijfaaDrawsIi
import Derived.Test.YtgldckgecoijfaaPthM
import Derived.Test.YtgldckgecoijfaaZG
import Derived.Test.YtgldckgecoijfaaZJ
import Derived.Test.YtgldckgecoijfaaZK
import Derived.Test.YtgldckgecoijfaaZS
namespace Go.Proofs.Ytgldckgecoijfaa
open Go.RowKit

theorem eqB_self (xs : List Int) : eqB xs xs = true := eqB_of rfl (fun _ _ => rfl)
theorem extB_ext {m : Nat} {ns : List Nat} (h : Cls m ns) : extB (m : Int) (toI ns) = true ↔ extL m ns := by
  rw [extB_in (cls_vldB h), decide_eq_true_eq, shatN_in (cls_vldB h), toI_length, extL]


set_option maxHeartbeats 6400000 in
set_option maxRecDepth 100000 in
theorem walkFnIsIsometric (a : Option Addr) (b off n cap : Nat) (w : World) (hc : n ≤ cap) (hcap : cap ≤ maxLen) (h : Byt w a b off n) :
    Calls Try.prog 4 #[.slice a n cap] w fun e w' => e = .returned (.bool true) ∧ Below w.heap.size w w' := by
  by_cases hn : n ≤ 1048576
  · have HD := Lib.hid (dDrawIsIsometric a b off n cap w hc hn hcap h)
    clear h
    go_enter Try.func4, Try.ntmps4
    go_wp2_with fail
    refine HD.out.mono ?_
    rintro e w1 ⟨N, zs, hbd, a1, c1, rfl, hin, hb⟩
    generalize hL : zs.length = L at *
    have X := Lib.hid (Bx.new N (.slice a1 L c1) w1)
    have I1 := Lib.hid ((hin.mono (Nat.zero_le _)).alloc (Obj.cells #[.int .i64 N, .slice a1 L c1] 25))
    have B := Lib.hid (hb.alloc hb.size (Obj.cells #[.int .i64 N, .slice a1 L c1] 25))
    have HZ2 := Lib.hid (show (w1.alloc (Obj.cells #[.int .i64 N, .slice a1 L c1] 25)).heap.size = w1.heap.size + 1 by simp)
    have hz1 := hb.size
    clear hin hb HD
    go_wp2_with fail
    generalize (w1.alloc (Obj.cells #[.int .i64 N, .slice a1 L c1] 25)) = w2 at *
    have hz2 := HZ2.out
    generalize ho : w1.heap.size = o at *
    obtain ⟨hN0, hN1, hL34⟩ := hbd
    by_cases hv : vldB N zs = true
    · obtain ⟨m, ns, rfl, rfl, hcl⟩ := vldB_cls hv
      obtain ⟨R, hR⟩ := iso_ex ns
      obtain ⟨F, hF⟩ := fst_ex ns
      have HI := Lib.hid (fun v w h => implIsoIn m ns R v w hcl hv hR h)
      have HS := Lib.hid (fun v w h => specIsoIn m ns R v w hcl hv hR h)
      have HV := Lib.hid (fun v w h => implValid (m : Int) v (toI ns) w h)
      rw [hv] at HV
      have HX := Lib.hid (fun v w h => implIsExtremal (m : Int) v (toI ns) w h)
      have HC := Lib.hid (fun v w h => implCompsIn m ns F v w hcl hv hF h)
      have h1 : extB (m : Int) (toI ns) = true → R = true := fun k => iso_ext hcl hR ((extB_ext hcl).1 k)
      have h2 : R = true → cmTo F ns.length ≤ 1 := fun k => iso_one hF hR k
      generalize extB (m : Int) (toI ns) = E at *
      generalize cmTo F ns.length = p at *
      clear hcl hv hR hF
      cases R
      · obtain rfl : E = false := by
          cases E with
          | false => rfl
          | true => exact absurd (h1 rfl) (by simp)
        clear h1 h2 HC
        refine (HI.out _ _ I1.out.rd).mono ?_
        rintro e w3 ⟨rfl, hb3⟩
        have hz3 := hb3.size
        replace X := Lib.hid (X.out.next hb3 X.out.lt)
        replace I1 := Lib.hid (I1.out.below hb3 (Nat.le_refl _))
        replace B := Lib.hid (B.out.trans (hb3.mono B.out.size))
        clear hb3
        have x0 := X.out.out.at0
        have x1 := X.out.out.at1
        go_wp2_with fail
        clear x0 x1
        refine (HS.out _ _ I1.out.rd).mono ?_
        rintro e w4 ⟨rfl, hb4⟩
        have hz4 := hb4.size
        replace X := Lib.hid (X.out.next hb4 X.out.lt)
        replace I1 := Lib.hid (I1.out.below hb4 (Nat.le_refl _))
        replace B := Lib.hid (B.out.trans (hb4.mono B.out.size))
        clear hb4
        have x0 := X.out.out.at0
        have x1 := X.out.out.at1
        go_wp2_with fail
        clear x0 x1
        refine (HV.out _ _ I1.out.rd).mono ?_
        rintro e w5 ⟨rfl, hb5⟩
        have hz5 := hb5.size
        replace X := Lib.hid (X.out.next hb5 X.out.lt)
        replace I1 := Lib.hid (I1.out.below hb5 (Nat.le_refl _))
        replace B := Lib.hid (B.out.trans (hb5.mono B.out.size))
        clear hb5
        have x0 := X.out.out.at0
        have x1 := X.out.out.at1
        go_wp2_with fail
        clear x0 x1
        refine (HX.out _ _ I1.out.rd).mono ?_
        rintro e w6 ⟨rfl, hb6⟩
        have hz6 := hb6.size
        replace X := Lib.hid (X.out.next hb6 X.out.lt)
        replace I1 := Lib.hid (I1.out.below hb6 (Nat.le_refl _))
        replace B := Lib.hid (B.out.trans (hb6.mono B.out.size))
        clear hb6
        have x0 := X.out.out.at0
        have x1 := X.out.out.at1
        go_wp2_with fail
        clear x0 x1
        go_ret
        exact ⟨rfl, by first | exact B.out | exact B.out.drew⟩
      · have hp1 : p ≤ 1 := h2 rfl
        have hp1I : (p : Int) ≤ 1 := by omega
        clear h1 h2
        cases E
        · skip
          refine (HI.out _ _ I1.out.rd).mono ?_
          rintro e w3 ⟨rfl, hb3⟩
          have hz3 := hb3.size
          replace X := Lib.hid (X.out.next hb3 X.out.lt)
          replace I1 := Lib.hid (I1.out.below hb3 (Nat.le_refl _))
          replace B := Lib.hid (B.out.trans (hb3.mono B.out.size))
          clear hb3
          have x0 := X.out.out.at0
          have x1 := X.out.out.at1
          go_wp2_with fail
          clear x0 x1
          refine (HS.out _ _ I1.out.rd).mono ?_
          rintro e w4 ⟨rfl, hb4⟩
          have hz4 := hb4.size
          replace X := Lib.hid (X.out.next hb4 X.out.lt)
          replace I1 := Lib.hid (I1.out.below hb4 (Nat.le_refl _))
          replace B := Lib.hid (B.out.trans (hb4.mono B.out.size))
          clear hb4
          have x0 := X.out.out.at0
          have x1 := X.out.out.at1
          go_wp2_with fail
          clear x0 x1
          refine (HV.out _ _ I1.out.rd).mono ?_
          rintro e w5 ⟨rfl, hb5⟩
          have hz5 := hb5.size
          replace X := Lib.hid (X.out.next hb5 X.out.lt)
          replace I1 := Lib.hid (I1.out.below hb5 (Nat.le_refl _))
          replace B := Lib.hid (B.out.trans (hb5.mono B.out.size))
          clear hb5
          have x0 := X.out.out.at0
          have x1 := X.out.out.at1
          go_wp2_with fail
          clear x0 x1
          refine (HX.out _ _ I1.out.rd).mono ?_
          rintro e w6 ⟨rfl, hb6⟩
          have hz6 := hb6.size
          replace X := Lib.hid (X.out.next hb6 X.out.lt)
          replace I1 := Lib.hid (I1.out.below hb6 (Nat.le_refl _))
          replace B := Lib.hid (B.out.trans (hb6.mono B.out.size))
          clear hb6
          have x0 := X.out.out.at0
          have x1 := X.out.out.at1
          go_wp2_with fail
          clear x0 x1
          refine (HC.out _ _ I1.out.rd).mono ?_
          rintro e w7 ⟨rfl, hb7⟩
          have hz7 := hb7.size
          replace X := Lib.hid (X.out.next hb7 X.out.lt)
          replace I1 := Lib.hid (I1.out.below hb7 (Nat.le_refl _))
          replace B := Lib.hid (B.out.trans (hb7.mono B.out.size))
          clear hb7
          have x0 := X.out.out.at0
          have x1 := X.out.out.at1
          go_wp2_with fail
          clear x0 x1
          go_ret
          exact ⟨rfl, by first | exact B.out | exact B.out.drew⟩
        · skip
          refine (HI.out _ _ I1.out.rd).mono ?_
          rintro e w3 ⟨rfl, hb3⟩
          have hz3 := hb3.size
          replace X := Lib.hid (X.out.next hb3 X.out.lt)
          replace I1 := Lib.hid (I1.out.below hb3 (Nat.le_refl _))
          replace B := Lib.hid (B.out.trans (hb3.mono B.out.size))
          clear hb3
          have x0 := X.out.out.at0
          have x1 := X.out.out.at1
          go_wp2_with fail
          clear x0 x1
          refine (HS.out _ _ I1.out.rd).mono ?_
          rintro e w4 ⟨rfl, hb4⟩
          have hz4 := hb4.size
          replace X := Lib.hid (X.out.next hb4 X.out.lt)
          replace I1 := Lib.hid (I1.out.below hb4 (Nat.le_refl _))
          replace B := Lib.hid (B.out.trans (hb4.mono B.out.size))
          clear hb4
          have x0 := X.out.out.at0
          have x1 := X.out.out.at1
          go_wp2_with fail
          clear x0 x1
          refine (HV.out _ _ I1.out.rd).mono ?_
          rintro e w5 ⟨rfl, hb5⟩
          have hz5 := hb5.size
          replace X := Lib.hid (X.out.next hb5 X.out.lt)
          replace I1 := Lib.hid (I1.out.below hb5 (Nat.le_refl _))
          replace B := Lib.hid (B.out.trans (hb5.mono B.out.size))
          clear hb5
          have x0 := X.out.out.at0
          have x1 := X.out.out.at1
          go_wp2_with fail
          clear x0 x1
          refine (HX.out _ _ I1.out.rd).mono ?_
          rintro e w6 ⟨rfl, hb6⟩
          have hz6 := hb6.size
          replace X := Lib.hid (X.out.next hb6 X.out.lt)
          replace I1 := Lib.hid (I1.out.below hb6 (Nat.le_refl _))
          replace B := Lib.hid (B.out.trans (hb6.mono B.out.size))
          clear hb6
          have x0 := X.out.out.at0
          have x1 := X.out.out.at1
          go_wp2_with fail
          clear x0 x1
          refine (HC.out _ _ I1.out.rd).mono ?_
          rintro e w7 ⟨rfl, hb7⟩
          have hz7 := hb7.size
          replace X := Lib.hid (X.out.next hb7 X.out.lt)
          replace I1 := Lib.hid (I1.out.below hb7 (Nat.le_refl _))
          replace B := Lib.hid (B.out.trans (hb7.mono B.out.size))
          clear hb7
          have x0 := X.out.out.at0
          have x1 := X.out.out.at1
          go_wp2_with fail
          clear x0 x1
          go_ret
          exact ⟨rfl, by first | exact B.out | exact B.out.drew⟩
    · rw [Bool.not_eq_true] at hv
      have HI := Lib.hid (fun v w h => implIsoNo N v zs w hv h)
      have HS := Lib.hid (fun v w h => specIsoNo N v zs w hv h)
      have HV := Lib.hid (fun v w h => implValid N v zs w h)
      rw [hv] at HV
      clear hv
      refine (HI.out _ _ I1.out.rd).mono ?_
      rintro e w3 ⟨rfl, hb3⟩
      have hz3 := hb3.size
      replace X := Lib.hid (X.out.next hb3 X.out.lt)
      replace I1 := Lib.hid (I1.out.below hb3 (Nat.le_refl _))
      replace B := Lib.hid (B.out.trans (hb3.mono B.out.size))
      clear hb3
      have x0 := X.out.out.at0
      have x1 := X.out.out.at1
      go_wp2_with fail
      clear x0 x1
      refine (HS.out _ _ I1.out.rd).mono ?_
      rintro e w4 ⟨rfl, hb4⟩
      have hz4 := hb4.size
      replace X := Lib.hid (X.out.next hb4 X.out.lt)
      replace I1 := Lib.hid (I1.out.below hb4 (Nat.le_refl _))
      replace B := Lib.hid (B.out.trans (hb4.mono B.out.size))
      clear hb4
      have x0 := X.out.out.at0
      have x1 := X.out.out.at1
      go_wp2_with fail
      clear x0 x1
      refine (HV.out _ _ I1.out.rd).mono ?_
      rintro e w5 ⟨rfl, hb5⟩
      have hz5 := hb5.size
      replace X := Lib.hid (X.out.next hb5 X.out.lt)
      replace I1 := Lib.hid (I1.out.below hb5 (Nat.le_refl _))
      replace B := Lib.hid (B.out.trans (hb5.mono B.out.size))
      clear hb5
      have x0 := X.out.out.at0
      have x1 := X.out.out.at1
      go_wp2_with fail
      clear x0 x1
      refine (HS.out _ _ I1.out.rd).mono ?_
      rintro e w6 ⟨rfl, hb6⟩
      have hz6 := hb6.size
      replace X := Lib.hid (X.out.next hb6 X.out.lt)
      replace I1 := Lib.hid (I1.out.below hb6 (Nat.le_refl _))
      replace B := Lib.hid (B.out.trans (hb6.mono B.out.size))
      clear hb6
      have x0 := X.out.out.at0
      have x1 := X.out.out.at1
      go_wp2_with fail
      clear x0 x1
      go_ret
      exact ⟨rfl, by first | exact B.out | exact B.out.drew⟩
  · go_enter Try.func4, Try.ntmps4
    go_wp2_with fail
    go_ret
    exact ⟨rfl, Below.refl _ _⟩

end Go.Proofs.Ytgldckgecoijfaa
