/- FnParseClass's walk: the texts that are read are written back. Conditions: the code is a slice of bytes; the library's variables lie. -/
import Derived.Test.YtkamocciaaapmaaDoorLawHc
import Derived.Test.YtkamocciaaapmaaDoorMut
import Derived.Test.YtkamocciaaapmaaDoorPrsI
import Derived.Test.YtkamocciaaapmaaDoorPrsT
namespace Go.Proofs.YtkamocciaaapmaaDoor
open Go.RowKit

set_option maxHeartbeats 1600000 in
set_option maxRecDepth 100000 in
theorem walkFnParseClass (a : Option Addr) (b off n cap : Nat) (w : World) (hc : n ≤ cap) (hcap : cap ≤ maxLen) (h : Byt w a b off n) (hLb0 : Lbs w) :
    Calls Tryd.prog 6 #[.slice a n cap] w fun e w' => e = .returned (.bool true) ∧ Below w.heap.size w w' := by
  have HLb := Lib.hid (fun w' (hb : Below w.heap.size w w') => hLb0.below hb (Nat.le_refl _))
  clear hLb0
  by_cases hn : n ≤ 1048576
  · have HD := Lib.hid (dDrawParseClass a b off n cap w hc hn hcap h)
    clear h
    go_enter Tryd.func6, Tryd.ntmps6
    go_wp2_with fail
    refine HD.out.mono ?_
    rintro e w1 ⟨⟨s, hs, rfl⟩, hb1⟩
    have B := Lib.hid hb1
    have hs2 : s.size ≤ 1048576 := by omega
    clear hb1 HD
    have HI := Lib.hid (fun w h => implParseClass s hs2 w h)
    have HS := Lib.hid (fun w => specParseClass s hs2 w)
    cases hp : pM s with
    | some p =>
      obtain ⟨N, R⟩ := p
      have hpr := prs_some hp
      have htx := pM_text hp
      have HCT := Lib.hid (fun v w h => implClassText N v R w h)
      have HV := Lib.hid (fun v w h => implValid N v R w h)
      rw [htx.2] at HCT
      rw [htx.1] at HV
      rw [hpr.1, hpr.2.1, hpr.2.2] at HI HS
      clear hpr htx hp
      go_wp2_with fail
      refine (HI.out _ (HLb.out _ B.out)).mono ?_
      rintro e w2 ⟨a2, c2, rfl, hin2, hb2⟩
      replace B := Lib.hid (B.out.trans (hb2.mono B.out.size))
      have X2 := Lib.hid (Bx.new N (.slice a2 R.length c2) w2)
      have I2 := Lib.hid (hin2.alloc (Obj.cells #[.int .i64 N, .slice a2 R.length c2] 27))
      replace B := Lib.hid (B.out.alloc B.out.size (Obj.cells #[.int .i64 N, .slice a2 R.length c2] 27))
      clear hin2 hb2
      go_upto_region 5 with (fail)
      generalize (w2.alloc (Obj.cells #[.int .i64 N, .slice a2 R.length c2] 27)) = v2 at *
      go_wp2_with fail
      refine (HS.out _).mono ?_
      rintro e w3 ⟨a3, c3, rfl, hin3, hb3⟩
      replace X2 := Lib.hid (X2.out.next hb3 X2.out.lt)
      replace I2 := Lib.hid (I2.out.below hb3 (Nat.le_refl _))
      replace B := Lib.hid (B.out.trans (hb3.mono B.out.size))
      replace X2 := Lib.hid (X2.out.alloc (Obj.cells #[.int .i64 N, .slice a3 R.length c3] 27))
      replace I2 := Lib.hid (I2.out.alloc (Obj.cells #[.int .i64 N, .slice a3 R.length c3] 27))
      have X3 := Lib.hid (Bx.new N (.slice a3 R.length c3) w3)
      have I3 := Lib.hid (hin3.alloc (Obj.cells #[.int .i64 N, .slice a3 R.length c3] 27))
      replace B := Lib.hid (B.out.alloc B.out.size (Obj.cells #[.int .i64 N, .slice a3 R.length c3] 27))
      clear hin3 hb3
      go_upto_region 6 with (fail)
      generalize (w3.alloc (Obj.cells #[.int .i64 N, .slice a3 R.length c3] 27)) = v3 at *
      have x20 := X2.out.out.at0
      have x21 := X2.out.out.at1
      have x30 := X3.out.out.at0
      have x31 := X3.out.out.at1
      go_wp2_with fail
      clear x20 x21 x30 x31
      refine (lawsEqualClass _ _ _ _ _ _ _ _ I2.out.rd I3.out.rd).mono ?_
      rintro e w4 ⟨rfl, hb4⟩
      replace X2 := Lib.hid (X2.out.next hb4 X2.out.lt)
      replace X3 := Lib.hid (X3.out.next hb4 X3.out.lt)
      replace I2 := Lib.hid (I2.out.below hb4 (Nat.le_refl _))
      replace I3 := Lib.hid (I3.out.below hb4 (Nat.le_refl _))
      replace B := Lib.hid (B.out.trans (hb4.mono B.out.size))
      clear hb4
      have x20 := X2.out.out.at0
      have x21 := X2.out.out.at1
      have x30 := X3.out.out.at0
      have x31 := X3.out.out.at1
      go_wp2_with fail
      clear x20 x21 x30 x31
      refine (HCT.out _ _ I2.out.rd).mono ?_
      rintro e w5 ⟨rfl, hb5⟩
      replace X2 := Lib.hid (X2.out.next hb5 X2.out.lt)
      replace X3 := Lib.hid (X3.out.next hb5 X3.out.lt)
      replace I2 := Lib.hid (I2.out.below hb5 (Nat.le_refl _))
      replace I3 := Lib.hid (I3.out.below hb5 (Nat.le_refl _))
      replace B := Lib.hid (B.out.trans (hb5.mono B.out.size))
      clear hb5
      have x20 := X2.out.out.at0
      have x21 := X2.out.out.at1
      have x30 := X3.out.out.at0
      have x31 := X3.out.out.at1
      go_wp2_with fail
      clear x20 x21 x30 x31
      refine (HV.out _ _ I2.out.rd).mono ?_
      rintro e w6 ⟨rfl, hb6⟩
      replace X2 := Lib.hid (X2.out.next hb6 X2.out.lt)
      replace X3 := Lib.hid (X3.out.next hb6 X3.out.lt)
      replace I2 := Lib.hid (I2.out.below hb6 (Nat.le_refl _))
      replace I3 := Lib.hid (I3.out.below hb6 (Nat.le_refl _))
      replace B := Lib.hid (B.out.trans (hb6.mono B.out.size))
      clear hb6
      go_wp2_with fail
      go_ret
      exact ⟨rfl, B.out⟩
    | none =>
      have hpr := prs_none hp
      obtain ⟨N, hN⟩ : ∃ N : Int, N = 0 := ⟨_, rfl⟩
      obtain ⟨R, hR⟩ : ∃ R : List Int, R = [] := ⟨_, rfl⟩
      rw [hpr.1, hpr.2.1, hpr.2.2, ← hN, ← hR] at HI HS
      clear hpr hp hN hR
      go_wp2_with fail
      refine (HI.out _ (HLb.out _ B.out)).mono ?_
      rintro e w2 ⟨a2, c2, rfl, hin2, hb2⟩
      replace B := Lib.hid (B.out.trans (hb2.mono B.out.size))
      have X2 := Lib.hid (Bx.new N (.slice a2 R.length c2) w2)
      have I2 := Lib.hid (hin2.alloc (Obj.cells #[.int .i64 N, .slice a2 R.length c2] 27))
      replace B := Lib.hid (B.out.alloc B.out.size (Obj.cells #[.int .i64 N, .slice a2 R.length c2] 27))
      clear hin2 hb2
      go_upto_region 5 with (fail)
      generalize (w2.alloc (Obj.cells #[.int .i64 N, .slice a2 R.length c2] 27)) = v2 at *
      go_wp2_with fail
      refine (HS.out _).mono ?_
      rintro e w3 ⟨a3, c3, rfl, hin3, hb3⟩
      replace X2 := Lib.hid (X2.out.next hb3 X2.out.lt)
      replace I2 := Lib.hid (I2.out.below hb3 (Nat.le_refl _))
      replace B := Lib.hid (B.out.trans (hb3.mono B.out.size))
      replace X2 := Lib.hid (X2.out.alloc (Obj.cells #[.int .i64 N, .slice a3 R.length c3] 27))
      replace I2 := Lib.hid (I2.out.alloc (Obj.cells #[.int .i64 N, .slice a3 R.length c3] 27))
      have X3 := Lib.hid (Bx.new N (.slice a3 R.length c3) w3)
      have I3 := Lib.hid (hin3.alloc (Obj.cells #[.int .i64 N, .slice a3 R.length c3] 27))
      replace B := Lib.hid (B.out.alloc B.out.size (Obj.cells #[.int .i64 N, .slice a3 R.length c3] 27))
      clear hin3 hb3
      go_upto_region 6 with (fail)
      generalize (w3.alloc (Obj.cells #[.int .i64 N, .slice a3 R.length c3] 27)) = v3 at *
      have x20 := X2.out.out.at0
      have x21 := X2.out.out.at1
      have x30 := X3.out.out.at0
      have x31 := X3.out.out.at1
      go_wp2_with fail
      clear x20 x21 x30 x31
      refine (lawsEqualClass _ _ _ _ _ _ _ _ I2.out.rd I3.out.rd).mono ?_
      rintro e w4 ⟨rfl, hb4⟩
      replace X2 := Lib.hid (X2.out.next hb4 X2.out.lt)
      replace X3 := Lib.hid (X3.out.next hb4 X3.out.lt)
      replace I2 := Lib.hid (I2.out.below hb4 (Nat.le_refl _))
      replace I3 := Lib.hid (I3.out.below hb4 (Nat.le_refl _))
      replace B := Lib.hid (B.out.trans (hb4.mono B.out.size))
      clear hb4
      have x20 := X2.out.out.at0
      have x21 := X2.out.out.at1
      have x30 := X3.out.out.at0
      have x31 := X3.out.out.at1
      go_wp2_with fail
      clear x20 x21 x30 x31
      refine (lawsEqualClass _ _ _ _ _ _ _ _ I2.out.rd I3.out.rd).mono ?_
      rintro e w5 ⟨rfl, hb5⟩
      replace X2 := Lib.hid (X2.out.next hb5 X2.out.lt)
      replace X3 := Lib.hid (X3.out.next hb5 X3.out.lt)
      replace I2 := Lib.hid (I2.out.below hb5 (Nat.le_refl _))
      replace I3 := Lib.hid (I3.out.below hb5 (Nat.le_refl _))
      replace B := Lib.hid (B.out.trans (hb5.mono B.out.size))
      clear hb5
      go_wp2_with fail
      go_ret
      exact ⟨rfl, B.out⟩
  · go_enter Tryd.func6, Tryd.ntmps6
    go_wp2_with fail
    go_ret
    exact ⟨rfl, Below.refl _ _⟩

end Go.Proofs.YtkamocciaaapmaaDoor
