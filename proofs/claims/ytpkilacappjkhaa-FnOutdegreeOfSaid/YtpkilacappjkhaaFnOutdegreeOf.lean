/- FnOutdegreeOf's walk: no set needs more edges than the dimension. Conditions: the code is a slice of bytes. -/
import Derived.Test.YtpkilacappjkhaaDrawsOd
import Derived.Test.YtpkilacappjkhaaEdg
import Derived.Test.YtpkilacappjkhaaOutE
import Derived.Test.YtpkilacappjkhaaOutF
import Derived.Test.YtpkilacappjkhaaZC
import Derived.Test.YtpkilacappjkhaaZJ
import Derived.Test.YtpkilacappjkhaaZK
namespace Go.Proofs.Ytpkilacappjkhaa
open Go.RowKit

theorem eqB_self (xs : List Int) : eqB xs xs = true := eqB_of rfl (fun _ _ => rfl)
theorem cnt_edges {m k : Nat} {ns : List Nat} (h : Cls m ns) (ho : Odg ns k) : k ≤ 1024 := vio_le h.length ho.2


set_option maxHeartbeats 6400000 in
set_option maxRecDepth 100000 in
theorem walkFnOutdegreeOf (a : Option Addr) (b off n cap : Nat) (w : World) (hc : n ≤ cap) (hcap : cap ≤ maxLen) (h : Byt w a b off n) :
    Calls Try.prog 3 #[.slice a n cap] w fun e w' => e = .returned (.bool true) ∧ Below w.heap.size w w' := by
  by_cases hn : n ≤ 1048576
  · have HD := Lib.hid (dDrawOutdegreeOf a b off n cap w hc hn hcap h)
    clear h
    go_enter Try.func3, Try.ntmps3
    go_wp2_with fail
    refine HD.out.mono ?_
    rintro e w1 ⟨N, zs, hbd, a1, c1, rfl, hin, hb⟩
    generalize hL : zs.length = L at *
    have X := Lib.hid (Bx.new N (.slice a1 L c1) w1)
    have I1 := Lib.hid ((hin.mono (Nat.zero_le _)).alloc (Obj.cells #[.int .i64 N, .slice a1 L c1] 25))
    have B := Lib.hid (hb.alloc hb.size (Obj.cells #[.int .i64 N, .slice a1 L c1] 25))
    have HZ2 := Lib.hid (show (w1.alloc (Obj.cells #[.int .i64 N, .slice a1 L c1] 25)).heap.size = w1.heap.size + 1 by simp)
    have hz1 := hb.size
    clear hin hb HD
    go_wp2_with fail
    generalize (w1.alloc (Obj.cells #[.int .i64 N, .slice a1 L c1] 25)) = w2 at *
    have hz2 := HZ2.out
    generalize ho : w1.heap.size = o at *
    obtain ⟨hN0, hN1, hL34⟩ := hbd
    obtain ⟨R, HS0, HI0⟩ := outBoth N zs
    have HI := Lib.hid HI0
    have HS := Lib.hid HS0
    clear HS0 HI0
    by_cases hv : vldB N zs = true
    · obtain ⟨m, ns, rfl, rfl, hcl⟩ := vldB_cls hv
      have hL2 : ns.length = L := by rw [← hL, toI_length]
      have HV := Lib.hid (fun v w h => implValid (m : Int) v (toI ns) w h)
      have HE := Lib.hid (fun v w h => implEdgesOf (m : Int) v (toI ns) w h)
      have HC := Lib.hid (fun v w h => implVCDimension (m : Int) v (toI ns) w h)
      rw [egL_in hv] at HE
      rw [vcB_in hv] at HC
      rw [hv] at HV
      have hVb := vcL_bd m ns
      refine (HI.out _ _ I1.out.rd).mono ?_
      rintro e w3 ⟨rfl, hb3, hod⟩
      have hz3 := hb3.size
      replace X := Lib.hid (X.out.next hb3 X.out.lt)
      replace I1 := Lib.hid (I1.out.below hb3 (Nat.le_refl _))
      replace B := Lib.hid (B.out.trans (hb3.mono B.out.size))
      clear hb3
      obtain ⟨k, hkR, hod2⟩ := hod hv
      subst hkR
      clear hod
      rw [toNat_toI] at hod2
      obtain ⟨f1, f2, f3⟩ := out_law hcl hod2
      have hk9 := cnt_edges hcl hod2
      obtain ⟨K, hK⟩ : ∃ K, K = (egTo ns ns.length).length := ⟨_, rfl⟩
      rw [← hK] at f2 f3
      rw [hL2] at f2
      have hlen : K ≤ 1048576 := by
        have h1 := egL_len (m : Int) (toI ns)
        rw [egL_in hv] at h1
        omega
      have HKl := Lib.hid hK.symm
      obtain ⟨q, hq⟩ : ∃ q, q = k * L := ⟨_, rfl⟩
      rw [← hq] at f2
      have hq9 : q ≤ 1024 * 34 := by rw [hq]; exact Nat.mul_le_mul hk9 (by omega)
      have hwm : (k : Int) * (L : Int) = (q : Int) := by rw [hq]; simp
      have hge : (K : Int) ≤ (q : Int) := by omega
      have F1 := Lib.hid f1
      have F3 := Lib.hid f3
      generalize vcL m ns = V0 at *
      generalize egTo ns ns.length = es at *
      clear hK hv hcl hod2 hq f1 f2 f3 hL2
      have x0 := X.out.out.at0
      have x1 := X.out.out.at1
      go_wp2_with fail
      clear x0 x1
      refine (HS.out _ _ I1.out.rd).mono ?_
      rintro e w4 ⟨rfl, hb4⟩
      have hz4 := hb4.size
      replace X := Lib.hid (X.out.next hb4 X.out.lt)
      replace I1 := Lib.hid (I1.out.below hb4 (Nat.le_refl _))
      replace B := Lib.hid (B.out.trans (hb4.mono B.out.size))
      clear hb4
      have x0 := X.out.out.at0
      have x1 := X.out.out.at1
      go_wp2_with fail
      clear x0 x1
      refine (HV.out _ _ I1.out.rd).mono ?_
      rintro e w5 ⟨rfl, hb5⟩
      have hz5 := hb5.size
      replace X := Lib.hid (X.out.next hb5 X.out.lt)
      replace I1 := Lib.hid (I1.out.below hb5 (Nat.le_refl _))
      replace B := Lib.hid (B.out.trans (hb5.mono B.out.size))
      clear hb5
      have x0 := X.out.out.at0
      have x1 := X.out.out.at1
      go_wp2_with fail
      clear x0 x1
      refine (HE.out _ _ I1.out.rd).mono ?_
      rintro e w6 ⟨a6, c6, rfl, hin6, hb6⟩
      rw [HKl.out] at hin6 ⊢
      have hz6 := hb6.size
      replace X := Lib.hid (X.out.next hb6 X.out.lt)
      replace I1 := Lib.hid (I1.out.below hb6 (Nat.le_refl _))
      replace B := Lib.hid (B.out.trans (hb6.mono B.out.size))
      have IP := Lib.hid (hin6.mono (Nat.zero_le _))
      clear hin6 hb6
      have x0 := X.out.out.at0
      have x1 := X.out.out.at1
      go_wp2_with fail
      clear x0 x1
      refine (HC.out _ _ I1.out.rd).mono ?_
      rintro e w7 ⟨rfl, hb7⟩
      have hz7 := hb7.size
      replace X := Lib.hid (X.out.next hb7 X.out.lt)
      replace I1 := Lib.hid (I1.out.below hb7 (Nat.le_refl _))
      replace IP := Lib.hid (IP.out.below hb7 (Nat.le_refl _))
      replace B := Lib.hid (B.out.trans (hb7.mono B.out.size))
      clear hb7
      by_cases hk0 : k = 0
      · have hK0 : K = 0 := F3.out.1 hk0
        subst hk0
        subst hK0
        clear hwm hge F1 F3 hk9 hlen
        by_cases hV : V0 < 0
        · skip
          have x0 := X.out.out.at0
          have x1 := X.out.out.at1
          go_wp2_with fail
          clear x0 x1
          go_ret
          exact ⟨rfl, by first | exact B.out | exact B.out.drew⟩
        · have hle : (0 : Int) ≤ V0 := by omega
          have x0 := X.out.out.at0
          have x1 := X.out.out.at1
          go_wp2_with fail
          clear x0 x1
          go_ret
          exact ⟨rfl, by first | exact B.out | exact B.out.drew⟩
      · have hK0 : ¬ K = 0 := fun e => hk0 (F3.out.2 e)
        have hkb : ((k : Int) == 0) = false := by rw [beq_eq_false_iff_ne]; omega
        have hKb : ((K : Int) == 0) = false := by rw [beq_eq_false_iff_ne]; omega
        have hle : (k : Int) ≤ V0 := by have := F1.out; omega
        have hV : ¬ V0 < 0 := by omega
        clear hk0 hK0
        clear F1 F3
        have x0 := X.out.out.at0
        have x1 := X.out.out.at1
        go_wp2_with fail
        clear x0 x1
        go_ret
        exact ⟨rfl, by first | exact B.out | exact B.out.drew⟩
    · rw [Bool.not_eq_true] at hv
      have HV := Lib.hid (fun v w h => implValid N v zs w h)
      rw [hv] at HV
      refine (HI.out _ _ I1.out.rd).mono ?_
      rintro e w3 ⟨rfl, hb3, hod⟩
      have hz3 := hb3.size
      replace X := Lib.hid (X.out.next hb3 X.out.lt)
      replace I1 := Lib.hid (I1.out.below hb3 (Nat.le_refl _))
      replace B := Lib.hid (B.out.trans (hb3.mono B.out.size))
      clear hb3
      clear hv hod
      have x0 := X.out.out.at0
      have x1 := X.out.out.at1
      go_wp2_with fail
      clear x0 x1
      refine (HS.out _ _ I1.out.rd).mono ?_
      rintro e w4 ⟨rfl, hb4⟩
      have hz4 := hb4.size
      replace X := Lib.hid (X.out.next hb4 X.out.lt)
      replace I1 := Lib.hid (I1.out.below hb4 (Nat.le_refl _))
      replace B := Lib.hid (B.out.trans (hb4.mono B.out.size))
      clear hb4
      have x0 := X.out.out.at0
      have x1 := X.out.out.at1
      go_wp2_with fail
      clear x0 x1
      refine (HV.out _ _ I1.out.rd).mono ?_
      rintro e w5 ⟨rfl, hb5⟩
      have hz5 := hb5.size
      replace X := Lib.hid (X.out.next hb5 X.out.lt)
      replace I1 := Lib.hid (I1.out.below hb5 (Nat.le_refl _))
      replace B := Lib.hid (B.out.trans (hb5.mono B.out.size))
      clear hb5
      have x0 := X.out.out.at0
      have x1 := X.out.out.at1
      go_wp2_with fail
      clear x0 x1
      refine (HS.out _ _ I1.out.rd).mono ?_
      rintro e w6 ⟨rfl, hb6⟩
      have hz6 := hb6.size
      replace X := Lib.hid (X.out.next hb6 X.out.lt)
      replace I1 := Lib.hid (I1.out.below hb6 (Nat.le_refl _))
      replace B := Lib.hid (B.out.trans (hb6.mono B.out.size))
      clear hb6
      have x0 := X.out.out.at0
      have x1 := X.out.out.at1
      go_wp2_with fail
      clear x0 x1
      go_ret
      exact ⟨rfl, by first | exact B.out | exact B.out.drew⟩
  · go_enter Try.func3, Try.ntmps3
    go_wp2_with fail
    go_ret
    exact ⟨rfl, Below.refl _ _⟩

end Go.Proofs.Ytpkilacappjkhaa
