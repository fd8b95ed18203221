/- FnVCDimension's walk: the dimension is of shattered sets, and Sauer's bound. Conditions: the code is a slice of bytes. -/
import Derived.Test.YtfnlfhgjmnjgaaaZK
import Derived.Test.YtfnlfhgjmnjgaaaZJ
import Derived.Test.YtfnlfhgjmnjgaaaZI
import Derived.Test.YtfnlfhgjmnjgaaaShatS
import Derived.Test.YtfnlfhgjmnjgaaaShat
import Derived.Test.YtfnlfhgjmnjgaaaZC
namespace Go.Proofs.Ytfnlfhgjmnjgaaa
open Go.RowKit

theorem eqB_self (xs : List Int) : eqB xs xs = true := eqB_of rfl (fun _ _ => rfl)

set_option maxHeartbeats 6400000 in
set_option maxRecDepth 100000 in
theorem walkFnVCDimension (a : Option Addr) (b off n cap : Nat) (w : World) (hc : n ≤ cap) (hcap : cap ≤ maxLen) (h : Byt w a b off n) :
    Calls Try.prog 7 #[.slice a n cap] w fun e w' => e = .returned (.bool true) ∧ Below w.heap.size w w' := by
  by_cases hn : n ≤ 1048576
  · have HD := Lib.hid (dDrawVCDimension a b off n cap w hc hn hcap h)
    clear h
    go_enter Try.func7, Try.ntmps7
    go_wp2_with fail
    refine HD.out.mono ?_
    rintro e w1 ⟨N, zs, hbd, a1, c1, rfl, hin, hb⟩
    generalize hL : zs.length = L at *
    have X := Lib.hid (Bx.new N (.slice a1 L c1) w1)
    have I1 := Lib.hid ((hin.mono (Nat.zero_le _)).alloc (Obj.cells #[.int .i64 N, .slice a1 L c1] 25))
    have B := Lib.hid (hb.alloc hb.size (Obj.cells #[.int .i64 N, .slice a1 L c1] 25))
    have HZ2 := Lib.hid (show (w1.alloc (Obj.cells #[.int .i64 N, .slice a1 L c1] 25)).heap.size = w1.heap.size + 1 by simp)
    have hz1 := hb.size
    clear hin hb HD
    go_wp2_with fail
    generalize (w1.alloc (Obj.cells #[.int .i64 N, .slice a1 L c1] 25)) = w2 at *
    have hz2 := HZ2.out
    generalize ho : w1.heap.size = o at *
    obtain ⟨hN0, hN1, hL34⟩ := hbd
    by_cases hv : vldB N zs = true
    · obtain ⟨m, ns, rfl, rfl, hcl⟩ := vldB_cls hv
      have hL2 : ns.length = L := by rw [← hL, toI_length]
      have hm := hcl.pts
      obtain ⟨A, hA⟩ : ∃ A, A = (List.range (2 ^ m)).filter (sht ns) := ⟨_, rfl⟩
      obtain ⟨V, hV⟩ : ∃ V, V = vcL m ns := ⟨_, rfl⟩
      have HW := Lib.hid (show widTo A A.length = V by rw [hA, hV]; rfl)
      have eA : shatL (m : Int) (toI ns) = toI A := by rw [shatL_N, shatN_in hv, ← hA]
      have eV : vcB (m : Int) (toI ns) = V := by rw [vcB_in hv, hV]
      have HI := Lib.hid (fun v w h => implVCDimension (m : Int) v (toI ns) w h)
      have HS := Lib.hid (fun v w h => specVCDimension (m : Int) v (toI ns) w h)
      have HT := Lib.hid (fun v w h => implShatteredSets (m : Int) v (toI ns) w h)
      have HV := Lib.hid (fun v w h => implValid (m : Int) v (toI ns) w h)
      have HB := Lib.hid (fun w => implSauerBound (m : Int) V w)
      have hbd := vcL_bd m ns
      rw [← hV] at hbd
      obtain ⟨S, hS⟩ : ∃ S, S = sauerB (m : Int) V := ⟨_, rfl⟩
      rw [← hS] at HB
      have hLS : (L : Int) ≤ S := by
        have := sauer hcl
        rw [hL2, ← hV, ← hS] at this
        exact this
      have hneg : V < 0 ↔ L = 0 := by
        rw [hV, vcL_neg hcl, ← hL2]
        exact List.length_eq_zero_iff.symm
      have hpw : 0 ≤ V → 2 ^ V.toNat ≤ L := fun h => by
        rw [hV] at h ⊢
        rw [← hL2]
        exact vcL_pow h
      have HA32 := Lib.hid (show ∀ t ∈ A, t < 32 from fun t ht => by
        rw [hA] at ht
        exact Nat.lt_of_lt_of_le (List.mem_range.1 (List.mem_filter.1 ht).1) (pow_le_32 hm))
      rw [eA] at HT
      rw [eV] at HI HS
      rw [hv] at HV
      have hAl : A.length ≤ 32 := by rw [hA]; exact Nat.le_trans (filt_le _ _) (pow_le_32 hm)
      clear hA hV eA eV hv hcl hS
      refine (HI.out _ _ I1.out.rd).mono ?_
      rintro e w3 ⟨rfl, hb3⟩
      have hz3 := hb3.size
      replace X := Lib.hid (X.out.next hb3 (by omega))
      replace I1 := Lib.hid (I1.out.below hb3 (Nat.le_refl _))
      replace B := Lib.hid (B.out.trans (hb3.mono (by omega)))
      clear hb3
      have x0 := X.out.out.at0
      have x1 := X.out.out.at1
      go_wp2_with fail
      clear x0 x1
      refine (HS.out _ _ I1.out.rd).mono ?_
      rintro e w4 ⟨rfl, hb4⟩
      have hz4 := hb4.size
      replace X := Lib.hid (X.out.next hb4 (by omega))
      replace I1 := Lib.hid (I1.out.below hb4 (Nat.le_refl _))
      replace B := Lib.hid (B.out.trans (hb4.mono (by omega)))
      clear hb4
      have x0 := X.out.out.at0
      have x1 := X.out.out.at1
      go_wp2_with fail
      clear x0 x1
      refine (HV.out _ _ I1.out.rd).mono ?_
      rintro e w5 ⟨rfl, hb5⟩
      have hz5 := hb5.size
      replace X := Lib.hid (X.out.next hb5 (by omega))
      replace I1 := Lib.hid (I1.out.below hb5 (Nat.le_refl _))
      replace B := Lib.hid (B.out.trans (hb5.mono (by omega)))
      clear hb5
      have x0 := X.out.out.at0
      have x1 := X.out.out.at1
      go_wp2_with fail
      clear x0 x1
      refine (HT.out _ _ I1.out.rd).mono ?_
      rintro e w6 ⟨a6, c6, rfl, hin6, hb6⟩
      rw [toI_length] at hin6 ⊢
      have hz6 := hb6.size
      replace X := Lib.hid (X.out.next hb6 (by omega))
      replace I1 := Lib.hid (I1.out.below hb6 (Nat.le_refl _))
      replace B := Lib.hid (B.out.trans (hb6.mono (by omega)))
      have IA := Lib.hid (hin6.mono (Nat.zero_le _))
      clear hin6 hb6
      obtain ⟨ar, br, offr, capr, er, h1, h3, h5⟩ := IA.out.rd
      simp only [Value.slice.injEq] at er
      obtain ⟨rfl, _, rfl⟩ := er
      rw [toI_length] at h1 h3 h5
      have H1 := Lib.hid h1
      have H5 := Lib.hid h5
      clear h1 h5
      go_wp2_with fail
      go_loopw [5, 7] (fun o' i wr => ∃ j : Nat, j ≤ A.length ∧ i = .int .i64 j ∧ o' = .int .i64 (widTo A j) ∧ wr = w6) (fun _ i _ => A.length - (intOf i).toNat)
      case atStart => exact ⟨0, Nat.zero_le _, rfl, rfl, rfl⟩
      case round =>
        obtain ⟨j, hj, rfl, rfl, hwr⟩ := hrel
        subst wr
        by_cases hlt : j < A.length
        · obtain ⟨rfl, _⟩ := H1.out (by omega)
          have hcx := H5.out j hlt
          rw [toI_getD] at hcx
          have hx := HA32.out _ (getD_of_lt hlt)
          have HSt := Lib.hid (show widTo A (j + 1) = max (widTo A j) (pc (A.getD j 0)) from rfl)
          have hwb := widTo_bd A j
          generalize A.getD j 0 = x at *
          generalize widTo A j = q at *
          go_wp2_with fail
          refine (lawsSize x hx _).mono ?_
          rintro e w9 ⟨rfl, hw9⟩
          subst w9
          generalize pc x = z at *
          by_cases hd : q < (z : Int)
          · have HM := Lib.hid (show max q (z : Int) = z by omega)
            go_wp2_with fail
            go_roundw
            case rel => exact ⟨j + 1, by omega, by go_num, by rw [HSt.out, HM.out], by first | rfl | trivial⟩
            case measure => simp [intOf]; omega
          · have HM := Lib.hid (show max q (z : Int) = q by omega)
            go_wp2_with fail
            go_roundw
            case rel => exact ⟨j + 1, by omega, by go_num, by rw [HSt.out, HM.out], by first | rfl | trivial⟩
            case measure => simp [intOf]; omega
        · obtain rfl : j = A.length := by omega
          have HWo := HW.out
          generalize widTo A A.length = q at *
          subst q
          have x0 := X.out.out.at0
          have x1 := X.out.out.at1
          by_cases hv0 : V < 0
          · have hl0 := hneg.1 hv0
            have hd1 : decide (V < 0) = true := decide_eq_true hv0
            have hd2 : ((L : Int) == 0) = true := by simp [hl0]
            clear hneg hpw hl0
            go_wp2_with fail
            go_quiet ((go_at_call 34; exact Calls.quiet_of_same (HB.out _)))
            go_wp2_with fail
            go_ret
            exact ⟨rfl, below_drewN B.out _⟩
          · have hl0 : ¬ L = 0 := fun e => hv0 (hneg.2 e)
            obtain ⟨d, rfl⟩ := Int.eq_ofNat_of_zero_le (show 0 ≤ V by omega)
            have hp := hpw (by omega)
            rw [Int.toNat_natCast] at hp
            have hd1 : decide ((d : Int) < 0) = false := decide_eq_false (by omega)
            have hd2 : ((L : Int) == 0) = false := by simp; omega
            have HPW := Lib.hid (fun w => (lawsPower (d : Int) w (by omega) (by omega)).mono fun _ _ h => And.intro h.1 h.2.symm)
            have hpI : (2 : Int) ^ d ≤ (L : Int) := by
              have : ((2 ^ d : Nat) : Int) = (2 : Int) ^ d := by simp
              omega
            rw [Int.toNat_natCast] at HPW
            generalize (2 : Int) ^ d = T at *
            clear hneg hpw hp
            go_wp2_with fail
            go_quiet (first | (go_at_call 18; exact Calls.quiet_of_same (HPW.out _)) | (go_at_call 34; exact Calls.quiet_of_same (HB.out _)))
            go_wp2_with fail
            go_ret
            exact ⟨rfl, below_drewN B.out _⟩
    · rw [Bool.not_eq_true] at hv
      have eA : vcB N zs = -1 := vcB_bad hv
      have HI := Lib.hid (fun v w h => implVCDimension N v zs w h)
      have HS := Lib.hid (fun v w h => specVCDimension N v zs w h)
      have HV := Lib.hid (fun v w h => implValid N v zs w h)
      rw [eA] at HI HS
      rw [hv] at HV
      clear eA hv
      refine (HI.out _ _ I1.out.rd).mono ?_
      rintro e w3 ⟨rfl, hb3⟩
      have hz3 := hb3.size
      replace X := Lib.hid (X.out.next hb3 (by omega))
      replace I1 := Lib.hid (I1.out.below hb3 (Nat.le_refl _))
      replace B := Lib.hid (B.out.trans (hb3.mono (by omega)))
      clear hb3
      have x0 := X.out.out.at0
      have x1 := X.out.out.at1
      go_wp2_with fail
      clear x0 x1
      refine (HS.out _ _ I1.out.rd).mono ?_
      rintro e w4 ⟨rfl, hb4⟩
      have hz4 := hb4.size
      replace X := Lib.hid (X.out.next hb4 (by omega))
      replace I1 := Lib.hid (I1.out.below hb4 (Nat.le_refl _))
      replace B := Lib.hid (B.out.trans (hb4.mono (by omega)))
      clear hb4
      have x0 := X.out.out.at0
      have x1 := X.out.out.at1
      go_wp2_with fail
      clear x0 x1
      refine (HV.out _ _ I1.out.rd).mono ?_
      rintro e w5 ⟨rfl, hb5⟩
      have hz5 := hb5.size
      replace X := Lib.hid (X.out.next hb5 (by omega))
      replace I1 := Lib.hid (I1.out.below hb5 (Nat.le_refl _))
      replace B := Lib.hid (B.out.trans (hb5.mono (by omega)))
      clear hb5
      have x0 := X.out.out.at0
      have x1 := X.out.out.at1
      go_wp2_with fail
      clear x0 x1
      refine (HS.out _ _ I1.out.rd).mono ?_
      rintro e w6 ⟨rfl, hb6⟩
      have hz6 := hb6.size
      replace X := Lib.hid (X.out.next hb6 (by omega))
      replace I1 := Lib.hid (I1.out.below hb6 (Nat.le_refl _))
      replace B := Lib.hid (B.out.trans (hb6.mono (by omega)))
      clear hb6
      have x0 := X.out.out.at0
      have x1 := X.out.out.at1
      go_wp2_with fail
      clear x0 x1
      go_ret
      exact ⟨rfl, B.out⟩
  · go_enter Try.func7, Try.ntmps7
    go_wp2_with fail
    go_ret
    exact ⟨rfl, Below.refl _ _⟩

end Go.Proofs.Ytfnlfhgjmnjgaaa
