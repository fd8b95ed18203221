/- FnIsExtremal's walk: extremal classes have as many cubes as sets. Conditions: the code is a slice of bytes. -/
import Derived.Test.YtfnlfhgjmnjgaabZK
import Derived.Test.YtfnlfhgjmnjgaabZJ
import Derived.Test.YtfnlfhgjmnjgaabZI
import Derived.Test.YtfnlfhgjmnjgaabZG
import Derived.Test.YtfnlfhgjmnjgaabStrong
import Derived.Test.YtfnlfhgjmnjgaabShat
import Derived.Test.YtfnlfhgjmnjgaabZD
namespace Go.Proofs.Ytfnlfhgjmnjgaab
open Go.RowKit

theorem eqB_self (xs : List Int) : eqB xs xs = true := eqB_of rfl (fun _ _ => rfl)
theorem extB_iff' {m : Nat} {ns : List Nat} (h : Cls m ns) : extB (m : Int) (toI ns) = true ↔ extL m ns := by
  rw [extB_in (cls_vldB h), decide_eq_true_eq, shatN_in (cls_vldB h), toI_length, extL]


set_option maxHeartbeats 6400000 in
set_option maxRecDepth 100000 in
theorem walkFnIsExtremal (a : Option Addr) (b off n cap : Nat) (w : World) (hc : n ≤ cap) (hcap : cap ≤ maxLen) (h : Byt w a b off n) :
    Calls Try.prog 5 #[.slice a n cap] w fun e w' => e = .returned (.bool true) ∧ Below w.heap.size w w' := by
  by_cases hn : n ≤ 1048576
  · have HD := Lib.hid (dDrawIsExtremal a b off n cap w hc hn hcap h)
    clear h
    go_enter Try.func5, Try.ntmps5
    go_wp2_with fail
    refine HD.out.mono ?_
    rintro e w1 ⟨N, zs, hbd, a1, c1, rfl, hin, hb⟩
    generalize hL : zs.length = L at *
    have X := Lib.hid (Bx.new N (.slice a1 L c1) w1)
    have I1 := Lib.hid ((hin.mono (Nat.zero_le _)).alloc (Obj.cells #[.int .i64 N, .slice a1 L c1] 25))
    have B := Lib.hid (hb.alloc hb.size (Obj.cells #[.int .i64 N, .slice a1 L c1] 25))
    have HZ2 := Lib.hid (show (w1.alloc (Obj.cells #[.int .i64 N, .slice a1 L c1] 25)).heap.size = w1.heap.size + 1 by simp)
    have hz1 := hb.size
    clear hin hb HD
    go_wp2_with fail
    generalize (w1.alloc (Obj.cells #[.int .i64 N, .slice a1 L c1] 25)) = w2 at *
    have hz2 := HZ2.out
    generalize ho : w1.heap.size = o at *
    obtain ⟨hN0, hN1, hL34⟩ := hbd
    by_cases hv : vldB N zs = true
    · obtain ⟨m, ns, rfl, rfl, hcl⟩ := vldB_cls hv
      have hL2 : ns.length = L := by rw [← hL, toI_length]
      obtain ⟨G, hG⟩ : ∃ G, G = cmpl m ns := ⟨_, rfl⟩
      obtain ⟨D, hD⟩ : ∃ D, D = (List.range (2 ^ m)).filter (strg ns) := ⟨_, rfl⟩
      obtain ⟨A, hA⟩ : ∃ A, A = (List.range (2 ^ m)).filter (sht ns) := ⟨_, rfl⟩
      have eN : cmN (m : Int) (toI ns) = m := by rw [cmN, if_pos hv]
      have eC : cmL (m : Int) (toI ns) = toI G := by rw [cmL, if_pos hv, toNat_toI, Int.toNat_natCast, hG]
      have eD : strongL (m : Int) (toI ns) = toI D := by rw [strongL_in hv, ← hD]
      have eA : shatL (m : Int) (toI ns) = toI A := by rw [shatL_N, shatN_in hv, ← hA]
      have hcG : Cls m G := by rw [hG]; exact cmpl_cls hcl
      have hEG : extB (m : Int) (toI G) = extB (m : Int) (toI ns) := by
        rw [Bool.eq_iff_iff, extB_iff' hcG, extB_iff' hcl, hG]
        exact ext_cmpl hcl
      have hED : extB (m : Int) (toI ns) = true ↔ D.length = L := by
        rw [extB_iff' hcl, ext_strg hcl, hD, hL2]
      have hEA : extB (m : Int) (toI ns) = true → D = A := fun h => by rw [hD, hA]; exact ext_both hcl ((extB_iff' hcl).1 h)
      have HI := Lib.hid (fun v w h => implIsExtremal (m : Int) v (toI ns) w h)
      have HS := Lib.hid (fun v w h => specIsExtremal (m : Int) v (toI ns) w h)
      have HIG := Lib.hid (fun v w h => implIsExtremal (m : Int) v (toI G) w h)
      have HD := Lib.hid (fun v w h => implStrongSets (m : Int) v (toI ns) w h)
      have HT := Lib.hid (fun v w h => implShatteredSets (m : Int) v (toI ns) w h)
      have HV := Lib.hid (fun v w h => implValid (m : Int) v (toI ns) w h)
      have HC := Lib.hid (fun v w h => implComplementClass (m : Int) v (toI ns) w h)
      rw [hEG] at HIG
      rw [eN, eC] at HC
      rw [eD] at HD
      rw [eA] at HT
      rw [hv] at HV
      generalize extB (m : Int) (toI ns) = E at *
      clear hv hcl hcG hG eN eC hEG hD hA eD eA
      cases E
      · have hDL : ¬ D.length = L := fun e => absurd (hED.2 e) (by decide)
        have hd : ((D.length : Int) == (L : Int)) = false := by rw [beq_eq_false_iff_ne]; omega
        clear hEA hED hDL
        refine (HI.out _ _ I1.out.rd).mono ?_
        rintro e w3 ⟨rfl, hb3⟩
        have hz3 := hb3.size
        replace X := Lib.hid (X.out.next hb3 (by omega))
        replace I1 := Lib.hid (I1.out.below hb3 (Nat.le_refl _))
        replace B := Lib.hid (B.out.trans (hb3.mono (by omega)))
        clear hb3
        have x0 := X.out.out.at0
        have x1 := X.out.out.at1
        go_wp2_with fail
        clear x0 x1
        refine (HS.out _ _ I1.out.rd).mono ?_
        rintro e w4 ⟨rfl, hb4⟩
        have hz4 := hb4.size
        replace X := Lib.hid (X.out.next hb4 (by omega))
        replace I1 := Lib.hid (I1.out.below hb4 (Nat.le_refl _))
        replace B := Lib.hid (B.out.trans (hb4.mono (by omega)))
        clear hb4
        have x0 := X.out.out.at0
        have x1 := X.out.out.at1
        go_wp2_with fail
        clear x0 x1
        refine (HV.out _ _ I1.out.rd).mono ?_
        rintro e w5 ⟨rfl, hb5⟩
        have hz5 := hb5.size
        replace X := Lib.hid (X.out.next hb5 (by omega))
        replace I1 := Lib.hid (I1.out.below hb5 (Nat.le_refl _))
        replace B := Lib.hid (B.out.trans (hb5.mono (by omega)))
        clear hb5
        have x0 := X.out.out.at0
        have x1 := X.out.out.at1
        go_wp2_with fail
        clear x0 x1
        refine (HD.out _ _ I1.out.rd).mono ?_
        rintro e w6 ⟨a6, c6, rfl, hin6, hb6⟩
        rw [toI_length] at hin6 ⊢
        have hz6 := hb6.size
        replace X := Lib.hid (X.out.next hb6 (by omega))
        replace I1 := Lib.hid (I1.out.below hb6 (Nat.le_refl _))
        replace B := Lib.hid (B.out.trans (hb6.mono (by omega)))
        have ID := Lib.hid (hin6.mono (Nat.zero_le _))
        clear hin6 hb6
        have x0 := X.out.out.at0
        have x1 := X.out.out.at1
        go_wp2_with fail
        clear x0 x1
        refine (HC.out _ _ I1.out.rd).mono ?_
        rintro e w7 ⟨a7, c7, rfl, hin7, hb7⟩
        rw [toI_length] at hin7 ⊢
        have hz7 := hb7.size
        replace X := Lib.hid (X.out.next hb7 (by omega))
        replace I1 := Lib.hid (I1.out.below hb7 (Nat.le_refl _))
        replace ID := Lib.hid (ID.out.below hb7 (Nat.le_refl _))
        replace B := Lib.hid (B.out.trans (hb7.mono (by omega)))
        have IG := Lib.hid (hin7.mono (Nat.zero_le _))
        clear hin7 hb7
        have x0 := X.out.out.at0
        have x1 := X.out.out.at1
        go_wp2_with fail
        clear x0 x1
        refine (HIG.out _ _ IG.out.rd).mono ?_
        rintro e w8 ⟨rfl, hb8⟩
        have hz8 := hb8.size
        replace X := Lib.hid (X.out.next hb8 (by omega))
        replace I1 := Lib.hid (I1.out.below hb8 (Nat.le_refl _))
        replace ID := Lib.hid (ID.out.below hb8 (Nat.le_refl _))
        replace IG := Lib.hid (IG.out.below hb8 (Nat.le_refl _))
        replace B := Lib.hid (B.out.trans (hb8.mono (by omega)))
        clear hb8
        have x0 := X.out.out.at0
        have x1 := X.out.out.at1
        go_wp2_with fail
        clear x0 x1
        go_ret
        exact ⟨rfl, B.out⟩
      · have hDL := hED.1 rfl
        obtain rfl := hEA rfl
        have hd : ((D.length : Int) == (L : Int)) = true := by rw [hDL]; simp
        clear hEA hED hDL
        refine (HI.out _ _ I1.out.rd).mono ?_
        rintro e w3 ⟨rfl, hb3⟩
        have hz3 := hb3.size
        replace X := Lib.hid (X.out.next hb3 (by omega))
        replace I1 := Lib.hid (I1.out.below hb3 (Nat.le_refl _))
        replace B := Lib.hid (B.out.trans (hb3.mono (by omega)))
        clear hb3
        have x0 := X.out.out.at0
        have x1 := X.out.out.at1
        go_wp2_with fail
        clear x0 x1
        refine (HS.out _ _ I1.out.rd).mono ?_
        rintro e w4 ⟨rfl, hb4⟩
        have hz4 := hb4.size
        replace X := Lib.hid (X.out.next hb4 (by omega))
        replace I1 := Lib.hid (I1.out.below hb4 (Nat.le_refl _))
        replace B := Lib.hid (B.out.trans (hb4.mono (by omega)))
        clear hb4
        have x0 := X.out.out.at0
        have x1 := X.out.out.at1
        go_wp2_with fail
        clear x0 x1
        refine (HV.out _ _ I1.out.rd).mono ?_
        rintro e w5 ⟨rfl, hb5⟩
        have hz5 := hb5.size
        replace X := Lib.hid (X.out.next hb5 (by omega))
        replace I1 := Lib.hid (I1.out.below hb5 (Nat.le_refl _))
        replace B := Lib.hid (B.out.trans (hb5.mono (by omega)))
        clear hb5
        have x0 := X.out.out.at0
        have x1 := X.out.out.at1
        go_wp2_with fail
        clear x0 x1
        refine (HD.out _ _ I1.out.rd).mono ?_
        rintro e w6 ⟨a6, c6, rfl, hin6, hb6⟩
        rw [toI_length] at hin6 ⊢
        have hz6 := hb6.size
        replace X := Lib.hid (X.out.next hb6 (by omega))
        replace I1 := Lib.hid (I1.out.below hb6 (Nat.le_refl _))
        replace B := Lib.hid (B.out.trans (hb6.mono (by omega)))
        have ID := Lib.hid (hin6.mono (Nat.zero_le _))
        clear hin6 hb6
        have x0 := X.out.out.at0
        have x1 := X.out.out.at1
        go_wp2_with fail
        clear x0 x1
        refine (HC.out _ _ I1.out.rd).mono ?_
        rintro e w7 ⟨a7, c7, rfl, hin7, hb7⟩
        rw [toI_length] at hin7 ⊢
        have hz7 := hb7.size
        replace X := Lib.hid (X.out.next hb7 (by omega))
        replace I1 := Lib.hid (I1.out.below hb7 (Nat.le_refl _))
        replace ID := Lib.hid (ID.out.below hb7 (Nat.le_refl _))
        replace B := Lib.hid (B.out.trans (hb7.mono (by omega)))
        have IG := Lib.hid (hin7.mono (Nat.zero_le _))
        clear hin7 hb7
        have x0 := X.out.out.at0
        have x1 := X.out.out.at1
        go_wp2_with fail
        clear x0 x1
        refine (HIG.out _ _ IG.out.rd).mono ?_
        rintro e w8 ⟨rfl, hb8⟩
        have hz8 := hb8.size
        replace X := Lib.hid (X.out.next hb8 (by omega))
        replace I1 := Lib.hid (I1.out.below hb8 (Nat.le_refl _))
        replace ID := Lib.hid (ID.out.below hb8 (Nat.le_refl _))
        replace IG := Lib.hid (IG.out.below hb8 (Nat.le_refl _))
        replace B := Lib.hid (B.out.trans (hb8.mono (by omega)))
        clear hb8
        have x0 := X.out.out.at0
        have x1 := X.out.out.at1
        go_wp2_with fail
        clear x0 x1
        refine (HT.out _ _ I1.out.rd).mono ?_
        rintro e w9 ⟨a9, c9, rfl, hin9, hb9⟩
        rw [toI_length] at hin9 ⊢
        have hz9 := hb9.size
        replace X := Lib.hid (X.out.next hb9 (by omega))
        replace I1 := Lib.hid (I1.out.below hb9 (Nat.le_refl _))
        replace ID := Lib.hid (ID.out.below hb9 (Nat.le_refl _))
        replace IG := Lib.hid (IG.out.below hb9 (Nat.le_refl _))
        replace B := Lib.hid (B.out.trans (hb9.mono (by omega)))
        have IA := Lib.hid (hin9.mono (Nat.zero_le _))
        clear hin9 hb9
        have x0 := X.out.out.at0
        have x1 := X.out.out.at1
        go_wp2_with fail
        clear x0 x1
        have HQ := Lib.hid (lawsEqualInts _ _ (toI D) (toI D) _ ID.out.rd IA.out.rd)
        rw [eqB_self] at HQ
        refine (HQ.out).mono ?_
        rintro e w10 ⟨rfl, hd10⟩
        have hb10 : Below w9.heap.size w9 w10 := by obtain ⟨d, rfl⟩ := hd10; exact below_drewN (Below.refl _ _) d
        clear hd10
        have hz10 := hb10.size
        replace X := Lib.hid (X.out.next hb10 (by omega))
        replace I1 := Lib.hid (I1.out.below hb10 (Nat.le_refl _))
        replace ID := Lib.hid (ID.out.below hb10 (Nat.le_refl _))
        replace IG := Lib.hid (IG.out.below hb10 (Nat.le_refl _))
        replace IA := Lib.hid (IA.out.below hb10 (Nat.le_refl _))
        replace B := Lib.hid (B.out.trans (hb10.mono (by omega)))
        clear hb10
        have x0 := X.out.out.at0
        have x1 := X.out.out.at1
        go_wp2_with fail
        clear x0 x1
        go_ret
        exact ⟨rfl, B.out⟩
    · rw [Bool.not_eq_true] at hv
      have HI := Lib.hid (fun v w h => implIsExtremal N v zs w h)
      have HS := Lib.hid (fun v w h => specIsExtremal N v zs w h)
      have HV := Lib.hid (fun v w h => implValid N v zs w h)
      rw [extB_bad hv] at HI HS
      rw [hv] at HV
      clear hv
      refine (HI.out _ _ I1.out.rd).mono ?_
      rintro e w3 ⟨rfl, hb3⟩
      have hz3 := hb3.size
      replace X := Lib.hid (X.out.next hb3 (by omega))
      replace I1 := Lib.hid (I1.out.below hb3 (Nat.le_refl _))
      replace B := Lib.hid (B.out.trans (hb3.mono (by omega)))
      clear hb3
      have x0 := X.out.out.at0
      have x1 := X.out.out.at1
      go_wp2_with fail
      clear x0 x1
      refine (HS.out _ _ I1.out.rd).mono ?_
      rintro e w4 ⟨rfl, hb4⟩
      have hz4 := hb4.size
      replace X := Lib.hid (X.out.next hb4 (by omega))
      replace I1 := Lib.hid (I1.out.below hb4 (Nat.le_refl _))
      replace B := Lib.hid (B.out.trans (hb4.mono (by omega)))
      clear hb4
      have x0 := X.out.out.at0
      have x1 := X.out.out.at1
      go_wp2_with fail
      clear x0 x1
      refine (HV.out _ _ I1.out.rd).mono ?_
      rintro e w5 ⟨rfl, hb5⟩
      have hz5 := hb5.size
      replace X := Lib.hid (X.out.next hb5 (by omega))
      replace I1 := Lib.hid (I1.out.below hb5 (Nat.le_refl _))
      replace B := Lib.hid (B.out.trans (hb5.mono (by omega)))
      clear hb5
      have x0 := X.out.out.at0
      have x1 := X.out.out.at1
      go_wp2_with fail
      clear x0 x1
      refine (HS.out _ _ I1.out.rd).mono ?_
      rintro e w6 ⟨rfl, hb6⟩
      have hz6 := hb6.size
      replace X := Lib.hid (X.out.next hb6 (by omega))
      replace I1 := Lib.hid (I1.out.below hb6 (Nat.le_refl _))
      replace B := Lib.hid (B.out.trans (hb6.mono (by omega)))
      clear hb6
      have x0 := X.out.out.at0
      have x1 := X.out.out.at1
      go_wp2_with fail
      clear x0 x1
      go_ret
      exact ⟨rfl, B.out⟩
  · go_enter Try.func5, Try.ntmps5
    go_wp2_with fail
    go_ret
    exact ⟨rfl, Below.refl _ _⟩

end Go.Proofs.Ytfnlfhgjmnjgaab
