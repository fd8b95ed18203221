/- FnShatteredSets's walk: at least as many sets are shattered as there are. Conditions: the code is a slice of bytes. -/
import Derived.Test.YtfnlfhgjmnjgaaaZK
import Derived.Test.YtfnlfhgjmnjgaaaZJ
import Derived.Test.YtfnlfhgjmnjgaaaZI
import Derived.Test.YtfnlfhgjmnjgaaaShatS
import Derived.Test.YtfnlfhgjmnjgaaaShat
import Derived.Test.YtfnlfhgjmnjgaaaStrongS
import Derived.Test.YtfnlfhgjmnjgaaaStrong
namespace Go.Proofs.Ytfnlfhgjmnjgaaa
open Go.RowKit

theorem eqB_self (xs : List Int) : eqB xs xs = true := eqB_of rfl (fun _ _ => rfl)

set_option maxHeartbeats 6400000 in
set_option maxRecDepth 100000 in
theorem walkFnShatteredSets (a : Option Addr) (b off n cap : Nat) (w : World) (hc : n ≤ cap) (hcap : cap ≤ maxLen) (h : Byt w a b off n) :
    Calls Try.prog 6 #[.slice a n cap] w fun e w' => e = .returned (.bool true) ∧ Below w.heap.size w w' := by
  by_cases hn : n ≤ 1048576
  · have HD := Lib.hid (dDrawShatteredSets a b off n cap w hc hn hcap h)
    clear h
    go_enter Try.func6, Try.ntmps6
    go_wp2_with fail
    refine HD.out.mono ?_
    rintro e w1 ⟨N, zs, hbd, a1, c1, rfl, hin, hb⟩
    generalize hL : zs.length = L at *
    have X := Lib.hid (Bx.new N (.slice a1 L c1) w1)
    have I1 := Lib.hid ((hin.mono (Nat.zero_le _)).alloc (Obj.cells #[.int .i64 N, .slice a1 L c1] 25))
    have B := Lib.hid (hb.alloc hb.size (Obj.cells #[.int .i64 N, .slice a1 L c1] 25))
    have HZ2 := Lib.hid (show (w1.alloc (Obj.cells #[.int .i64 N, .slice a1 L c1] 25)).heap.size = w1.heap.size + 1 by simp)
    have hz1 := hb.size
    clear hin hb HD
    go_wp2_with fail
    generalize (w1.alloc (Obj.cells #[.int .i64 N, .slice a1 L c1] 25)) = w2 at *
    have hz2 := HZ2.out
    generalize ho : w1.heap.size = o at *
    obtain ⟨hN0, hN1, hL34⟩ := hbd
    by_cases hv : vldB N zs = true
    · obtain ⟨m, ns, rfl, rfl, hcl⟩ := vldB_cls hv
      have hL2 : ns.length = L := by rw [← hL, toI_length]
      obtain ⟨A, hA⟩ : ∃ A, A = (List.range (2 ^ m)).filter (sht ns) := ⟨_, rfl⟩
      obtain ⟨D, hD⟩ : ∃ D, D = (List.range (2 ^ m)).filter (strg ns) := ⟨_, rfl⟩
      have eA : shatL (m : Int) (toI ns) = toI A := by rw [shatL_N, shatN_in hv, ← hA]
      have eD : strongL (m : Int) (toI ns) = toI D := by rw [strongL_in hv, ← hD]
      have HI := Lib.hid (fun v w h => implShatteredSets (m : Int) v (toI ns) w h)
      have HS := Lib.hid (fun v w h => specShatteredSets (m : Int) v (toI ns) w h)
      have HG := Lib.hid (fun v w h => implStrongSets (m : Int) v (toI ns) w h)
      have HV := Lib.hid (fun v w h => implValid (m : Int) v (toI ns) w h)
      rw [eA] at HI HS
      rw [eD] at HG
      rw [hv] at HV
      have hge : (L : Int) ≤ (A.length : Int) := by
        have := shat_many hcl
        rw [hL2, ← hA] at this
        omega
      have HAD := Lib.hid (show ∀ x ∈ D, x ∈ A from fun x hx => by
        rw [hD, List.mem_filter] at hx
        rw [hA, List.mem_filter]
        exact ⟨hx.1, strg_sht hcl (List.mem_range.1 hx.1) hx.2⟩)
      have HAs := Lib.hid (show A.Pairwise (· < ·) by rw [hA]; exact (range_asc _).filter _)
      clear hA hD eA eD hv hcl
      refine (HI.out _ _ I1.out.rd).mono ?_
      rintro e w3 ⟨a3, c3, rfl, hin3, hb3⟩
      rw [toI_length] at hin3 ⊢
      have hz3 := hb3.size
      replace X := Lib.hid (X.out.next hb3 (by omega))
      replace I1 := Lib.hid (I1.out.below hb3 (Nat.le_refl _))
      replace B := Lib.hid (B.out.trans (hb3.mono (by omega)))
      have IA := Lib.hid (hin3.mono (Nat.zero_le _))
      clear hin3 hb3
      have x0 := X.out.out.at0
      have x1 := X.out.out.at1
      go_wp2_with fail
      clear x0 x1
      refine (HS.out _ _ I1.out.rd).mono ?_
      rintro e w4 ⟨a4, c4, rfl, hin4, hb4⟩
      rw [toI_length] at hin4 ⊢
      have hz4 := hb4.size
      replace X := Lib.hid (X.out.next hb4 (by omega))
      replace I1 := Lib.hid (I1.out.below hb4 (Nat.le_refl _))
      replace IA := Lib.hid (IA.out.below hb4 (Nat.le_refl _))
      replace B := Lib.hid (B.out.trans (hb4.mono (by omega)))
      have IB := Lib.hid (hin4.mono (Nat.zero_le _))
      clear hin4 hb4
      have x0 := X.out.out.at0
      have x1 := X.out.out.at1
      go_wp2_with fail
      clear x0 x1
      have HQ := Lib.hid (lawsEqualInts _ _ (toI A) (toI A) _ IA.out.rd IB.out.rd)
      rw [eqB_self] at HQ
      refine (HQ.out).mono ?_
      rintro e w5 ⟨rfl, hd5⟩
      have hb5 : Below w4.heap.size w4 w5 := by obtain ⟨d, rfl⟩ := hd5; exact below_drewN (Below.refl _ _) d
      clear hd5
      have hz5 := hb5.size
      replace X := Lib.hid (X.out.next hb5 (by omega))
      replace I1 := Lib.hid (I1.out.below hb5 (Nat.le_refl _))
      replace IA := Lib.hid (IA.out.below hb5 (Nat.le_refl _))
      replace IB := Lib.hid (IB.out.below hb5 (Nat.le_refl _))
      replace B := Lib.hid (B.out.trans (hb5.mono (by omega)))
      clear hb5
      have x0 := X.out.out.at0
      have x1 := X.out.out.at1
      go_wp2_with fail
      clear x0 x1
      refine (HV.out _ _ I1.out.rd).mono ?_
      rintro e w6 ⟨rfl, hb6⟩
      have hz6 := hb6.size
      replace X := Lib.hid (X.out.next hb6 (by omega))
      replace I1 := Lib.hid (I1.out.below hb6 (Nat.le_refl _))
      replace IA := Lib.hid (IA.out.below hb6 (Nat.le_refl _))
      replace IB := Lib.hid (IB.out.below hb6 (Nat.le_refl _))
      replace B := Lib.hid (B.out.trans (hb6.mono (by omega)))
      clear hb6
      have x0 := X.out.out.at0
      have x1 := X.out.out.at1
      go_wp2_with fail
      clear x0 x1
      refine (HG.out _ _ I1.out.rd).mono ?_
      rintro e w7 ⟨a7, c7, rfl, hin7, hb7⟩
      rw [toI_length] at hin7 ⊢
      have hz7 := hb7.size
      replace X := Lib.hid (X.out.next hb7 (by omega))
      replace I1 := Lib.hid (I1.out.below hb7 (Nat.le_refl _))
      replace IA := Lib.hid (IA.out.below hb7 (Nat.le_refl _))
      replace IB := Lib.hid (IB.out.below hb7 (Nat.le_refl _))
      replace B := Lib.hid (B.out.trans (hb7.mono (by omega)))
      have ID := Lib.hid (hin7.mono (Nat.zero_le _))
      clear hin7 hb7
      have x0 := X.out.out.at0
      have x1 := X.out.out.at1
      go_wp2_with fail
      clear x0 x1
      refine (lawsAmong _ _ D A _ ID.out.rd IA.out.rd HAD.out).mono ?_
      rintro e w8 ⟨rfl, hw8⟩
      subst w8
      have x0 := X.out.out.at0
      have x1 := X.out.out.at1
      go_wp2_with fail
      clear x0 x1
      refine (lawsAscends _ A _ IA.out.rd HAs.out).mono ?_
      rintro e w8 ⟨rfl, hd8⟩
      have hb8 : Below w7.heap.size w7 w8 := by obtain ⟨d, rfl⟩ := hd8; exact below_drewN (Below.refl _ _) d
      clear hd8
      have hz8 := hb8.size
      replace X := Lib.hid (X.out.next hb8 (by omega))
      replace I1 := Lib.hid (I1.out.below hb8 (Nat.le_refl _))
      replace IA := Lib.hid (IA.out.below hb8 (Nat.le_refl _))
      replace IB := Lib.hid (IB.out.below hb8 (Nat.le_refl _))
      replace ID := Lib.hid (ID.out.below hb8 (Nat.le_refl _))
      replace B := Lib.hid (B.out.trans (hb8.mono (by omega)))
      clear hb8
      have x0 := X.out.out.at0
      have x1 := X.out.out.at1
      go_wp2_with fail
      clear x0 x1
      go_ret
      exact ⟨rfl, B.out⟩
    · rw [Bool.not_eq_true] at hv
      have eA : shatL N zs = [] := by rw [shatL, if_neg (by simp [hv])]
      have HI := Lib.hid (fun v w h => implShatteredSets N v zs w h)
      have HS := Lib.hid (fun v w h => specShatteredSets N v zs w h)
      have HV := Lib.hid (fun v w h => implValid N v zs w h)
      rw [eA] at HI HS
      rw [hv] at HV
      clear eA hv
      refine (HI.out _ _ I1.out.rd).mono ?_
      rintro e w3 ⟨a3, c3, rfl, hin3, hb3⟩
      have hz3 := hb3.size
      replace X := Lib.hid (X.out.next hb3 (by omega))
      replace I1 := Lib.hid (I1.out.below hb3 (Nat.le_refl _))
      replace B := Lib.hid (B.out.trans (hb3.mono (by omega)))
      have IA := Lib.hid (hin3.mono (Nat.zero_le _))
      clear hin3 hb3
      have x0 := X.out.out.at0
      have x1 := X.out.out.at1
      go_wp2_with fail
      clear x0 x1
      refine (HS.out _ _ I1.out.rd).mono ?_
      rintro e w4 ⟨a4, c4, rfl, hin4, hb4⟩
      have hz4 := hb4.size
      replace X := Lib.hid (X.out.next hb4 (by omega))
      replace I1 := Lib.hid (I1.out.below hb4 (Nat.le_refl _))
      replace IA := Lib.hid (IA.out.below hb4 (Nat.le_refl _))
      replace B := Lib.hid (B.out.trans (hb4.mono (by omega)))
      have IB := Lib.hid (hin4.mono (Nat.zero_le _))
      clear hin4 hb4
      have x0 := X.out.out.at0
      have x1 := X.out.out.at1
      go_wp2_with fail
      clear x0 x1
      have HQ := Lib.hid (lawsEqualInts _ _ [] [] _ IA.out.rd IB.out.rd)
      rw [eqB_self] at HQ
      refine (HQ.out).mono ?_
      rintro e w5 ⟨rfl, hd5⟩
      have hb5 : Below w4.heap.size w4 w5 := by obtain ⟨d, rfl⟩ := hd5; exact below_drewN (Below.refl _ _) d
      clear hd5
      have hz5 := hb5.size
      replace X := Lib.hid (X.out.next hb5 (by omega))
      replace I1 := Lib.hid (I1.out.below hb5 (Nat.le_refl _))
      replace IA := Lib.hid (IA.out.below hb5 (Nat.le_refl _))
      replace IB := Lib.hid (IB.out.below hb5 (Nat.le_refl _))
      replace B := Lib.hid (B.out.trans (hb5.mono (by omega)))
      clear hb5
      have x0 := X.out.out.at0
      have x1 := X.out.out.at1
      go_wp2_with fail
      clear x0 x1
      refine (HV.out _ _ I1.out.rd).mono ?_
      rintro e w6 ⟨rfl, hb6⟩
      have hz6 := hb6.size
      replace X := Lib.hid (X.out.next hb6 (by omega))
      replace I1 := Lib.hid (I1.out.below hb6 (Nat.le_refl _))
      replace IA := Lib.hid (IA.out.below hb6 (Nat.le_refl _))
      replace IB := Lib.hid (IB.out.below hb6 (Nat.le_refl _))
      replace B := Lib.hid (B.out.trans (hb6.mono (by omega)))
      clear hb6
      have x0 := X.out.out.at0
      have x1 := X.out.out.at1
      go_wp2_with fail
      clear x0 x1
      refine (HS.out _ _ I1.out.rd).mono ?_
      rintro e w7 ⟨a7, c7, rfl, hin7, hb7⟩
      have hz7 := hb7.size
      replace X := Lib.hid (X.out.next hb7 (by omega))
      replace I1 := Lib.hid (I1.out.below hb7 (Nat.le_refl _))
      replace IA := Lib.hid (IA.out.below hb7 (Nat.le_refl _))
      replace IB := Lib.hid (IB.out.below hb7 (Nat.le_refl _))
      replace B := Lib.hid (B.out.trans (hb7.mono (by omega)))
      have IC := Lib.hid (hin7.mono (Nat.zero_le _))
      clear hin7 hb7
      have x0 := X.out.out.at0
      have x1 := X.out.out.at1
      go_wp2_with fail
      clear x0 x1
      have HQ2 := Lib.hid (lawsEqualInts _ _ [] [] _ IA.out.rd IC.out.rd)
      rw [eqB_self] at HQ2
      refine (HQ2.out).mono ?_
      rintro e w8 ⟨rfl, hd8⟩
      have hb8 : Below w7.heap.size w7 w8 := by obtain ⟨d, rfl⟩ := hd8; exact below_drewN (Below.refl _ _) d
      clear hd8
      have hz8 := hb8.size
      replace X := Lib.hid (X.out.next hb8 (by omega))
      replace I1 := Lib.hid (I1.out.below hb8 (Nat.le_refl _))
      replace IA := Lib.hid (IA.out.below hb8 (Nat.le_refl _))
      replace IB := Lib.hid (IB.out.below hb8 (Nat.le_refl _))
      replace IC := Lib.hid (IC.out.below hb8 (Nat.le_refl _))
      replace B := Lib.hid (B.out.trans (hb8.mono (by omega)))
      clear hb8
      have x0 := X.out.out.at0
      have x1 := X.out.out.at1
      go_wp2_with fail
      clear x0 x1
      go_ret
      exact ⟨rfl, B.out⟩
  · go_enter Try.func6, Try.ntmps6
    go_wp2_with fail
    go_ret
    exact ⟨rfl, Below.refl _ _⟩

end Go.Proofs.Ytfnlfhgjmnjgaaa
