/- FnGrowthOf's walk: growth is bounded. Conditions: the code is a slice of bytes. -/
import Derived.Test.YtfnlfhgjmnjgaabZK
import Derived.Test.YtfnlfhgjmnjgaabZJ
import Derived.Test.YtfnlfhgjmnjgaabDrawsG
import Derived.Test.YtfnlfhgjmnjgaabZI
import Derived.Test.YtfnlfhgjmnjgaabZC
namespace Go.Proofs.Ytfnlfhgjmnjgaab
open Go.RowKit

theorem eqB_self (xs : List Int) : eqB xs xs = true := eqB_of rfl (fun _ _ => rfl)

set_option maxHeartbeats 6400000 in
set_option maxRecDepth 100000 in
theorem walkFnGrowthOf (a : Option Addr) (b off n cap : Nat) (w : World) (hc : n ≤ cap) (hcap : cap ≤ maxLen) (h : Byt w a b off n) :
    Calls Try.prog 3 #[.slice a n cap] w fun e w' => e = .returned (.bool true) ∧ Below w.heap.size w w' := by
  by_cases hn : n ≤ 1048576
  · have HD := Lib.hid (dDrawGrowthOf a b off n cap w hc hn hcap h)
    clear h
    go_enter Try.func3, Try.ntmps3
    go_wp2_with fail
    refine HD.out.mono ?_
    rintro e w1 ⟨N, zs, s, hbd, a1, c1, rfl, hin, hb⟩
    generalize hL : zs.length = L at *
    have X := Lib.hid (Bx.new N (.slice a1 L c1) w1)
    have I1 := Lib.hid ((hin.mono (Nat.zero_le _)).alloc (Obj.cells #[.int .i64 N, .slice a1 L c1] 25))
    have B := Lib.hid (hb.alloc hb.size (Obj.cells #[.int .i64 N, .slice a1 L c1] 25))
    have HZ2 := Lib.hid (show (w1.alloc (Obj.cells #[.int .i64 N, .slice a1 L c1] 25)).heap.size = w1.heap.size + 1 by simp)
    have hz1 := hb.size
    clear hin hb HD
    go_wp2_with fail
    generalize (w1.alloc (Obj.cells #[.int .i64 N, .slice a1 L c1] 25)) = w2 at *
    have hz2 := HZ2.out
    generalize ho : w1.heap.size = o at *
    obtain ⟨hN0, hN1, hL34⟩ := hbd
    by_cases hv : vldB N zs = true
    · obtain ⟨m, ns, rfl, rfl, hcl⟩ := vldB_cls hv
      have hL2 : ns.length = L := by rw [← hL, toI_length]
      have hm := hcl.pts
      have HI := Lib.hid (fun v w h => implGrowthOf (m : Int) v (toI ns) s w h)
      have HS := Lib.hid (fun v w h => specGrowthOf (m : Int) v (toI ns) s w h)
      have HV := Lib.hid (fun v w h => implValid (m : Int) v (toI ns) w h)
      rw [hv] at HV
      by_cases hs0 : s < 0
      · have hd1 : decide (s < 0) = true := decide_eq_true hs0
        rw [growB_out (by omega)] at HI HS
        clear hcl hv
        refine (HI.out _ _ I1.out.rd).mono ?_
        rintro e w3 ⟨rfl, hb3⟩
        have hz3 := hb3.size
        replace X := Lib.hid (X.out.next hb3 (by omega))
        replace I1 := Lib.hid (I1.out.below hb3 (Nat.le_refl _))
        replace B := Lib.hid (B.out.trans (hb3.mono (by omega)))
        clear hb3
        have x0 := X.out.out.at0
        have x1 := X.out.out.at1
        go_wp2_with fail
        clear x0 x1
        refine (HS.out _ _ I1.out.rd).mono ?_
        rintro e w4 ⟨rfl, hb4⟩
        have hz4 := hb4.size
        replace X := Lib.hid (X.out.next hb4 (by omega))
        replace I1 := Lib.hid (I1.out.below hb4 (Nat.le_refl _))
        replace B := Lib.hid (B.out.trans (hb4.mono (by omega)))
        clear hb4
        have x0 := X.out.out.at0
        have x1 := X.out.out.at1
        go_wp2_with fail
        clear x0 x1
        refine (HV.out _ _ I1.out.rd).mono ?_
        rintro e w5 ⟨rfl, hb5⟩
        have hz5 := hb5.size
        replace X := Lib.hid (X.out.next hb5 (by omega))
        replace I1 := Lib.hid (I1.out.below hb5 (Nat.le_refl _))
        replace B := Lib.hid (B.out.trans (hb5.mono (by omega)))
        clear hb5
        have x0 := X.out.out.at0
        have x1 := X.out.out.at1
        go_wp2_with fail
        clear x0 x1
        refine (HS.out _ _ I1.out.rd).mono ?_
        rintro e w6 ⟨rfl, hb6⟩
        have hz6 := hb6.size
        replace X := Lib.hid (X.out.next hb6 (by omega))
        replace I1 := Lib.hid (I1.out.below hb6 (Nat.le_refl _))
        replace B := Lib.hid (B.out.trans (hb6.mono (by omega)))
        clear hb6
        have x0 := X.out.out.at0
        have x1 := X.out.out.at1
        go_wp2_with fail
        clear x0 x1
        go_ret
        exact ⟨rfl, B.out⟩
      · have hd1 : decide (s < 0) = false := decide_eq_false hs0
        by_cases hs1 : (m : Int) < s
        · have hd2 : decide ((m : Int) < s) = true := decide_eq_true hs1
          rw [growB_out (by omega)] at HI HS
          clear hcl hv
          refine (HI.out _ _ I1.out.rd).mono ?_
          rintro e w3 ⟨rfl, hb3⟩
          have hz3 := hb3.size
          replace X := Lib.hid (X.out.next hb3 (by omega))
          replace I1 := Lib.hid (I1.out.below hb3 (Nat.le_refl _))
          replace B := Lib.hid (B.out.trans (hb3.mono (by omega)))
          clear hb3
          have x0 := X.out.out.at0
          have x1 := X.out.out.at1
          go_wp2_with fail
          clear x0 x1
          refine (HS.out _ _ I1.out.rd).mono ?_
          rintro e w4 ⟨rfl, hb4⟩
          have hz4 := hb4.size
          replace X := Lib.hid (X.out.next hb4 (by omega))
          replace I1 := Lib.hid (I1.out.below hb4 (Nat.le_refl _))
          replace B := Lib.hid (B.out.trans (hb4.mono (by omega)))
          clear hb4
          have x0 := X.out.out.at0
          have x1 := X.out.out.at1
          go_wp2_with fail
          clear x0 x1
          refine (HV.out _ _ I1.out.rd).mono ?_
          rintro e w5 ⟨rfl, hb5⟩
          have hz5 := hb5.size
          replace X := Lib.hid (X.out.next hb5 (by omega))
          replace I1 := Lib.hid (I1.out.below hb5 (Nat.le_refl _))
          replace B := Lib.hid (B.out.trans (hb5.mono (by omega)))
          clear hb5
          have x0 := X.out.out.at0
          have x1 := X.out.out.at1
          go_wp2_with fail
          clear x0 x1
          refine (HS.out _ _ I1.out.rd).mono ?_
          rintro e w6 ⟨rfl, hb6⟩
          have hz6 := hb6.size
          replace X := Lib.hid (X.out.next hb6 (by omega))
          replace I1 := Lib.hid (I1.out.below hb6 (Nat.le_refl _))
          replace B := Lib.hid (B.out.trans (hb6.mono (by omega)))
          clear hb6
          have x0 := X.out.out.at0
          have x1 := X.out.out.at1
          go_wp2_with fail
          clear x0 x1
          go_ret
          exact ⟨rfl, B.out⟩
        · have hd2 : decide ((m : Int) < s) = false := decide_eq_false hs1
          obtain ⟨k, rfl⟩ := Int.eq_ofNat_of_zero_le (show 0 ≤ s by omega)
          have hkm : k ≤ m := by omega
          obtain ⟨V, hV⟩ : ∃ V, V = vcL m ns := ⟨_, rfl⟩
          obtain ⟨S, hS⟩ : ∃ S, S = sauerB (k : Int) V := ⟨_, rfl⟩
          obtain ⟨G, hG⟩ : ∃ G, G = growTo ns (k : Int) (2 ^ m) := ⟨_, rfl⟩
          have HC := Lib.hid (fun v w h => implVCDimension (m : Int) v (toI ns) w h)
          have HA := Lib.hid (fun v w h => implGrowthOf (m : Int) v (toI ns) (m : Int) w h)
          have HB := Lib.hid (fun w => implSauerBound (k : Int) V w)
          have HPW := Lib.hid (fun w => lawsPower (k : Int) w (by omega) (by omega))
          rw [growB_in hv (by omega), grow_all hcl, hL2] at HA
          rw [growB_in hv (by omega), ← hG] at HI HS
          rw [vcB_in hv, ← hV] at HC
          rw [← hS] at HB
          have hle : G ≤ S := by
            rw [hG, hS, hV]
            exact grow_le hcl hkm
          have hiff : G = (2 : Int) ^ k ↔ (k : Int) ≤ V := by
            rw [hG, hV]
            exact grow_pow hcl hkm
          rw [Int.toNat_natCast] at HPW
          generalize (2 : Int) ^ k = T at *
          clear hV hS hG hcl hv
          by_cases hkV : (k : Int) ≤ V
          · have hGT := hiff.2 hkV
            subst hGT
            have hd3 : decide ((k : Int) ≤ V) = true := decide_eq_true hkV
            clear hiff
            refine (HI.out _ _ I1.out.rd).mono ?_
            rintro e w3 ⟨rfl, hb3⟩
            have hz3 := hb3.size
            replace X := Lib.hid (X.out.next hb3 (by omega))
            replace I1 := Lib.hid (I1.out.below hb3 (Nat.le_refl _))
            replace B := Lib.hid (B.out.trans (hb3.mono (by omega)))
            clear hb3
            have x0 := X.out.out.at0
            have x1 := X.out.out.at1
            go_wp2_with fail
            clear x0 x1
            refine (HS.out _ _ I1.out.rd).mono ?_
            rintro e w4 ⟨rfl, hb4⟩
            have hz4 := hb4.size
            replace X := Lib.hid (X.out.next hb4 (by omega))
            replace I1 := Lib.hid (I1.out.below hb4 (Nat.le_refl _))
            replace B := Lib.hid (B.out.trans (hb4.mono (by omega)))
            clear hb4
            have x0 := X.out.out.at0
            have x1 := X.out.out.at1
            go_wp2_with fail
            clear x0 x1
            refine (HV.out _ _ I1.out.rd).mono ?_
            rintro e w5 ⟨rfl, hb5⟩
            have hz5 := hb5.size
            replace X := Lib.hid (X.out.next hb5 (by omega))
            replace I1 := Lib.hid (I1.out.below hb5 (Nat.le_refl _))
            replace B := Lib.hid (B.out.trans (hb5.mono (by omega)))
            clear hb5
            have x0 := X.out.out.at0
            have x1 := X.out.out.at1
            go_wp2_with fail
            clear x0 x1
            refine (HC.out _ _ I1.out.rd).mono ?_
            rintro e w6 ⟨rfl, hb6⟩
            have hz6 := hb6.size
            replace X := Lib.hid (X.out.next hb6 (by omega))
            replace I1 := Lib.hid (I1.out.below hb6 (Nat.le_refl _))
            replace B := Lib.hid (B.out.trans (hb6.mono (by omega)))
            clear hb6
            have x0 := X.out.out.at0
            have x1 := X.out.out.at1
            go_wp2_with fail
            go_region_held3 (fun w' => w'.cell? ⟨o, 0, none⟩ = some (.int .i64 (m : Int)) ∧ w'.cell? ⟨o, 1, none⟩ = some (.slice a1 L c1)) (first | exact ⟨x2, x3⟩ | exact ⟨x0, x1⟩ | go_keep) (first
              | (go_at_call 14; refine (HB.out _).mono ?_; rintro e w99 ⟨rfl, hw99⟩; subst w99)
              | (go_at_call 15; refine (HPW.out _).mono ?_; rintro e w99 ⟨rfl, hw99⟩; subst w99)
              | (go_at_call 10; refine (HA.out _ _ (by first | exact I1.out.rd | exact I1.out.rd.below (k := w6.heap.size) ((Below.refl _ _).drew) (Nat.le_refl _))).mono ?_; rintro e w7 ⟨rfl, hbd⟩; have hb7 : Below w6.heap.size w6 w7 := (by first | exact hbd | exact ⟨hbd.os, hbd.tape, hbd.output, hbd.size, hbd.block⟩); have hz7 := hb7.size; replace X := Lib.hid (X.out.next hb7 (by omega)); replace I1 := Lib.hid (I1.out.below hb7 (Nat.le_refl _)); replace B := Lib.hid (B.out.trans (hb7.mono (by omega))); clear hb7 hbd; have x2 := X.out.out.at0; have x3 := X.out.out.at1))
            all_goals
              go_wp2_with fail
              go_ret
              exact ⟨rfl, B.out⟩
          · have hGT : ¬ G = T := fun e => hkV (hiff.1 e)
            have hd3 : decide ((k : Int) ≤ V) = false := decide_eq_false hkV
            have hd4 : (G == T) = false := by simpa using hGT
            clear hiff
            refine (HI.out _ _ I1.out.rd).mono ?_
            rintro e w3 ⟨rfl, hb3⟩
            have hz3 := hb3.size
            replace X := Lib.hid (X.out.next hb3 (by omega))
            replace I1 := Lib.hid (I1.out.below hb3 (Nat.le_refl _))
            replace B := Lib.hid (B.out.trans (hb3.mono (by omega)))
            clear hb3
            have x0 := X.out.out.at0
            have x1 := X.out.out.at1
            go_wp2_with fail
            clear x0 x1
            refine (HS.out _ _ I1.out.rd).mono ?_
            rintro e w4 ⟨rfl, hb4⟩
            have hz4 := hb4.size
            replace X := Lib.hid (X.out.next hb4 (by omega))
            replace I1 := Lib.hid (I1.out.below hb4 (Nat.le_refl _))
            replace B := Lib.hid (B.out.trans (hb4.mono (by omega)))
            clear hb4
            have x0 := X.out.out.at0
            have x1 := X.out.out.at1
            go_wp2_with fail
            clear x0 x1
            refine (HV.out _ _ I1.out.rd).mono ?_
            rintro e w5 ⟨rfl, hb5⟩
            have hz5 := hb5.size
            replace X := Lib.hid (X.out.next hb5 (by omega))
            replace I1 := Lib.hid (I1.out.below hb5 (Nat.le_refl _))
            replace B := Lib.hid (B.out.trans (hb5.mono (by omega)))
            clear hb5
            have x0 := X.out.out.at0
            have x1 := X.out.out.at1
            go_wp2_with fail
            clear x0 x1
            refine (HC.out _ _ I1.out.rd).mono ?_
            rintro e w6 ⟨rfl, hb6⟩
            have hz6 := hb6.size
            replace X := Lib.hid (X.out.next hb6 (by omega))
            replace I1 := Lib.hid (I1.out.below hb6 (Nat.le_refl _))
            replace B := Lib.hid (B.out.trans (hb6.mono (by omega)))
            clear hb6
            have x0 := X.out.out.at0
            have x1 := X.out.out.at1
            go_wp2_with fail
            go_region_held3 (fun w' => w'.cell? ⟨o, 0, none⟩ = some (.int .i64 (m : Int)) ∧ w'.cell? ⟨o, 1, none⟩ = some (.slice a1 L c1)) (first | exact ⟨x2, x3⟩ | exact ⟨x0, x1⟩ | go_keep) (first
              | (go_at_call 14; refine (HB.out _).mono ?_; rintro e w99 ⟨rfl, hw99⟩; subst w99)
              | (go_at_call 15; refine (HPW.out _).mono ?_; rintro e w99 ⟨rfl, hw99⟩; subst w99)
              | (go_at_call 10; refine (HA.out _ _ (by first | exact I1.out.rd | exact I1.out.rd.below (k := w6.heap.size) ((Below.refl _ _).drew) (Nat.le_refl _))).mono ?_; rintro e w7 ⟨rfl, hbd⟩; have hb7 : Below w6.heap.size w6 w7 := (by first | exact hbd | exact ⟨hbd.os, hbd.tape, hbd.output, hbd.size, hbd.block⟩); have hz7 := hb7.size; replace X := Lib.hid (X.out.next hb7 (by omega)); replace I1 := Lib.hid (I1.out.below hb7 (Nat.le_refl _)); replace B := Lib.hid (B.out.trans (hb7.mono (by omega))); clear hb7 hbd; have x2 := X.out.out.at0; have x3 := X.out.out.at1))
            all_goals
              go_wp2_with fail
              go_ret
              exact ⟨rfl, B.out⟩
    · rw [Bool.not_eq_true] at hv
      have HI := Lib.hid (fun v w h => implGrowthOf N v zs s w h)
      have HS := Lib.hid (fun v w h => specGrowthOf N v zs s w h)
      have HV := Lib.hid (fun v w h => implValid N v zs w h)
      rw [growB_bad hv] at HI HS
      rw [hv] at HV
      clear hv
      refine (HI.out _ _ I1.out.rd).mono ?_
      rintro e w3 ⟨rfl, hb3⟩
      have hz3 := hb3.size
      replace X := Lib.hid (X.out.next hb3 (by omega))
      replace I1 := Lib.hid (I1.out.below hb3 (Nat.le_refl _))
      replace B := Lib.hid (B.out.trans (hb3.mono (by omega)))
      clear hb3
      have x0 := X.out.out.at0
      have x1 := X.out.out.at1
      go_wp2_with fail
      clear x0 x1
      refine (HS.out _ _ I1.out.rd).mono ?_
      rintro e w4 ⟨rfl, hb4⟩
      have hz4 := hb4.size
      replace X := Lib.hid (X.out.next hb4 (by omega))
      replace I1 := Lib.hid (I1.out.below hb4 (Nat.le_refl _))
      replace B := Lib.hid (B.out.trans (hb4.mono (by omega)))
      clear hb4
      have x0 := X.out.out.at0
      have x1 := X.out.out.at1
      go_wp2_with fail
      clear x0 x1
      refine (HV.out _ _ I1.out.rd).mono ?_
      rintro e w5 ⟨rfl, hb5⟩
      have hz5 := hb5.size
      replace X := Lib.hid (X.out.next hb5 (by omega))
      replace I1 := Lib.hid (I1.out.below hb5 (Nat.le_refl _))
      replace B := Lib.hid (B.out.trans (hb5.mono (by omega)))
      clear hb5
      have x0 := X.out.out.at0
      have x1 := X.out.out.at1
      go_wp2_with fail
      clear x0 x1
      refine (HS.out _ _ I1.out.rd).mono ?_
      rintro e w6 ⟨rfl, hb6⟩
      have hz6 := hb6.size
      replace X := Lib.hid (X.out.next hb6 (by omega))
      replace I1 := Lib.hid (I1.out.below hb6 (Nat.le_refl _))
      replace B := Lib.hid (B.out.trans (hb6.mono (by omega)))
      clear hb6
      have x0 := X.out.out.at0
      have x1 := X.out.out.at1
      go_wp2_with fail
      clear x0 x1
      go_ret
      exact ⟨rfl, B.out⟩
  · go_enter Try.func3, Try.ntmps3
    go_wp2_with fail
    go_ret
    exact ⟨rfl, Below.refl _ _⟩

end Go.Proofs.Ytfnlfhgjmnjgaab
