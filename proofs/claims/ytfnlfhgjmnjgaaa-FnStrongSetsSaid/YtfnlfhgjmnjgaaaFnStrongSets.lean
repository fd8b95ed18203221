/- FnStrongSets's walk: at most as many sets are strong as there are, and flips change none. Conditions: the code is a slice of bytes. -/
import Derived.Test.YtfnlfhgjmnjgaaaZK
import Derived.Test.YtfnlfhgjmnjgaaaZJ
import Derived.Test.YtfnlfhgjmnjgaaaZI
import Derived.Test.YtfnlfhgjmnjgaaaStrongS
import Derived.Test.YtfnlfhgjmnjgaaaStrong
import Derived.Test.YtfnlfhgjmnjgaaaZH
namespace Go.Proofs.Ytfnlfhgjmnjgaaa
open Go.RowKit

theorem eqB_self (xs : List Int) : eqB xs xs = true := eqB_of rfl (fun _ _ => rfl)

set_option maxHeartbeats 6400000 in
set_option maxRecDepth 100000 in
theorem walkFnStrongSets (a : Option Addr) (b off n cap : Nat) (w : World) (hc : n ≤ cap) (hcap : cap ≤ maxLen) (h : Byt w a b off n) :
    Calls Try.prog 9 #[.slice a n cap] w fun e w' => e = .returned (.bool true) ∧ Below w.heap.size w w' := by
  by_cases hn : n ≤ 1048576
  · have HD := Lib.hid (dDrawStrongSets a b off n cap w hc hn hcap h)
    clear h
    go_enter Try.func9, Try.ntmps9
    go_wp2_with fail
    refine HD.out.mono ?_
    rintro e w1 ⟨N, zs, hbd, a1, c1, rfl, hin, hb⟩
    generalize hL : zs.length = L at *
    have X := Lib.hid (Bx.new N (.slice a1 L c1) w1)
    have I1 := Lib.hid ((hin.mono (Nat.zero_le _)).alloc (Obj.cells #[.int .i64 N, .slice a1 L c1] 25))
    have B := Lib.hid (hb.alloc hb.size (Obj.cells #[.int .i64 N, .slice a1 L c1] 25))
    have HZ2 := Lib.hid (show (w1.alloc (Obj.cells #[.int .i64 N, .slice a1 L c1] 25)).heap.size = w1.heap.size + 1 by simp)
    have hz1 := hb.size
    clear hin hb HD
    go_wp2_with fail
    generalize (w1.alloc (Obj.cells #[.int .i64 N, .slice a1 L c1] 25)) = w2 at *
    have hz2 := HZ2.out
    generalize ho : w1.heap.size = o at *
    obtain ⟨hN0, hN1, hL34⟩ := hbd
    by_cases hv : vldB N zs = true
    · obtain ⟨m, ns, rfl, rfl, hcl⟩ := vldB_cls hv
      have hL2 : ns.length = L := by rw [← hL, toI_length]
      have hm := hcl.pts
      obtain ⟨D, hD⟩ : ∃ D, D = (List.range (2 ^ m)).filter (strg ns) := ⟨_, rfl⟩
      obtain ⟨t, ht⟩ : ∃ t, t = 2 ^ m - 1 := ⟨_, rfl⟩
      have hp0 := Nat.two_pow_pos m
      have hp5 := pow_le_32 hm
      have htlt : t < 2 ^ m := by omega
      have hq : (2 : Int) ^ m = (t : Int) + 1 := by
        have : ((2 ^ m : Nat) : Int) = (2 : Int) ^ m := by simp
        omega
      obtain ⟨G, hG⟩ : ∃ G, G = flp t ns := ⟨_, rfl⟩
      have eD : strongL (m : Int) (toI ns) = toI D := by rw [strongL_in hv, ← hD]
      have hcG : Cls m G := by rw [hG]; exact flp_cls hcl htlt
      have eG : strongL (m : Int) (toI G) = toI D := by
        rw [strongL_in (cls_vldB hcG), hD, hG]
        congr 1
        exact List.filter_congr (fun s hs => strg_flp hcl htlt (List.mem_range.1 hs))
      have hsb : setB m (t : Int) = true := by
        have : ((2 ^ m : Nat) : Int) = (2 : Int) ^ m := by simp
        simp only [setB, Bool.and_eq_true, decide_eq_true_eq]
        omega
      have hib : inB (m : Int) (toI ns) (t : Int) = true := by simp [inB, hv, hsb]
      have eN : flipN (m : Int) (toI ns) (t : Int) = m := by rw [flipN, if_pos hib]
      have eF : flipL (m : Int) (toI ns) (t : Int) = toI G := by rw [flipL, if_pos hib, toNat_toI, Int.toNat_natCast, hG, flp]
      have HI := Lib.hid (fun v w h => implStrongSets (m : Int) v (toI ns) w h)
      have HS := Lib.hid (fun v w h => specStrongSets (m : Int) v (toI ns) w h)
      have HF := Lib.hid (fun v w h => implFlipClass (m : Int) v (toI ns) (t : Int) w h)
      have HIG := Lib.hid (fun v w h => implStrongSets (m : Int) v (toI G) w h)
      have HV := Lib.hid (fun v w h => implValid (m : Int) v (toI ns) w h)
      have HPW := Lib.hid (fun w => lawsPower (m : Int) w (by omega) (by omega))
      rw [Int.toNat_natCast, hq] at HPW
      rw [eD] at HI HS
      rw [eG] at HIG
      rw [eN, eF] at HF
      rw [hv] at HV
      have hge : (D.length : Int) ≤ (L : Int) := by
        have := strong_few hcl
        rw [hL2, ← hD] at this
        omega
      have HAs := Lib.hid (show D.Pairwise (· < ·) by rw [hD]; exact (range_asc _).filter _)
      have ht32 : t < 32 := by omega
      have hw1 : IntKind.i64.wrap ((t : Int) + 1 - 1) = (t : Int) := by rw [IntKind.wrap_i64]; omega
      have hw2 : IntKind.i64.wrap (t : Int) = (t : Int) := by rw [IntKind.wrap_i64]; omega
      have HGl := Lib.hid (toI_length G)
      clear hD eD hv hcl hG eG hsb hib eN eF hq ht htlt hp0 hp5 hcG
      refine (HI.out _ _ I1.out.rd).mono ?_
      rintro e w3 ⟨a3, c3, rfl, hin3, hb3⟩
      rw [toI_length] at hin3 ⊢
      have hz3 := hb3.size
      replace X := Lib.hid (X.out.next hb3 (by omega))
      replace I1 := Lib.hid (I1.out.below hb3 (Nat.le_refl _))
      replace B := Lib.hid (B.out.trans (hb3.mono (by omega)))
      have IA := Lib.hid (hin3.mono (Nat.zero_le _))
      clear hin3 hb3
      have x0 := X.out.out.at0
      have x1 := X.out.out.at1
      go_wp2_with fail
      clear x0 x1
      refine (HS.out _ _ I1.out.rd).mono ?_
      rintro e w4 ⟨a4, c4, rfl, hin4, hb4⟩
      rw [toI_length] at hin4 ⊢
      have hz4 := hb4.size
      replace X := Lib.hid (X.out.next hb4 (by omega))
      replace I1 := Lib.hid (I1.out.below hb4 (Nat.le_refl _))
      replace IA := Lib.hid (IA.out.below hb4 (Nat.le_refl _))
      replace B := Lib.hid (B.out.trans (hb4.mono (by omega)))
      have IB := Lib.hid (hin4.mono (Nat.zero_le _))
      clear hin4 hb4
      have x0 := X.out.out.at0
      have x1 := X.out.out.at1
      go_wp2_with fail
      clear x0 x1
      have HQ := Lib.hid (lawsEqualInts _ _ (toI D) (toI D) _ IA.out.rd IB.out.rd)
      rw [eqB_self] at HQ
      refine (HQ.out).mono ?_
      rintro e w5 ⟨rfl, hd5⟩
      have hb5 : Below w4.heap.size w4 w5 := by obtain ⟨d, rfl⟩ := hd5; exact below_drewN (Below.refl _ _) d
      clear hd5
      have hz5 := hb5.size
      replace X := Lib.hid (X.out.next hb5 (by omega))
      replace I1 := Lib.hid (I1.out.below hb5 (Nat.le_refl _))
      replace IA := Lib.hid (IA.out.below hb5 (Nat.le_refl _))
      replace IB := Lib.hid (IB.out.below hb5 (Nat.le_refl _))
      replace B := Lib.hid (B.out.trans (hb5.mono (by omega)))
      clear hb5
      have x0 := X.out.out.at0
      have x1 := X.out.out.at1
      go_wp2_with fail
      clear x0 x1
      refine (HV.out _ _ I1.out.rd).mono ?_
      rintro e w6 ⟨rfl, hb6⟩
      have hz6 := hb6.size
      replace X := Lib.hid (X.out.next hb6 (by omega))
      replace I1 := Lib.hid (I1.out.below hb6 (Nat.le_refl _))
      replace IA := Lib.hid (IA.out.below hb6 (Nat.le_refl _))
      replace IB := Lib.hid (IB.out.below hb6 (Nat.le_refl _))
      replace B := Lib.hid (B.out.trans (hb6.mono (by omega)))
      clear hb6
      have x0 := X.out.out.at0
      have x1 := X.out.out.at1
      go_wp2_with fail
      clear x0 x1
      have x0 := X.out.out.at0
      have x1 := X.out.out.at1
      have XZ := Lib.hid (X.out.alloc (Obj.cells #[.int .i64 0, .slice none 0 0] 25))
      have IZ := Lib.hid (I1.out.alloc (Obj.cells #[.int .i64 0, .slice none 0 0] 25))
      have IAZ := Lib.hid (IA.out.alloc (Obj.cells #[.int .i64 0, .slice none 0 0] 25))
      have BZ := Lib.hid (B.out.alloc (by omega) (Obj.cells #[.int .i64 0, .slice none 0 0] 25))
      have YZ := Lib.hid (Bx.new 0 (.slice none 0 0) w6)
      have HZZ := Lib.hid (show (w6.alloc (Obj.cells #[.int .i64 0, .slice none 0 0] 25)).heap.size = w6.heap.size + 1 by simp)
      have z0 := XZ.out.out.at0
      have z1 := XZ.out.out.at1
      go_region_law (first
        | (go_simp; go_at_call 18; refine (HPW.out _).mono ?_; rintro e w9 ⟨rfl, hw9⟩; subst w9)
        | (go_simp; go_at_call 40; refine (HF.out _ _ (by first | exact I1.out.rd | exact I1.out.rd.below (k := w6.heap.size) ((Below.refl _ _).drew) (Nat.le_refl _))).mono ?_; rintro e w7 ⟨a7, c7, rfl, hin7, hbd⟩; rw [HGl.out] at hin7 ⊢; have hb7 : Below w6.heap.size w6 w7 := (by first | exact hbd | exact ⟨hbd.os, hbd.tape, hbd.output, hbd.size, hbd.block⟩); have hz7 := hb7.size; have X7 := Lib.hid (X.out.next hb7 (by omega)); have IA7 := Lib.hid (IA.out.below hb7 (Nat.le_refl _)); have I17 := Lib.hid (I1.out.below hb7 (Nat.le_refl _)); have B7 := Lib.hid (B.out.trans (hb7.mono (by omega))); have IF := Lib.hid (hin7.mono (Nat.zero_le _)); clear hin7 hb7 hbd)
        | (go_simp; go_at_call 40; refine (HF.out _ _ (by first | exact IZ.out.rd | exact IZ.out.rd.below (k := w6.heap.size) ((Below.refl _ _).drew) (by omega))).mono ?_; rintro e w7 ⟨a7, c7, rfl, hin7, hbd⟩; rw [HGl.out] at hin7 ⊢; have hb7 : Below (w6.heap.size + 1) (w6.alloc (Obj.cells #[.int .i64 0, .slice none 0 0] 25)) w7 := (by have hq := (show Below (w6.alloc (Obj.cells #[.int .i64 0, .slice none 0 0] 25)).heap.size (w6.alloc (Obj.cells #[.int .i64 0, .slice none 0 0] 25)) w7 from (by first | exact hbd | exact ⟨hbd.os, hbd.tape, hbd.output, hbd.size, hbd.block⟩)); rw [HZZ.out] at hq; exact hq); have hz7 : w6.heap.size + 1 ≤ w7.heap.size := (by have := hb7.size; rw [HZZ.out] at this; exact this); have X7 := Lib.hid (XZ.out.next hb7 (by omega)); have IA7 := Lib.hid (IAZ.out.below hb7 (by rw [HZZ.out]; exact Nat.le_refl _)); have I17 := Lib.hid (IZ.out.below hb7 (by rw [HZZ.out]; exact Nat.le_refl _)); have B7 := Lib.hid (BZ.out.trans (hb7.mono (by omega))); have YB := Lib.hid (YZ.out.next hb7 (by omega)); have IF := Lib.hid (hin7.mono (Nat.zero_le _)); clear hin7 hb7 hbd; have y0 := YB.out.out.at0; have y1 := YB.out.out.at1; have f0 := YB.out.out.free0; have f1 := YB.out.out.free1))
      all_goals
        first
        | (have XG := Lib.hid ((YB.out.setN m).set (.slice a7 G.length c7))
           have hne0 := YB.out.not_row IA7.out
           have hne1 := YB.out.not_row IF.out
           have hne2 := YB.out.not_row I17.out
           have hyX : w1.heap.size ≠ w6.heap.size := by omega
           replace X := Lib.hid ((X7.out.other (p := w6.heap.size) (j := 0) (by omega) (.int .i64 (m : Int))).other (p := w6.heap.size) (j := 1) (by omega) (.slice a7 G.length c7))
           replace IA := Lib.hid ((IA7.out.ne (j := 0) hne0 (.int .i64 (m : Int))).ne (j := 1) hne0 (.slice a7 G.length c7))
           replace IF := Lib.hid ((IF.out.ne (j := 0) hne1 (.int .i64 (m : Int))).ne (j := 1) hne1 (.slice a7 G.length c7))
           replace I1 := Lib.hid ((I17.out.ne (j := 0) hne2 (.int .i64 (m : Int))).ne (j := 1) hne2 (.slice a7 G.length c7))
           replace B := Lib.hid ((B7.out.setCell (p := ⟨w6.heap.size, 0, none⟩) (by show w.heap.size ≤ w6.heap.size; omega) (.int .i64 (m : Int))).setCell (p := ⟨w6.heap.size, 1, none⟩) (by show w.heap.size ≤ w6.heap.size; omega) (.slice a7 G.length c7))
           clear x0 x1 z0 z1 y0 y1 f0 f1 XZ IZ IAZ BZ YZ HZZ YB
           generalize ((w7.setCell ⟨w6.heap.size, 0, none⟩ (.int .i64 (m : Int))).setCell ⟨w6.heap.size, 1, none⟩ (.slice a7 G.length c7)) = wE at *
           generalize w6.heap.size = g at *)
        | (have XG := Lib.hid (Bx.new (m : Int) (.slice a7 G.length c7) w7)
           replace X := Lib.hid (X7.out.alloc (Obj.cells #[.int .i64 (m : Int), .slice a7 G.length c7] 25))
           replace IA := Lib.hid (IA7.out.alloc (Obj.cells #[.int .i64 (m : Int), .slice a7 G.length c7] 25))
           replace IF := Lib.hid (IF.out.alloc (Obj.cells #[.int .i64 (m : Int), .slice a7 G.length c7] 25))
           replace I1 := Lib.hid (I17.out.alloc (Obj.cells #[.int .i64 (m : Int), .slice a7 G.length c7] 25))
           replace B := Lib.hid (B7.out.alloc (by omega) (Obj.cells #[.int .i64 (m : Int), .slice a7 G.length c7] 25))
           clear x0 x1 z0 z1 XZ IZ IAZ BZ YZ HZZ
           generalize (w7.alloc (Obj.cells #[.int .i64 (m : Int), .slice a7 G.length c7] 25)) = wE at *
           generalize w7.heap.size = g at *)
      all_goals
        have hgE := XG.out.lt
        have hoE := X.out.lt
        have x0 := X.out.out.at0
        have x1 := X.out.out.at1
        have y0 := XG.out.out.at0
        have y1 := XG.out.out.at1
        go_wp2_with fail
        refine (HIG.out _ _ IF.out.rd).mono ?_
        rintro e wF ⟨aF, cF, rfl, hinF, hbF⟩
        rw [toI_length] at hinF ⊢
        have hIA := Lib.hid (IA.out.below hbF (Nat.le_refl _))
        have hIF := Lib.hid hinF
        have hB := Lib.hid (B.out.trans (hbF.mono (by have := B.out.size; omega)))
        clear hinF hbF x0 x1 y0 y1
        go_wp2_with fail
        have HQ2 := Lib.hid (lawsEqualInts _ _ (toI D) (toI D) _ hIF.out.rd hIA.out.rd)
        rw [eqB_self] at HQ2
        refine HQ2.out.mono ?_
        rintro e wG ⟨rfl, dG, rfl⟩
        have hIA2 := Lib.hid (show Ints 0 (wF.drewN dG) _ _ from hIA.out)
        go_wp2_with fail
        refine (lawsAscends _ D _ hIA2.out.rd HAs.out).mono ?_
        rintro e wH ⟨rfl, dH, rfl⟩
        go_wp2_with fail
        go_ret
        exact ⟨rfl, by first | exact below_drewN (below_drewN hB.out dG) dH | exact below_drewN hB.out _⟩
    · rw [Bool.not_eq_true] at hv
      have eA : strongL N zs = [] := strongL_bad hv
      have HI := Lib.hid (fun v w h => implStrongSets N v zs w h)
      have HS := Lib.hid (fun v w h => specStrongSets N v zs w h)
      have HV := Lib.hid (fun v w h => implValid N v zs w h)
      rw [eA] at HI HS
      rw [hv] at HV
      clear eA hv
      refine (HI.out _ _ I1.out.rd).mono ?_
      rintro e w3 ⟨a3, c3, rfl, hin3, hb3⟩
      have hz3 := hb3.size
      replace X := Lib.hid (X.out.next hb3 (by omega))
      replace I1 := Lib.hid (I1.out.below hb3 (Nat.le_refl _))
      replace B := Lib.hid (B.out.trans (hb3.mono (by omega)))
      have IA := Lib.hid (hin3.mono (Nat.zero_le _))
      clear hin3 hb3
      have x0 := X.out.out.at0
      have x1 := X.out.out.at1
      go_wp2_with fail
      clear x0 x1
      refine (HS.out _ _ I1.out.rd).mono ?_
      rintro e w4 ⟨a4, c4, rfl, hin4, hb4⟩
      have hz4 := hb4.size
      replace X := Lib.hid (X.out.next hb4 (by omega))
      replace I1 := Lib.hid (I1.out.below hb4 (Nat.le_refl _))
      replace IA := Lib.hid (IA.out.below hb4 (Nat.le_refl _))
      replace B := Lib.hid (B.out.trans (hb4.mono (by omega)))
      have IB := Lib.hid (hin4.mono (Nat.zero_le _))
      clear hin4 hb4
      have x0 := X.out.out.at0
      have x1 := X.out.out.at1
      go_wp2_with fail
      clear x0 x1
      have HQ := Lib.hid (lawsEqualInts _ _ [] [] _ IA.out.rd IB.out.rd)
      rw [eqB_self] at HQ
      refine (HQ.out).mono ?_
      rintro e w5 ⟨rfl, hd5⟩
      have hb5 : Below w4.heap.size w4 w5 := by obtain ⟨d, rfl⟩ := hd5; exact below_drewN (Below.refl _ _) d
      clear hd5
      have hz5 := hb5.size
      replace X := Lib.hid (X.out.next hb5 (by omega))
      replace I1 := Lib.hid (I1.out.below hb5 (Nat.le_refl _))
      replace IA := Lib.hid (IA.out.below hb5 (Nat.le_refl _))
      replace IB := Lib.hid (IB.out.below hb5 (Nat.le_refl _))
      replace B := Lib.hid (B.out.trans (hb5.mono (by omega)))
      clear hb5
      have x0 := X.out.out.at0
      have x1 := X.out.out.at1
      go_wp2_with fail
      clear x0 x1
      refine (HV.out _ _ I1.out.rd).mono ?_
      rintro e w6 ⟨rfl, hb6⟩
      have hz6 := hb6.size
      replace X := Lib.hid (X.out.next hb6 (by omega))
      replace I1 := Lib.hid (I1.out.below hb6 (Nat.le_refl _))
      replace IA := Lib.hid (IA.out.below hb6 (Nat.le_refl _))
      replace IB := Lib.hid (IB.out.below hb6 (Nat.le_refl _))
      replace B := Lib.hid (B.out.trans (hb6.mono (by omega)))
      clear hb6
      have x0 := X.out.out.at0
      have x1 := X.out.out.at1
      go_wp2_with fail
      clear x0 x1
      refine (HS.out _ _ I1.out.rd).mono ?_
      rintro e w7 ⟨a7, c7, rfl, hin7, hb7⟩
      have hz7 := hb7.size
      replace X := Lib.hid (X.out.next hb7 (by omega))
      replace I1 := Lib.hid (I1.out.below hb7 (Nat.le_refl _))
      replace IA := Lib.hid (IA.out.below hb7 (Nat.le_refl _))
      replace IB := Lib.hid (IB.out.below hb7 (Nat.le_refl _))
      replace B := Lib.hid (B.out.trans (hb7.mono (by omega)))
      have IC := Lib.hid (hin7.mono (Nat.zero_le _))
      clear hin7 hb7
      have x0 := X.out.out.at0
      have x1 := X.out.out.at1
      go_wp2_with fail
      clear x0 x1
      have HQ2 := Lib.hid (lawsEqualInts _ _ [] [] _ IA.out.rd IC.out.rd)
      rw [eqB_self] at HQ2
      refine (HQ2.out).mono ?_
      rintro e w8 ⟨rfl, hd8⟩
      have hb8 : Below w7.heap.size w7 w8 := by obtain ⟨d, rfl⟩ := hd8; exact below_drewN (Below.refl _ _) d
      clear hd8
      have hz8 := hb8.size
      replace X := Lib.hid (X.out.next hb8 (by omega))
      replace I1 := Lib.hid (I1.out.below hb8 (Nat.le_refl _))
      replace IA := Lib.hid (IA.out.below hb8 (Nat.le_refl _))
      replace IB := Lib.hid (IB.out.below hb8 (Nat.le_refl _))
      replace IC := Lib.hid (IC.out.below hb8 (Nat.le_refl _))
      replace B := Lib.hid (B.out.trans (hb8.mono (by omega)))
      clear hb8
      have x0 := X.out.out.at0
      have x1 := X.out.out.at1
      go_wp2_with fail
      clear x0 x1
      go_ret
      exact ⟨rfl, B.out⟩
  · go_enter Try.func9, Try.ntmps9
    go_wp2_with fail
    go_ret
    exact ⟨rfl, Below.refl _ _⟩

end Go.Proofs.Ytfnlfhgjmnjgaaa
