/- FnIsShattered's walk: parts of shattered sets are shattered. Conditions: the code is a slice of bytes. -/
import Derived.Test.YtfnlfhgjmnjgaaaZK
import Derived.Test.YtfnlfhgjmnjgaaaZJ
import Derived.Test.YtfnlfhgjmnjgaaaZI
import Derived.Test.YtfnlfhgjmnjgaaaZB
import Derived.Test.YtfnlfhgjmnjgaaaZG
namespace Go.Proofs.Ytfnlfhgjmnjgaaa
open Go.RowKit

theorem eqB_self (xs : List Int) : eqB xs xs = true := eqB_of rfl (fun _ _ => rfl)
theorem pts_part {t x : Nat} (ht : t < 32) (hx : x ∈ pts t) : x < 5 ∧ 2 ^ x ≤ t ∧ (t - 2 ^ x) &&& t = t - 2 ^ x := by
  have key : ∀ t : Fin 32, (pts (t : Nat)).all (fun x => decide (x < 5) && decide (2 ^ x ≤ (t : Nat)) && ((t : Nat) - 2 ^ x) &&& (t : Nat) == (t : Nat) - 2 ^ x) = true := by decide +kernel
  have := List.all_eq_true.1 (key ⟨t, ht⟩) x hx
  simp only [Bool.and_eq_true, decide_eq_true_eq, beq_iff_eq] at this
  exact ⟨this.1.1, this.1.2, this.2⟩
theorem pts_len (t : Nat) : (pts t).length ≤ 5 := filt_le _ 5


set_option maxHeartbeats 6400000 in
set_option maxRecDepth 100000 in
theorem walkFnIsShattered (a : Option Addr) (b off n cap : Nat) (w : World) (hc : n ≤ cap) (hcap : cap ≤ maxLen) (h : Byt w a b off n) :
    Calls Try.prog 5 #[.slice a n cap] w fun e w' => e = .returned (.bool true) ∧ Below w.heap.size w w' := by
  by_cases hn : n ≤ 1048576
  · have HD := Lib.hid (dDrawIsShattered a b off n cap w hc hn hcap h)
    clear h
    go_enter Try.func5, Try.ntmps5
    go_wp2_with fail
    refine HD.out.mono ?_
    rintro e w1 ⟨N, zs, s, hbd, a1, c1, rfl, hin, hb⟩
    generalize hL : zs.length = L at *
    have X := Lib.hid (Bx.new N (.slice a1 L c1) w1)
    have I1 := Lib.hid ((hin.mono (Nat.zero_le _)).alloc (Obj.cells #[.int .i64 N, .slice a1 L c1] 25))
    have B := Lib.hid (hb.alloc hb.size (Obj.cells #[.int .i64 N, .slice a1 L c1] 25))
    have HZ2 := Lib.hid (show (w1.alloc (Obj.cells #[.int .i64 N, .slice a1 L c1] 25)).heap.size = w1.heap.size + 1 by simp)
    have hz1 := hb.size
    clear hin hb HD
    go_wp2_with fail
    generalize (w1.alloc (Obj.cells #[.int .i64 N, .slice a1 L c1] 25)) = w2 at *
    have hz2 := HZ2.out
    generalize ho : w1.heap.size = o at *
    obtain ⟨hN0, hN1, hL34⟩ := hbd
    have HI := Lib.hid (fun v w h => implIsShattered N v zs s w h)
    have HS := Lib.hid (fun v w h => specIsShattered N v zs s w h)
    by_cases hb : shatB N zs s = true
    · have hv : vldB N zs = true := by simp only [shatB, Bool.and_eq_true] at hb; exact hb.1.1
      obtain ⟨m, ns, rfl, rfl, hcl⟩ := vldB_cls hv
      have hm := hcl.pts
      have hsb : setB m s = true := by simp only [shatB, Bool.and_eq_true, Int.toNat_natCast] at hb; exact hb.1.2
      obtain ⟨t, rfl, htm, ht⟩ := setB_nat hm hsb
      have hsh : sht ns t = true := by rw [shatB_in hv hsb] at hb; exact hb
      have hL2 : ns.length = L := by rw [← hL, toI_length]
      have HT := Lib.hid (fun v w h => implTraceOf (m : Int) v (toI ns) (t : Int) w h)
      rw [traceB_in hv hsb] at HT
      have HD := Lib.hid (show ∀ r : Nat, r &&& t = r → ∀ v w, Rd w v (toI ns) → Calls Try.prog 22 #[.agg #[.int .i64 (m : Int), v], .int .i64 (r : Int)] w fun e w' => e = .returned (.bool true) ∧ Below w.heap.size w w' from fun r hr v w h => by
        have hrt : r ≤ t := by rw [← hr]; exact Nat.and_le_right
        have hrb : setB m (r : Int) = true := by
          have : ((2 ^ m : Nat) : Int) = (2 : Int) ^ m := by simp
          simp only [setB, Bool.and_eq_true, decide_eq_true_eq]
          omega
        have h8 := implIsShattered (m : Int) v (toI ns) (r : Int) w h
        rw [shatB_in hv hrb, sht_down hcl htm hr hsh] at h8
        exact h8)
      have hpc := pc_le5 t
      obtain ⟨T, hT⟩ : ∃ T : Nat, T = 2 ^ pc t := ⟨_, rfl⟩
      have hTI : (2 : Int) ^ pc t = (T : Int) := by rw [hT]; simp
      have htl : (tr ns t).length = T := by rw [hT]; simpa [sht] using hsh
      have hTL : T ≤ L := by
        have := tr_le ns t
        omega
      have HPT := Lib.hid (fun w => (lawsPower (pc t : Int) w (by omega) (by omega)).mono fun _ _ h => And.intro h.1 h.2.symm)
      rw [Int.toNat_natCast, hTI] at HPT
      have HSz := Lib.hid (fun w => (lawsSize t ht w).mono fun _ _ h => And.intro h.1 h.2.symm)
      have HPts := Lib.hid (lawsPoints t ht)
      have HPP := Lib.hid (fun x hx => pts_part (x := x) ht hx)
      have hpl := pts_len t
      have HQl := Lib.hid (toI_length (tr ns t))
      rw [hb] at HI HS
      generalize tr ns t = Tr at *
      generalize pts t = Q at *
      generalize pc t = z at *
      have htlI : ((Tr.length : Int) == (T : Int)) = true := by simp; omega
      have hTLI : (T : Int) ≤ (L : Int) := by omega
      clear hb hv hcl hsb hsh hT hTI htm
      refine (HI.out _ _ I1.out.rd).mono ?_
      rintro e w3 ⟨rfl, hb3⟩
      have hz3 := hb3.size
      replace X := Lib.hid (X.out.next hb3 (by omega))
      replace I1 := Lib.hid (I1.out.below hb3 (Nat.le_refl _))
      replace B := Lib.hid (B.out.trans (hb3.mono (by omega)))
      clear hb3
      have x0 := X.out.out.at0
      have x1 := X.out.out.at1
      go_wp2_with fail
      clear x0 x1
      refine (HS.out _ _ I1.out.rd).mono ?_
      rintro e w4 ⟨rfl, hb4⟩
      have hz4 := hb4.size
      replace X := Lib.hid (X.out.next hb4 (by omega))
      replace I1 := Lib.hid (I1.out.below hb4 (Nat.le_refl _))
      replace B := Lib.hid (B.out.trans (hb4.mono (by omega)))
      clear hb4
      have x0 := X.out.out.at0
      have x1 := X.out.out.at1
      go_wp2_with fail
      clear x0 x1
      refine (HPts.out _).mono ?_
      rintro e w5 ⟨a5, c5, rfl, hin5, hb5⟩
      rw [toI_length] at hin5 ⊢
      have hz5 := hb5.size
      replace X := Lib.hid (X.out.next hb5 (by omega))
      replace I1 := Lib.hid (I1.out.below hb5 (Nat.le_refl _))
      replace B := Lib.hid (B.out.trans (hb5.mono (by omega)))
      have IQ := Lib.hid (hin5.mono (Nat.zero_le _))
      clear hin5 hb5
      obtain ⟨ar, br, offr, capr, er, h1, h3, h5⟩ := IQ.out.rd
      simp only [Value.slice.injEq] at er
      obtain ⟨rfl, _, rfl⟩ := er
      rw [toI_length] at h1 h3 h5
      have H1 := Lib.hid h1
      have H5 := Lib.hid h5
      clear h1 h5
      have HX0 := Lib.hid X.out
      have HB0 := Lib.hid B.out
      go_wp2_with fail
      go_loopw [7] (fun i wr => ∃ j : Nat, j ≤ Q.length ∧ i = .int .i64 j ∧ Below w5.heap.size w5 wr) (fun i _ => Q.length - (intOf i).toNat)
      case atStart => exact ⟨0, Nat.zero_le _, rfl, Below.refl _ _⟩
      case round =>
        obtain ⟨j, hj, rfl, hbe⟩ := hrel
        have HBE := Lib.hid hbe
        have hzr := hbe.size
        have XR := Lib.hid (X.out.next hbe (by omega))
        have IR := Lib.hid (I1.out.below hbe (Nat.le_refl _))
        have BR := Lib.hid (B.out.trans (hbe.mono (by omega)))
        have x0 := XR.out.out.at0
        have x1 := XR.out.out.at1
        by_cases hlt : j < Q.length
        · obtain ⟨rfl, hbl⟩ := H1.out (by omega)
          have hcx := (hbe.cell (p := ⟨br, offr + j, none⟩) hbl).trans (H5.out j hlt)
          rw [toI_getD] at hcx
          have hq := HPP.out _ (getD_of_lt hlt)
          clear hbe
          generalize Q.getD j 0 = x at *
          obtain ⟨hx5, hxt, hxa⟩ := hq
          obtain ⟨p, hp⟩ : ∃ p : Nat, p = 2 ^ x := ⟨_, rfl⟩
          have hpI : (2 : Int) ^ x = (p : Int) := by rw [hp]; simp
          have HPx := Lib.hid (fun w => lawsPower (x : Int) w (by omega) (by omega))
          rw [Int.toNat_natCast, hpI] at HPx
          rw [← hp] at hxt hxa
          obtain ⟨r, hr⟩ : ∃ r : Nat, r = t - p := ⟨_, rfl⟩
          rw [← hr] at hxa
          have HDr := Lib.hid (HD.out r hxa)
          have hw1 : IntKind.i64.wrap ((t : Int) - (p : Int)) = (r : Int) := by rw [IntKind.wrap_i64]; omega
          have hw2 : (t : Int) - (p : Int) = (r : Int) := by omega
          have hw0 : IntKind.i64.wrap (r : Int) = (r : Int) := by rw [IntKind.wrap_i64]; omega
          have hjI : (j : Int) < (Q.length : Int) := by omega
          clear hp hpI hxa hr hL hL2 htl hTL hN0 hN1 hL34
          go_wp2_with fail
          go_region_held3 (fun w' => w'.cell? ⟨o, 0, none⟩ = some (.int .i64 (m : Int)) ∧ w'.cell? ⟨o, 1, none⟩ = some (.slice a1 L c1) ∧ w'.cell? ⟨br, offr + j, none⟩ = some (.int .i64 (x : Int))) (first | exact ⟨y0, y1, y2⟩ | exact ⟨x0, x1, hcx⟩ | go_keep) (first
            | (go_at_call 18; refine (HPx.out _).mono ?_; rintro e w9 ⟨rfl, hw9⟩; subst w9)
            | (go_at_call 22; (try simp only [hw2, hw0]); refine (HDr.out _ _ (by first | exact IR.out.rd | exact IR.out.rd.below (k := wr.heap.size) ((Below.refl _ _).drew) (Nat.le_refl _))).mono ?_; rintro e w8 ⟨rfl, hbd⟩; have hb8 : Below wr.heap.size wr w8 := (by first | exact hbd | exact ⟨hbd.os, hbd.tape, hbd.output, hbd.size, hbd.block⟩); have hz8 := hb8.size; have XS := Lib.hid (XR.out.next hb8 (by omega)); have BE8 := Lib.hid (HBE.out.trans (hb8.mono hzr)); have y0 := XS.out.out.at0; have y1 := XS.out.out.at1; have y2 := (hb8.cell (p := ⟨br, offr + j, none⟩) (by show br < wr.heap.size; omega)).trans hcx; clear hb8 hbd))
          all_goals
            go_wp2_with fail
            go_roundw
            case rel => exact ⟨j + 1, by omega, by go_num, BE8.out⟩
            case measure => simp [intOf]; omega
        · clear hbe
          go_wp2_with fail
          go_region_held3 (fun w' => w'.cell? ⟨o, 0, none⟩ = some (.int .i64 (m : Int)) ∧ w'.cell? ⟨o, 1, none⟩ = some (.slice a1 L c1)) (first | exact ⟨y0, y1⟩ | exact ⟨x0, x1⟩ | go_keep) (first
            | (go_at_call 18; refine (HPT.out _).mono ?_; rintro e w9 ⟨rfl, hw9⟩; subst w9)
            | (go_at_call 25; refine (HSz.out _).mono ?_; rintro e w9 ⟨rfl, hw9⟩; subst w9)
            | (go_at_call 15; refine (HT.out _ _ (by first | exact IR.out.rd | exact IR.out.rd.below (k := wr.heap.size) ((Below.refl _ _).drew) (Nat.le_refl _))).mono ?_; rintro e w8 ⟨a8, c8, rfl, hin8, hbd⟩; rw [HQl.out]; have hb8 : Below wr.heap.size wr w8 := (by first | exact hbd | exact ⟨hbd.os, hbd.tape, hbd.output, hbd.size, hbd.block⟩); have hz8 := hb8.size; have XS := Lib.hid (XR.out.next hb8 (by omega)); have BS := Lib.hid (BR.out.trans (hb8.mono (by omega))); have y0 := XS.out.out.at0; have y1 := XS.out.out.at1; clear hb8 hbd hin8))
          all_goals
            go_wp2_with fail
            go_ret
            exact ⟨rfl, BS.out⟩
    · rw [Bool.not_eq_true] at hb
      rw [hb] at HI HS
      clear hb
      refine (HI.out _ _ I1.out.rd).mono ?_
      rintro e w3 ⟨rfl, hb3⟩
      have hz3 := hb3.size
      replace X := Lib.hid (X.out.next hb3 (by omega))
      replace I1 := Lib.hid (I1.out.below hb3 (Nat.le_refl _))
      replace B := Lib.hid (B.out.trans (hb3.mono (by omega)))
      clear hb3
      have x0 := X.out.out.at0
      have x1 := X.out.out.at1
      go_wp2_with fail
      clear x0 x1
      refine (HS.out _ _ I1.out.rd).mono ?_
      rintro e w4 ⟨rfl, hb4⟩
      have hz4 := hb4.size
      replace X := Lib.hid (X.out.next hb4 (by omega))
      replace I1 := Lib.hid (I1.out.below hb4 (Nat.le_refl _))
      replace B := Lib.hid (B.out.trans (hb4.mono (by omega)))
      clear hb4
      have x0 := X.out.out.at0
      have x1 := X.out.out.at1
      go_wp2_with fail
      clear x0 x1
      refine (HS.out _ _ I1.out.rd).mono ?_
      rintro e w5 ⟨rfl, hb5⟩
      have hz5 := hb5.size
      replace X := Lib.hid (X.out.next hb5 (by omega))
      replace I1 := Lib.hid (I1.out.below hb5 (Nat.le_refl _))
      replace B := Lib.hid (B.out.trans (hb5.mono (by omega)))
      clear hb5
      have x0 := X.out.out.at0
      have x1 := X.out.out.at1
      go_wp2_with fail
      clear x0 x1
      go_ret
      exact ⟨rfl, B.out⟩
  · go_enter Try.func5, Try.ntmps5
    go_wp2_with fail
    go_ret
    exact ⟨rfl, Below.refl _ _⟩

end Go.Proofs.Ytfnlfhgjmnjgaaa
