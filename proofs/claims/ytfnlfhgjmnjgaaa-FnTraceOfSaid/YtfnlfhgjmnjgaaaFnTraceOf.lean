/- FnTraceOf's walk: traces are parts. Conditions: the code is a slice of bytes. -/
import Derived.Test.YtfnlfhgjmnjgaaaZK
import Derived.Test.YtfnlfhgjmnjgaaaZJ
import Derived.Test.YtfnlfhgjmnjgaaaZI
import Derived.Test.YtfnlfhgjmnjgaaaZB
import Derived.Test.YtfnlfhgjmnjgaaaZG
namespace Go.Proofs.Ytfnlfhgjmnjgaaa
open Go.RowKit

theorem eqB_self (xs : List Int) : eqB xs xs = true := eqB_of rfl (fun _ _ => rfl)
theorem tr_sub {ns : List Nat} {t x : Nat} (h : x ∈ tr ns t) : x < 32 ∧ x &&& t = x := by
  have h32 := (mem_flt.1 h).1
  obtain ⟨u, _, e⟩ := (mem_tr h32).1 h
  exact ⟨h32, by rw [← e, Nat.and_assoc, Nat.and_self]⟩
theorem tr_tr (ns : List Nat) (t : Nat) : tr (tr ns t) t = tr ns t := by
  refine asc_ext (flt_asc _) (flt_asc _) (fun x => ?_)
  constructor
  · intro hx
    obtain ⟨u, hu, e⟩ := (mem_tr (mem_flt.1 hx).1).1 hx
    rw [(tr_sub hu).2] at e
    rw [← e]
    exact hu
  · intro hx
    exact (mem_tr (tr_sub hx).1).2 ⟨x, hx, (tr_sub hx).2⟩


set_option maxHeartbeats 6400000 in
set_option maxRecDepth 100000 in
theorem walkFnTraceOf (a : Option Addr) (b off n cap : Nat) (w : World) (hc : n ≤ cap) (hcap : cap ≤ maxLen) (h : Byt w a b off n) :
    Calls Try.prog 4 #[.slice a n cap] w fun e w' => e = .returned (.bool true) ∧ Below w.heap.size w w' := by
  by_cases hn : n ≤ 1048576
  · have HD := Lib.hid (dDrawTraceOf a b off n cap w hc hn hcap h)
    clear h
    go_enter Try.func4, Try.ntmps4
    go_wp2_with fail
    refine HD.out.mono ?_
    rintro e w1 ⟨N, zs, s, hbd, a1, c1, rfl, hin, hb⟩
    generalize hL : zs.length = L at *
    have X := Lib.hid (Bx.new N (.slice a1 L c1) w1)
    have I1 := Lib.hid ((hin.mono (Nat.zero_le _)).alloc (Obj.cells #[.int .i64 N, .slice a1 L c1] 25))
    have B := Lib.hid (hb.alloc hb.size (Obj.cells #[.int .i64 N, .slice a1 L c1] 25))
    have HZ2 := Lib.hid (show (w1.alloc (Obj.cells #[.int .i64 N, .slice a1 L c1] 25)).heap.size = w1.heap.size + 1 by simp)
    have hz1 := hb.size
    clear hin hb HD
    go_wp2_with fail
    generalize (w1.alloc (Obj.cells #[.int .i64 N, .slice a1 L c1] 25)) = w2 at *
    have hz2 := HZ2.out
    generalize ho : w1.heap.size = o at *
    obtain ⟨hN0, hN1, hL34⟩ := hbd
    by_cases hv : vldB N zs = true
    · obtain ⟨m, ns, rfl, rfl, hcl⟩ := vldB_cls hv
      have hL2 : ns.length = L := by rw [← hL, toI_length]
      have hm := hcl.pts
      have HI := Lib.hid (fun v w h => implTraceOf (m : Int) v (toI ns) s w h)
      have HS := Lib.hid (fun v w h => specTraceOf (m : Int) v (toI ns) s w h)
      have HV := Lib.hid (fun v w h => implValid (m : Int) v (toI ns) w h)
      have HPW := Lib.hid (fun w => lawsPower (m : Int) w (by omega) (by omega))
      have hp5 := pow_le_32 hm
      have hp0 := Nat.two_pow_pos m
      obtain ⟨q, hq⟩ : ∃ q : Nat, q = 2 ^ m := ⟨_, rfl⟩
      have hqI : (2 : Int) ^ m = (q : Int) := by rw [hq]; simp
      rw [Int.toNat_natCast, hqI] at HPW
      rw [hv] at HV
      by_cases hs0 : s < 0
      · have hd1 : decide (s < 0) = true := decide_eq_true hs0
        have eA : traceB (m : Int) (toI ns) s = [] := traceB_out (by simp only [setB, Bool.and_eq_false_iff, decide_eq_false_iff_not]; omega)
        rw [eA] at HI HS
        clear eA hq hqI hcl hv
        refine (HI.out _ _ I1.out.rd).mono ?_
        rintro e w3 ⟨a3, c3, rfl, hin3, hb3⟩
        have hz3 := hb3.size
        replace X := Lib.hid (X.out.next hb3 (by omega))
        replace I1 := Lib.hid (I1.out.below hb3 (Nat.le_refl _))
        replace B := Lib.hid (B.out.trans (hb3.mono (by omega)))
        have IA := Lib.hid (hin3.mono (Nat.zero_le _))
        clear hin3 hb3
        have x0 := X.out.out.at0
        have x1 := X.out.out.at1
        go_wp2_with fail
        clear x0 x1
        refine (HS.out _ _ I1.out.rd).mono ?_
        rintro e w4 ⟨a4, c4, rfl, hin4, hb4⟩
        have hz4 := hb4.size
        replace X := Lib.hid (X.out.next hb4 (by omega))
        replace I1 := Lib.hid (I1.out.below hb4 (Nat.le_refl _))
        replace IA := Lib.hid (IA.out.below hb4 (Nat.le_refl _))
        replace B := Lib.hid (B.out.trans (hb4.mono (by omega)))
        have IB := Lib.hid (hin4.mono (Nat.zero_le _))
        clear hin4 hb4
        have x0 := X.out.out.at0
        have x1 := X.out.out.at1
        go_wp2_with fail
        clear x0 x1
        have HQ := Lib.hid (lawsEqualInts _ _ [] [] _ IA.out.rd IB.out.rd)
        rw [eqB_self] at HQ
        refine (HQ.out).mono ?_
        rintro e w5 ⟨rfl, hd5⟩
        have hb5 : Below w4.heap.size w4 w5 := by obtain ⟨d, rfl⟩ := hd5; exact below_drewN (Below.refl _ _) d
        clear hd5
        have hz5 := hb5.size
        replace X := Lib.hid (X.out.next hb5 (by omega))
        replace I1 := Lib.hid (I1.out.below hb5 (Nat.le_refl _))
        replace IA := Lib.hid (IA.out.below hb5 (Nat.le_refl _))
        replace IB := Lib.hid (IB.out.below hb5 (Nat.le_refl _))
        replace B := Lib.hid (B.out.trans (hb5.mono (by omega)))
        clear hb5
        have x0 := X.out.out.at0
        have x1 := X.out.out.at1
        go_wp2_with fail
        clear x0 x1
        refine (HV.out _ _ I1.out.rd).mono ?_
        rintro e w6 ⟨rfl, hb6⟩
        have hz6 := hb6.size
        replace X := Lib.hid (X.out.next hb6 (by omega))
        replace I1 := Lib.hid (I1.out.below hb6 (Nat.le_refl _))
        replace IA := Lib.hid (IA.out.below hb6 (Nat.le_refl _))
        replace IB := Lib.hid (IB.out.below hb6 (Nat.le_refl _))
        replace B := Lib.hid (B.out.trans (hb6.mono (by omega)))
        clear hb6
        have x0 := X.out.out.at0
        have x1 := X.out.out.at1
        go_wp2_with fail
        clear x0 x1
        refine (HS.out _ _ I1.out.rd).mono ?_
        rintro e w7 ⟨a7, c7, rfl, hin7, hb7⟩
        have hz7 := hb7.size
        replace X := Lib.hid (X.out.next hb7 (by omega))
        replace I1 := Lib.hid (I1.out.below hb7 (Nat.le_refl _))
        replace IA := Lib.hid (IA.out.below hb7 (Nat.le_refl _))
        replace IB := Lib.hid (IB.out.below hb7 (Nat.le_refl _))
        replace B := Lib.hid (B.out.trans (hb7.mono (by omega)))
        have IC := Lib.hid (hin7.mono (Nat.zero_le _))
        clear hin7 hb7
        have x0 := X.out.out.at0
        have x1 := X.out.out.at1
        go_wp2_with fail
        clear x0 x1
        have HQ2 := Lib.hid (lawsEqualInts _ _ [] [] _ IA.out.rd IC.out.rd)
        rw [eqB_self] at HQ2
        refine (HQ2.out).mono ?_
        rintro e w8 ⟨rfl, hd8⟩
        have hb8 : Below w7.heap.size w7 w8 := by obtain ⟨d, rfl⟩ := hd8; exact below_drewN (Below.refl _ _) d
        clear hd8
        have hz8 := hb8.size
        replace X := Lib.hid (X.out.next hb8 (by omega))
        replace I1 := Lib.hid (I1.out.below hb8 (Nat.le_refl _))
        replace IA := Lib.hid (IA.out.below hb8 (Nat.le_refl _))
        replace IB := Lib.hid (IB.out.below hb8 (Nat.le_refl _))
        replace IC := Lib.hid (IC.out.below hb8 (Nat.le_refl _))
        replace B := Lib.hid (B.out.trans (hb8.mono (by omega)))
        clear hb8
        have x0 := X.out.out.at0
        have x1 := X.out.out.at1
        go_wp2_with fail
        clear x0 x1
        go_ret
        exact ⟨rfl, B.out⟩
      · have hd1 : decide (s < 0) = false := decide_eq_false hs0
        by_cases hs1 : (q : Int) ≤ s
        · have hd2 : decide ((q : Int) ≤ s) = true := decide_eq_true hs1
          have eA : traceB (m : Int) (toI ns) s = [] := traceB_out (by simp only [setB, Bool.and_eq_false_iff, decide_eq_false_iff_not]; omega)
          rw [eA] at HI HS
          clear eA hq hqI hcl hv
          refine (HI.out _ _ I1.out.rd).mono ?_
          rintro e w3 ⟨a3, c3, rfl, hin3, hb3⟩
          have hz3 := hb3.size
          replace X := Lib.hid (X.out.next hb3 (by omega))
          replace I1 := Lib.hid (I1.out.below hb3 (Nat.le_refl _))
          replace B := Lib.hid (B.out.trans (hb3.mono (by omega)))
          have IA := Lib.hid (hin3.mono (Nat.zero_le _))
          clear hin3 hb3
          have x0 := X.out.out.at0
          have x1 := X.out.out.at1
          go_wp2_with fail
          clear x0 x1
          refine (HS.out _ _ I1.out.rd).mono ?_
          rintro e w4 ⟨a4, c4, rfl, hin4, hb4⟩
          have hz4 := hb4.size
          replace X := Lib.hid (X.out.next hb4 (by omega))
          replace I1 := Lib.hid (I1.out.below hb4 (Nat.le_refl _))
          replace IA := Lib.hid (IA.out.below hb4 (Nat.le_refl _))
          replace B := Lib.hid (B.out.trans (hb4.mono (by omega)))
          have IB := Lib.hid (hin4.mono (Nat.zero_le _))
          clear hin4 hb4
          have x0 := X.out.out.at0
          have x1 := X.out.out.at1
          go_wp2_with fail
          clear x0 x1
          have HQ := Lib.hid (lawsEqualInts _ _ [] [] _ IA.out.rd IB.out.rd)
          rw [eqB_self] at HQ
          refine (HQ.out).mono ?_
          rintro e w5 ⟨rfl, hd5⟩
          have hb5 : Below w4.heap.size w4 w5 := by obtain ⟨d, rfl⟩ := hd5; exact below_drewN (Below.refl _ _) d
          clear hd5
          have hz5 := hb5.size
          replace X := Lib.hid (X.out.next hb5 (by omega))
          replace I1 := Lib.hid (I1.out.below hb5 (Nat.le_refl _))
          replace IA := Lib.hid (IA.out.below hb5 (Nat.le_refl _))
          replace IB := Lib.hid (IB.out.below hb5 (Nat.le_refl _))
          replace B := Lib.hid (B.out.trans (hb5.mono (by omega)))
          clear hb5
          have x0 := X.out.out.at0
          have x1 := X.out.out.at1
          go_wp2_with fail
          clear x0 x1
          refine (HV.out _ _ I1.out.rd).mono ?_
          rintro e w6 ⟨rfl, hb6⟩
          have hz6 := hb6.size
          replace X := Lib.hid (X.out.next hb6 (by omega))
          replace I1 := Lib.hid (I1.out.below hb6 (Nat.le_refl _))
          replace IA := Lib.hid (IA.out.below hb6 (Nat.le_refl _))
          replace IB := Lib.hid (IB.out.below hb6 (Nat.le_refl _))
          replace B := Lib.hid (B.out.trans (hb6.mono (by omega)))
          clear hb6
          have x0 := X.out.out.at0
          have x1 := X.out.out.at1
          go_wp2_with fail
          clear x0 x1
          refine (HPW.out _).mono ?_
          rintro e w7 ⟨rfl, hw7⟩
          subst w7
          have x0 := X.out.out.at0
          have x1 := X.out.out.at1
          go_wp2_with fail
          clear x0 x1
          refine (HS.out _ _ I1.out.rd).mono ?_
          rintro e w7 ⟨a7, c7, rfl, hin7, hb7⟩
          have hz7 := hb7.size
          replace X := Lib.hid (X.out.next hb7 (by omega))
          replace I1 := Lib.hid (I1.out.below hb7 (Nat.le_refl _))
          replace IA := Lib.hid (IA.out.below hb7 (Nat.le_refl _))
          replace IB := Lib.hid (IB.out.below hb7 (Nat.le_refl _))
          replace B := Lib.hid (B.out.trans (hb7.mono (by omega)))
          have IC := Lib.hid (hin7.mono (Nat.zero_le _))
          clear hin7 hb7
          have x0 := X.out.out.at0
          have x1 := X.out.out.at1
          go_wp2_with fail
          clear x0 x1
          have HQ2 := Lib.hid (lawsEqualInts _ _ [] [] _ IA.out.rd IC.out.rd)
          rw [eqB_self] at HQ2
          refine (HQ2.out).mono ?_
          rintro e w8 ⟨rfl, hd8⟩
          have hb8 : Below w7.heap.size w7 w8 := by obtain ⟨d, rfl⟩ := hd8; exact below_drewN (Below.refl _ _) d
          clear hd8
          have hz8 := hb8.size
          replace X := Lib.hid (X.out.next hb8 (by omega))
          replace I1 := Lib.hid (I1.out.below hb8 (Nat.le_refl _))
          replace IA := Lib.hid (IA.out.below hb8 (Nat.le_refl _))
          replace IB := Lib.hid (IB.out.below hb8 (Nat.le_refl _))
          replace IC := Lib.hid (IC.out.below hb8 (Nat.le_refl _))
          replace B := Lib.hid (B.out.trans (hb8.mono (by omega)))
          clear hb8
          have x0 := X.out.out.at0
          have x1 := X.out.out.at1
          go_wp2_with fail
          clear x0 x1
          go_ret
          exact ⟨rfl, B.out⟩
        · have hd2 : decide ((q : Int) ≤ s) = false := decide_eq_false hs1
          obtain ⟨t, rfl⟩ := Int.eq_ofNat_of_zero_le (show 0 ≤ s by omega)
          have htq : t < 2 ^ m := by omega
          have hd3 : decide (q ≤ t) = false := decide_eq_false (by omega)
          have ht32 : t < 32 := by omega
          have hsb : setB m (t : Int) = true := by
            simp only [setB, Bool.and_eq_true, decide_eq_true_eq]
            omega
          obtain ⟨f, hf⟩ : ∃ f : Nat, f = q - 1 := ⟨_, rfl⟩
          have hfb : setB m (f : Int) = true := by
            simp only [setB, Bool.and_eq_true, decide_eq_true_eq]
            omega
          obtain ⟨A, hA⟩ : ∃ A, A = tr ns t := ⟨_, rfl⟩
          have HTF := Lib.hid (fun v w h => implTraceOf (m : Int) v (toI ns) (f : Int) w h)
          have HTT := Lib.hid (fun v w h => implTraceOf (m : Int) v (toI A) (t : Int) w h)
          rw [traceB_in hv hfb, hf, hq, tr_full hcl] at HTF
          rw [← hq, ← hf] at HTF
          have hcA : Cls m A := by rw [hA]; exact tr_cls hcl htq
          rw [traceB_in (cls_vldB hcA) hsb] at HTT
          rw [show tr A t = A by rw [hA, tr_tr]] at HTT
          rw [traceB_in hv hsb, ← hA] at HI HS
          have hle : (A.length : Int) ≤ (L : Int) := by
            have := tr_le ns t
            rw [hA]
            omega
          have hAl := hcA.length
          have HAs := Lib.hid hcA.asc
          have HSub := Lib.hid (show ∀ x ∈ A, x < 32 ∧ x &&& t = x from fun x hx => tr_sub (by rw [← hA]; exact hx))
          have hw1 : IntKind.i64.wrap ((q : Int) - 1) = (f : Int) := by rw [IntKind.wrap_i64]; omega
          have hw2 : (q : Int) - 1 = (f : Int) := by omega
          have hw0 : IntKind.i64.wrap (f : Int) = (f : Int) := by rw [IntKind.wrap_i64]; omega
          have HALl := Lib.hid (toI_length A)
          have HNLl := Lib.hid (toI_length ns)
          clear hq hqI hcl hv hsb hfb hf hA hcA htq
          refine (HI.out _ _ I1.out.rd).mono ?_
          rintro e w3 ⟨a3, c3, rfl, hin3, hb3⟩
          rw [toI_length] at hin3 ⊢
          have hz3 := hb3.size
          replace X := Lib.hid (X.out.next hb3 (by omega))
          replace I1 := Lib.hid (I1.out.below hb3 (Nat.le_refl _))
          replace B := Lib.hid (B.out.trans (hb3.mono (by omega)))
          have IA := Lib.hid (hin3.mono (Nat.zero_le _))
          clear hin3 hb3
          have x0 := X.out.out.at0
          have x1 := X.out.out.at1
          go_wp2_with fail
          clear x0 x1
          refine (HS.out _ _ I1.out.rd).mono ?_
          rintro e w4 ⟨a4, c4, rfl, hin4, hb4⟩
          rw [toI_length] at hin4 ⊢
          have hz4 := hb4.size
          replace X := Lib.hid (X.out.next hb4 (by omega))
          replace I1 := Lib.hid (I1.out.below hb4 (Nat.le_refl _))
          replace IA := Lib.hid (IA.out.below hb4 (Nat.le_refl _))
          replace B := Lib.hid (B.out.trans (hb4.mono (by omega)))
          have IB := Lib.hid (hin4.mono (Nat.zero_le _))
          clear hin4 hb4
          have x0 := X.out.out.at0
          have x1 := X.out.out.at1
          go_wp2_with fail
          clear x0 x1
          have HQ := Lib.hid (lawsEqualInts _ _ (toI A) (toI A) _ IA.out.rd IB.out.rd)
          rw [eqB_self] at HQ
          refine (HQ.out).mono ?_
          rintro e w5 ⟨rfl, hd5⟩
          have hb5 : Below w4.heap.size w4 w5 := by obtain ⟨d, rfl⟩ := hd5; exact below_drewN (Below.refl _ _) d
          clear hd5
          have hz5 := hb5.size
          replace X := Lib.hid (X.out.next hb5 (by omega))
          replace I1 := Lib.hid (I1.out.below hb5 (Nat.le_refl _))
          replace IA := Lib.hid (IA.out.below hb5 (Nat.le_refl _))
          replace IB := Lib.hid (IB.out.below hb5 (Nat.le_refl _))
          replace B := Lib.hid (B.out.trans (hb5.mono (by omega)))
          clear hb5
          have x0 := X.out.out.at0
          have x1 := X.out.out.at1
          go_wp2_with fail
          clear x0 x1
          refine (HV.out _ _ I1.out.rd).mono ?_
          rintro e w6 ⟨rfl, hb6⟩
          have hz6 := hb6.size
          replace X := Lib.hid (X.out.next hb6 (by omega))
          replace I1 := Lib.hid (I1.out.below hb6 (Nat.le_refl _))
          replace IA := Lib.hid (IA.out.below hb6 (Nat.le_refl _))
          replace IB := Lib.hid (IB.out.below hb6 (Nat.le_refl _))
          replace B := Lib.hid (B.out.trans (hb6.mono (by omega)))
          clear hb6
          have x0 := X.out.out.at0
          have x1 := X.out.out.at1
          go_wp2_with fail
          clear x0 x1
          refine (HPW.out _).mono ?_
          rintro e w7 ⟨rfl, hw7⟩
          subst w7
          obtain ⟨ar, br, offr, capr, er, h1, h3, h5⟩ := IA.out.rd
          simp only [Value.slice.injEq] at er
          obtain ⟨rfl, -, rfl⟩ := er
          rw [toI_length] at h1 h3 h5
          have H1 := Lib.hid h1
          have H5 := Lib.hid h5
          clear h1 h5
          have x0 := X.out.out.at0
          have x1 := X.out.out.at1
          go_wp2_with fail
          clear x0 x1
          go_loopw [6] (fun i wr => ∃ j : Nat, j ≤ A.length ∧ i = .int .i64 j ∧ Below w6.heap.size w6 wr) (fun i _ => A.length - (intOf i).toNat)
          case atStart => exact ⟨0, Nat.zero_le _, rfl, Below.refl _ _⟩
          case round =>
            obtain ⟨j, hj, rfl, hbe⟩ := hrel
            have HBE := Lib.hid hbe
            have hzr := hbe.size
            replace X := Lib.hid (X.out.next hbe (by omega))
            replace I1 := Lib.hid (I1.out.below hbe (Nat.le_refl _))
            replace IA := Lib.hid (IA.out.below hbe (Nat.le_refl _))
            replace B := Lib.hid (B.out.trans (hbe.mono (by omega)))
            by_cases hlt : j < A.length
            · obtain ⟨rfl, hbl⟩ := H1.out (by omega)
              have hcx := (hbe.cell (p := ⟨br, offr + j, none⟩) hbl).trans (H5.out j hlt)
              clear hbe
              rw [toI_getD] at hcx
              obtain ⟨hx32, hxt⟩ := HSub.out _ (getD_of_lt hlt)
              generalize A.getD j 0 = x at *
              have HSb := Lib.hid (fun w => lawsSubset x t (by omega) (by omega) hxt w)
              clear hxt
              go_wp2_with fail
              refine (HSb.out _).mono ?_
              rintro e w9 ⟨rfl, hw9⟩
              subst w9
              go_wp2_with fail
              go_roundw
              case rel => exact ⟨j + 1, by omega, by go_num, HBE.out⟩
              case measure => simp [intOf]; omega
            · clear hbe
              obtain ⟨w7, hwr⟩ : ∃ w7, w7 = wr := ⟨_, rfl⟩
              subst hwr
              have x0 := X.out.out.at0
              have x1 := X.out.out.at1
              go_wp2_with fail
              refine wp_region_held_drew (S := fun w' => w'.cell? ⟨o, 0, none⟩ = some (.int .i64 (m : Int)) ∧ w'.cell? ⟨o, 1, none⟩ = some (.slice a1 L c1)) (by kernel_rfl) (by first | exact ⟨y12, z12⟩ | exact ⟨y11, z11⟩ | exact ⟨y10, z10⟩ | exact ⟨y9, z9⟩ | exact ⟨y8, z8⟩ | exact ⟨x0, x1⟩ | go_keep) (fun hHeld => ?_)
              refine wpAnyH_take (i := 0) (v := ?_) rfl (by kernel_rfl) (by kernel_rfl) (by kernel_rfl) (fun _ _ _ h => h) (Or.inl ⟨by rfl, ?_⟩) (by assumption) ?_
              rotate_left
              · (intro w hSw; (try dsimp only at hSw); go_simp; try with_reducible rfl)
              try simp only [List.getElem_toArray, List.getElem_cons_zero, Act.put, List.setIfInBounds_toArray, List.set_cons_zero, List.set_cons_succ]
              refine wpAnyH_ready (rs := [1]) (by kernel_rfl) (by simp) ?_
              refine AllReadyH.cons rfl (fun K hK => ?_) AllReadyH.nil
              try simp only [List.getElem_toArray]
              go_simp
              (go_at_call 20; refine (lawsAscends _ A _ (by first | exact IA.out.rd | exact IA.out.rd.below (k := w7.heap.size) ((Below.refl _ _).drew) (Nat.le_refl _)) HAs.out).mono ?_; rintro e w8 ⟨rfl, hd8⟩; have hb8 : Below w7.heap.size w7 w8 := (by obtain ⟨d, rfl⟩ := hd8; first | exact below_drewN (Below.refl _ _) d | exact below_drewN ((Below.refl _ _).drew) d); clear hd8; have hz8 := hb8.size; replace X := Lib.hid (X.out.next hb8 (by omega)); replace I1 := Lib.hid (I1.out.below hb8 (Nat.le_refl _)); replace IA := Lib.hid (IA.out.below hb8 (Nat.le_refl _)); replace B := Lib.hid (B.out.trans (hb8.mono (by omega))); clear hb8; have y8 := X.out.out.at0; have z8 := X.out.out.at1)
              refine hK.out _ _ (by first | exact ⟨y12, z12⟩ | exact ⟨y11, z11⟩ | exact ⟨y10, z10⟩ | exact ⟨y9, z9⟩ | exact ⟨y8, z8⟩ | exact ⟨x0, x1⟩ | go_keep) (fun hHeld => ?_)
              clear hK K
              try simp only [List.getElem_toArray, List.getElem_cons_zero, List.getElem_cons_succ, Act.put, List.setIfInBounds_toArray, List.set_cons_zero, List.set_cons_succ]
              refine wpAnyH_take (i := 2) (v := ?_) rfl (by kernel_rfl) (by kernel_rfl) (by kernel_rfl) (fun _ _ _ h => h) (Or.inl ⟨by rfl, ?_⟩) (by assumption) ?_
              rotate_left
              · (intro w hSw; (try dsimp only at hSw); go_simp; try with_reducible rfl)
              try simp only [List.getElem_toArray, List.getElem_cons_zero, List.getElem_cons_succ, Act.put, List.setIfInBounds_toArray, List.set_cons_zero, List.set_cons_succ]
              refine wpAnyH_take (i := 3) (v := ?_) rfl (by kernel_rfl) (by kernel_rfl) (by kernel_rfl) (fun _ _ _ h => h) (Or.inl ⟨by rfl, ?_⟩) (by assumption) ?_
              rotate_left
              · (intro w hSw; (try dsimp only at hSw); go_simp; try with_reducible rfl)
              try simp only [List.getElem_toArray, List.getElem_cons_zero, List.getElem_cons_succ, Act.put, List.setIfInBounds_toArray, List.set_cons_zero, List.set_cons_succ]
              refine wpAnyH_take (i := 4) (v := ?_) rfl (by kernel_rfl) (by kernel_rfl) (by kernel_rfl) (fun _ _ _ h => h) (Or.inl ⟨by rfl, ?_⟩) (by assumption) ?_
              rotate_left
              · (intro w hSw; (try dsimp only at hSw); go_simp; try with_reducible rfl)
              try simp only [List.getElem_toArray, List.getElem_cons_zero, List.getElem_cons_succ, Act.put, List.setIfInBounds_toArray, List.set_cons_zero, List.set_cons_succ]
              refine wpAnyH_take (i := 5) (v := ?_) rfl (by kernel_rfl) (by kernel_rfl) (by kernel_rfl) (fun _ _ _ h => h) (Or.inl ⟨by rfl, ?_⟩) (by assumption) ?_
              rotate_left
              · (intro w hSw; (try dsimp only at hSw); go_simp; try with_reducible rfl)
              try simp only [List.getElem_toArray, List.getElem_cons_zero, List.getElem_cons_succ, Act.put, List.setIfInBounds_toArray, List.set_cons_zero, List.set_cons_succ]
              refine wpAnyH_take (i := 6) (v := ?_) rfl (by kernel_rfl) (by kernel_rfl) (by kernel_rfl) (fun _ _ _ h => h) (Or.inl ⟨by rfl, ?_⟩) (by assumption) ?_
              rotate_left
              · (intro w hSw; (try dsimp only at hSw); go_simp; try with_reducible rfl)
              try simp only [List.getElem_toArray, List.getElem_cons_zero, List.getElem_cons_succ, Act.put, List.setIfInBounds_toArray, List.set_cons_zero, List.set_cons_succ]
              refine wpAnyH_take (i := 7) (v := ?_) rfl (by kernel_rfl) (by kernel_rfl) (by kernel_rfl) (fun _ _ _ h => h) (Or.inl ⟨by rfl, ?_⟩) (by assumption) ?_
              rotate_left
              · (intro w hSw; (try dsimp only at hSw); go_simp; try with_reducible rfl)
              try simp only [List.getElem_toArray, List.getElem_cons_zero, List.getElem_cons_succ, Act.put, List.setIfInBounds_toArray, List.set_cons_zero, List.set_cons_succ]
              refine wpAnyH_take (i := 8) (v := ?_) rfl (by kernel_rfl) (by kernel_rfl) (by kernel_rfl) (fun _ _ _ h => h) (Or.inl ⟨by rfl, ?_⟩) (by assumption) ?_
              rotate_left
              · (intro w hSw; (try dsimp only at hSw); go_simp; try with_reducible rfl)
              try simp only [List.getElem_toArray, List.getElem_cons_zero, List.getElem_cons_succ, Act.put, List.setIfInBounds_toArray, List.set_cons_zero, List.set_cons_succ]
              refine wpAnyH_take (i := 9) (v := ?_) rfl (by kernel_rfl) (by kernel_rfl) (by kernel_rfl) (fun _ _ _ h => h) (Or.inl ⟨by rfl, ?_⟩) (by assumption) ?_
              rotate_left
              · (intro w hSw; (try dsimp only at hSw); go_simp; try with_reducible rfl)
              try simp only [List.getElem_toArray, List.getElem_cons_zero, List.getElem_cons_succ, Act.put, List.setIfInBounds_toArray, List.set_cons_zero, List.set_cons_succ]
              refine wpAnyH_take (i := 10) (v := ?_) rfl (by kernel_rfl) (by kernel_rfl) (by kernel_rfl) (fun _ _ _ h => h) (Or.inl ⟨by rfl, ?_⟩) (by assumption) ?_
              rotate_left
              · (intro w hSw; (try dsimp only at hSw); go_simp; try with_reducible rfl)
              try simp only [List.getElem_toArray, List.getElem_cons_zero, List.getElem_cons_succ, Act.put, List.setIfInBounds_toArray, List.set_cons_zero, List.set_cons_succ]
              refine wpAnyH_take (i := 11) (v := ?_) rfl (by kernel_rfl) (by kernel_rfl) (by kernel_rfl) (fun _ _ _ h => h) (Or.inl ⟨by rfl, ?_⟩) (by assumption) ?_
              rotate_left
              · (intro w hSw; (try dsimp only at hSw); go_simp; try with_reducible rfl)
              try simp only [List.getElem_toArray, List.getElem_cons_zero, List.getElem_cons_succ, Act.put, List.setIfInBounds_toArray, List.set_cons_zero, List.set_cons_succ]
              refine wpAnyH_take (i := 12) (v := ?_) rfl (by kernel_rfl) (by kernel_rfl) (by kernel_rfl) (fun _ _ _ h => h) (Or.inl ⟨by rfl, ?_⟩) (by assumption) ?_
              rotate_left
              · (intro w hSw; (try dsimp only at hSw); go_simp; try with_reducible rfl)
              try simp only [List.getElem_toArray, List.getElem_cons_zero, List.getElem_cons_succ, Act.put, List.setIfInBounds_toArray, List.set_cons_zero, List.set_cons_succ]
              refine wpAnyH_take (i := 13) (v := ?_) rfl (by kernel_rfl) (by kernel_rfl) (by kernel_rfl) (fun _ _ _ h => h) (Or.inl ⟨by rfl, ?_⟩) (by assumption) ?_
              rotate_left
              · (intro w hSw; (try dsimp only at hSw); go_simp; try with_reducible rfl)
              try simp only [List.getElem_toArray, List.getElem_cons_zero, List.getElem_cons_succ, Act.put, List.setIfInBounds_toArray, List.set_cons_zero, List.set_cons_succ]
              refine wpAnyH_take (i := 17) (v := ?_) rfl (by kernel_rfl) (by kernel_rfl) (by kernel_rfl) (fun _ _ _ h => h) (Or.inl ⟨by rfl, ?_⟩) (by assumption) ?_
              rotate_left
              · (intro w hSw; (try dsimp only at hSw); go_simp; try with_reducible rfl)
              try simp only [List.getElem_toArray, List.getElem_cons_zero, List.getElem_cons_succ, Act.put, List.setIfInBounds_toArray, List.set_cons_zero, List.set_cons_succ]
              refine wpAnyH_take (i := 18) (v := ?_) rfl (by kernel_rfl) (by kernel_rfl) (by kernel_rfl) (fun _ _ _ h => h) (Or.inl ⟨by rfl, ?_⟩) (by assumption) ?_
              rotate_left
              · (intro w hSw; (try dsimp only at hSw); go_simp; try with_reducible rfl)
              try simp only [List.getElem_toArray, List.getElem_cons_zero, List.getElem_cons_succ, Act.put, List.setIfInBounds_toArray, List.set_cons_zero, List.set_cons_succ]
              refine wpAnyH_ready (rs := [14]) (by kernel_rfl) (by simp) ?_
              refine AllReadyH.cons rfl (fun K hK => ?_) AllReadyH.nil
              try simp only [List.getElem_toArray]
              go_simp
              (go_at_call 18; refine (HPW.out _).mono ?_; rintro e w99 ⟨rfl, hw99⟩; subst w99)
              refine hK.out _ _ (by first | exact ⟨y12, z12⟩ | exact ⟨y11, z11⟩ | exact ⟨y10, z10⟩ | exact ⟨y9, z9⟩ | exact ⟨y8, z8⟩ | exact ⟨x0, x1⟩ | go_keep) (fun hHeld => ?_)
              clear hK K
              try simp only [List.getElem_toArray, List.getElem_cons_zero, List.getElem_cons_succ, Act.put, List.setIfInBounds_toArray, List.set_cons_zero, List.set_cons_succ]
              refine wpAnyH_take (i := 15) (v := ?_) rfl (by kernel_rfl) (by kernel_rfl) (by kernel_rfl) (fun _ _ _ h => h) (Or.inl ⟨by rfl, ?_⟩) (by assumption) ?_
              rotate_left
              · (intro w hSw; (try dsimp only at hSw); go_simp; try with_reducible rfl)
              try simp only [List.getElem_toArray, List.getElem_cons_zero, List.getElem_cons_succ, Act.put, List.setIfInBounds_toArray, List.set_cons_zero, List.set_cons_succ]
              refine wpAnyH_ready (rs := [16]) (by kernel_rfl) (by simp) ?_
              refine AllReadyH.cons rfl (fun K hK => ?_) AllReadyH.nil
              try simp only [List.getElem_toArray]
              go_simp
              (go_at_call 15; (try simp only [hw2, hw0]); refine (HTF.out _ _ I1.out.rd).mono ?_; rintro e w9 ⟨a9, c9, rfl, hin9, hbd⟩; have hb9 : Below w8.heap.size w8 w9 := hbd; clear hbd; rw [hL] at hin9 ⊢; have hz9 := hb9.size; replace X := Lib.hid (X.out.next hb9 (by omega)); replace I1 := Lib.hid (I1.out.below hb9 (Nat.le_refl _)); replace IA := Lib.hid (IA.out.below hb9 (Nat.le_refl _)); replace B := Lib.hid (B.out.trans (hb9.mono (by omega))); have IF := Lib.hid (hin9.mono (Nat.zero_le _)); clear hin9; clear hb9; have y9 := X.out.out.at0; have z9 := X.out.out.at1)
              refine hK.out _ _ (by first | exact ⟨y12, z12⟩ | exact ⟨y11, z11⟩ | exact ⟨y10, z10⟩ | exact ⟨y9, z9⟩ | exact ⟨y8, z8⟩ | exact ⟨x0, x1⟩ | go_keep) (fun hHeld => ?_)
              clear hK K
              try simp only [List.getElem_toArray, List.getElem_cons_zero, List.getElem_cons_succ, Act.put, List.setIfInBounds_toArray, List.set_cons_zero, List.set_cons_succ]
              refine wpAnyH_ready (rs := [19]) (by kernel_rfl) (by simp) ?_
              refine AllReadyH.cons rfl (fun K hK => ?_) AllReadyH.nil
              try simp only [List.getElem_toArray]
              go_simp
              (go_at_call 16; refine (lawsEqualInts _ _ (toI ns) (toI ns) _ IF.out.rd I1.out.rd).mono ?_; rintro e w10 ⟨he10, hd10⟩; have hb10 : Below w9.heap.size w9 w10 := (by obtain ⟨d, rfl⟩ := hd10; first | exact below_drewN (Below.refl _ _) d | exact below_drewN ((Below.refl _ _).drew) d); clear hd10; rw [eqB_self] at he10; subst he10; have hz10 := hb10.size; replace X := Lib.hid (X.out.next hb10 (by omega)); replace I1 := Lib.hid (I1.out.below hb10 (Nat.le_refl _)); replace IA := Lib.hid (IA.out.below hb10 (Nat.le_refl _)); replace IF := Lib.hid (IF.out.below hb10 (Nat.le_refl _)); replace B := Lib.hid (B.out.trans (hb10.mono (by omega))); clear hb10; have y10 := X.out.out.at0; have z10 := X.out.out.at1)
              refine hK.out _ _ (by first | exact ⟨y12, z12⟩ | exact ⟨y11, z11⟩ | exact ⟨y10, z10⟩ | exact ⟨y9, z9⟩ | exact ⟨y8, z8⟩ | exact ⟨x0, x1⟩ | go_keep) (fun hHeld => ?_)
              clear hK K
              try simp only [List.getElem_toArray, List.getElem_cons_zero, List.getElem_cons_succ, Act.put, List.setIfInBounds_toArray, List.set_cons_zero, List.set_cons_succ]
              refine wpAnyH_take (i := 20) (v := ?_) rfl (by kernel_rfl) (by kernel_rfl) (by kernel_rfl) (fun _ _ _ h => h) (Or.inl ⟨by rfl, ?_⟩) (by assumption) ?_
              rotate_left
              · (intro w hSw; (try dsimp only at hSw); go_simp; try with_reducible rfl)
              try simp only [List.getElem_toArray, List.getElem_cons_zero, List.getElem_cons_succ, Act.put, List.setIfInBounds_toArray, List.set_cons_zero, List.set_cons_succ]
              refine wpAnyH_take (i := 21) (v := ?_) rfl (by kernel_rfl) (by kernel_rfl) (by kernel_rfl) (fun _ _ _ h => h) (Or.inl ⟨by rfl, ?_⟩) (by assumption) ?_
              rotate_left
              · (intro w hSw; (try dsimp only at hSw); go_simp; try with_reducible rfl)
              try simp only [List.getElem_toArray, List.getElem_cons_zero, List.getElem_cons_succ, Act.put, List.setIfInBounds_toArray, List.set_cons_zero, List.set_cons_succ]
              refine wpAnyH_take (i := 22) (v := ?_) rfl (by kernel_rfl) (by kernel_rfl) (by kernel_rfl) (fun _ _ _ h => h) (Or.inl ⟨by rfl, ?_⟩) (by assumption) ?_
              rotate_left
              · (intro w hSw; (try dsimp only at hSw); go_simp; try with_reducible rfl)
              try simp only [List.getElem_toArray, List.getElem_cons_zero, List.getElem_cons_succ, Act.put, List.setIfInBounds_toArray, List.set_cons_zero, List.set_cons_succ]
              refine wpAnyH_take (i := 23) (v := ?_) rfl (by kernel_rfl) (by kernel_rfl) (by kernel_rfl) (fun _ _ _ h => h) (Or.inl ⟨by rfl, ?_⟩) (by assumption) ?_
              rotate_left
              · (intro w hSw; (try dsimp only at hSw); go_simp; try with_reducible rfl)
              try simp only [List.getElem_toArray, List.getElem_cons_zero, List.getElem_cons_succ, Act.put, List.setIfInBounds_toArray, List.set_cons_zero, List.set_cons_succ]
              refine wpAnyH_take (i := 24) (v := ?_) rfl (by kernel_rfl) (by kernel_rfl) (by kernel_rfl) (fun _ _ _ h => h) (Or.inl ⟨by rfl, ?_⟩) (by assumption) ?_
              rotate_left
              · (intro w hSw; (try dsimp only at hSw); go_simp; try with_reducible rfl)
              try simp only [List.getElem_toArray, List.getElem_cons_zero, List.getElem_cons_succ, Act.put, List.setIfInBounds_toArray, List.set_cons_zero, List.set_cons_succ]
              refine wpAnyH_take (i := 25) (v := ?_) rfl (by kernel_rfl) (by kernel_rfl) (by kernel_rfl) (fun _ _ _ h => h) (Or.inl ⟨by rfl, ?_⟩) (by assumption) ?_
              rotate_left
              · (intro w hSw; (try dsimp only at hSw); go_simp; try with_reducible rfl)
              try simp only [List.getElem_toArray, List.getElem_cons_zero, List.getElem_cons_succ, Act.put, List.setIfInBounds_toArray, List.set_cons_zero, List.set_cons_succ]
              refine wpAnyH_take (i := 26) (v := ?_) rfl (by kernel_rfl) (by kernel_rfl) (by kernel_rfl) (fun _ _ _ h => h) (Or.inl ⟨by rfl, ?_⟩) (by assumption) ?_
              rotate_left
              · (intro w hSw; (try dsimp only at hSw); go_simp; try with_reducible rfl)
              try simp only [List.getElem_toArray, List.getElem_cons_zero, List.getElem_cons_succ, Act.put, List.setIfInBounds_toArray, List.set_cons_zero, List.set_cons_succ]
              refine wpAnyH_take (i := 28) (v := ?_) rfl (by kernel_rfl) (by kernel_rfl) (by kernel_rfl) (fun _ _ _ h => h) (Or.inl ⟨by rfl, ?_⟩) (by assumption) ?_
              rotate_left
              · (intro w hSw; (try dsimp only at hSw); go_simp; try with_reducible rfl)
              try simp only [List.getElem_toArray, List.getElem_cons_zero, List.getElem_cons_succ, Act.put, List.setIfInBounds_toArray, List.set_cons_zero, List.set_cons_succ]
              refine wpAnyH_ready (rs := [27]) (by kernel_rfl) (by simp) ?_
              refine AllReadyH.cons rfl (fun K hK => ?_) AllReadyH.nil
              try simp only [List.getElem_toArray]
              go_simp
              (go_at_call 15; refine (HTT.out _ _ IA.out.rd).mono ?_; rintro e w11 ⟨a11, c11, rfl, hin11, hbd⟩; have hb11 : Below w10.heap.size w10 w11 := hbd; clear hbd; rw [HALl.out] at hin11 ⊢; have hz11 := hb11.size; replace X := Lib.hid (X.out.next hb11 (by omega)); replace I1 := Lib.hid (I1.out.below hb11 (Nat.le_refl _)); replace IA := Lib.hid (IA.out.below hb11 (Nat.le_refl _)); replace IF := Lib.hid (IF.out.below hb11 (Nat.le_refl _)); replace B := Lib.hid (B.out.trans (hb11.mono (by omega))); have IG := Lib.hid (hin11.mono (Nat.zero_le _)); clear hin11; clear hb11; have y11 := X.out.out.at0; have z11 := X.out.out.at1)
              refine hK.out _ _ (by first | exact ⟨y12, z12⟩ | exact ⟨y11, z11⟩ | exact ⟨y10, z10⟩ | exact ⟨y9, z9⟩ | exact ⟨y8, z8⟩ | exact ⟨x0, x1⟩ | go_keep) (fun hHeld => ?_)
              clear hK K
              try simp only [List.getElem_toArray, List.getElem_cons_zero, List.getElem_cons_succ, Act.put, List.setIfInBounds_toArray, List.set_cons_zero, List.set_cons_succ]
              refine wpAnyH_ready (rs := [29]) (by kernel_rfl) (by simp) ?_
              refine AllReadyH.cons rfl (fun K hK => ?_) AllReadyH.nil
              try simp only [List.getElem_toArray]
              go_simp
              (go_at_call 16; refine (lawsEqualInts _ _ (toI A) (toI A) _ IG.out.rd IA.out.rd).mono ?_; rintro e w12 ⟨he12, hd12⟩; have hb12 : Below w11.heap.size w11 w12 := (by obtain ⟨d, rfl⟩ := hd12; first | exact below_drewN (Below.refl _ _) d | exact below_drewN ((Below.refl _ _).drew) d); clear hd12; rw [eqB_self] at he12; subst he12; have hz12 := hb12.size; replace X := Lib.hid (X.out.next hb12 (by omega)); replace I1 := Lib.hid (I1.out.below hb12 (Nat.le_refl _)); replace IA := Lib.hid (IA.out.below hb12 (Nat.le_refl _)); replace IF := Lib.hid (IF.out.below hb12 (Nat.le_refl _)); replace IG := Lib.hid (IG.out.below hb12 (Nat.le_refl _)); replace B := Lib.hid (B.out.trans (hb12.mono (by omega))); clear hb12; have y12 := X.out.out.at0; have z12 := X.out.out.at1)
              refine hK.out _ _ (by first | exact ⟨y12, z12⟩ | exact ⟨y11, z11⟩ | exact ⟨y10, z10⟩ | exact ⟨y9, z9⟩ | exact ⟨y8, z8⟩ | exact ⟨x0, x1⟩ | go_keep) (fun hHeld => ?_)
              clear hK K
              try simp only [List.getElem_toArray, List.getElem_cons_zero, List.getElem_cons_succ, Act.put, List.setIfInBounds_toArray, List.set_cons_zero, List.set_cons_succ]
              refine wpAnyH_take (i := 30) (v := ?_) rfl (by kernel_rfl) (by kernel_rfl) (by kernel_rfl) (fun _ _ _ h => h) (Or.inl ⟨by rfl, ?_⟩) (by assumption) ?_
              rotate_left
              · (intro w hSw; (try dsimp only at hSw); go_simp; try with_reducible rfl)
              try simp only [List.getElem_toArray, List.getElem_cons_zero, List.getElem_cons_succ, Act.put, List.setIfInBounds_toArray, List.set_cons_zero, List.set_cons_succ]
              refine wpAnyH_take (i := 31) (v := ?_) rfl (by kernel_rfl) (by kernel_rfl) (by kernel_rfl) (fun _ _ _ h => h) (Or.inl ⟨by rfl, ?_⟩) (by assumption) ?_
              rotate_left
              · (intro w hSw; (try dsimp only at hSw); go_simp; try with_reducible rfl)
              try simp only [List.getElem_toArray, List.getElem_cons_zero, List.getElem_cons_succ, Act.put, List.setIfInBounds_toArray, List.set_cons_zero, List.set_cons_succ]
              refine wpAnyH_done (by kernel_rfl) ?_ _
              all_goals
                go_wp2_with fail
                go_ret
                exact ⟨rfl, B.out⟩
    · rw [Bool.not_eq_true] at hv
      have eA : traceB N zs s = [] := traceB_bad hv
      have HI := Lib.hid (fun v w h => implTraceOf N v zs s w h)
      have HS := Lib.hid (fun v w h => specTraceOf N v zs s w h)
      have HV := Lib.hid (fun v w h => implValid N v zs w h)
      rw [eA] at HI HS
      rw [hv] at HV
      clear eA hv
      refine (HI.out _ _ I1.out.rd).mono ?_
      rintro e w3 ⟨a3, c3, rfl, hin3, hb3⟩
      have hz3 := hb3.size
      replace X := Lib.hid (X.out.next hb3 (by omega))
      replace I1 := Lib.hid (I1.out.below hb3 (Nat.le_refl _))
      replace B := Lib.hid (B.out.trans (hb3.mono (by omega)))
      have IA := Lib.hid (hin3.mono (Nat.zero_le _))
      clear hin3 hb3
      have x0 := X.out.out.at0
      have x1 := X.out.out.at1
      go_wp2_with fail
      clear x0 x1
      refine (HS.out _ _ I1.out.rd).mono ?_
      rintro e w4 ⟨a4, c4, rfl, hin4, hb4⟩
      have hz4 := hb4.size
      replace X := Lib.hid (X.out.next hb4 (by omega))
      replace I1 := Lib.hid (I1.out.below hb4 (Nat.le_refl _))
      replace IA := Lib.hid (IA.out.below hb4 (Nat.le_refl _))
      replace B := Lib.hid (B.out.trans (hb4.mono (by omega)))
      have IB := Lib.hid (hin4.mono (Nat.zero_le _))
      clear hin4 hb4
      have x0 := X.out.out.at0
      have x1 := X.out.out.at1
      go_wp2_with fail
      clear x0 x1
      have HQ := Lib.hid (lawsEqualInts _ _ [] [] _ IA.out.rd IB.out.rd)
      rw [eqB_self] at HQ
      refine (HQ.out).mono ?_
      rintro e w5 ⟨rfl, hd5⟩
      have hb5 : Below w4.heap.size w4 w5 := by obtain ⟨d, rfl⟩ := hd5; exact below_drewN (Below.refl _ _) d
      clear hd5
      have hz5 := hb5.size
      replace X := Lib.hid (X.out.next hb5 (by omega))
      replace I1 := Lib.hid (I1.out.below hb5 (Nat.le_refl _))
      replace IA := Lib.hid (IA.out.below hb5 (Nat.le_refl _))
      replace IB := Lib.hid (IB.out.below hb5 (Nat.le_refl _))
      replace B := Lib.hid (B.out.trans (hb5.mono (by omega)))
      clear hb5
      have x0 := X.out.out.at0
      have x1 := X.out.out.at1
      go_wp2_with fail
      clear x0 x1
      refine (HV.out _ _ I1.out.rd).mono ?_
      rintro e w6 ⟨rfl, hb6⟩
      have hz6 := hb6.size
      replace X := Lib.hid (X.out.next hb6 (by omega))
      replace I1 := Lib.hid (I1.out.below hb6 (Nat.le_refl _))
      replace IA := Lib.hid (IA.out.below hb6 (Nat.le_refl _))
      replace IB := Lib.hid (IB.out.below hb6 (Nat.le_refl _))
      replace B := Lib.hid (B.out.trans (hb6.mono (by omega)))
      clear hb6
      have x0 := X.out.out.at0
      have x1 := X.out.out.at1
      go_wp2_with fail
      clear x0 x1
      refine (HS.out _ _ I1.out.rd).mono ?_
      rintro e w7 ⟨a7, c7, rfl, hin7, hb7⟩
      have hz7 := hb7.size
      replace X := Lib.hid (X.out.next hb7 (by omega))
      replace I1 := Lib.hid (I1.out.below hb7 (Nat.le_refl _))
      replace IA := Lib.hid (IA.out.below hb7 (Nat.le_refl _))
      replace IB := Lib.hid (IB.out.below hb7 (Nat.le_refl _))
      replace B := Lib.hid (B.out.trans (hb7.mono (by omega)))
      have IC := Lib.hid (hin7.mono (Nat.zero_le _))
      clear hin7 hb7
      have x0 := X.out.out.at0
      have x1 := X.out.out.at1
      go_wp2_with fail
      clear x0 x1
      have HQ2 := Lib.hid (lawsEqualInts _ _ [] [] _ IA.out.rd IC.out.rd)
      rw [eqB_self] at HQ2
      refine (HQ2.out).mono ?_
      rintro e w8 ⟨rfl, hd8⟩
      have hb8 : Below w7.heap.size w7 w8 := by obtain ⟨d, rfl⟩ := hd8; exact below_drewN (Below.refl _ _) d
      clear hd8
      have hz8 := hb8.size
      replace X := Lib.hid (X.out.next hb8 (by omega))
      replace I1 := Lib.hid (I1.out.below hb8 (Nat.le_refl _))
      replace IA := Lib.hid (IA.out.below hb8 (Nat.le_refl _))
      replace IB := Lib.hid (IB.out.below hb8 (Nat.le_refl _))
      replace IC := Lib.hid (IC.out.below hb8 (Nat.le_refl _))
      replace B := Lib.hid (B.out.trans (hb8.mono (by omega)))
      clear hb8
      have x0 := X.out.out.at0
      have x1 := X.out.out.at1
      go_wp2_with fail
      clear x0 x1
      go_ret
      exact ⟨rfl, B.out⟩
  · go_enter Try.func4, Try.ntmps4
    go_wp2_with fail
    go_ret
    exact ⟨rfl, Below.refl _ _⟩

end Go.Proofs.Ytfnlfhgjmnjgaaa
