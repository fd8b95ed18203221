/- FnDistanceIn's walk: distances are at least what differs. Conditions: the code is a slice of bytes. -/
import Derived.Test.YtgldckgecoijfaaDrawsDi
import Derived.Test.YtgldckgecoijfaaPthM
import Derived.Test.YtgldckgecoijfaaZJ
import Derived.Test.YtgldckgecoijfaaZK
namespace Go.Proofs.Ytgldckgecoijfaa
open Go.RowKit

theorem eqB_self (xs : List Int) : eqB xs xs = true := eqB_of rfl (fun _ _ => rfl)

set_option maxHeartbeats 6400000 in
set_option maxRecDepth 100000 in
theorem walkFnDistanceIn (a : Option Addr) (b off n cap : Nat) (w : World) (hc : n ≤ cap) (hcap : cap ≤ maxLen) (h : Byt w a b off n) :
    Calls Try.prog 3 #[.slice a n cap] w fun e w' => e = .returned (.bool true) ∧ Below w.heap.size w w' := by
  by_cases hn : n ≤ 1048576
  · have HD := Lib.hid (dDrawDistanceIn a b off n cap w hc hn hcap h)
    clear h
    go_enter Try.func3, Try.ntmps3
    go_wp2_with fail
    refine HD.out.mono ?_
    rintro e w1 ⟨N, zs, s, r, hbd, a1, c1, rfl, hin, hb⟩
    generalize hL : zs.length = L at *
    have X := Lib.hid (Bx.new N (.slice a1 L c1) w1)
    have I1 := Lib.hid ((hin.mono (Nat.zero_le _)).alloc (Obj.cells #[.int .i64 N, .slice a1 L c1] 25))
    have B := Lib.hid (hb.alloc hb.size (Obj.cells #[.int .i64 N, .slice a1 L c1] 25))
    have HZ2 := Lib.hid (show (w1.alloc (Obj.cells #[.int .i64 N, .slice a1 L c1] 25)).heap.size = w1.heap.size + 1 by simp)
    have hz1 := hb.size
    clear hin hb HD
    go_wp2_with fail
    generalize (w1.alloc (Obj.cells #[.int .i64 N, .slice a1 L c1] 25)) = w2 at *
    have hz2 := HZ2.out
    generalize ho : w1.heap.size = o at *
    obtain ⟨hN0, hN1, hL34⟩ := hbd
    by_cases hk : dOk N zs s r = true
    · obtain ⟨m, ns, i, j, rfl, rfl, hcl, hi, hj, rfl, rfl, hv⟩ := dOk_at hk
      obtain ⟨d, hd⟩ := dst_ex (nR ns) i j
      obtain ⟨F, hF⟩ := fst_ex ns
      have HI := Lib.hid (fun v w h => show Calls Try.prog 13 #[.agg #[.int .i64 (m : Int), v], .int .i64 ((ns.getD i 0 : Nat) : Int), .int .i64 ((ns.getD j 0 : Nat) : Int)] w fun e w' => e = .returned (.int .i64 d) ∧ Below w.heap.size w w' from (implDistIn m ns i j v w hcl hv hi hj h).mono (fun e w' ⟨d', h1, h2, h3⟩ => ⟨by rw [h1, h2.uniq hd], h3⟩))
      have HT := Lib.hid (fun v w h => show Calls Try.prog 13 #[.agg #[.int .i64 (m : Int), v], .int .i64 ((ns.getD j 0 : Nat) : Int), .int .i64 ((ns.getD i 0 : Nat) : Int)] w fun e w' => e = .returned (.int .i64 d) ∧ Below w.heap.size w w' from (implDistIn m ns j i v w hcl hv hj hi h).mono (fun e w' ⟨d', h1, h2, h3⟩ => ⟨by rw [h1, h2.uniq (dst_turn hi hj hd)], h3⟩))
      have HS := Lib.hid (fun v w h => show Calls Try.prog 14 #[.agg #[.int .i64 (m : Int), v], .int .i64 ((ns.getD i 0 : Nat) : Int), .int .i64 ((ns.getD j 0 : Nat) : Int)] w fun e w' => e = .returned (.int .i64 d) ∧ Below w.heap.size w w' from (specDistIn m ns i j v w hcl hv hi hj h).mono (fun e w' ⟨d', h1, h2, h3⟩ => ⟨by rw [h1, h2.uniq hd], h3⟩))
      have HV := Lib.hid (fun v w h => implValid (m : Int) v (toI ns) w h)
      rw [hv] at HV
      have HC := Lib.hid (fun v w h => implCompsIn m ns F v w hcl hv hF h)
      have HA := Lib.hid (fun v w h => lawsHolds v (toI ns) ((ns.getD i 0 : Nat) : Int) w h)
      have HB := Lib.hid (fun v w h => lawsHolds v (toI ns) ((ns.getD j 0 : Nat) : Int) w h)
      rw [at_hasB hi] at HA
      rw [at_hasB hj] at HB
      have mi := hcl.lt32 _ (getD_of_lt hi)
      have mj := hcl.lt32 _ (getD_of_lt hj)
      have HX := i64_xor (ns.getD i 0) (ns.getD j 0) (by omega) (by omega)
      have HSz := Lib.hid (fun w => lawsSize (ns.getD i 0 ^^^ ns.getD j 0) (Nat.xor_lt_two_pow (n := 5) mi mj) w)
      have hcm : d < 0 → 1 < cmTo F ns.length := fun k => cm_two hF hi hj ((dst_rch hd).1 k)
      have hij : ns.getD i 0 = ns.getD j 0 ↔ i = j := ⟨fun e => asc_one hcl hi hj e, fun e => by rw [e]⟩
      by_cases hd0 : d < 0
      · have hc1 := hcm hd0
        clear hcm hij HX HSz HT mi mj hd hF hcl hi hj hv hk
        generalize cmTo F ns.length = p at *
        generalize ns.getD i 0 = x at *
        generalize ns.getD j 0 = y at *
        have hpI : (1 : Int) < (p : Int) := by omega
        refine (HI.out _ _ I1.out.rd).mono ?_
        rintro e w3 ⟨rfl, hb3⟩
        have hz3 := hb3.size
        replace X := Lib.hid (X.out.next hb3 X.out.lt)
        replace I1 := Lib.hid (I1.out.below hb3 (Nat.le_refl _))
        replace B := Lib.hid (B.out.trans (hb3.mono B.out.size))
        clear hb3
        have x0 := X.out.out.at0
        have x1 := X.out.out.at1
        go_wp2_with fail
        clear x0 x1
        refine (HS.out _ _ I1.out.rd).mono ?_
        rintro e w4 ⟨rfl, hb4⟩
        have hz4 := hb4.size
        replace X := Lib.hid (X.out.next hb4 X.out.lt)
        replace I1 := Lib.hid (I1.out.below hb4 (Nat.le_refl _))
        replace B := Lib.hid (B.out.trans (hb4.mono B.out.size))
        clear hb4
        have x0 := X.out.out.at0
        have x1 := X.out.out.at1
        go_wp2_with fail
        clear x0 x1
        refine (HV.out _ _ I1.out.rd).mono ?_
        rintro e w5 ⟨rfl, hb5⟩
        have hz5 := hb5.size
        replace X := Lib.hid (X.out.next hb5 X.out.lt)
        replace I1 := Lib.hid (I1.out.below hb5 (Nat.le_refl _))
        replace B := Lib.hid (B.out.trans (hb5.mono B.out.size))
        clear hb5
        have x0 := X.out.out.at0
        have x1 := X.out.out.at1
        go_wp2_with fail
        clear x0 x1
        refine (HA.out _ _ I1.out.rd).mono ?_
        rintro e w6 ⟨rfl, hw6⟩
        subst w6
        have x0 := X.out.out.at0
        have x1 := X.out.out.at1
        go_wp2_with fail
        clear x0 x1
        refine (HB.out _ _ I1.out.rd).mono ?_
        rintro e w6 ⟨rfl, hw6⟩
        subst w6
        have x0 := X.out.out.at0
        have x1 := X.out.out.at1
        go_wp2_with fail
        clear x0 x1
        refine (HC.out _ _ I1.out.rd).mono ?_
        rintro e w6 ⟨rfl, hb6⟩
        have hz6 := hb6.size
        replace X := Lib.hid (X.out.next hb6 X.out.lt)
        replace I1 := Lib.hid (I1.out.below hb6 (Nat.le_refl _))
        replace B := Lib.hid (B.out.trans (hb6.mono B.out.size))
        clear hb6
        have x0 := X.out.out.at0
        have x1 := X.out.out.at1
        go_wp2_with fail
        clear x0 x1
        go_ret
        exact ⟨rfl, by first | exact B.out | exact B.out.drew⟩
      · have hkl := dst_len hi hd
        have hl32 := hcl.length
        obtain ⟨k, rfl, g1, g2, g3⟩ := dst_facts hcl.lt32 hi hd hd0
        rw [← hij] at g3
        clear hcm hij HC HA HB mi mj hd hF hcl hi hj hv hk hd0
        generalize hpc : pc (ns.getD i 0 ^^^ ns.getD j 0) = p at *
        generalize ns.getD i 0 ^^^ ns.getD j 0 = z at *
        generalize ns.getD i 0 = x at *
        generalize ns.getD j 0 = y at *
        have hk0 : ¬ (k : Int) < 0 := by omega
        have hpI : (p : Int) ≤ (k : Int) := by omega
        obtain ⟨q, hq⟩ : ∃ q, q = k - p := ⟨_, rfl⟩
        have hwq : IntKind.i64.wrap ((k : Int) - (p : Int)) = (q : Int) := by rw [IntKind.wrap_i64]; omega
        have hq2 : q % 2 = 0 := by rw [hq]; exact g2
        have hwr : (q : Int).tmod 2 = 0 := by rw [Int.tmod_eq_emod_of_nonneg (by omega)]; omega
        clear g1 g2 hq hpc hkl hl32
        by_cases hk1 : k = 0
        · have hxy : x = y := g3.1 hk1
          have e1 : ((x : Int) == (y : Int)) = true := by simp; omega
          have e2 : ((k : Int) == 0) = true := by simp; omega
          clear g3 hk1 hxy
          refine (HI.out _ _ I1.out.rd).mono ?_
          rintro e w3 ⟨rfl, hb3⟩
          have hz3 := hb3.size
          replace X := Lib.hid (X.out.next hb3 X.out.lt)
          replace I1 := Lib.hid (I1.out.below hb3 (Nat.le_refl _))
          replace B := Lib.hid (B.out.trans (hb3.mono B.out.size))
          clear hb3
          have x0 := X.out.out.at0
          have x1 := X.out.out.at1
          go_wp2_with fail
          clear x0 x1
          refine (HS.out _ _ I1.out.rd).mono ?_
          rintro e w4 ⟨rfl, hb4⟩
          have hz4 := hb4.size
          replace X := Lib.hid (X.out.next hb4 X.out.lt)
          replace I1 := Lib.hid (I1.out.below hb4 (Nat.le_refl _))
          replace B := Lib.hid (B.out.trans (hb4.mono B.out.size))
          clear hb4
          have x0 := X.out.out.at0
          have x1 := X.out.out.at1
          go_wp2_with fail
          clear x0 x1
          refine (HV.out _ _ I1.out.rd).mono ?_
          rintro e w5 ⟨rfl, hb5⟩
          have hz5 := hb5.size
          replace X := Lib.hid (X.out.next hb5 X.out.lt)
          replace I1 := Lib.hid (I1.out.below hb5 (Nat.le_refl _))
          replace B := Lib.hid (B.out.trans (hb5.mono B.out.size))
          clear hb5
          have x0 := X.out.out.at0
          have x1 := X.out.out.at1
          go_wp2_with fail
          clear x0 x1
          refine (HSz.out _).mono ?_
          rintro e w6 ⟨rfl, hw6⟩
          subst w6
          have x0 := X.out.out.at0
          have x1 := X.out.out.at1
          go_wp2_with fail
          clear x0 x1
          refine (HT.out _ _ I1.out.rd).mono ?_
          rintro e w6 ⟨rfl, hb6⟩
          have hz6 := hb6.size
          replace X := Lib.hid (X.out.next hb6 X.out.lt)
          replace I1 := Lib.hid (I1.out.below hb6 (Nat.le_refl _))
          replace B := Lib.hid (B.out.trans (hb6.mono B.out.size))
          clear hb6
          have x0 := X.out.out.at0
          have x1 := X.out.out.at1
          go_wp2_with fail
          clear x0 x1
          go_ret
          exact ⟨rfl, by first | exact B.out | exact B.out.drew⟩
        · have hxy : ¬ x = y := fun e => hk1 (g3.2 e)
          have e1 : ((x : Int) == (y : Int)) = false := by simp; omega
          have e2 : ((k : Int) == 0) = false := by simp; omega
          clear g3 hk1 hxy
          refine (HI.out _ _ I1.out.rd).mono ?_
          rintro e w3 ⟨rfl, hb3⟩
          have hz3 := hb3.size
          replace X := Lib.hid (X.out.next hb3 X.out.lt)
          replace I1 := Lib.hid (I1.out.below hb3 (Nat.le_refl _))
          replace B := Lib.hid (B.out.trans (hb3.mono B.out.size))
          clear hb3
          have x0 := X.out.out.at0
          have x1 := X.out.out.at1
          go_wp2_with fail
          clear x0 x1
          refine (HS.out _ _ I1.out.rd).mono ?_
          rintro e w4 ⟨rfl, hb4⟩
          have hz4 := hb4.size
          replace X := Lib.hid (X.out.next hb4 X.out.lt)
          replace I1 := Lib.hid (I1.out.below hb4 (Nat.le_refl _))
          replace B := Lib.hid (B.out.trans (hb4.mono B.out.size))
          clear hb4
          have x0 := X.out.out.at0
          have x1 := X.out.out.at1
          go_wp2_with fail
          clear x0 x1
          refine (HV.out _ _ I1.out.rd).mono ?_
          rintro e w5 ⟨rfl, hb5⟩
          have hz5 := hb5.size
          replace X := Lib.hid (X.out.next hb5 X.out.lt)
          replace I1 := Lib.hid (I1.out.below hb5 (Nat.le_refl _))
          replace B := Lib.hid (B.out.trans (hb5.mono B.out.size))
          clear hb5
          have x0 := X.out.out.at0
          have x1 := X.out.out.at1
          go_wp2_with fail
          clear x0 x1
          refine (HSz.out _).mono ?_
          rintro e w6 ⟨rfl, hw6⟩
          subst w6
          have x0 := X.out.out.at0
          have x1 := X.out.out.at1
          go_wp2_with fail
          clear x0 x1
          refine (HT.out _ _ I1.out.rd).mono ?_
          rintro e w6 ⟨rfl, hb6⟩
          have hz6 := hb6.size
          replace X := Lib.hid (X.out.next hb6 X.out.lt)
          replace I1 := Lib.hid (I1.out.below hb6 (Nat.le_refl _))
          replace B := Lib.hid (B.out.trans (hb6.mono B.out.size))
          clear hb6
          have x0 := X.out.out.at0
          have x1 := X.out.out.at1
          go_wp2_with fail
          clear x0 x1
          go_ret
          exact ⟨rfl, by first | exact B.out | exact B.out.drew⟩
    · rw [Bool.not_eq_true] at hk
      have HI := Lib.hid (fun v w h => implDistNo N v zs s r w hk h)
      have HS := Lib.hid (fun v w h => specDistNo N v zs s r w hk h)
      have HV := Lib.hid (fun v w h => implValid N v zs w h)
      cases hv : vldB N zs with
      | false =>
        rw [hv] at HV
        clear hv hk
        refine (HI.out _ _ I1.out.rd).mono ?_
        rintro e w3 ⟨rfl, hb3⟩
        have hz3 := hb3.size
        replace X := Lib.hid (X.out.next hb3 X.out.lt)
        replace I1 := Lib.hid (I1.out.below hb3 (Nat.le_refl _))
        replace B := Lib.hid (B.out.trans (hb3.mono B.out.size))
        clear hb3
        have x0 := X.out.out.at0
        have x1 := X.out.out.at1
        go_wp2_with fail
        clear x0 x1
        refine (HS.out _ _ I1.out.rd).mono ?_
        rintro e w4 ⟨rfl, hb4⟩
        have hz4 := hb4.size
        replace X := Lib.hid (X.out.next hb4 X.out.lt)
        replace I1 := Lib.hid (I1.out.below hb4 (Nat.le_refl _))
        replace B := Lib.hid (B.out.trans (hb4.mono B.out.size))
        clear hb4
        have x0 := X.out.out.at0
        have x1 := X.out.out.at1
        go_wp2_with fail
        clear x0 x1
        refine (HV.out _ _ I1.out.rd).mono ?_
        rintro e w5 ⟨rfl, hb5⟩
        have hz5 := hb5.size
        replace X := Lib.hid (X.out.next hb5 X.out.lt)
        replace I1 := Lib.hid (I1.out.below hb5 (Nat.le_refl _))
        replace B := Lib.hid (B.out.trans (hb5.mono B.out.size))
        clear hb5
        have x0 := X.out.out.at0
        have x1 := X.out.out.at1
        go_wp2_with fail
        clear x0 x1
        refine (HS.out _ _ I1.out.rd).mono ?_
        rintro e w6 ⟨rfl, hb6⟩
        have hz6 := hb6.size
        replace X := Lib.hid (X.out.next hb6 X.out.lt)
        replace I1 := Lib.hid (I1.out.below hb6 (Nat.le_refl _))
        replace B := Lib.hid (B.out.trans (hb6.mono B.out.size))
        clear hb6
        have x0 := X.out.out.at0
        have x1 := X.out.out.at1
        go_wp2_with fail
        clear x0 x1
        go_ret
        exact ⟨rfl, by first | exact B.out | exact B.out.drew⟩
      | true =>
        rw [hv] at HV
        have HA := Lib.hid (fun v w h => lawsHolds v zs s w h)
        have HB := Lib.hid (fun v w h => lawsHolds v zs r w h)
        cases ha : hasB zs s with
        | false =>
          rw [ha] at HA
          clear hv hk ha
          refine (HI.out _ _ I1.out.rd).mono ?_
          rintro e w3 ⟨rfl, hb3⟩
          have hz3 := hb3.size
          replace X := Lib.hid (X.out.next hb3 X.out.lt)
          replace I1 := Lib.hid (I1.out.below hb3 (Nat.le_refl _))
          replace B := Lib.hid (B.out.trans (hb3.mono B.out.size))
          clear hb3
          have x0 := X.out.out.at0
          have x1 := X.out.out.at1
          go_wp2_with fail
          clear x0 x1
          refine (HS.out _ _ I1.out.rd).mono ?_
          rintro e w4 ⟨rfl, hb4⟩
          have hz4 := hb4.size
          replace X := Lib.hid (X.out.next hb4 X.out.lt)
          replace I1 := Lib.hid (I1.out.below hb4 (Nat.le_refl _))
          replace B := Lib.hid (B.out.trans (hb4.mono B.out.size))
          clear hb4
          have x0 := X.out.out.at0
          have x1 := X.out.out.at1
          go_wp2_with fail
          clear x0 x1
          refine (HV.out _ _ I1.out.rd).mono ?_
          rintro e w5 ⟨rfl, hb5⟩
          have hz5 := hb5.size
          replace X := Lib.hid (X.out.next hb5 X.out.lt)
          replace I1 := Lib.hid (I1.out.below hb5 (Nat.le_refl _))
          replace B := Lib.hid (B.out.trans (hb5.mono B.out.size))
          clear hb5
          have x0 := X.out.out.at0
          have x1 := X.out.out.at1
          go_wp2_with fail
          clear x0 x1
          refine (HA.out _ _ I1.out.rd).mono ?_
          rintro e w6 ⟨rfl, hw6⟩
          subst w6
          have x0 := X.out.out.at0
          have x1 := X.out.out.at1
          go_wp2_with fail
          clear x0 x1
          go_ret
          exact ⟨rfl, by first | exact B.out | exact B.out.drew⟩
        | true =>
          have hb2 : hasB zs r = false := by
            simp only [dOk, hv, ha, Bool.true_and] at hk
            exact hk
          rw [ha] at HA
          rw [hb2] at HB
          clear hv hk ha hb2
          refine (HI.out _ _ I1.out.rd).mono ?_
          rintro e w3 ⟨rfl, hb3⟩
          have hz3 := hb3.size
          replace X := Lib.hid (X.out.next hb3 X.out.lt)
          replace I1 := Lib.hid (I1.out.below hb3 (Nat.le_refl _))
          replace B := Lib.hid (B.out.trans (hb3.mono B.out.size))
          clear hb3
          have x0 := X.out.out.at0
          have x1 := X.out.out.at1
          go_wp2_with fail
          clear x0 x1
          refine (HS.out _ _ I1.out.rd).mono ?_
          rintro e w4 ⟨rfl, hb4⟩
          have hz4 := hb4.size
          replace X := Lib.hid (X.out.next hb4 X.out.lt)
          replace I1 := Lib.hid (I1.out.below hb4 (Nat.le_refl _))
          replace B := Lib.hid (B.out.trans (hb4.mono B.out.size))
          clear hb4
          have x0 := X.out.out.at0
          have x1 := X.out.out.at1
          go_wp2_with fail
          clear x0 x1
          refine (HV.out _ _ I1.out.rd).mono ?_
          rintro e w5 ⟨rfl, hb5⟩
          have hz5 := hb5.size
          replace X := Lib.hid (X.out.next hb5 X.out.lt)
          replace I1 := Lib.hid (I1.out.below hb5 (Nat.le_refl _))
          replace B := Lib.hid (B.out.trans (hb5.mono B.out.size))
          clear hb5
          have x0 := X.out.out.at0
          have x1 := X.out.out.at1
          go_wp2_with fail
          clear x0 x1
          refine (HA.out _ _ I1.out.rd).mono ?_
          rintro e w6 ⟨rfl, hw6⟩
          subst w6
          have x0 := X.out.out.at0
          have x1 := X.out.out.at1
          go_wp2_with fail
          clear x0 x1
          refine (HB.out _ _ I1.out.rd).mono ?_
          rintro e w6 ⟨rfl, hw6⟩
          subst w6
          have x0 := X.out.out.at0
          have x1 := X.out.out.at1
          go_wp2_with fail
          clear x0 x1
          go_ret
          exact ⟨rfl, by first | exact B.out | exact B.out.drew⟩
  · go_enter Try.func3, Try.ntmps3
    go_wp2_with fail
    go_ret
    exact ⟨rfl, Below.refl _ _⟩

end Go.Proofs.Ytgldckgecoijfaa
