/- FnLearnPlan's walk: what is learned fits. Conditions: the code is a slice of bytes. -/
import Derived.Test.YthmipnflbiclbaaDoorDrawsLp
import Derived.Test.YthmipnflbiclbaaDoorLpI
import Derived.Test.YthmipnflbiclbaaDoorLpS
import Derived.Test.YthmipnflbiclbaaDoorZJ
import Derived.Test.YthmipnflbiclbaaDoorZK
import Derived.Test.YthmipnflbiclbaaDoorZU
namespace Go.Proofs.YthmipnflbiclbaaDoor
open Go.RowKit

theorem eqB_self (xs : List Int) : eqB xs xs = true := eqB_of rfl (fun _ _ => rfl)
theorem lp_fits {m : Nat} {ns : List Nat} {es : List (Int × Bool)} (hc : Cls m ns) {o : Option Nat} (h : lpO (fitK es es.length) (lys ns) = o) : (o = none → nowTo ns es es.length = []) ∧ ∀ t, o = some t → t ∈ nowTo ns es es.length := by
  rw [nowTo_flt]
  constructor
  · rintro rfl
    rw [List.filter_eq_nil_iff]
    intro t ht
    rw [lpO_out hc h t ht]; simp
  · rintro t rfl
    exact List.mem_filter.2 (lpO_in hc h)


set_option maxHeartbeats 6400000 in
set_option maxRecDepth 100000 in
theorem walkFnLearnPlan (a : Option Addr) (b off n cap : Nat) (w : World) (hc : n ≤ cap) (hcap : cap ≤ maxLen) (h : Byt w a b off n) (hsw : SW w) :
    Calls Tryd.prog 6 #[.slice a n cap] w fun e w' => e = .returned (.bool true) ∧ Below w.heap.size w w' := by
  have HSW := Lib.hid hsw
  clear hsw
  by_cases hn : n ≤ 1048576
  · have HD := Lib.hid (dDrawLearnPlan a b off n cap w hc hn hcap h)
    clear h
    go_enter Tryd.func6, Tryd.ntmps6
    go_wp2_with fail
    refine HD.out.mono ?_
    rintro e w1 ⟨N, zs, es, hbd, a1, c1, a2, c2, rfl, hin, hex, hb⟩
    generalize hL : zs.length = L at *
    generalize hK : es.length = K at *
    have X := Lib.hid (Bx.new N (.slice a1 L c1) w1)
    have I1 := Lib.hid ((hin.mono (Nat.zero_le _)).alloc (Obj.cells #[.int .i64 N, .slice a1 L c1] 25))
    have B := Lib.hid (hb.alloc hb.size (Obj.cells #[.int .i64 N, .slice a1 L c1] 25))
    have HZ2 := Lib.hid (show (w1.alloc (Obj.cells #[.int .i64 N, .slice a1 L c1] 25)).heap.size = w1.heap.size + 1 by simp)
    have U := Lib.hid ((hex.mono (Nat.zero_le _)).alloc (Obj.cells #[.int .i64 N, .slice a1 L c1] 25))
    have hz1 := hb.size
    clear hin hb HD hex
    go_wp2_with fail
    generalize (w1.alloc (Obj.cells #[.int .i64 N, .slice a1 L c1] 25)) = w2 at *
    have hz2 := HZ2.out
    generalize ho : w1.heap.size = o at *
    obtain ⟨hN0, hN1, hL34, hK36⟩ := hbd
    by_cases hvs : vsB N zs es = true
    · skip
      have hvd : vldB N zs = true := by simp only [vsB, Bool.and_eq_true] at hvs; exact hvs.1
      obtain ⟨m, ns, rfl, rfl, hcl⟩ := vldB_cls hvd
      have hL2 : ns.length = L := by rw [← hL, toI_length]
      have HI := Lib.hid (fun v u w h hu hs => implLearnPlan (m : Int) v (toI ns) u es w h hu hs)
      have HS := Lib.hid (fun v u w h hu => specLearnPlan (m : Int) v (toI ns) u es w h hu)
      have HV := Lib.hid (fun v u w h hu => implValidSample (m : Int) v (toI ns) u es w h hu)
      have HC := Lib.hid (fun v u w h hu hs => implConsistentOf (m : Int) v (toI ns) u es w h hu hs)
      rw [show conN (m : Int) (toI ns) es = m by rw [conN, if_pos hvs], show conL (m : Int) (toI ns) es = toI (nowTo ns es es.length) by rw [conL, if_pos hvs, toNat_toI]] at HC
      rw [lpN_in hvs] at HI HS
      rw [hvs] at HV
      obtain ⟨op, hop⟩ : ∃ op, op = lpO (fitK es es.length) (lys ns) := ⟨_, rfl⟩
      obtain ⟨f1, f2⟩ := lp_fits hcl hop.symm
      rw [← hop] at HI HS
      generalize nowTo ns es es.length = NL at *
      obtain ⟨C, hC⟩ : ∃ C, C = NL.length := ⟨_, rfl⟩
      have HCL := Lib.hid (show (toI NL).length = C by rw [toI_length, hC])
      have hfd : ∀ (a : Option Addr) (l c : Nat) (w : World), Sem.run Tryd.prog (Instr.field 25 (.agg #[.int .i64 (m : Int), .slice a l c]) 1) w = .ok (.slice a l c) w := fun _ _ _ _ => by kernel_rfl
      clear hvs hvd hcl hop
      cases op with
      | none =>
        have hC0 : C = 0 := by rw [hC, f1 rfl]; rfl
        subst hC0
        clear f1 f2 hC
        dsimp only [lpI, lpS, Option.getD_none, Option.isSome_none] at HI HS
        refine (HI.out _ _ _ I1.out.rd U.out.rd (by first | exact HSW.out.next B.out | exact (show SW (World.drew _) from HSW.out.next B.out) | exact HSW.out.next (B.out.trans ((Below.refl _ _).drew)))).mono ?_
        rintro e w3 ⟨rfl, hb3⟩
        have hz3 := hb3.size
        replace X := Lib.hid (X.out.next hb3 X.out.lt)
        replace I1 := Lib.hid (I1.out.below hb3 (Nat.le_refl _))
        replace U := Lib.hid (U.out.below hb3 (Nat.le_refl _))
        replace B := Lib.hid (B.out.trans (hb3.mono B.out.size))
        clear hb3
        have x0 := X.out.out.at0
        have x1 := X.out.out.at1
        go_wp2_with fail
        clear x0 x1
        refine (HS.out _ _ _ I1.out.rd U.out.rd).mono ?_
        rintro e w4 ⟨rfl, hb4⟩
        have hz4 := hb4.size
        replace X := Lib.hid (X.out.next hb4 X.out.lt)
        replace I1 := Lib.hid (I1.out.below hb4 (Nat.le_refl _))
        replace U := Lib.hid (U.out.below hb4 (Nat.le_refl _))
        replace B := Lib.hid (B.out.trans (hb4.mono B.out.size))
        clear hb4
        have x0 := X.out.out.at0
        have x1 := X.out.out.at1
        go_wp2_with fail
        clear x0 x1
        refine (HV.out _ _ _ I1.out.rd U.out.rd).mono ?_
        rintro e w5 ⟨rfl, hb5⟩
        have hz5 := hb5.size
        replace X := Lib.hid (X.out.next hb5 X.out.lt)
        replace I1 := Lib.hid (I1.out.below hb5 (Nat.le_refl _))
        replace U := Lib.hid (U.out.below hb5 (Nat.le_refl _))
        replace B := Lib.hid (B.out.trans (hb5.mono B.out.size))
        clear hb5
        have x0 := X.out.out.at0
        have x1 := X.out.out.at1
        go_wp2_with fail
        clear x0 x1
        refine (HC.out _ _ _ I1.out.rd U.out.rd (by first | exact HSW.out.next B.out | exact (show SW (World.drew _) from HSW.out.next B.out) | exact HSW.out.next (B.out.trans ((Below.refl _ _).drew)))).mono ?_
        rintro e w6 ⟨a6, c6, rfl, hin6, hb6⟩
        rw [HCL.out] at hin6 ⊢
        have hz6 := hb6.size
        replace X := Lib.hid (X.out.next hb6 X.out.lt)
        replace I1 := Lib.hid (I1.out.below hb6 (Nat.le_refl _))
        replace U := Lib.hid (U.out.below hb6 (Nat.le_refl _))
        replace B := Lib.hid (B.out.trans (hb6.mono B.out.size))
        have IC := Lib.hid (hin6.mono (Nat.zero_le _))
        clear hin6 hb6
        have x0 := X.out.out.at0
        have x1 := X.out.out.at1
        go_wp2_with fail
        clear x0 x1
        go_ret
        exact ⟨rfl, by first | exact B.out | exact B.out.drew⟩
      | some t =>
        have hm9 := f2 t rfl
        have hC0 : 0 < C := by rw [hC]; exact List.length_pos_iff.2 (List.ne_nil_of_mem hm9)
        have hh9 : hasB (toI NL) (t : Int) = true := by simp only [hasB, decide_eq_true_eq, toI, List.mem_map]; exact ⟨t, hm9, rfl⟩
        have hcd : decide ((0 : Int) < (C : Int)) = true := decide_eq_true (by omega)
        have htt : ((t : Int) != (t : Int)) = false := by simp
        clear f1 f2 hC hm9
        dsimp only [lpI, lpS, Option.getD_some, Option.isSome_some] at HI HS
        refine (HI.out _ _ _ I1.out.rd U.out.rd (by first | exact HSW.out.next B.out | exact (show SW (World.drew _) from HSW.out.next B.out) | exact HSW.out.next (B.out.trans ((Below.refl _ _).drew)))).mono ?_
        rintro e w3 ⟨rfl, hb3⟩
        have hz3 := hb3.size
        replace X := Lib.hid (X.out.next hb3 X.out.lt)
        replace I1 := Lib.hid (I1.out.below hb3 (Nat.le_refl _))
        replace U := Lib.hid (U.out.below hb3 (Nat.le_refl _))
        replace B := Lib.hid (B.out.trans (hb3.mono B.out.size))
        clear hb3
        have x0 := X.out.out.at0
        have x1 := X.out.out.at1
        go_wp2_with fail
        clear x0 x1
        refine (HS.out _ _ _ I1.out.rd U.out.rd).mono ?_
        rintro e w4 ⟨rfl, hb4⟩
        have hz4 := hb4.size
        replace X := Lib.hid (X.out.next hb4 X.out.lt)
        replace I1 := Lib.hid (I1.out.below hb4 (Nat.le_refl _))
        replace U := Lib.hid (U.out.below hb4 (Nat.le_refl _))
        replace B := Lib.hid (B.out.trans (hb4.mono B.out.size))
        clear hb4
        have x0 := X.out.out.at0
        have x1 := X.out.out.at1
        go_wp2_with fail
        clear x0 x1
        refine (HV.out _ _ _ I1.out.rd U.out.rd).mono ?_
        rintro e w5 ⟨rfl, hb5⟩
        have hz5 := hb5.size
        replace X := Lib.hid (X.out.next hb5 X.out.lt)
        replace I1 := Lib.hid (I1.out.below hb5 (Nat.le_refl _))
        replace U := Lib.hid (U.out.below hb5 (Nat.le_refl _))
        replace B := Lib.hid (B.out.trans (hb5.mono B.out.size))
        clear hb5
        have x0 := X.out.out.at0
        have x1 := X.out.out.at1
        go_wp2_with fail
        clear x0 x1
        refine (HC.out _ _ _ I1.out.rd U.out.rd (by first | exact HSW.out.next B.out | exact (show SW (World.drew _) from HSW.out.next B.out) | exact HSW.out.next (B.out.trans ((Below.refl _ _).drew)))).mono ?_
        rintro e w6 ⟨a6, c6, rfl, hin6, hb6⟩
        rw [HCL.out] at hin6 ⊢
        have hz6 := hb6.size
        replace X := Lib.hid (X.out.next hb6 X.out.lt)
        replace I1 := Lib.hid (I1.out.below hb6 (Nat.le_refl _))
        replace U := Lib.hid (U.out.below hb6 (Nat.le_refl _))
        replace B := Lib.hid (B.out.trans (hb6.mono B.out.size))
        have IC := Lib.hid (hin6.mono (Nat.zero_le _))
        clear hin6 hb6
        have x0 := X.out.out.at0
        have x1 := X.out.out.at1
        go_wp2_with fail
        clear x0 x1
        have HO := Lib.hid ((lawsHolds _ (toI NL) (t : Int) _ IC.out.rd).mono (fun e w' h => And.intro h.1 h.2.symm))
        rw [hh9] at HO
        clear hh9
        refine (HO.out).mono ?_
        rintro e w7 ⟨rfl, hw7⟩
        subst w7
        have x0 := X.out.out.at0
        have x1 := X.out.out.at1
        go_wp2_with fail
        clear x0 x1
        go_ret
        exact ⟨rfl, by first | exact B.out | exact B.out.drew⟩
    · rw [Bool.not_eq_true] at hvs
      have HI := Lib.hid (fun v u w h hu hs => implLearnPlan N v zs u es w h hu hs)
      have HS := Lib.hid (fun v u w h hu => specLearnPlan N v zs u es w h hu)
      have HV := Lib.hid (fun v u w h hu => implValidSample N v zs u es w h hu)
      rw [lpN_bad hvs] at HI HS
      rw [hvs] at HV
      dsimp only [lpI, lpS, Option.getD_none, Option.isSome_none] at HI HS
      clear hvs
      refine (HI.out _ _ _ I1.out.rd U.out.rd (by first | exact HSW.out.next B.out | exact (show SW (World.drew _) from HSW.out.next B.out) | exact HSW.out.next (B.out.trans ((Below.refl _ _).drew)))).mono ?_
      rintro e w3 ⟨rfl, hb3⟩
      have hz3 := hb3.size
      replace X := Lib.hid (X.out.next hb3 X.out.lt)
      replace I1 := Lib.hid (I1.out.below hb3 (Nat.le_refl _))
      replace U := Lib.hid (U.out.below hb3 (Nat.le_refl _))
      replace B := Lib.hid (B.out.trans (hb3.mono B.out.size))
      clear hb3
      have x0 := X.out.out.at0
      have x1 := X.out.out.at1
      go_wp2_with fail
      clear x0 x1
      refine (HS.out _ _ _ I1.out.rd U.out.rd).mono ?_
      rintro e w4 ⟨rfl, hb4⟩
      have hz4 := hb4.size
      replace X := Lib.hid (X.out.next hb4 X.out.lt)
      replace I1 := Lib.hid (I1.out.below hb4 (Nat.le_refl _))
      replace U := Lib.hid (U.out.below hb4 (Nat.le_refl _))
      replace B := Lib.hid (B.out.trans (hb4.mono B.out.size))
      clear hb4
      have x0 := X.out.out.at0
      have x1 := X.out.out.at1
      go_wp2_with fail
      clear x0 x1
      refine (HV.out _ _ _ I1.out.rd U.out.rd).mono ?_
      rintro e w5 ⟨rfl, hb5⟩
      have hz5 := hb5.size
      replace X := Lib.hid (X.out.next hb5 X.out.lt)
      replace I1 := Lib.hid (I1.out.below hb5 (Nat.le_refl _))
      replace U := Lib.hid (U.out.below hb5 (Nat.le_refl _))
      replace B := Lib.hid (B.out.trans (hb5.mono B.out.size))
      clear hb5
      have x0 := X.out.out.at0
      have x1 := X.out.out.at1
      go_wp2_with fail
      clear x0 x1
      go_ret
      exact ⟨rfl, by first | exact B.out | exact B.out.drew⟩
  · go_enter Tryd.func6, Tryd.ntmps6
    go_wp2_with fail
    go_ret
    exact ⟨rfl, Below.refl _ _⟩

end Go.Proofs.YthmipnflbiclbaaDoor
