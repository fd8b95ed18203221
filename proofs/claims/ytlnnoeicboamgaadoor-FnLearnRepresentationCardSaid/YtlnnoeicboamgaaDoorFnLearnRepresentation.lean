/- FnLearnRepresentation's walk: what plans tell fits. Conditions: the code is a slice of bytes. -/
import Derived.Test.YtlnnoeicboamgaaDoorDrawsLr
import Derived.Test.YtlnnoeicboamgaaDoorLrn
import Derived.Test.YtlnnoeicboamgaaDoorLrnS
import Derived.Test.YtlnnoeicboamgaaDoorRisk
import Derived.Test.YtlnnoeicboamgaaDoorSmpM
import Derived.Test.YtlnnoeicboamgaaDoorZH
import Derived.Test.YtlnnoeicboamgaaDoorZJ
import Derived.Test.YtlnnoeicboamgaaDoorZK
import Derived.Test.YtlnnoeicboamgaaDoorZU
namespace Go.Proofs.YtlnnoeicboamgaaDoor
open Go.RowKit

theorem eqB_self (xs : List Int) : eqB xs xs = true := eqB_of rfl (fun _ _ => rfl)
theorem lr_told {n : Int} {zs ps : List Int} {es : List (Int × Bool)} (h : lrB n zs ps es = true) : hasB (conL n zs es) (lrN n zs ps es) = true ∧ rkB n zs (lrN n zs ps es) es = 0 := by
  cases ho : lrO n zs ps es with
  | none => rw [lrB, ho] at h; cases h
  | some i =>
    rw [lrN, ho, lrV]
    rw [lrO] at ho
    by_cases hk : (vsB n zs es && repB n zs ps) = true
    · rw [if_pos hk] at ho
      rw [Bool.and_eq_true] at hk
      have hvs := hk.1
      have hvd : vldB n zs = true := by simp only [vsB, Bool.and_eq_true] at hvs; exact hvs.1
      have hT := List.find?_some ho
      obtain ⟨m, ns, rfl, rfl, hcl⟩ := vldB_cls hvd
      rw [lrT, toNat_toI, Bool.and_eq_true, decide_eq_true_eq] at hT
      have hm0 := (mem_now2 ns es (ns.getD i 0) es.length).1 hT.1
      have hmem : ns.getD i 0 ∈ ns ∧ msTo (ns.getD i 0) es es.length = 0 := ⟨hm0.1, (ms_zero (ns.getD i 0) es es.length).2 hm0.2⟩
      clear hm0
      rw [toI_getD]
      refine ⟨?_, ?_⟩
      · rw [conL, if_pos hvs, toNat_toI, hasB_nat]
        exact decide_eq_true hT.1
      · have ht := hcl.lt _ hmem.1
        generalize ns.getD i 0 = t at *
        have hsb : setB m (t : Int) = true := by
          have : ((2 ^ m : Nat) : Int) = (2 : Int) ^ m := by simp
          obtain ⟨q, hq⟩ : ∃ q, q = 2 ^ m := ⟨_, rfl⟩
          rw [← hq] at ht this
          simp only [setB, Bool.and_eq_true, decide_eq_true_eq]
          omega
        rw [rkB_in (show rkK (m : Int) (toI ns) (t : Int) es = true by simp [rkK, inB, hvd, hsb, hvs])]
        exact hmem.2
    · rw [if_neg hk] at ho; cases ho


set_option maxHeartbeats 6400000 in
set_option maxRecDepth 100000 in
theorem walkFnLearnRepresentation (a : Option Addr) (b off n cap : Nat) (w : World) (hc : n ≤ cap) (hcap : cap ≤ maxLen) (h : Byt w a b off n) (hsw : SW w) :
    Calls Tryd.prog 4 #[.slice a n cap] w fun e w' => e = .returned (.bool true) ∧ Below w.heap.size w w' := by
  have HSW := Lib.hid hsw
  clear hsw
  by_cases hn : n ≤ 1048576
  · have HD := Lib.hid (dDrawLearnRepresentation a b off n cap w hc hn hcap h)
    clear h
    go_enter Tryd.func4, Tryd.ntmps4
    go_wp2_with fail
    refine HD.out.mono ?_
    rintro e w1 ⟨N, zs, ps, es, hbd, a1, c1, a2, c2, a3, c3, rfl, hin, hps, hex, hb⟩
    generalize hL : zs.length = L at *
    generalize hK : es.length = K at *
    generalize hM : ps.length = M at *
    have X := Lib.hid (Bx.new N (.slice a1 L c1) w1)
    have I1 := Lib.hid ((hin.mono (Nat.zero_le _)).alloc (Obj.cells #[.int .i64 N, .slice a1 L c1] 30))
    have B := Lib.hid (hb.alloc hb.size (Obj.cells #[.int .i64 N, .slice a1 L c1] 30))
    have HZ2 := Lib.hid (show (w1.alloc (Obj.cells #[.int .i64 N, .slice a1 L c1] 30)).heap.size = w1.heap.size + 1 by simp)
    have U := Lib.hid ((hex.mono (Nat.zero_le _)).alloc (Obj.cells #[.int .i64 N, .slice a1 L c1] 30))
    have PL := Lib.hid ((hps.mono (Nat.zero_le _)).alloc (Obj.cells #[.int .i64 N, .slice a1 L c1] 30))
    have hz1 := hb.size
    clear hin hb HD hex hps
    go_wp2_with fail
    generalize (w1.alloc (Obj.cells #[.int .i64 N, .slice a1 L c1] 30)) = w2 at *
    have hz2 := HZ2.out
    generalize ho : w1.heap.size = o at *
    obtain ⟨hN0, hN1, hL34, hM42, hK36⟩ := hbd
    have HI := Lib.hid (fun v u x w h hu hx hs => implLearnRepresentation N v u x zs ps es w h hu hx hs)
    have HS := Lib.hid (fun v u x w h hu hx => specLearnRepresentation N v u x zs ps es w h hu hx)
    cases hk : lrB N zs ps es with
    | false =>
      rw [hk] at HI HS
      clear hk
      generalize lrN N zs ps es = t at *
      refine (HI.out _ _ _ _ I1.out.rd PL.out.rd U.out.rd (by first | exact HSW.out.next B.out | exact (show SW (World.drew _) from HSW.out.next B.out) | exact HSW.out.next (B.out.trans ((Below.refl _ _).drew)))).mono ?_
      rintro e w3 ⟨rfl, hb3⟩
      have hz3 := hb3.size
      replace X := Lib.hid (X.out.next hb3 X.out.lt)
      replace I1 := Lib.hid (I1.out.below hb3 (Nat.le_refl _))
      replace U := Lib.hid (U.out.below hb3 (Nat.le_refl _))
      replace PL := Lib.hid (PL.out.below hb3 (Nat.le_refl _))
      replace B := Lib.hid (B.out.trans (hb3.mono B.out.size))
      clear hb3
      have x0 := X.out.out.at0
      have x1 := X.out.out.at1
      go_wp2_with fail
      clear x0 x1
      refine (HS.out _ _ _ _ I1.out.rd PL.out.rd U.out.rd).mono ?_
      rintro e w4 ⟨rfl, hb4⟩
      have hz4 := hb4.size
      replace X := Lib.hid (X.out.next hb4 X.out.lt)
      replace I1 := Lib.hid (I1.out.below hb4 (Nat.le_refl _))
      replace U := Lib.hid (U.out.below hb4 (Nat.le_refl _))
      replace PL := Lib.hid (PL.out.below hb4 (Nat.le_refl _))
      replace B := Lib.hid (B.out.trans (hb4.mono B.out.size))
      clear hb4
      have x0 := X.out.out.at0
      have x1 := X.out.out.at1
      go_wp2_with fail
      clear x0 x1
      go_ret
      exact ⟨rfl, by first | exact B.out | exact B.out.drew⟩
    | true =>
      obtain ⟨h1, h2⟩ := lr_told hk
      rw [hk] at HI HS
      clear hk
      generalize lrN N zs ps es = t at *
      have HC := Lib.hid (fun v u w h1 hu hs => implConsistentOf N v zs u es w h1 hu hs)
      have HH := Lib.hid (fun v w h => lawsHolds v (conL N zs es) t w h)
      have HR := Lib.hid (fun v u w h hu => implRiskOf N v zs t u es w h hu)
      rw [h1] at HH
      rw [h2] at HR
      obtain ⟨CN, hCN⟩ : ∃ CN, CN = conN N zs es := ⟨_, rfl⟩
      rw [← hCN] at HC
      obtain ⟨C, hC⟩ : ∃ C, C = (conL N zs es).length := ⟨_, rfl⟩
      have HCL := Lib.hid (show (conL N zs es).length = C by rw [hC])
      clear h1 h2 hC hCN
      generalize conL N zs es = CL at *
      refine (HI.out _ _ _ _ I1.out.rd PL.out.rd U.out.rd (by first | exact HSW.out.next B.out | exact (show SW (World.drew _) from HSW.out.next B.out) | exact HSW.out.next (B.out.trans ((Below.refl _ _).drew)))).mono ?_
      rintro e w3 ⟨rfl, hb3⟩
      have hz3 := hb3.size
      replace X := Lib.hid (X.out.next hb3 X.out.lt)
      replace I1 := Lib.hid (I1.out.below hb3 (Nat.le_refl _))
      replace U := Lib.hid (U.out.below hb3 (Nat.le_refl _))
      replace PL := Lib.hid (PL.out.below hb3 (Nat.le_refl _))
      replace B := Lib.hid (B.out.trans (hb3.mono B.out.size))
      clear hb3
      have x0 := X.out.out.at0
      have x1 := X.out.out.at1
      go_wp2_with fail
      clear x0 x1
      refine (HS.out _ _ _ _ I1.out.rd PL.out.rd U.out.rd).mono ?_
      rintro e w4 ⟨rfl, hb4⟩
      have hz4 := hb4.size
      replace X := Lib.hid (X.out.next hb4 X.out.lt)
      replace I1 := Lib.hid (I1.out.below hb4 (Nat.le_refl _))
      replace U := Lib.hid (U.out.below hb4 (Nat.le_refl _))
      replace PL := Lib.hid (PL.out.below hb4 (Nat.le_refl _))
      replace B := Lib.hid (B.out.trans (hb4.mono B.out.size))
      clear hb4
      have x0 := X.out.out.at0
      have x1 := X.out.out.at1
      go_wp2_with fail
      clear x0 x1
      have hfd : ∀ (a : Option Addr) (l c : Nat) (w : World), Sem.run Tryd.prog (Instr.field 30 (.agg #[.int .i64 CN, .slice a l c]) 1) w = .ok (.slice a l c) w := fun _ _ _ _ => by kernel_rfl
      refine (HC.out _ _ _ I1.out.rd U.out.rd (by first | exact HSW.out.next B.out | exact (show SW (World.drew _) from HSW.out.next B.out) | exact HSW.out.next (B.out.trans ((Below.refl _ _).drew)))).mono ?_
      rintro e w5 ⟨a5, c5, rfl, hin5, hb5⟩
      rw [HCL.out] at hin5 ⊢
      have hz5 := hb5.size
      replace X := Lib.hid (X.out.next hb5 X.out.lt)
      replace I1 := Lib.hid (I1.out.below hb5 (Nat.le_refl _))
      replace U := Lib.hid (U.out.below hb5 (Nat.le_refl _))
      replace PL := Lib.hid (PL.out.below hb5 (Nat.le_refl _))
      replace B := Lib.hid (B.out.trans (hb5.mono B.out.size))
      have IA := Lib.hid (hin5.mono (Nat.zero_le _))
      clear hin5 hb5
      have x0 := X.out.out.at0
      have x1 := X.out.out.at1
      go_wp2_with fail
      clear x0 x1
      refine (HH.out _ _ IA.out.rd).mono ?_
      rintro e w6 ⟨rfl, hw6⟩
      subst w6
      have x0 := X.out.out.at0
      have x1 := X.out.out.at1
      go_wp2_with fail
      clear x0 x1
      refine (HR.out _ _ _ I1.out.rd U.out.rd).mono ?_
      rintro e w6 ⟨rfl, hb6⟩
      have hz6 := hb6.size
      replace X := Lib.hid (X.out.next hb6 X.out.lt)
      replace I1 := Lib.hid (I1.out.below hb6 (Nat.le_refl _))
      replace U := Lib.hid (U.out.below hb6 (Nat.le_refl _))
      replace PL := Lib.hid (PL.out.below hb6 (Nat.le_refl _))
      replace IA := Lib.hid (IA.out.below hb6 (Nat.le_refl _))
      replace B := Lib.hid (B.out.trans (hb6.mono B.out.size))
      clear hb6
      have x0 := X.out.out.at0
      have x1 := X.out.out.at1
      go_wp2_with fail
      clear x0 x1
      go_ret
      exact ⟨rfl, by first | exact B.out | exact B.out.drew⟩
  · go_enter Tryd.func4, Tryd.ntmps4
    go_wp2_with fail
    go_ret
    exact ⟨rfl, Below.refl _ _⟩

end Go.Proofs.YtlnnoeicboamgaaDoor
