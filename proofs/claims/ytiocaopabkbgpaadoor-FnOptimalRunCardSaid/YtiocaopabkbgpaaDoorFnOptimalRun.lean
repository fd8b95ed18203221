/- FnOptimalRun's walk: the optimal rule makes no more mistakes than it must. Conditions: the code is a slice of bytes. -/
import Derived.Test.YtiocaopabkbgpaaDoorDrawsSo
import Derived.Test.YtiocaopabkbgpaaDoorLittle
import Derived.Test.YtiocaopabkbgpaaDoorRunM
import Derived.Test.YtiocaopabkbgpaaDoorRunS
import Derived.Test.YtiocaopabkbgpaaDoorZJ
import Derived.Test.YtiocaopabkbgpaaDoorZK
import Derived.Test.YtiocaopabkbgpaaDoorZM
namespace Go.Proofs.YtiocaopabkbgpaaDoor
open Go.RowKit

theorem eqB_self (xs : List Int) : eqB xs xs = true := eqB_of rfl (fun _ _ => rfl)

set_option maxHeartbeats 6400000 in
set_option maxRecDepth 100000 in
theorem walkFnOptimalRun (a : Option Addr) (b off n cap : Nat) (w : World) (hc : n ≤ cap) (hcap : cap ≤ maxLen) (h : Byt w a b off n) (hsw : SW w) :
    Calls Tryd.prog 6 #[.slice a n cap] w fun e w' => e = .returned (.bool true) ∧ Below w.heap.size w w' := by
  have HSW := Lib.hid hsw
  clear hsw
  by_cases hn : n ≤ 1048576
  · have HD := Lib.hid (dDrawOptimalRun a b off n cap w hc hn hcap h)
    clear h
    go_enter Tryd.func6, Tryd.ntmps6
    go_wp2_with fail
    refine HD.out.mono ?_
    rintro e w1 ⟨N, zs, es, hbd, a1, c1, a2, c2, rfl, hin, hex, hb⟩
    generalize hL : zs.length = L at *
    generalize hK : es.length = K at *
    have X := Lib.hid (Bx.new N (.slice a1 L c1) w1)
    have I1 := Lib.hid ((hin.mono (Nat.zero_le _)).alloc (Obj.cells #[.int .i64 N, .slice a1 L c1] 25))
    have B := Lib.hid (hb.alloc hb.size (Obj.cells #[.int .i64 N, .slice a1 L c1] 25))
    have HZ2 := Lib.hid (show (w1.alloc (Obj.cells #[.int .i64 N, .slice a1 L c1] 25)).heap.size = w1.heap.size + 1 by simp)
    have U := Lib.hid ((hex.mono (Nat.zero_le _)).alloc (Obj.cells #[.int .i64 N, .slice a1 L c1] 25))
    have hz1 := hb.size
    clear hin hb HD hex
    go_wp2_with fail
    generalize (w1.alloc (Obj.cells #[.int .i64 N, .slice a1 L c1] 25)) = w2 at *
    have hz2 := HZ2.out
    generalize ho : w1.heap.size = o at *
    obtain ⟨hN0, hN1, hL34, hK36⟩ := hbd
    by_cases hvs : vsB N zs es = true
    · skip
      have hvd : vldB N zs = true := by simp only [vsB, Bool.and_eq_true] at hvs; exact hvs.1
      obtain ⟨m, ns, rfl, rfl, hcl⟩ := vldB_cls hvd
      have hm := hcl.pts
      have hL2 : ns.length = L := by rw [← hL, toI_length]
      obtain ⟨hp, h12⟩ := vsB_pts hvs
      have HI := Lib.hid (fun v u w h hu hs => implOptimalRun (m : Int) v (toI ns) u es w h hu hs)
      have HS := Lib.hid (fun v u w h hu => specOptimalRun (m : Int) v (toI ns) u es w h hu)
      have HV := Lib.hid (fun v u w h hu => implValidSample (m : Int) v (toI ns) u es w h hu)
      have HC := Lib.hid (fun v u w h hu hs => implConsistentOf (m : Int) v (toI ns) u es w h hu hs)
      have eR : runB gOpt (m : Int) (toI ns) es = misTo gOpt ns es es.length := by rw [runB, if_pos hvs, toNat_toI]
      have eN : conN (m : Int) (toI ns) es = m := by rw [conN, if_pos hvs]
      have eL : conL (m : Int) (toI ns) es = toI (nowTo ns es es.length) := by rw [conL, if_pos hvs, toNat_toI]
      have hbd := misTo_bd gOpt ns es es.length
      have hend : nowTo ns es es.length ≠ [] → misTo gOpt ns es es.length ≤ mst ns := fun h => opt_end hcl hp h
      obtain ⟨C, hC⟩ : ∃ C, C = (nowTo ns es es.length).length := ⟨_, rfl⟩
      have HCL := Lib.hid (show (toI (nowTo ns es es.length)).length = C by rw [toI_length, hC])
      have hC0 : ¬ C = 0 → nowTo ns es es.length ≠ [] := fun h e => h (by rw [hC, e]; rfl)
      have hend2 := fun h => hend (hC0 h)
      rw [eR] at HI HS
      rw [eN, eL] at HC
      rw [hvs] at HV
      have HLi := Lib.hid (fun v w h hs => implLittlestoneOf (m : Int) v (toI ns) w h hs)
      rw [show litB (m : Int) (toI ns) = mst ns by rw [litB, if_pos hvd, toNat_toI]] at HLi
      generalize misTo gOpt ns es es.length = r at *
      generalize nowTo ns es es.length = NL at *
      rw [hK] at hbd h12
      have hrK : decide (r ≤ (K : Int)) = true := decide_eq_true (by omega)
      clear hvs hvd hcl hp eR eN eL hend hC0 hC

      have hfd : ∀ (a : Option Addr) (l c : Nat) (w : World), Sem.run Tryd.prog (Instr.field 25 (.agg #[.int .i64 (m : Int), .slice a l c]) 1) w = .ok (.slice a l c) w := fun _ _ _ _ => by kernel_rfl
      generalize mst ns = d at *
      refine (HI.out _ _ _ I1.out.rd U.out.rd (by first | exact HSW.out.next B.out | exact (show SW (World.drew _) from HSW.out.next B.out) | exact HSW.out.next (B.out.trans ((Below.refl _ _).drew)))).mono ?_
      rintro e w3 ⟨rfl, hb3⟩
      have hz3 := hb3.size
      replace X := Lib.hid (X.out.next hb3 X.out.lt)
      replace I1 := Lib.hid (I1.out.below hb3 (Nat.le_refl _))
      replace U := Lib.hid (U.out.below hb3 (Nat.le_refl _))
      replace B := Lib.hid (B.out.trans (hb3.mono B.out.size))
      clear hb3
      have x0 := X.out.out.at0
      have x1 := X.out.out.at1
      go_wp2_with fail
      clear x0 x1
      refine (HS.out _ _ _ I1.out.rd U.out.rd).mono ?_
      rintro e w4 ⟨rfl, hb4⟩
      have hz4 := hb4.size
      replace X := Lib.hid (X.out.next hb4 X.out.lt)
      replace I1 := Lib.hid (I1.out.below hb4 (Nat.le_refl _))
      replace U := Lib.hid (U.out.below hb4 (Nat.le_refl _))
      replace B := Lib.hid (B.out.trans (hb4.mono B.out.size))
      clear hb4
      have x0 := X.out.out.at0
      have x1 := X.out.out.at1
      go_wp2_with fail
      clear x0 x1
      refine (HV.out _ _ _ I1.out.rd U.out.rd).mono ?_
      rintro e w5 ⟨rfl, hb5⟩
      have hz5 := hb5.size
      replace X := Lib.hid (X.out.next hb5 X.out.lt)
      replace I1 := Lib.hid (I1.out.below hb5 (Nat.le_refl _))
      replace U := Lib.hid (U.out.below hb5 (Nat.le_refl _))
      replace B := Lib.hid (B.out.trans (hb5.mono B.out.size))
      clear hb5
      by_cases hc0 : C = 0
      · subst hc0
        have x0 := X.out.out.at0
        have x1 := X.out.out.at1
        go_wp2_with fail
        clear x0 x1
        refine (HC.out _ _ _ I1.out.rd U.out.rd (by first | exact HSW.out.next B.out | exact (show SW (World.drew _) from HSW.out.next B.out) | exact HSW.out.next (B.out.trans ((Below.refl _ _).drew)))).mono ?_
        rintro e w6 ⟨a6, c6, rfl, hin6, hb6⟩
        rw [HCL.out] at hin6 ⊢
        have hz6 := hb6.size
        replace X := Lib.hid (X.out.next hb6 X.out.lt)
        replace I1 := Lib.hid (I1.out.below hb6 (Nat.le_refl _))
        replace U := Lib.hid (U.out.below hb6 (Nat.le_refl _))
        replace B := Lib.hid (B.out.trans (hb6.mono B.out.size))
        have IC := Lib.hid (hin6.mono (Nat.zero_le _))
        clear hin6 hb6
        have x0 := X.out.out.at0
        have x1 := X.out.out.at1
        go_wp2_with fail
        clear x0 x1
        go_ret
        exact ⟨rfl, B.out⟩
      · have hpL : decide (r ≤ d) = true := decide_eq_true (hend2 hc0)
        have hcd : ((C : Int) == 0) = false := by simpa using hc0
        clear hend2
        have x0 := X.out.out.at0
        have x1 := X.out.out.at1
        go_wp2_with fail
        clear x0 x1
        refine (HC.out _ _ _ I1.out.rd U.out.rd (by first | exact HSW.out.next B.out | exact (show SW (World.drew _) from HSW.out.next B.out) | exact HSW.out.next (B.out.trans ((Below.refl _ _).drew)))).mono ?_
        rintro e w6 ⟨a6, c6, rfl, hin6, hb6⟩
        rw [HCL.out] at hin6 ⊢
        have hz6 := hb6.size
        replace X := Lib.hid (X.out.next hb6 X.out.lt)
        replace I1 := Lib.hid (I1.out.below hb6 (Nat.le_refl _))
        replace U := Lib.hid (U.out.below hb6 (Nat.le_refl _))
        replace B := Lib.hid (B.out.trans (hb6.mono B.out.size))
        have IC := Lib.hid (hin6.mono (Nat.zero_le _))
        clear hin6 hb6
        have x0 := X.out.out.at0
        have x1 := X.out.out.at1
        go_wp2_with fail
        clear x0 x1
        refine (HLi.out _ _ I1.out.rd (by first | exact HSW.out.next B.out | exact (show SW (World.drew _) from HSW.out.next B.out) | exact HSW.out.next (B.out.trans ((Below.refl _ _).drew)))).mono ?_
        rintro e w7 ⟨rfl, hb7⟩
        have hz7 := hb7.size
        replace X := Lib.hid (X.out.next hb7 X.out.lt)
        replace I1 := Lib.hid (I1.out.below hb7 (Nat.le_refl _))
        replace U := Lib.hid (U.out.below hb7 (Nat.le_refl _))
        replace IC := Lib.hid (IC.out.below hb7 (Nat.le_refl _))
        replace B := Lib.hid (B.out.trans (hb7.mono B.out.size))
        clear hb7
        have x0 := X.out.out.at0
        have x1 := X.out.out.at1
        go_wp2_with fail
        clear x0 x1
        go_ret
        exact ⟨rfl, B.out⟩
    · rw [Bool.not_eq_true] at hvs
      have HI := Lib.hid (fun v u w h hu hs => implOptimalRun N v zs u es w h hu hs)
      have HS := Lib.hid (fun v u w h hu => specOptimalRun N v zs u es w h hu)
      have HV := Lib.hid (fun v u w h hu => implValidSample N v zs u es w h hu)
      rw [show runB gOpt N zs es = -1 by rw [runB, if_neg (by rw [hvs]; simp)]] at HI HS
      rw [hvs] at HV
      clear hvs
      refine (HI.out _ _ _ I1.out.rd U.out.rd (by first | exact HSW.out.next B.out | exact (show SW (World.drew _) from HSW.out.next B.out) | exact HSW.out.next (B.out.trans ((Below.refl _ _).drew)))).mono ?_
      rintro e w3 ⟨rfl, hb3⟩
      have hz3 := hb3.size
      replace X := Lib.hid (X.out.next hb3 X.out.lt)
      replace I1 := Lib.hid (I1.out.below hb3 (Nat.le_refl _))
      replace U := Lib.hid (U.out.below hb3 (Nat.le_refl _))
      replace B := Lib.hid (B.out.trans (hb3.mono B.out.size))
      clear hb3
      have x0 := X.out.out.at0
      have x1 := X.out.out.at1
      go_wp2_with fail
      clear x0 x1
      refine (HS.out _ _ _ I1.out.rd U.out.rd).mono ?_
      rintro e w4 ⟨rfl, hb4⟩
      have hz4 := hb4.size
      replace X := Lib.hid (X.out.next hb4 X.out.lt)
      replace I1 := Lib.hid (I1.out.below hb4 (Nat.le_refl _))
      replace U := Lib.hid (U.out.below hb4 (Nat.le_refl _))
      replace B := Lib.hid (B.out.trans (hb4.mono B.out.size))
      clear hb4
      have x0 := X.out.out.at0
      have x1 := X.out.out.at1
      go_wp2_with fail
      clear x0 x1
      refine (HV.out _ _ _ I1.out.rd U.out.rd).mono ?_
      rintro e w5 ⟨rfl, hb5⟩
      have hz5 := hb5.size
      replace X := Lib.hid (X.out.next hb5 X.out.lt)
      replace I1 := Lib.hid (I1.out.below hb5 (Nat.le_refl _))
      replace U := Lib.hid (U.out.below hb5 (Nat.le_refl _))
      replace B := Lib.hid (B.out.trans (hb5.mono B.out.size))
      clear hb5
      have x0 := X.out.out.at0
      have x1 := X.out.out.at1
      go_wp2_with fail
      clear x0 x1
      refine (HS.out _ _ _ I1.out.rd U.out.rd).mono ?_
      rintro e w6 ⟨rfl, hb6⟩
      have hz6 := hb6.size
      replace X := Lib.hid (X.out.next hb6 X.out.lt)
      replace I1 := Lib.hid (I1.out.below hb6 (Nat.le_refl _))
      replace U := Lib.hid (U.out.below hb6 (Nat.le_refl _))
      replace B := Lib.hid (B.out.trans (hb6.mono B.out.size))
      clear hb6
      have x0 := X.out.out.at0
      have x1 := X.out.out.at1
      go_wp2_with fail
      clear x0 x1
      go_ret
      exact ⟨rfl, B.out⟩
  · go_enter Tryd.func6, Tryd.ntmps6
    go_wp2_with fail
    go_ret
    exact ⟨rfl, Below.refl _ _⟩

end Go.Proofs.YtiocaopabkbgpaaDoor
