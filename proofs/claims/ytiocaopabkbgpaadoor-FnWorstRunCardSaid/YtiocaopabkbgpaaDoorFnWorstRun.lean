/- FnWorstRun's walk: the worst sample has all mistakes. Conditions: the code is a slice of bytes. -/
import Derived.Test.YtiocaopabkbgpaaDoorDrawsWr
import Derived.Test.YtiocaopabkbgpaaDoorEqSm
import Derived.Test.YtiocaopabkbgpaaDoorLittle
import Derived.Test.YtiocaopabkbgpaaDoorRunM
import Derived.Test.YtiocaopabkbgpaaDoorWorst
import Derived.Test.YtiocaopabkbgpaaDoorWorstS
import Derived.Test.YtiocaopabkbgpaaDoorZJ
import Derived.Test.YtiocaopabkbgpaaDoorZK
import Derived.Test.YtiocaopabkbgpaaDoorZM
namespace Go.Proofs.YtiocaopabkbgpaaDoor
open Go.RowKit

theorem eqB_self (xs : List Int) : eqB xs xs = true := eqB_of rfl (fun _ _ => rfl)

set_option maxHeartbeats 6400000 in
set_option maxRecDepth 100000 in
theorem walkFnWorstRun (a : Option Addr) (b off n cap : Nat) (w : World) (hc : n ≤ cap) (hcap : cap ≤ maxLen) (h : Byt w a b off n) (hsw : SW w) :
    Calls Tryd.prog 9 #[.slice a n cap] w fun e w' => e = .returned (.bool true) ∧ Below w.heap.size w w' := by
  have HSW := Lib.hid hsw
  clear hsw
  by_cases hn : n ≤ 1048576
  · have HD := Lib.hid (dDrawWorstRun a b off n cap w hc hn hcap h)
    clear h
    go_enter Tryd.func9, Tryd.ntmps9
    go_wp2_with fail
    refine HD.out.mono ?_
    rintro e w1 ⟨N, zs, hbd, a1, c1, rfl, hin, hb⟩
    generalize hL : zs.length = L at *
    have X := Lib.hid (Bx.new N (.slice a1 L c1) w1)
    have I1 := Lib.hid ((hin.mono (Nat.zero_le _)).alloc (Obj.cells #[.int .i64 N, .slice a1 L c1] 25))
    have B := Lib.hid (hb.alloc hb.size (Obj.cells #[.int .i64 N, .slice a1 L c1] 25))
    have HZ2 := Lib.hid (show (w1.alloc (Obj.cells #[.int .i64 N, .slice a1 L c1] 25)).heap.size = w1.heap.size + 1 by simp)
    have hz1 := hb.size
    clear hin hb HD
    go_wp2_with fail
    generalize (w1.alloc (Obj.cells #[.int .i64 N, .slice a1 L c1] 25)) = w2 at *
    have hz2 := HZ2.out
    generalize ho : w1.heap.size = o at *
    obtain ⟨hN0, hN1, hL34⟩ := hbd
    by_cases hv : vldB N zs = true
    · obtain ⟨m, ns, rfl, rfl, hcl⟩ := vldB_cls hv
      have hL2 : ns.length = L := by rw [← hL, toI_length]
      have hm := hcl.pts
      have hL32 := hcl.length
      have HI := Lib.hid (fun v w h hs => implWorstRun (m : Int) v (toI ns) w h hs)
      have HS := Lib.hid (fun v w h => specWorstRun (m : Int) v (toI ns) w h)
      have HV := Lib.hid (fun v w h => implValid (m : Int) v (toI ns) w h)
      have HLi := Lib.hid (fun v w h hs => implLittlestoneOf (m : Int) v (toI ns) w h hs)
      obtain ⟨d, hd⟩ : ∃ d, d = (mst ns).toNat := ⟨_, rfl⟩
      obtain ⟨hvs, hmis, hnow⟩ := w_all hcl hv
      have htop := mst_top ns
      have hnn : ns ≠ [] → 0 ≤ mst ns := mst_nn
      have hnil : L = 0 → mst ns = -1 := fun h => by rw [List.length_eq_zero_iff.1 (by omega : ns.length = 0), mst_nil]
      have hne : ¬ L = 0 → ns ≠ [] := fun h e => h (by rw [← hL2, e]; rfl)
      rw [← hd] at hvs hmis hnow
      have hEl : (wE ns d).length = d := wE_len ns d
      have eW : worL (m : Int) (toI ns) = wE ns d := by rw [worL, if_pos hv, toNat_toI, hd]
      have eLi : litB (m : Int) (toI ns) = mst ns := by rw [litB, if_pos hv, toNat_toI]
      rw [eW] at HI HS
      rw [eLi] at HLi
      rw [hv] at HV
      have HO := Lib.hid (fun v u w h hu hs => implOptimalRun (m : Int) v (toI ns) u (wE ns d) w h hu hs)
      have HC := Lib.hid (fun v u w h hu hs => implConsistentOf (m : Int) v (toI ns) u (wE ns d) w h hu hs)
      have eR : runB gOpt (m : Int) (toI ns) (wE ns d) = (d : Int) := by rw [runB, if_pos hvs, toNat_toI, hEl, hmis]
      have eN : conN (m : Int) (toI ns) (wE ns d) = m := by rw [conN, if_pos hvs]
      have eL : conL (m : Int) (toI ns) (wE ns d) = toI (nowTo ns (wE ns d) d) := by rw [conL, if_pos hvs, toNat_toI, hEl]
      rw [eR] at HO
      rw [eN, eL] at HC
      obtain ⟨C, hC⟩ : ∃ C, C = (nowTo ns (wE ns d) d).length := ⟨_, rfl⟩
      have HCL := Lib.hid (show (toI (nowTo ns (wE ns d) d)).length = C by rw [toI_length, hC])
      have hC0 : ¬ L = 0 → 0 < C := fun h => by rw [hC]; exact List.length_pos_iff.2 (hnow (hne h))
      have HEl := Lib.hid hEl
      generalize nowTo ns (wE ns d) d = NL at *
      generalize wE ns d = E at *
      have hfd : ∀ (a : Option Addr) (l c : Nat) (w : World), Sem.run Tryd.prog (Instr.field 25 (.agg #[.int .i64 (m : Int), .slice a l c]) 1) w = .ok (.slice a l c) w := fun _ _ _ _ => by kernel_rfl
      clear hvs hmis hnow hEl eW eLi eR eN eL hC hv hcl
      by_cases hL0 : L = 0
      · have hd0 : d = 0 := by rw [hd, hnil hL0]; rfl
        rw [hnil hL0] at HLi
        clear hd htop hnn hnil hne hC0
        subst hd0
        subst hL0
        refine (HI.out _ _ I1.out.rd (by first | exact HSW.out.next B.out | exact (show SW (World.drew _) from HSW.out.next B.out) | exact HSW.out.next (B.out.trans ((Below.refl _ _).drew)))).mono ?_
        rintro e w3 ⟨a3, c3, rfl, hin3, hb3⟩
        rw [HEl.out] at hin3 ⊢
        have hz3 := hb3.size
        replace X := Lib.hid (X.out.next hb3 X.out.lt)
        replace I1 := Lib.hid (I1.out.below hb3 (Nat.le_refl _))
        replace B := Lib.hid (B.out.trans (hb3.mono B.out.size))
        have IA := Lib.hid (hin3.mono (Nat.zero_le _))
        clear hin3 hb3
        have x0 := X.out.out.at0
        have x1 := X.out.out.at1
        go_wp2_with fail
        clear x0 x1
        refine (HS.out _ _ I1.out.rd).mono ?_
        rintro e w4 ⟨a4, c4, rfl, hin4, hb4⟩
        rw [HEl.out] at hin4 ⊢
        have hz4 := hb4.size
        replace X := Lib.hid (X.out.next hb4 X.out.lt)
        replace I1 := Lib.hid (I1.out.below hb4 (Nat.le_refl _))
        replace IA := Lib.hid (IA.out.below hb4 (Nat.le_refl _))
        replace B := Lib.hid (B.out.trans (hb4.mono B.out.size))
        have IB := Lib.hid (hin4.mono (Nat.zero_le _))
        clear hin4 hb4
        have x0 := X.out.out.at0
        have x1 := X.out.out.at1
        go_wp2_with fail
        clear x0 x1
        refine (lawsEqualSample _ _ E _ IA.out.rd IB.out.rd).mono ?_
        rintro e w5 ⟨rfl, hb5⟩
        have hz5 := hb5.size
        replace X := Lib.hid (X.out.next hb5 X.out.lt)
        replace I1 := Lib.hid (I1.out.below hb5 (Nat.le_refl _))
        replace IA := Lib.hid (IA.out.below hb5 (Nat.le_refl _))
        replace IB := Lib.hid (IB.out.below hb5 (Nat.le_refl _))
        replace B := Lib.hid (B.out.trans (hb5.mono B.out.size))
        clear hb5
        have x0 := X.out.out.at0
        have x1 := X.out.out.at1
        go_wp2_with fail
        clear x0 x1
        clear IB
        refine (HV.out _ _ I1.out.rd).mono ?_
        rintro e w6 ⟨rfl, hb6⟩
        have hz6 := hb6.size
        replace X := Lib.hid (X.out.next hb6 X.out.lt)
        replace I1 := Lib.hid (I1.out.below hb6 (Nat.le_refl _))
        replace IA := Lib.hid (IA.out.below hb6 (Nat.le_refl _))
        replace B := Lib.hid (B.out.trans (hb6.mono B.out.size))
        clear hb6
        have x0 := X.out.out.at0
        have x1 := X.out.out.at1
        go_wp2_with fail
        clear x0 x1
        refine (HLi.out _ _ I1.out.rd (by first | exact HSW.out.next B.out | exact (show SW (World.drew _) from HSW.out.next B.out) | exact HSW.out.next (B.out.trans ((Below.refl _ _).drew)))).mono ?_
        rintro e w7 ⟨rfl, hb7⟩
        have hz7 := hb7.size
        replace X := Lib.hid (X.out.next hb7 X.out.lt)
        replace I1 := Lib.hid (I1.out.below hb7 (Nat.le_refl _))
        replace IA := Lib.hid (IA.out.below hb7 (Nat.le_refl _))
        replace B := Lib.hid (B.out.trans (hb7.mono B.out.size))
        clear hb7
        have x0 := X.out.out.at0
        have x1 := X.out.out.at1
        go_wp2_with fail
        clear x0 x1
        refine (HO.out _ _ _ I1.out.rd IA.out.rd (by first | exact HSW.out.next B.out | exact (show SW (World.drew _) from HSW.out.next B.out) | exact HSW.out.next (B.out.trans ((Below.refl _ _).drew)))).mono ?_
        rintro e w8 ⟨rfl, hb8⟩
        have hz8 := hb8.size
        replace X := Lib.hid (X.out.next hb8 X.out.lt)
        replace I1 := Lib.hid (I1.out.below hb8 (Nat.le_refl _))
        replace IA := Lib.hid (IA.out.below hb8 (Nat.le_refl _))
        replace B := Lib.hid (B.out.trans (hb8.mono B.out.size))
        clear hb8
        have x0 := X.out.out.at0
        have x1 := X.out.out.at1
        go_wp2_with fail
        clear x0 x1
        go_ret
        exact ⟨rfl, by first | exact B.out | exact B.out.drew⟩
      · have hmd : mst ns = (d : Int) := by rw [hd, Int.toNat_of_nonneg (hnn (hne hL0))]
        rw [hmd] at HLi
        have hCp := hC0 hL0
        have hdn : ¬ (d : Int) < 0 := by omega
        have hdd : decide ((d : Int) < 0) = false := decide_eq_false hdn
        have hLI : ((L : Int) == 0) = false := by simpa using hL0
        have hcd : decide ((0 : Int) < (C : Int)) = true := decide_eq_true (by omega)
        clear hd htop hnn hnil hne hC0 hmd
        refine (HI.out _ _ I1.out.rd (by first | exact HSW.out.next B.out | exact (show SW (World.drew _) from HSW.out.next B.out) | exact HSW.out.next (B.out.trans ((Below.refl _ _).drew)))).mono ?_
        rintro e w3 ⟨a3, c3, rfl, hin3, hb3⟩
        rw [HEl.out] at hin3 ⊢
        have hz3 := hb3.size
        replace X := Lib.hid (X.out.next hb3 X.out.lt)
        replace I1 := Lib.hid (I1.out.below hb3 (Nat.le_refl _))
        replace B := Lib.hid (B.out.trans (hb3.mono B.out.size))
        have IA := Lib.hid (hin3.mono (Nat.zero_le _))
        clear hin3 hb3
        have x0 := X.out.out.at0
        have x1 := X.out.out.at1
        go_wp2_with fail
        clear x0 x1
        refine (HS.out _ _ I1.out.rd).mono ?_
        rintro e w4 ⟨a4, c4, rfl, hin4, hb4⟩
        rw [HEl.out] at hin4 ⊢
        have hz4 := hb4.size
        replace X := Lib.hid (X.out.next hb4 X.out.lt)
        replace I1 := Lib.hid (I1.out.below hb4 (Nat.le_refl _))
        replace IA := Lib.hid (IA.out.below hb4 (Nat.le_refl _))
        replace B := Lib.hid (B.out.trans (hb4.mono B.out.size))
        have IB := Lib.hid (hin4.mono (Nat.zero_le _))
        clear hin4 hb4
        have x0 := X.out.out.at0
        have x1 := X.out.out.at1
        go_wp2_with fail
        clear x0 x1
        refine (lawsEqualSample _ _ E _ IA.out.rd IB.out.rd).mono ?_
        rintro e w5 ⟨rfl, hb5⟩
        have hz5 := hb5.size
        replace X := Lib.hid (X.out.next hb5 X.out.lt)
        replace I1 := Lib.hid (I1.out.below hb5 (Nat.le_refl _))
        replace IA := Lib.hid (IA.out.below hb5 (Nat.le_refl _))
        replace IB := Lib.hid (IB.out.below hb5 (Nat.le_refl _))
        replace B := Lib.hid (B.out.trans (hb5.mono B.out.size))
        clear hb5
        have x0 := X.out.out.at0
        have x1 := X.out.out.at1
        go_wp2_with fail
        clear x0 x1
        clear IB
        refine (HV.out _ _ I1.out.rd).mono ?_
        rintro e w6 ⟨rfl, hb6⟩
        have hz6 := hb6.size
        replace X := Lib.hid (X.out.next hb6 X.out.lt)
        replace I1 := Lib.hid (I1.out.below hb6 (Nat.le_refl _))
        replace IA := Lib.hid (IA.out.below hb6 (Nat.le_refl _))
        replace B := Lib.hid (B.out.trans (hb6.mono B.out.size))
        clear hb6
        have x0 := X.out.out.at0
        have x1 := X.out.out.at1
        go_wp2_with fail
        clear x0 x1
        refine (HLi.out _ _ I1.out.rd (by first | exact HSW.out.next B.out | exact (show SW (World.drew _) from HSW.out.next B.out) | exact HSW.out.next (B.out.trans ((Below.refl _ _).drew)))).mono ?_
        rintro e w7 ⟨rfl, hb7⟩
        have hz7 := hb7.size
        replace X := Lib.hid (X.out.next hb7 X.out.lt)
        replace I1 := Lib.hid (I1.out.below hb7 (Nat.le_refl _))
        replace IA := Lib.hid (IA.out.below hb7 (Nat.le_refl _))
        replace B := Lib.hid (B.out.trans (hb7.mono B.out.size))
        clear hb7
        have x0 := X.out.out.at0
        have x1 := X.out.out.at1
        go_wp2_with fail
        clear x0 x1
        refine (HO.out _ _ _ I1.out.rd IA.out.rd (by first | exact HSW.out.next B.out | exact (show SW (World.drew _) from HSW.out.next B.out) | exact HSW.out.next (B.out.trans ((Below.refl _ _).drew)))).mono ?_
        rintro e w8 ⟨rfl, hb8⟩
        have hz8 := hb8.size
        replace X := Lib.hid (X.out.next hb8 X.out.lt)
        replace I1 := Lib.hid (I1.out.below hb8 (Nat.le_refl _))
        replace IA := Lib.hid (IA.out.below hb8 (Nat.le_refl _))
        replace B := Lib.hid (B.out.trans (hb8.mono B.out.size))
        clear hb8
        have x0 := X.out.out.at0
        have x1 := X.out.out.at1
        go_wp2_with fail
        clear x0 x1
        refine (HC.out _ _ _ I1.out.rd IA.out.rd (by first | exact HSW.out.next B.out | exact (show SW (World.drew _) from HSW.out.next B.out) | exact HSW.out.next (B.out.trans ((Below.refl _ _).drew)))).mono ?_
        rintro e w9 ⟨a9, c9, rfl, hin9, hb9⟩
        rw [HCL.out] at hin9 ⊢
        have hz9 := hb9.size
        replace X := Lib.hid (X.out.next hb9 X.out.lt)
        replace I1 := Lib.hid (I1.out.below hb9 (Nat.le_refl _))
        replace IA := Lib.hid (IA.out.below hb9 (Nat.le_refl _))
        replace B := Lib.hid (B.out.trans (hb9.mono B.out.size))
        have IC := Lib.hid (hin9.mono (Nat.zero_le _))
        clear hin9 hb9
        have x0 := X.out.out.at0
        have x1 := X.out.out.at1
        go_wp2_with fail
        clear x0 x1
        go_ret
        exact ⟨rfl, by first | exact B.out | exact B.out.drew⟩
    · rw [Bool.not_eq_true] at hv
      have HI := Lib.hid (fun v w h hs => implWorstRun N v zs w h hs)
      have HS := Lib.hid (fun v w h => specWorstRun N v zs w h)
      have HV := Lib.hid (fun v w h => implValid N v zs w h)
      rw [show worL N zs = [] by rw [worL, if_neg (by rw [hv]; simp)]] at HI HS
      rw [hv] at HV
      clear hv
      refine (HI.out _ _ I1.out.rd (by first | exact HSW.out.next B.out | exact (show SW (World.drew _) from HSW.out.next B.out) | exact HSW.out.next (B.out.trans ((Below.refl _ _).drew)))).mono ?_
      rintro e w3 ⟨a3, c3, rfl, hin3, hb3⟩
      have hz3 := hb3.size
      replace X := Lib.hid (X.out.next hb3 X.out.lt)
      replace I1 := Lib.hid (I1.out.below hb3 (Nat.le_refl _))
      replace B := Lib.hid (B.out.trans (hb3.mono B.out.size))
      have IA := Lib.hid (hin3.mono (Nat.zero_le _))
      clear hin3 hb3
      have x0 := X.out.out.at0
      have x1 := X.out.out.at1
      go_wp2_with fail
      clear x0 x1
      refine (HS.out _ _ I1.out.rd).mono ?_
      rintro e w4 ⟨a4, c4, rfl, hin4, hb4⟩
      have hz4 := hb4.size
      replace X := Lib.hid (X.out.next hb4 X.out.lt)
      replace I1 := Lib.hid (I1.out.below hb4 (Nat.le_refl _))
      replace IA := Lib.hid (IA.out.below hb4 (Nat.le_refl _))
      replace B := Lib.hid (B.out.trans (hb4.mono B.out.size))
      have IB := Lib.hid (hin4.mono (Nat.zero_le _))
      clear hin4 hb4
      have x0 := X.out.out.at0
      have x1 := X.out.out.at1
      go_wp2_with fail
      clear x0 x1
      refine (lawsEqualSample _ _ [] _ IA.out.rd IB.out.rd).mono ?_
      rintro e w5 ⟨rfl, hb5⟩
      have hz5 := hb5.size
      replace X := Lib.hid (X.out.next hb5 X.out.lt)
      replace I1 := Lib.hid (I1.out.below hb5 (Nat.le_refl _))
      replace IA := Lib.hid (IA.out.below hb5 (Nat.le_refl _))
      replace IB := Lib.hid (IB.out.below hb5 (Nat.le_refl _))
      replace B := Lib.hid (B.out.trans (hb5.mono B.out.size))
      clear hb5
      have x0 := X.out.out.at0
      have x1 := X.out.out.at1
      go_wp2_with fail
      clear x0 x1
      refine (HV.out _ _ I1.out.rd).mono ?_
      rintro e w6 ⟨rfl, hb6⟩
      have hz6 := hb6.size
      replace X := Lib.hid (X.out.next hb6 X.out.lt)
      replace I1 := Lib.hid (I1.out.below hb6 (Nat.le_refl _))
      replace IA := Lib.hid (IA.out.below hb6 (Nat.le_refl _))
      replace IB := Lib.hid (IB.out.below hb6 (Nat.le_refl _))
      replace B := Lib.hid (B.out.trans (hb6.mono B.out.size))
      clear hb6
      have x0 := X.out.out.at0
      have x1 := X.out.out.at1
      go_wp2_with fail
      clear x0 x1
      refine (HS.out _ _ I1.out.rd).mono ?_
      rintro e w7 ⟨a7, c7, rfl, hin7, hb7⟩
      have hz7 := hb7.size
      replace X := Lib.hid (X.out.next hb7 X.out.lt)
      replace I1 := Lib.hid (I1.out.below hb7 (Nat.le_refl _))
      replace IA := Lib.hid (IA.out.below hb7 (Nat.le_refl _))
      replace IB := Lib.hid (IB.out.below hb7 (Nat.le_refl _))
      replace B := Lib.hid (B.out.trans (hb7.mono B.out.size))
      have IC := Lib.hid (hin7.mono (Nat.zero_le _))
      clear hin7 hb7
      have x0 := X.out.out.at0
      have x1 := X.out.out.at1
      go_wp2_with fail
      clear x0 x1
      refine (lawsEqualSample _ _ [] _ IA.out.rd IC.out.rd).mono ?_
      rintro e w8 ⟨rfl, hb8⟩
      have hz8 := hb8.size
      replace X := Lib.hid (X.out.next hb8 X.out.lt)
      replace I1 := Lib.hid (I1.out.below hb8 (Nat.le_refl _))
      replace IA := Lib.hid (IA.out.below hb8 (Nat.le_refl _))
      replace IB := Lib.hid (IB.out.below hb8 (Nat.le_refl _))
      replace IC := Lib.hid (IC.out.below hb8 (Nat.le_refl _))
      replace B := Lib.hid (B.out.trans (hb8.mono B.out.size))
      clear hb8
      have x0 := X.out.out.at0
      have x1 := X.out.out.at1
      go_wp2_with fail
      clear x0 x1
      go_ret
      exact ⟨rfl, by first | exact B.out | exact B.out.drew⟩
  · go_enter Tryd.func9, Tryd.ntmps9
    go_wp2_with fail
    go_ret
    exact ⟨rfl, Below.refl _ _⟩

end Go.Proofs.YtiocaopabkbgpaaDoor
