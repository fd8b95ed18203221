/- FnConsistentOf's walk: examples are asked one by one. Conditions: the code is a slice of bytes. -/
import Derived.Test.YtiocaopabkbgpaaDoorConsS
import Derived.Test.YtiocaopabkbgpaaDoorDrawsSc
import Derived.Test.YtiocaopabkbgpaaDoorExCut
import Derived.Test.YtiocaopabkbgpaaDoorLawHc
import Derived.Test.YtiocaopabkbgpaaDoorRisk
import Derived.Test.YtiocaopabkbgpaaDoorRunM
import Derived.Test.YtiocaopabkbgpaaDoorZJ
import Derived.Test.YtiocaopabkbgpaaDoorZK
import Derived.Test.YtiocaopabkbgpaaDoorZM
namespace Go.Proofs.YtiocaopabkbgpaaDoor
open Go.RowKit

theorem eqB_self (xs : List Int) : eqB xs xs = true := eqB_of rfl (fun _ _ => rfl)
theorem vs_of {n : Int} {zs ys : List Int} {es : List (Int × Bool)} (h : vsB n zs es = true) (h2 : vldB n ys = true) : vsB n ys es = true := by
  simp only [vsB, Bool.and_eq_true] at h ⊢
  exact ⟨h2, h.2⟩


set_option maxHeartbeats 6400000 in
set_option maxRecDepth 100000 in
theorem walkFnConsistentOf (a : Option Addr) (b off n cap : Nat) (w : World) (hc : n ≤ cap) (hcap : cap ≤ maxLen) (h : Byt w a b off n) (hsw : SW w) :
    Calls Tryd.prog 3 #[.slice a n cap] w fun e w' => e = .returned (.bool true) ∧ Below w.heap.size w w' := by
  have HSW := Lib.hid hsw
  clear hsw
  by_cases hn : n ≤ 1048576
  · have HD := Lib.hid (dDrawConsistentOf a b off n cap w hc hn hcap h)
    clear h
    go_enter Tryd.func3, Tryd.ntmps3
    go_wp2_with fail
    refine HD.out.mono ?_
    rintro e w1 ⟨N, zs, es, hbd, a1, c1, a2, c2, rfl, hin, hex, hb⟩
    generalize hL : zs.length = L at *
    generalize hK : es.length = K at *
    have X := Lib.hid (Bx.new N (.slice a1 L c1) w1)
    have I1 := Lib.hid ((hin.mono (Nat.zero_le _)).alloc (Obj.cells #[.int .i64 N, .slice a1 L c1] 25))
    have B := Lib.hid (hb.alloc hb.size (Obj.cells #[.int .i64 N, .slice a1 L c1] 25))
    have HZ2 := Lib.hid (show (w1.alloc (Obj.cells #[.int .i64 N, .slice a1 L c1] 25)).heap.size = w1.heap.size + 1 by simp)
    have U := Lib.hid ((hex.mono (Nat.zero_le _)).alloc (Obj.cells #[.int .i64 N, .slice a1 L c1] 25))
    have hz1 := hb.size
    clear hin hb HD hex
    go_wp2_with fail
    generalize (w1.alloc (Obj.cells #[.int .i64 N, .slice a1 L c1] 25)) = w2 at *
    have hz2 := HZ2.out
    generalize ho : w1.heap.size = o at *
    obtain ⟨hN0, hN1, hL34, hK36⟩ := hbd
    by_cases hvs : vsB N zs es = true
    · skip
      have hvd : vldB N zs = true := by simp only [vsB, Bool.and_eq_true] at hvs; exact hvs.1
      obtain ⟨m, ns, rfl, rfl, hcl⟩ := vldB_cls hvd
      have hm := hcl.pts
      have hL2 : ns.length = L := by rw [← hL, toI_length]
      have HI := Lib.hid (fun v u w h hu hs => implConsistentOf (m : Int) v (toI ns) u es w h hu hs)
      have HS := Lib.hid (fun v u w h hu => specConsistentOf (m : Int) 0 v (toI ns) u es w h hu)
      have HV := Lib.hid (fun v u w h hu => implValidSample (m : Int) v (toI ns) u es w h hu)
      have HRk := Lib.hid (show ∀ t : Nat, t < 2 ^ m → ∀ v u w, Rd w v (toI ns) → RdE w u es → Calls Tryd.prog 17 #[.agg #[.int .i64 (m : Int), v], .int .i64 (t : Int), u] w fun e w' => e = .returned (.int .i64 (msTo t es es.length)) ∧ Below w.heap.size w w' from fun t ht v u w h hu => by
        have h8 := implRiskOf (m : Int) v (toI ns) (t : Int) u es w h hu
        have hsb : setB m (t : Int) = true := by
          have : ((2 ^ m : Nat) : Int) = (2 : Int) ^ m := by simp
          obtain ⟨q, hq⟩ : ∃ q, q = 2 ^ m := ⟨_, rfl⟩
          rw [← hq] at ht
          simp only [setB, Bool.and_eq_true, decide_eq_true_eq]
          omega
        rw [rkB_in (show rkK (m : Int) (toI ns) (t : Int) es = true by simp [rkK, inB, hvd, hsb, hvs])] at h8
        exact h8)
      obtain ⟨h, hh⟩ : ∃ h, h = K / 2 := ⟨_, rfl⟩
      have hhK : h ≤ K := by omega
      have hdiv : (K : Int) / 2 = (h : Int) := by omega
      have hdiv2 : (K : Int).tdiv 2 = (h : Int) := by rw [Int.tdiv_eq_ediv_of_nonneg (by omega)]; exact hdiv
      have HC1 := Lib.hid (fun v u w h1 hu hs => implConsistentOf (m : Int) v (toI ns) u (es.take h) w h1 hu hs)
      have v1 := vs_take hvs h
      have eN : conN (m : Int) (toI ns) es = m := by rw [conN, if_pos hvs]
      have eL : conL (m : Int) (toI ns) es = toI (nowTo ns es es.length) := by rw [conL, if_pos hvs, toNat_toI]
      have eN1 : conN (m : Int) (toI ns) (es.take h) = m := by rw [conN, if_pos v1]
      have eL1 : conL (m : Int) (toI ns) (es.take h) = toI (nowTo ns (es.take h) (es.take h).length) := by rw [conL, if_pos v1, toNat_toI]
      have hA := now_cls hcl (es.take h) (es.take h).length
      have h2e := now_two (ns := ns) (es := es) (n := h) (by omega)
      obtain ⟨A, hAe⟩ : ∃ A, A = nowTo ns (es.take h) (es.take h).length := ⟨_, rfl⟩
      rw [← hAe] at eL1 hA h2e
      have v2 := vs_of (vs_drop hvs h) (cls_vldB hA)
      have HC2 := Lib.hid (fun v u w h1 hu hs => implConsistentOf (m : Int) v (toI A) u (es.drop h) w h1 hu hs)
      have eN2 : conN (m : Int) (toI A) (es.drop h) = m := by rw [conN, if_pos v2]
      have eL2 : conL (m : Int) (toI A) (es.drop h) = toI (nowTo ns es es.length) := by rw [conL, if_pos v2, toNat_toI, h2e]
      rw [eN, eL] at HI HS
      rw [eN1, eL1] at HC1
      rw [eN2, eL2] at HC2
      rw [hvs] at HV
      obtain ⟨C, hC⟩ : ∃ C, C = (nowTo ns es es.length).length := ⟨_, rfl⟩
      have HCL := Lib.hid (show (toI (nowTo ns es es.length)).length = C by rw [toI_length, hC])
      obtain ⟨CA, hCA⟩ : ∃ CA, CA = A.length := ⟨_, rfl⟩
      have HCA := Lib.hid (show (toI A).length = CA by rw [toI_length, hCA])
      have HHo := Lib.hid (fun (x : Nat) v w h => lawsHolds v (toI (nowTo ns es es.length)) (x : Int) w h)
      have HY := Lib.hid (fun (j : Nat) (hj : j < L) => show (toI ns).getD j 0 = ((ns.getD j 0 : Nat) : Int) ∧ ns.getD j 0 < 2 ^ m ∧ hasB (toI (nowTo ns es es.length)) ((ns.getD j 0 : Nat) : Int) = decide (msTo (ns.getD j 0) es es.length = 0) by
        have hmem : ns.getD j 0 ∈ ns := getD_of_lt (by omega)
        refine ⟨toI_getD _ _, hcl.lt _ hmem, ?_⟩
        rw [hasB_nat, decide_eq_decide, now_ms]
        exact ⟨fun h => h.2, fun h => ⟨hmem, h⟩⟩)
      generalize nowTo ns es es.length = NL at *
      clear hvs hvd hcl eN eL eN1 eL1 eN2 eL2 v1 v2 hA hAe h2e hC hCA hL2 hh
      refine (HI.out _ _ _ I1.out.rd U.out.rd (by first | exact HSW.out.next B.out | exact (show SW (World.drew _) from HSW.out.next B.out) | exact HSW.out.next (B.out.trans ((Below.refl _ _).drew)))).mono ?_
      rintro e w3 ⟨a3, c3, rfl, hin3, hb3⟩
      rw [HCL.out] at hin3 ⊢
      have hz3 := hb3.size
      replace X := Lib.hid (X.out.next hb3 X.out.lt)
      replace I1 := Lib.hid (I1.out.below hb3 (Nat.le_refl _))
      replace U := Lib.hid (U.out.below hb3 (Nat.le_refl _))
      replace B := Lib.hid (B.out.trans (hb3.mono B.out.size))
      have IA := Lib.hid (hin3.mono (Nat.zero_le _))
      clear hin3 hb3
      have x0 := X.out.out.at0
      have x1 := X.out.out.at1
      have Y := Lib.hid (Bx.new (m : Int) (.slice a3 C c3) w3)
      replace X := Lib.hid (X.out.alloc (Obj.cells #[.int .i64 (m : Int), .slice a3 C c3] 25))
      replace I1 := Lib.hid (I1.out.alloc (Obj.cells #[.int .i64 (m : Int), .slice a3 C c3] 25))
      replace U := Lib.hid (U.out.alloc (Obj.cells #[.int .i64 (m : Int), .slice a3 C c3] 25))
      replace IA := Lib.hid (IA.out.alloc (Obj.cells #[.int .i64 (m : Int), .slice a3 C c3] 25))
      replace B := Lib.hid (B.out.alloc B.out.size (Obj.cells #[.int .i64 (m : Int), .slice a3 C c3] 25))
      have HZ := Lib.hid (show (w3.alloc (Obj.cells #[.int .i64 (m : Int), .slice a3 C c3] 25)).heap.size = w3.heap.size + 1 by simp)
      go_wp2_with fail
      generalize (w3.alloc (Obj.cells #[.int .i64 (m : Int), .slice a3 C c3] 25)) = w4 at *
      have hz4 := HZ.out
      clear HZ
      generalize ho2 : w3.heap.size = o2 at *
      clear x0 x1
      have x0 := X.out.out.at0
      have x1 := X.out.out.at1
      have y0 := Y.out.out.at0
      have y1 := Y.out.out.at1
      go_wp2_with fail
      refine wp_region_held_drew (S := fun w' => w'.cell? ⟨o, 0, none⟩ = some (.int .i64 (m : Int)) ∧ w'.cell? ⟨o, 1, none⟩ = some (.slice a1 L c1) ∧ w'.cell? ⟨o2, 0, none⟩ = some (.int .i64 (m : Int)) ∧ w'.cell? ⟨o2, 1, none⟩ = some (.slice a3 C c3)) (by kernel_rfl) (by first | exact ⟨x0, x1, y0, y1⟩ | go_keep) (fun hHeld => ?_)
      refine wpAnyH_take (i := 0) (v := ?_) rfl (by kernel_rfl) (by kernel_rfl) (by kernel_rfl) (fun _ _ _ h => h) (Or.inl ⟨by rfl, ?_⟩) (by assumption) ?_
      rotate_left
      · (intro w hSw; (try dsimp only at hSw); go_simp; try with_reducible rfl)
      try simp only [List.getElem_toArray, List.getElem_cons_zero, Act.put, List.setIfInBounds_toArray, List.set_cons_zero, List.set_cons_succ]
      refine wpAnyH_take (i := 1) (v := ?_) rfl (by kernel_rfl) (by kernel_rfl) (by kernel_rfl) (fun _ _ _ h => h) (Or.inl ⟨by rfl, ?_⟩) (by assumption) ?_
      rotate_left
      · (intro w hSw; (try dsimp only at hSw); go_simp; try with_reducible rfl)
      try simp only [List.getElem_toArray, List.getElem_cons_zero, List.getElem_cons_succ, Act.put, List.setIfInBounds_toArray, List.set_cons_zero, List.set_cons_succ]
      refine wpAnyH_take (i := 2) (v := ?_) rfl (by kernel_rfl) (by kernel_rfl) (by kernel_rfl) (fun _ _ _ h => h) (Or.inl ⟨by rfl, ?_⟩) (by assumption) ?_
      rotate_left
      · (intro w hSw; (try dsimp only at hSw); go_simp; try with_reducible rfl)
      try simp only [List.getElem_toArray, List.getElem_cons_zero, List.getElem_cons_succ, Act.put, List.setIfInBounds_toArray, List.set_cons_zero, List.set_cons_succ]
      refine wpAnyH_ready (rs := [3]) (by kernel_rfl) (by simp) ?_
      refine AllReadyH.cons rfl (fun K hK => ?_) AllReadyH.nil
      try simp only [List.getElem_toArray]
      go_simp
      (go_at_call 14; refine (HS.out _ _ _ (by first | exact I1.out | exact I1.out.below (k := w4.heap.size) ((Below.refl _ _).drew) (Nat.le_refl _)) (by first | exact U.out.rd | exact U.out.rd.below (k := w4.heap.size) ((Below.refl _ _).drew) (Nat.le_refl _))).mono ?_; rintro e w5 ⟨a5, c5, rfl, hin5, hbd⟩; rw [HCL.out] at hin5 ⊢; have hb5 : Below w4.heap.size w4 w5 := (by first | exact hbd | exact ⟨hbd.os, hbd.tape, hbd.output, hbd.size, hbd.block⟩); clear hbd; have hz5 := hb5.size; replace X := Lib.hid (X.out.next hb5 X.out.lt); replace Y := Lib.hid (Y.out.next hb5 Y.out.lt); replace I1 := Lib.hid (I1.out.below hb5 (Nat.le_refl _)); replace U := Lib.hid (U.out.below hb5 (Nat.le_refl _)); replace IA := Lib.hid (IA.out.below hb5 (Nat.le_refl _)); replace B := Lib.hid (B.out.trans (hb5.mono B.out.size)); have IS := Lib.hid (hin5.mono (Nat.zero_le _)); clear hin5; clear hb5; have x0_5 := X.out.out.at0; have x1_5 := X.out.out.at1; have y0_5 := Y.out.out.at0; have y1_5 := Y.out.out.at1)
      refine hK.out _ _ (by first | exact ⟨x0_5, x1_5, y0_5, y1_5⟩ | exact ⟨x0, x1, y0, y1⟩ | go_keep) (fun hHeld => ?_)
      clear hK K
      try simp only [List.getElem_toArray, List.getElem_cons_zero, List.getElem_cons_succ, Act.put, List.setIfInBounds_toArray, List.set_cons_zero, List.set_cons_succ]
      refine wpAnyH_ready (rs := [4]) (by kernel_rfl) (by simp) ?_
      refine AllReadyH.cons rfl (fun K hK => ?_) AllReadyH.nil
      try simp only [List.getElem_toArray]
      go_simp
      (go_at_call 13; refine (lawsEqualClass _ _ _ _ _ _ _ _ (by first | exact IA.out.rd | exact IA.out.rd.below (k := w5.heap.size) ((Below.refl _ _).drew) (Nat.le_refl _)) (by first | exact IS.out.rd | exact IS.out.rd.below (k := w5.heap.size) ((Below.refl _ _).drew) (Nat.le_refl _))).mono ?_; rintro e w6 ⟨rfl, hbd⟩; have hb6 : Below w5.heap.size w5 w6 := (by first | exact hbd | exact ⟨hbd.os, hbd.tape, hbd.output, hbd.size, hbd.block⟩); clear hbd; have hz6 := hb6.size; replace X := Lib.hid (X.out.next hb6 X.out.lt); replace Y := Lib.hid (Y.out.next hb6 Y.out.lt); replace I1 := Lib.hid (I1.out.below hb6 (Nat.le_refl _)); replace U := Lib.hid (U.out.below hb6 (Nat.le_refl _)); replace IA := Lib.hid (IA.out.below hb6 (Nat.le_refl _)); replace IS := Lib.hid (IS.out.below hb6 (Nat.le_refl _)); replace B := Lib.hid (B.out.trans (hb6.mono B.out.size)); clear hb6; have x0_6 := X.out.out.at0; have x1_6 := X.out.out.at1; have y0_6 := Y.out.out.at0; have y1_6 := Y.out.out.at1)
      refine hK.out _ _ (by first | exact ⟨x0_6, x1_6, y0_6, y1_6⟩ | exact ⟨x0_5, x1_5, y0_5, y1_5⟩ | exact ⟨x0, x1, y0, y1⟩ | go_keep) (fun hHeld => ?_)
      clear hK K
      try simp only [List.getElem_toArray, List.getElem_cons_zero, List.getElem_cons_succ, Act.put, List.setIfInBounds_toArray, List.set_cons_zero, List.set_cons_succ]
      refine wpAnyH_take (i := 5) (v := ?_) rfl (by kernel_rfl) (by kernel_rfl) (by kernel_rfl) (fun _ _ _ h => h) (Or.inl ⟨by rfl, ?_⟩) (by assumption) ?_
      rotate_left
      · (intro w hSw; (try dsimp only at hSw); go_simp; try with_reducible rfl)
      try simp only [List.getElem_toArray, List.getElem_cons_zero, List.getElem_cons_succ, Act.put, List.setIfInBounds_toArray, List.set_cons_zero, List.set_cons_succ]
      refine wpAnyH_take (i := 6) (v := ?_) rfl (by kernel_rfl) (by kernel_rfl) (by kernel_rfl) (fun _ _ _ h => h) (Or.inl ⟨by rfl, ?_⟩) (by assumption) ?_
      rotate_left
      · (intro w hSw; (try dsimp only at hSw); go_simp; try with_reducible rfl)
      try simp only [List.getElem_toArray, List.getElem_cons_zero, List.getElem_cons_succ, Act.put, List.setIfInBounds_toArray, List.set_cons_zero, List.set_cons_succ]
      refine wpAnyH_take (i := 7) (v := ?_) rfl (by kernel_rfl) (by kernel_rfl) (by kernel_rfl) (fun _ _ _ h => h) (Or.inl ⟨by rfl, ?_⟩) (by assumption) ?_
      rotate_left
      · (intro w hSw; (try dsimp only at hSw); go_simp; try with_reducible rfl)
      try simp only [List.getElem_toArray, List.getElem_cons_zero, List.getElem_cons_succ, Act.put, List.setIfInBounds_toArray, List.set_cons_zero, List.set_cons_succ]
      refine wpAnyH_take (i := 8) (v := ?_) rfl (by kernel_rfl) (by kernel_rfl) (by kernel_rfl) (fun _ _ _ h => h) (Or.inl ⟨by rfl, ?_⟩) (by assumption) ?_
      rotate_left
      · (intro w hSw; (try dsimp only at hSw); go_simp; try with_reducible rfl)
      try simp only [List.getElem_toArray, List.getElem_cons_zero, List.getElem_cons_succ, Act.put, List.setIfInBounds_toArray, List.set_cons_zero, List.set_cons_succ]
      refine wpAnyH_ready (rs := [9]) (by kernel_rfl) (by simp) ?_
      refine AllReadyH.cons rfl (fun K hK => ?_) AllReadyH.nil
      try simp only [List.getElem_toArray]
      go_simp
      (go_at_call 15; refine (HV.out _ _ _ (by first | exact I1.out.rd | exact I1.out.rd.below (k := w6.heap.size) ((Below.refl _ _).drew) (Nat.le_refl _)) (by first | exact U.out.rd | exact U.out.rd.below (k := w6.heap.size) ((Below.refl _ _).drew) (Nat.le_refl _))).mono ?_; rintro e w7 ⟨rfl, hbd⟩; have hb7 : Below w6.heap.size w6 w7 := (by first | exact hbd | exact ⟨hbd.os, hbd.tape, hbd.output, hbd.size, hbd.block⟩); clear hbd; have hz7 := hb7.size; replace X := Lib.hid (X.out.next hb7 X.out.lt); replace Y := Lib.hid (Y.out.next hb7 Y.out.lt); replace I1 := Lib.hid (I1.out.below hb7 (Nat.le_refl _)); replace U := Lib.hid (U.out.below hb7 (Nat.le_refl _)); replace IA := Lib.hid (IA.out.below hb7 (Nat.le_refl _)); replace IS := Lib.hid (IS.out.below hb7 (Nat.le_refl _)); replace B := Lib.hid (B.out.trans (hb7.mono B.out.size)); clear hb7; have x0_7 := X.out.out.at0; have x1_7 := X.out.out.at1; have y0_7 := Y.out.out.at0; have y1_7 := Y.out.out.at1)
      refine hK.out _ _ (by first | exact ⟨x0_7, x1_7, y0_7, y1_7⟩ | exact ⟨x0_6, x1_6, y0_6, y1_6⟩ | exact ⟨x0_5, x1_5, y0_5, y1_5⟩ | exact ⟨x0, x1, y0, y1⟩ | go_keep) (fun hHeld => ?_)
      clear hK K
      try simp only [List.getElem_toArray, List.getElem_cons_zero, List.getElem_cons_succ, Act.put, List.setIfInBounds_toArray, List.set_cons_zero, List.set_cons_succ]
      refine wpAnyH_take (i := 10) (v := ?_) rfl (by kernel_rfl) (by kernel_rfl) (by kernel_rfl) (fun _ _ _ h => h) (Or.inl ⟨by rfl, ?_⟩) (by assumption) ?_
      rotate_left
      · (intro w hSw; (try dsimp only at hSw); go_simp; try with_reducible rfl)
      try simp only [List.getElem_toArray, List.getElem_cons_zero, List.getElem_cons_succ, Act.put, List.setIfInBounds_toArray, List.set_cons_zero, List.set_cons_succ]
      refine wpAnyH_take (i := 11) (v := ?_) rfl (by kernel_rfl) (by kernel_rfl) (by kernel_rfl) (fun _ _ _ h => h) (Or.inl ⟨by rfl, ?_⟩) (by assumption) ?_
      rotate_left
      · (intro w hSw; (try dsimp only at hSw); go_simp; try with_reducible rfl)
      try simp only [List.getElem_toArray, List.getElem_cons_zero, List.getElem_cons_succ, Act.put, List.setIfInBounds_toArray, List.set_cons_zero, List.set_cons_succ]
      refine wpAnyH_done (by kernel_rfl) ?_ _
      clear IS HS HI HV
      obtain ⟨sr, bs, offs, caps, er, g1, -, g5⟩ := I1.out.rd
      simp only [Value.slice.injEq] at er
      obtain ⟨rfl, -, rfl⟩ := er
      rw [hL] at g1 g5
      have G1 := Lib.hid g1
      have G5 := Lib.hid g5
      clear g1 g5
      have x0 := X.out.out.at0
      have x1 := X.out.out.at1
      have y0 := Y.out.out.at0
      have y1 := Y.out.out.at1
      go_wp2_with fail
      clear x0 x1 y0 y1
      go_loopw [6] (fun i wr => ∃ j : Nat, j ≤ L ∧ i = .int .i64 j ∧ Below w7.heap.size w7 wr) (fun i _ => L - (intOf i).toNat)
      case atStart => exact ⟨0, Nat.zero_le _, rfl, Below.refl _ _⟩
      case round =>
        obtain ⟨j, hj, rfl, hbe⟩ := hrel
        have HBE := Lib.hid hbe
        have hzr := hbe.size
        have hXl := X.out.lt
        replace X := Lib.hid (X.out.next hbe X.out.lt)
        replace Y := Lib.hid (Y.out.next hbe Y.out.lt)
        replace I1 := Lib.hid (I1.out.below hbe (Nat.le_refl _))
        replace IA := Lib.hid (IA.out.below hbe (Nat.le_refl _))
        replace U := Lib.hid (U.out.below hbe (Nat.le_refl _))
        replace B := Lib.hid (B.out.trans (hbe.mono B.out.size))
        by_cases hlt : j < L
        · obtain ⟨rfl, gbl⟩ := G1.out (by omega)
          have hcs := (hbe.cell (p := ⟨bs, offs + j, none⟩) gbl).trans (G5.out j hlt)
          clear hbe
          obtain ⟨hy1, hy2, hy3⟩ := HY.out j hlt
          rw [hy1] at hcs
          have HRj := Lib.hid (HRk.out _ hy2)
          have HHj := Lib.hid (HHo.out (ns.getD j 0))
          rw [hy3] at HHj
          clear hy1 hy3 HY HRk HC1 HC2 HHo
          generalize ns.getD j 0 = u at *
          generalize msTo u es es.length = r at *
          have hjI : (j : Int) < (L : Int) := by omega
          clear hy2
          obtain ⟨w8, hwr⟩ : ∃ w8, w8 = wr := ⟨_, rfl⟩
          subst hwr
          have gbl2 : bs < w8.heap.size := by omega
          by_cases hr0 : r = 0
          · have hrb : (r == 0) = true := by simpa using hr0
            rw [decide_eq_true hr0] at HHj
            clear hr0
            have x0 := X.out.out.at0
            have x1 := X.out.out.at1
            have y0 := Y.out.out.at0
            have y1 := Y.out.out.at1
            go_wp2_with fail
            refine wp_region_held_drew (S := fun w' => w'.cell? ⟨o, 0, none⟩ = some (.int .i64 (m : Int)) ∧ w'.cell? ⟨o, 1, none⟩ = some (.slice (some ⟨bs, offs, none⟩) L c1) ∧ w'.cell? ⟨o2, 0, none⟩ = some (.int .i64 (m : Int)) ∧ w'.cell? ⟨o2, 1, none⟩ = some (.slice a3 C c3) ∧ w'.cell? ⟨bs, offs + j, none⟩ = some (.int .i64 (u : Int))) (by kernel_rfl) (by first | exact ⟨z0, z1, z2, z3, z4⟩ | exact ⟨x0, x1, y0, y1, hcs⟩ | go_keep) (fun hHeld => ?_)
            refine wpAnyH_take (i := 0) (v := ?_) rfl (by kernel_rfl) (by kernel_rfl) (by kernel_rfl) (fun _ _ _ h => h) (Or.inl ⟨by rfl, ?_⟩) (by assumption) ?_
            rotate_left
            · (intro w hSw; (try dsimp only at hSw); go_simp; try with_reducible rfl)
            try simp only [List.getElem_toArray, List.getElem_cons_zero, Act.put, List.setIfInBounds_toArray, List.set_cons_zero, List.set_cons_succ]
            refine wpAnyH_take (i := 1) (v := ?_) rfl (by kernel_rfl) (by kernel_rfl) (by kernel_rfl) (fun _ _ _ h => h) (Or.inl ⟨by rfl, ?_⟩) (by assumption) ?_
            rotate_left
            · (intro w hSw; (try dsimp only at hSw); go_simp; try with_reducible rfl)
            try simp only [List.getElem_toArray, List.getElem_cons_zero, List.getElem_cons_succ, Act.put, List.setIfInBounds_toArray, List.set_cons_zero, List.set_cons_succ]
            refine wpAnyH_take (i := 2) (v := ?_) rfl (by kernel_rfl) (by kernel_rfl) (by kernel_rfl) (fun _ _ _ h => h) (Or.inl ⟨by rfl, ?_⟩) (by assumption) ?_
            rotate_left
            · (intro w hSw; (try dsimp only at hSw); go_simp; try with_reducible rfl)
            try simp only [List.getElem_toArray, List.getElem_cons_zero, List.getElem_cons_succ, Act.put, List.setIfInBounds_toArray, List.set_cons_zero, List.set_cons_succ]
            refine wpAnyH_take (i := 3) (v := ?_) rfl (by kernel_rfl) (by kernel_rfl) (by kernel_rfl) (fun _ _ _ h => h) (Or.inl ⟨by rfl, ?_⟩) (by assumption) ?_
            rotate_left
            · (intro w hSw; (try dsimp only at hSw); go_simp; try with_reducible rfl)
            try simp only [List.getElem_toArray, List.getElem_cons_zero, List.getElem_cons_succ, Act.put, List.setIfInBounds_toArray, List.set_cons_zero, List.set_cons_succ]
            refine wpAnyH_take (i := 4) (v := ?_) rfl (by kernel_rfl) (by kernel_rfl) (by kernel_rfl) (fun _ _ _ h => h) (Or.inl ⟨by rfl, ?_⟩) (by assumption) ?_
            rotate_left
            · (intro w hSw; (try dsimp only at hSw); go_simp; try with_reducible rfl)
            try simp only [List.getElem_toArray, List.getElem_cons_zero, List.getElem_cons_succ, Act.put, List.setIfInBounds_toArray, List.set_cons_zero, List.set_cons_succ]
            refine wpAnyH_take (i := 5) (v := ?_) rfl (by kernel_rfl) (by kernel_rfl) (by kernel_rfl) (fun _ _ _ h => h) (Or.inl ⟨by rfl, ?_⟩) (by assumption) ?_
            rotate_left
            · (intro w hSw; (try dsimp only at hSw); go_simp; try with_reducible rfl)
            try simp only [List.getElem_toArray, List.getElem_cons_zero, List.getElem_cons_succ, Act.put, List.setIfInBounds_toArray, List.set_cons_zero, List.set_cons_succ]
            refine wpAnyH_take (i := 6) (v := ?_) rfl (by kernel_rfl) (by kernel_rfl) (by kernel_rfl) (fun _ _ _ h => h) (Or.inl ⟨by rfl, ?_⟩) (by assumption) ?_
            rotate_left
            · (intro w hSw; (try dsimp only at hSw); go_simp; try with_reducible rfl)
            try simp only [List.getElem_toArray, List.getElem_cons_zero, List.getElem_cons_succ, Act.put, List.setIfInBounds_toArray, List.set_cons_zero, List.set_cons_succ]
            refine wpAnyH_take (i := 8) (v := ?_) rfl (by kernel_rfl) (by kernel_rfl) (by kernel_rfl) (fun _ _ _ h => h) (Or.inl ⟨by rfl, ?_⟩) (by assumption) ?_
            rotate_left
            · (intro w hSw; (try dsimp only at hSw); go_simp; try with_reducible rfl)
            try simp only [List.getElem_toArray, List.getElem_cons_zero, List.getElem_cons_succ, Act.put, List.setIfInBounds_toArray, List.set_cons_zero, List.set_cons_succ]
            refine wpAnyH_take (i := 9) (v := ?_) rfl (by kernel_rfl) (by kernel_rfl) (by kernel_rfl) (fun _ _ _ h => h) (Or.inl ⟨by rfl, ?_⟩) (by assumption) ?_
            rotate_left
            · (intro w hSw; (try dsimp only at hSw); go_simp; try with_reducible rfl)
            try simp only [List.getElem_toArray, List.getElem_cons_zero, List.getElem_cons_succ, Act.put, List.setIfInBounds_toArray, List.set_cons_zero, List.set_cons_succ]
            refine wpAnyH_take (i := 10) (v := ?_) rfl (by kernel_rfl) (by kernel_rfl) (by kernel_rfl) (fun _ _ _ h => h) (Or.inl ⟨by rfl, ?_⟩) (by assumption) ?_
            rotate_left
            · (intro w hSw; (try dsimp only at hSw); go_simp; try with_reducible rfl)
            try simp only [List.getElem_toArray, List.getElem_cons_zero, List.getElem_cons_succ, Act.put, List.setIfInBounds_toArray, List.set_cons_zero, List.set_cons_succ]
            refine wpAnyH_take (i := 11) (v := ?_) rfl (by kernel_rfl) (by kernel_rfl) (by kernel_rfl) (fun _ _ _ h => h) (Or.inl ⟨by rfl, ?_⟩) (by assumption) ?_
            rotate_left
            · (intro w hSw; (try dsimp only at hSw); go_simp; try with_reducible rfl)
            try simp only [List.getElem_toArray, List.getElem_cons_zero, List.getElem_cons_succ, Act.put, List.setIfInBounds_toArray, List.set_cons_zero, List.set_cons_succ]
            refine wpAnyH_take (i := 12) (v := ?_) rfl (by kernel_rfl) (by kernel_rfl) (by kernel_rfl) (fun _ _ _ h => h) (Or.inl ⟨by rfl, ?_⟩) (by assumption) ?_
            rotate_left
            · (intro w hSw; (try dsimp only at hSw); go_simp; try with_reducible rfl)
            try simp only [List.getElem_toArray, List.getElem_cons_zero, List.getElem_cons_succ, Act.put, List.setIfInBounds_toArray, List.set_cons_zero, List.set_cons_succ]
            refine wpAnyH_take (i := 13) (v := ?_) rfl (by kernel_rfl) (by kernel_rfl) (by kernel_rfl) (fun _ _ _ h => h) (Or.inl ⟨by rfl, ?_⟩) (by assumption) ?_
            rotate_left
            · (intro w hSw; (try dsimp only at hSw); go_simp; try with_reducible rfl)
            try simp only [List.getElem_toArray, List.getElem_cons_zero, List.getElem_cons_succ, Act.put, List.setIfInBounds_toArray, List.set_cons_zero, List.set_cons_succ]
            refine wpAnyH_take (i := 14) (v := ?_) rfl (by kernel_rfl) (by kernel_rfl) (by kernel_rfl) (fun _ _ _ h => h) (Or.inl ⟨by rfl, ?_⟩) (by assumption) ?_
            rotate_left
            · (intro w hSw; (try dsimp only at hSw); go_simp; try with_reducible rfl)
            try simp only [List.getElem_toArray, List.getElem_cons_zero, List.getElem_cons_succ, Act.put, List.setIfInBounds_toArray, List.set_cons_zero, List.set_cons_succ]
            refine wpAnyH_ready (rs := [7]) (by kernel_rfl) (by simp) ?_
            refine AllReadyH.cons rfl (fun K hK => ?_) AllReadyH.nil
            try simp only [List.getElem_toArray]
            go_simp
            (go_at_call 16; refine (HHj.out _ _ (by first | exact IA.out.rd | exact IA.out.rd.below (k := w8.heap.size) ((Below.refl _ _).drew) (Nat.le_refl _))).mono ?_; rintro e w98 ⟨rfl, hw98⟩; subst w98)
            refine hK.out _ _ (by first | exact ⟨z0, z1, z2, z3, z4⟩ | exact ⟨x0, x1, y0, y1, hcs⟩ | go_keep) (fun hHeld => ?_)
            clear hK K
            try simp only [List.getElem_toArray, List.getElem_cons_zero, List.getElem_cons_succ, Act.put, List.setIfInBounds_toArray, List.set_cons_zero, List.set_cons_succ]
            refine wpAnyH_ready (rs := [15]) (by kernel_rfl) (by simp) ?_
            refine AllReadyH.cons rfl (fun K hK => ?_) AllReadyH.nil
            try simp only [List.getElem_toArray]
            go_simp
            (go_at_call 17; refine (HRj.out _ _ _ (by first | exact I1.out.rd | exact I1.out.rd.below (k := w8.heap.size) ((Below.refl _ _).drew) (Nat.le_refl _)) (by first | exact U.out.rd | exact U.out.rd.below (k := w8.heap.size) ((Below.refl _ _).drew) (Nat.le_refl _))).mono ?_; rintro e w9 ⟨rfl, hbd⟩; have hb9 : Below w8.heap.size w8 w9 := (by first | exact hbd | exact ⟨hbd.os, hbd.tape, hbd.output, hbd.size, hbd.block⟩); clear hbd; have z4 := (hb9.cell (p := ⟨bs, offs + j, none⟩) gbl2).trans hcs; have hz9 := hb9.size; replace X := Lib.hid (X.out.next hb9 X.out.lt); replace Y := Lib.hid (Y.out.next hb9 Y.out.lt); replace I1 := Lib.hid (I1.out.below hb9 (Nat.le_refl _)); replace U := Lib.hid (U.out.below hb9 (Nat.le_refl _)); replace IA := Lib.hid (IA.out.below hb9 (Nat.le_refl _)); replace B := Lib.hid (B.out.trans (hb9.mono B.out.size)); replace HBE := Lib.hid (HBE.out.trans (hb9.mono HBE.out.size)); clear hb9; have z0 := X.out.out.at0; have z1 := X.out.out.at1; have z2 := Y.out.out.at0; have z3 := Y.out.out.at1)
            refine hK.out _ _ (by first | exact ⟨z0, z1, z2, z3, z4⟩ | exact ⟨x0, x1, y0, y1, hcs⟩ | go_keep) (fun hHeld => ?_)
            clear hK K
            try simp only [List.getElem_toArray, List.getElem_cons_zero, List.getElem_cons_succ, Act.put, List.setIfInBounds_toArray, List.set_cons_zero, List.set_cons_succ]
            refine wpAnyH_take (i := 16) (v := ?_) rfl (by kernel_rfl) (by kernel_rfl) (by kernel_rfl) (fun _ _ _ h => h) (Or.inl ⟨by rfl, ?_⟩) (by assumption) ?_
            rotate_left
            · (intro w hSw; (try dsimp only at hSw); go_simp; try with_reducible rfl)
            try simp only [List.getElem_toArray, List.getElem_cons_zero, List.getElem_cons_succ, Act.put, List.setIfInBounds_toArray, List.set_cons_zero, List.set_cons_succ]
            refine wpAnyH_take (i := 17) (v := ?_) rfl (by kernel_rfl) (by kernel_rfl) (by kernel_rfl) (fun _ _ _ h => h) (Or.inl ⟨by rfl, ?_⟩) (by assumption) ?_
            rotate_left
            · (intro w hSw; (try dsimp only at hSw); go_simp; try with_reducible rfl)
            try simp only [List.getElem_toArray, List.getElem_cons_zero, List.getElem_cons_succ, Act.put, List.setIfInBounds_toArray, List.set_cons_zero, List.set_cons_succ]
            refine wpAnyH_done (by kernel_rfl) ?_ _
            all_goals
              go_wp2_with fail
              go_roundw
              case rel => exact ⟨j + 1, by omega, by go_num, HBE.out⟩
              case measure => simp [intOf]; omega
          · have hrb : (r == 0) = false := by simpa using hr0
            rw [decide_eq_false hr0] at HHj
            have x0 := X.out.out.at0
            have x1 := X.out.out.at1
            have y0 := Y.out.out.at0
            have y1 := Y.out.out.at1
            go_wp2_with fail
            refine wp_region_held_drew (S := fun w' => w'.cell? ⟨o, 0, none⟩ = some (.int .i64 (m : Int)) ∧ w'.cell? ⟨o, 1, none⟩ = some (.slice (some ⟨bs, offs, none⟩) L c1) ∧ w'.cell? ⟨o2, 0, none⟩ = some (.int .i64 (m : Int)) ∧ w'.cell? ⟨o2, 1, none⟩ = some (.slice a3 C c3) ∧ w'.cell? ⟨bs, offs + j, none⟩ = some (.int .i64 (u : Int))) (by kernel_rfl) (by first | exact ⟨z0, z1, z2, z3, z4⟩ | exact ⟨x0, x1, y0, y1, hcs⟩ | go_keep) (fun hHeld => ?_)
            refine wpAnyH_take (i := 0) (v := ?_) rfl (by kernel_rfl) (by kernel_rfl) (by kernel_rfl) (fun _ _ _ h => h) (Or.inl ⟨by rfl, ?_⟩) (by assumption) ?_
            rotate_left
            · (intro w hSw; (try dsimp only at hSw); go_simp; try with_reducible rfl)
            try simp only [List.getElem_toArray, List.getElem_cons_zero, Act.put, List.setIfInBounds_toArray, List.set_cons_zero, List.set_cons_succ]
            refine wpAnyH_take (i := 1) (v := ?_) rfl (by kernel_rfl) (by kernel_rfl) (by kernel_rfl) (fun _ _ _ h => h) (Or.inl ⟨by rfl, ?_⟩) (by assumption) ?_
            rotate_left
            · (intro w hSw; (try dsimp only at hSw); go_simp; try with_reducible rfl)
            try simp only [List.getElem_toArray, List.getElem_cons_zero, List.getElem_cons_succ, Act.put, List.setIfInBounds_toArray, List.set_cons_zero, List.set_cons_succ]
            refine wpAnyH_take (i := 2) (v := ?_) rfl (by kernel_rfl) (by kernel_rfl) (by kernel_rfl) (fun _ _ _ h => h) (Or.inl ⟨by rfl, ?_⟩) (by assumption) ?_
            rotate_left
            · (intro w hSw; (try dsimp only at hSw); go_simp; try with_reducible rfl)
            try simp only [List.getElem_toArray, List.getElem_cons_zero, List.getElem_cons_succ, Act.put, List.setIfInBounds_toArray, List.set_cons_zero, List.set_cons_succ]
            refine wpAnyH_take (i := 3) (v := ?_) rfl (by kernel_rfl) (by kernel_rfl) (by kernel_rfl) (fun _ _ _ h => h) (Or.inl ⟨by rfl, ?_⟩) (by assumption) ?_
            rotate_left
            · (intro w hSw; (try dsimp only at hSw); go_simp; try with_reducible rfl)
            try simp only [List.getElem_toArray, List.getElem_cons_zero, List.getElem_cons_succ, Act.put, List.setIfInBounds_toArray, List.set_cons_zero, List.set_cons_succ]
            refine wpAnyH_take (i := 4) (v := ?_) rfl (by kernel_rfl) (by kernel_rfl) (by kernel_rfl) (fun _ _ _ h => h) (Or.inl ⟨by rfl, ?_⟩) (by assumption) ?_
            rotate_left
            · (intro w hSw; (try dsimp only at hSw); go_simp; try with_reducible rfl)
            try simp only [List.getElem_toArray, List.getElem_cons_zero, List.getElem_cons_succ, Act.put, List.setIfInBounds_toArray, List.set_cons_zero, List.set_cons_succ]
            refine wpAnyH_take (i := 5) (v := ?_) rfl (by kernel_rfl) (by kernel_rfl) (by kernel_rfl) (fun _ _ _ h => h) (Or.inl ⟨by rfl, ?_⟩) (by assumption) ?_
            rotate_left
            · (intro w hSw; (try dsimp only at hSw); go_simp; try with_reducible rfl)
            try simp only [List.getElem_toArray, List.getElem_cons_zero, List.getElem_cons_succ, Act.put, List.setIfInBounds_toArray, List.set_cons_zero, List.set_cons_succ]
            refine wpAnyH_take (i := 6) (v := ?_) rfl (by kernel_rfl) (by kernel_rfl) (by kernel_rfl) (fun _ _ _ h => h) (Or.inl ⟨by rfl, ?_⟩) (by assumption) ?_
            rotate_left
            · (intro w hSw; (try dsimp only at hSw); go_simp; try with_reducible rfl)
            try simp only [List.getElem_toArray, List.getElem_cons_zero, List.getElem_cons_succ, Act.put, List.setIfInBounds_toArray, List.set_cons_zero, List.set_cons_succ]
            refine wpAnyH_take (i := 8) (v := ?_) rfl (by kernel_rfl) (by kernel_rfl) (by kernel_rfl) (fun _ _ _ h => h) (Or.inl ⟨by rfl, ?_⟩) (by assumption) ?_
            rotate_left
            · (intro w hSw; (try dsimp only at hSw); go_simp; try with_reducible rfl)
            try simp only [List.getElem_toArray, List.getElem_cons_zero, List.getElem_cons_succ, Act.put, List.setIfInBounds_toArray, List.set_cons_zero, List.set_cons_succ]
            refine wpAnyH_take (i := 9) (v := ?_) rfl (by kernel_rfl) (by kernel_rfl) (by kernel_rfl) (fun _ _ _ h => h) (Or.inl ⟨by rfl, ?_⟩) (by assumption) ?_
            rotate_left
            · (intro w hSw; (try dsimp only at hSw); go_simp; try with_reducible rfl)
            try simp only [List.getElem_toArray, List.getElem_cons_zero, List.getElem_cons_succ, Act.put, List.setIfInBounds_toArray, List.set_cons_zero, List.set_cons_succ]
            refine wpAnyH_take (i := 10) (v := ?_) rfl (by kernel_rfl) (by kernel_rfl) (by kernel_rfl) (fun _ _ _ h => h) (Or.inl ⟨by rfl, ?_⟩) (by assumption) ?_
            rotate_left
            · (intro w hSw; (try dsimp only at hSw); go_simp; try with_reducible rfl)
            try simp only [List.getElem_toArray, List.getElem_cons_zero, List.getElem_cons_succ, Act.put, List.setIfInBounds_toArray, List.set_cons_zero, List.set_cons_succ]
            refine wpAnyH_take (i := 11) (v := ?_) rfl (by kernel_rfl) (by kernel_rfl) (by kernel_rfl) (fun _ _ _ h => h) (Or.inl ⟨by rfl, ?_⟩) (by assumption) ?_
            rotate_left
            · (intro w hSw; (try dsimp only at hSw); go_simp; try with_reducible rfl)
            try simp only [List.getElem_toArray, List.getElem_cons_zero, List.getElem_cons_succ, Act.put, List.setIfInBounds_toArray, List.set_cons_zero, List.set_cons_succ]
            refine wpAnyH_take (i := 12) (v := ?_) rfl (by kernel_rfl) (by kernel_rfl) (by kernel_rfl) (fun _ _ _ h => h) (Or.inl ⟨by rfl, ?_⟩) (by assumption) ?_
            rotate_left
            · (intro w hSw; (try dsimp only at hSw); go_simp; try with_reducible rfl)
            try simp only [List.getElem_toArray, List.getElem_cons_zero, List.getElem_cons_succ, Act.put, List.setIfInBounds_toArray, List.set_cons_zero, List.set_cons_succ]
            refine wpAnyH_take (i := 13) (v := ?_) rfl (by kernel_rfl) (by kernel_rfl) (by kernel_rfl) (fun _ _ _ h => h) (Or.inl ⟨by rfl, ?_⟩) (by assumption) ?_
            rotate_left
            · (intro w hSw; (try dsimp only at hSw); go_simp; try with_reducible rfl)
            try simp only [List.getElem_toArray, List.getElem_cons_zero, List.getElem_cons_succ, Act.put, List.setIfInBounds_toArray, List.set_cons_zero, List.set_cons_succ]
            refine wpAnyH_take (i := 14) (v := ?_) rfl (by kernel_rfl) (by kernel_rfl) (by kernel_rfl) (fun _ _ _ h => h) (Or.inl ⟨by rfl, ?_⟩) (by assumption) ?_
            rotate_left
            · (intro w hSw; (try dsimp only at hSw); go_simp; try with_reducible rfl)
            try simp only [List.getElem_toArray, List.getElem_cons_zero, List.getElem_cons_succ, Act.put, List.setIfInBounds_toArray, List.set_cons_zero, List.set_cons_succ]
            refine wpAnyH_ready (rs := [7]) (by kernel_rfl) (by simp) ?_
            refine AllReadyH.cons rfl (fun K hK => ?_) AllReadyH.nil
            try simp only [List.getElem_toArray]
            go_simp
            (go_at_call 16; refine (HHj.out _ _ (by first | exact IA.out.rd | exact IA.out.rd.below (k := w8.heap.size) ((Below.refl _ _).drew) (Nat.le_refl _))).mono ?_; rintro e w98 ⟨rfl, hw98⟩; subst w98)
            refine hK.out _ _ (by first | exact ⟨z0, z1, z2, z3, z4⟩ | exact ⟨x0, x1, y0, y1, hcs⟩ | go_keep) (fun hHeld => ?_)
            clear hK K
            try simp only [List.getElem_toArray, List.getElem_cons_zero, List.getElem_cons_succ, Act.put, List.setIfInBounds_toArray, List.set_cons_zero, List.set_cons_succ]
            refine wpAnyH_ready (rs := [15]) (by kernel_rfl) (by simp) ?_
            refine AllReadyH.cons rfl (fun K hK => ?_) AllReadyH.nil
            try simp only [List.getElem_toArray]
            go_simp
            (go_at_call 17; refine (HRj.out _ _ _ (by first | exact I1.out.rd | exact I1.out.rd.below (k := w8.heap.size) ((Below.refl _ _).drew) (Nat.le_refl _)) (by first | exact U.out.rd | exact U.out.rd.below (k := w8.heap.size) ((Below.refl _ _).drew) (Nat.le_refl _))).mono ?_; rintro e w9 ⟨rfl, hbd⟩; have hb9 : Below w8.heap.size w8 w9 := (by first | exact hbd | exact ⟨hbd.os, hbd.tape, hbd.output, hbd.size, hbd.block⟩); clear hbd; have z4 := (hb9.cell (p := ⟨bs, offs + j, none⟩) gbl2).trans hcs; have hz9 := hb9.size; replace X := Lib.hid (X.out.next hb9 X.out.lt); replace Y := Lib.hid (Y.out.next hb9 Y.out.lt); replace I1 := Lib.hid (I1.out.below hb9 (Nat.le_refl _)); replace U := Lib.hid (U.out.below hb9 (Nat.le_refl _)); replace IA := Lib.hid (IA.out.below hb9 (Nat.le_refl _)); replace B := Lib.hid (B.out.trans (hb9.mono B.out.size)); replace HBE := Lib.hid (HBE.out.trans (hb9.mono HBE.out.size)); clear hb9; have z0 := X.out.out.at0; have z1 := X.out.out.at1; have z2 := Y.out.out.at0; have z3 := Y.out.out.at1)
            refine hK.out _ _ (by first | exact ⟨z0, z1, z2, z3, z4⟩ | exact ⟨x0, x1, y0, y1, hcs⟩ | go_keep) (fun hHeld => ?_)
            clear hK K
            try simp only [List.getElem_toArray, List.getElem_cons_zero, List.getElem_cons_succ, Act.put, List.setIfInBounds_toArray, List.set_cons_zero, List.set_cons_succ]
            refine wpAnyH_take (i := 16) (v := ?_) rfl (by kernel_rfl) (by kernel_rfl) (by kernel_rfl) (fun _ _ _ h => h) (Or.inl ⟨by rfl, ?_⟩) (by assumption) ?_
            rotate_left
            · (intro w hSw; (try dsimp only at hSw); go_simp; try with_reducible rfl)
            try simp only [List.getElem_toArray, List.getElem_cons_zero, List.getElem_cons_succ, Act.put, List.setIfInBounds_toArray, List.set_cons_zero, List.set_cons_succ]
            refine wpAnyH_take (i := 17) (v := ?_) rfl (by kernel_rfl) (by kernel_rfl) (by kernel_rfl) (fun _ _ _ h => h) (Or.inl ⟨by rfl, ?_⟩) (by assumption) ?_
            rotate_left
            · (intro w hSw; (try dsimp only at hSw); go_simp; try with_reducible rfl)
            try simp only [List.getElem_toArray, List.getElem_cons_zero, List.getElem_cons_succ, Act.put, List.setIfInBounds_toArray, List.set_cons_zero, List.set_cons_succ]
            refine wpAnyH_done (by kernel_rfl) ?_ _
            all_goals
              go_wp2_with fail
              go_roundw
              case rel => exact ⟨j + 1, by omega, by go_num, HBE.out⟩
              case measure => simp [intOf]; omega
        · clear hbe
          obtain rfl : j = L := by omega
          clear HY HRk HHo G1 G5
          obtain ⟨w8, hwr⟩ : ∃ w8, w8 = wr := ⟨_, rfl⟩
          subst hwr
          have hhI : (h : Int) ≤ (K : Int) := by omega
          have hwh : IntKind.i64.wrap (h : Int) = (h : Int) := by rw [IntKind.wrap_i64]; omega
          obtain ⟨hcap, -⟩ := U.out.addr
          have hhc : (h : Int) ≤ (c2 : Int) := by omega
          have hU2 := U.out.2
          rcases hU2 with ⟨eU, hU0⟩ | ⟨g, cp, cu, eU, -, -, -, -, -⟩
          · simp only [Value.slice.injEq] at eU
            obtain ⟨rfl, rfl, rfl⟩ := eU
            obtain rfl : h = 0 := by omega
            have hch : 0 = 0 := rfl
            clear hU0
            have x0 := X.out.out.at0
            have x1 := X.out.out.at1
            have y0 := Y.out.out.at0
            have y1 := Y.out.out.at1
            go_wp2_with fail
            refine wp_region_held_drew (S := fun w' => w'.cell? ⟨o, 0, none⟩ = some (.int .i64 (m : Int)) ∧ w'.cell? ⟨o, 1, none⟩ = some (.slice a1 j c1) ∧ w'.cell? ⟨o2, 0, none⟩ = some (.int .i64 (m : Int)) ∧ w'.cell? ⟨o2, 1, none⟩ = some (.slice a3 C c3)) (by kernel_rfl) (by first | exact ⟨x0, x1, y0, y1⟩ | go_keep) (fun hHeld => ?_)
            refine wpAnyH_take (i := 0) (v := ?_) rfl (by kernel_rfl) (by kernel_rfl) (by kernel_rfl) (fun _ _ _ h => h) (Or.inl ⟨by rfl, ?_⟩) (by assumption) ?_
            rotate_left
            · (intro w hSw; (try dsimp only at hSw); go_simp; try with_reducible rfl)
            try simp only [List.getElem_toArray, List.getElem_cons_zero, Act.put, List.setIfInBounds_toArray, List.set_cons_zero, List.set_cons_succ]
            refine wpAnyH_take (i := 1) (v := ?_) rfl (by kernel_rfl) (by kernel_rfl) (by kernel_rfl) (fun _ _ _ h => h) (Or.inl ⟨by rfl, ?_⟩) (by assumption) ?_
            rotate_left
            · (intro w hSw; (try dsimp only at hSw); go_simp; try with_reducible rfl)
            try simp only [List.getElem_toArray, List.getElem_cons_zero, List.getElem_cons_succ, Act.put, List.setIfInBounds_toArray, List.set_cons_zero, List.set_cons_succ]
            refine wpAnyH_take (i := 2) (v := ?_) rfl (by kernel_rfl) (by kernel_rfl) (by kernel_rfl) (fun _ _ _ h => h) (Or.inl ⟨by rfl, ?_⟩) (by assumption) ?_
            rotate_left
            · (intro w hSw; (try dsimp only at hSw); go_simp; try with_reducible rfl)
            try simp only [List.getElem_toArray, List.getElem_cons_zero, List.getElem_cons_succ, Act.put, List.setIfInBounds_toArray, List.set_cons_zero, List.set_cons_succ]
            refine wpAnyH_take (i := 3) (v := ?_) rfl (by kernel_rfl) (by kernel_rfl) (by kernel_rfl) (fun _ _ _ h => h) (Or.inl ⟨by rfl, ?_⟩) (by assumption) ?_
            rotate_left
            · (intro w hSw; (try dsimp only at hSw); go_simp; try with_reducible rfl)
            try simp only [List.getElem_toArray, List.getElem_cons_zero, List.getElem_cons_succ, Act.put, List.setIfInBounds_toArray, List.set_cons_zero, List.set_cons_succ]
            refine wpAnyH_take (i := 5) (v := ?_) rfl (by kernel_rfl) (by kernel_rfl) (by kernel_rfl) (fun _ _ _ h => h) (Or.inl ⟨by rfl, ?_⟩) (by assumption) ?_
            rotate_left
            · (intro w hSw; (try dsimp only at hSw); go_simp; try with_reducible rfl)
            try simp only [List.getElem_toArray, List.getElem_cons_zero, List.getElem_cons_succ, Act.put, List.setIfInBounds_toArray, List.set_cons_zero, List.set_cons_succ]
            refine wpAnyH_take (i := 6) (v := ?_) rfl (by kernel_rfl) (by kernel_rfl) (by kernel_rfl) (fun _ _ _ h => h) (Or.inl ⟨by rfl, ?_⟩) (by assumption) ?_
            rotate_left
            · (intro w hSw; (try dsimp only at hSw); go_simp; try with_reducible rfl)
            try simp only [List.getElem_toArray, List.getElem_cons_zero, List.getElem_cons_succ, Act.put, List.setIfInBounds_toArray, List.set_cons_zero, List.set_cons_succ]
            refine wpAnyH_take (i := 7) (v := ?_) rfl (by kernel_rfl) (by kernel_rfl) (by kernel_rfl) (fun _ _ _ h => h) (Or.inl ⟨by rfl, ?_⟩) (by assumption) ?_
            rotate_left
            · (intro w hSw; (try dsimp only at hSw); go_simp; (try rw [if_pos hhI]); (try rw [if_pos hch]); try with_reducible rfl)
            try simp only [List.getElem_toArray, List.getElem_cons_zero, List.getElem_cons_succ, Act.put, List.setIfInBounds_toArray, List.set_cons_zero, List.set_cons_succ]
            refine wpAnyH_take (i := 9) (v := ?_) rfl (by kernel_rfl) (by kernel_rfl) (by kernel_rfl) (fun _ _ _ h => h) (Or.inl ⟨by rfl, ?_⟩) (by assumption) ?_
            rotate_left
            · (intro w hSw; (try dsimp only at hSw); go_simp; try with_reducible rfl)
            try simp only [List.getElem_toArray, List.getElem_cons_zero, List.getElem_cons_succ, Act.put, List.setIfInBounds_toArray, List.set_cons_zero, List.set_cons_succ]
            refine wpAnyH_ready (rs := [4]) (by kernel_rfl) (by simp) ?_
            refine AllReadyH.cons rfl (fun K hK => ?_) AllReadyH.nil
            try simp only [List.getElem_toArray]
            go_simp
            (go_at_call 12; refine (HC1.out _ _ _ (by first | exact I1.out.rd | exact I1.out.rd.below (k := w8.heap.size) ((Below.refl _ _).drew) (Nat.le_refl _)) (RdE.take (by first | exact U.out.rd | exact U.out.rd.below (k := w8.heap.size) ((Below.refl _ _).drew) (Nat.le_refl _)) _ (by omega)) (by first | exact HSW.out.next B.out | exact (show SW (World.drew _) from HSW.out.next B.out) | exact HSW.out.next (B.out.trans ((Below.refl _ _).drew)))).mono ?_; rintro e w9 ⟨a9, c9, rfl, hin9, hbd⟩; rw [HCA.out] at hin9 ⊢; have hb9 : Below w8.heap.size w8 w9 := (by first | exact hbd | exact ⟨hbd.os, hbd.tape, hbd.output, hbd.size, hbd.block⟩); clear hbd; have hz9 := hb9.size; replace X := Lib.hid (X.out.next hb9 X.out.lt); replace Y := Lib.hid (Y.out.next hb9 Y.out.lt); replace I1 := Lib.hid (I1.out.below hb9 (Nat.le_refl _)); replace U := Lib.hid (U.out.below hb9 (Nat.le_refl _)); replace IA := Lib.hid (IA.out.below hb9 (Nat.le_refl _)); replace B := Lib.hid (B.out.trans (hb9.mono B.out.size)); have ID := Lib.hid (hin9.mono (Nat.zero_le _)); clear hin9; clear hb9; have x0_9 := X.out.out.at0; have x1_9 := X.out.out.at1; have y0_9 := Y.out.out.at0; have y1_9 := Y.out.out.at1)
            refine hK.out _ _ (by first | exact ⟨x0_9, x1_9, y0_9, y1_9⟩ | exact ⟨x0, x1, y0, y1⟩ | go_keep) (fun hHeld => ?_)
            clear hK K
            try simp only [List.getElem_toArray, List.getElem_cons_zero, List.getElem_cons_succ, Act.put, List.setIfInBounds_toArray, List.set_cons_zero, List.set_cons_succ]
            refine wpAnyH_ready (rs := [8]) (by kernel_rfl) (by simp) ?_
            refine AllReadyH.cons rfl (fun K hK => ?_) AllReadyH.nil
            try simp only [List.getElem_toArray]
            go_simp
            (go_at_call 12; refine (HC2.out _ _ _ (by first | exact ID.out.rd | exact ID.out.rd.below (k := w9.heap.size) ((Below.refl _ _).drew) (Nat.le_refl _)) (by have h9 : es.drop 0 = [] := List.length_eq_zero_iff.1 (by rw [List.length_drop]; omega); rw [h9]; exact RdE.empty _ _ _) (by first | exact HSW.out.next B.out | exact (show SW (World.drew _) from HSW.out.next B.out) | exact HSW.out.next (B.out.trans ((Below.refl _ _).drew)))).mono ?_; rintro e w10 ⟨a10, c10, rfl, hin10, hbd⟩; rw [HCL.out] at hin10 ⊢; have hb10 : Below w9.heap.size w9 w10 := (by first | exact hbd | exact ⟨hbd.os, hbd.tape, hbd.output, hbd.size, hbd.block⟩); clear hbd; have hz10 := hb10.size; replace X := Lib.hid (X.out.next hb10 X.out.lt); replace Y := Lib.hid (Y.out.next hb10 Y.out.lt); replace I1 := Lib.hid (I1.out.below hb10 (Nat.le_refl _)); replace U := Lib.hid (U.out.below hb10 (Nat.le_refl _)); replace IA := Lib.hid (IA.out.below hb10 (Nat.le_refl _)); replace ID := Lib.hid (ID.out.below hb10 (Nat.le_refl _)); replace B := Lib.hid (B.out.trans (hb10.mono B.out.size)); have IE := Lib.hid (hin10.mono (Nat.zero_le _)); clear hin10; clear hb10; have x0_10 := X.out.out.at0; have x1_10 := X.out.out.at1; have y0_10 := Y.out.out.at0; have y1_10 := Y.out.out.at1)
            refine hK.out _ _ (by first | exact ⟨x0_10, x1_10, y0_10, y1_10⟩ | exact ⟨x0_9, x1_9, y0_9, y1_9⟩ | exact ⟨x0, x1, y0, y1⟩ | go_keep) (fun hHeld => ?_)
            clear hK K
            try simp only [List.getElem_toArray, List.getElem_cons_zero, List.getElem_cons_succ, Act.put, List.setIfInBounds_toArray, List.set_cons_zero, List.set_cons_succ]
            refine wpAnyH_ready (rs := [10]) (by kernel_rfl) (by simp) ?_
            refine AllReadyH.cons rfl (fun K hK => ?_) AllReadyH.nil
            try simp only [List.getElem_toArray]
            go_simp
            (go_at_call 13; refine (lawsEqualClass _ _ _ _ _ _ _ _ (by first | exact IE.out.rd | exact IE.out.rd.below (k := w10.heap.size) ((Below.refl _ _).drew) (Nat.le_refl _)) (by first | exact IA.out.rd | exact IA.out.rd.below (k := w10.heap.size) ((Below.refl _ _).drew) (Nat.le_refl _))).mono ?_; rintro e w11 ⟨rfl, hbd⟩; have hb11 : Below w10.heap.size w10 w11 := (by first | exact hbd | exact ⟨hbd.os, hbd.tape, hbd.output, hbd.size, hbd.block⟩); clear hbd; have hz11 := hb11.size; replace X := Lib.hid (X.out.next hb11 X.out.lt); replace Y := Lib.hid (Y.out.next hb11 Y.out.lt); replace I1 := Lib.hid (I1.out.below hb11 (Nat.le_refl _)); replace U := Lib.hid (U.out.below hb11 (Nat.le_refl _)); replace IA := Lib.hid (IA.out.below hb11 (Nat.le_refl _)); replace ID := Lib.hid (ID.out.below hb11 (Nat.le_refl _)); replace IE := Lib.hid (IE.out.below hb11 (Nat.le_refl _)); replace B := Lib.hid (B.out.trans (hb11.mono B.out.size)); clear hb11; have x0_11 := X.out.out.at0; have x1_11 := X.out.out.at1; have y0_11 := Y.out.out.at0; have y1_11 := Y.out.out.at1)
            refine hK.out _ _ (by first | exact ⟨x0_11, x1_11, y0_11, y1_11⟩ | exact ⟨x0_10, x1_10, y0_10, y1_10⟩ | exact ⟨x0_9, x1_9, y0_9, y1_9⟩ | exact ⟨x0, x1, y0, y1⟩ | go_keep) (fun hHeld => ?_)
            clear hK K
            try simp only [List.getElem_toArray, List.getElem_cons_zero, List.getElem_cons_succ, Act.put, List.setIfInBounds_toArray, List.set_cons_zero, List.set_cons_succ]
            refine wpAnyH_take (i := 11) (v := ?_) rfl (by kernel_rfl) (by kernel_rfl) (by kernel_rfl) (fun _ _ _ h => h) (Or.inl ⟨by rfl, ?_⟩) (by assumption) ?_
            rotate_left
            · (intro w hSw; (try dsimp only at hSw); go_simp; try with_reducible rfl)
            try simp only [List.getElem_toArray, List.getElem_cons_zero, List.getElem_cons_succ, Act.put, List.setIfInBounds_toArray, List.set_cons_zero, List.set_cons_succ]
            refine wpAnyH_done (by kernel_rfl) ?_ _
            go_wp2_with fail
            go_ret
            exact ⟨rfl, by first | exact B.out | exact B.out.drew⟩
          · simp only [Value.slice.injEq] at eU
            obtain ⟨rfl, -, -⟩ := eU
            by_cases hch : c2 = h
            · obtain rfl : K = 0 := by omega
              obtain rfl : h = 0 := by omega
              subst hch
              have x0 := X.out.out.at0
              have x1 := X.out.out.at1
              have y0 := Y.out.out.at0
              have y1 := Y.out.out.at1
              go_wp2_with fail
              refine wp_region_held_drew (S := fun w' => w'.cell? ⟨o, 0, none⟩ = some (.int .i64 (m : Int)) ∧ w'.cell? ⟨o, 1, none⟩ = some (.slice a1 j c1) ∧ w'.cell? ⟨o2, 0, none⟩ = some (.int .i64 (m : Int)) ∧ w'.cell? ⟨o2, 1, none⟩ = some (.slice a3 C c3)) (by kernel_rfl) (by first | exact ⟨x0, x1, y0, y1⟩ | go_keep) (fun hHeld => ?_)
              refine wpAnyH_take (i := 0) (v := ?_) rfl (by kernel_rfl) (by kernel_rfl) (by kernel_rfl) (fun _ _ _ h => h) (Or.inl ⟨by rfl, ?_⟩) (by assumption) ?_
              rotate_left
              · (intro w hSw; (try dsimp only at hSw); go_simp; try with_reducible rfl)
              try simp only [List.getElem_toArray, List.getElem_cons_zero, Act.put, List.setIfInBounds_toArray, List.set_cons_zero, List.set_cons_succ]
              refine wpAnyH_take (i := 1) (v := ?_) rfl (by kernel_rfl) (by kernel_rfl) (by kernel_rfl) (fun _ _ _ h => h) (Or.inl ⟨by rfl, ?_⟩) (by assumption) ?_
              rotate_left
              · (intro w hSw; (try dsimp only at hSw); go_simp; try with_reducible rfl)
              try simp only [List.getElem_toArray, List.getElem_cons_zero, List.getElem_cons_succ, Act.put, List.setIfInBounds_toArray, List.set_cons_zero, List.set_cons_succ]
              refine wpAnyH_take (i := 2) (v := ?_) rfl (by kernel_rfl) (by kernel_rfl) (by kernel_rfl) (fun _ _ _ h => h) (Or.inl ⟨by rfl, ?_⟩) (by assumption) ?_
              rotate_left
              · (intro w hSw; (try dsimp only at hSw); go_simp; try with_reducible rfl)
              try simp only [List.getElem_toArray, List.getElem_cons_zero, List.getElem_cons_succ, Act.put, List.setIfInBounds_toArray, List.set_cons_zero, List.set_cons_succ]
              refine wpAnyH_take (i := 3) (v := ?_) rfl (by kernel_rfl) (by kernel_rfl) (by kernel_rfl) (fun _ _ _ h => h) (Or.inl ⟨by rfl, ?_⟩) (by assumption) ?_
              rotate_left
              · (intro w hSw; (try dsimp only at hSw); go_simp; try with_reducible rfl)
              try simp only [List.getElem_toArray, List.getElem_cons_zero, List.getElem_cons_succ, Act.put, List.setIfInBounds_toArray, List.set_cons_zero, List.set_cons_succ]
              refine wpAnyH_take (i := 5) (v := ?_) rfl (by kernel_rfl) (by kernel_rfl) (by kernel_rfl) (fun _ _ _ h => h) (Or.inl ⟨by rfl, ?_⟩) (by assumption) ?_
              rotate_left
              · (intro w hSw; (try dsimp only at hSw); go_simp; try with_reducible rfl)
              try simp only [List.getElem_toArray, List.getElem_cons_zero, List.getElem_cons_succ, Act.put, List.setIfInBounds_toArray, List.set_cons_zero, List.set_cons_succ]
              refine wpAnyH_take (i := 6) (v := ?_) rfl (by kernel_rfl) (by kernel_rfl) (by kernel_rfl) (fun _ _ _ h => h) (Or.inl ⟨by rfl, ?_⟩) (by assumption) ?_
              rotate_left
              · (intro w hSw; (try dsimp only at hSw); go_simp; try with_reducible rfl)
              try simp only [List.getElem_toArray, List.getElem_cons_zero, List.getElem_cons_succ, Act.put, List.setIfInBounds_toArray, List.set_cons_zero, List.set_cons_succ]
              refine wpAnyH_take (i := 7) (v := ?_) rfl (by kernel_rfl) (by kernel_rfl) (by kernel_rfl) (fun _ _ _ h => h) (Or.inl ⟨by rfl, ?_⟩) (by assumption) ?_
              rotate_left
              · (intro w hSw; (try dsimp only at hSw); go_simp; (try rw [if_pos hhI]); (try rw [if_pos hch]); try with_reducible rfl)
              try simp only [List.getElem_toArray, List.getElem_cons_zero, List.getElem_cons_succ, Act.put, List.setIfInBounds_toArray, List.set_cons_zero, List.set_cons_succ]
              refine wpAnyH_take (i := 9) (v := ?_) rfl (by kernel_rfl) (by kernel_rfl) (by kernel_rfl) (fun _ _ _ h => h) (Or.inl ⟨by rfl, ?_⟩) (by assumption) ?_
              rotate_left
              · (intro w hSw; (try dsimp only at hSw); go_simp; try with_reducible rfl)
              try simp only [List.getElem_toArray, List.getElem_cons_zero, List.getElem_cons_succ, Act.put, List.setIfInBounds_toArray, List.set_cons_zero, List.set_cons_succ]
              refine wpAnyH_ready (rs := [4]) (by kernel_rfl) (by simp) ?_
              refine AllReadyH.cons rfl (fun K hK => ?_) AllReadyH.nil
              try simp only [List.getElem_toArray]
              go_simp
              (go_at_call 12; refine (HC1.out _ _ _ (by first | exact I1.out.rd | exact I1.out.rd.below (k := w8.heap.size) ((Below.refl _ _).drew) (Nat.le_refl _)) (RdE.take (by first | exact U.out.rd | exact U.out.rd.below (k := w8.heap.size) ((Below.refl _ _).drew) (Nat.le_refl _)) _ (by omega)) (by first | exact HSW.out.next B.out | exact (show SW (World.drew _) from HSW.out.next B.out) | exact HSW.out.next (B.out.trans ((Below.refl _ _).drew)))).mono ?_; rintro e w9 ⟨a9, c9, rfl, hin9, hbd⟩; rw [HCA.out] at hin9 ⊢; have hb9 : Below w8.heap.size w8 w9 := (by first | exact hbd | exact ⟨hbd.os, hbd.tape, hbd.output, hbd.size, hbd.block⟩); clear hbd; have hz9 := hb9.size; replace X := Lib.hid (X.out.next hb9 X.out.lt); replace Y := Lib.hid (Y.out.next hb9 Y.out.lt); replace I1 := Lib.hid (I1.out.below hb9 (Nat.le_refl _)); replace U := Lib.hid (U.out.below hb9 (Nat.le_refl _)); replace IA := Lib.hid (IA.out.below hb9 (Nat.le_refl _)); replace B := Lib.hid (B.out.trans (hb9.mono B.out.size)); have ID := Lib.hid (hin9.mono (Nat.zero_le _)); clear hin9; clear hb9; have x0_9 := X.out.out.at0; have x1_9 := X.out.out.at1; have y0_9 := Y.out.out.at0; have y1_9 := Y.out.out.at1)
              refine hK.out _ _ (by first | exact ⟨x0_9, x1_9, y0_9, y1_9⟩ | exact ⟨x0, x1, y0, y1⟩ | go_keep) (fun hHeld => ?_)
              clear hK K
              try simp only [List.getElem_toArray, List.getElem_cons_zero, List.getElem_cons_succ, Act.put, List.setIfInBounds_toArray, List.set_cons_zero, List.set_cons_succ]
              refine wpAnyH_ready (rs := [8]) (by kernel_rfl) (by simp) ?_
              refine AllReadyH.cons rfl (fun K hK => ?_) AllReadyH.nil
              try simp only [List.getElem_toArray]
              go_simp
              (go_at_call 12; refine (HC2.out _ _ _ (by first | exact ID.out.rd | exact ID.out.rd.below (k := w9.heap.size) ((Below.refl _ _).drew) (Nat.le_refl _)) (by have h9 : es.drop 0 = [] := List.length_eq_zero_iff.1 (by rw [List.length_drop]; omega); rw [h9]; exact RdE.empty _ _ _) (by first | exact HSW.out.next B.out | exact (show SW (World.drew _) from HSW.out.next B.out) | exact HSW.out.next (B.out.trans ((Below.refl _ _).drew)))).mono ?_; rintro e w10 ⟨a10, c10, rfl, hin10, hbd⟩; rw [HCL.out] at hin10 ⊢; have hb10 : Below w9.heap.size w9 w10 := (by first | exact hbd | exact ⟨hbd.os, hbd.tape, hbd.output, hbd.size, hbd.block⟩); clear hbd; have hz10 := hb10.size; replace X := Lib.hid (X.out.next hb10 X.out.lt); replace Y := Lib.hid (Y.out.next hb10 Y.out.lt); replace I1 := Lib.hid (I1.out.below hb10 (Nat.le_refl _)); replace U := Lib.hid (U.out.below hb10 (Nat.le_refl _)); replace IA := Lib.hid (IA.out.below hb10 (Nat.le_refl _)); replace ID := Lib.hid (ID.out.below hb10 (Nat.le_refl _)); replace B := Lib.hid (B.out.trans (hb10.mono B.out.size)); have IE := Lib.hid (hin10.mono (Nat.zero_le _)); clear hin10; clear hb10; have x0_10 := X.out.out.at0; have x1_10 := X.out.out.at1; have y0_10 := Y.out.out.at0; have y1_10 := Y.out.out.at1)
              refine hK.out _ _ (by first | exact ⟨x0_10, x1_10, y0_10, y1_10⟩ | exact ⟨x0_9, x1_9, y0_9, y1_9⟩ | exact ⟨x0, x1, y0, y1⟩ | go_keep) (fun hHeld => ?_)
              clear hK K
              try simp only [List.getElem_toArray, List.getElem_cons_zero, List.getElem_cons_succ, Act.put, List.setIfInBounds_toArray, List.set_cons_zero, List.set_cons_succ]
              refine wpAnyH_ready (rs := [10]) (by kernel_rfl) (by simp) ?_
              refine AllReadyH.cons rfl (fun K hK => ?_) AllReadyH.nil
              try simp only [List.getElem_toArray]
              go_simp
              (go_at_call 13; refine (lawsEqualClass _ _ _ _ _ _ _ _ (by first | exact IE.out.rd | exact IE.out.rd.below (k := w10.heap.size) ((Below.refl _ _).drew) (Nat.le_refl _)) (by first | exact IA.out.rd | exact IA.out.rd.below (k := w10.heap.size) ((Below.refl _ _).drew) (Nat.le_refl _))).mono ?_; rintro e w11 ⟨rfl, hbd⟩; have hb11 : Below w10.heap.size w10 w11 := (by first | exact hbd | exact ⟨hbd.os, hbd.tape, hbd.output, hbd.size, hbd.block⟩); clear hbd; have hz11 := hb11.size; replace X := Lib.hid (X.out.next hb11 X.out.lt); replace Y := Lib.hid (Y.out.next hb11 Y.out.lt); replace I1 := Lib.hid (I1.out.below hb11 (Nat.le_refl _)); replace U := Lib.hid (U.out.below hb11 (Nat.le_refl _)); replace IA := Lib.hid (IA.out.below hb11 (Nat.le_refl _)); replace ID := Lib.hid (ID.out.below hb11 (Nat.le_refl _)); replace IE := Lib.hid (IE.out.below hb11 (Nat.le_refl _)); replace B := Lib.hid (B.out.trans (hb11.mono B.out.size)); clear hb11; have x0_11 := X.out.out.at0; have x1_11 := X.out.out.at1; have y0_11 := Y.out.out.at0; have y1_11 := Y.out.out.at1)
              refine hK.out _ _ (by first | exact ⟨x0_11, x1_11, y0_11, y1_11⟩ | exact ⟨x0_10, x1_10, y0_10, y1_10⟩ | exact ⟨x0_9, x1_9, y0_9, y1_9⟩ | exact ⟨x0, x1, y0, y1⟩ | go_keep) (fun hHeld => ?_)
              clear hK K
              try simp only [List.getElem_toArray, List.getElem_cons_zero, List.getElem_cons_succ, Act.put, List.setIfInBounds_toArray, List.set_cons_zero, List.set_cons_succ]
              refine wpAnyH_take (i := 11) (v := ?_) rfl (by kernel_rfl) (by kernel_rfl) (by kernel_rfl) (fun _ _ _ h => h) (Or.inl ⟨by rfl, ?_⟩) (by assumption) ?_
              rotate_left
              · (intro w hSw; (try dsimp only at hSw); go_simp; try with_reducible rfl)
              try simp only [List.getElem_toArray, List.getElem_cons_zero, List.getElem_cons_succ, Act.put, List.setIfInBounds_toArray, List.set_cons_zero, List.set_cons_succ]
              refine wpAnyH_done (by kernel_rfl) ?_ _
              go_wp2_with fail
              go_ret
              exact ⟨rfl, by first | exact B.out | exact B.out.drew⟩
            · skip
              have x0 := X.out.out.at0
              have x1 := X.out.out.at1
              have y0 := Y.out.out.at0
              have y1 := Y.out.out.at1
              go_wp2_with fail
              refine wp_region_held_drew (S := fun w' => w'.cell? ⟨o, 0, none⟩ = some (.int .i64 (m : Int)) ∧ w'.cell? ⟨o, 1, none⟩ = some (.slice a1 j c1) ∧ w'.cell? ⟨o2, 0, none⟩ = some (.int .i64 (m : Int)) ∧ w'.cell? ⟨o2, 1, none⟩ = some (.slice a3 C c3)) (by kernel_rfl) (by first | exact ⟨x0, x1, y0, y1⟩ | go_keep) (fun hHeld => ?_)
              refine wpAnyH_take (i := 0) (v := ?_) rfl (by kernel_rfl) (by kernel_rfl) (by kernel_rfl) (fun _ _ _ h => h) (Or.inl ⟨by rfl, ?_⟩) (by assumption) ?_
              rotate_left
              · (intro w hSw; (try dsimp only at hSw); go_simp; try with_reducible rfl)
              try simp only [List.getElem_toArray, List.getElem_cons_zero, Act.put, List.setIfInBounds_toArray, List.set_cons_zero, List.set_cons_succ]
              refine wpAnyH_take (i := 1) (v := ?_) rfl (by kernel_rfl) (by kernel_rfl) (by kernel_rfl) (fun _ _ _ h => h) (Or.inl ⟨by rfl, ?_⟩) (by assumption) ?_
              rotate_left
              · (intro w hSw; (try dsimp only at hSw); go_simp; try with_reducible rfl)
              try simp only [List.getElem_toArray, List.getElem_cons_zero, List.getElem_cons_succ, Act.put, List.setIfInBounds_toArray, List.set_cons_zero, List.set_cons_succ]
              refine wpAnyH_take (i := 2) (v := ?_) rfl (by kernel_rfl) (by kernel_rfl) (by kernel_rfl) (fun _ _ _ h => h) (Or.inl ⟨by rfl, ?_⟩) (by assumption) ?_
              rotate_left
              · (intro w hSw; (try dsimp only at hSw); go_simp; try with_reducible rfl)
              try simp only [List.getElem_toArray, List.getElem_cons_zero, List.getElem_cons_succ, Act.put, List.setIfInBounds_toArray, List.set_cons_zero, List.set_cons_succ]
              refine wpAnyH_take (i := 3) (v := ?_) rfl (by kernel_rfl) (by kernel_rfl) (by kernel_rfl) (fun _ _ _ h => h) (Or.inl ⟨by rfl, ?_⟩) (by assumption) ?_
              rotate_left
              · (intro w hSw; (try dsimp only at hSw); go_simp; try with_reducible rfl)
              try simp only [List.getElem_toArray, List.getElem_cons_zero, List.getElem_cons_succ, Act.put, List.setIfInBounds_toArray, List.set_cons_zero, List.set_cons_succ]
              refine wpAnyH_take (i := 5) (v := ?_) rfl (by kernel_rfl) (by kernel_rfl) (by kernel_rfl) (fun _ _ _ h => h) (Or.inl ⟨by rfl, ?_⟩) (by assumption) ?_
              rotate_left
              · (intro w hSw; (try dsimp only at hSw); go_simp; try with_reducible rfl)
              try simp only [List.getElem_toArray, List.getElem_cons_zero, List.getElem_cons_succ, Act.put, List.setIfInBounds_toArray, List.set_cons_zero, List.set_cons_succ]
              refine wpAnyH_take (i := 6) (v := ?_) rfl (by kernel_rfl) (by kernel_rfl) (by kernel_rfl) (fun _ _ _ h => h) (Or.inl ⟨by rfl, ?_⟩) (by assumption) ?_
              rotate_left
              · (intro w hSw; (try dsimp only at hSw); go_simp; try with_reducible rfl)
              try simp only [List.getElem_toArray, List.getElem_cons_zero, List.getElem_cons_succ, Act.put, List.setIfInBounds_toArray, List.set_cons_zero, List.set_cons_succ]
              refine wpAnyH_take (i := 7) (v := ?_) rfl (by kernel_rfl) (by kernel_rfl) (by kernel_rfl) (fun _ _ _ h => h) (Or.inl ⟨by rfl, ?_⟩) (by assumption) ?_
              rotate_left
              · (intro w hSw; (try dsimp only at hSw); go_simp; (try rw [if_pos hhI]); (try rw [if_neg hch]); try with_reducible rfl)
              try simp only [List.getElem_toArray, List.getElem_cons_zero, List.getElem_cons_succ, Act.put, List.setIfInBounds_toArray, List.set_cons_zero, List.set_cons_succ]
              refine wpAnyH_take (i := 9) (v := ?_) rfl (by kernel_rfl) (by kernel_rfl) (by kernel_rfl) (fun _ _ _ h => h) (Or.inl ⟨by rfl, ?_⟩) (by assumption) ?_
              rotate_left
              · (intro w hSw; (try dsimp only at hSw); go_simp; try with_reducible rfl)
              try simp only [List.getElem_toArray, List.getElem_cons_zero, List.getElem_cons_succ, Act.put, List.setIfInBounds_toArray, List.set_cons_zero, List.set_cons_succ]
              refine wpAnyH_ready (rs := [4]) (by kernel_rfl) (by simp) ?_
              refine AllReadyH.cons rfl (fun K hK => ?_) AllReadyH.nil
              try simp only [List.getElem_toArray]
              go_simp
              (go_at_call 12; refine (HC1.out _ _ _ (by first | exact I1.out.rd | exact I1.out.rd.below (k := w8.heap.size) ((Below.refl _ _).drew) (Nat.le_refl _)) (RdE.take (by first | exact U.out.rd | exact U.out.rd.below (k := w8.heap.size) ((Below.refl _ _).drew) (Nat.le_refl _)) _ (by omega)) (by first | exact HSW.out.next B.out | exact (show SW (World.drew _) from HSW.out.next B.out) | exact HSW.out.next (B.out.trans ((Below.refl _ _).drew)))).mono ?_; rintro e w9 ⟨a9, c9, rfl, hin9, hbd⟩; rw [HCA.out] at hin9 ⊢; have hb9 : Below w8.heap.size w8 w9 := (by first | exact hbd | exact ⟨hbd.os, hbd.tape, hbd.output, hbd.size, hbd.block⟩); clear hbd; have hz9 := hb9.size; replace X := Lib.hid (X.out.next hb9 X.out.lt); replace Y := Lib.hid (Y.out.next hb9 Y.out.lt); replace I1 := Lib.hid (I1.out.below hb9 (Nat.le_refl _)); replace U := Lib.hid (U.out.below hb9 (Nat.le_refl _)); replace IA := Lib.hid (IA.out.below hb9 (Nat.le_refl _)); replace B := Lib.hid (B.out.trans (hb9.mono B.out.size)); have ID := Lib.hid (hin9.mono (Nat.zero_le _)); clear hin9; clear hb9; have x0_9 := X.out.out.at0; have x1_9 := X.out.out.at1; have y0_9 := Y.out.out.at0; have y1_9 := Y.out.out.at1)
              refine hK.out _ _ (by first | exact ⟨x0_9, x1_9, y0_9, y1_9⟩ | exact ⟨x0, x1, y0, y1⟩ | go_keep) (fun hHeld => ?_)
              clear hK K
              try simp only [List.getElem_toArray, List.getElem_cons_zero, List.getElem_cons_succ, Act.put, List.setIfInBounds_toArray, List.set_cons_zero, List.set_cons_succ]
              refine wpAnyH_ready (rs := [8]) (by kernel_rfl) (by simp) ?_
              refine AllReadyH.cons rfl (fun K hK => ?_) AllReadyH.nil
              try simp only [List.getElem_toArray]
              go_simp
              (go_at_call 12; refine (HC2.out _ _ _ (by first | exact ID.out.rd | exact ID.out.rd.below (k := w9.heap.size) ((Below.refl _ _).drew) (Nat.le_refl _)) (by have h9 := RdE.drop (by first | exact U.out.rd | exact U.out.rd.below (k := w9.heap.size) ((Below.refl _ _).drew) (Nat.le_refl _)) h (by omega) (c2 - h); simp only [Nat.zero_add] at h9; exact h9) (by first | exact HSW.out.next B.out | exact (show SW (World.drew _) from HSW.out.next B.out) | exact HSW.out.next (B.out.trans ((Below.refl _ _).drew)))).mono ?_; rintro e w10 ⟨a10, c10, rfl, hin10, hbd⟩; rw [HCL.out] at hin10 ⊢; have hb10 : Below w9.heap.size w9 w10 := (by first | exact hbd | exact ⟨hbd.os, hbd.tape, hbd.output, hbd.size, hbd.block⟩); clear hbd; have hz10 := hb10.size; replace X := Lib.hid (X.out.next hb10 X.out.lt); replace Y := Lib.hid (Y.out.next hb10 Y.out.lt); replace I1 := Lib.hid (I1.out.below hb10 (Nat.le_refl _)); replace U := Lib.hid (U.out.below hb10 (Nat.le_refl _)); replace IA := Lib.hid (IA.out.below hb10 (Nat.le_refl _)); replace ID := Lib.hid (ID.out.below hb10 (Nat.le_refl _)); replace B := Lib.hid (B.out.trans (hb10.mono B.out.size)); have IE := Lib.hid (hin10.mono (Nat.zero_le _)); clear hin10; clear hb10; have x0_10 := X.out.out.at0; have x1_10 := X.out.out.at1; have y0_10 := Y.out.out.at0; have y1_10 := Y.out.out.at1)
              refine hK.out _ _ (by first | exact ⟨x0_10, x1_10, y0_10, y1_10⟩ | exact ⟨x0_9, x1_9, y0_9, y1_9⟩ | exact ⟨x0, x1, y0, y1⟩ | go_keep) (fun hHeld => ?_)
              clear hK K
              try simp only [List.getElem_toArray, List.getElem_cons_zero, List.getElem_cons_succ, Act.put, List.setIfInBounds_toArray, List.set_cons_zero, List.set_cons_succ]
              refine wpAnyH_ready (rs := [10]) (by kernel_rfl) (by simp) ?_
              refine AllReadyH.cons rfl (fun K hK => ?_) AllReadyH.nil
              try simp only [List.getElem_toArray]
              go_simp
              (go_at_call 13; refine (lawsEqualClass _ _ _ _ _ _ _ _ (by first | exact IE.out.rd | exact IE.out.rd.below (k := w10.heap.size) ((Below.refl _ _).drew) (Nat.le_refl _)) (by first | exact IA.out.rd | exact IA.out.rd.below (k := w10.heap.size) ((Below.refl _ _).drew) (Nat.le_refl _))).mono ?_; rintro e w11 ⟨rfl, hbd⟩; have hb11 : Below w10.heap.size w10 w11 := (by first | exact hbd | exact ⟨hbd.os, hbd.tape, hbd.output, hbd.size, hbd.block⟩); clear hbd; have hz11 := hb11.size; replace X := Lib.hid (X.out.next hb11 X.out.lt); replace Y := Lib.hid (Y.out.next hb11 Y.out.lt); replace I1 := Lib.hid (I1.out.below hb11 (Nat.le_refl _)); replace U := Lib.hid (U.out.below hb11 (Nat.le_refl _)); replace IA := Lib.hid (IA.out.below hb11 (Nat.le_refl _)); replace ID := Lib.hid (ID.out.below hb11 (Nat.le_refl _)); replace IE := Lib.hid (IE.out.below hb11 (Nat.le_refl _)); replace B := Lib.hid (B.out.trans (hb11.mono B.out.size)); clear hb11; have x0_11 := X.out.out.at0; have x1_11 := X.out.out.at1; have y0_11 := Y.out.out.at0; have y1_11 := Y.out.out.at1)
              refine hK.out _ _ (by first | exact ⟨x0_11, x1_11, y0_11, y1_11⟩ | exact ⟨x0_10, x1_10, y0_10, y1_10⟩ | exact ⟨x0_9, x1_9, y0_9, y1_9⟩ | exact ⟨x0, x1, y0, y1⟩ | go_keep) (fun hHeld => ?_)
              clear hK K
              try simp only [List.getElem_toArray, List.getElem_cons_zero, List.getElem_cons_succ, Act.put, List.setIfInBounds_toArray, List.set_cons_zero, List.set_cons_succ]
              refine wpAnyH_take (i := 11) (v := ?_) rfl (by kernel_rfl) (by kernel_rfl) (by kernel_rfl) (fun _ _ _ h => h) (Or.inl ⟨by rfl, ?_⟩) (by assumption) ?_
              rotate_left
              · (intro w hSw; (try dsimp only at hSw); go_simp; try with_reducible rfl)
              try simp only [List.getElem_toArray, List.getElem_cons_zero, List.getElem_cons_succ, Act.put, List.setIfInBounds_toArray, List.set_cons_zero, List.set_cons_succ]
              refine wpAnyH_done (by kernel_rfl) ?_ _
              go_wp2_with fail
              go_ret
              exact ⟨rfl, by first | exact B.out | exact B.out.drew⟩
    · rw [Bool.not_eq_true] at hvs
      have HI := Lib.hid (fun v u w h hu hs => implConsistentOf N v zs u es w h hu hs)
      have HS := Lib.hid (fun v u w h hu => specConsistentOf N 0 v zs u es w h hu)
      have HV := Lib.hid (fun v u w h hu => implValidSample N v zs u es w h hu)
      rw [show conN N zs es = 0 by rw [conN, if_neg (by rw [hvs]; simp)], show conL N zs es = [] by rw [conL, if_neg (by rw [hvs]; simp)]] at HI HS
      rw [hvs] at HV
      obtain ⟨RL, hRL⟩ : ∃ RL : List Int, RL = [] := ⟨_, rfl⟩
      rw [← hRL] at HI HS
      clear hRL hvs
      refine (HI.out _ _ _ I1.out.rd U.out.rd (by first | exact HSW.out.next B.out | exact (show SW (World.drew _) from HSW.out.next B.out) | exact HSW.out.next (B.out.trans ((Below.refl _ _).drew)))).mono ?_
      rintro e w3 ⟨a3, c3, rfl, hin3, hb3⟩
      rw [show RL.length = RL.length from rfl] at hin3 ⊢
      have hz3 := hb3.size
      replace X := Lib.hid (X.out.next hb3 X.out.lt)
      replace I1 := Lib.hid (I1.out.below hb3 (Nat.le_refl _))
      replace U := Lib.hid (U.out.below hb3 (Nat.le_refl _))
      replace B := Lib.hid (B.out.trans (hb3.mono B.out.size))
      have IA := Lib.hid (hin3.mono (Nat.zero_le _))
      clear hin3 hb3
      have x0 := X.out.out.at0
      have x1 := X.out.out.at1
      have Y := Lib.hid (Bx.new 0 (.slice a3 RL.length c3) w3)
      replace X := Lib.hid (X.out.alloc (Obj.cells #[.int .i64 0, .slice a3 RL.length c3] 25))
      replace I1 := Lib.hid (I1.out.alloc (Obj.cells #[.int .i64 0, .slice a3 RL.length c3] 25))
      replace U := Lib.hid (U.out.alloc (Obj.cells #[.int .i64 0, .slice a3 RL.length c3] 25))
      replace IA := Lib.hid (IA.out.alloc (Obj.cells #[.int .i64 0, .slice a3 RL.length c3] 25))
      replace B := Lib.hid (B.out.alloc B.out.size (Obj.cells #[.int .i64 0, .slice a3 RL.length c3] 25))
      have HZ := Lib.hid (show (w3.alloc (Obj.cells #[.int .i64 0, .slice a3 RL.length c3] 25)).heap.size = w3.heap.size + 1 by simp)
      go_wp2_with fail
      generalize (w3.alloc (Obj.cells #[.int .i64 0, .slice a3 RL.length c3] 25)) = w4 at *
      have hz4 := HZ.out
      clear HZ
      generalize ho2 : w3.heap.size = o2 at *
      clear x0 x1
      have x0 := X.out.out.at0
      have x1 := X.out.out.at1
      have y0 := Y.out.out.at0
      have y1 := Y.out.out.at1
      go_wp2_with fail
      refine wp_region_held_drew (S := fun w' => w'.cell? ⟨o, 0, none⟩ = some (.int .i64 N) ∧ w'.cell? ⟨o, 1, none⟩ = some (.slice a1 L c1) ∧ w'.cell? ⟨o2, 0, none⟩ = some (.int .i64 0) ∧ w'.cell? ⟨o2, 1, none⟩ = some (.slice a3 RL.length c3)) (by kernel_rfl) (by first | exact ⟨x0, x1, y0, y1⟩ | go_keep) (fun hHeld => ?_)
      refine wpAnyH_take (i := 0) (v := ?_) rfl (by kernel_rfl) (by kernel_rfl) (by kernel_rfl) (fun _ _ _ h => h) (Or.inl ⟨by rfl, ?_⟩) (by assumption) ?_
      rotate_left
      · (intro w hSw; (try dsimp only at hSw); go_simp; try with_reducible rfl)
      try simp only [List.getElem_toArray, List.getElem_cons_zero, Act.put, List.setIfInBounds_toArray, List.set_cons_zero, List.set_cons_succ]
      refine wpAnyH_take (i := 1) (v := ?_) rfl (by kernel_rfl) (by kernel_rfl) (by kernel_rfl) (fun _ _ _ h => h) (Or.inl ⟨by rfl, ?_⟩) (by assumption) ?_
      rotate_left
      · (intro w hSw; (try dsimp only at hSw); go_simp; try with_reducible rfl)
      try simp only [List.getElem_toArray, List.getElem_cons_zero, List.getElem_cons_succ, Act.put, List.setIfInBounds_toArray, List.set_cons_zero, List.set_cons_succ]
      refine wpAnyH_take (i := 2) (v := ?_) rfl (by kernel_rfl) (by kernel_rfl) (by kernel_rfl) (fun _ _ _ h => h) (Or.inl ⟨by rfl, ?_⟩) (by assumption) ?_
      rotate_left
      · (intro w hSw; (try dsimp only at hSw); go_simp; try with_reducible rfl)
      try simp only [List.getElem_toArray, List.getElem_cons_zero, List.getElem_cons_succ, Act.put, List.setIfInBounds_toArray, List.set_cons_zero, List.set_cons_succ]
      refine wpAnyH_ready (rs := [3]) (by kernel_rfl) (by simp) ?_
      refine AllReadyH.cons rfl (fun K hK => ?_) AllReadyH.nil
      try simp only [List.getElem_toArray]
      go_simp
      (go_at_call 14; refine (HS.out _ _ _ (by first | exact I1.out | exact I1.out.below (k := w4.heap.size) ((Below.refl _ _).drew) (Nat.le_refl _)) (by first | exact U.out.rd | exact U.out.rd.below (k := w4.heap.size) ((Below.refl _ _).drew) (Nat.le_refl _))).mono ?_; rintro e w5 ⟨a5, c5, rfl, hin5, hbd⟩; have hb5 : Below w4.heap.size w4 w5 := (by first | exact hbd | exact ⟨hbd.os, hbd.tape, hbd.output, hbd.size, hbd.block⟩); clear hbd; have hz5 := hb5.size; replace X := Lib.hid (X.out.next hb5 X.out.lt); replace Y := Lib.hid (Y.out.next hb5 Y.out.lt); replace I1 := Lib.hid (I1.out.below hb5 (Nat.le_refl _)); replace U := Lib.hid (U.out.below hb5 (Nat.le_refl _)); replace IA := Lib.hid (IA.out.below hb5 (Nat.le_refl _)); replace B := Lib.hid (B.out.trans (hb5.mono B.out.size)); have IS := Lib.hid (hin5.mono (Nat.zero_le _)); clear hin5; clear hb5; have x0_5 := X.out.out.at0; have x1_5 := X.out.out.at1; have y0_5 := Y.out.out.at0; have y1_5 := Y.out.out.at1)
      refine hK.out _ _ (by first | exact ⟨x0_5, x1_5, y0_5, y1_5⟩ | exact ⟨x0, x1, y0, y1⟩ | go_keep) (fun hHeld => ?_)
      clear hK K
      try simp only [List.getElem_toArray, List.getElem_cons_zero, List.getElem_cons_succ, Act.put, List.setIfInBounds_toArray, List.set_cons_zero, List.set_cons_succ]
      refine wpAnyH_ready (rs := [4]) (by kernel_rfl) (by simp) ?_
      refine AllReadyH.cons rfl (fun K hK => ?_) AllReadyH.nil
      try simp only [List.getElem_toArray]
      go_simp
      (go_at_call 13; refine (lawsEqualClass _ _ _ _ _ _ _ _ (by first | exact IA.out.rd | exact IA.out.rd.below (k := w5.heap.size) ((Below.refl _ _).drew) (Nat.le_refl _)) (by first | exact IS.out.rd | exact IS.out.rd.below (k := w5.heap.size) ((Below.refl _ _).drew) (Nat.le_refl _))).mono ?_; rintro e w6 ⟨rfl, hbd⟩; have hb6 : Below w5.heap.size w5 w6 := (by first | exact hbd | exact ⟨hbd.os, hbd.tape, hbd.output, hbd.size, hbd.block⟩); clear hbd; have hz6 := hb6.size; replace X := Lib.hid (X.out.next hb6 X.out.lt); replace Y := Lib.hid (Y.out.next hb6 Y.out.lt); replace I1 := Lib.hid (I1.out.below hb6 (Nat.le_refl _)); replace U := Lib.hid (U.out.below hb6 (Nat.le_refl _)); replace IA := Lib.hid (IA.out.below hb6 (Nat.le_refl _)); replace IS := Lib.hid (IS.out.below hb6 (Nat.le_refl _)); replace B := Lib.hid (B.out.trans (hb6.mono B.out.size)); clear hb6; have x0_6 := X.out.out.at0; have x1_6 := X.out.out.at1; have y0_6 := Y.out.out.at0; have y1_6 := Y.out.out.at1)
      refine hK.out _ _ (by first | exact ⟨x0_6, x1_6, y0_6, y1_6⟩ | exact ⟨x0_5, x1_5, y0_5, y1_5⟩ | exact ⟨x0, x1, y0, y1⟩ | go_keep) (fun hHeld => ?_)
      clear hK K
      try simp only [List.getElem_toArray, List.getElem_cons_zero, List.getElem_cons_succ, Act.put, List.setIfInBounds_toArray, List.set_cons_zero, List.set_cons_succ]
      refine wpAnyH_take (i := 5) (v := ?_) rfl (by kernel_rfl) (by kernel_rfl) (by kernel_rfl) (fun _ _ _ h => h) (Or.inl ⟨by rfl, ?_⟩) (by assumption) ?_
      rotate_left
      · (intro w hSw; (try dsimp only at hSw); go_simp; try with_reducible rfl)
      try simp only [List.getElem_toArray, List.getElem_cons_zero, List.getElem_cons_succ, Act.put, List.setIfInBounds_toArray, List.set_cons_zero, List.set_cons_succ]
      refine wpAnyH_take (i := 6) (v := ?_) rfl (by kernel_rfl) (by kernel_rfl) (by kernel_rfl) (fun _ _ _ h => h) (Or.inl ⟨by rfl, ?_⟩) (by assumption) ?_
      rotate_left
      · (intro w hSw; (try dsimp only at hSw); go_simp; try with_reducible rfl)
      try simp only [List.getElem_toArray, List.getElem_cons_zero, List.getElem_cons_succ, Act.put, List.setIfInBounds_toArray, List.set_cons_zero, List.set_cons_succ]
      refine wpAnyH_take (i := 7) (v := ?_) rfl (by kernel_rfl) (by kernel_rfl) (by kernel_rfl) (fun _ _ _ h => h) (Or.inl ⟨by rfl, ?_⟩) (by assumption) ?_
      rotate_left
      · (intro w hSw; (try dsimp only at hSw); go_simp; try with_reducible rfl)
      try simp only [List.getElem_toArray, List.getElem_cons_zero, List.getElem_cons_succ, Act.put, List.setIfInBounds_toArray, List.set_cons_zero, List.set_cons_succ]
      refine wpAnyH_take (i := 8) (v := ?_) rfl (by kernel_rfl) (by kernel_rfl) (by kernel_rfl) (fun _ _ _ h => h) (Or.inl ⟨by rfl, ?_⟩) (by assumption) ?_
      rotate_left
      · (intro w hSw; (try dsimp only at hSw); go_simp; try with_reducible rfl)
      try simp only [List.getElem_toArray, List.getElem_cons_zero, List.getElem_cons_succ, Act.put, List.setIfInBounds_toArray, List.set_cons_zero, List.set_cons_succ]
      refine wpAnyH_ready (rs := [9]) (by kernel_rfl) (by simp) ?_
      refine AllReadyH.cons rfl (fun K hK => ?_) AllReadyH.nil
      try simp only [List.getElem_toArray]
      go_simp
      (go_at_call 15; refine (HV.out _ _ _ (by first | exact I1.out.rd | exact I1.out.rd.below (k := w6.heap.size) ((Below.refl _ _).drew) (Nat.le_refl _)) (by first | exact U.out.rd | exact U.out.rd.below (k := w6.heap.size) ((Below.refl _ _).drew) (Nat.le_refl _))).mono ?_; rintro e w7 ⟨rfl, hbd⟩; have hb7 : Below w6.heap.size w6 w7 := (by first | exact hbd | exact ⟨hbd.os, hbd.tape, hbd.output, hbd.size, hbd.block⟩); clear hbd; have hz7 := hb7.size; replace X := Lib.hid (X.out.next hb7 X.out.lt); replace Y := Lib.hid (Y.out.next hb7 Y.out.lt); replace I1 := Lib.hid (I1.out.below hb7 (Nat.le_refl _)); replace U := Lib.hid (U.out.below hb7 (Nat.le_refl _)); replace IA := Lib.hid (IA.out.below hb7 (Nat.le_refl _)); replace IS := Lib.hid (IS.out.below hb7 (Nat.le_refl _)); replace B := Lib.hid (B.out.trans (hb7.mono B.out.size)); clear hb7; have x0_7 := X.out.out.at0; have x1_7 := X.out.out.at1; have y0_7 := Y.out.out.at0; have y1_7 := Y.out.out.at1)
      refine hK.out _ _ (by first | exact ⟨x0_7, x1_7, y0_7, y1_7⟩ | exact ⟨x0_6, x1_6, y0_6, y1_6⟩ | exact ⟨x0_5, x1_5, y0_5, y1_5⟩ | exact ⟨x0, x1, y0, y1⟩ | go_keep) (fun hHeld => ?_)
      clear hK K
      try simp only [List.getElem_toArray, List.getElem_cons_zero, List.getElem_cons_succ, Act.put, List.setIfInBounds_toArray, List.set_cons_zero, List.set_cons_succ]
      refine wpAnyH_take (i := 10) (v := ?_) rfl (by kernel_rfl) (by kernel_rfl) (by kernel_rfl) (fun _ _ _ h => h) (Or.inl ⟨by rfl, ?_⟩) (by assumption) ?_
      rotate_left
      · (intro w hSw; (try dsimp only at hSw); go_simp; try with_reducible rfl)
      try simp only [List.getElem_toArray, List.getElem_cons_zero, List.getElem_cons_succ, Act.put, List.setIfInBounds_toArray, List.set_cons_zero, List.set_cons_succ]
      refine wpAnyH_take (i := 11) (v := ?_) rfl (by kernel_rfl) (by kernel_rfl) (by kernel_rfl) (fun _ _ _ h => h) (Or.inl ⟨by rfl, ?_⟩) (by assumption) ?_
      rotate_left
      · (intro w hSw; (try dsimp only at hSw); go_simp; try with_reducible rfl)
      try simp only [List.getElem_toArray, List.getElem_cons_zero, List.getElem_cons_succ, Act.put, List.setIfInBounds_toArray, List.set_cons_zero, List.set_cons_succ]
      refine wpAnyH_done (by kernel_rfl) ?_ _
      have x0 := X.out.out.at0
      have x1 := X.out.out.at1
      have y0 := Y.out.out.at0
      have y1 := Y.out.out.at1
      go_wp2_with fail
      refine wp_region_held_drew (S := fun w' => w'.cell? ⟨o, 0, none⟩ = some (.int .i64 N) ∧ w'.cell? ⟨o, 1, none⟩ = some (.slice a1 L c1) ∧ w'.cell? ⟨o2, 0, none⟩ = some (.int .i64 0) ∧ w'.cell? ⟨o2, 1, none⟩ = some (.slice a3 RL.length c3)) (by kernel_rfl) (by first | exact ⟨x0, x1, y0, y1⟩ | go_keep) (fun hHeld => ?_)
      refine wpAnyH_take (i := 0) (v := ?_) rfl (by kernel_rfl) (by kernel_rfl) (by kernel_rfl) (fun _ _ _ h => h) (Or.inl ⟨by rfl, ?_⟩) (by assumption) ?_
      rotate_left
      · (intro w hSw; (try dsimp only at hSw); go_simp; try with_reducible rfl)
      try simp only [List.getElem_toArray, List.getElem_cons_zero, Act.put, List.setIfInBounds_toArray, List.set_cons_zero, List.set_cons_succ]
      refine wpAnyH_take (i := 1) (v := ?_) rfl (by kernel_rfl) (by kernel_rfl) (by kernel_rfl) (fun _ _ _ h => h) (Or.inl ⟨by rfl, ?_⟩) (by assumption) ?_
      rotate_left
      · (intro w hSw; (try dsimp only at hSw); go_simp; try with_reducible rfl)
      try simp only [List.getElem_toArray, List.getElem_cons_zero, List.getElem_cons_succ, Act.put, List.setIfInBounds_toArray, List.set_cons_zero, List.set_cons_succ]
      refine wpAnyH_take (i := 2) (v := ?_) rfl (by kernel_rfl) (by kernel_rfl) (by kernel_rfl) (fun _ _ _ h => h) (Or.inl ⟨by rfl, ?_⟩) (by assumption) ?_
      rotate_left
      · (intro w hSw; (try dsimp only at hSw); go_simp; try with_reducible rfl)
      try simp only [List.getElem_toArray, List.getElem_cons_zero, List.getElem_cons_succ, Act.put, List.setIfInBounds_toArray, List.set_cons_zero, List.set_cons_succ]
      refine wpAnyH_ready (rs := [3]) (by kernel_rfl) (by simp) ?_
      refine AllReadyH.cons rfl (fun K hK => ?_) AllReadyH.nil
      try simp only [List.getElem_toArray]
      go_simp
      (go_at_call 14; refine (HS.out _ _ _ (by first | exact I1.out | exact I1.out.below (k := w7.heap.size) ((Below.refl _ _).drew) (Nat.le_refl _)) (by first | exact U.out.rd | exact U.out.rd.below (k := w7.heap.size) ((Below.refl _ _).drew) (Nat.le_refl _))).mono ?_; rintro e w8 ⟨a8, c8, rfl, hin8, hbd⟩; have hb8 : Below w7.heap.size w7 w8 := (by first | exact hbd | exact ⟨hbd.os, hbd.tape, hbd.output, hbd.size, hbd.block⟩); clear hbd; have hz8 := hb8.size; replace X := Lib.hid (X.out.next hb8 X.out.lt); replace Y := Lib.hid (Y.out.next hb8 Y.out.lt); replace I1 := Lib.hid (I1.out.below hb8 (Nat.le_refl _)); replace U := Lib.hid (U.out.below hb8 (Nat.le_refl _)); replace IA := Lib.hid (IA.out.below hb8 (Nat.le_refl _)); replace IS := Lib.hid (IS.out.below hb8 (Nat.le_refl _)); replace B := Lib.hid (B.out.trans (hb8.mono B.out.size)); have IS2 := Lib.hid (hin8.mono (Nat.zero_le _)); clear hin8; clear hb8; have x0_8 := X.out.out.at0; have x1_8 := X.out.out.at1; have y0_8 := Y.out.out.at0; have y1_8 := Y.out.out.at1)
      refine hK.out _ _ (by first | exact ⟨x0_8, x1_8, y0_8, y1_8⟩ | exact ⟨x0, x1, y0, y1⟩ | go_keep) (fun hHeld => ?_)
      clear hK K
      try simp only [List.getElem_toArray, List.getElem_cons_zero, List.getElem_cons_succ, Act.put, List.setIfInBounds_toArray, List.set_cons_zero, List.set_cons_succ]
      refine wpAnyH_ready (rs := [4]) (by kernel_rfl) (by simp) ?_
      refine AllReadyH.cons rfl (fun K hK => ?_) AllReadyH.nil
      try simp only [List.getElem_toArray]
      go_simp
      (go_at_call 13; refine (lawsEqualClass _ _ _ _ _ _ _ _ (by first | exact IA.out.rd | exact IA.out.rd.below (k := w8.heap.size) ((Below.refl _ _).drew) (Nat.le_refl _)) (by first | exact IS2.out.rd | exact IS2.out.rd.below (k := w8.heap.size) ((Below.refl _ _).drew) (Nat.le_refl _))).mono ?_; rintro e w9 ⟨rfl, hbd⟩; have hb9 : Below w8.heap.size w8 w9 := (by first | exact hbd | exact ⟨hbd.os, hbd.tape, hbd.output, hbd.size, hbd.block⟩); clear hbd; have hz9 := hb9.size; replace X := Lib.hid (X.out.next hb9 X.out.lt); replace Y := Lib.hid (Y.out.next hb9 Y.out.lt); replace I1 := Lib.hid (I1.out.below hb9 (Nat.le_refl _)); replace U := Lib.hid (U.out.below hb9 (Nat.le_refl _)); replace IA := Lib.hid (IA.out.below hb9 (Nat.le_refl _)); replace IS := Lib.hid (IS.out.below hb9 (Nat.le_refl _)); replace IS2 := Lib.hid (IS2.out.below hb9 (Nat.le_refl _)); replace B := Lib.hid (B.out.trans (hb9.mono B.out.size)); clear hb9; have x0_9 := X.out.out.at0; have x1_9 := X.out.out.at1; have y0_9 := Y.out.out.at0; have y1_9 := Y.out.out.at1)
      refine hK.out _ _ (by first | exact ⟨x0_9, x1_9, y0_9, y1_9⟩ | exact ⟨x0_8, x1_8, y0_8, y1_8⟩ | exact ⟨x0, x1, y0, y1⟩ | go_keep) (fun hHeld => ?_)
      clear hK K
      try simp only [List.getElem_toArray, List.getElem_cons_zero, List.getElem_cons_succ, Act.put, List.setIfInBounds_toArray, List.set_cons_zero, List.set_cons_succ]
      refine wpAnyH_take (i := 5) (v := ?_) rfl (by kernel_rfl) (by kernel_rfl) (by kernel_rfl) (fun _ _ _ h => h) (Or.inl ⟨by rfl, ?_⟩) (by assumption) ?_
      rotate_left
      · (intro w hSw; (try dsimp only at hSw); go_simp; try with_reducible rfl)
      try simp only [List.getElem_toArray, List.getElem_cons_zero, List.getElem_cons_succ, Act.put, List.setIfInBounds_toArray, List.set_cons_zero, List.set_cons_succ]
      refine wpAnyH_done (by kernel_rfl) ?_ _
      go_wp2_with fail
      go_ret
      exact ⟨rfl, by first | exact B.out | exact B.out.drew⟩
  · go_enter Tryd.func3, Tryd.ntmps3
    go_wp2_with fail
    go_ret
    exact ⟨rfl, Below.refl _ _⟩

end Go.Proofs.YtiocaopabkbgpaaDoor
