/- FnBestOf's walk: the best set has the least risk. Conditions: the code is a slice of bytes. -/
import Derived.Test.YtiocaopabkbgpaaDoorBest
import Derived.Test.YtiocaopabkbgpaaDoorDrawsSb
import Derived.Test.YtiocaopabkbgpaaDoorRisk
import Derived.Test.YtiocaopabkbgpaaDoorRunM
import Derived.Test.YtiocaopabkbgpaaDoorZJ
import Derived.Test.YtiocaopabkbgpaaDoorZK
import Derived.Test.YtiocaopabkbgpaaDoorZM
namespace Go.Proofs.YtiocaopabkbgpaaDoor
open Go.RowKit

theorem eqB_self (xs : List Int) : eqB xs xs = true := eqB_of rfl (fun _ _ => rfl)

set_option maxHeartbeats 6400000 in
set_option maxRecDepth 100000 in
theorem walkFnBestOf (a : Option Addr) (b off n cap : Nat) (w : World) (hc : n ≤ cap) (hcap : cap ≤ maxLen) (h : Byt w a b off n) (hsw : SW w) :
    Calls Tryd.prog 7 #[.slice a n cap] w fun e w' => e = .returned (.bool true) ∧ Below w.heap.size w w' := by
  have HSW := Lib.hid hsw
  clear hsw
  by_cases hn : n ≤ 1048576
  · have HD := Lib.hid (dDrawBestOf a b off n cap w hc hn hcap h)
    clear h
    go_enter Tryd.func7, Tryd.ntmps7
    go_wp2_with fail
    refine HD.out.mono ?_
    rintro e w1 ⟨N, zs, es, hbd, a1, c1, a2, c2, rfl, hin, hex, hb⟩
    generalize hL : zs.length = L at *
    generalize hK : es.length = K at *
    have X := Lib.hid (Bx.new N (.slice a1 L c1) w1)
    have I1 := Lib.hid ((hin.mono (Nat.zero_le _)).alloc (Obj.cells #[.int .i64 N, .slice a1 L c1] 25))
    have B := Lib.hid (hb.alloc hb.size (Obj.cells #[.int .i64 N, .slice a1 L c1] 25))
    have HZ2 := Lib.hid (show (w1.alloc (Obj.cells #[.int .i64 N, .slice a1 L c1] 25)).heap.size = w1.heap.size + 1 by simp)
    have U := Lib.hid ((hex.mono (Nat.zero_le _)).alloc (Obj.cells #[.int .i64 N, .slice a1 L c1] 25))
    have hz1 := hb.size
    clear hin hb HD hex
    go_wp2_with fail
    generalize (w1.alloc (Obj.cells #[.int .i64 N, .slice a1 L c1] 25)) = w2 at *
    have hz2 := HZ2.out
    generalize ho : w1.heap.size = o at *
    obtain ⟨hN0, hN1, hL34, hK36⟩ := hbd
    by_cases hk : btK N zs es = true
    · skip
      obtain ⟨hvs, hz⟩ : vsB N zs es = true ∧ zs ≠ [] := by simpa [btK] using hk
      have hvd : vldB N zs = true := by simp only [vsB, Bool.and_eq_true] at hvs; exact hvs.1
      obtain ⟨m, ns, rfl, rfl, hcl⟩ := vldB_cls hvd
      have hm := hcl.pts
      have hn : ns ≠ [] := fun e => hz (by rw [e]; rfl)
      have hL2 : ns.length = L := by rw [← hL, toI_length]
      have HI := Lib.hid (fun v u w h hu => implBestOf (m : Int) v (toI ns) u es w h hu)
      have HS := Lib.hid (fun v u w h hu => specBestOf (m : Int) v (toI ns) u es w h hu)
      have HC := Lib.hid (fun v u w h hu hs => implConsistentOf (m : Int) v (toI ns) u es w h hu hs)
      have HRk := Lib.hid (show ∀ t : Nat, t < 2 ^ m → ∀ v u w, Rd w v (toI ns) → RdE w u es → Calls Tryd.prog 17 #[.agg #[.int .i64 (m : Int), v], .int .i64 (t : Int), u] w fun e w' => e = .returned (.int .i64 (mu es t)) ∧ Below w.heap.size w w' from fun t ht v u w h hu => by
        have h8 := implRiskOf (m : Int) v (toI ns) (t : Int) u es w h hu
        have hsb : setB m (t : Int) = true := by
          have : ((2 ^ m : Nat) : Int) = (2 : Int) ^ m := by simp
          obtain ⟨q, hq⟩ : ∃ q, q = 2 ^ m := ⟨_, rfl⟩
          rw [← hq] at ht
          simp only [setB, Bool.and_eq_true, decide_eq_true_eq]
          omega
        rw [rkB_in (show rkK (m : Int) (toI ns) (t : Int) es = true by simp [rkK, inB, hvd, hsb, hvs])] at h8
        exact h8)
      obtain ⟨-, g2, g3, -⟩ := fst_idx (mu_nat es) hn
      have eN : conN (m : Int) (toI ns) es = m := by rw [conN, if_pos hvs]
      have eL : conL (m : Int) (toI ns) es = toI (nowTo ns es es.length) := by rw [conL, if_pos hvs, toNat_toI]
      obtain ⟨C, hC⟩ : ∃ C, C = (nowTo ns es es.length).length := ⟨_, rfl⟩
      have HCL := Lib.hid (show (toI (nowTo ns es es.length)).length = C by rw [toI_length, hC])
      have hMC : fstM (mu es) ns = 0 ↔ 0 < C := by
        rw [hC, List.length_pos_iff]
        constructor
        · intro h
          exact List.ne_nil_of_mem (now_ms.2 ⟨g3, h⟩)
        · intro h
          obtain ⟨t, ht⟩ := List.exists_mem_of_ne_nil _ h
          obtain ⟨h1, h2⟩ := now_ms.1 ht
          have h3 := g2 t h1
          have h4 : mu es t = 0 := h2
          have h5 : 0 ≤ fstM (mu es) ns := mu_nat _ _
          omega
      have HRS := Lib.hid (HRk.out (fstS (mu es) ns) (hcl.lt _ g3))
      rw [show mu es (fstS (mu es) ns) = fstM (mu es) ns from rfl] at HRS
      rw [btS_in hk, btM_in hk, hk] at HI HS
      rw [eN, eL] at HC
      have HY := Lib.hid (fun (j : Nat) (hj : j < L) => show (toI ns).getD j 0 = ((ns.getD j 0 : Nat) : Int) ∧ ns.getD j 0 < 2 ^ m ∧ fstM (mu es) ns ≤ mu es (ns.getD j 0) by
        have hmem : ns.getD j 0 ∈ ns := getD_of_lt (by omega)
        exact ⟨toI_getD _ _, hcl.lt _ hmem, g2 _ hmem⟩)
      generalize fstM (mu es) ns = M at *
      generalize fstS (mu es) ns = S at *
      generalize nowTo ns es es.length = NL at *
      clear hk hvs hz hvd hn hcl g2 g3 eN eL hC
      refine (HI.out _ _ _ I1.out.rd U.out.rd).mono ?_
      rintro e w3 ⟨rfl, hb3⟩
      have hz3 := hb3.size
      replace X := Lib.hid (X.out.next hb3 X.out.lt)
      replace I1 := Lib.hid (I1.out.below hb3 (Nat.le_refl _))
      replace U := Lib.hid (U.out.below hb3 (Nat.le_refl _))
      replace B := Lib.hid (B.out.trans (hb3.mono B.out.size))
      clear hb3
      have x0 := X.out.out.at0
      have x1 := X.out.out.at1
      go_wp2_with fail
      clear x0 x1
      refine (HS.out _ _ _ I1.out.rd U.out.rd).mono ?_
      rintro e w4 ⟨rfl, hb4⟩
      have hz4 := hb4.size
      replace X := Lib.hid (X.out.next hb4 X.out.lt)
      replace I1 := Lib.hid (I1.out.below hb4 (Nat.le_refl _))
      replace U := Lib.hid (U.out.below hb4 (Nat.le_refl _))
      replace B := Lib.hid (B.out.trans (hb4.mono B.out.size))
      clear hb4
      obtain ⟨sr, bs, offs, caps, er, g1, -, g5⟩ := I1.out.rd
      simp only [Value.slice.injEq] at er
      obtain ⟨rfl, -, rfl⟩ := er
      rw [hL] at g1 g5
      have G1 := Lib.hid g1
      have G5 := Lib.hid g5
      clear g1 g5
      have x0 := X.out.out.at0
      have x1 := X.out.out.at1
      go_wp2_with fail
      clear x0 x1
      go_loopw [11] (fun i wr => ∃ j : Nat, j ≤ L ∧ i = .int .i64 j ∧ Below w4.heap.size w4 wr) (fun i _ => L - (intOf i).toNat)
      case atStart => exact ⟨0, Nat.zero_le _, rfl, Below.refl _ _⟩
      case round =>
        obtain ⟨j, hj, rfl, hbe⟩ := hrel
        have HBE := Lib.hid hbe
        have hzr := hbe.size
        have hXl := X.out.lt
        replace X := Lib.hid (X.out.next hbe X.out.lt)
        replace I1 := Lib.hid (I1.out.below hbe (Nat.le_refl _))
        replace U := Lib.hid (U.out.below hbe (Nat.le_refl _))
        replace B := Lib.hid (B.out.trans (hbe.mono B.out.size))
        by_cases hlt : j < L
        · obtain ⟨rfl, gbl⟩ := G1.out (by omega)
          have hcs := (hbe.cell (p := ⟨bs, offs + j, none⟩) gbl).trans (G5.out j hlt)
          clear hbe
          obtain ⟨hy1, hy2, hy3⟩ := HY.out j hlt
          rw [hy1] at hcs
          have HRj := Lib.hid (HRk.out _ hy2)
          generalize ns.getD j 0 = u at *
          generalize mu es u = r at *
          have hjI : (j : Int) < (L : Int) := by omega
          have hrM : decide (r < M) = false := decide_eq_false (by omega)
          clear hy1 hy2 hy3 HY HRk HRS HC
          obtain ⟨w5, hwr⟩ : ∃ w5, w5 = wr := ⟨_, rfl⟩
          subst hwr
          have gbl2 : bs < w5.heap.size := by omega
          have x0 := X.out.out.at0
          have x1 := X.out.out.at1
          go_wp2_with fail
          refine wp_region_held_drew (S := fun w' => w'.cell? ⟨o, 0, none⟩ = some (.int .i64 (m : Int)) ∧ w'.cell? ⟨o, 1, none⟩ = some (.slice (some ⟨bs, offs, none⟩) L c1) ∧ w'.cell? ⟨bs, offs + j, none⟩ = some (.int .i64 (u : Int))) (by kernel_rfl) (by first | exact ⟨z0, z1, z2⟩ | exact ⟨x0, x1, hcs⟩ | go_keep) (fun hHeld => ?_)
          refine wpAnyH_take (i := 0) (v := ?_) rfl (by kernel_rfl) (by kernel_rfl) (by kernel_rfl) (fun _ _ _ h => h) (Or.inl ⟨by rfl, ?_⟩) (by assumption) ?_
          rotate_left
          · (intro w hSw; (try dsimp only at hSw); go_simp; try with_reducible rfl)
          try simp only [List.getElem_toArray, List.getElem_cons_zero, Act.put, List.setIfInBounds_toArray, List.set_cons_zero, List.set_cons_succ]
          refine wpAnyH_take (i := 1) (v := ?_) rfl (by kernel_rfl) (by kernel_rfl) (by kernel_rfl) (fun _ _ _ h => h) (Or.inl ⟨by rfl, ?_⟩) (by assumption) ?_
          rotate_left
          · (intro w hSw; (try dsimp only at hSw); go_simp; try with_reducible rfl)
          try simp only [List.getElem_toArray, List.getElem_cons_zero, List.getElem_cons_succ, Act.put, List.setIfInBounds_toArray, List.set_cons_zero, List.set_cons_succ]
          refine wpAnyH_take (i := 2) (v := ?_) rfl (by kernel_rfl) (by kernel_rfl) (by kernel_rfl) (fun _ _ _ h => h) (Or.inl ⟨by rfl, ?_⟩) (by assumption) ?_
          rotate_left
          · (intro w hSw; (try dsimp only at hSw); go_simp; try with_reducible rfl)
          try simp only [List.getElem_toArray, List.getElem_cons_zero, List.getElem_cons_succ, Act.put, List.setIfInBounds_toArray, List.set_cons_zero, List.set_cons_succ]
          refine wpAnyH_take (i := 3) (v := ?_) rfl (by kernel_rfl) (by kernel_rfl) (by kernel_rfl) (fun _ _ _ h => h) (Or.inl ⟨by rfl, ?_⟩) (by assumption) ?_
          rotate_left
          · (intro w hSw; (try dsimp only at hSw); go_simp; try with_reducible rfl)
          try simp only [List.getElem_toArray, List.getElem_cons_zero, List.getElem_cons_succ, Act.put, List.setIfInBounds_toArray, List.set_cons_zero, List.set_cons_succ]
          refine wpAnyH_take (i := 4) (v := ?_) rfl (by kernel_rfl) (by kernel_rfl) (by kernel_rfl) (fun _ _ _ h => h) (Or.inl ⟨by rfl, ?_⟩) (by assumption) ?_
          rotate_left
          · (intro w hSw; (try dsimp only at hSw); go_simp; try with_reducible rfl)
          try simp only [List.getElem_toArray, List.getElem_cons_zero, List.getElem_cons_succ, Act.put, List.setIfInBounds_toArray, List.set_cons_zero, List.set_cons_succ]
          refine wpAnyH_take (i := 5) (v := ?_) rfl (by kernel_rfl) (by kernel_rfl) (by kernel_rfl) (fun _ _ _ h => h) (Or.inl ⟨by rfl, ?_⟩) (by assumption) ?_
          rotate_left
          · (intro w hSw; (try dsimp only at hSw); go_simp; try with_reducible rfl)
          try simp only [List.getElem_toArray, List.getElem_cons_zero, List.getElem_cons_succ, Act.put, List.setIfInBounds_toArray, List.set_cons_zero, List.set_cons_succ]
          refine wpAnyH_take (i := 6) (v := ?_) rfl (by kernel_rfl) (by kernel_rfl) (by kernel_rfl) (fun _ _ _ h => h) (Or.inl ⟨by rfl, ?_⟩) (by assumption) ?_
          rotate_left
          · (intro w hSw; (try dsimp only at hSw); go_simp; try with_reducible rfl)
          try simp only [List.getElem_toArray, List.getElem_cons_zero, List.getElem_cons_succ, Act.put, List.setIfInBounds_toArray, List.set_cons_zero, List.set_cons_succ]
          refine wpAnyH_take (i := 8) (v := ?_) rfl (by kernel_rfl) (by kernel_rfl) (by kernel_rfl) (fun _ _ _ h => h) (Or.inl ⟨by rfl, ?_⟩) (by assumption) ?_
          rotate_left
          · (intro w hSw; (try dsimp only at hSw); go_simp; try with_reducible rfl)
          try simp only [List.getElem_toArray, List.getElem_cons_zero, List.getElem_cons_succ, Act.put, List.setIfInBounds_toArray, List.set_cons_zero, List.set_cons_succ]
          refine wpAnyH_ready (rs := [7]) (by kernel_rfl) (by simp) ?_
          refine AllReadyH.cons rfl (fun K hK => ?_) AllReadyH.nil
          try simp only [List.getElem_toArray]
          go_simp
          (go_at_call 17; refine (HRj.out _ _ _ (by first | exact I1.out.rd | exact I1.out.rd.below (k := w5.heap.size) ((Below.refl _ _).drew) (Nat.le_refl _)) (by first | exact U.out.rd | exact U.out.rd.below (k := w5.heap.size) ((Below.refl _ _).drew) (Nat.le_refl _))).mono ?_; rintro e w6 ⟨rfl, hbd⟩; have hb6 : Below w5.heap.size w5 w6 := (by first | exact hbd | exact ⟨hbd.os, hbd.tape, hbd.output, hbd.size, hbd.block⟩); clear hbd; have z2 := (hb6.cell (p := ⟨bs, offs + j, none⟩) gbl2).trans hcs; have hz6 := hb6.size; replace X := Lib.hid (X.out.next hb6 X.out.lt); replace I1 := Lib.hid (I1.out.below hb6 (Nat.le_refl _)); replace U := Lib.hid (U.out.below hb6 (Nat.le_refl _)); replace B := Lib.hid (B.out.trans (hb6.mono B.out.size)); replace HBE := Lib.hid (HBE.out.trans (hb6.mono HBE.out.size)); clear hb6; have z0 := X.out.out.at0; have z1 := X.out.out.at1)
          refine hK.out _ _ (by first | exact ⟨z0, z1, z2⟩ | exact ⟨x0, x1, hcs⟩ | go_keep) (fun hHeld => ?_)
          clear hK K
          try simp only [List.getElem_toArray, List.getElem_cons_zero, List.getElem_cons_succ, Act.put, List.setIfInBounds_toArray, List.set_cons_zero, List.set_cons_succ]
          refine wpAnyH_take (i := 9) (v := ?_) rfl (by kernel_rfl) (by kernel_rfl) (by kernel_rfl) (fun _ _ _ h => h) (Or.inl ⟨by rfl, ?_⟩) (by assumption) ?_
          rotate_left
          · (intro w hSw; (try dsimp only at hSw); go_simp; try with_reducible rfl)
          try simp only [List.getElem_toArray, List.getElem_cons_zero, List.getElem_cons_succ, Act.put, List.setIfInBounds_toArray, List.set_cons_zero, List.set_cons_succ]
          refine wpAnyH_done (by kernel_rfl) ?_ _
          all_goals
            go_wp2_with fail
            go_roundw
            case rel => exact ⟨j + 1, by omega, by go_num, HBE.out⟩
            case measure => simp [intOf]; omega
        · clear hbe
          obtain rfl : j = L := by omega
          clear HY HRk G1 G5
          have hfd : ∀ (a : Option Addr) (l c : Nat) (w : World), Sem.run Tryd.prog (Instr.field 25 (.agg #[.int .i64 (m : Int), .slice a l c]) 1) w = .ok (.slice a l c) w := fun _ _ _ _ => by kernel_rfl
          obtain ⟨w5, hwr⟩ : ∃ w5, w5 = wr := ⟨_, rfl⟩
          subst hwr
          by_cases hM0 : M = 0
          · have hc0 : 0 < C := hMC.1 hM0
            have hMb : (M == 0) = true := by simpa using hM0
            have hcd : decide ((0 : Int) < (C : Int)) = true := decide_eq_true (by omega)
            clear hMC hM0
            have x0 := X.out.out.at0
            have x1 := X.out.out.at1
            go_wp2_with fail
            clear x0 x1
            refine (HRS.out _ _ _ I1.out.rd U.out.rd).mono ?_
            rintro e w6 ⟨rfl, hb6⟩
            have hz6 := hb6.size
            replace X := Lib.hid (X.out.next hb6 X.out.lt)
            replace I1 := Lib.hid (I1.out.below hb6 (Nat.le_refl _))
            replace U := Lib.hid (U.out.below hb6 (Nat.le_refl _))
            replace B := Lib.hid (B.out.trans (hb6.mono B.out.size))
            clear hb6
            have x0 := X.out.out.at0
            have x1 := X.out.out.at1
            go_wp2_with fail
            clear x0 x1
            refine (HC.out _ _ _ I1.out.rd U.out.rd (by first | exact HSW.out.next B.out | exact (show SW (World.drew _) from HSW.out.next B.out) | exact HSW.out.next (B.out.trans ((Below.refl _ _).drew)))).mono ?_
            rintro e w7 ⟨a7, c7, rfl, hin7, hb7⟩
            rw [HCL.out] at hin7 ⊢
            have hz7 := hb7.size
            replace X := Lib.hid (X.out.next hb7 X.out.lt)
            replace I1 := Lib.hid (I1.out.below hb7 (Nat.le_refl _))
            replace U := Lib.hid (U.out.below hb7 (Nat.le_refl _))
            replace B := Lib.hid (B.out.trans (hb7.mono B.out.size))
            have IC := Lib.hid (hin7.mono (Nat.zero_le _))
            clear hin7 hb7
            have x0 := X.out.out.at0
            have x1 := X.out.out.at1
            go_wp2_with fail
            clear x0 x1
            go_ret
            exact ⟨rfl, by first | exact B.out | exact B.out.drew⟩
          · obtain rfl : C = 0 := by
              have := hMC.2
              omega
            have hMb : (M == 0) = false := by simpa using hM0
            clear hMC
            have x0 := X.out.out.at0
            have x1 := X.out.out.at1
            go_wp2_with fail
            clear x0 x1
            refine (HRS.out _ _ _ I1.out.rd U.out.rd).mono ?_
            rintro e w6 ⟨rfl, hb6⟩
            have hz6 := hb6.size
            replace X := Lib.hid (X.out.next hb6 X.out.lt)
            replace I1 := Lib.hid (I1.out.below hb6 (Nat.le_refl _))
            replace U := Lib.hid (U.out.below hb6 (Nat.le_refl _))
            replace B := Lib.hid (B.out.trans (hb6.mono B.out.size))
            clear hb6
            have x0 := X.out.out.at0
            have x1 := X.out.out.at1
            go_wp2_with fail
            clear x0 x1
            refine (HC.out _ _ _ I1.out.rd U.out.rd (by first | exact HSW.out.next B.out | exact (show SW (World.drew _) from HSW.out.next B.out) | exact HSW.out.next (B.out.trans ((Below.refl _ _).drew)))).mono ?_
            rintro e w7 ⟨a7, c7, rfl, hin7, hb7⟩
            rw [HCL.out] at hin7 ⊢
            have hz7 := hb7.size
            replace X := Lib.hid (X.out.next hb7 X.out.lt)
            replace I1 := Lib.hid (I1.out.below hb7 (Nat.le_refl _))
            replace U := Lib.hid (U.out.below hb7 (Nat.le_refl _))
            replace B := Lib.hid (B.out.trans (hb7.mono B.out.size))
            have IC := Lib.hid (hin7.mono (Nat.zero_le _))
            clear hin7 hb7
            have x0 := X.out.out.at0
            have x1 := X.out.out.at1
            go_wp2_with fail
            clear x0 x1
            go_ret
            exact ⟨rfl, by first | exact B.out | exact B.out.drew⟩
    · rw [Bool.not_eq_true] at hk
      have HI := Lib.hid (fun v u w h hu => implBestOf N v zs u es w h hu)
      have HS := Lib.hid (fun v u w h hu => specBestOf N v zs u es w h hu)
      rw [btS_no hk, btM_no hk, hk] at HI HS
      clear hk
      refine (HI.out _ _ _ I1.out.rd U.out.rd).mono ?_
      rintro e w3 ⟨rfl, hb3⟩
      have hz3 := hb3.size
      replace X := Lib.hid (X.out.next hb3 X.out.lt)
      replace I1 := Lib.hid (I1.out.below hb3 (Nat.le_refl _))
      replace U := Lib.hid (U.out.below hb3 (Nat.le_refl _))
      replace B := Lib.hid (B.out.trans (hb3.mono B.out.size))
      clear hb3
      have x0 := X.out.out.at0
      have x1 := X.out.out.at1
      go_wp2_with fail
      clear x0 x1
      refine (HS.out _ _ _ I1.out.rd U.out.rd).mono ?_
      rintro e w4 ⟨rfl, hb4⟩
      have hz4 := hb4.size
      replace X := Lib.hid (X.out.next hb4 X.out.lt)
      replace I1 := Lib.hid (I1.out.below hb4 (Nat.le_refl _))
      replace U := Lib.hid (U.out.below hb4 (Nat.le_refl _))
      replace B := Lib.hid (B.out.trans (hb4.mono B.out.size))
      clear hb4
      have x0 := X.out.out.at0
      have x1 := X.out.out.at1
      go_wp2_with fail
      clear x0 x1
      go_ret
      exact ⟨rfl, by first | exact B.out | exact B.out.drew⟩
  · go_enter Tryd.func7, Tryd.ntmps7
    go_wp2_with fail
    go_ret
    exact ⟨rfl, Below.refl _ _⟩

end Go.Proofs.YtiocaopabkbgpaaDoor
