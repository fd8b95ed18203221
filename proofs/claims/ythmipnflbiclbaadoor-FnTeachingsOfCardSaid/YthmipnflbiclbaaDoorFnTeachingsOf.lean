/- FnTeachingsOf's walk: teachings are least ones. Conditions: the code is a slice of bytes. -/
import Derived.Test.YthmipnflbiclbaaDoorDrawsTs
import Derived.Test.YthmipnflbiclbaaDoorTOfS
import Derived.Test.YthmipnflbiclbaaDoorTsoP
import Derived.Test.YthmipnflbiclbaaDoorZJ
import Derived.Test.YthmipnflbiclbaaDoorZK
import Derived.Test.YthmipnflbiclbaaDoorZV
import Derived.Test.YthmipnflbiclbaaDoorZW
import Derived.Test.YthmipnflbiclbaaDoorZX
namespace Go.Proofs.YthmipnflbiclbaaDoor
open Go.RowKit

theorem eqB_self (xs : List Int) : eqB xs xs = true := eqB_of rfl (fun _ _ => rfl)

set_option maxHeartbeats 25600000 in
set_option maxRecDepth 100000 in
theorem walkFnTeachingsOf (a : Option Addr) (b off n cap : Nat) (w : World) (hc : n ≤ cap) (hcap : cap ≤ maxLen) (h : Byt w a b off n) (hsw : SW w) :
    Calls Tryd.prog 7 #[.slice a n cap] w fun e w' => e = .returned (.bool true) ∧ Below w.heap.size w w' := by
  have HSW := Lib.hid hsw
  clear hsw
  by_cases hn : n ≤ 1048576
  · have HD := Lib.hid (dDrawTeachingsOf a b off n cap w hc hn hcap h)
    clear h
    go_enter Tryd.func7, Tryd.ntmps7
    go_wp2_with fail
    refine HD.out.mono ?_
    rintro e w1 ⟨N, zs, s, hbd, a1, c1, rfl, hin, hb⟩
    generalize hL : zs.length = L at *
    have X := Lib.hid (Bx.new N (.slice a1 L c1) w1)
    have I1 := Lib.hid ((hin.mono (Nat.zero_le _)).alloc (Obj.cells #[.int .i64 N, .slice a1 L c1] 25))
    have B := Lib.hid (hb.alloc hb.size (Obj.cells #[.int .i64 N, .slice a1 L c1] 25))
    have HZ2 := Lib.hid (show (w1.alloc (Obj.cells #[.int .i64 N, .slice a1 L c1] 25)).heap.size = w1.heap.size + 1 by simp)
    have hz1 := hb.size
    clear hin hb HD
    go_wp2_with fail
    generalize (w1.alloc (Obj.cells #[.int .i64 N, .slice a1 L c1] 25)) = w2 at *
    have hz2 := HZ2.out
    generalize ho : w1.heap.size = o at *
    obtain ⟨hN0, hN1, hL34⟩ := hbd
    by_cases hk : ftK N zs s = true
    · have hv : vldB N zs = true := by simp only [ftK, Bool.and_eq_true] at hk; exact hk.1
      obtain ⟨m, ns, rfl, rfl, hcl⟩ := vldB_cls hv
      have hm := hcl.pts
      obtain ⟨u, hu, rfl⟩ : ∃ u, u ∈ ns ∧ (u : Int) = s := by
        simp only [ftK, Bool.and_eq_true, hasB, decide_eq_true_eq, toI, List.mem_map] at hk
        exact hk.2
      have hL2 : ns.length = L := by rw [← hL, toI_length]
      have HI := Lib.hid (fun v w h hs => implTeachingsOf (m : Int) v (toI ns) (u : Int) w h hs)
      have HS := Lib.hid (fun v w h => specTeachingsOf (m : Int) v (toI ns) (u : Int) w h)
      have HV := Lib.hid (fun v w h => implValid (m : Int) v (toI ns) w h)
      rw [hv] at HV
      have hlow : ∀ t : Nat, t < 2 ^ m → setB m (t : Int) = true := fun t ht => by
        have : ((2 ^ m : Nat) : Int) = (2 : Int) ^ m := by simp
        obtain ⟨q, hq⟩ : ∃ q, q = 2 ^ m := ⟨_, rfl⟩
        rw [← hq] at ht
        simp only [setB, Bool.and_eq_true, decide_eq_true_eq]
        omega
      have hh9 : hasB (toI ns) (u : Int) = true := by simp only [ftK, Bool.and_eq_true] at hk; exact hk.2
      have hin : inB (m : Int) (toI ns) (u : Int) = true := by simp [inB, hv, hlow u (hcl.lt u hu)]
      have hD : tsoL (m : Int) (toI ns) (u : Int) = toI (tsoN u ns) := by rw [tsoL, if_pos hin, Int.toNat_natCast, toNat_toI]
      rw [hD] at HI HS
      have HIT := Lib.hid (fun (t : Nat) (ht : t ∈ tsoN u ns) v w (h : Rd w v (toI ns)) (hs : SW w) => show Calls Tryd.prog 40 #[.agg #[.int .i64 (m : Int), v], .int .i64 (u : Int), .int .i64 (t : Int)] w fun e w' => e = .returned (.bool true) ∧ Below w.heap.size w w' by
        have h9 := implIsTeaching (m : Int) v (toI ns) (u : Int) (t : Int) w h hs
        rw [iteB_in hv (hlow t (tso_lt hcl hu ht)), tso_no ht] at h9
        exact h9)
      have HSN := Lib.hid (fun v w h hs => implStarNumber (m : Int) v (toI ns) w h hs)
      rw [snB_in hv] at HSN
      have HFT := Lib.hid (fun v w h hs => implFirstTeaching (m : Int) v (toI ns) (u : Int) w h hs)
      have hfB : ftB (m : Int) (toI ns) (u : Int) = (ftN m u ns : Nat) := by rw [ftB, if_pos hk, Int.toNat_natCast, Int.toNat_natCast, toNat_toI]
      rw [hfB, hk] at HFT
      have hfm : hasB (toI (tsoN u ns)) ((ftN m u ns : Nat) : Int) = true := by simp only [hasB, decide_eq_true_eq, toI, List.mem_map]; exact ⟨_, tso_first hcl hu, rfl⟩
      have HFa := Lib.hid (fun (j : Nat) (hj : j < (tsoN u ns).length) => show (tsoN u ns).getD j 0 ∈ tsoN u ns ∧ (tsoN u ns).getD j 0 < 32 ∧ (pc ((tsoN u ns).getD j 0) : Int) ≤ starM m ns from ⟨getD_of_lt hj, (mem_tso.1 (getD_of_lt hj)).1, tso_star hcl hu (getD_of_lt hj)⟩)
      have HAp := Lib.hid (fun (i j : Nat) (hij : i < j) (hj : j < (tsoN u ns).length) => show (tsoN u ns).getD i 0 &&& (tsoN u ns).getD j 0 ≠ (tsoN u ns).getD i 0 ∧ (tsoN u ns).getD j 0 &&& (tsoN u ns).getD i 0 ≠ (tsoN u ns).getD j 0 by
        have hi : i < (tsoN u ns).length := by omega
        have hne : (tsoN u ns).getD i 0 ≠ (tsoN u ns).getD j 0 := by
          have h9 := List.pairwise_iff_getElem.1 (tso_asc u ns) i j hi hj hij
          rw [List.getD_eq_getElem?_getD, List.getD_eq_getElem?_getD, List.getElem?_eq_getElem hi, List.getElem?_eq_getElem hj, Option.getD_some, Option.getD_some]
          omega
        exact ⟨tso_apart hcl.asc (getD_of_lt hi) (getD_of_lt hj) hne, tso_apart hcl.asc (getD_of_lt hj) (getD_of_lt hi) (Ne.symm hne)⟩)
      have hD32 := tsoN_len u ns
      obtain ⟨K, hK⟩ : ∃ K, K = (tsoN u ns).length := ⟨_, rfl⟩
      have HKl := Lib.hid (show (toI (tsoN u ns)).length = K by rw [toI_length, hK])
      rw [← hK] at hD32 HFa HAp
      generalize tsoN u ns = D at *
      generalize ftN m u ns = F0 at *
      generalize starM m ns = SN at *
      clear hv hk hcl hu hlow hin hD hfB hK
      refine (HI.out _ _ I1.out.rd (by first | exact HSW.out.next B.out | exact (show SW (World.drew _) from HSW.out.next B.out) | exact HSW.out.next (B.out.trans ((Below.refl _ _).drew)))).mono ?_
      rintro e w3 ⟨a3, c3, rfl, hin3, hb3⟩
      rw [HKl.out] at hin3 ⊢
      have hz3 := hb3.size
      replace X := Lib.hid (X.out.next hb3 X.out.lt)
      replace I1 := Lib.hid (I1.out.below hb3 (Nat.le_refl _))
      replace B := Lib.hid (B.out.trans (hb3.mono B.out.size))
      have IA := Lib.hid (hin3.mono (Nat.zero_le _))
      clear hin3 hb3
      have x0 := X.out.out.at0
      have x1 := X.out.out.at1
      go_wp2_with fail
      clear x0 x1
      refine (HS.out _ _ I1.out.rd).mono ?_
      rintro e w4 ⟨a4, c4, rfl, hin4, hb4⟩
      rw [HKl.out] at hin4 ⊢
      have hz4 := hb4.size
      replace X := Lib.hid (X.out.next hb4 X.out.lt)
      replace I1 := Lib.hid (I1.out.below hb4 (Nat.le_refl _))
      replace IA := Lib.hid (IA.out.below hb4 (Nat.le_refl _))
      replace B := Lib.hid (B.out.trans (hb4.mono B.out.size))
      have IB := Lib.hid (hin4.mono (Nat.zero_le _))
      clear hin4 hb4
      have x0 := X.out.out.at0
      have x1 := X.out.out.at1
      go_wp2_with fail
      clear x0 x1
      have HQ := Lib.hid (lawsEqualInts _ _ (toI D) (toI D) _ IA.out.rd IB.out.rd)
      rw [eqB_self] at HQ
      refine (HQ.out).mono ?_
      rintro e w5 ⟨rfl, hd5⟩
      have hb5 : Below w4.heap.size w4 w5 := by obtain ⟨d, rfl⟩ := hd5; exact below_drewN (Below.refl _ _) d
      clear hd5
      have hz5 := hb5.size
      replace X := Lib.hid (X.out.next hb5 X.out.lt)
      replace I1 := Lib.hid (I1.out.below hb5 (Nat.le_refl _))
      replace IA := Lib.hid (IA.out.below hb5 (Nat.le_refl _))
      replace IB := Lib.hid (IB.out.below hb5 (Nat.le_refl _))
      replace B := Lib.hid (B.out.trans (hb5.mono B.out.size))
      clear hb5
      have x0 := X.out.out.at0
      have x1 := X.out.out.at1
      go_wp2_with fail
      clear x0 x1
      refine (HV.out _ _ I1.out.rd).mono ?_
      rintro e w6 ⟨rfl, hb6⟩
      have hz6 := hb6.size
      replace X := Lib.hid (X.out.next hb6 X.out.lt)
      replace I1 := Lib.hid (I1.out.below hb6 (Nat.le_refl _))
      replace IA := Lib.hid (IA.out.below hb6 (Nat.le_refl _))
      replace IB := Lib.hid (IB.out.below hb6 (Nat.le_refl _))
      replace B := Lib.hid (B.out.trans (hb6.mono B.out.size))
      clear hb6
      have x0 := X.out.out.at0
      have x1 := X.out.out.at1
      go_wp2_with fail
      clear x0 x1
      have HO := Lib.hid ((lawsHolds _ (toI ns) (u : Int) _ I1.out.rd).mono (fun e w' h => And.intro h.1 h.2.symm))
      rw [hh9] at HO
      clear hh9
      refine (HO.out).mono ?_
      rintro e w7 ⟨rfl, hw7⟩
      subst w7
      clear IB HI HS HV HQ HO
      obtain ⟨ar, br, offr, capr, er, l1, -, l5⟩ := IA.out.rd
      rw [HKl.out] at er l1 l5
      simp only [Value.slice.injEq] at er
      obtain ⟨rfl, -, rfl⟩ := er
      have L1 := Lib.hid l1
      have L5 := Lib.hid (fun j (hj : j < K) => show w6.cell? ⟨br, offr + j, none⟩ = some (.int .i64 ((D.getD j 0 : Nat) : Int)) by have h9 := l5 j hj; rwa [toI_getD] at h9)
      clear l1 l5
      have x0 := X.out.out.at0
      have x1 := X.out.out.at1
      go_wp2_with fail
      clear x0 x1
      go_loopw [6] (fun i wr => ∃ j : Nat, j ≤ K ∧ i = .int .i64 j ∧ Below w6.heap.size w6 wr) (fun i _ => K - (intOf i).toNat)
      case atStart => exact ⟨0, Nat.zero_le _, rfl, Below.refl _ _⟩
      case round =>
        obtain ⟨j, hj, rfl, hbe⟩ := hrel
        have HBE := Lib.hid hbe
        have hzr := hbe.size
        replace X := Lib.hid (X.out.next hbe X.out.lt)
        replace I1 := Lib.hid (I1.out.below hbe (Nat.le_refl _))
        replace IA := Lib.hid (IA.out.below hbe (Nat.le_refl _))
        replace B := Lib.hid (B.out.trans (hbe.mono B.out.size))
        by_cases hlt : j < K
        · obtain ⟨rfl, hbl⟩ := L1.out (by omega)
          have Hcx := Lib.hid ((hbe.cell (p := ⟨br, offr + j, none⟩) hbl).trans (L5.out j hlt))
          obtain ⟨hm1, hs32, hsn⟩ := HFa.out j hlt
          have HIj := Lib.hid (HIT.out _ hm1)
          have HSz := Lib.hid (fun w => (lawsSize (D.getD j 0) hs32 w).mono fun _ _ h => And.intro h.1 h.2.symm)
          have HApj := Lib.hid (fun i (hi : i < j) => HAp.out i j hi hlt)
          have HL5 := Lib.hid (fun i (hi : i < j) => L5.out i (by omega))
          have HF32 := Lib.hid (fun i (hi : i < j) => (HFa.out i (by omega)).2.1)
          obtain ⟨s, hs⟩ : ∃ s, s = D.getD j 0 := ⟨_, rfl⟩
          rw [← hs] at Hcx HIj HSz hs32 hsn
          have HApk := Lib.hid (fun i (hi : i < j) => show D.getD i 0 &&& s ≠ D.getD i 0 ∧ s &&& D.getD i 0 ≠ s by rw [hs]; exact HApj.out i hi)
          have HLsj := Lib.hid (show w6.cell? ⟨br, offr + j, none⟩ = some (.int .i64 (s : Int)) by rw [hs]; exact L5.out j hlt)
          clear HApj hs hm1
          generalize pc s = z at *
          have hd9 : decide (SN < (z : Int)) = false := decide_eq_false (by omega)
          have hjI : (j : Int) < (K : Int) := by omega
          obtain ⟨w7, hwr⟩ : ∃ w7, w7 = wr := ⟨_, rfl⟩
          subst hwr
          have hbl2 : br < w7.heap.size := by omega
          have hbl0 : br < w6.heap.size := hbl
          have HL5j := Lib.hid (show w6.cell? ⟨br, offr + j, none⟩ = some (.int .i64 (s : Int)) from by have h9 := HLsj.out; exact h9)
          clear hbe HIT HAp HFa L1 L5 hfm HFT HLsj
          have x0 := X.out.out.at0
          have x1 := X.out.out.at1
          have cx := Hcx.out
          go_wp2_with fail
          refine wp_region_held_drew (S := fun w' => w'.cell? ⟨o, 0, none⟩ = some (.int .i64 (m : Int)) ∧ w'.cell? ⟨o, 1, none⟩ = some (.slice a1 L c1) ∧ w'.cell? ⟨br, offr + j, none⟩ = some (.int .i64 (s : Int))) (by kernel_rfl) (by first | exact ⟨x0, x1, cx⟩ | go_keep) (fun hHeld => ?_)
          refine wpAnyH_take (i := 0) (v := ?_) rfl (by kernel_rfl) (by kernel_rfl) (by kernel_rfl) (fun _ _ _ h => h) (Or.inl ⟨by rfl, ?_⟩) (by assumption) ?_
          rotate_left
          · (intro w hSw; (try dsimp only at hSw); go_simp; try with_reducible rfl)
          try simp only [List.getElem_toArray, List.getElem_cons_zero, Act.put, List.setIfInBounds_toArray, List.set_cons_zero, List.set_cons_succ]
          refine wpAnyH_take (i := 1) (v := ?_) rfl (by kernel_rfl) (by kernel_rfl) (by kernel_rfl) (fun _ _ _ h => h) (Or.inl ⟨by rfl, ?_⟩) (by assumption) ?_
          rotate_left
          · (intro w hSw; (try dsimp only at hSw); go_simp; try with_reducible rfl)
          try simp only [List.getElem_toArray, List.getElem_cons_zero, List.getElem_cons_succ, Act.put, List.setIfInBounds_toArray, List.set_cons_zero, List.set_cons_succ]
          refine wpAnyH_take (i := 2) (v := ?_) rfl (by kernel_rfl) (by kernel_rfl) (by kernel_rfl) (fun _ _ _ h => h) (Or.inl ⟨by rfl, ?_⟩) (by assumption) ?_
          rotate_left
          · (intro w hSw; (try dsimp only at hSw); go_simp; try with_reducible rfl)
          try simp only [List.getElem_toArray, List.getElem_cons_zero, List.getElem_cons_succ, Act.put, List.setIfInBounds_toArray, List.set_cons_zero, List.set_cons_succ]
          refine wpAnyH_take (i := 3) (v := ?_) rfl (by kernel_rfl) (by kernel_rfl) (by kernel_rfl) (fun _ _ _ h => h) (Or.inl ⟨by rfl, ?_⟩) (by assumption) ?_
          rotate_left
          · (intro w hSw; (try dsimp only at hSw); go_simp; try with_reducible rfl)
          try simp only [List.getElem_toArray, List.getElem_cons_zero, List.getElem_cons_succ, Act.put, List.setIfInBounds_toArray, List.set_cons_zero, List.set_cons_succ]
          refine wpAnyH_take (i := 4) (v := ?_) rfl (by kernel_rfl) (by kernel_rfl) (by kernel_rfl) (fun _ _ _ h => h) (Or.inl ⟨by rfl, ?_⟩) (by assumption) ?_
          rotate_left
          · (intro w hSw; (try dsimp only at hSw); go_simp; try with_reducible rfl)
          try simp only [List.getElem_toArray, List.getElem_cons_zero, List.getElem_cons_succ, Act.put, List.setIfInBounds_toArray, List.set_cons_zero, List.set_cons_succ]
          refine wpAnyH_take (i := 5) (v := ?_) rfl (by kernel_rfl) (by kernel_rfl) (by kernel_rfl) (fun _ _ _ h => h) (Or.inl ⟨by rfl, ?_⟩) (by assumption) ?_
          rotate_left
          · (intro w hSw; (try dsimp only at hSw); go_simp; try with_reducible rfl)
          try simp only [List.getElem_toArray, List.getElem_cons_zero, List.getElem_cons_succ, Act.put, List.setIfInBounds_toArray, List.set_cons_zero, List.set_cons_succ]
          refine wpAnyH_ready (rs := [6]) (by kernel_rfl) (by simp) ?_
          refine AllReadyH.cons rfl (fun K hK => ?_) AllReadyH.nil
          try simp only [List.getElem_toArray]
          go_simp
          (go_at_call 40; refine (HIj.out _ _ (by first | exact I1.out.rd | exact I1.out.rd.below (k := w7.heap.size) ((Below.refl _ _).drew) (Nat.le_refl _)) (by first | exact HSW.out.next B.out | exact (show SW (World.drew _) from HSW.out.next B.out) | exact HSW.out.next (B.out.trans ((Below.refl _ _).drew)))).mono ?_; rintro e w8 ⟨rfl, hbd⟩; have hb8 : Below w7.heap.size w7 w8 := (by first | exact hbd | exact ⟨hbd.os, hbd.tape, hbd.output, hbd.size, hbd.block⟩); clear hbd; have hz8 := hb8.size; replace X := Lib.hid (X.out.next hb8 X.out.lt); replace I1 := Lib.hid (I1.out.below hb8 (Nat.le_refl _)); replace IA := Lib.hid (IA.out.below hb8 (Nat.le_refl _)); replace B := Lib.hid (B.out.trans (hb8.mono B.out.size)); replace Hcx := Lib.hid ((hb8.cell (p := ⟨br, offr + j, none⟩) (by show br < _; omega)).trans Hcx.out); replace HBE := Lib.hid (HBE.out.trans (hb8.mono (by omega))); clear hb8; have x0_8 := X.out.out.at0; have x1_8 := X.out.out.at1; have cx_8 := Hcx.out)
          refine hK.out _ _ (by first | exact ⟨x0_8, x1_8, cx_8⟩ | exact ⟨x0, x1, cx⟩ | go_keep) (fun hHeld => ?_)
          clear hK K
          try simp only [List.getElem_toArray, List.getElem_cons_zero, List.getElem_cons_succ, Act.put, List.setIfInBounds_toArray, List.set_cons_zero, List.set_cons_succ]
          refine wpAnyH_take (i := 7) (v := ?_) rfl (by kernel_rfl) (by kernel_rfl) (by kernel_rfl) (fun _ _ _ h => h) (Or.inl ⟨by rfl, ?_⟩) (by assumption) ?_
          rotate_left
          · (intro w hSw; (try dsimp only at hSw); go_simp; try with_reducible rfl)
          try simp only [List.getElem_toArray, List.getElem_cons_zero, List.getElem_cons_succ, Act.put, List.setIfInBounds_toArray, List.set_cons_zero, List.set_cons_succ]
          refine wpAnyH_take (i := 8) (v := ?_) rfl (by kernel_rfl) (by kernel_rfl) (by kernel_rfl) (fun _ _ _ h => h) (Or.inl ⟨by rfl, ?_⟩) (by assumption) ?_
          rotate_left
          · (intro w hSw; (try dsimp only at hSw); go_simp; try with_reducible rfl)
          try simp only [List.getElem_toArray, List.getElem_cons_zero, List.getElem_cons_succ, Act.put, List.setIfInBounds_toArray, List.set_cons_zero, List.set_cons_succ]
          refine wpAnyH_take (i := 9) (v := ?_) rfl (by kernel_rfl) (by kernel_rfl) (by kernel_rfl) (fun _ _ _ h => h) (Or.inl ⟨by rfl, ?_⟩) (by assumption) ?_
          rotate_left
          · (intro w hSw; (try dsimp only at hSw); go_simp; try with_reducible rfl)
          try simp only [List.getElem_toArray, List.getElem_cons_zero, List.getElem_cons_succ, Act.put, List.setIfInBounds_toArray, List.set_cons_zero, List.set_cons_succ]
          refine wpAnyH_take (i := 10) (v := ?_) rfl (by kernel_rfl) (by kernel_rfl) (by kernel_rfl) (fun _ _ _ h => h) (Or.inl ⟨by rfl, ?_⟩) (by assumption) ?_
          rotate_left
          · (intro w hSw; (try dsimp only at hSw); go_simp; try with_reducible rfl)
          try simp only [List.getElem_toArray, List.getElem_cons_zero, List.getElem_cons_succ, Act.put, List.setIfInBounds_toArray, List.set_cons_zero, List.set_cons_succ]
          refine wpAnyH_take (i := 11) (v := ?_) rfl (by kernel_rfl) (by kernel_rfl) (by kernel_rfl) (fun _ _ _ h => h) (Or.inl ⟨by rfl, ?_⟩) (by assumption) ?_
          rotate_left
          · (intro w hSw; (try dsimp only at hSw); go_simp; try with_reducible rfl)
          try simp only [List.getElem_toArray, List.getElem_cons_zero, List.getElem_cons_succ, Act.put, List.setIfInBounds_toArray, List.set_cons_zero, List.set_cons_succ]
          refine wpAnyH_take (i := 12) (v := ?_) rfl (by kernel_rfl) (by kernel_rfl) (by kernel_rfl) (fun _ _ _ h => h) (Or.inl ⟨by rfl, ?_⟩) (by assumption) ?_
          rotate_left
          · (intro w hSw; (try dsimp only at hSw); go_simp; try with_reducible rfl)
          try simp only [List.getElem_toArray, List.getElem_cons_zero, List.getElem_cons_succ, Act.put, List.setIfInBounds_toArray, List.set_cons_zero, List.set_cons_succ]
          refine wpAnyH_take (i := 14) (v := ?_) rfl (by kernel_rfl) (by kernel_rfl) (by kernel_rfl) (fun _ _ _ h => h) (Or.inl ⟨by rfl, ?_⟩) (by assumption) ?_
          rotate_left
          · (intro w hSw; (try dsimp only at hSw); go_simp; try with_reducible rfl)
          try simp only [List.getElem_toArray, List.getElem_cons_zero, List.getElem_cons_succ, Act.put, List.setIfInBounds_toArray, List.set_cons_zero, List.set_cons_succ]
          refine wpAnyH_ready (rs := [13]) (by kernel_rfl) (by simp) ?_
          refine AllReadyH.cons rfl (fun K hK => ?_) AllReadyH.nil
          try simp only [List.getElem_toArray]
          go_simp
          (go_at_call 41; refine (HSz.out _).mono ?_; rintro e w98 ⟨rfl, hw98⟩; subst w98)
          refine hK.out _ _ (by first | exact ⟨x0_8, x1_8, cx_8⟩ | exact ⟨x0, x1, cx⟩ | go_keep) (fun hHeld => ?_)
          clear hK K
          try simp only [List.getElem_toArray, List.getElem_cons_zero, List.getElem_cons_succ, Act.put, List.setIfInBounds_toArray, List.set_cons_zero, List.set_cons_succ]
          refine wpAnyH_ready (rs := [15]) (by kernel_rfl) (by simp) ?_
          refine AllReadyH.cons rfl (fun K hK => ?_) AllReadyH.nil
          try simp only [List.getElem_toArray]
          go_simp
          (go_at_call 42; refine (HSN.out _ _ (by first | exact I1.out.rd | exact I1.out.rd.below (k := w8.heap.size) ((Below.refl _ _).drew) (Nat.le_refl _)) (by first | exact HSW.out.next B.out | exact (show SW (World.drew _) from HSW.out.next B.out) | exact HSW.out.next (B.out.trans ((Below.refl _ _).drew)))).mono ?_; rintro e w9 ⟨rfl, hbd⟩; have hb9 : Below w8.heap.size w8 w9 := (by first | exact hbd | exact ⟨hbd.os, hbd.tape, hbd.output, hbd.size, hbd.block⟩); clear hbd; have hz9 := hb9.size; replace X := Lib.hid (X.out.next hb9 X.out.lt); replace I1 := Lib.hid (I1.out.below hb9 (Nat.le_refl _)); replace IA := Lib.hid (IA.out.below hb9 (Nat.le_refl _)); replace B := Lib.hid (B.out.trans (hb9.mono B.out.size)); replace Hcx := Lib.hid ((hb9.cell (p := ⟨br, offr + j, none⟩) (by show br < _; omega)).trans Hcx.out); replace HBE := Lib.hid (HBE.out.trans (hb9.mono (by omega))); clear hb9; have x0_9 := X.out.out.at0; have x1_9 := X.out.out.at1; have cx_9 := Hcx.out)
          refine hK.out _ _ (by first | exact ⟨x0_9, x1_9, cx_9⟩ | exact ⟨x0_8, x1_8, cx_8⟩ | exact ⟨x0, x1, cx⟩ | go_keep) (fun hHeld => ?_)
          clear hK K
          try simp only [List.getElem_toArray, List.getElem_cons_zero, List.getElem_cons_succ, Act.put, List.setIfInBounds_toArray, List.set_cons_zero, List.set_cons_succ]
          refine wpAnyH_take (i := 16) (v := ?_) rfl (by kernel_rfl) (by kernel_rfl) (by kernel_rfl) (fun _ _ _ h => h) (Or.inl ⟨by rfl, ?_⟩) (by assumption) ?_
          rotate_left
          · (intro w hSw; (try dsimp only at hSw); go_simp; try with_reducible rfl)
          try simp only [List.getElem_toArray, List.getElem_cons_zero, List.getElem_cons_succ, Act.put, List.setIfInBounds_toArray, List.set_cons_zero, List.set_cons_succ]
          refine wpAnyH_take (i := 17) (v := ?_) rfl (by kernel_rfl) (by kernel_rfl) (by kernel_rfl) (fun _ _ _ h => h) (Or.inl ⟨by rfl, ?_⟩) (by assumption) ?_
          rotate_left
          · (intro w hSw; (try dsimp only at hSw); go_simp; try with_reducible rfl)
          try simp only [List.getElem_toArray, List.getElem_cons_zero, List.getElem_cons_succ, Act.put, List.setIfInBounds_toArray, List.set_cons_zero, List.set_cons_succ]
          refine wpAnyH_done (by kernel_rfl) ?_ _
          go_wp2_with fail
          have HB0 := Lib.hid HBE.out
          clear HIj HSz HSN X I1 B
          go_loopw [7] (fun i w2 => ∃ q : Nat, q ≤ j ∧ i = .int .i64 q ∧ Below w6.heap.size w6 w2) (fun i _ => j - (intOf i).toNat)
          case atStart => exact ⟨0, Nat.zero_le _, rfl, HB0.out⟩
          case round =>
            obtain ⟨q, hq, rfl, hbe⟩ := hrel
            have HBE := Lib.hid hbe
            by_cases hlq : q < j
            · have cx := (hbe.cell (p := ⟨br, offr + j, none⟩) hbl0).trans HL5j.out
              have cy := (hbe.cell (p := ⟨br, offr + q, none⟩) hbl0).trans (HL5.out q hlq)
              obtain ⟨ha1, ha2⟩ := HApk.out q hlq
              have h32q := HF32.out q hlq
              have hqI : (q : Int) < (j : Int) := by omega
              have hqK : (q : Int) < (K : Int) := by omega
              clear hbe
              generalize D.getD q 0 = r at *
              have HS1 := Lib.hid (fun w => lawsSubsetNo r s (by omega) (by omega) ha1 w)
              have HS2 := Lib.hid (fun w => lawsSubsetNo s r (by omega) (by omega) ha2 w)
              go_wp2_with fail
              refine wp_region_held_drew (S := fun w' => w'.cell? ⟨br, offr + j, none⟩ = some (.int .i64 (s : Int)) ∧ w'.cell? ⟨br, offr + q, none⟩ = some (.int .i64 (r : Int))) (by kernel_rfl) (by first | exact ⟨cx, cy⟩ | go_keep) (fun hHeld => ?_)
              refine wpAnyH_take (i := 0) (v := ?_) rfl (by kernel_rfl) (by kernel_rfl) (by kernel_rfl) (fun _ _ _ h => h) (Or.inl ⟨by rfl, ?_⟩) (by assumption) ?_
              rotate_left
              · (intro w hSw; (try dsimp only at hSw); go_simp; try with_reducible rfl)
              try simp only [List.getElem_toArray, List.getElem_cons_zero, Act.put, List.setIfInBounds_toArray, List.set_cons_zero, List.set_cons_succ]
              refine wpAnyH_take (i := 1) (v := ?_) rfl (by kernel_rfl) (by kernel_rfl) (by kernel_rfl) (fun _ _ _ h => h) (Or.inl ⟨by rfl, ?_⟩) (by assumption) ?_
              rotate_left
              · (intro w hSw; (try dsimp only at hSw); go_simp; try with_reducible rfl)
              try simp only [List.getElem_toArray, List.getElem_cons_zero, List.getElem_cons_succ, Act.put, List.setIfInBounds_toArray, List.set_cons_zero, List.set_cons_succ]
              refine wpAnyH_take (i := 2) (v := ?_) rfl (by kernel_rfl) (by kernel_rfl) (by kernel_rfl) (fun _ _ _ h => h) (Or.inl ⟨by rfl, ?_⟩) (by assumption) ?_
              rotate_left
              · (intro w hSw; (try dsimp only at hSw); go_simp; try with_reducible rfl)
              try simp only [List.getElem_toArray, List.getElem_cons_zero, List.getElem_cons_succ, Act.put, List.setIfInBounds_toArray, List.set_cons_zero, List.set_cons_succ]
              refine wpAnyH_take (i := 3) (v := ?_) rfl (by kernel_rfl) (by kernel_rfl) (by kernel_rfl) (fun _ _ _ h => h) (Or.inl ⟨by rfl, ?_⟩) (by assumption) ?_
              rotate_left
              · (intro w hSw; (try dsimp only at hSw); go_simp; try with_reducible rfl)
              try simp only [List.getElem_toArray, List.getElem_cons_zero, List.getElem_cons_succ, Act.put, List.setIfInBounds_toArray, List.set_cons_zero, List.set_cons_succ]
              refine wpAnyH_take (i := 4) (v := ?_) rfl (by kernel_rfl) (by kernel_rfl) (by kernel_rfl) (fun _ _ _ h => h) (Or.inl ⟨by rfl, ?_⟩) (by assumption) ?_
              rotate_left
              · (intro w hSw; (try dsimp only at hSw); go_simp; try with_reducible rfl)
              try simp only [List.getElem_toArray, List.getElem_cons_zero, List.getElem_cons_succ, Act.put, List.setIfInBounds_toArray, List.set_cons_zero, List.set_cons_succ]
              refine wpAnyH_take (i := 5) (v := ?_) rfl (by kernel_rfl) (by kernel_rfl) (by kernel_rfl) (fun _ _ _ h => h) (Or.inl ⟨by rfl, ?_⟩) (by assumption) ?_
              rotate_left
              · (intro w hSw; (try dsimp only at hSw); go_simp; try with_reducible rfl)
              try simp only [List.getElem_toArray, List.getElem_cons_zero, List.getElem_cons_succ, Act.put, List.setIfInBounds_toArray, List.set_cons_zero, List.set_cons_succ]
              refine wpAnyH_take (i := 6) (v := ?_) rfl (by kernel_rfl) (by kernel_rfl) (by kernel_rfl) (fun _ _ _ h => h) (Or.inl ⟨by rfl, ?_⟩) (by assumption) ?_
              rotate_left
              · (intro w hSw; (try dsimp only at hSw); go_simp; try with_reducible rfl)
              try simp only [List.getElem_toArray, List.getElem_cons_zero, List.getElem_cons_succ, Act.put, List.setIfInBounds_toArray, List.set_cons_zero, List.set_cons_succ]
              refine wpAnyH_take (i := 7) (v := ?_) rfl (by kernel_rfl) (by kernel_rfl) (by kernel_rfl) (fun _ _ _ h => h) (Or.inl ⟨by rfl, ?_⟩) (by assumption) ?_
              rotate_left
              · (intro w hSw; (try dsimp only at hSw); go_simp; try with_reducible rfl)
              try simp only [List.getElem_toArray, List.getElem_cons_zero, List.getElem_cons_succ, Act.put, List.setIfInBounds_toArray, List.set_cons_zero, List.set_cons_succ]
              refine wpAnyH_ready (rs := [8]) (by kernel_rfl) (by simp) ?_
              refine AllReadyH.cons rfl (fun K hK => ?_) AllReadyH.nil
              try simp only [List.getElem_toArray]
              go_simp
              (go_at_call 43; refine (HS1.out _).mono ?_; rintro e w98 ⟨rfl, hw98⟩; subst w98)
              refine hK.out _ _ (by first | exact ⟨cx, cy⟩ | go_keep) (fun hHeld => ?_)
              clear hK K
              try simp only [List.getElem_toArray, List.getElem_cons_zero, List.getElem_cons_succ, Act.put, List.setIfInBounds_toArray, List.set_cons_zero, List.set_cons_succ]
              refine wpAnyH_take (i := 9) (v := ?_) rfl (by kernel_rfl) (by kernel_rfl) (by kernel_rfl) (fun _ _ _ h => h) (Or.inl ⟨by rfl, ?_⟩) (by assumption) ?_
              rotate_left
              · (intro w hSw; (try dsimp only at hSw); go_simp; try with_reducible rfl)
              try simp only [List.getElem_toArray, List.getElem_cons_zero, List.getElem_cons_succ, Act.put, List.setIfInBounds_toArray, List.set_cons_zero, List.set_cons_succ]
              refine wpAnyH_take (i := 10) (v := ?_) rfl (by kernel_rfl) (by kernel_rfl) (by kernel_rfl) (fun _ _ _ h => h) (Or.inl ⟨by rfl, ?_⟩) (by assumption) ?_
              rotate_left
              · (intro w hSw; (try dsimp only at hSw); go_simp; try with_reducible rfl)
              try simp only [List.getElem_toArray, List.getElem_cons_zero, List.getElem_cons_succ, Act.put, List.setIfInBounds_toArray, List.set_cons_zero, List.set_cons_succ]
              refine wpAnyH_take (i := 11) (v := ?_) rfl (by kernel_rfl) (by kernel_rfl) (by kernel_rfl) (fun _ _ _ h => h) (Or.inl ⟨by rfl, ?_⟩) (by assumption) ?_
              rotate_left
              · (intro w hSw; (try dsimp only at hSw); go_simp; try with_reducible rfl)
              try simp only [List.getElem_toArray, List.getElem_cons_zero, List.getElem_cons_succ, Act.put, List.setIfInBounds_toArray, List.set_cons_zero, List.set_cons_succ]
              refine wpAnyH_take (i := 12) (v := ?_) rfl (by kernel_rfl) (by kernel_rfl) (by kernel_rfl) (fun _ _ _ h => h) (Or.inl ⟨by rfl, ?_⟩) (by assumption) ?_
              rotate_left
              · (intro w hSw; (try dsimp only at hSw); go_simp; try with_reducible rfl)
              try simp only [List.getElem_toArray, List.getElem_cons_zero, List.getElem_cons_succ, Act.put, List.setIfInBounds_toArray, List.set_cons_zero, List.set_cons_succ]
              refine wpAnyH_take (i := 13) (v := ?_) rfl (by kernel_rfl) (by kernel_rfl) (by kernel_rfl) (fun _ _ _ h => h) (Or.inl ⟨by rfl, ?_⟩) (by assumption) ?_
              rotate_left
              · (intro w hSw; (try dsimp only at hSw); go_simp; try with_reducible rfl)
              try simp only [List.getElem_toArray, List.getElem_cons_zero, List.getElem_cons_succ, Act.put, List.setIfInBounds_toArray, List.set_cons_zero, List.set_cons_succ]
              refine wpAnyH_take (i := 14) (v := ?_) rfl (by kernel_rfl) (by kernel_rfl) (by kernel_rfl) (fun _ _ _ h => h) (Or.inl ⟨by rfl, ?_⟩) (by assumption) ?_
              rotate_left
              · (intro w hSw; (try dsimp only at hSw); go_simp; try with_reducible rfl)
              try simp only [List.getElem_toArray, List.getElem_cons_zero, List.getElem_cons_succ, Act.put, List.setIfInBounds_toArray, List.set_cons_zero, List.set_cons_succ]
              refine wpAnyH_take (i := 15) (v := ?_) rfl (by kernel_rfl) (by kernel_rfl) (by kernel_rfl) (fun _ _ _ h => h) (Or.inl ⟨by rfl, ?_⟩) (by assumption) ?_
              rotate_left
              · (intro w hSw; (try dsimp only at hSw); go_simp; try with_reducible rfl)
              try simp only [List.getElem_toArray, List.getElem_cons_zero, List.getElem_cons_succ, Act.put, List.setIfInBounds_toArray, List.set_cons_zero, List.set_cons_succ]
              refine wpAnyH_take (i := 16) (v := ?_) rfl (by kernel_rfl) (by kernel_rfl) (by kernel_rfl) (fun _ _ _ h => h) (Or.inl ⟨by rfl, ?_⟩) (by assumption) ?_
              rotate_left
              · (intro w hSw; (try dsimp only at hSw); go_simp; try with_reducible rfl)
              try simp only [List.getElem_toArray, List.getElem_cons_zero, List.getElem_cons_succ, Act.put, List.setIfInBounds_toArray, List.set_cons_zero, List.set_cons_succ]
              refine wpAnyH_take (i := 17) (v := ?_) rfl (by kernel_rfl) (by kernel_rfl) (by kernel_rfl) (fun _ _ _ h => h) (Or.inl ⟨by rfl, ?_⟩) (by assumption) ?_
              rotate_left
              · (intro w hSw; (try dsimp only at hSw); go_simp; try with_reducible rfl)
              try simp only [List.getElem_toArray, List.getElem_cons_zero, List.getElem_cons_succ, Act.put, List.setIfInBounds_toArray, List.set_cons_zero, List.set_cons_succ]
              refine wpAnyH_ready (rs := [18]) (by kernel_rfl) (by simp) ?_
              refine AllReadyH.cons rfl (fun K hK => ?_) AllReadyH.nil
              try simp only [List.getElem_toArray]
              go_simp
              (go_at_call 43; refine (HS2.out _).mono ?_; rintro e w98 ⟨rfl, hw98⟩; subst w98)
              refine hK.out _ _ (by first | exact ⟨cx, cy⟩ | go_keep) (fun hHeld => ?_)
              clear hK K
              try simp only [List.getElem_toArray, List.getElem_cons_zero, List.getElem_cons_succ, Act.put, List.setIfInBounds_toArray, List.set_cons_zero, List.set_cons_succ]
              refine wpAnyH_take (i := 19) (v := ?_) rfl (by kernel_rfl) (by kernel_rfl) (by kernel_rfl) (fun _ _ _ h => h) (Or.inl ⟨by rfl, ?_⟩) (by assumption) ?_
              rotate_left
              · (intro w hSw; (try dsimp only at hSw); go_simp; try with_reducible rfl)
              try simp only [List.getElem_toArray, List.getElem_cons_zero, List.getElem_cons_succ, Act.put, List.setIfInBounds_toArray, List.set_cons_zero, List.set_cons_succ]
              refine wpAnyH_done (by kernel_rfl) ?_ _
              all_goals
                go_wp2_with fail
                go_roundw
                case rel => exact ⟨q + 1, by omega, by go_num, by first | exact HBE.out | exact HBE.out.drew⟩
                case measure => simp [intOf]; omega
            · obtain rfl : q = j := by omega
              go_wp2_with fail
              go_roundw
              case rel => exact ⟨q + 1, by omega, by go_num, HBE.out⟩
              case measure => simp [intOf]; omega
        · obtain rfl : j = K := by omega
          obtain ⟨w7, hwr⟩ : ∃ w7, w7 = wr := ⟨_, rfl⟩
          subst hwr
          have HO := Lib.hid (fun w0 (h : Rd w0 (.slice a3 j c3) (toI D)) => (lawsHolds (.slice a3 j c3) (toI D) ((F0 : Nat) : Int) w0 h).mono (fun e w' h => And.intro h.1 h.2.symm))
          rw [hfm] at HO
          clear hbe HIT HAp HFa L1 L5 hfm HSN
          have x0 := X.out.out.at0
          have x1 := X.out.out.at1
          go_wp2_with fail
          clear x0 x1
          refine (HFT.out _ _ I1.out.rd (by first | exact HSW.out.next B.out | exact (show SW (World.drew _) from HSW.out.next B.out) | exact HSW.out.next (B.out.trans ((Below.refl _ _).drew)))).mono ?_
          rintro e w8 ⟨rfl, hb8⟩
          have hz8 := hb8.size
          replace X := Lib.hid (X.out.next hb8 X.out.lt)
          replace I1 := Lib.hid (I1.out.below hb8 (Nat.le_refl _))
          replace IA := Lib.hid (IA.out.below hb8 (Nat.le_refl _))
          replace B := Lib.hid (B.out.trans (hb8.mono B.out.size))
          clear hb8
          have x0 := X.out.out.at0
          have x1 := X.out.out.at1
          go_wp2_with fail
          clear x0 x1
          refine (HO.out _ IA.out.rd).mono ?_
          rintro e w9 ⟨rfl, hw9⟩
          subst w9
          have x0 := X.out.out.at0
          have x1 := X.out.out.at1
          go_wp2_with fail
          clear x0 x1
          go_ret
          exact ⟨rfl, by first | exact B.out | exact B.out.drew⟩
    · rw [Bool.not_eq_true] at hk
      have HI := Lib.hid (fun v w h hs => implTeachingsOf N v zs s w h hs)
      have HS := Lib.hid (fun v w h => specTeachingsOf N v zs s w h)
      have HV := Lib.hid (fun v w h => implValid N v zs w h)
      generalize tsoL N zs s = T at *
      by_cases hv : vldB N zs = true
      · have hh9 : hasB zs s = false := by rw [ftK, hv, Bool.true_and] at hk; exact hk
        rw [hv] at HV
        clear hv hk
        refine (HI.out _ _ I1.out.rd (by first | exact HSW.out.next B.out | exact (show SW (World.drew _) from HSW.out.next B.out) | exact HSW.out.next (B.out.trans ((Below.refl _ _).drew)))).mono ?_
        rintro e w3 ⟨a3, c3, rfl, hin3, hb3⟩
        have hz3 := hb3.size
        replace X := Lib.hid (X.out.next hb3 X.out.lt)
        replace I1 := Lib.hid (I1.out.below hb3 (Nat.le_refl _))
        replace B := Lib.hid (B.out.trans (hb3.mono B.out.size))
        have IA := Lib.hid (hin3.mono (Nat.zero_le _))
        clear hin3 hb3
        have x0 := X.out.out.at0
        have x1 := X.out.out.at1
        go_wp2_with fail
        clear x0 x1
        refine (HS.out _ _ I1.out.rd).mono ?_
        rintro e w4 ⟨a4, c4, rfl, hin4, hb4⟩
        have hz4 := hb4.size
        replace X := Lib.hid (X.out.next hb4 X.out.lt)
        replace I1 := Lib.hid (I1.out.below hb4 (Nat.le_refl _))
        replace IA := Lib.hid (IA.out.below hb4 (Nat.le_refl _))
        replace B := Lib.hid (B.out.trans (hb4.mono B.out.size))
        have IB := Lib.hid (hin4.mono (Nat.zero_le _))
        clear hin4 hb4
        have x0 := X.out.out.at0
        have x1 := X.out.out.at1
        go_wp2_with fail
        clear x0 x1
        have HQ := Lib.hid (lawsEqualInts _ _ T T _ IA.out.rd IB.out.rd)
        rw [eqB_self] at HQ
        refine (HQ.out).mono ?_
        rintro e w5 ⟨rfl, hd5⟩
        have hb5 : Below w4.heap.size w4 w5 := by obtain ⟨d, rfl⟩ := hd5; exact below_drewN (Below.refl _ _) d
        clear hd5
        have hz5 := hb5.size
        replace X := Lib.hid (X.out.next hb5 X.out.lt)
        replace I1 := Lib.hid (I1.out.below hb5 (Nat.le_refl _))
        replace IA := Lib.hid (IA.out.below hb5 (Nat.le_refl _))
        replace IB := Lib.hid (IB.out.below hb5 (Nat.le_refl _))
        replace B := Lib.hid (B.out.trans (hb5.mono B.out.size))
        clear hb5
        have x0 := X.out.out.at0
        have x1 := X.out.out.at1
        go_wp2_with fail
        clear x0 x1
        refine (HV.out _ _ I1.out.rd).mono ?_
        rintro e w6 ⟨rfl, hb6⟩
        have hz6 := hb6.size
        replace X := Lib.hid (X.out.next hb6 X.out.lt)
        replace I1 := Lib.hid (I1.out.below hb6 (Nat.le_refl _))
        replace IA := Lib.hid (IA.out.below hb6 (Nat.le_refl _))
        replace IB := Lib.hid (IB.out.below hb6 (Nat.le_refl _))
        replace B := Lib.hid (B.out.trans (hb6.mono B.out.size))
        clear hb6
        have x0 := X.out.out.at0
        have x1 := X.out.out.at1
        go_wp2_with fail
        clear x0 x1
        have HO := Lib.hid ((lawsHolds _ zs s _ (show Rd _ (.slice a1 L c1) zs from I1.out.rd)).mono (fun e w' h => And.intro h.1 h.2.symm))
        rw [hh9] at HO
        clear hh9
        refine (HO.out).mono ?_
        rintro e w7 ⟨rfl, hw7⟩
        subst w7
        have x0 := X.out.out.at0
        have x1 := X.out.out.at1
        go_wp2_with fail
        clear x0 x1
        refine (HS.out _ _ I1.out.rd).mono ?_
        rintro e w7 ⟨a7, c7, rfl, hin7, hb7⟩
        have hz7 := hb7.size
        replace X := Lib.hid (X.out.next hb7 X.out.lt)
        replace I1 := Lib.hid (I1.out.below hb7 (Nat.le_refl _))
        replace IA := Lib.hid (IA.out.below hb7 (Nat.le_refl _))
        replace IB := Lib.hid (IB.out.below hb7 (Nat.le_refl _))
        replace B := Lib.hid (B.out.trans (hb7.mono B.out.size))
        have IC := Lib.hid (hin7.mono (Nat.zero_le _))
        clear hin7 hb7
        have x0 := X.out.out.at0
        have x1 := X.out.out.at1
        go_wp2_with fail
        clear x0 x1
        have HQ2 := Lib.hid (lawsEqualInts _ _ T T _ IA.out.rd IC.out.rd)
        rw [eqB_self] at HQ2
        refine (HQ2.out).mono ?_
        rintro e w8 ⟨rfl, hd8⟩
        have hb8 : Below w7.heap.size w7 w8 := by obtain ⟨d, rfl⟩ := hd8; exact below_drewN (Below.refl _ _) d
        clear hd8
        have hz8 := hb8.size
        replace X := Lib.hid (X.out.next hb8 X.out.lt)
        replace I1 := Lib.hid (I1.out.below hb8 (Nat.le_refl _))
        replace IA := Lib.hid (IA.out.below hb8 (Nat.le_refl _))
        replace IB := Lib.hid (IB.out.below hb8 (Nat.le_refl _))
        replace IC := Lib.hid (IC.out.below hb8 (Nat.le_refl _))
        replace B := Lib.hid (B.out.trans (hb8.mono B.out.size))
        clear hb8
        have x0 := X.out.out.at0
        have x1 := X.out.out.at1
        go_wp2_with fail
        clear x0 x1
        go_ret
        exact ⟨rfl, by first | exact B.out | exact B.out.drew⟩
      · rw [Bool.not_eq_true] at hv
        rw [hv] at HV
        clear hv hk
        refine (HI.out _ _ I1.out.rd (by first | exact HSW.out.next B.out | exact (show SW (World.drew _) from HSW.out.next B.out) | exact HSW.out.next (B.out.trans ((Below.refl _ _).drew)))).mono ?_
        rintro e w3 ⟨a3, c3, rfl, hin3, hb3⟩
        have hz3 := hb3.size
        replace X := Lib.hid (X.out.next hb3 X.out.lt)
        replace I1 := Lib.hid (I1.out.below hb3 (Nat.le_refl _))
        replace B := Lib.hid (B.out.trans (hb3.mono B.out.size))
        have IA := Lib.hid (hin3.mono (Nat.zero_le _))
        clear hin3 hb3
        have x0 := X.out.out.at0
        have x1 := X.out.out.at1
        go_wp2_with fail
        clear x0 x1
        refine (HS.out _ _ I1.out.rd).mono ?_
        rintro e w4 ⟨a4, c4, rfl, hin4, hb4⟩
        have hz4 := hb4.size
        replace X := Lib.hid (X.out.next hb4 X.out.lt)
        replace I1 := Lib.hid (I1.out.below hb4 (Nat.le_refl _))
        replace IA := Lib.hid (IA.out.below hb4 (Nat.le_refl _))
        replace B := Lib.hid (B.out.trans (hb4.mono B.out.size))
        have IB := Lib.hid (hin4.mono (Nat.zero_le _))
        clear hin4 hb4
        have x0 := X.out.out.at0
        have x1 := X.out.out.at1
        go_wp2_with fail
        clear x0 x1
        have HQ := Lib.hid (lawsEqualInts _ _ T T _ IA.out.rd IB.out.rd)
        rw [eqB_self] at HQ
        refine (HQ.out).mono ?_
        rintro e w5 ⟨rfl, hd5⟩
        have hb5 : Below w4.heap.size w4 w5 := by obtain ⟨d, rfl⟩ := hd5; exact below_drewN (Below.refl _ _) d
        clear hd5
        have hz5 := hb5.size
        replace X := Lib.hid (X.out.next hb5 X.out.lt)
        replace I1 := Lib.hid (I1.out.below hb5 (Nat.le_refl _))
        replace IA := Lib.hid (IA.out.below hb5 (Nat.le_refl _))
        replace IB := Lib.hid (IB.out.below hb5 (Nat.le_refl _))
        replace B := Lib.hid (B.out.trans (hb5.mono B.out.size))
        clear hb5
        have x0 := X.out.out.at0
        have x1 := X.out.out.at1
        go_wp2_with fail
        clear x0 x1
        refine (HV.out _ _ I1.out.rd).mono ?_
        rintro e w6 ⟨rfl, hb6⟩
        have hz6 := hb6.size
        replace X := Lib.hid (X.out.next hb6 X.out.lt)
        replace I1 := Lib.hid (I1.out.below hb6 (Nat.le_refl _))
        replace IA := Lib.hid (IA.out.below hb6 (Nat.le_refl _))
        replace IB := Lib.hid (IB.out.below hb6 (Nat.le_refl _))
        replace B := Lib.hid (B.out.trans (hb6.mono B.out.size))
        clear hb6
        have x0 := X.out.out.at0
        have x1 := X.out.out.at1
        go_wp2_with fail
        clear x0 x1
        refine (HS.out _ _ I1.out.rd).mono ?_
        rintro e w7 ⟨a7, c7, rfl, hin7, hb7⟩
        have hz7 := hb7.size
        replace X := Lib.hid (X.out.next hb7 X.out.lt)
        replace I1 := Lib.hid (I1.out.below hb7 (Nat.le_refl _))
        replace IA := Lib.hid (IA.out.below hb7 (Nat.le_refl _))
        replace IB := Lib.hid (IB.out.below hb7 (Nat.le_refl _))
        replace B := Lib.hid (B.out.trans (hb7.mono B.out.size))
        have IC := Lib.hid (hin7.mono (Nat.zero_le _))
        clear hin7 hb7
        have x0 := X.out.out.at0
        have x1 := X.out.out.at1
        go_wp2_with fail
        clear x0 x1
        have HQ2 := Lib.hid (lawsEqualInts _ _ T T _ IA.out.rd IC.out.rd)
        rw [eqB_self] at HQ2
        refine (HQ2.out).mono ?_
        rintro e w8 ⟨rfl, hd8⟩
        have hb8 : Below w7.heap.size w7 w8 := by obtain ⟨d, rfl⟩ := hd8; exact below_drewN (Below.refl _ _) d
        clear hd8
        have hz8 := hb8.size
        replace X := Lib.hid (X.out.next hb8 X.out.lt)
        replace I1 := Lib.hid (I1.out.below hb8 (Nat.le_refl _))
        replace IA := Lib.hid (IA.out.below hb8 (Nat.le_refl _))
        replace IB := Lib.hid (IB.out.below hb8 (Nat.le_refl _))
        replace IC := Lib.hid (IC.out.below hb8 (Nat.le_refl _))
        replace B := Lib.hid (B.out.trans (hb8.mono B.out.size))
        clear hb8
        have x0 := X.out.out.at0
        have x1 := X.out.out.at1
        go_wp2_with fail
        clear x0 x1
        go_ret
        exact ⟨rfl, by first | exact B.out | exact B.out.drew⟩
  · go_enter Tryd.func7, Tryd.ntmps7
    go_wp2_with fail
    go_ret
    exact ⟨rfl, Below.refl _ _⟩

end Go.Proofs.YthmipnflbiclbaaDoor
