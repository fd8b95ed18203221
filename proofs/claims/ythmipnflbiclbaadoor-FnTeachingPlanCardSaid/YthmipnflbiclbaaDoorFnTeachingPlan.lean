/- FnTeachingPlan's walk: plans teach. Conditions: the code is a slice of bytes. -/
import Derived.Test.YthmipnflbiclbaaDoorDrawsTp
import Derived.Test.YthmipnflbiclbaaDoorLab
import Derived.Test.YthmipnflbiclbaaDoorLpI
import Derived.Test.YthmipnflbiclbaaDoorPlnI
import Derived.Test.YthmipnflbiclbaaDoorRepH
import Derived.Test.YthmipnflbiclbaaDoorTpP
import Derived.Test.YthmipnflbiclbaaDoorZJ
import Derived.Test.YthmipnflbiclbaaDoorZK
namespace Go.Proofs.YthmipnflbiclbaaDoor
open Go.RowKit

theorem eqB_self (xs : List Int) : eqB xs xs = true := eqB_of rfl (fun _ _ => rfl)

set_option maxHeartbeats 6400000 in
set_option maxRecDepth 100000 in
theorem walkFnTeachingPlan (a : Option Addr) (b off n cap : Nat) (w : World) (hc : n ≤ cap) (hcap : cap ≤ maxLen) (h : Byt w a b off n) (hsw : SW w) :
    Calls Tryd.prog 5 #[.slice a n cap] w fun e w' => e = .returned (.bool true) ∧ Below w.heap.size w w' := by
  have HSW := Lib.hid hsw
  clear hsw
  by_cases hn : n ≤ 1048576
  · have HD := Lib.hid (dDrawTeachingPlan a b off n cap w hc hn hcap h)
    clear h
    go_enter Tryd.func5, Tryd.ntmps5
    go_wp2_with fail
    refine HD.out.mono ?_
    rintro e w1 ⟨N, zs, hbd, a1, c1, rfl, hin, hb⟩
    generalize hL : zs.length = L at *
    have X := Lib.hid (Bx.new N (.slice a1 L c1) w1)
    have I1 := Lib.hid ((hin.mono (Nat.zero_le _)).alloc (Obj.cells #[.int .i64 N, .slice a1 L c1] 25))
    have B := Lib.hid (hb.alloc hb.size (Obj.cells #[.int .i64 N, .slice a1 L c1] 25))
    have HZ2 := Lib.hid (show (w1.alloc (Obj.cells #[.int .i64 N, .slice a1 L c1] 25)).heap.size = w1.heap.size + 1 by simp)
    have hz1 := hb.size
    clear hin hb HD
    go_wp2_with fail
    generalize (w1.alloc (Obj.cells #[.int .i64 N, .slice a1 L c1] 25)) = w2 at *
    have hz2 := HZ2.out
    generalize ho : w1.heap.size = o at *
    obtain ⟨hN0, hN1, hL34⟩ := hbd
    by_cases hv : vldB N zs = true
    · obtain ⟨m, ns, rfl, rfl, hcl⟩ := vldB_cls hv
      have hL2 : ns.length = L := by rw [← hL, toI_length]
      have hm := hcl.pts
      have h32 := hcl.length
      rw [hL2] at h32
      have HI := Lib.hid (fun v w h hs => implTeachingPlan (m : Int) v (toI ns) w h hs)
      have HS := Lib.hid (fun v w h => specTeachingPlan (m : Int) v (toI ns) w h)
      have HV := Lib.hid (fun v w h => implValid (m : Int) v (toI ns) w h)
      have HR := Lib.hid (fun v u w h hu => implIsRepresentation (m : Int) v u (toI ns) (toI (plnL m ns)) w h hu)
      rw [pln_rep hcl hv] at HR
      rw [tpB_in hv] at HI HS
      rw [hv] at HV
      have HLb := Lib.hid (fun t (ht : t ∈ ns) v u w (h : Rd w v (toI ns)) (hu : Rd w u (toI (pts (plV m (lys ns) t)))) => show Calls Tryd.prog 28 #[.agg #[.int .i64 (m : Int), v], u, .int .i64 (t : Int)] w (RetLab ((toI (pts (plV m (lys ns) t))).map (lab1 t)) true w) by
        have h9 := implLabelsOf (m : Int) v (toI ns) u (toI (pts (plV m (lys ns) t))) (t : Int) w h hu
        have hlb := lab_pts hcl hv (plV_lt hcl ht) ht
        rw [labL, if_pos hlb, hlb, Int.toNat_natCast] at h9
        exact h9)
      have HLp := Lib.hid (fun t (ht : t ∈ ns) v u w (h : Rd w v (toI ns)) (hu : RdE w u ((toI (pts (plV m (lys ns) t))).map (lab1 t))) (hs : SW w) => show Calls Tryd.prog 30 #[.agg #[.int .i64 (m : Int), v], u] w fun e w' => e = .returned (.tuple #[.int .i64 (t : Int), .bool true]) ∧ Below w.heap.size w w' by
        have h9 := implLearnPlan (m : Int) v (toI ns) u ((toI (pts (plV m (lys ns) t))).map (lab1 t)) w h hu hs
        rw [lp_teach hcl hv ht] at h9
        exact h9)
      have HY := Lib.hid (fun (j : Nat) (hj : j < L) => show ns.getD j 0 ∈ ns ∧ (plnL m ns).getD j 0 = plV m (lys ns) (ns.getD j 0) ∧ plV m (lys ns) (ns.getD j 0) < 32 by
        have hmem : ns.getD j 0 ∈ ns := getD_of_lt (by omega)
        exact ⟨hmem, pln_at (by omega), Nat.lt_of_lt_of_le (plV_lt hcl hmem) (pow_le_32 hm)⟩)
      have HKl := Lib.hid (show (toI (plnL m ns)).length = L by rw [toI_length, plnL_len, hL2])
      generalize plnL m ns = A at *
      generalize plV m (lys ns) = f at *
      clear hv hcl
      refine (HI.out _ _ I1.out.rd (by first | exact HSW.out.next B.out | exact (show SW (World.drew _) from HSW.out.next B.out) | exact HSW.out.next (B.out.trans ((Below.refl _ _).drew)))).mono ?_
      rintro e w3 ⟨a3, c3, rfl, hin3, hb3⟩
      rw [HKl.out] at hin3 ⊢
      have hz3 := hb3.size
      replace X := Lib.hid (X.out.next hb3 X.out.lt)
      replace I1 := Lib.hid (I1.out.below hb3 (Nat.le_refl _))
      replace B := Lib.hid (B.out.trans (hb3.mono B.out.size))
      have IA := Lib.hid (hin3.mono (Nat.zero_le _))
      clear hin3 hb3
      have x0 := X.out.out.at0
      have x1 := X.out.out.at1
      go_wp2_with fail
      clear x0 x1
      refine (HS.out _ _ I1.out.rd).mono ?_
      rintro e w4 ⟨a4, c4, rfl, hin4, hb4⟩
      rw [HKl.out] at hin4 ⊢
      have hz4 := hb4.size
      replace X := Lib.hid (X.out.next hb4 X.out.lt)
      replace I1 := Lib.hid (I1.out.below hb4 (Nat.le_refl _))
      replace IA := Lib.hid (IA.out.below hb4 (Nat.le_refl _))
      replace B := Lib.hid (B.out.trans (hb4.mono B.out.size))
      have IB := Lib.hid (hin4.mono (Nat.zero_le _))
      clear hin4 hb4
      have x0 := X.out.out.at0
      have x1 := X.out.out.at1
      go_wp2_with fail
      clear x0 x1
      have HQ := Lib.hid (lawsEqualInts _ _ (toI A) (toI A) _ IA.out.rd IB.out.rd)
      rw [eqB_self] at HQ
      refine (HQ.out).mono ?_
      rintro e w5 ⟨rfl, hd5⟩
      have hb5 : Below w4.heap.size w4 w5 := by obtain ⟨d, rfl⟩ := hd5; exact below_drewN (Below.refl _ _) d
      clear hd5
      have hz5 := hb5.size
      replace X := Lib.hid (X.out.next hb5 X.out.lt)
      replace I1 := Lib.hid (I1.out.below hb5 (Nat.le_refl _))
      replace IA := Lib.hid (IA.out.below hb5 (Nat.le_refl _))
      replace IB := Lib.hid (IB.out.below hb5 (Nat.le_refl _))
      replace B := Lib.hid (B.out.trans (hb5.mono B.out.size))
      clear hb5
      have x0 := X.out.out.at0
      have x1 := X.out.out.at1
      go_wp2_with fail
      clear x0 x1
      refine (HV.out _ _ I1.out.rd).mono ?_
      rintro e w6 ⟨rfl, hb6⟩
      have hz6 := hb6.size
      replace X := Lib.hid (X.out.next hb6 X.out.lt)
      replace I1 := Lib.hid (I1.out.below hb6 (Nat.le_refl _))
      replace IA := Lib.hid (IA.out.below hb6 (Nat.le_refl _))
      replace IB := Lib.hid (IB.out.below hb6 (Nat.le_refl _))
      replace B := Lib.hid (B.out.trans (hb6.mono B.out.size))
      clear hb6
      clear IB HI HS HV HQ
      obtain ⟨ar, br, offr, capr, er, l1, -, l5⟩ := IA.out.rd
      rw [HKl.out] at er l1 l5
      simp only [Value.slice.injEq] at er
      obtain ⟨rfl, -, rfl⟩ := er
      obtain ⟨sr, bs, offs, caps, es, g1, -, g5⟩ := I1.out.rd
      simp only [Value.slice.injEq] at es
      obtain ⟨rfl, -, rfl⟩ := es
      rw [hL] at g1 g5
      have L1 := Lib.hid l1
      have L5 := Lib.hid (fun j (hj : j < L) => show w6.cell? ⟨br, offr + j, none⟩ = some (.int .i64 ((A.getD j 0 : Nat) : Int)) by have h9 := l5 j hj; rwa [toI_getD] at h9)
      have G1 := Lib.hid g1
      have G5 := Lib.hid (fun j (hj : j < L) => show w6.cell? ⟨bs, offs + j, none⟩ = some (.int .i64 ((ns.getD j 0 : Nat) : Int)) by have h9 := g5 j hj; rwa [toI_getD] at h9)
      clear l1 l5 g1 g5
      have x0 := X.out.out.at0
      have x1 := X.out.out.at1
      go_wp2_with fail
      clear x0 x1
      go_loopw [5] (fun i wr => ∃ j : Nat, j ≤ L ∧ i = .int .i64 j ∧ Below w6.heap.size w6 wr) (fun i _ => L - (intOf i).toNat)
      case atStart => exact ⟨0, Nat.zero_le _, rfl, Below.refl _ _⟩
      case round =>
        obtain ⟨j, hj, rfl, hbe⟩ := hrel
        have HBE := Lib.hid hbe
        have hzr := hbe.size
        replace X := Lib.hid (X.out.next hbe X.out.lt)
        replace I1 := Lib.hid (I1.out.below hbe (Nat.le_refl _))
        replace IA := Lib.hid (IA.out.below hbe (Nat.le_refl _))
        replace B := Lib.hid (B.out.trans (hbe.mono B.out.size))
        by_cases hlt : j < L
        · obtain ⟨rfl, hbl⟩ := L1.out (by omega)
          obtain ⟨rfl, hgl⟩ := G1.out (by omega)
          have Hcx := Lib.hid ((hbe.cell (p := ⟨br, offr + j, none⟩) hbl).trans (L5.out j hlt))
          have Hcy := Lib.hid ((hbe.cell (p := ⟨bs, offs + j, none⟩) hgl).trans (G5.out j hlt))
          obtain ⟨hm1, hA1, hs32⟩ := HY.out j hlt
          rw [hA1] at Hcx
          have HLj := Lib.hid (HLb.out _ hm1)
          have HPj := Lib.hid (HLp.out _ hm1)
          obtain ⟨t, ht⟩ : ∃ t, t = ns.getD j 0 := ⟨_, rfl⟩
          rw [← ht] at Hcx Hcy HLj HPj hs32
          clear ht hm1 hA1
          generalize f t = s at *
          have HPt := Lib.hid (lawsPoints s hs32)
          generalize pts s = Q at *
          have HQl := Lib.hid (toI_length Q)
          have HEl := Lib.hid (show ((toI Q).map (lab1 t)).length = Q.length by rw [List.length_map, toI_length])
          generalize (toI Q).map (lab1 t) = E at *
          have hjI : (j : Int) < (L : Int) := by omega
          have htt : ((t : Int) != (t : Int)) = false := by simp
          obtain ⟨w7, hwr⟩ : ∃ w7, w7 = wr := ⟨_, rfl⟩
          subst hwr
          have hbl2 : br < w7.heap.size := by omega
          have hgl2 : bs < w7.heap.size := by omega
          clear hbe HLb HLp HY L1 L5 G1 G5 HR
          have x0 := X.out.out.at0
          have x1 := X.out.out.at1
          have cx := Hcx.out
          have cy := Hcy.out
          go_wp2_with fail
          refine wp_region_held_drew (S := fun w' => w'.cell? ⟨o, 0, none⟩ = some (.int .i64 (m : Int)) ∧ w'.cell? ⟨o, 1, none⟩ = some (.slice (some ⟨bs, offs, none⟩) L c1) ∧ w'.cell? ⟨br, offr + j, none⟩ = some (.int .i64 (s : Int)) ∧ w'.cell? ⟨bs, offs + j, none⟩ = some (.int .i64 (t : Int))) (by kernel_rfl) (by first | exact ⟨x0, x1, cx, cy⟩ | go_keep) (fun hHeld => ?_)
          refine wpAnyH_take (i := 0) (v := ?_) rfl (by kernel_rfl) (by kernel_rfl) (by kernel_rfl) (fun _ _ _ h => h) (Or.inl ⟨by rfl, ?_⟩) (by assumption) ?_
          rotate_left
          · (intro w hSw; (try dsimp only at hSw); go_simp; try with_reducible rfl)
          try simp only [List.getElem_toArray, List.getElem_cons_zero, Act.put, List.setIfInBounds_toArray, List.set_cons_zero, List.set_cons_succ]
          refine wpAnyH_take (i := 1) (v := ?_) rfl (by kernel_rfl) (by kernel_rfl) (by kernel_rfl) (fun _ _ _ h => h) (Or.inl ⟨by rfl, ?_⟩) (by assumption) ?_
          rotate_left
          · (intro w hSw; (try dsimp only at hSw); go_simp; try with_reducible rfl)
          try simp only [List.getElem_toArray, List.getElem_cons_zero, List.getElem_cons_succ, Act.put, List.setIfInBounds_toArray, List.set_cons_zero, List.set_cons_succ]
          refine wpAnyH_take (i := 2) (v := ?_) rfl (by kernel_rfl) (by kernel_rfl) (by kernel_rfl) (fun _ _ _ h => h) (Or.inl ⟨by rfl, ?_⟩) (by assumption) ?_
          rotate_left
          · (intro w hSw; (try dsimp only at hSw); go_simp; try with_reducible rfl)
          try simp only [List.getElem_toArray, List.getElem_cons_zero, List.getElem_cons_succ, Act.put, List.setIfInBounds_toArray, List.set_cons_zero, List.set_cons_succ]
          refine wpAnyH_take (i := 3) (v := ?_) rfl (by kernel_rfl) (by kernel_rfl) (by kernel_rfl) (fun _ _ _ h => h) (Or.inl ⟨by rfl, ?_⟩) (by assumption) ?_
          rotate_left
          · (intro w hSw; (try dsimp only at hSw); go_simp; try with_reducible rfl)
          try simp only [List.getElem_toArray, List.getElem_cons_zero, List.getElem_cons_succ, Act.put, List.setIfInBounds_toArray, List.set_cons_zero, List.set_cons_succ]
          refine wpAnyH_take (i := 4) (v := ?_) rfl (by kernel_rfl) (by kernel_rfl) (by kernel_rfl) (fun _ _ _ h => h) (Or.inl ⟨by rfl, ?_⟩) (by assumption) ?_
          rotate_left
          · (intro w hSw; (try dsimp only at hSw); go_simp; try with_reducible rfl)
          try simp only [List.getElem_toArray, List.getElem_cons_zero, List.getElem_cons_succ, Act.put, List.setIfInBounds_toArray, List.set_cons_zero, List.set_cons_succ]
          refine wpAnyH_take (i := 6) (v := ?_) rfl (by kernel_rfl) (by kernel_rfl) (by kernel_rfl) (fun _ _ _ h => h) (Or.inl ⟨by rfl, ?_⟩) (by assumption) ?_
          rotate_left
          · (intro w hSw; (try dsimp only at hSw); go_simp; try with_reducible rfl)
          try simp only [List.getElem_toArray, List.getElem_cons_zero, List.getElem_cons_succ, Act.put, List.setIfInBounds_toArray, List.set_cons_zero, List.set_cons_succ]
          refine wpAnyH_take (i := 7) (v := ?_) rfl (by kernel_rfl) (by kernel_rfl) (by kernel_rfl) (fun _ _ _ h => h) (Or.inl ⟨by rfl, ?_⟩) (by assumption) ?_
          rotate_left
          · (intro w hSw; (try dsimp only at hSw); go_simp; try with_reducible rfl)
          try simp only [List.getElem_toArray, List.getElem_cons_zero, List.getElem_cons_succ, Act.put, List.setIfInBounds_toArray, List.set_cons_zero, List.set_cons_succ]
          refine wpAnyH_take (i := 8) (v := ?_) rfl (by kernel_rfl) (by kernel_rfl) (by kernel_rfl) (fun _ _ _ h => h) (Or.inl ⟨by rfl, ?_⟩) (by assumption) ?_
          rotate_left
          · (intro w hSw; (try dsimp only at hSw); go_simp; try with_reducible rfl)
          try simp only [List.getElem_toArray, List.getElem_cons_zero, List.getElem_cons_succ, Act.put, List.setIfInBounds_toArray, List.set_cons_zero, List.set_cons_succ]
          refine wpAnyH_take (i := 9) (v := ?_) rfl (by kernel_rfl) (by kernel_rfl) (by kernel_rfl) (fun _ _ _ h => h) (Or.inl ⟨by rfl, ?_⟩) (by assumption) ?_
          rotate_left
          · (intro w hSw; (try dsimp only at hSw); go_simp; try with_reducible rfl)
          try simp only [List.getElem_toArray, List.getElem_cons_zero, List.getElem_cons_succ, Act.put, List.setIfInBounds_toArray, List.set_cons_zero, List.set_cons_succ]
          refine wpAnyH_take (i := 10) (v := ?_) rfl (by kernel_rfl) (by kernel_rfl) (by kernel_rfl) (fun _ _ _ h => h) (Or.inl ⟨by rfl, ?_⟩) (by assumption) ?_
          rotate_left
          · (intro w hSw; (try dsimp only at hSw); go_simp; try with_reducible rfl)
          try simp only [List.getElem_toArray, List.getElem_cons_zero, List.getElem_cons_succ, Act.put, List.setIfInBounds_toArray, List.set_cons_zero, List.set_cons_succ]
          refine wpAnyH_ready (rs := [5]) (by kernel_rfl) (by simp) ?_
          refine AllReadyH.cons rfl (fun K hK => ?_) AllReadyH.nil
          try simp only [List.getElem_toArray]
          go_simp
          (go_at_call 29; refine (HPt.out _).mono ?_; rintro e w8 ⟨a8, c8, rfl, hin8, hbd⟩; rw [HQl.out] at hin8; try rw [HQl.out]; have hb8 : Below w7.heap.size w7 w8 := (by first | exact hbd | exact ⟨hbd.os, hbd.tape, hbd.output, hbd.size, hbd.block⟩); clear hbd; have hz8 := hb8.size; replace X := Lib.hid (X.out.next hb8 X.out.lt); replace I1 := Lib.hid (I1.out.below hb8 (Nat.le_refl _)); replace IA := Lib.hid (IA.out.below hb8 (Nat.le_refl _)); replace B := Lib.hid (B.out.trans (hb8.mono B.out.size)); replace Hcx := Lib.hid ((hb8.cell (p := ⟨br, offr + j, none⟩) (by show br < _; omega)).trans Hcx.out); replace Hcy := Lib.hid ((hb8.cell (p := ⟨bs, offs + j, none⟩) (by show bs < _; omega)).trans Hcy.out); replace HBE := Lib.hid (HBE.out.trans (hb8.mono (by omega))); have IQ := Lib.hid (hin8.mono (Nat.zero_le _)); clear hin8; clear hb8; have x0_8 := X.out.out.at0; have x1_8 := X.out.out.at1; have cx_8 := Hcx.out; have cy_8 := Hcy.out)
          refine hK.out _ _ (by first | exact ⟨x0_8, x1_8, cx_8, cy_8⟩ | exact ⟨x0, x1, cx, cy⟩ | go_keep) (fun hHeld => ?_)
          clear hK K
          try simp only [List.getElem_toArray, List.getElem_cons_zero, List.getElem_cons_succ, Act.put, List.setIfInBounds_toArray, List.set_cons_zero, List.set_cons_succ]
          refine wpAnyH_ready (rs := [11]) (by kernel_rfl) (by simp) ?_
          refine AllReadyH.cons rfl (fun K hK => ?_) AllReadyH.nil
          try simp only [List.getElem_toArray]
          go_simp
          (go_at_call 28; refine (HLj.out _ _ _ (by first | exact I1.out.rd | exact I1.out.rd.below (k := w9.heap.size) ((Below.refl _ _).drew) (Nat.le_refl _)) (by first | exact IQ.out.rd | exact IQ.out.rd.below (k := w9.heap.size) ((Below.refl _ _).drew) (Nat.le_refl _))).mono ?_; rintro e w9 ⟨a9, c9, rfl, hex9, hb9⟩; rw [HEl.out] at hex9; have hz9 := hb9.size; replace X := Lib.hid (X.out.next hb9 X.out.lt); replace I1 := Lib.hid (I1.out.below hb9 (Nat.le_refl _)); replace IA := Lib.hid (IA.out.below hb9 (Nat.le_refl _)); replace IQ := Lib.hid (IQ.out.below hb9 (Nat.le_refl _)); replace B := Lib.hid (B.out.trans (hb9.mono B.out.size)); replace Hcx := Lib.hid ((hb9.cell (p := ⟨br, offr + j, none⟩) (by show br < _; omega)).trans Hcx.out); replace Hcy := Lib.hid ((hb9.cell (p := ⟨bs, offs + j, none⟩) (by show bs < _; omega)).trans Hcy.out); replace HBE := Lib.hid (HBE.out.trans (hb9.mono (by omega))); have EX := Lib.hid (hex9.mono (Nat.zero_le _)); clear hex9 hb9; try rw [HEl.out]; have x0_9 := X.out.out.at0; have x1_9 := X.out.out.at1; have cx_9 := Hcx.out; have cy_9 := Hcy.out)
          refine hK.out _ _ (by first | exact ⟨x0_9, x1_9, cx_9, cy_9⟩ | exact ⟨x0_8, x1_8, cx_8, cy_8⟩ | exact ⟨x0, x1, cx, cy⟩ | go_keep) (fun hHeld => ?_)
          clear hK K
          try simp only [List.getElem_toArray, List.getElem_cons_zero, List.getElem_cons_succ, Act.put, List.setIfInBounds_toArray, List.set_cons_zero, List.set_cons_succ]
          refine wpAnyH_take (i := 12) (v := ?_) rfl (by kernel_rfl) (by kernel_rfl) (by kernel_rfl) (fun _ _ _ h => h) (Or.inl ⟨by rfl, ?_⟩) (by assumption) ?_
          rotate_left
          · (intro w hSw; (try dsimp only at hSw); go_simp; try with_reducible rfl)
          try simp only [List.getElem_toArray, List.getElem_cons_zero, List.getElem_cons_succ, Act.put, List.setIfInBounds_toArray, List.set_cons_zero, List.set_cons_succ]
          refine wpAnyH_take (i := 13) (v := ?_) rfl (by kernel_rfl) (by kernel_rfl) (by kernel_rfl) (fun _ _ _ h => h) (Or.inl ⟨by rfl, ?_⟩) (by assumption) ?_
          rotate_left
          · (intro w hSw; (try dsimp only at hSw); go_simp; try with_reducible rfl)
          try simp only [List.getElem_toArray, List.getElem_cons_zero, List.getElem_cons_succ, Act.put, List.setIfInBounds_toArray, List.set_cons_zero, List.set_cons_succ]
          refine wpAnyH_take (i := 14) (v := ?_) rfl (by kernel_rfl) (by kernel_rfl) (by kernel_rfl) (fun _ _ _ h => h) (Or.inl ⟨by rfl, ?_⟩) (by assumption) ?_
          rotate_left
          · (intro w hSw; (try dsimp only at hSw); go_simp; try with_reducible rfl)
          try simp only [List.getElem_toArray, List.getElem_cons_zero, List.getElem_cons_succ, Act.put, List.setIfInBounds_toArray, List.set_cons_zero, List.set_cons_succ]
          refine wpAnyH_take (i := 15) (v := ?_) rfl (by kernel_rfl) (by kernel_rfl) (by kernel_rfl) (fun _ _ _ h => h) (Or.inl ⟨by rfl, ?_⟩) (by assumption) ?_
          rotate_left
          · (intro w hSw; (try dsimp only at hSw); go_simp; try with_reducible rfl)
          try simp only [List.getElem_toArray, List.getElem_cons_zero, List.getElem_cons_succ, Act.put, List.setIfInBounds_toArray, List.set_cons_zero, List.set_cons_succ]
          refine wpAnyH_take (i := 16) (v := ?_) rfl (by kernel_rfl) (by kernel_rfl) (by kernel_rfl) (fun _ _ _ h => h) (Or.inl ⟨by rfl, ?_⟩) (by assumption) ?_
          rotate_left
          · (intro w hSw; (try dsimp only at hSw); go_simp; try with_reducible rfl)
          try simp only [List.getElem_toArray, List.getElem_cons_zero, List.getElem_cons_succ, Act.put, List.setIfInBounds_toArray, List.set_cons_zero, List.set_cons_succ]
          refine wpAnyH_done (by kernel_rfl) ?_ _
          go_wp2_with fail
          refine (HPj.out _ _ _ I1.out.rd EX.out.rd (by first | exact HSW.out.next B.out | exact (show SW (World.drew _) from HSW.out.next B.out) | exact HSW.out.next (B.out.trans ((Below.refl _ _).drew)))).mono ?_
          rintro e w10 ⟨rfl, hb10⟩
          have hz10 := hb10.size
          replace X := Lib.hid (X.out.next hb10 X.out.lt)
          replace I1 := Lib.hid (I1.out.below hb10 (Nat.le_refl _))
          replace IA := Lib.hid (IA.out.below hb10 (Nat.le_refl _))
          replace IQ := Lib.hid (IQ.out.below hb10 (Nat.le_refl _))
          replace EX := Lib.hid (EX.out.below hb10 (Nat.le_refl _))
          replace B := Lib.hid (B.out.trans (hb10.mono B.out.size))
          replace Hcx := Lib.hid ((hb10.cell (p := ⟨br, offr + j, none⟩) (by show br < _; omega)).trans Hcx.out)
          replace Hcy := Lib.hid ((hb10.cell (p := ⟨bs, offs + j, none⟩) (by show bs < _; omega)).trans Hcy.out)
          replace HBE := Lib.hid (HBE.out.trans (hb10.mono (by omega)))
          clear hb10
          have x0 := X.out.out.at0
          have x1 := X.out.out.at1
          have cx := Hcx.out
          have cy := Hcy.out
          go_wp2_with fail
          go_roundw
          case rel => exact ⟨j + 1, by omega, by go_num, HBE.out⟩
          case measure => simp [intOf]; omega
        · obtain rfl : j = L := by omega
          obtain ⟨w7, hwr⟩ : ∃ w7, w7 = wr := ⟨_, rfl⟩
          subst hwr
          clear hbe HLb HLp HY L1 L5 G1 G5
          have x0 := X.out.out.at0
          have x1 := X.out.out.at1
          go_wp2_with fail
          clear x0 x1
          refine (HR.out _ _ _ I1.out.rd IA.out.rd).mono ?_
          rintro e w8 ⟨rfl, hb8⟩
          have hz8 := hb8.size
          replace X := Lib.hid (X.out.next hb8 X.out.lt)
          replace I1 := Lib.hid (I1.out.below hb8 (Nat.le_refl _))
          replace IA := Lib.hid (IA.out.below hb8 (Nat.le_refl _))
          replace B := Lib.hid (B.out.trans (hb8.mono B.out.size))
          clear hb8
          have x0 := X.out.out.at0
          have x1 := X.out.out.at1
          go_wp2_with fail
          clear x0 x1
          go_ret
          exact ⟨rfl, by first | exact B.out | exact B.out.drew⟩
    · rw [Bool.not_eq_true] at hv
      have HI := Lib.hid (fun v w h hs => implTeachingPlan N v zs w h hs)
      have HS := Lib.hid (fun v w h => specTeachingPlan N v zs w h)
      have HV := Lib.hid (fun v w h => implValid N v zs w h)
      rw [tpB_bad hv] at HI HS
      rw [hv] at HV
      clear hv
      refine (HI.out _ _ I1.out.rd (by first | exact HSW.out.next B.out | exact (show SW (World.drew _) from HSW.out.next B.out) | exact HSW.out.next (B.out.trans ((Below.refl _ _).drew)))).mono ?_
      rintro e w3 ⟨a3, c3, rfl, hin3, hb3⟩
      have hz3 := hb3.size
      replace X := Lib.hid (X.out.next hb3 X.out.lt)
      replace I1 := Lib.hid (I1.out.below hb3 (Nat.le_refl _))
      replace B := Lib.hid (B.out.trans (hb3.mono B.out.size))
      have IA := Lib.hid (hin3.mono (Nat.zero_le _))
      clear hin3 hb3
      have x0 := X.out.out.at0
      have x1 := X.out.out.at1
      go_wp2_with fail
      clear x0 x1
      refine (HS.out _ _ I1.out.rd).mono ?_
      rintro e w4 ⟨a4, c4, rfl, hin4, hb4⟩
      have hz4 := hb4.size
      replace X := Lib.hid (X.out.next hb4 X.out.lt)
      replace I1 := Lib.hid (I1.out.below hb4 (Nat.le_refl _))
      replace IA := Lib.hid (IA.out.below hb4 (Nat.le_refl _))
      replace B := Lib.hid (B.out.trans (hb4.mono B.out.size))
      have IB := Lib.hid (hin4.mono (Nat.zero_le _))
      clear hin4 hb4
      have x0 := X.out.out.at0
      have x1 := X.out.out.at1
      go_wp2_with fail
      clear x0 x1
      have HQ := Lib.hid (lawsEqualInts _ _ [] [] _ IA.out.rd IB.out.rd)
      rw [eqB_self] at HQ
      refine (HQ.out).mono ?_
      rintro e w5 ⟨rfl, hd5⟩
      have hb5 : Below w4.heap.size w4 w5 := by obtain ⟨d, rfl⟩ := hd5; exact below_drewN (Below.refl _ _) d
      clear hd5
      have hz5 := hb5.size
      replace X := Lib.hid (X.out.next hb5 X.out.lt)
      replace I1 := Lib.hid (I1.out.below hb5 (Nat.le_refl _))
      replace IA := Lib.hid (IA.out.below hb5 (Nat.le_refl _))
      replace IB := Lib.hid (IB.out.below hb5 (Nat.le_refl _))
      replace B := Lib.hid (B.out.trans (hb5.mono B.out.size))
      clear hb5
      have x0 := X.out.out.at0
      have x1 := X.out.out.at1
      go_wp2_with fail
      clear x0 x1
      refine (HV.out _ _ I1.out.rd).mono ?_
      rintro e w6 ⟨rfl, hb6⟩
      have hz6 := hb6.size
      replace X := Lib.hid (X.out.next hb6 X.out.lt)
      replace I1 := Lib.hid (I1.out.below hb6 (Nat.le_refl _))
      replace IA := Lib.hid (IA.out.below hb6 (Nat.le_refl _))
      replace IB := Lib.hid (IB.out.below hb6 (Nat.le_refl _))
      replace B := Lib.hid (B.out.trans (hb6.mono B.out.size))
      clear hb6
      have x0 := X.out.out.at0
      have x1 := X.out.out.at1
      go_wp2_with fail
      clear x0 x1
      refine (HS.out _ _ I1.out.rd).mono ?_
      rintro e w7 ⟨a7, c7, rfl, hin7, hb7⟩
      have hz7 := hb7.size
      replace X := Lib.hid (X.out.next hb7 X.out.lt)
      replace I1 := Lib.hid (I1.out.below hb7 (Nat.le_refl _))
      replace IA := Lib.hid (IA.out.below hb7 (Nat.le_refl _))
      replace IB := Lib.hid (IB.out.below hb7 (Nat.le_refl _))
      replace B := Lib.hid (B.out.trans (hb7.mono B.out.size))
      have IC := Lib.hid (hin7.mono (Nat.zero_le _))
      clear hin7 hb7
      have x0 := X.out.out.at0
      have x1 := X.out.out.at1
      go_wp2_with fail
      clear x0 x1
      have HQ2 := Lib.hid (lawsEqualInts _ _ [] [] _ IA.out.rd IC.out.rd)
      rw [eqB_self] at HQ2
      refine (HQ2.out).mono ?_
      rintro e w8 ⟨rfl, hd8⟩
      have hb8 : Below w7.heap.size w7 w8 := by obtain ⟨d, rfl⟩ := hd8; exact below_drewN (Below.refl _ _) d
      clear hd8
      have hz8 := hb8.size
      replace X := Lib.hid (X.out.next hb8 X.out.lt)
      replace I1 := Lib.hid (I1.out.below hb8 (Nat.le_refl _))
      replace IA := Lib.hid (IA.out.below hb8 (Nat.le_refl _))
      replace IB := Lib.hid (IB.out.below hb8 (Nat.le_refl _))
      replace IC := Lib.hid (IC.out.below hb8 (Nat.le_refl _))
      replace B := Lib.hid (B.out.trans (hb8.mono B.out.size))
      clear hb8
      have x0 := X.out.out.at0
      have x1 := X.out.out.at1
      go_wp2_with fail
      clear x0 x1
      go_ret
      exact ⟨rfl, by first | exact B.out | exact B.out.drew⟩
  · go_enter Tryd.func5, Tryd.ntmps5
    go_wp2_with fail
    go_ret
    exact ⟨rfl, Below.refl _ _⟩

end Go.Proofs.YthmipnflbiclbaaDoor
