/- FnIsRepresentation's walk: plans without clashes are learned. Conditions: the code is a slice of bytes. -/
import Derived.Test.YtlnnoeicboamgaaDoorDrawsIr
import Derived.Test.YtlnnoeicboamgaaDoorLab
import Derived.Test.YtlnnoeicboamgaaDoorLrn
import Derived.Test.YtlnnoeicboamgaaDoorLrnP
import Derived.Test.YtlnnoeicboamgaaDoorRepH
import Derived.Test.YtlnnoeicboamgaaDoorRepS
import Derived.Test.YtlnnoeicboamgaaDoorZJ
import Derived.Test.YtlnnoeicboamgaaDoorZK
namespace Go.Proofs.YtlnnoeicboamgaaDoor
open Go.RowKit

theorem eqB_self (xs : List Int) : eqB xs xs = true := eqB_of rfl (fun _ _ => rfl)

set_option maxHeartbeats 6400000 in
set_option maxRecDepth 100000 in
theorem walkFnIsRepresentation (a : Option Addr) (b off n cap : Nat) (w : World) (hc : n ≤ cap) (hcap : cap ≤ maxLen) (h : Byt w a b off n) (hsw : SW w) :
    Calls Tryd.prog 5 #[.slice a n cap] w fun e w' => e = .returned (.bool true) ∧ Below w.heap.size w w' := by
  have HSW := Lib.hid hsw
  clear hsw
  by_cases hn : n ≤ 1048576
  · have HD := Lib.hid (dDrawIsRepresentation a b off n cap w hc hn hcap h)
    clear h
    go_enter Tryd.func5, Tryd.ntmps5
    go_wp2_with fail
    refine HD.out.mono ?_
    rintro e w1 ⟨N, zs, ps, hbd, a1, c1, a2, c2, rfl, hin, hps, hb⟩
    generalize hL : zs.length = L at *
    generalize hM : ps.length = M at *
    have X := Lib.hid (Bx.new N (.slice a1 L c1) w1)
    have I1 := Lib.hid ((hin.mono (Nat.zero_le _)).alloc (Obj.cells #[.int .i64 N, .slice a1 L c1] 30))
    have B := Lib.hid (hb.alloc hb.size (Obj.cells #[.int .i64 N, .slice a1 L c1] 30))
    have HZ2 := Lib.hid (show (w1.alloc (Obj.cells #[.int .i64 N, .slice a1 L c1] 30)).heap.size = w1.heap.size + 1 by simp)
    have PL := Lib.hid ((hps.mono (Nat.zero_le _)).alloc (Obj.cells #[.int .i64 N, .slice a1 L c1] 30))
    have hz1 := hb.size
    clear hin hb HD hps
    go_wp2_with fail
    generalize (w1.alloc (Obj.cells #[.int .i64 N, .slice a1 L c1] 30)) = w2 at *
    have hz2 := HZ2.out
    generalize ho : w1.heap.size = o at *
    obtain ⟨hN0, hN1, hL34, hM42⟩ := hbd
    have HI := Lib.hid (fun v u w h hu => implIsRepresentation N v u zs ps w h hu)
    have HS := Lib.hid (fun v u w h hu => specIsRepresentation N v u zs ps w h hu)
    cases hk : repB N zs ps with
    | false =>
      rw [hk] at HI HS
      clear hk
      refine (HI.out _ _ _ I1.out.rd PL.out.rd).mono ?_
      rintro e w3 ⟨rfl, hb3⟩
      have hz3 := hb3.size
      replace X := Lib.hid (X.out.next hb3 X.out.lt)
      replace I1 := Lib.hid (I1.out.below hb3 (Nat.le_refl _))
      replace PL := Lib.hid (PL.out.below hb3 (Nat.le_refl _))
      replace B := Lib.hid (B.out.trans (hb3.mono B.out.size))
      clear hb3
      have x0 := X.out.out.at0
      have x1 := X.out.out.at1
      go_wp2_with fail
      clear x0 x1
      refine (HS.out _ _ _ I1.out.rd PL.out.rd).mono ?_
      rintro e w4 ⟨rfl, hb4⟩
      have hz4 := hb4.size
      replace X := Lib.hid (X.out.next hb4 X.out.lt)
      replace I1 := Lib.hid (I1.out.below hb4 (Nat.le_refl _))
      replace PL := Lib.hid (PL.out.below hb4 (Nat.le_refl _))
      replace B := Lib.hid (B.out.trans (hb4.mono B.out.size))
      clear hb4
      have x0 := X.out.out.at0
      have x1 := X.out.out.at1
      go_wp2_with fail
      clear x0 x1
      refine (HS.out _ _ _ I1.out.rd PL.out.rd).mono ?_
      rintro e w5 ⟨rfl, hb5⟩
      have hz5 := hb5.size
      replace X := Lib.hid (X.out.next hb5 X.out.lt)
      replace I1 := Lib.hid (I1.out.below hb5 (Nat.le_refl _))
      replace PL := Lib.hid (PL.out.below hb5 (Nat.le_refl _))
      replace B := Lib.hid (B.out.trans (hb5.mono B.out.size))
      clear hb5
      have x0 := X.out.out.at0
      have x1 := X.out.out.at1
      go_wp2_with fail
      clear x0 x1
      go_ret
      exact ⟨rfl, by first | exact B.out | exact B.out.drew⟩
    | true =>
      rw [hk] at HI HS
      have hvd : vldB N zs = true := by
        cases e : vldB N zs with
        | true => rfl
        | false => rw [repB_bad e] at hk; cases hk
      obtain ⟨m, ns, rfl, rfl, hcl⟩ := vldB_cls hvd
      have hL2 : ns.length = L := by rw [← hL, toI_length]
      have hk2 := hk
      rw [repB_in hvd, Bool.and_eq_true, decide_eq_true_eq, hL2] at hk2
      obtain rfl : M = L := by rw [← hM]; exact hk2.1
      have HPS := Lib.hid (plTo_sets hcl.pts hk2.2)
      have HCL := Lib.hid hcl
      have HK := Lib.hid hk
      have HLN := Lib.hid hL2
      have HMN := Lib.hid hM
      have HLL := Lib.hid hL
      have hm5 := hcl.pts
      clear hk hk2 hvd hcl hL2 hM hL
      refine (HI.out _ _ _ I1.out.rd PL.out.rd).mono ?_
      rintro e w3 ⟨rfl, hb3⟩
      have hz3 := hb3.size
      replace X := Lib.hid (X.out.next hb3 X.out.lt)
      replace I1 := Lib.hid (I1.out.below hb3 (Nat.le_refl _))
      replace PL := Lib.hid (PL.out.below hb3 (Nat.le_refl _))
      replace B := Lib.hid (B.out.trans (hb3.mono B.out.size))
      clear hb3
      have x0 := X.out.out.at0
      have x1 := X.out.out.at1
      go_wp2_with fail
      clear x0 x1
      refine (HS.out _ _ _ I1.out.rd PL.out.rd).mono ?_
      rintro e w4 ⟨rfl, hb4⟩
      have hz4 := hb4.size
      replace X := Lib.hid (X.out.next hb4 X.out.lt)
      replace I1 := Lib.hid (I1.out.below hb4 (Nat.le_refl _))
      replace PL := Lib.hid (PL.out.below hb4 (Nat.le_refl _))
      replace B := Lib.hid (B.out.trans (hb4.mono B.out.size))
      clear hb4
      have x0 := X.out.out.at0
      have x1 := X.out.out.at1
      go_wp2_with fail
      clear x0 x1
      have hp5 := pow_le_32 hm5
      obtain ⟨q, hq⟩ : ∃ q : Nat, q = 2 ^ m := ⟨_, rfl⟩
      have hqI : (2 : Int) ^ m = (q : Int) := by rw [hq]; simp
      have hq0 : 0 < q := by rw [hq]; exact Nat.two_pow_pos m
      have HQ := Lib.hid hq
      have HPW := Lib.hid (fun w => lawsPower (m : Int) w (by omega) (by omega))
      rw [Int.toNat_natCast, hqI] at HPW
      rw [← hq] at hp5
      obtain ⟨r, hr⟩ : ∃ r, r = q - 1 := ⟨_, rfl⟩
      have hwa : IntKind.i64.wrap ((q : Int) - 1) = (r : Int) := by rw [IntKind.wrap_i64]; omega
      have HRQ := Lib.hid hr
      have hr32 : r < 32 := by omega
      have hX0 := X.out.lt
      have X0 := X
      have I0 := I1
      have P0 := PL
      have B0 := B
      clear hq hqI hr hq0 hp5 HS HI
      go_loopw [6, 7] (fun x i wr => ∃ (j : Nat) (xs : List Int) (a' : Option Addr) (c' : Nat), j ≤ M ∧ i = .int .i64 j ∧ x = .slice a' xs.length c' ∧ xs = List.replicate j (r : Int) ∧ Ints w4.heap.size wr (.slice a' xs.length c') xs ∧ Below w4.heap.size w4 wr) (fun _ i _ => M - (intOf i).toNat)
      case atStart => exact ⟨0, [], _, _, Nat.zero_le _, rfl, rfl, rfl, Ints.lit' (Nat.le_refl _) rfl, (Below.refl _ _).alloc (Nat.le_refl _) _⟩
      case round =>
        obtain ⟨j, xs, a', c', hj, rfl, rfl, hxs, hal, hbe⟩ := hrel
        have HXS := Lib.hid hxs
        have hxl : xs.length ≤ 34 := by rw [hxs, List.length_replicate]; omega
        have AL := Lib.hid hal
        have HBE := Lib.hid hbe
        have hzr := hbe.size
        replace X := Lib.hid (X0.out.next hbe hX0)
        replace I1 := Lib.hid (I0.out.below hbe (Nat.le_refl _))
        replace PL := Lib.hid (P0.out.below hbe (Nat.le_refl _))
        replace B := Lib.hid (B0.out.trans (hbe.mono B0.out.size))
        clear hbe hal hxs
        by_cases hlt : j < M
        · skip
          obtain ⟨w5, hwr⟩ : ∃ w5, w5 = wr := ⟨_, rfl⟩
          subst hwr
          have hjI : (j : Int) < (M : Int) := by omega
          obtain ⟨p, hp32, hpe, hpb⟩ := HPS.out j (by rw [HMN.out]; exact hlt)
          have hpj := ps_getD hpe
          have hqI : (2 : Int) ^ m = (q : Int) := by rw [HQ.out]; simp
          have hp5 : p < 2 ^ m := by
            rw [hpe] at hpb
            simp only [setB, Bool.and_eq_true, decide_eq_true_eq] at hpb
            rw [← HQ.out]
            omega
          have hr2 : r = 2 ^ m - 1 := by rw [HRQ.out, HQ.out]
          have ho1 := lr_own (q := r) HCL.out HK.out (show j < ns.length by rw [HLN.out]; exact hlt) (by rw [hr2]; have := Nat.two_pow_pos m; omega) (by rw [hpj, hr2, Nat.and_two_pow_sub_one_eq_mod, Nat.mod_eq_of_lt hp5])
          obtain ⟨hlb, hll, hrb, hrn⟩ := ho1
          have HPt := Lib.hid (fun w => lawsPoints r hr32 w)
          have HLa := Lib.hid (fun v u w h hu => implLabelsOf (m : Int) v (toI ns) u (toI (pts r)) ((ns.getD j 0 : Nat) : Int) w h hu)
          rw [hll, hlb] at HLa
          have HLr := Lib.hid (fun v u x w h hu hx hs => implLearnRepresentation (m : Int) v u x (toI ns) ps (labs r (ns.getD j 0)) w h hu hx hs)
          rw [hrb, hrn] at HLr
          obtain ⟨g1, rfl, -, -⟩ := I1.out.someAt (by omega)
          have CS := Lib.hid (show ∀ w, Ints 0 w (.slice (some ⟨g1, 0, none⟩) M c1) (toI ns) → w.cell? ⟨g1, j, none⟩ = some (.int .i64 ((ns.getD j 0 : Nat) : Int)) from fun w h => by
            have h2 := (h.cellAt j (by rw [HLL.out]; exact hlt)).1
            rwa [toI_getD] at h2)
          clear hpe hpb hpj hqI hp5 hlb hll hrb hrn HPS hr2
          obtain ⟨K, hK⟩ : ∃ K, K = (pts r).length := ⟨_, rfl⟩
          have HPl := Lib.hid (show (toI (pts r)).length = K by rw [toI_length, hK])
          have HEl := Lib.hid (show (labs r (ns.getD j 0)).length = K by rw [labs_len, hK])
          clear hK
          generalize labs r (ns.getD j 0) = E at *
          generalize toI (pts r) = PT at *
          generalize ns.getD j 0 = t at *
          have x0 := X.out.out.at0
          have x1 := X.out.out.at1
          have zs := CS.out _ I1.out
          go_wp2_with fail
          clear x0 x1
          clear zs
          refine (HPW.out _).mono ?_
          rintro e w98 ⟨rfl, hw98⟩
          subst w98
          have x0 := X.out.out.at0
          have x1 := X.out.out.at1
          have zs := CS.out _ I1.out
          go_wp2_with (at_builtin; refine wpList_app rfl (.tmp 44) (.tmp 49) rfl w4.heap.size _ xs rfl (by exact AL.out.alloc _) _ _ _ [(r : Int)] rfl (src_cell (by rw [World.cell?_alloc_at _ _ _ _ rfl]; rfl)) (by omega) (by simp; omega) ?_; intro a5 c5 w6 hin5 hb5 hg5; have hbb : Below w4.heap.size w4 w6 := (HBE.out.alloc (by omega) (Obj.cells #[.int .i64 (r : Int)] 3)).trans hb5; replace AL := Lib.hid hin5; replace HBE := Lib.hid hbb; clear hin5 hb5 hg5; have hzn := hbb.size; replace X := Lib.hid (X0.out.next hbb hX0); replace I1 := Lib.hid (I0.out.below hbb (Nat.le_refl _)); replace PL := Lib.hid (P0.out.below hbb (Nat.le_refl _)); replace B := Lib.hid (B0.out.trans (hbb.mono B0.out.size)); clear hbb x0 x1 zs; have x0 := X.out.out.at0; have x1 := X.out.out.at1; have zs := CS.out _ I1.out)
          refine wp_region_held_drew (S := fun w' => w'.cell? ⟨o, 0, none⟩ = some (.int .i64 (m : Int)) ∧ w'.cell? ⟨o, 1, none⟩ = some (.slice (some ⟨g1, 0, none⟩) M c1) ∧ w'.cell? ⟨g1, j, none⟩ = some (.int .i64 (t : Int))) (by kernel_rfl) (by first | exact ⟨x0, x1, zs⟩ | go_keep) (fun hHeld => ?_)
          refine wpAnyH_take (i := 0) (v := ?_) rfl (by kernel_rfl) (by kernel_rfl) (by kernel_rfl) (fun _ _ _ h => h) (Or.inl ⟨by rfl, ?_⟩) (by assumption) ?_
          rotate_left
          · (intro w hSw; (try dsimp only at hSw); go_simp; try with_reducible rfl)
          try simp only [List.getElem_toArray, List.getElem_cons_zero, Act.put, List.setIfInBounds_toArray, List.set_cons_zero, List.set_cons_succ]
          refine wpAnyH_take (i := 1) (v := ?_) rfl (by kernel_rfl) (by kernel_rfl) (by kernel_rfl) (fun _ _ _ h => h) (Or.inl ⟨by rfl, ?_⟩) (by assumption) ?_
          rotate_left
          · (intro w hSw; (try dsimp only at hSw); go_simp; try with_reducible rfl)
          try simp only [List.getElem_toArray, List.getElem_cons_zero, List.getElem_cons_succ, Act.put, List.setIfInBounds_toArray, List.set_cons_zero, List.set_cons_succ]
          refine wpAnyH_take (i := 2) (v := ?_) rfl (by kernel_rfl) (by kernel_rfl) (by kernel_rfl) (fun _ _ _ h => h) (Or.inl ⟨by rfl, ?_⟩) (by assumption) ?_
          rotate_left
          · (intro w hSw; (try dsimp only at hSw); go_simp; try with_reducible rfl)
          try simp only [List.getElem_toArray, List.getElem_cons_zero, List.getElem_cons_succ, Act.put, List.setIfInBounds_toArray, List.set_cons_zero, List.set_cons_succ]
          refine wpAnyH_take (i := 6) (v := ?_) rfl (by kernel_rfl) (by kernel_rfl) (by kernel_rfl) (fun _ _ _ h => h) (Or.inl ⟨by rfl, ?_⟩) (by assumption) ?_
          rotate_left
          · (intro w hSw; (try dsimp only at hSw); go_simp; try with_reducible rfl)
          try simp only [List.getElem_toArray, List.getElem_cons_zero, List.getElem_cons_succ, Act.put, List.setIfInBounds_toArray, List.set_cons_zero, List.set_cons_succ]
          refine wpAnyH_take (i := 7) (v := ?_) rfl (by kernel_rfl) (by kernel_rfl) (by kernel_rfl) (fun _ _ _ h => h) (Or.inl ⟨by rfl, ?_⟩) (by assumption) ?_
          rotate_left
          · (intro w hSw; (try dsimp only at hSw); go_simp; try with_reducible rfl)
          try simp only [List.getElem_toArray, List.getElem_cons_zero, List.getElem_cons_succ, Act.put, List.setIfInBounds_toArray, List.set_cons_zero, List.set_cons_succ]
          refine wpAnyH_take (i := 8) (v := ?_) rfl (by kernel_rfl) (by kernel_rfl) (by kernel_rfl) (fun _ _ _ h => h) (Or.inl ⟨by rfl, ?_⟩) (by assumption) ?_
          rotate_left
          · (intro w hSw; (try dsimp only at hSw); go_simp; try with_reducible rfl)
          try simp only [List.getElem_toArray, List.getElem_cons_zero, List.getElem_cons_succ, Act.put, List.setIfInBounds_toArray, List.set_cons_zero, List.set_cons_succ]
          refine wpAnyH_take (i := 9) (v := ?_) rfl (by kernel_rfl) (by kernel_rfl) (by kernel_rfl) (fun _ _ _ h => h) (Or.inl ⟨by rfl, ?_⟩) (by assumption) ?_
          rotate_left
          · (intro w hSw; (try dsimp only at hSw); go_simp; try with_reducible rfl)
          try simp only [List.getElem_toArray, List.getElem_cons_zero, List.getElem_cons_succ, Act.put, List.setIfInBounds_toArray, List.set_cons_zero, List.set_cons_succ]
          refine wpAnyH_take (i := 10) (v := ?_) rfl (by kernel_rfl) (by kernel_rfl) (by kernel_rfl) (fun _ _ _ h => h) (Or.inl ⟨by rfl, ?_⟩) (by assumption) ?_
          rotate_left
          · (intro w hSw; (try dsimp only at hSw); go_simp; try with_reducible rfl)
          try simp only [List.getElem_toArray, List.getElem_cons_zero, List.getElem_cons_succ, Act.put, List.setIfInBounds_toArray, List.set_cons_zero, List.set_cons_succ]
          refine wpAnyH_ready (rs := [3]) (by kernel_rfl) (by simp) ?_
          refine AllReadyH.cons rfl (fun K hK => ?_) AllReadyH.nil
          try simp only [List.getElem_toArray]
          go_simp
          (go_at_call 26; refine (HPW.out _).mono ?_; rintro e w99 ⟨rfl, hw99⟩; subst w99)
          refine hK.out _ _ (by first | exact ⟨x0, x1, zs⟩ | go_keep) (fun hHeld => ?_)
          clear hK K
          try simp only [List.getElem_toArray, List.getElem_cons_zero, List.getElem_cons_succ, Act.put, List.setIfInBounds_toArray, List.set_cons_zero, List.set_cons_succ]
          refine wpAnyH_take (i := 4) (v := ?_) rfl (by kernel_rfl) (by kernel_rfl) (by kernel_rfl) (fun _ _ _ h => h) (Or.inl ⟨by rfl, ?_⟩) (by assumption) ?_
          rotate_left
          · (intro w hSw; (try dsimp only at hSw); go_simp; (try rw [hwa]); try with_reducible rfl)
          try simp only [List.getElem_toArray, List.getElem_cons_zero, List.getElem_cons_succ, Act.put, List.setIfInBounds_toArray, List.set_cons_zero, List.set_cons_succ]
          refine wpAnyH_ready (rs := [5]) (by kernel_rfl) (by simp) ?_
          refine AllReadyH.cons rfl (fun K hK => ?_) AllReadyH.nil
          try simp only [List.getElem_toArray]
          go_simp
          (go_at_call 28; refine (HPt.out _).mono ?_; rintro e w7 ⟨a7, c7, rfl, hin7, hbd⟩; rw [HPl.out] at hin7 ⊢; have hb7 : Below w6.heap.size w6 w7 := (by first | exact hbd | exact ⟨hbd.os, hbd.tape, hbd.output, hbd.size, hbd.block⟩); clear hbd; have hz7 := hb7.size; replace X := Lib.hid (X.out.next hb7 X.out.lt); replace I1 := Lib.hid (I1.out.below hb7 (Nat.le_refl _)); replace PL := Lib.hid (PL.out.below hb7 (Nat.le_refl _)); replace AL := Lib.hid (AL.out.below hb7 (Nat.le_refl _)); replace B := Lib.hid (B.out.trans (hb7.mono B.out.size)); replace HBE := Lib.hid (HBE.out.trans (hb7.mono HBE.out.size)); have IP := Lib.hid (hin7.mono (Nat.zero_le _)); clear hin7; clear hb7; have x0_7 := X.out.out.at0; have x1_7 := X.out.out.at1; have zs_7 := CS.out _ I1.out)
          refine hK.out _ _ (by first | exact ⟨x0_7, x1_7, zs_7⟩ | exact ⟨x0, x1, zs⟩ | go_keep) (fun hHeld => ?_)
          clear hK K
          try simp only [List.getElem_toArray, List.getElem_cons_zero, List.getElem_cons_succ, Act.put, List.setIfInBounds_toArray, List.set_cons_zero, List.set_cons_succ]
          refine wpAnyH_ready (rs := [11]) (by kernel_rfl) (by simp) ?_
          refine AllReadyH.cons rfl (fun K hK => ?_) AllReadyH.nil
          try simp only [List.getElem_toArray]
          go_simp
          (go_at_call 27; refine (HLa.out _ _ _ (by first | exact I1.out.rd | exact I1.out.rd.below (k := w7.heap.size) ((Below.refl _ _).drew) (Nat.le_refl _)) (by first | exact IP.out.rd | exact IP.out.rd.below (k := w7.heap.size) ((Below.refl _ _).drew) (Nat.le_refl _))).mono ?_; rintro e w8 ⟨a8, c8, rfl, hin8, hbd⟩; rw [HEl.out] at hin8 ⊢; have hb8 : Below w7.heap.size w7 w8 := (by first | exact hbd | exact ⟨hbd.os, hbd.tape, hbd.output, hbd.size, hbd.block⟩); clear hbd; have hz8 := hb8.size; replace X := Lib.hid (X.out.next hb8 X.out.lt); replace I1 := Lib.hid (I1.out.below hb8 (Nat.le_refl _)); replace PL := Lib.hid (PL.out.below hb8 (Nat.le_refl _)); replace AL := Lib.hid (AL.out.below hb8 (Nat.le_refl _)); replace IP := Lib.hid (IP.out.below hb8 (Nat.le_refl _)); replace B := Lib.hid (B.out.trans (hb8.mono B.out.size)); replace HBE := Lib.hid (HBE.out.trans (hb8.mono HBE.out.size)); have EX := Lib.hid (hin8.mono (Nat.zero_le _)); clear hin8; clear hb8; have x0_8 := X.out.out.at0; have x1_8 := X.out.out.at1; have zs_8 := CS.out _ I1.out)
          refine hK.out _ _ (by first | exact ⟨x0_8, x1_8, zs_8⟩ | exact ⟨x0_7, x1_7, zs_7⟩ | exact ⟨x0, x1, zs⟩ | go_keep) (fun hHeld => ?_)
          clear hK K
          try simp only [List.getElem_toArray, List.getElem_cons_zero, List.getElem_cons_succ, Act.put, List.setIfInBounds_toArray, List.set_cons_zero, List.set_cons_succ]
          refine wpAnyH_take (i := 12) (v := ?_) rfl (by kernel_rfl) (by kernel_rfl) (by kernel_rfl) (fun _ _ _ h => h) (Or.inl ⟨by rfl, ?_⟩) (by assumption) ?_
          rotate_left
          · (intro w hSw; (try dsimp only at hSw); go_simp; try with_reducible rfl)
          try simp only [List.getElem_toArray, List.getElem_cons_zero, List.getElem_cons_succ, Act.put, List.setIfInBounds_toArray, List.set_cons_zero, List.set_cons_succ]
          refine wpAnyH_take (i := 13) (v := ?_) rfl (by kernel_rfl) (by kernel_rfl) (by kernel_rfl) (fun _ _ _ h => h) (Or.inl ⟨by rfl, ?_⟩) (by assumption) ?_
          rotate_left
          · (intro w hSw; (try dsimp only at hSw); go_simp; try with_reducible rfl)
          try simp only [List.getElem_toArray, List.getElem_cons_zero, List.getElem_cons_succ, Act.put, List.setIfInBounds_toArray, List.set_cons_zero, List.set_cons_succ]
          refine wpAnyH_take (i := 14) (v := ?_) rfl (by kernel_rfl) (by kernel_rfl) (by kernel_rfl) (fun _ _ _ h => h) (Or.inl ⟨by rfl, ?_⟩) (by assumption) ?_
          rotate_left
          · (intro w hSw; (try dsimp only at hSw); go_simp; try with_reducible rfl)
          try simp only [List.getElem_toArray, List.getElem_cons_zero, List.getElem_cons_succ, Act.put, List.setIfInBounds_toArray, List.set_cons_zero, List.set_cons_succ]
          refine wpAnyH_take (i := 15) (v := ?_) rfl (by kernel_rfl) (by kernel_rfl) (by kernel_rfl) (fun _ _ _ h => h) (Or.inl ⟨by rfl, ?_⟩) (by assumption) ?_
          rotate_left
          · (intro w hSw; (try dsimp only at hSw); go_simp; try with_reducible rfl)
          try simp only [List.getElem_toArray, List.getElem_cons_zero, List.getElem_cons_succ, Act.put, List.setIfInBounds_toArray, List.set_cons_zero, List.set_cons_succ]
          refine wpAnyH_take (i := 16) (v := ?_) rfl (by kernel_rfl) (by kernel_rfl) (by kernel_rfl) (fun _ _ _ h => h) (Or.inl ⟨by rfl, ?_⟩) (by assumption) ?_
          rotate_left
          · (intro w hSw; (try dsimp only at hSw); go_simp; try with_reducible rfl)
          try simp only [List.getElem_toArray, List.getElem_cons_zero, List.getElem_cons_succ, Act.put, List.setIfInBounds_toArray, List.set_cons_zero, List.set_cons_succ]
          refine wpAnyH_done (by kernel_rfl) ?_ _
          have x0 := X.out.out.at0
          have x1 := X.out.out.at1
          have zs := CS.out _ I1.out
          go_wp2_with fail
          clear x0 x1
          clear zs
          refine (HLr.out _ _ _ _ I1.out.rd PL.out.rd EX.out.rd (by first | exact HSW.out.next B.out | exact (show SW (World.drew _) from HSW.out.next B.out) | exact HSW.out.next (B.out.trans ((Below.refl _ _).drew)))).mono ?_
          rintro e w9 ⟨rfl, hb9⟩
          have hz9 := hb9.size
          replace X := Lib.hid (X.out.next hb9 X.out.lt)
          replace I1 := Lib.hid (I1.out.below hb9 (Nat.le_refl _))
          replace PL := Lib.hid (PL.out.below hb9 (Nat.le_refl _))
          replace AL := Lib.hid (AL.out.below hb9 (Nat.le_refl _))
          replace IP := Lib.hid (IP.out.below hb9 (Nat.le_refl _))
          replace EX := Lib.hid (EX.out.below hb9 (Nat.le_refl _))
          replace B := Lib.hid (B.out.trans (hb9.mono B.out.size))
          replace HBE := Lib.hid (HBE.out.trans (hb9.mono HBE.out.size))
          clear hb9
          have x0 := X.out.out.at0
          have x1 := X.out.out.at1
          have zs := CS.out _ I1.out
          go_wp2_with fail
          clear x0 x1
          clear zs
          go_roundw
          case rel => exact ⟨j + 1, xs ++ [(r : Int)], _, _, by omega, by go_num, by rw [List.length_append]; rfl, by rw [HXS.out, List.replicate_succ'], by rw [List.length_append]; exact AL.out, HBE.out⟩
          case measure => simp [intOf]; omega
        · obtain rfl : j = M := by omega
          have hrp := rep_all HCL.out (cls_vldB HCL.out)
          rw [HLN.out, ← HQ.out, ← HRQ.out, ← HXS.out] at hrp
          have HF := Lib.hid (fun v u w h hu => implIsRepresentation (m : Int) v u (toI ns) xs w h hu)
          rw [hrp] at HF
          clear HPS hrp
          obtain ⟨w5, hwr⟩ : ∃ w5, w5 = wr := ⟨_, rfl⟩
          subst hwr
          have x0 := X.out.out.at0
          have x1 := X.out.out.at1
          go_wp2_with fail
          clear x0 x1
          refine (HF.out _ _ _ I1.out.rd AL.out.rd).mono ?_
          rintro e w6 ⟨rfl, hb6⟩
          have hz6 := hb6.size
          replace X := Lib.hid (X.out.next hb6 X.out.lt)
          replace I1 := Lib.hid (I1.out.below hb6 (Nat.le_refl _))
          replace PL := Lib.hid (PL.out.below hb6 (Nat.le_refl _))
          replace AL := Lib.hid (AL.out.below hb6 (Nat.le_refl _))
          replace B := Lib.hid (B.out.trans (hb6.mono B.out.size))
          clear hb6
          have x0 := X.out.out.at0
          have x1 := X.out.out.at1
          go_wp2_with fail
          clear x0 x1
          go_ret
          exact ⟨rfl, by first | exact B.out | exact B.out.drew⟩
  · go_enter Tryd.func5, Tryd.ntmps5
    go_wp2_with fail
    go_ret
    exact ⟨rfl, Below.refl _ _⟩

end Go.Proofs.YtlnnoeicboamgaaDoor
