/- FnComponentsOf's walk: parts are joined by edges, and as many where all points are changed. Conditions: the code is a slice of bytes. -/
import Derived.Test.YtgldckgecoijfaaDrawsCm
import Derived.Test.YtgldckgecoijfaaEdg
import Derived.Test.YtgldckgecoijfaaPthM
import Derived.Test.YtgldckgecoijfaaZD
import Derived.Test.YtgldckgecoijfaaZJ
import Derived.Test.YtgldckgecoijfaaZK
namespace Go.Proofs.Ytgldckgecoijfaa
open Go.RowKit

theorem eqB_self (xs : List Int) : eqB xs xs = true := eqB_of rfl (fun _ _ => rfl)

set_option maxHeartbeats 6400000 in
set_option maxRecDepth 100000 in
theorem walkFnComponentsOf (a : Option Addr) (b off n cap : Nat) (w : World) (hc : n ≤ cap) (hcap : cap ≤ maxLen) (h : Byt w a b off n) :
    Calls Try.prog 5 #[.slice a n cap] w fun e w' => e = .returned (.bool true) ∧ Below w.heap.size w w' := by
  by_cases hn : n ≤ 1048576
  · have HD := Lib.hid (dDrawComponentsOf a b off n cap w hc hn hcap h)
    clear h
    go_enter Try.func5, Try.ntmps5
    go_wp2_with fail
    refine HD.out.mono ?_
    rintro e w1 ⟨N, zs, hbd, a1, c1, rfl, hin, hb⟩
    generalize hL : zs.length = L at *
    have X := Lib.hid (Bx.new N (.slice a1 L c1) w1)
    have I1 := Lib.hid ((hin.mono (Nat.zero_le _)).alloc (Obj.cells #[.int .i64 N, .slice a1 L c1] 25))
    have B := Lib.hid (hb.alloc hb.size (Obj.cells #[.int .i64 N, .slice a1 L c1] 25))
    have HZ2 := Lib.hid (show (w1.alloc (Obj.cells #[.int .i64 N, .slice a1 L c1] 25)).heap.size = w1.heap.size + 1 by simp)
    have hz1 := hb.size
    clear hin hb HD
    go_wp2_with fail
    generalize (w1.alloc (Obj.cells #[.int .i64 N, .slice a1 L c1] 25)) = w2 at *
    have hz2 := HZ2.out
    generalize ho : w1.heap.size = o at *
    obtain ⟨hN0, hN1, hL34⟩ := hbd
    by_cases hv : vldB N zs = true
    · obtain ⟨m, ns, rfl, rfl, hcl⟩ := vldB_cls hv
      have hL2 : ns.length = L := by rw [← hL, toI_length]
      have hm := hcl.pts
      obtain ⟨F, hF⟩ := fst_ex ns
      have HI := Lib.hid (fun v w h => implCompsIn m ns F v w hcl hv hF h)
      have HS := Lib.hid (fun v w h => specCompsIn m ns F v w hcl hv hF h)
      have HV := Lib.hid (fun v w h => implValid (m : Int) v (toI ns) w h)
      have HE := Lib.hid (fun v w h => implEdgesOf (m : Int) v (toI ns) w h)
      have HPW := Lib.hid (fun w => lawsPower (m : Int) w (by omega) (by omega))
      have hp5 := pow_le_32 hm
      have hp0 := Nat.two_pow_pos m
      obtain ⟨q, hq⟩ : ∃ q : Nat, q = 2 ^ m := ⟨_, rfl⟩
      have hqI : (2 : Int) ^ m = (q : Int) := by rw [hq]; simp
      rw [Int.toNat_natCast, hqI] at HPW
      obtain ⟨r, hr⟩ : ∃ r : Nat, r = q - 1 := ⟨_, rfl⟩
      have hib : inB (m : Int) (toI ns) (r : Int) = true := by
        simp only [inB, setB, hv, Int.toNat_natCast, Bool.true_and, Bool.and_eq_true, decide_eq_true_eq]
        omega
      have HFl := Lib.hid (fun v w h => implFlipClass (m : Int) v (toI ns) (r : Int) w h)
      obtain ⟨G, hG⟩ : ∃ G, G = flp r ns := ⟨_, rfl⟩
      have eN : flipN (m : Int) (toI ns) (r : Int) = m := by rw [flipN, if_pos hib]
      have eF : flipL (m : Int) (toI ns) (r : Int) = toI G := by rw [flipL, if_pos hib, toNat_toI, Int.toNat_natCast, hG, flp]
      rw [eN, eF] at HFl
      have hrl : r < 2 ^ m := by omega
      have hcG : Cls m G := by rw [hG]; exact flp_cls hcl hrl
      obtain ⟨F', hF'⟩ := fst_ex G
      have HUG := Lib.hid (fun v w h => implCompsIn m G F' v w hcG (cls_vldB hcG) hF' h)
      have hturn : cmTo F' G.length = cmTo F ns.length := by subst hG; exact cm_flip hcl hrl hF hF'
      rw [hturn] at HUG
      rw [egL_in hv] at HE
      obtain ⟨K, hK⟩ : ∃ K, K = (egTo ns ns.length).length := ⟨_, rfl⟩
      have hlen : (egTo ns ns.length).length ≤ 1048576 := by
        have h1 := egL_len (m : Int) (toI ns)
        rw [egL_in hv] at h1
        exact h1
      have hmany := cm_edges hcl hF
      have hz := cm_zero hF
      have hcle := cmTo_le F ns.length
      rw [← hK] at hmany hlen
      rw [hL2] at hz hmany hcle
      have hl32 := hcl.length
      rw [hL2] at HI HS HUG hl32
      have HKl := Lib.hid hK.symm
      have HGl := Lib.hid (toI_length G)
      have hw1 : IntKind.i64.wrap ((q : Int) - 1) = (r : Int) := by rw [IntKind.wrap_i64]; omega
      have hw3 : (q : Int) - 1 = (r : Int) := by omega
      have hw0 : IntKind.i64.wrap (r : Int) = (r : Int) := by rw [IntKind.wrap_i64]; omega
      rw [hv] at HV
      generalize cmTo F L = p at *
      generalize egTo ns ns.length = es at *
      obtain ⟨d, hd⟩ : ∃ d, d = p + K := ⟨_, rfl⟩
      have hwd : IntKind.i64.wrap ((p : Int) + (K : Int)) = (d : Int) := by rw [IntKind.wrap_i64]; omega
      have hwK : IntKind.i64.wrap (K : Int) = (K : Int) := by rw [IntKind.wrap_i64]; omega
      have hK0 : (0 : Int) ≤ (K : Int) := by omega
      have hdL : L ≤ d := by omega
      have hdI : (L : Int) ≤ (d : Int) := by omega
      have hpL : p = 0 ↔ L = 0 := hz
      clear hib hq hqI hcl hv eN eF hturn hr hG hcG hrl hp5 hp0 hF hF' hmany hz hK hd hlen hcle hl32
      by_cases hL0 : L = 0
      · subst hL0
        obtain rfl : p = 0 := hpL.2 rfl
        clear hpL
        refine (HI.out _ _ I1.out.rd).mono ?_
        rintro e w3 ⟨rfl, hb3⟩
        have hz3 := hb3.size
        replace X := Lib.hid (X.out.next hb3 X.out.lt)
        replace I1 := Lib.hid (I1.out.below hb3 (Nat.le_refl _))
        replace B := Lib.hid (B.out.trans (hb3.mono B.out.size))
        clear hb3
        have x0 := X.out.out.at0
        have x1 := X.out.out.at1
        go_wp2_with fail
        clear x0 x1
        refine (HS.out _ _ I1.out.rd).mono ?_
        rintro e w4 ⟨rfl, hb4⟩
        have hz4 := hb4.size
        replace X := Lib.hid (X.out.next hb4 X.out.lt)
        replace I1 := Lib.hid (I1.out.below hb4 (Nat.le_refl _))
        replace B := Lib.hid (B.out.trans (hb4.mono B.out.size))
        clear hb4
        have x0 := X.out.out.at0
        have x1 := X.out.out.at1
        go_wp2_with fail
        clear x0 x1
        refine (HV.out _ _ I1.out.rd).mono ?_
        rintro e w5 ⟨rfl, hb5⟩
        have hz5 := hb5.size
        replace X := Lib.hid (X.out.next hb5 X.out.lt)
        replace I1 := Lib.hid (I1.out.below hb5 (Nat.le_refl _))
        replace B := Lib.hid (B.out.trans (hb5.mono B.out.size))
        clear hb5
        have x0 := X.out.out.at0
        have x1 := X.out.out.at1
        go_wp2_with fail
        refine wp_region_held_drew (S := fun w' => w'.cell? ⟨o, 0, none⟩ = some (.int .i64 (m : Int)) ∧ w'.cell? ⟨o, 1, none⟩ = some (.slice a1 0 c1)) (by kernel_rfl) (by first | exact ⟨x0, x1⟩ | go_keep) (fun hHeld => ?_)
        refine wpAnyH_take (i := 0) (v := ?_) rfl (by kernel_rfl) (by kernel_rfl) (by kernel_rfl) (fun _ _ _ h => h) (Or.inl ⟨by rfl, ?_⟩) (by assumption) ?_
        rotate_left
        · (intro w hSw; (try dsimp only at hSw); go_simp; try with_reducible rfl)
        try simp only [List.getElem_toArray, List.getElem_cons_zero, Act.put, List.setIfInBounds_toArray, List.set_cons_zero, List.set_cons_succ]
        refine wpAnyH_take (i := 1) (v := ?_) rfl (by kernel_rfl) (by kernel_rfl) (by kernel_rfl) (fun _ _ _ h => h) (Or.inl ⟨by rfl, ?_⟩) (by assumption) ?_
        rotate_left
        · (intro w hSw; (try dsimp only at hSw); go_simp; try with_reducible rfl)
        try simp only [List.getElem_toArray, List.getElem_cons_zero, List.getElem_cons_succ, Act.put, List.setIfInBounds_toArray, List.set_cons_zero, List.set_cons_succ]
        refine wpAnyH_take (i := 5) (v := ?_) rfl (by kernel_rfl) (by kernel_rfl) (by kernel_rfl) (fun _ _ _ h => h) (Or.inl ⟨by rfl, ?_⟩) (by assumption) ?_
        rotate_left
        · (intro w hSw; (try dsimp only at hSw); go_simp; try with_reducible rfl)
        try simp only [List.getElem_toArray, List.getElem_cons_zero, List.getElem_cons_succ, Act.put, List.setIfInBounds_toArray, List.set_cons_zero, List.set_cons_succ]
        refine wpAnyH_take (i := 6) (v := ?_) rfl (by kernel_rfl) (by kernel_rfl) (by kernel_rfl) (fun _ _ _ h => h) (Or.inl ⟨by rfl, ?_⟩) (by assumption) ?_
        rotate_left
        · (intro w hSw; (try dsimp only at hSw); go_simp; try with_reducible rfl)
        try simp only [List.getElem_toArray, List.getElem_cons_zero, List.getElem_cons_succ, Act.put, List.setIfInBounds_toArray, List.set_cons_zero, List.set_cons_succ]
        refine wpAnyH_take (i := 7) (v := ?_) rfl (by kernel_rfl) (by kernel_rfl) (by kernel_rfl) (fun _ _ _ h => h) (Or.inl ⟨by rfl, ?_⟩) (by assumption) ?_
        rotate_left
        · (intro w hSw; (try dsimp only at hSw); go_simp; try with_reducible rfl)
        try simp only [List.getElem_toArray, List.getElem_cons_zero, List.getElem_cons_succ, Act.put, List.setIfInBounds_toArray, List.set_cons_zero, List.set_cons_succ]
        refine wpAnyH_ready (rs := [2]) (by kernel_rfl) (by simp) ?_
        refine AllReadyH.cons rfl (fun K hK => ?_) AllReadyH.nil
        try simp only [List.getElem_toArray]
        go_simp
        (go_at_call 25; refine (HE.out _ _ (by first | exact I1.out.rd | exact I1.out.rd.below (k := w5.heap.size) ((Below.refl _ _).drew) (Nat.le_refl _))).mono ?_; rintro e w6 ⟨a6, c6, rfl, hin6, hbd⟩; rw [HKl.out]; clear hin6; have hb6 : Below w5.heap.size w5 w6 := (by first | exact hbd | exact ⟨hbd.os, hbd.tape, hbd.output, hbd.size, hbd.block⟩); clear hbd; have hz6 := hb6.size; replace X := Lib.hid (X.out.next hb6 X.out.lt); replace I1 := Lib.hid (I1.out.below hb6 (Nat.le_refl _)); replace B := Lib.hid (B.out.trans (hb6.mono B.out.size)); clear hb6; have x0_6 := X.out.out.at0; have x1_6 := X.out.out.at1)
        refine hK.out _ _ (by first | exact ⟨x0_6, x1_6⟩ | exact ⟨x0, x1⟩ | go_keep) (fun hHeld => ?_)
        clear hK K
        try simp only [List.getElem_toArray, List.getElem_cons_zero, List.getElem_cons_succ, Act.put, List.setIfInBounds_toArray, List.set_cons_zero, List.set_cons_succ]
        refine wpAnyH_take (i := 3) (v := ?_) rfl (by kernel_rfl) (by kernel_rfl) (by kernel_rfl) (fun _ _ _ h => h) (Or.inl ⟨by rfl, ?_⟩) (by assumption) ?_
        rotate_left
        · (intro w hSw; (try dsimp only at hSw); go_simp; try with_reducible rfl)
        try simp only [List.getElem_toArray, List.getElem_cons_zero, List.getElem_cons_succ, Act.put, List.setIfInBounds_toArray, List.set_cons_zero, List.set_cons_succ]
        refine wpAnyH_take (i := 4) (v := ?_) rfl (by kernel_rfl) (by kernel_rfl) (by kernel_rfl) (fun _ _ _ h => h) (Or.inl ⟨by rfl, ?_⟩) (by assumption) ?_
        rotate_left
        · (intro w hSw; (try dsimp only at hSw); go_simp; (try rw [hwd]); (try rw [hwK]); try with_reducible rfl)
        try simp only [List.getElem_toArray, List.getElem_cons_zero, List.getElem_cons_succ, Act.put, List.setIfInBounds_toArray, List.set_cons_zero, List.set_cons_succ]
        refine wpAnyH_take (i := 8) (v := ?_) rfl (by kernel_rfl) (by kernel_rfl) (by kernel_rfl) (fun _ _ _ h => h) (Or.inl ⟨by rfl, ?_⟩) (by assumption) ?_
        rotate_left
        · (intro w hSw; (try dsimp only at hSw); go_simp; try with_reducible rfl)
        try simp only [List.getElem_toArray, List.getElem_cons_zero, List.getElem_cons_succ, Act.put, List.setIfInBounds_toArray, List.set_cons_zero, List.set_cons_succ]
        refine wpAnyH_take (i := 9) (v := ?_) rfl (by kernel_rfl) (by kernel_rfl) (by kernel_rfl) (fun _ _ _ h => h) (Or.inl ⟨by rfl, ?_⟩) (by assumption) ?_
        rotate_left
        · (intro w hSw; (try dsimp only at hSw); go_simp; try with_reducible rfl)
        try simp only [List.getElem_toArray, List.getElem_cons_zero, List.getElem_cons_succ, Act.put, List.setIfInBounds_toArray, List.set_cons_zero, List.set_cons_succ]
        refine wpAnyH_take (i := 10) (v := ?_) rfl (by kernel_rfl) (by kernel_rfl) (by kernel_rfl) (fun _ _ _ h => h) (Or.inl ⟨by rfl, ?_⟩) (by assumption) ?_
        rotate_left
        · (intro w hSw; (try dsimp only at hSw); go_simp; try with_reducible rfl)
        try simp only [List.getElem_toArray, List.getElem_cons_zero, List.getElem_cons_succ, Act.put, List.setIfInBounds_toArray, List.set_cons_zero, List.set_cons_succ]
        refine wpAnyH_take (i := 11) (v := ?_) rfl (by kernel_rfl) (by kernel_rfl) (by kernel_rfl) (fun _ _ _ h => h) (Or.inl ⟨by rfl, ?_⟩) (by assumption) ?_
        rotate_left
        · (intro w hSw; (try dsimp only at hSw); go_simp; try with_reducible rfl)
        try simp only [List.getElem_toArray, List.getElem_cons_zero, List.getElem_cons_succ, Act.put, List.setIfInBounds_toArray, List.set_cons_zero, List.set_cons_succ]
        refine wpAnyH_take (i := 12) (v := ?_) rfl (by kernel_rfl) (by kernel_rfl) (by kernel_rfl) (fun _ _ _ h => h) (Or.inl ⟨by rfl, ?_⟩) (by assumption) ?_
        rotate_left
        · (intro w hSw; (try dsimp only at hSw); go_simp; try with_reducible rfl)
        try simp only [List.getElem_toArray, List.getElem_cons_zero, List.getElem_cons_succ, Act.put, List.setIfInBounds_toArray, List.set_cons_zero, List.set_cons_succ]
        refine wpAnyH_take (i := 13) (v := ?_) rfl (by kernel_rfl) (by kernel_rfl) (by kernel_rfl) (fun _ _ _ h => h) (Or.inl ⟨by rfl, ?_⟩) (by assumption) ?_
        rotate_left
        · (intro w hSw; (try dsimp only at hSw); go_simp; try with_reducible rfl)
        try simp only [List.getElem_toArray, List.getElem_cons_zero, List.getElem_cons_succ, Act.put, List.setIfInBounds_toArray, List.set_cons_zero, List.set_cons_succ]
        refine wpAnyH_take (i := 14) (v := ?_) rfl (by kernel_rfl) (by kernel_rfl) (by kernel_rfl) (fun _ _ _ h => h) (Or.inl ⟨by rfl, ?_⟩) (by assumption) ?_
        rotate_left
        · (intro w hSw; (try dsimp only at hSw); go_simp; try with_reducible rfl)
        try simp only [List.getElem_toArray, List.getElem_cons_zero, List.getElem_cons_succ, Act.put, List.setIfInBounds_toArray, List.set_cons_zero, List.set_cons_succ]
        refine wpAnyH_take (i := 15) (v := ?_) rfl (by kernel_rfl) (by kernel_rfl) (by kernel_rfl) (fun _ _ _ h => h) (Or.inl ⟨by rfl, ?_⟩) (by assumption) ?_
        rotate_left
        · (intro w hSw; (try dsimp only at hSw); go_simp; try with_reducible rfl)
        try simp only [List.getElem_toArray, List.getElem_cons_zero, List.getElem_cons_succ, Act.put, List.setIfInBounds_toArray, List.set_cons_zero, List.set_cons_succ]
        refine wpAnyH_take (i := 16) (v := ?_) rfl (by kernel_rfl) (by kernel_rfl) (by kernel_rfl) (fun _ _ _ h => h) (Or.inl ⟨by rfl, ?_⟩) (by assumption) ?_
        rotate_left
        · (intro w hSw; (try dsimp only at hSw); go_simp; try with_reducible rfl)
        try simp only [List.getElem_toArray, List.getElem_cons_zero, List.getElem_cons_succ, Act.put, List.setIfInBounds_toArray, List.set_cons_zero, List.set_cons_succ]
        refine wpAnyH_take (i := 17) (v := ?_) rfl (by kernel_rfl) (by kernel_rfl) (by kernel_rfl) (fun _ _ _ h => h) (Or.inl ⟨by rfl, ?_⟩) (by assumption) ?_
        rotate_left
        · (intro w hSw; (try dsimp only at hSw); go_simp; try with_reducible rfl)
        try simp only [List.getElem_toArray, List.getElem_cons_zero, List.getElem_cons_succ, Act.put, List.setIfInBounds_toArray, List.set_cons_zero, List.set_cons_succ]
        refine wpAnyH_take (i := 18) (v := ?_) rfl (by kernel_rfl) (by kernel_rfl) (by kernel_rfl) (fun _ _ _ h => h) (Or.inl ⟨by rfl, ?_⟩) (by assumption) ?_
        rotate_left
        · (intro w hSw; (try dsimp only at hSw); go_simp; try with_reducible rfl)
        try simp only [List.getElem_toArray, List.getElem_cons_zero, List.getElem_cons_succ, Act.put, List.setIfInBounds_toArray, List.set_cons_zero, List.set_cons_succ]
        refine wpAnyH_take (i := 19) (v := ?_) rfl (by kernel_rfl) (by kernel_rfl) (by kernel_rfl) (fun _ _ _ h => h) (Or.inl ⟨by rfl, ?_⟩) (by assumption) ?_
        rotate_left
        · (intro w hSw; (try dsimp only at hSw); go_simp; try with_reducible rfl)
        try simp only [List.getElem_toArray, List.getElem_cons_zero, List.getElem_cons_succ, Act.put, List.setIfInBounds_toArray, List.set_cons_zero, List.set_cons_succ]
        refine wpAnyH_take (i := 20) (v := ?_) rfl (by kernel_rfl) (by kernel_rfl) (by kernel_rfl) (fun _ _ _ h => h) (Or.inl ⟨by rfl, ?_⟩) (by assumption) ?_
        rotate_left
        · (intro w hSw; (try dsimp only at hSw); go_simp; try with_reducible rfl)
        try simp only [List.getElem_toArray, List.getElem_cons_zero, List.getElem_cons_succ, Act.put, List.setIfInBounds_toArray, List.set_cons_zero, List.set_cons_succ]
        refine wpAnyH_take (i := 21) (v := ?_) rfl (by kernel_rfl) (by kernel_rfl) (by kernel_rfl) (fun _ _ _ h => h) (Or.inl ⟨by rfl, ?_⟩) (by assumption) ?_
        rotate_left
        · (intro w hSw; (try dsimp only at hSw); go_simp; try with_reducible rfl)
        try simp only [List.getElem_toArray, List.getElem_cons_zero, List.getElem_cons_succ, Act.put, List.setIfInBounds_toArray, List.set_cons_zero, List.set_cons_succ]
        refine wpAnyH_take (i := 26) (v := ?_) rfl (by kernel_rfl) (by kernel_rfl) (by kernel_rfl) (fun _ _ _ h => h) (Or.inl ⟨by rfl, ?_⟩) (by assumption) ?_
        rotate_left
        · (intro w hSw; (try dsimp only at hSw); go_simp; try with_reducible rfl)
        try simp only [List.getElem_toArray, List.getElem_cons_zero, List.getElem_cons_succ, Act.put, List.setIfInBounds_toArray, List.set_cons_zero, List.set_cons_succ]
        refine wpAnyH_ready (rs := [22]) (by kernel_rfl) (by simp) ?_
        refine AllReadyH.cons rfl (fun K hK => ?_) AllReadyH.nil
        try simp only [List.getElem_toArray]
        go_simp
        (go_at_call 27; refine (HPW.out _).mono ?_; rintro e w99 ⟨rfl, hw99⟩; subst w99)
        refine hK.out _ _ (by first | exact ⟨x0_6, x1_6⟩ | exact ⟨x0, x1⟩ | go_keep) (fun hHeld => ?_)
        clear hK K
        try simp only [List.getElem_toArray, List.getElem_cons_zero, List.getElem_cons_succ, Act.put, List.setIfInBounds_toArray, List.set_cons_zero, List.set_cons_succ]
        refine wpAnyH_take (i := 23) (v := ?_) rfl (by kernel_rfl) (by kernel_rfl) (by kernel_rfl) (fun _ _ _ h => h) (Or.inl ⟨by rfl, ?_⟩) (by assumption) ?_
        rotate_left
        · (intro w hSw; (try dsimp only at hSw); go_simp; (try rw [hw1]); try with_reducible rfl)
        try simp only [List.getElem_toArray, List.getElem_cons_zero, List.getElem_cons_succ, Act.put, List.setIfInBounds_toArray, List.set_cons_zero, List.set_cons_succ]
        refine wpAnyH_ready (rs := [24]) (by kernel_rfl) (by simp) ?_
        refine AllReadyH.cons rfl (fun K hK => ?_) AllReadyH.nil
        try simp only [List.getElem_toArray]
        go_simp
        (go_at_call 26; refine (HFl.out _ _ (by first | exact I1.out.rd | exact I1.out.rd.below (k := w6.heap.size) ((Below.refl _ _).drew) (Nat.le_refl _))).mono ?_; rintro e w7 ⟨a7, c7, rfl, hin7, hbd⟩; rw [HGl.out] at hin7 ⊢; have hb7 : Below w6.heap.size w6 w7 := (by first | exact hbd | exact ⟨hbd.os, hbd.tape, hbd.output, hbd.size, hbd.block⟩); clear hbd; have hz7 := hb7.size; replace X := Lib.hid (X.out.next hb7 X.out.lt); replace I1 := Lib.hid (I1.out.below hb7 (Nat.le_refl _)); replace B := Lib.hid (B.out.trans (hb7.mono B.out.size)); have IG := Lib.hid (hin7.mono (Nat.zero_le _)); clear hin7; clear hb7; have x0_7 := X.out.out.at0; have x1_7 := X.out.out.at1)
        refine hK.out _ _ (by first | exact ⟨x0_7, x1_7⟩ | exact ⟨x0_6, x1_6⟩ | exact ⟨x0, x1⟩ | go_keep) (fun hHeld => ?_)
        clear hK K
        try simp only [List.getElem_toArray, List.getElem_cons_zero, List.getElem_cons_succ, Act.put, List.setIfInBounds_toArray, List.set_cons_zero, List.set_cons_succ]
        refine wpAnyH_ready (rs := [25]) (by kernel_rfl) (by simp) ?_
        refine AllReadyH.cons rfl (fun K hK => ?_) AllReadyH.nil
        try simp only [List.getElem_toArray]
        go_simp
        (go_at_call 17; refine (HUG.out _ _ (by first | exact IG.out.rd | exact IG.out.rd.below (k := w7.heap.size) ((Below.refl _ _).drew) (Nat.le_refl _))).mono ?_; rintro e w8 ⟨rfl, hbd⟩; have hb8 : Below w7.heap.size w7 w8 := (by first | exact hbd | exact ⟨hbd.os, hbd.tape, hbd.output, hbd.size, hbd.block⟩); clear hbd; have hz8 := hb8.size; replace X := Lib.hid (X.out.next hb8 X.out.lt); replace I1 := Lib.hid (I1.out.below hb8 (Nat.le_refl _)); replace IG := Lib.hid (IG.out.below hb8 (Nat.le_refl _)); replace B := Lib.hid (B.out.trans (hb8.mono B.out.size)); clear hb8; have x0_8 := X.out.out.at0; have x1_8 := X.out.out.at1)
        refine hK.out _ _ (by first | exact ⟨x0_8, x1_8⟩ | exact ⟨x0_7, x1_7⟩ | exact ⟨x0_6, x1_6⟩ | exact ⟨x0, x1⟩ | go_keep) (fun hHeld => ?_)
        clear hK K
        try simp only [List.getElem_toArray, List.getElem_cons_zero, List.getElem_cons_succ, Act.put, List.setIfInBounds_toArray, List.set_cons_zero, List.set_cons_succ]
        refine wpAnyH_take (i := 27) (v := ?_) rfl (by kernel_rfl) (by kernel_rfl) (by kernel_rfl) (fun _ _ _ h => h) (Or.inl ⟨by rfl, ?_⟩) (by assumption) ?_
        rotate_left
        · (intro w hSw; (try dsimp only at hSw); go_simp; try with_reducible rfl)
        try simp only [List.getElem_toArray, List.getElem_cons_zero, List.getElem_cons_succ, Act.put, List.setIfInBounds_toArray, List.set_cons_zero, List.set_cons_succ]
        refine wpAnyH_take (i := 28) (v := ?_) rfl (by kernel_rfl) (by kernel_rfl) (by kernel_rfl) (fun _ _ _ h => h) (Or.inl ⟨by rfl, ?_⟩) (by assumption) ?_
        rotate_left
        · (intro w hSw; (try dsimp only at hSw); go_simp; try with_reducible rfl)
        try simp only [List.getElem_toArray, List.getElem_cons_zero, List.getElem_cons_succ, Act.put, List.setIfInBounds_toArray, List.set_cons_zero, List.set_cons_succ]
        refine wpAnyH_take (i := 29) (v := ?_) rfl (by kernel_rfl) (by kernel_rfl) (by kernel_rfl) (fun _ _ _ h => h) (Or.inl ⟨by rfl, ?_⟩) (by assumption) ?_
        rotate_left
        · (intro w hSw; (try dsimp only at hSw); go_simp; try with_reducible rfl)
        try simp only [List.getElem_toArray, List.getElem_cons_zero, List.getElem_cons_succ, Act.put, List.setIfInBounds_toArray, List.set_cons_zero, List.set_cons_succ]
        refine wpAnyH_done (by kernel_rfl) ?_ _
        go_wp2_with fail
        go_ret
        exact ⟨rfl, by first | exact B.out | exact B.out.drew⟩
      · have hp0 : ¬ p = 0 := fun e => hL0 (hpL.1 e)
        have hpI : ((p : Int) == 0) = false := by simp; omega
        have hLI : ((L : Int) == 0) = false := by simp; omega
        clear hpL hL0 hp0
        refine (HI.out _ _ I1.out.rd).mono ?_
        rintro e w3 ⟨rfl, hb3⟩
        have hz3 := hb3.size
        replace X := Lib.hid (X.out.next hb3 X.out.lt)
        replace I1 := Lib.hid (I1.out.below hb3 (Nat.le_refl _))
        replace B := Lib.hid (B.out.trans (hb3.mono B.out.size))
        clear hb3
        have x0 := X.out.out.at0
        have x1 := X.out.out.at1
        go_wp2_with fail
        clear x0 x1
        refine (HS.out _ _ I1.out.rd).mono ?_
        rintro e w4 ⟨rfl, hb4⟩
        have hz4 := hb4.size
        replace X := Lib.hid (X.out.next hb4 X.out.lt)
        replace I1 := Lib.hid (I1.out.below hb4 (Nat.le_refl _))
        replace B := Lib.hid (B.out.trans (hb4.mono B.out.size))
        clear hb4
        have x0 := X.out.out.at0
        have x1 := X.out.out.at1
        go_wp2_with fail
        clear x0 x1
        refine (HV.out _ _ I1.out.rd).mono ?_
        rintro e w5 ⟨rfl, hb5⟩
        have hz5 := hb5.size
        replace X := Lib.hid (X.out.next hb5 X.out.lt)
        replace I1 := Lib.hid (I1.out.below hb5 (Nat.le_refl _))
        replace B := Lib.hid (B.out.trans (hb5.mono B.out.size))
        clear hb5
        have x0 := X.out.out.at0
        have x1 := X.out.out.at1
        go_wp2_with fail
        refine wp_region_held_drew (S := fun w' => w'.cell? ⟨o, 0, none⟩ = some (.int .i64 (m : Int)) ∧ w'.cell? ⟨o, 1, none⟩ = some (.slice a1 L c1)) (by kernel_rfl) (by first | exact ⟨x0, x1⟩ | go_keep) (fun hHeld => ?_)
        refine wpAnyH_take (i := 0) (v := ?_) rfl (by kernel_rfl) (by kernel_rfl) (by kernel_rfl) (fun _ _ _ h => h) (Or.inl ⟨by rfl, ?_⟩) (by assumption) ?_
        rotate_left
        · (intro w hSw; (try dsimp only at hSw); go_simp; try with_reducible rfl)
        try simp only [List.getElem_toArray, List.getElem_cons_zero, Act.put, List.setIfInBounds_toArray, List.set_cons_zero, List.set_cons_succ]
        refine wpAnyH_take (i := 1) (v := ?_) rfl (by kernel_rfl) (by kernel_rfl) (by kernel_rfl) (fun _ _ _ h => h) (Or.inl ⟨by rfl, ?_⟩) (by assumption) ?_
        rotate_left
        · (intro w hSw; (try dsimp only at hSw); go_simp; try with_reducible rfl)
        try simp only [List.getElem_toArray, List.getElem_cons_zero, List.getElem_cons_succ, Act.put, List.setIfInBounds_toArray, List.set_cons_zero, List.set_cons_succ]
        refine wpAnyH_take (i := 5) (v := ?_) rfl (by kernel_rfl) (by kernel_rfl) (by kernel_rfl) (fun _ _ _ h => h) (Or.inl ⟨by rfl, ?_⟩) (by assumption) ?_
        rotate_left
        · (intro w hSw; (try dsimp only at hSw); go_simp; try with_reducible rfl)
        try simp only [List.getElem_toArray, List.getElem_cons_zero, List.getElem_cons_succ, Act.put, List.setIfInBounds_toArray, List.set_cons_zero, List.set_cons_succ]
        refine wpAnyH_take (i := 6) (v := ?_) rfl (by kernel_rfl) (by kernel_rfl) (by kernel_rfl) (fun _ _ _ h => h) (Or.inl ⟨by rfl, ?_⟩) (by assumption) ?_
        rotate_left
        · (intro w hSw; (try dsimp only at hSw); go_simp; try with_reducible rfl)
        try simp only [List.getElem_toArray, List.getElem_cons_zero, List.getElem_cons_succ, Act.put, List.setIfInBounds_toArray, List.set_cons_zero, List.set_cons_succ]
        refine wpAnyH_take (i := 7) (v := ?_) rfl (by kernel_rfl) (by kernel_rfl) (by kernel_rfl) (fun _ _ _ h => h) (Or.inl ⟨by rfl, ?_⟩) (by assumption) ?_
        rotate_left
        · (intro w hSw; (try dsimp only at hSw); go_simp; try with_reducible rfl)
        try simp only [List.getElem_toArray, List.getElem_cons_zero, List.getElem_cons_succ, Act.put, List.setIfInBounds_toArray, List.set_cons_zero, List.set_cons_succ]
        refine wpAnyH_ready (rs := [2]) (by kernel_rfl) (by simp) ?_
        refine AllReadyH.cons rfl (fun K hK => ?_) AllReadyH.nil
        try simp only [List.getElem_toArray]
        go_simp
        (go_at_call 25; refine (HE.out _ _ (by first | exact I1.out.rd | exact I1.out.rd.below (k := w5.heap.size) ((Below.refl _ _).drew) (Nat.le_refl _))).mono ?_; rintro e w6 ⟨a6, c6, rfl, hin6, hbd⟩; rw [HKl.out]; clear hin6; have hb6 : Below w5.heap.size w5 w6 := (by first | exact hbd | exact ⟨hbd.os, hbd.tape, hbd.output, hbd.size, hbd.block⟩); clear hbd; have hz6 := hb6.size; replace X := Lib.hid (X.out.next hb6 X.out.lt); replace I1 := Lib.hid (I1.out.below hb6 (Nat.le_refl _)); replace B := Lib.hid (B.out.trans (hb6.mono B.out.size)); clear hb6; have x0_6 := X.out.out.at0; have x1_6 := X.out.out.at1)
        refine hK.out _ _ (by first | exact ⟨x0_6, x1_6⟩ | exact ⟨x0, x1⟩ | go_keep) (fun hHeld => ?_)
        clear hK K
        try simp only [List.getElem_toArray, List.getElem_cons_zero, List.getElem_cons_succ, Act.put, List.setIfInBounds_toArray, List.set_cons_zero, List.set_cons_succ]
        refine wpAnyH_take (i := 3) (v := ?_) rfl (by kernel_rfl) (by kernel_rfl) (by kernel_rfl) (fun _ _ _ h => h) (Or.inl ⟨by rfl, ?_⟩) (by assumption) ?_
        rotate_left
        · (intro w hSw; (try dsimp only at hSw); go_simp; try with_reducible rfl)
        try simp only [List.getElem_toArray, List.getElem_cons_zero, List.getElem_cons_succ, Act.put, List.setIfInBounds_toArray, List.set_cons_zero, List.set_cons_succ]
        refine wpAnyH_take (i := 4) (v := ?_) rfl (by kernel_rfl) (by kernel_rfl) (by kernel_rfl) (fun _ _ _ h => h) (Or.inl ⟨by rfl, ?_⟩) (by assumption) ?_
        rotate_left
        · (intro w hSw; (try dsimp only at hSw); go_simp; (try rw [hwd]); (try rw [hwK]); try with_reducible rfl)
        try simp only [List.getElem_toArray, List.getElem_cons_zero, List.getElem_cons_succ, Act.put, List.setIfInBounds_toArray, List.set_cons_zero, List.set_cons_succ]
        refine wpAnyH_take (i := 8) (v := ?_) rfl (by kernel_rfl) (by kernel_rfl) (by kernel_rfl) (fun _ _ _ h => h) (Or.inl ⟨by rfl, ?_⟩) (by assumption) ?_
        rotate_left
        · (intro w hSw; (try dsimp only at hSw); go_simp; try with_reducible rfl)
        try simp only [List.getElem_toArray, List.getElem_cons_zero, List.getElem_cons_succ, Act.put, List.setIfInBounds_toArray, List.set_cons_zero, List.set_cons_succ]
        refine wpAnyH_take (i := 9) (v := ?_) rfl (by kernel_rfl) (by kernel_rfl) (by kernel_rfl) (fun _ _ _ h => h) (Or.inl ⟨by rfl, ?_⟩) (by assumption) ?_
        rotate_left
        · (intro w hSw; (try dsimp only at hSw); go_simp; try with_reducible rfl)
        try simp only [List.getElem_toArray, List.getElem_cons_zero, List.getElem_cons_succ, Act.put, List.setIfInBounds_toArray, List.set_cons_zero, List.set_cons_succ]
        refine wpAnyH_take (i := 10) (v := ?_) rfl (by kernel_rfl) (by kernel_rfl) (by kernel_rfl) (fun _ _ _ h => h) (Or.inl ⟨by rfl, ?_⟩) (by assumption) ?_
        rotate_left
        · (intro w hSw; (try dsimp only at hSw); go_simp; try with_reducible rfl)
        try simp only [List.getElem_toArray, List.getElem_cons_zero, List.getElem_cons_succ, Act.put, List.setIfInBounds_toArray, List.set_cons_zero, List.set_cons_succ]
        refine wpAnyH_take (i := 11) (v := ?_) rfl (by kernel_rfl) (by kernel_rfl) (by kernel_rfl) (fun _ _ _ h => h) (Or.inl ⟨by rfl, ?_⟩) (by assumption) ?_
        rotate_left
        · (intro w hSw; (try dsimp only at hSw); go_simp; try with_reducible rfl)
        try simp only [List.getElem_toArray, List.getElem_cons_zero, List.getElem_cons_succ, Act.put, List.setIfInBounds_toArray, List.set_cons_zero, List.set_cons_succ]
        refine wpAnyH_take (i := 12) (v := ?_) rfl (by kernel_rfl) (by kernel_rfl) (by kernel_rfl) (fun _ _ _ h => h) (Or.inl ⟨by rfl, ?_⟩) (by assumption) ?_
        rotate_left
        · (intro w hSw; (try dsimp only at hSw); go_simp; try with_reducible rfl)
        try simp only [List.getElem_toArray, List.getElem_cons_zero, List.getElem_cons_succ, Act.put, List.setIfInBounds_toArray, List.set_cons_zero, List.set_cons_succ]
        refine wpAnyH_take (i := 13) (v := ?_) rfl (by kernel_rfl) (by kernel_rfl) (by kernel_rfl) (fun _ _ _ h => h) (Or.inl ⟨by rfl, ?_⟩) (by assumption) ?_
        rotate_left
        · (intro w hSw; (try dsimp only at hSw); go_simp; try with_reducible rfl)
        try simp only [List.getElem_toArray, List.getElem_cons_zero, List.getElem_cons_succ, Act.put, List.setIfInBounds_toArray, List.set_cons_zero, List.set_cons_succ]
        refine wpAnyH_take (i := 14) (v := ?_) rfl (by kernel_rfl) (by kernel_rfl) (by kernel_rfl) (fun _ _ _ h => h) (Or.inl ⟨by rfl, ?_⟩) (by assumption) ?_
        rotate_left
        · (intro w hSw; (try dsimp only at hSw); go_simp; try with_reducible rfl)
        try simp only [List.getElem_toArray, List.getElem_cons_zero, List.getElem_cons_succ, Act.put, List.setIfInBounds_toArray, List.set_cons_zero, List.set_cons_succ]
        refine wpAnyH_take (i := 15) (v := ?_) rfl (by kernel_rfl) (by kernel_rfl) (by kernel_rfl) (fun _ _ _ h => h) (Or.inl ⟨by rfl, ?_⟩) (by assumption) ?_
        rotate_left
        · (intro w hSw; (try dsimp only at hSw); go_simp; try with_reducible rfl)
        try simp only [List.getElem_toArray, List.getElem_cons_zero, List.getElem_cons_succ, Act.put, List.setIfInBounds_toArray, List.set_cons_zero, List.set_cons_succ]
        refine wpAnyH_take (i := 16) (v := ?_) rfl (by kernel_rfl) (by kernel_rfl) (by kernel_rfl) (fun _ _ _ h => h) (Or.inl ⟨by rfl, ?_⟩) (by assumption) ?_
        rotate_left
        · (intro w hSw; (try dsimp only at hSw); go_simp; try with_reducible rfl)
        try simp only [List.getElem_toArray, List.getElem_cons_zero, List.getElem_cons_succ, Act.put, List.setIfInBounds_toArray, List.set_cons_zero, List.set_cons_succ]
        refine wpAnyH_take (i := 17) (v := ?_) rfl (by kernel_rfl) (by kernel_rfl) (by kernel_rfl) (fun _ _ _ h => h) (Or.inl ⟨by rfl, ?_⟩) (by assumption) ?_
        rotate_left
        · (intro w hSw; (try dsimp only at hSw); go_simp; try with_reducible rfl)
        try simp only [List.getElem_toArray, List.getElem_cons_zero, List.getElem_cons_succ, Act.put, List.setIfInBounds_toArray, List.set_cons_zero, List.set_cons_succ]
        refine wpAnyH_take (i := 18) (v := ?_) rfl (by kernel_rfl) (by kernel_rfl) (by kernel_rfl) (fun _ _ _ h => h) (Or.inl ⟨by rfl, ?_⟩) (by assumption) ?_
        rotate_left
        · (intro w hSw; (try dsimp only at hSw); go_simp; try with_reducible rfl)
        try simp only [List.getElem_toArray, List.getElem_cons_zero, List.getElem_cons_succ, Act.put, List.setIfInBounds_toArray, List.set_cons_zero, List.set_cons_succ]
        refine wpAnyH_take (i := 19) (v := ?_) rfl (by kernel_rfl) (by kernel_rfl) (by kernel_rfl) (fun _ _ _ h => h) (Or.inl ⟨by rfl, ?_⟩) (by assumption) ?_
        rotate_left
        · (intro w hSw; (try dsimp only at hSw); go_simp; try with_reducible rfl)
        try simp only [List.getElem_toArray, List.getElem_cons_zero, List.getElem_cons_succ, Act.put, List.setIfInBounds_toArray, List.set_cons_zero, List.set_cons_succ]
        refine wpAnyH_take (i := 20) (v := ?_) rfl (by kernel_rfl) (by kernel_rfl) (by kernel_rfl) (fun _ _ _ h => h) (Or.inl ⟨by rfl, ?_⟩) (by assumption) ?_
        rotate_left
        · (intro w hSw; (try dsimp only at hSw); go_simp; try with_reducible rfl)
        try simp only [List.getElem_toArray, List.getElem_cons_zero, List.getElem_cons_succ, Act.put, List.setIfInBounds_toArray, List.set_cons_zero, List.set_cons_succ]
        refine wpAnyH_take (i := 21) (v := ?_) rfl (by kernel_rfl) (by kernel_rfl) (by kernel_rfl) (fun _ _ _ h => h) (Or.inl ⟨by rfl, ?_⟩) (by assumption) ?_
        rotate_left
        · (intro w hSw; (try dsimp only at hSw); go_simp; try with_reducible rfl)
        try simp only [List.getElem_toArray, List.getElem_cons_zero, List.getElem_cons_succ, Act.put, List.setIfInBounds_toArray, List.set_cons_zero, List.set_cons_succ]
        refine wpAnyH_take (i := 26) (v := ?_) rfl (by kernel_rfl) (by kernel_rfl) (by kernel_rfl) (fun _ _ _ h => h) (Or.inl ⟨by rfl, ?_⟩) (by assumption) ?_
        rotate_left
        · (intro w hSw; (try dsimp only at hSw); go_simp; try with_reducible rfl)
        try simp only [List.getElem_toArray, List.getElem_cons_zero, List.getElem_cons_succ, Act.put, List.setIfInBounds_toArray, List.set_cons_zero, List.set_cons_succ]
        refine wpAnyH_ready (rs := [22]) (by kernel_rfl) (by simp) ?_
        refine AllReadyH.cons rfl (fun K hK => ?_) AllReadyH.nil
        try simp only [List.getElem_toArray]
        go_simp
        (go_at_call 27; refine (HPW.out _).mono ?_; rintro e w99 ⟨rfl, hw99⟩; subst w99)
        refine hK.out _ _ (by first | exact ⟨x0_6, x1_6⟩ | exact ⟨x0, x1⟩ | go_keep) (fun hHeld => ?_)
        clear hK K
        try simp only [List.getElem_toArray, List.getElem_cons_zero, List.getElem_cons_succ, Act.put, List.setIfInBounds_toArray, List.set_cons_zero, List.set_cons_succ]
        refine wpAnyH_take (i := 23) (v := ?_) rfl (by kernel_rfl) (by kernel_rfl) (by kernel_rfl) (fun _ _ _ h => h) (Or.inl ⟨by rfl, ?_⟩) (by assumption) ?_
        rotate_left
        · (intro w hSw; (try dsimp only at hSw); go_simp; (try rw [hw1]); try with_reducible rfl)
        try simp only [List.getElem_toArray, List.getElem_cons_zero, List.getElem_cons_succ, Act.put, List.setIfInBounds_toArray, List.set_cons_zero, List.set_cons_succ]
        refine wpAnyH_ready (rs := [24]) (by kernel_rfl) (by simp) ?_
        refine AllReadyH.cons rfl (fun K hK => ?_) AllReadyH.nil
        try simp only [List.getElem_toArray]
        go_simp
        (go_at_call 26; refine (HFl.out _ _ (by first | exact I1.out.rd | exact I1.out.rd.below (k := w6.heap.size) ((Below.refl _ _).drew) (Nat.le_refl _))).mono ?_; rintro e w7 ⟨a7, c7, rfl, hin7, hbd⟩; rw [HGl.out] at hin7 ⊢; have hb7 : Below w6.heap.size w6 w7 := (by first | exact hbd | exact ⟨hbd.os, hbd.tape, hbd.output, hbd.size, hbd.block⟩); clear hbd; have hz7 := hb7.size; replace X := Lib.hid (X.out.next hb7 X.out.lt); replace I1 := Lib.hid (I1.out.below hb7 (Nat.le_refl _)); replace B := Lib.hid (B.out.trans (hb7.mono B.out.size)); have IG := Lib.hid (hin7.mono (Nat.zero_le _)); clear hin7; clear hb7; have x0_7 := X.out.out.at0; have x1_7 := X.out.out.at1)
        refine hK.out _ _ (by first | exact ⟨x0_7, x1_7⟩ | exact ⟨x0_6, x1_6⟩ | exact ⟨x0, x1⟩ | go_keep) (fun hHeld => ?_)
        clear hK K
        try simp only [List.getElem_toArray, List.getElem_cons_zero, List.getElem_cons_succ, Act.put, List.setIfInBounds_toArray, List.set_cons_zero, List.set_cons_succ]
        refine wpAnyH_ready (rs := [25]) (by kernel_rfl) (by simp) ?_
        refine AllReadyH.cons rfl (fun K hK => ?_) AllReadyH.nil
        try simp only [List.getElem_toArray]
        go_simp
        (go_at_call 17; refine (HUG.out _ _ (by first | exact IG.out.rd | exact IG.out.rd.below (k := w7.heap.size) ((Below.refl _ _).drew) (Nat.le_refl _))).mono ?_; rintro e w8 ⟨rfl, hbd⟩; have hb8 : Below w7.heap.size w7 w8 := (by first | exact hbd | exact ⟨hbd.os, hbd.tape, hbd.output, hbd.size, hbd.block⟩); clear hbd; have hz8 := hb8.size; replace X := Lib.hid (X.out.next hb8 X.out.lt); replace I1 := Lib.hid (I1.out.below hb8 (Nat.le_refl _)); replace IG := Lib.hid (IG.out.below hb8 (Nat.le_refl _)); replace B := Lib.hid (B.out.trans (hb8.mono B.out.size)); clear hb8; have x0_8 := X.out.out.at0; have x1_8 := X.out.out.at1)
        refine hK.out _ _ (by first | exact ⟨x0_8, x1_8⟩ | exact ⟨x0_7, x1_7⟩ | exact ⟨x0_6, x1_6⟩ | exact ⟨x0, x1⟩ | go_keep) (fun hHeld => ?_)
        clear hK K
        try simp only [List.getElem_toArray, List.getElem_cons_zero, List.getElem_cons_succ, Act.put, List.setIfInBounds_toArray, List.set_cons_zero, List.set_cons_succ]
        refine wpAnyH_take (i := 27) (v := ?_) rfl (by kernel_rfl) (by kernel_rfl) (by kernel_rfl) (fun _ _ _ h => h) (Or.inl ⟨by rfl, ?_⟩) (by assumption) ?_
        rotate_left
        · (intro w hSw; (try dsimp only at hSw); go_simp; try with_reducible rfl)
        try simp only [List.getElem_toArray, List.getElem_cons_zero, List.getElem_cons_succ, Act.put, List.setIfInBounds_toArray, List.set_cons_zero, List.set_cons_succ]
        refine wpAnyH_take (i := 28) (v := ?_) rfl (by kernel_rfl) (by kernel_rfl) (by kernel_rfl) (fun _ _ _ h => h) (Or.inl ⟨by rfl, ?_⟩) (by assumption) ?_
        rotate_left
        · (intro w hSw; (try dsimp only at hSw); go_simp; try with_reducible rfl)
        try simp only [List.getElem_toArray, List.getElem_cons_zero, List.getElem_cons_succ, Act.put, List.setIfInBounds_toArray, List.set_cons_zero, List.set_cons_succ]
        refine wpAnyH_take (i := 29) (v := ?_) rfl (by kernel_rfl) (by kernel_rfl) (by kernel_rfl) (fun _ _ _ h => h) (Or.inl ⟨by rfl, ?_⟩) (by assumption) ?_
        rotate_left
        · (intro w hSw; (try dsimp only at hSw); go_simp; try with_reducible rfl)
        try simp only [List.getElem_toArray, List.getElem_cons_zero, List.getElem_cons_succ, Act.put, List.setIfInBounds_toArray, List.set_cons_zero, List.set_cons_succ]
        refine wpAnyH_done (by kernel_rfl) ?_ _
        go_wp2_with fail
        go_ret
        exact ⟨rfl, by first | exact B.out | exact B.out.drew⟩
    · rw [Bool.not_eq_true] at hv
      have HI := Lib.hid (fun v w h => implCompsNo N v zs w hv h)
      have HS := Lib.hid (fun v w h => specCompsNo N v zs w hv h)
      have HV := Lib.hid (fun v w h => implValid N v zs w h)
      rw [hv] at HV
      clear hv
      refine (HI.out _ _ I1.out.rd).mono ?_
      rintro e w3 ⟨rfl, hb3⟩
      have hz3 := hb3.size
      replace X := Lib.hid (X.out.next hb3 X.out.lt)
      replace I1 := Lib.hid (I1.out.below hb3 (Nat.le_refl _))
      replace B := Lib.hid (B.out.trans (hb3.mono B.out.size))
      clear hb3
      have x0 := X.out.out.at0
      have x1 := X.out.out.at1
      go_wp2_with fail
      clear x0 x1
      refine (HS.out _ _ I1.out.rd).mono ?_
      rintro e w4 ⟨rfl, hb4⟩
      have hz4 := hb4.size
      replace X := Lib.hid (X.out.next hb4 X.out.lt)
      replace I1 := Lib.hid (I1.out.below hb4 (Nat.le_refl _))
      replace B := Lib.hid (B.out.trans (hb4.mono B.out.size))
      clear hb4
      have x0 := X.out.out.at0
      have x1 := X.out.out.at1
      go_wp2_with fail
      clear x0 x1
      refine (HV.out _ _ I1.out.rd).mono ?_
      rintro e w5 ⟨rfl, hb5⟩
      have hz5 := hb5.size
      replace X := Lib.hid (X.out.next hb5 X.out.lt)
      replace I1 := Lib.hid (I1.out.below hb5 (Nat.le_refl _))
      replace B := Lib.hid (B.out.trans (hb5.mono B.out.size))
      clear hb5
      have x0 := X.out.out.at0
      have x1 := X.out.out.at1
      go_wp2_with fail
      clear x0 x1
      refine (HS.out _ _ I1.out.rd).mono ?_
      rintro e w6 ⟨rfl, hb6⟩
      have hz6 := hb6.size
      replace X := Lib.hid (X.out.next hb6 X.out.lt)
      replace I1 := Lib.hid (I1.out.below hb6 (Nat.le_refl _))
      replace B := Lib.hid (B.out.trans (hb6.mono B.out.size))
      clear hb6
      have x0 := X.out.out.at0
      have x1 := X.out.out.at1
      go_wp2_with fail
      clear x0 x1
      go_ret
      exact ⟨rfl, by first | exact B.out | exact B.out.drew⟩
  · go_enter Try.func5, Try.ntmps5
    go_wp2_with fail
    go_ret
    exact ⟨rfl, Below.refl _ _⟩

end Go.Proofs.Ytgldckgecoijfaa
