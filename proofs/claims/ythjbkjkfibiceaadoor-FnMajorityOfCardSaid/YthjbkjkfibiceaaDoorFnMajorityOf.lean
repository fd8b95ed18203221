/- FnMajorityOf's walk: majorities turn round. Conditions: the code is a slice of bytes. -/
import Derived.Test.YthjbkjkfibiceaaDoorZK
import Derived.Test.YthjbkjkfibiceaaDoorZJ
import Derived.Test.YthjbkjkfibiceaaDoorDrawsM
import Derived.Test.YthjbkjkfibiceaaDoorMajM
import Derived.Test.YthjbkjkfibiceaaDoorMaj
import Derived.Test.YthjbkjkfibiceaaDoorMajS
import Derived.Test.YthjbkjkfibiceaaDoorZD
namespace Go.Proofs.YthjbkjkfibiceaaDoor
open Go.RowKit

theorem eqB_self (xs : List Int) : eqB xs xs = true := eqB_of rfl (fun _ _ => rfl)

set_option maxHeartbeats 6400000 in
set_option maxRecDepth 100000 in
theorem walkFnMajorityOf (a : Option Addr) (b off n cap : Nat) (w : World) (hc : n ≤ cap) (hcap : cap ≤ maxLen) (h : Byt w a b off n) (hsw : SW w) :
    Calls Tryd.prog 6 #[.slice a n cap] w fun e w' => e = .returned (.bool true) ∧ Below w.heap.size w w' := by
  have HSW := Lib.hid hsw
  clear hsw
  by_cases hn : n ≤ 1048576
  · have HD := Lib.hid (dDrawMajorityOf a b off n cap w hc hn hcap h)
    clear h
    go_enter Tryd.func6, Tryd.ntmps6
    go_wp2_with fail
    refine HD.out.mono ?_
    rintro e w1 ⟨N, zs, s, hbd, a1, c1, rfl, hin, hb⟩
    generalize hL : zs.length = L at *
    have X := Lib.hid (Bx.new N (.slice a1 L c1) w1)
    have I1 := Lib.hid ((hin.mono (Nat.zero_le _)).alloc (Obj.cells #[.int .i64 N, .slice a1 L c1] 25))
    have B := Lib.hid (hb.alloc hb.size (Obj.cells #[.int .i64 N, .slice a1 L c1] 25))
    have HZ2 := Lib.hid (show (w1.alloc (Obj.cells #[.int .i64 N, .slice a1 L c1] 25)).heap.size = w1.heap.size + 1 by simp)
    have hz1 := hb.size
    clear hin hb HD
    go_wp2_with fail
    generalize (w1.alloc (Obj.cells #[.int .i64 N, .slice a1 L c1] 25)) = w2 at *
    have hz2 := HZ2.out
    generalize ho : w1.heap.size = o at *
    obtain ⟨hN0, hN1, hL34⟩ := hbd
    by_cases hp : ptB N zs s = true
    · have hmj : ∀ m : Nat, ∀ ns : List Nat, ∀ y : Nat, N = m → zs = toI ns → s = y → majB N zs s = gHal ns y := by
        rintro m ns y rfl rfl rfl
        rw [majB, hp, toNat_toI]; simp
      obtain ⟨m, y, ns, rfl, rfl, rfl, hcl, hy, hm, hv⟩ := ptB_nat hp
      replace hmj := hmj m ns y rfl rfl rfl
      have hL2 : ns.length = L := by rw [← hL, toI_length]
      obtain ⟨p, hpp⟩ : ∃ p, p = 2 ^ y := ⟨_, rfl⟩
      have hplt : p < 2 ^ m := by rw [hpp]; exact Nat.pow_lt_pow_right (by omega) hy
      have hp1 : 0 < p := by rw [hpp]; exact Nat.two_pow_pos y
      have hp32 : p < 32 := Nat.lt_of_lt_of_le hplt (pow_le_32 hm)
      obtain ⟨G, hG⟩ : ∃ G, G = flp p ns := ⟨_, rfl⟩
      have hcG : Cls m G := by rw [hG]; exact flp_cls hcl hplt
      have hsb : setB m (p : Int) = true := by
        have : ((2 ^ m : Nat) : Int) = (2 : Int) ^ m := by simp
        simp only [setB, Bool.and_eq_true, decide_eq_true_eq]
        omega
      have hib : inB (m : Int) (toI ns) (p : Int) = true := by simp [inB, hv, hsb]
      have eN : flipN (m : Int) (toI ns) (p : Int) = m := by rw [flipN, if_pos hib]
      have eF : flipL (m : Int) (toI ns) (p : Int) = toI G := by rw [flipL, if_pos hib, toNat_toI, Int.toNat_natCast, hG, flp]
      have hptG : ptB (m : Int) (toI G) (y : Int) = true := by
        simp only [ptB, cls_vldB hcG, Bool.true_and, Bool.and_eq_true, decide_eq_true_eq]
        omega
      have hmG : majB (m : Int) (toI G) (y : Int) = gHal G y := by rw [majB, hptG, toNat_toI]; simp
      have hqG : gHal ns y = true → gHal G y = false := fun h => by rw [hG, hpp]; exact gHal_flp hcl hy h
      have hone : ∀ u, ns = [u] → gHal ns y = decide (u / p % 2 = 1) := fun u h => by rw [h, gHal_one, hasX, hpp]
      have hqI : (2 : Int) ^ y = (p : Int) := by rw [hpp]; simp
      have HI := Lib.hid (fun v w h hs => implMajorityOf (m : Int) v (toI ns) (y : Int) w h hs)
      have HS := Lib.hid (fun v w h => specMajorityOf (m : Int) v (toI ns) (y : Int) w h)
      have HV := Lib.hid (fun v w h => implValid (m : Int) v (toI ns) w h)
      have HF := Lib.hid (fun v w h => implFlipClass (m : Int) v (toI ns) (p : Int) w h)
      have HIG := Lib.hid (fun v w h hs => implMajorityOf (m : Int) v (toI G) (y : Int) w h hs)
      have HPW := Lib.hid (fun w => lawsPower (y : Int) w (by omega) (by omega))
      rw [Int.toNat_natCast, hqI] at HPW
      rw [hmj] at HI HS
      rw [hmG] at HIG
      rw [eN, eF] at HF
      rw [hv] at HV
      have HGl := Lib.hid (toI_length G)
      have HL32 := Lib.hid hcl.lt32
      clear eN eF hcG hptG hmG hmj hG hpp hqI hsb hib hv hp hcl
      generalize gHal ns y = q at *
      generalize gHal G y = q2 at *
      have hge : ¬ (m : Int) ≤ (y : Int) := by omega
      have hge2 : decide ((m : Int) ≤ (y : Int)) = false := decide_eq_false hge
      refine (HI.out _ _ I1.out.rd (by first | exact HSW.out.next B.out | exact (show SW (World.drew _) from HSW.out.next B.out) | exact HSW.out.next (B.out.trans ((Below.refl _ _).drew)))).mono ?_
      rintro e w3 ⟨rfl, hb3⟩
      have hz3 := hb3.size
      replace X := Lib.hid (X.out.next hb3 (by omega))
      replace I1 := Lib.hid (I1.out.below hb3 (Nat.le_refl _))
      replace B := Lib.hid (B.out.trans (hb3.mono (by omega)))
      clear hb3
      have x0 := X.out.out.at0
      have x1 := X.out.out.at1
      go_wp2_with fail
      clear x0 x1
      refine (HS.out _ _ I1.out.rd).mono ?_
      rintro e w4 ⟨rfl, hb4⟩
      have hz4 := hb4.size
      replace X := Lib.hid (X.out.next hb4 (by omega))
      replace I1 := Lib.hid (I1.out.below hb4 (Nat.le_refl _))
      replace B := Lib.hid (B.out.trans (hb4.mono (by omega)))
      clear hb4
      have x0 := X.out.out.at0
      have x1 := X.out.out.at1
      go_wp2_with fail
      clear x0 x1
      refine (HV.out _ _ I1.out.rd).mono ?_
      rintro e w5 ⟨rfl, hb5⟩
      have hz5 := hb5.size
      replace X := Lib.hid (X.out.next hb5 (by omega))
      replace I1 := Lib.hid (I1.out.below hb5 (Nat.le_refl _))
      replace B := Lib.hid (B.out.trans (hb5.mono (by omega)))
      clear hb5
      have x0 := X.out.out.at0
      have x1 := X.out.out.at1
      go_wp2_with fail
      clear x0 x1
      clear HI HS HV
      have x0 := X.out.out.at0
      have x1 := X.out.out.at1
      have XZ := Lib.hid (X.out.alloc (Obj.cells #[.int .i64 0, .slice none 0 0] 25))
      have IZ := Lib.hid (I1.out.alloc (Obj.cells #[.int .i64 0, .slice none 0 0] 25))
      have BZ := Lib.hid (B.out.alloc (by omega) (Obj.cells #[.int .i64 0, .slice none 0 0] 25))
      have YZ := Lib.hid (Bx.new 0 (.slice none 0 0) w5)
      have HZZ := Lib.hid (show (w5.alloc (Obj.cells #[.int .i64 0, .slice none 0 0] 25)).heap.size = w5.heap.size + 1 by simp)
      have z0 := XZ.out.out.at0
      have z1 := XZ.out.out.at1
      go_region_law (first
        | (go_simp; go_at_call 22; refine (HPW.out _).mono ?_; rintro e w9 ⟨rfl, hw9⟩; subst w9)
        | (go_simp; go_at_call 32; refine (HF.out _ _ (by first | exact I1.out.rd | exact I1.out.rd.below (k := w5.heap.size) ((Below.refl _ _).drew) (Nat.le_refl _))).mono ?_; rintro e w6 ⟨a6, c6, rfl, hin6, hbd⟩; rw [HGl.out] at hin6 ⊢; have hb6 : Below w5.heap.size w5 w6 := (by first | exact hbd | exact ⟨hbd.os, hbd.tape, hbd.output, hbd.size, hbd.block⟩); have hz6 := hb6.size; have X7 := Lib.hid (X.out.next hb6 (by omega)); have I17 := Lib.hid (I1.out.below hb6 (Nat.le_refl _)); have B7 := Lib.hid (B.out.trans (hb6.mono (by omega))); have IF := Lib.hid (hin6.mono (Nat.zero_le _)); clear hin6 hb6 hbd)
        | (go_simp; go_at_call 32; refine (HF.out _ _ (by first | exact IZ.out.rd | exact IZ.out.rd.below (k := w5.heap.size) ((Below.refl _ _).drew) (by omega))).mono ?_; rintro e w6 ⟨a6, c6, rfl, hin6, hbd⟩; rw [HGl.out] at hin6 ⊢; have hb6 : Below (w5.heap.size + 1) (w5.alloc (Obj.cells #[.int .i64 0, .slice none 0 0] 25)) w6 := (by have hq := (show Below (w5.alloc (Obj.cells #[.int .i64 0, .slice none 0 0] 25)).heap.size (w5.alloc (Obj.cells #[.int .i64 0, .slice none 0 0] 25)) w6 from (by first | exact hbd | exact ⟨hbd.os, hbd.tape, hbd.output, hbd.size, hbd.block⟩)); rw [HZZ.out] at hq; exact hq); have hz6 : w5.heap.size + 1 ≤ w6.heap.size := (by have := hb6.size; rw [HZZ.out] at this; exact this); have X7 := Lib.hid (XZ.out.next hb6 (by omega)); have I17 := Lib.hid (IZ.out.below hb6 (by rw [HZZ.out]; exact Nat.le_refl _)); have B7 := Lib.hid (BZ.out.trans (hb6.mono (by omega))); have YB := Lib.hid (YZ.out.next hb6 (by omega)); have IF := Lib.hid (hin6.mono (Nat.zero_le _)); clear hin6 hb6 hbd; have y0 := YB.out.out.at0; have y1 := YB.out.out.at1; have f0 := YB.out.out.free0; have f1 := YB.out.out.free1))
      all_goals
        first
        | (have XG := Lib.hid ((YB.out.setN m).set (.slice a6 G.length c6))
           have hne1 := YB.out.not_row IF.out
           have hne2 := YB.out.not_row I17.out
           have hyX : w1.heap.size ≠ w5.heap.size := by omega
           replace X := Lib.hid ((X7.out.other (p := w5.heap.size) (j := 0) (by omega) (.int .i64 (m : Int))).other (p := w5.heap.size) (j := 1) (by omega) (.slice a6 G.length c6))
           replace IF := Lib.hid ((IF.out.ne (j := 0) hne1 (.int .i64 (m : Int))).ne (j := 1) hne1 (.slice a6 G.length c6))
           replace I1 := Lib.hid ((I17.out.ne (j := 0) hne2 (.int .i64 (m : Int))).ne (j := 1) hne2 (.slice a6 G.length c6))
           replace B := Lib.hid ((B7.out.setCell (p := ⟨w5.heap.size, 0, none⟩) (by show w.heap.size ≤ w5.heap.size; omega) (.int .i64 (m : Int))).setCell (p := ⟨w5.heap.size, 1, none⟩) (by show w.heap.size ≤ w5.heap.size; omega) (.slice a6 G.length c6))
           clear x0 x1 z0 z1 y0 y1 f0 f1 XZ IZ BZ YZ HZZ YB
           generalize ((w6.setCell ⟨w5.heap.size, 0, none⟩ (.int .i64 (m : Int))).setCell ⟨w5.heap.size, 1, none⟩ (.slice a6 G.length c6)) = wE at *
           generalize w5.heap.size = g at *)
        | (have XG := Lib.hid (Bx.new (m : Int) (.slice a6 G.length c6) w6)
           replace X := Lib.hid (X7.out.alloc (Obj.cells #[.int .i64 (m : Int), .slice a6 G.length c6] 25))
           replace IF := Lib.hid (IF.out.alloc (Obj.cells #[.int .i64 (m : Int), .slice a6 G.length c6] 25))
           replace I1 := Lib.hid (I17.out.alloc (Obj.cells #[.int .i64 (m : Int), .slice a6 G.length c6] 25))
           replace B := Lib.hid (B7.out.alloc (by omega) (Obj.cells #[.int .i64 (m : Int), .slice a6 G.length c6] 25))
           clear x0 x1 z0 z1 XZ IZ BZ YZ HZZ
           generalize (w6.alloc (Obj.cells #[.int .i64 (m : Int), .slice a6 G.length c6] 25)) = wE at *
           generalize w6.heap.size = g at *)
      all_goals
        clear HF
      all_goals
        by_cases h1 : L = 1
        · obtain ⟨u, rfl⟩ := List.length_eq_one_iff.1 (show ns.length = 1 by omega)
          subst h1
          have HCU := Lib.hid (hone u rfl)
          clear hone
          have hu32 := HL32.out u (by simp)
          obtain ⟨sr, bs, offs, caps, es, g1, g3, g5⟩ := I1.out.rd
          simp only [Value.slice.injEq] at es
          obtain ⟨rfl, -, rfl⟩ := es
          rw [toI_length] at g1 g3 g5
          obtain ⟨rfl, gbl⟩ := g1 (by simp)
          have hcs : wE.cell? ⟨bs, offs, none⟩ = some (.int .i64 (u : Int)) := by simpa [toI] using g5 0 (by simp)
          clear g1 g3 g5
          have x0 := X.out.out.at0
          have x1 := X.out.out.at1
          have hp0 : ¬ p = 0 := by omega
          have HQ := Lib.hid (show (u : Int) / (p : Int) = ((u / p : Nat) : Int) by simp)
          have hr32 : u / p < 32 := Nat.lt_of_le_of_lt (Nat.div_le_self _ _) hu32
          obtain ⟨r, hr⟩ : ∃ r, r = u / p := ⟨_, rfl⟩
          rw [← hr] at HCU HQ hr32
          clear hr
          have htm : (q == ((r : Int).tmod 2 == 1)) = true := by
            rw [HCU.out, Int.tmod_eq_emod_of_nonneg (by omega)]
            have : ((r : Int) % 2 == 1) = decide (r % 2 = 1) := by rw [Bool.eq_iff_iff]; simp; omega
            rw [this]; simp
          have hdq : (!(q == ((r : Int).tmod 2 == 1))) = false := by rw [htm]; rfl
          clear HCU
          have hwr : IntKind.i64.wrap (r : Int) = (r : Int) := by rw [IntKind.wrap_i64]; omega
          go_wp2_with fail
          refine wp_region_held_drew (S := fun w' => w'.cell? ⟨o, 0, none⟩ = some (.int .i64 (m : Int)) ∧ w'.cell? ⟨o, 1, none⟩ = some (.slice (some ⟨bs, offs, none⟩) 1 c1) ∧ w'.cell? ⟨bs, offs, none⟩ = some (.int .i64 (u : Int))) (by kernel_rfl) (by first | exact ⟨x0, x1, hcs⟩ | go_keep) (fun hHeld => ?_)
          refine wpAnyH_take (i := 0) (v := ?_) rfl (by kernel_rfl) (by kernel_rfl) (by kernel_rfl) (fun _ _ _ h => h) (Or.inl ⟨by rfl, ?_⟩) (by assumption) ?_
          rotate_left
          · (intro w hSw; (try dsimp only at hSw); go_simp; try with_reducible rfl)
          try simp only [List.getElem_toArray, List.getElem_cons_zero, Act.put, List.setIfInBounds_toArray, List.set_cons_zero, List.set_cons_succ]
          refine wpAnyH_take (i := 1) (v := ?_) rfl (by kernel_rfl) (by kernel_rfl) (by kernel_rfl) (fun _ _ _ h => h) (Or.inl ⟨by rfl, ?_⟩) (by assumption) ?_
          rotate_left
          · (intro w hSw; (try dsimp only at hSw); go_simp; try with_reducible rfl)
          try simp only [List.getElem_toArray, List.getElem_cons_zero, List.getElem_cons_succ, Act.put, List.setIfInBounds_toArray, List.set_cons_zero, List.set_cons_succ]
          refine wpAnyH_take (i := 2) (v := ?_) rfl (by kernel_rfl) (by kernel_rfl) (by kernel_rfl) (fun _ _ _ h => h) (Or.inl ⟨by rfl, ?_⟩) (by assumption) ?_
          rotate_left
          · (intro w hSw; (try dsimp only at hSw); go_simp; try with_reducible rfl)
          try simp only [List.getElem_toArray, List.getElem_cons_zero, List.getElem_cons_succ, Act.put, List.setIfInBounds_toArray, List.set_cons_zero, List.set_cons_succ]
          refine wpAnyH_take (i := 3) (v := ?_) rfl (by kernel_rfl) (by kernel_rfl) (by kernel_rfl) (fun _ _ _ h => h) (Or.inl ⟨by rfl, ?_⟩) (by assumption) ?_
          rotate_left
          · (intro w hSw; (try dsimp only at hSw); go_simp; try with_reducible rfl)
          try simp only [List.getElem_toArray, List.getElem_cons_zero, List.getElem_cons_succ, Act.put, List.setIfInBounds_toArray, List.set_cons_zero, List.set_cons_succ]
          refine wpAnyH_take (i := 4) (v := ?_) rfl (by kernel_rfl) (by kernel_rfl) (by kernel_rfl) (fun _ _ _ h => h) (Or.inl ⟨by rfl, ?_⟩) (by assumption) ?_
          rotate_left
          · (intro w hSw; (try dsimp only at hSw); go_simp; try with_reducible rfl)
          try simp only [List.getElem_toArray, List.getElem_cons_zero, List.getElem_cons_succ, Act.put, List.setIfInBounds_toArray, List.set_cons_zero, List.set_cons_succ]
          refine wpAnyH_take (i := 5) (v := ?_) rfl (by kernel_rfl) (by kernel_rfl) (by kernel_rfl) (fun _ _ _ h => h) (Or.inl ⟨by rfl, ?_⟩) (by assumption) ?_
          rotate_left
          · (intro w hSw; (try dsimp only at hSw); go_simp; try with_reducible rfl)
          try simp only [List.getElem_toArray, List.getElem_cons_zero, List.getElem_cons_succ, Act.put, List.setIfInBounds_toArray, List.set_cons_zero, List.set_cons_succ]
          refine wpAnyH_take (i := 6) (v := ?_) rfl (by kernel_rfl) (by kernel_rfl) (by kernel_rfl) (fun _ _ _ h => h) (Or.inl ⟨by rfl, ?_⟩) (by assumption) ?_
          rotate_left
          · (intro w hSw; (try dsimp only at hSw); go_simp; try with_reducible rfl)
          try simp only [List.getElem_toArray, List.getElem_cons_zero, List.getElem_cons_succ, Act.put, List.setIfInBounds_toArray, List.set_cons_zero, List.set_cons_succ]
          refine wpAnyH_take (i := 7) (v := ?_) rfl (by kernel_rfl) (by kernel_rfl) (by kernel_rfl) (fun _ _ _ h => h) (Or.inl ⟨by rfl, ?_⟩) (by assumption) ?_
          rotate_left
          · (intro w hSw; (try dsimp only at hSw); go_simp; try with_reducible rfl)
          try simp only [List.getElem_toArray, List.getElem_cons_zero, List.getElem_cons_succ, Act.put, List.setIfInBounds_toArray, List.set_cons_zero, List.set_cons_succ]
          refine wpAnyH_take (i := 8) (v := ?_) rfl (by kernel_rfl) (by kernel_rfl) (by kernel_rfl) (fun _ _ _ h => h) (Or.inl ⟨by rfl, ?_⟩) (by assumption) ?_
          rotate_left
          · (intro w hSw; (try dsimp only at hSw); go_simp; try with_reducible rfl)
          try simp only [List.getElem_toArray, List.getElem_cons_zero, List.getElem_cons_succ, Act.put, List.setIfInBounds_toArray, List.set_cons_zero, List.set_cons_succ]
          refine wpAnyH_take (i := 9) (v := ?_) rfl (by kernel_rfl) (by kernel_rfl) (by kernel_rfl) (fun _ _ _ h => h) (Or.inl ⟨by rfl, ?_⟩) (by assumption) ?_
          rotate_left
          · (intro w hSw; (try dsimp only at hSw); go_simp; try with_reducible rfl)
          try simp only [List.getElem_toArray, List.getElem_cons_zero, List.getElem_cons_succ, Act.put, List.setIfInBounds_toArray, List.set_cons_zero, List.set_cons_succ]
          refine wpAnyH_take (i := 10) (v := ?_) rfl (by kernel_rfl) (by kernel_rfl) (by kernel_rfl) (fun _ _ _ h => h) (Or.inl ⟨by rfl, ?_⟩) (by assumption) ?_
          rotate_left
          · (intro w hSw; (try dsimp only at hSw); go_simp; try with_reducible rfl)
          try simp only [List.getElem_toArray, List.getElem_cons_zero, List.getElem_cons_succ, Act.put, List.setIfInBounds_toArray, List.set_cons_zero, List.set_cons_succ]
          refine wpAnyH_ready (rs := [11]) (by kernel_rfl) (by simp) ?_
          refine AllReadyH.cons rfl (fun K hK => ?_) AllReadyH.nil
          try simp only [List.getElem_toArray]
          go_simp
          (go_at_call 22; refine (HPW.out _).mono ?_; rintro e w99 ⟨rfl, hw99⟩; subst w99)
          refine hK.out _ _ (by first | exact ⟨x0, x1, hcs⟩ | go_keep) (fun hHeld => ?_)
          clear hK K
          try simp only [List.getElem_toArray, List.getElem_cons_zero, List.getElem_cons_succ, Act.put, List.setIfInBounds_toArray, List.set_cons_zero, List.set_cons_succ]
          refine wpAnyH_take (i := 12) (v := ?_) rfl (by kernel_rfl) (by kernel_rfl) (by kernel_rfl) (fun _ _ _ h => h) (Or.inl ⟨by rfl, ?_⟩) (by assumption) ?_
          rotate_left
          · (intro w hSw; (try dsimp only at hSw); go_simp; (try simp only [HQ.out, hwr]); try with_reducible rfl)
          try simp only [List.getElem_toArray, List.getElem_cons_zero, List.getElem_cons_succ, Act.put, List.setIfInBounds_toArray, List.set_cons_zero, List.set_cons_succ]
          refine wpAnyH_take (i := 13) (v := ?_) rfl (by kernel_rfl) (by kernel_rfl) (by kernel_rfl) (fun _ _ _ h => h) (Or.inl ⟨by rfl, ?_⟩) (by assumption) ?_
          rotate_left
          · (intro w hSw; (try dsimp only at hSw); go_simp; (try simp only [hwr]); try with_reducible rfl)
          try simp only [List.getElem_toArray, List.getElem_cons_zero, List.getElem_cons_succ, Act.put, List.setIfInBounds_toArray, List.set_cons_zero, List.set_cons_succ]
          refine wpAnyH_take (i := 14) (v := ?_) rfl (by kernel_rfl) (by kernel_rfl) (by kernel_rfl) (fun _ _ _ h => h) (Or.inl ⟨by rfl, ?_⟩) (by assumption) ?_
          rotate_left
          · (intro w hSw; (try dsimp only at hSw); go_simp; try with_reducible rfl)
          try simp only [List.getElem_toArray, List.getElem_cons_zero, List.getElem_cons_succ, Act.put, List.setIfInBounds_toArray, List.set_cons_zero, List.set_cons_succ]
          refine wpAnyH_take (i := 15) (v := ?_) rfl (by kernel_rfl) (by kernel_rfl) (by kernel_rfl) (fun _ _ _ h => h) (Or.inl ⟨by rfl, ?_⟩) (by assumption) ?_
          rotate_left
          · (intro w hSw; (try dsimp only at hSw); go_simp; try with_reducible rfl)
          try simp only [List.getElem_toArray, List.getElem_cons_zero, List.getElem_cons_succ, Act.put, List.setIfInBounds_toArray, List.set_cons_zero, List.set_cons_succ]
          refine wpAnyH_take (i := 16) (v := ?_) rfl (by kernel_rfl) (by kernel_rfl) (by kernel_rfl) (fun _ _ _ h => h) (Or.inl ⟨by rfl, ?_⟩) (by assumption) ?_
          rotate_left
          · (intro w hSw; (try dsimp only at hSw); go_simp; try with_reducible rfl)
          try simp only [List.getElem_toArray, List.getElem_cons_zero, List.getElem_cons_succ, Act.put, List.setIfInBounds_toArray, List.set_cons_zero, List.set_cons_succ]
          refine wpAnyH_done (by kernel_rfl) ?_ _
          by_cases hq : q = true
          · obtain rfl := hq
            have hq2 := hqG rfl
            subst hq2
            have y0 := XG.out.out.at0
            have y1 := XG.out.out.at1
            go_wp2_with fail
            refine (HIG.out _ _ (by first | exact IF.out.rd | exact IF.out.rd.below (k := wE.heap.size) ((Below.refl _ _).drew) (Nat.le_refl _)) (by first | exact HSW.out.next B.out | exact (show SW (World.drew _) from HSW.out.next B.out) | exact HSW.out.next (B.out.trans ((Below.refl _ _).drew)))).mono ?_
            rintro e wF ⟨rfl, hbd⟩
            have hbF : Below wE.heap.size wE wF := (by first | exact hbd | exact ⟨hbd.os, hbd.tape, hbd.output, hbd.size, hbd.block⟩)
            have hB := Lib.hid (B.out.trans (hbF.mono (by have := B.out.size; omega)))
            clear hbF hbd
            go_wp2_with fail
            go_ret
            exact ⟨rfl, hB.out⟩
          · rw [Bool.not_eq_true] at hq
            subst hq
            go_wp2_with fail
            go_ret
            exact ⟨rfl, by first | exact B.out | exact B.out.trans ((Below.refl _ _).drew)⟩
        · have x0 := X.out.out.at0
          have x1 := X.out.out.at1
          have hd1 : ((L : Int) == 1) = false := by simpa using (show ¬ (L : Int) = 1 by omega)
          go_wp2_with fail
          refine wp_region_held_drew (S := fun w' => w'.cell? ⟨o, 0, none⟩ = some (.int .i64 (m : Int)) ∧ w'.cell? ⟨o, 1, none⟩ = some (.slice a1 L c1)) (by kernel_rfl) (by first | exact ⟨x0, x1⟩ | go_keep) (fun hHeld => ?_)
          refine wpAnyH_take (i := 0) (v := ?_) rfl (by kernel_rfl) (by kernel_rfl) (by kernel_rfl) (fun _ _ _ h => h) (Or.inl ⟨by rfl, ?_⟩) (by assumption) ?_
          rotate_left
          · (intro w hSw; (try dsimp only at hSw); go_simp; try with_reducible rfl)
          try simp only [List.getElem_toArray, List.getElem_cons_zero, Act.put, List.setIfInBounds_toArray, List.set_cons_zero, List.set_cons_succ]
          refine wpAnyH_take (i := 1) (v := ?_) rfl (by kernel_rfl) (by kernel_rfl) (by kernel_rfl) (fun _ _ _ h => h) (Or.inl ⟨by rfl, ?_⟩) (by assumption) ?_
          rotate_left
          · (intro w hSw; (try dsimp only at hSw); go_simp; try with_reducible rfl)
          try simp only [List.getElem_toArray, List.getElem_cons_zero, List.getElem_cons_succ, Act.put, List.setIfInBounds_toArray, List.set_cons_zero, List.set_cons_succ]
          refine wpAnyH_take (i := 2) (v := ?_) rfl (by kernel_rfl) (by kernel_rfl) (by kernel_rfl) (fun _ _ _ h => h) (Or.inl ⟨by rfl, ?_⟩) (by assumption) ?_
          rotate_left
          · (intro w hSw; (try dsimp only at hSw); go_simp; try with_reducible rfl)
          try simp only [List.getElem_toArray, List.getElem_cons_zero, List.getElem_cons_succ, Act.put, List.setIfInBounds_toArray, List.set_cons_zero, List.set_cons_succ]
          refine wpAnyH_take (i := 3) (v := ?_) rfl (by kernel_rfl) (by kernel_rfl) (by kernel_rfl) (fun _ _ _ h => h) (Or.inl ⟨by rfl, ?_⟩) (by assumption) ?_
          rotate_left
          · (intro w hSw; (try dsimp only at hSw); go_simp; try with_reducible rfl)
          try simp only [List.getElem_toArray, List.getElem_cons_zero, List.getElem_cons_succ, Act.put, List.setIfInBounds_toArray, List.set_cons_zero, List.set_cons_succ]
          refine wpAnyH_take (i := 4) (v := ?_) rfl (by kernel_rfl) (by kernel_rfl) (by kernel_rfl) (fun _ _ _ h => h) (Or.inl ⟨by rfl, ?_⟩) (by assumption) ?_
          rotate_left
          · (intro w hSw; (try dsimp only at hSw); go_simp; try with_reducible rfl)
          try simp only [List.getElem_toArray, List.getElem_cons_zero, List.getElem_cons_succ, Act.put, List.setIfInBounds_toArray, List.set_cons_zero, List.set_cons_succ]
          refine wpAnyH_take (i := 5) (v := undef) rfl (by kernel_rfl) (by kernel_rfl) (by kernel_rfl) (fun _ _ _ h => h) (Or.inr ⟨by rfl, rfl⟩) (by assumption) ?_
          try simp only [List.getElem_toArray, List.getElem_cons_zero, List.getElem_cons_succ, Act.put, List.setIfInBounds_toArray, List.set_cons_zero, List.set_cons_succ]
          refine wpAnyH_take (i := 6) (v := undef) rfl (by kernel_rfl) (by kernel_rfl) (by kernel_rfl) (fun _ _ _ h => h) (Or.inr ⟨by rfl, rfl⟩) (by assumption) ?_
          try simp only [List.getElem_toArray, List.getElem_cons_zero, List.getElem_cons_succ, Act.put, List.setIfInBounds_toArray, List.set_cons_zero, List.set_cons_succ]
          refine wpAnyH_take (i := 7) (v := undef) rfl (by kernel_rfl) (by kernel_rfl) (by kernel_rfl) (fun _ _ _ h => h) (Or.inr ⟨by rfl, rfl⟩) (by assumption) ?_
          try simp only [List.getElem_toArray, List.getElem_cons_zero, List.getElem_cons_succ, Act.put, List.setIfInBounds_toArray, List.set_cons_zero, List.set_cons_succ]
          refine wpAnyH_take (i := 8) (v := undef) rfl (by kernel_rfl) (by kernel_rfl) (by kernel_rfl) (fun _ _ _ h => h) (Or.inr ⟨by rfl, rfl⟩) (by assumption) ?_
          try simp only [List.getElem_toArray, List.getElem_cons_zero, List.getElem_cons_succ, Act.put, List.setIfInBounds_toArray, List.set_cons_zero, List.set_cons_succ]
          refine wpAnyH_take (i := 9) (v := undef) rfl (by kernel_rfl) (by kernel_rfl) (by kernel_rfl) (fun _ _ _ h => h) (Or.inr ⟨by rfl, rfl⟩) (by assumption) ?_
          try simp only [List.getElem_toArray, List.getElem_cons_zero, List.getElem_cons_succ, Act.put, List.setIfInBounds_toArray, List.set_cons_zero, List.set_cons_succ]
          refine wpAnyH_take (i := 10) (v := undef) rfl (by kernel_rfl) (by kernel_rfl) (by kernel_rfl) (fun _ _ _ h => h) (Or.inr ⟨by rfl, rfl⟩) (by assumption) ?_
          try simp only [List.getElem_toArray, List.getElem_cons_zero, List.getElem_cons_succ, Act.put, List.setIfInBounds_toArray, List.set_cons_zero, List.set_cons_succ]
          refine wpAnyH_take (i := 11) (v := undef) rfl (by kernel_rfl) (by kernel_rfl) (by kernel_rfl) (fun _ _ _ h => h) (Or.inr ⟨by rfl, rfl⟩) (by assumption) ?_
          try simp only [List.getElem_toArray, List.getElem_cons_zero, List.getElem_cons_succ, Act.put, List.setIfInBounds_toArray, List.set_cons_zero, List.set_cons_succ]
          refine wpAnyH_take (i := 12) (v := undef) rfl (by kernel_rfl) (by kernel_rfl) (by kernel_rfl) (fun _ _ _ h => h) (Or.inr ⟨by rfl, rfl⟩) (by assumption) ?_
          try simp only [List.getElem_toArray, List.getElem_cons_zero, List.getElem_cons_succ, Act.put, List.setIfInBounds_toArray, List.set_cons_zero, List.set_cons_succ]
          refine wpAnyH_take (i := 13) (v := undef) rfl (by kernel_rfl) (by kernel_rfl) (by kernel_rfl) (fun _ _ _ h => h) (Or.inr ⟨by rfl, rfl⟩) (by assumption) ?_
          try simp only [List.getElem_toArray, List.getElem_cons_zero, List.getElem_cons_succ, Act.put, List.setIfInBounds_toArray, List.set_cons_zero, List.set_cons_succ]
          refine wpAnyH_take (i := 14) (v := undef) rfl (by kernel_rfl) (by kernel_rfl) (by kernel_rfl) (fun _ _ _ h => h) (Or.inr ⟨by rfl, rfl⟩) (by assumption) ?_
          try simp only [List.getElem_toArray, List.getElem_cons_zero, List.getElem_cons_succ, Act.put, List.setIfInBounds_toArray, List.set_cons_zero, List.set_cons_succ]
          refine wpAnyH_take (i := 15) (v := undef) rfl (by kernel_rfl) (by kernel_rfl) (by kernel_rfl) (fun _ _ _ h => h) (Or.inr ⟨by rfl, rfl⟩) (by assumption) ?_
          try simp only [List.getElem_toArray, List.getElem_cons_zero, List.getElem_cons_succ, Act.put, List.setIfInBounds_toArray, List.set_cons_zero, List.set_cons_succ]
          refine wpAnyH_take (i := 16) (v := ?_) rfl (by kernel_rfl) (by kernel_rfl) (by kernel_rfl) (fun _ _ _ h => h) (Or.inl ⟨by rfl, ?_⟩) (by assumption) ?_
          rotate_left
          · (intro w hSw; (try dsimp only at hSw); go_simp; try with_reducible rfl)
          try simp only [List.getElem_toArray, List.getElem_cons_zero, List.getElem_cons_succ, Act.put, List.setIfInBounds_toArray, List.set_cons_zero, List.set_cons_succ]
          refine wpAnyH_done (by kernel_rfl) ?_ _
          by_cases hq : q = true
          · obtain rfl := hq
            have hq2 := hqG rfl
            subst hq2
            have y0 := XG.out.out.at0
            have y1 := XG.out.out.at1
            go_wp2_with fail
            refine (HIG.out _ _ (by first | exact IF.out.rd | exact IF.out.rd.below (k := wE.heap.size) ((Below.refl _ _).drew) (Nat.le_refl _)) (by first | exact HSW.out.next B.out | exact (show SW (World.drew _) from HSW.out.next B.out) | exact HSW.out.next (B.out.trans ((Below.refl _ _).drew)))).mono ?_
            rintro e wF ⟨rfl, hbd⟩
            have hbF : Below wE.heap.size wE wF := (by first | exact hbd | exact ⟨hbd.os, hbd.tape, hbd.output, hbd.size, hbd.block⟩)
            have hB := Lib.hid (B.out.trans (hbF.mono (by have := B.out.size; omega)))
            clear hbF hbd
            go_wp2_with fail
            go_ret
            exact ⟨rfl, hB.out⟩
          · rw [Bool.not_eq_true] at hq
            subst hq
            go_wp2_with fail
            go_ret
            exact ⟨rfl, by first | exact B.out | exact B.out.trans ((Below.refl _ _).drew)⟩
    · rw [Bool.not_eq_true] at hp
      have eM : majB N zs s = false := by rw [majB, hp]; rfl
      have HI := Lib.hid (fun v w h hs => implMajorityOf N v zs s w h hs)
      have HS := Lib.hid (fun v w h => specMajorityOf N v zs s w h)
      have HV := Lib.hid (fun v w h => implValid N v zs w h)
      rw [eM] at HI HS
      clear eM
      refine (HI.out _ _ I1.out.rd (by first | exact HSW.out.next B.out | exact (show SW (World.drew _) from HSW.out.next B.out) | exact HSW.out.next (B.out.trans ((Below.refl _ _).drew)))).mono ?_
      rintro e w3 ⟨rfl, hb3⟩
      have hz3 := hb3.size
      replace X := Lib.hid (X.out.next hb3 (by omega))
      replace I1 := Lib.hid (I1.out.below hb3 (Nat.le_refl _))
      replace B := Lib.hid (B.out.trans (hb3.mono (by omega)))
      clear hb3
      have x0 := X.out.out.at0
      have x1 := X.out.out.at1
      go_wp2_with fail
      clear x0 x1
      refine (HS.out _ _ I1.out.rd).mono ?_
      rintro e w4 ⟨rfl, hb4⟩
      have hz4 := hb4.size
      replace X := Lib.hid (X.out.next hb4 (by omega))
      replace I1 := Lib.hid (I1.out.below hb4 (Nat.le_refl _))
      replace B := Lib.hid (B.out.trans (hb4.mono (by omega)))
      clear hb4
      have x0 := X.out.out.at0
      have x1 := X.out.out.at1
      go_wp2_with fail
      clear x0 x1
      by_cases hv : vldB N zs = true
      · rw [hv] at HV
        have hor : s < 0 ∨ N ≤ s := by
          simp only [ptB, hv, Bool.true_and, Bool.and_eq_false_iff, decide_eq_false_iff_not] at hp
          omega
        clear hp hv
        refine (HV.out _ _ I1.out.rd).mono ?_
        rintro e w5 ⟨rfl, hb5⟩
        have hz5 := hb5.size
        replace X := Lib.hid (X.out.next hb5 (by omega))
        replace I1 := Lib.hid (I1.out.below hb5 (Nat.le_refl _))
        replace B := Lib.hid (B.out.trans (hb5.mono (by omega)))
        clear hb5
        by_cases hs0 : s < 0
        · have hd0 : decide (s < 0) = true := decide_eq_true hs0
          have x0 := X.out.out.at0
          have x1 := X.out.out.at1
          go_wp2_with fail
          clear x0 x1
          refine (HS.out _ _ I1.out.rd).mono ?_
          rintro e w6 ⟨rfl, hb6⟩
          have hz6 := hb6.size
          replace X := Lib.hid (X.out.next hb6 (by omega))
          replace I1 := Lib.hid (I1.out.below hb6 (Nat.le_refl _))
          replace B := Lib.hid (B.out.trans (hb6.mono (by omega)))
          clear hb6
          have x0 := X.out.out.at0
          have x1 := X.out.out.at1
          go_wp2_with fail
          clear x0 x1
          go_ret
          exact ⟨rfl, B.out⟩
        · have hd0 : decide (s < 0) = false := decide_eq_false hs0
          have hs1 : N ≤ s := by omega
          have hd1 : decide (N ≤ s) = true := decide_eq_true hs1
          have x0 := X.out.out.at0
          have x1 := X.out.out.at1
          go_wp2_with fail
          clear x0 x1
          refine (HS.out _ _ I1.out.rd).mono ?_
          rintro e w6 ⟨rfl, hb6⟩
          have hz6 := hb6.size
          replace X := Lib.hid (X.out.next hb6 (by omega))
          replace I1 := Lib.hid (I1.out.below hb6 (Nat.le_refl _))
          replace B := Lib.hid (B.out.trans (hb6.mono (by omega)))
          clear hb6
          have x0 := X.out.out.at0
          have x1 := X.out.out.at1
          go_wp2_with fail
          clear x0 x1
          go_ret
          exact ⟨rfl, B.out⟩
      · rw [Bool.not_eq_true] at hv
        rw [hv] at HV
        clear hp hv
        refine (HV.out _ _ I1.out.rd).mono ?_
        rintro e w5 ⟨rfl, hb5⟩
        have hz5 := hb5.size
        replace X := Lib.hid (X.out.next hb5 (by omega))
        replace I1 := Lib.hid (I1.out.below hb5 (Nat.le_refl _))
        replace B := Lib.hid (B.out.trans (hb5.mono (by omega)))
        clear hb5
        have x0 := X.out.out.at0
        have x1 := X.out.out.at1
        go_wp2_with fail
        clear x0 x1
        refine (HS.out _ _ I1.out.rd).mono ?_
        rintro e w6 ⟨rfl, hb6⟩
        have hz6 := hb6.size
        replace X := Lib.hid (X.out.next hb6 (by omega))
        replace I1 := Lib.hid (I1.out.below hb6 (Nat.le_refl _))
        replace B := Lib.hid (B.out.trans (hb6.mono (by omega)))
        clear hb6
        have x0 := X.out.out.at0
        have x1 := X.out.out.at1
        go_wp2_with fail
        clear x0 x1
        go_ret
        exact ⟨rfl, B.out⟩
  · go_enter Tryd.func6, Tryd.ntmps6
    go_wp2_with fail
    go_ret
    exact ⟨rfl, Below.refl _ _⟩

end Go.Proofs.YthjbkjkfibiceaaDoor
