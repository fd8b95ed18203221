/- FnIsTeaching's walk: more points teach, too. Conditions: the code is a slice of bytes. -/
import Derived.Test.YtiocaopabkbgpaaDoorDrawsIt
import Derived.Test.YtiocaopabkbgpaaDoorLab
import Derived.Test.YtiocaopabkbgpaaDoorRunM
import Derived.Test.YtiocaopabkbgpaaDoorZJ
import Derived.Test.YtiocaopabkbgpaaDoorZK
import Derived.Test.YtiocaopabkbgpaaDoorZM
import Derived.Test.YtiocaopabkbgpaaDoorZO
namespace Go.Proofs.YtiocaopabkbgpaaDoor
open Go.RowKit

theorem eqB_self (xs : List Int) : eqB xs xs = true := eqB_of rfl (fun _ _ => rfl)
theorem it_full {m t : Nat} {l : List Nat} (h : Cls m l) (ht : t ∈ l) : tch t (2 ^ m - 1) l = true := by
  have key : ∀ m : Fin 6, ∀ u : Fin 32, (u : Nat) < 2 ^ (m : Nat) → (u : Nat) &&& (2 ^ (m : Nat) - 1) = u := by decide +kernel
  have ful : ∀ u, u < 2 ^ m → u &&& (2 ^ m - 1) = u := fun u hu => key ⟨m, by have := h.pts; omega⟩ ⟨u, Nat.lt_of_lt_of_le hu (pow_le_32 h.pts)⟩ hu
  have e : agr t (2 ^ m - 1) l = l.filter (fun u => u == t) := by
    refine List.filter_congr (fun u hu => ?_)
    rw [ful u (h.lt u hu), ful t (h.lt t ht)]
  rw [tch, e, beq_iff_eq]
  refine asc_ext (h.asc.filter _) (List.pairwise_singleton _ _) (fun x => ?_)
  simp only [List.mem_filter, List.mem_singleton, beq_iff_eq]
  exact ⟨fun h => h.2, fun h9 => ⟨h9 ▸ ht, h9⟩⟩
theorem it_bits {u t s : Nat} (hu : u < 32) (ht : t < 32) (hs : s < 32) : (∀ x ∈ pts s, hasX x u = hasX x t) ↔ u &&& s = t &&& s := by
  have key : ∀ a : Fin 32, ∀ s : Fin 32, (pts (s : Nat)).all (fun i => hasX i (a : Nat) == hasX i 0) = ((a : Nat) &&& (s : Nat) == 0) := by decide +kernel
  have hx : u ^^^ t < 32 := Nat.xor_lt_two_pow (n := 5) hu ht
  have h1 := key ⟨u ^^^ t, hx⟩ ⟨s, hs⟩
  have h0 : ∀ x, hasX x 0 = false := fun x => by simp [hasX]
  have h2 : (u ^^^ t) &&& s = 0 ↔ u &&& s = t &&& s := by
    have k2 : ∀ u t s : Fin 32, ((u.1 ^^^ t.1) &&& s.1 == 0) = (u.1 &&& s.1 == t.1 &&& s.1) := by decide +kernel
    have := k2 ⟨u, hu⟩ ⟨t, ht⟩ ⟨s, hs⟩
    rw [← beq_iff_eq, ← beq_iff_eq (a := u &&& s)]
    dsimp only at this
    rw [this]
  rw [← h2, ← beq_iff_eq, ← h1, List.all_eq_true]
  constructor
  · intro h x hx
    have hx5 : x < 5 := List.mem_range.1 (List.mem_filter.1 hx).1
    rw [hasX_xor hx5 ht hu, h x hx, h0]
    simp
  · intro h x hx
    have hx5 : x < 5 := List.mem_range.1 (List.mem_filter.1 hx).1
    have h9 := h x hx
    rw [hasX_xor hx5 ht hu, h0] at h9
    revert h9
    cases hasX x u <;> cases hasX x t <;> simp
theorem it_now {m t s : Nat} {ns : List Nat} (h : Cls m ns) (ht : t < 32) (hs : s < 32) (hc : tch t s ns = true) : nowTo ns ((toI (pts s)).map (lab1 t)) ((toI (pts s)).map (lab1 t)).length = [t] := by
  have hl : ((toI (pts s)).map (lab1 t)).length = (pts s).length := by rw [List.length_map, toI_length]
  rw [tch, beq_iff_eq] at hc
  rw [← hc]
  refine asc_ext (nowTo_asc h.asc _ _) (h.asc.filter _) (fun u => ?_)
  rw [mem_now, agr, List.mem_filter]
  constructor
  · rintro ⟨h1, h2⟩
    refine ⟨h1, ?_⟩
    rw [beq_iff_eq, ← it_bits (h.lt32 u h1) ht hs]
    intro x hx
    obtain ⟨j, hj, e⟩ := List.mem_iff_getElem.1 hx
    have h3 := h2 j (by rw [hl]; exact hj)
    rw [labMap_getD t _ j (by rw [toI_length]; exact hj), toI_getD, Int.toNat_natCast, List.getD_eq_getElem?_getD, List.getElem?_eq_getElem hj, Option.getD_some, e] at h3
    exact h3
  · rintro ⟨h1, h2⟩
    rw [beq_iff_eq, ← it_bits (h.lt32 u h1) ht hs] at h2
    refine ⟨h1, fun j hj => ?_⟩
    rw [hl] at hj
    rw [labMap_getD t _ j (by rw [toI_length]; exact hj), toI_getD, Int.toNat_natCast]
    exact h2 _ (getD_of_lt hj)
theorem it_lab {m t s : Nat} {zs : List Int} (hm : m ≤ 5) (hi : inB (m : Int) zs (t : Int) = true) (hs : s < 2 ^ m) : labB (m : Int) zs (toI (pts s)) (t : Int) = true := by
  have h5 := pow_le_32 hm
  have hl : (pts s).length ≤ 5 := by unfold pts; exact Nat.le_trans (List.length_filter_le _ _) (by rw [List.length_range]; exact Nat.le_refl _)
  simp only [labB, Bool.and_eq_true, decide_eq_true_eq, toI_length]
  refine ⟨hi, by omega, fun j hj => ?_⟩
  have hmem : (pts s).getD j 0 ∈ pts s := getD_of_lt hj
  have hx := (List.mem_filter.1 hmem).2
  rw [toI_getD]
  rw [hasX, decide_eq_true_eq] at hx
  have : (pts s).getD j 0 < m := by
    apply Classical.byContradiction
    intro hge
    have : s / 2 ^ ((pts s).getD j 0) = 0 := Nat.div_eq_of_lt (Nat.lt_of_lt_of_le hs (Nat.pow_le_pow_right (by omega) (by omega)))
    rw [this] at hx
    omega
  omega


set_option maxHeartbeats 6400000 in
set_option maxRecDepth 100000 in
theorem walkFnIsTeaching (a : Option Addr) (b off n cap : Nat) (w : World) (hc : n ≤ cap) (hcap : cap ≤ maxLen) (h : Byt w a b off n) (hsw : SW w) :
    Calls Tryd.prog 10 #[.slice a n cap] w fun e w' => e = .returned (.bool true) ∧ Below w.heap.size w w' := by
  have HSW := Lib.hid hsw
  clear hsw
  by_cases hn : n ≤ 1048576
  · have HD := Lib.hid (dDrawIsTeaching a b off n cap w hc hn hcap h)
    clear h
    go_enter Tryd.func10, Tryd.ntmps10
    go_wp2_with fail
    refine HD.out.mono ?_
    rintro e w1 ⟨N, zs, s, r, hbd, a1, c1, rfl, hin, hb⟩
    generalize hL : zs.length = L at *
    have X := Lib.hid (Bx.new N (.slice a1 L c1) w1)
    have I1 := Lib.hid ((hin.mono (Nat.zero_le _)).alloc (Obj.cells #[.int .i64 N, .slice a1 L c1] 25))
    have B := Lib.hid (hb.alloc hb.size (Obj.cells #[.int .i64 N, .slice a1 L c1] 25))
    have HZ2 := Lib.hid (show (w1.alloc (Obj.cells #[.int .i64 N, .slice a1 L c1] 25)).heap.size = w1.heap.size + 1 by simp)
    have hz1 := hb.size
    clear hin hb HD
    go_wp2_with fail
    generalize (w1.alloc (Obj.cells #[.int .i64 N, .slice a1 L c1] 25)) = w2 at *
    have hz2 := HZ2.out
    generalize ho : w1.heap.size = o at *
    obtain ⟨hN0, hN1, hL34⟩ := hbd
    by_cases hk : iteB N zs s r = true
    · skip
      have hvd : vldB N zs = true := by simp only [iteB, Bool.and_eq_true] at hk; exact hk.1
      have hrd : setB N.toNat r = true := by simp only [iteB, Bool.and_eq_true] at hk; exact hk.2.1
      obtain ⟨m, ns, rfl, rfl, hcl⟩ := vldB_cls hvd
      have hm := hcl.pts
      have h5 := pow_le_32 hm
      have hL2 : ns.length = L := by rw [← hL, toI_length]
      rw [Int.toNat_natCast] at hrd
      have hsd : setB m s = true := by
        rw [← Bool.not_eq_false]
        intro h9
        rw [iteB_t hcl h9] at hk
        cases hk
      obtain ⟨t, rfl, ht, ht32⟩ := setB_nat hm hsd
      obtain ⟨p, rfl, hp, hp32⟩ := setB_nat hm hrd
      have HI := Lib.hid (fun v w h hs => implIsTeaching (m : Int) v (toI ns) (t : Int) (p : Int) w h hs)
      have HS := Lib.hid (fun v w h => specIsTeaching (m : Int) v (toI ns) (t : Int) (p : Int) w h)
      rw [hk] at HI HS
      have htc : tch t p ns = true := by rw [← iteB_in hvd hrd]; exact hk
      have htm : t ∈ ns := by rw [tch_count, Bool.and_eq_true, decide_eq_true_eq, decide_eq_true_eq] at htc; exact htc.2
      obtain ⟨q, hq⟩ : ∃ q : Nat, q = 2 ^ m := ⟨_, rfl⟩
      have hqI : (2 : Int) ^ m = (q : Int) := by rw [hq]; simp
      have hq0 := Nat.two_pow_pos m
      have hfb : setB m ((q - 1 : Nat) : Int) = true := by
        simp only [setB, Bool.and_eq_true, decide_eq_true_eq]
        omega
      have HT := Lib.hid (fun v w h hs => implIsTeaching (m : Int) v (toI ns) (t : Int) ((q - 1 : Nat) : Int) w h hs)
      rw [iteB_in hvd hfb, hq, it_full hcl htm, ← hq] at HT
      have HPW := Lib.hid (fun w => lawsPower (m : Int) w (by omega) (by omega))
      rw [Int.toNat_natCast, hqI] at HPW
      have HPt := Lib.hid (fun w => lawsPoints p hp32 w)
      have hi : inB (m : Int) (toI ns) (t : Int) = true := by simp [inB, hvd, hsd]
      have hlb := it_lab (zs := toI ns) hm hi hp
      have hvs : vsB (m : Int) (toI ns) ((toI (pts p)).map (lab1 t)) = true := by
        simp only [labB, Bool.and_eq_true, decide_eq_true_eq] at hlb
        obtain ⟨_, g2, g3⟩ := hlb
        simp only [vsB, hvd, Bool.true_and, Bool.and_eq_true, decide_eq_true_eq, pts_iff]
        refine ⟨by rw [List.length_map]; exact g2, fun j hj => ?_⟩
        rw [List.length_map] at hj
        rw [labMap_getD t _ j hj]
        exact g3 j hj
      have HLa := Lib.hid (fun v u w h hu => implLabelsOf (m : Int) v (toI ns) u (toI (pts p)) (t : Int) w h hu)
      have eL : labL (m : Int) (toI ns) (toI (pts p)) (t : Int) = (toI (pts p)).map (lab1 t) := by rw [labL, if_pos hlb, Int.toNat_natCast]
      rw [eL, hlb] at HLa
      have HC := Lib.hid (fun v u w h hu hs => implConsistentOf (m : Int) v (toI ns) u ((toI (pts p)).map (lab1 t)) w h hu hs)
      rw [show conN (m : Int) (toI ns) ((toI (pts p)).map (lab1 t)) = m by rw [conN, if_pos hvs], show conL (m : Int) (toI ns) ((toI (pts p)).map (lab1 t)) = [(t : Int)] by rw [conL, if_pos hvs, toNat_toI, it_now hcl ht32 hp32 htc]; rfl] at HC
      obtain ⟨K, hK⟩ : ∃ K, K = (pts p).length := ⟨_, rfl⟩
      have HPl := Lib.hid (show (toI (pts p)).length = K by rw [toI_length, hK])
      have HEl := Lib.hid (show ((toI (pts p)).map (lab1 t)).length = K by rw [List.length_map, toI_length, hK])
      generalize (toI (pts p)).map (lab1 t) = E at *
      generalize toI (pts p) = PT at *
      have hw1 : IntKind.i64.wrap ((q : Int) - 1) = ((q - 1 : Nat) : Int) := by rw [IntKind.wrap_i64]; omega
      have hfd : ∀ (a : Option Addr) (l c : Nat) (w : World), Sem.run Tryd.prog (Instr.field 25 (.agg #[.int .i64 (m : Int), .slice a l c]) 1) w = .ok (.slice a l c) w := fun _ _ _ _ => by kernel_rfl
      generalize q - 1 = q1 at *
      clear hk hvd hrd hsd hcl htc htm hq hqI hq0 hfb hi hlb hvs eL hK hp ht h5
      refine (HI.out _ _ I1.out.rd (by first | exact HSW.out.next B.out | exact (show SW (World.drew _) from HSW.out.next B.out) | exact HSW.out.next (B.out.trans ((Below.refl _ _).drew)))).mono ?_
      rintro e w3 ⟨rfl, hb3⟩
      have hz3 := hb3.size
      replace X := Lib.hid (X.out.next hb3 X.out.lt)
      replace I1 := Lib.hid (I1.out.below hb3 (Nat.le_refl _))
      replace B := Lib.hid (B.out.trans (hb3.mono B.out.size))
      clear hb3
      have x0 := X.out.out.at0
      have x1 := X.out.out.at1
      go_wp2_with fail
      clear x0 x1
      refine (HS.out _ _ I1.out.rd).mono ?_
      rintro e w4 ⟨rfl, hb4⟩
      have hz4 := hb4.size
      replace X := Lib.hid (X.out.next hb4 X.out.lt)
      replace I1 := Lib.hid (I1.out.below hb4 (Nat.le_refl _))
      replace B := Lib.hid (B.out.trans (hb4.mono B.out.size))
      clear hb4
      have x0 := X.out.out.at0
      have x1 := X.out.out.at1
      go_wp2_with fail
      refine wp_region_held_drew (S := fun w' => w'.cell? ⟨o, 0, none⟩ = some (.int .i64 (m : Int)) ∧ w'.cell? ⟨o, 1, none⟩ = some (.slice a1 L c1)) (by kernel_rfl) (by first | exact ⟨x0, x1⟩ | go_keep) (fun hHeld => ?_)
      refine wpAnyH_take (i := 0) (v := ?_) rfl (by kernel_rfl) (by kernel_rfl) (by kernel_rfl) (fun _ _ _ h => h) (Or.inl ⟨by rfl, ?_⟩) (by assumption) ?_
      rotate_left
      · (intro w hSw; (try dsimp only at hSw); go_simp; try with_reducible rfl)
      try simp only [List.getElem_toArray, List.getElem_cons_zero, Act.put, List.setIfInBounds_toArray, List.set_cons_zero, List.set_cons_succ]
      refine wpAnyH_take (i := 1) (v := ?_) rfl (by kernel_rfl) (by kernel_rfl) (by kernel_rfl) (fun _ _ _ h => h) (Or.inl ⟨by rfl, ?_⟩) (by assumption) ?_
      rotate_left
      · (intro w hSw; (try dsimp only at hSw); go_simp; try with_reducible rfl)
      try simp only [List.getElem_toArray, List.getElem_cons_zero, List.getElem_cons_succ, Act.put, List.setIfInBounds_toArray, List.set_cons_zero, List.set_cons_succ]
      refine wpAnyH_take (i := 3) (v := ?_) rfl (by kernel_rfl) (by kernel_rfl) (by kernel_rfl) (fun _ _ _ h => h) (Or.inl ⟨by rfl, ?_⟩) (by assumption) ?_
      rotate_left
      · (intro w hSw; (try dsimp only at hSw); go_simp; try with_reducible rfl)
      try simp only [List.getElem_toArray, List.getElem_cons_zero, List.getElem_cons_succ, Act.put, List.setIfInBounds_toArray, List.set_cons_zero, List.set_cons_succ]
      refine wpAnyH_ready (rs := [2]) (by kernel_rfl) (by simp) ?_
      refine AllReadyH.cons rfl (fun K hK => ?_) AllReadyH.nil
      try simp only [List.getElem_toArray]
      go_simp
      (go_at_call 46; refine (HPt.out _).mono ?_; rintro e w5 ⟨a5, c5, rfl, hin5, hbd⟩; rw [HPl.out] at hin5 ⊢; have hb5 : Below w4.heap.size w4 w5 := (by first | exact hbd | exact ⟨hbd.os, hbd.tape, hbd.output, hbd.size, hbd.block⟩); clear hbd; have hz5 := hb5.size; replace X := Lib.hid (X.out.next hb5 X.out.lt); replace I1 := Lib.hid (I1.out.below hb5 (Nat.le_refl _)); replace B := Lib.hid (B.out.trans (hb5.mono B.out.size)); have IP := Lib.hid (hin5.mono (Nat.zero_le _)); clear hin5; clear hb5; have x0_5 := X.out.out.at0; have x1_5 := X.out.out.at1)
      refine hK.out _ _ (by first | exact ⟨x0_5, x1_5⟩ | exact ⟨x0, x1⟩ | go_keep) (fun hHeld => ?_)
      clear hK K
      try simp only [List.getElem_toArray, List.getElem_cons_zero, List.getElem_cons_succ, Act.put, List.setIfInBounds_toArray, List.set_cons_zero, List.set_cons_succ]
      refine wpAnyH_ready (rs := [4]) (by kernel_rfl) (by simp) ?_
      refine AllReadyH.cons rfl (fun K hK => ?_) AllReadyH.nil
      try simp only [List.getElem_toArray]
      go_simp
      (go_at_call 19; refine (HLa.out _ _ _ (by first | exact I1.out.rd | exact I1.out.rd.below (k := w5.heap.size) ((Below.refl _ _).drew) (Nat.le_refl _)) (by first | exact IP.out.rd | exact IP.out.rd.below (k := w5.heap.size) ((Below.refl _ _).drew) (Nat.le_refl _))).mono ?_; rintro e w6 ⟨a6, c6, rfl, hin6, hbd⟩; rw [HEl.out] at hin6 ⊢; have hb6 : Below w5.heap.size w5 w6 := (by first | exact hbd | exact ⟨hbd.os, hbd.tape, hbd.output, hbd.size, hbd.block⟩); clear hbd; have hz6 := hb6.size; replace X := Lib.hid (X.out.next hb6 X.out.lt); replace I1 := Lib.hid (I1.out.below hb6 (Nat.le_refl _)); replace IP := Lib.hid (IP.out.below hb6 (Nat.le_refl _)); replace B := Lib.hid (B.out.trans (hb6.mono B.out.size)); have EX := Lib.hid (hin6.mono (Nat.zero_le _)); clear hin6; clear hb6; have x0_6 := X.out.out.at0; have x1_6 := X.out.out.at1)
      refine hK.out _ _ (by first | exact ⟨x0_6, x1_6⟩ | exact ⟨x0_5, x1_5⟩ | exact ⟨x0, x1⟩ | go_keep) (fun hHeld => ?_)
      clear hK K
      try simp only [List.getElem_toArray, List.getElem_cons_zero, List.getElem_cons_succ, Act.put, List.setIfInBounds_toArray, List.set_cons_zero, List.set_cons_succ]
      refine wpAnyH_take (i := 5) (v := ?_) rfl (by kernel_rfl) (by kernel_rfl) (by kernel_rfl) (fun _ _ _ h => h) (Or.inl ⟨by rfl, ?_⟩) (by assumption) ?_
      rotate_left
      · (intro w hSw; (try dsimp only at hSw); go_simp; try with_reducible rfl)
      try simp only [List.getElem_toArray, List.getElem_cons_zero, List.getElem_cons_succ, Act.put, List.setIfInBounds_toArray, List.set_cons_zero, List.set_cons_succ]
      refine wpAnyH_take (i := 6) (v := ?_) rfl (by kernel_rfl) (by kernel_rfl) (by kernel_rfl) (fun _ _ _ h => h) (Or.inl ⟨by rfl, ?_⟩) (by assumption) ?_
      rotate_left
      · (intro w hSw; (try dsimp only at hSw); go_simp; try with_reducible rfl)
      try simp only [List.getElem_toArray, List.getElem_cons_zero, List.getElem_cons_succ, Act.put, List.setIfInBounds_toArray, List.set_cons_zero, List.set_cons_succ]
      refine wpAnyH_take (i := 7) (v := ?_) rfl (by kernel_rfl) (by kernel_rfl) (by kernel_rfl) (fun _ _ _ h => h) (Or.inl ⟨by rfl, ?_⟩) (by assumption) ?_
      rotate_left
      · (intro w hSw; (try dsimp only at hSw); go_simp; try with_reducible rfl)
      try simp only [List.getElem_toArray, List.getElem_cons_zero, List.getElem_cons_succ, Act.put, List.setIfInBounds_toArray, List.set_cons_zero, List.set_cons_succ]
      refine wpAnyH_take (i := 8) (v := ?_) rfl (by kernel_rfl) (by kernel_rfl) (by kernel_rfl) (fun _ _ _ h => h) (Or.inl ⟨by rfl, ?_⟩) (by assumption) ?_
      rotate_left
      · (intro w hSw; (try dsimp only at hSw); go_simp; try with_reducible rfl)
      try simp only [List.getElem_toArray, List.getElem_cons_zero, List.getElem_cons_succ, Act.put, List.setIfInBounds_toArray, List.set_cons_zero, List.set_cons_succ]
      refine wpAnyH_take (i := 9) (v := ?_) rfl (by kernel_rfl) (by kernel_rfl) (by kernel_rfl) (fun _ _ _ h => h) (Or.inl ⟨by rfl, ?_⟩) (by assumption) ?_
      rotate_left
      · (intro w hSw; (try dsimp only at hSw); go_simp; try with_reducible rfl)
      try simp only [List.getElem_toArray, List.getElem_cons_zero, List.getElem_cons_succ, Act.put, List.setIfInBounds_toArray, List.set_cons_zero, List.set_cons_succ]
      refine wpAnyH_done (by kernel_rfl) ?_ _
      have x0 := X.out.out.at0
      have x1 := X.out.out.at1
      go_wp2_with fail
      refine wp_region_held_drew (S := fun w' => w'.cell? ⟨o, 0, none⟩ = some (.int .i64 (m : Int)) ∧ w'.cell? ⟨o, 1, none⟩ = some (.slice a1 L c1)) (by kernel_rfl) (by first | exact ⟨x0, x1⟩ | go_keep) (fun hHeld => ?_)
      refine wpAnyH_take (i := 0) (v := ?_) rfl (by kernel_rfl) (by kernel_rfl) (by kernel_rfl) (fun _ _ _ h => h) (Or.inl ⟨by rfl, ?_⟩) (by assumption) ?_
      rotate_left
      · (intro w hSw; (try dsimp only at hSw); go_simp; try with_reducible rfl)
      try simp only [List.getElem_toArray, List.getElem_cons_zero, Act.put, List.setIfInBounds_toArray, List.set_cons_zero, List.set_cons_succ]
      refine wpAnyH_take (i := 1) (v := ?_) rfl (by kernel_rfl) (by kernel_rfl) (by kernel_rfl) (fun _ _ _ h => h) (Or.inl ⟨by rfl, ?_⟩) (by assumption) ?_
      rotate_left
      · (intro w hSw; (try dsimp only at hSw); go_simp; try with_reducible rfl)
      try simp only [List.getElem_toArray, List.getElem_cons_zero, List.getElem_cons_succ, Act.put, List.setIfInBounds_toArray, List.set_cons_zero, List.set_cons_succ]
      refine wpAnyH_take (i := 2) (v := ?_) rfl (by kernel_rfl) (by kernel_rfl) (by kernel_rfl) (fun _ _ _ h => h) (Or.inl ⟨by rfl, ?_⟩) (by assumption) ?_
      rotate_left
      · (intro w hSw; (try dsimp only at hSw); go_simp; try with_reducible rfl)
      try simp only [List.getElem_toArray, List.getElem_cons_zero, List.getElem_cons_succ, Act.put, List.setIfInBounds_toArray, List.set_cons_zero, List.set_cons_succ]
      refine wpAnyH_take (i := 3) (v := ?_) rfl (by kernel_rfl) (by kernel_rfl) (by kernel_rfl) (fun _ _ _ h => h) (Or.inl ⟨by rfl, ?_⟩) (by assumption) ?_
      rotate_left
      · (intro w hSw; (try dsimp only at hSw); go_simp; try with_reducible rfl)
      try simp only [List.getElem_toArray, List.getElem_cons_zero, List.getElem_cons_succ, Act.put, List.setIfInBounds_toArray, List.set_cons_zero, List.set_cons_succ]
      refine wpAnyH_ready (rs := [4]) (by kernel_rfl) (by simp) ?_
      refine AllReadyH.cons rfl (fun K hK => ?_) AllReadyH.nil
      try simp only [List.getElem_toArray]
      go_simp
      (go_at_call 22; refine (HPW.out _).mono ?_; rintro e w99 ⟨rfl, hw99⟩; subst w99)
      refine hK.out _ _ (by first | exact ⟨x0, x1⟩ | go_keep) (fun hHeld => ?_)
      clear hK K
      try simp only [List.getElem_toArray, List.getElem_cons_zero, List.getElem_cons_succ, Act.put, List.setIfInBounds_toArray, List.set_cons_zero, List.set_cons_succ]
      refine wpAnyH_take (i := 5) (v := ?_) rfl (by kernel_rfl) (by kernel_rfl) (by kernel_rfl) (fun _ _ _ h => h) (Or.inl ⟨by rfl, ?_⟩) (by assumption) ?_
      rotate_left
      · (intro w hSw; (try dsimp only at hSw); go_simp; (try rw [hw1]); try with_reducible rfl)
      try simp only [List.getElem_toArray, List.getElem_cons_zero, List.getElem_cons_succ, Act.put, List.setIfInBounds_toArray, List.set_cons_zero, List.set_cons_succ]
      refine wpAnyH_ready (rs := [6]) (by kernel_rfl) (by simp) ?_
      refine AllReadyH.cons rfl (fun K hK => ?_) AllReadyH.nil
      try simp only [List.getElem_toArray]
      go_simp
      (go_at_call 44; refine (HT.out _ _ (by first | exact I1.out.rd | exact I1.out.rd.below (k := w6.heap.size) ((Below.refl _ _).drew) (Nat.le_refl _)) (by first | exact HSW.out.next B.out | exact (show SW (World.drew _) from HSW.out.next B.out) | exact HSW.out.next (B.out.trans ((Below.refl _ _).drew)))).mono ?_; rintro e w7 ⟨rfl, hbd⟩; have hb7 : Below w6.heap.size w6 w7 := (by first | exact hbd | exact ⟨hbd.os, hbd.tape, hbd.output, hbd.size, hbd.block⟩); clear hbd; have hz7 := hb7.size; replace X := Lib.hid (X.out.next hb7 X.out.lt); replace I1 := Lib.hid (I1.out.below hb7 (Nat.le_refl _)); replace IP := Lib.hid (IP.out.below hb7 (Nat.le_refl _)); replace EX := Lib.hid (EX.out.below hb7 (Nat.le_refl _)); replace B := Lib.hid (B.out.trans (hb7.mono B.out.size)); clear hb7; have x0_7 := X.out.out.at0; have x1_7 := X.out.out.at1)
      refine hK.out _ _ (by first | exact ⟨x0_7, x1_7⟩ | exact ⟨x0, x1⟩ | go_keep) (fun hHeld => ?_)
      clear hK K
      try simp only [List.getElem_toArray, List.getElem_cons_zero, List.getElem_cons_succ, Act.put, List.setIfInBounds_toArray, List.set_cons_zero, List.set_cons_succ]
      refine wpAnyH_take (i := 7) (v := ?_) rfl (by kernel_rfl) (by kernel_rfl) (by kernel_rfl) (fun _ _ _ h => h) (Or.inl ⟨by rfl, ?_⟩) (by assumption) ?_
      rotate_left
      · (intro w hSw; (try dsimp only at hSw); go_simp; try with_reducible rfl)
      try simp only [List.getElem_toArray, List.getElem_cons_zero, List.getElem_cons_succ, Act.put, List.setIfInBounds_toArray, List.set_cons_zero, List.set_cons_succ]
      refine wpAnyH_take (i := 8) (v := ?_) rfl (by kernel_rfl) (by kernel_rfl) (by kernel_rfl) (fun _ _ _ h => h) (Or.inl ⟨by rfl, ?_⟩) (by assumption) ?_
      rotate_left
      · (intro w hSw; (try dsimp only at hSw); go_simp; try with_reducible rfl)
      try simp only [List.getElem_toArray, List.getElem_cons_zero, List.getElem_cons_succ, Act.put, List.setIfInBounds_toArray, List.set_cons_zero, List.set_cons_succ]
      refine wpAnyH_take (i := 9) (v := ?_) rfl (by kernel_rfl) (by kernel_rfl) (by kernel_rfl) (fun _ _ _ h => h) (Or.inl ⟨by rfl, ?_⟩) (by assumption) ?_
      rotate_left
      · (intro w hSw; (try dsimp only at hSw); go_simp; try with_reducible rfl)
      try simp only [List.getElem_toArray, List.getElem_cons_zero, List.getElem_cons_succ, Act.put, List.setIfInBounds_toArray, List.set_cons_zero, List.set_cons_succ]
      refine wpAnyH_take (i := 10) (v := ?_) rfl (by kernel_rfl) (by kernel_rfl) (by kernel_rfl) (fun _ _ _ h => h) (Or.inl ⟨by rfl, ?_⟩) (by assumption) ?_
      rotate_left
      · (intro w hSw; (try dsimp only at hSw); go_simp; try with_reducible rfl)
      try simp only [List.getElem_toArray, List.getElem_cons_zero, List.getElem_cons_succ, Act.put, List.setIfInBounds_toArray, List.set_cons_zero, List.set_cons_succ]
      refine wpAnyH_take (i := 11) (v := ?_) rfl (by kernel_rfl) (by kernel_rfl) (by kernel_rfl) (fun _ _ _ h => h) (Or.inl ⟨by rfl, ?_⟩) (by assumption) ?_
      rotate_left
      · (intro w hSw; (try dsimp only at hSw); go_simp; try with_reducible rfl)
      try simp only [List.getElem_toArray, List.getElem_cons_zero, List.getElem_cons_succ, Act.put, List.setIfInBounds_toArray, List.set_cons_zero, List.set_cons_succ]
      refine wpAnyH_take (i := 12) (v := ?_) rfl (by kernel_rfl) (by kernel_rfl) (by kernel_rfl) (fun _ _ _ h => h) (Or.inl ⟨by rfl, ?_⟩) (by assumption) ?_
      rotate_left
      · (intro w hSw; (try dsimp only at hSw); go_simp; try with_reducible rfl)
      try simp only [List.getElem_toArray, List.getElem_cons_zero, List.getElem_cons_succ, Act.put, List.setIfInBounds_toArray, List.set_cons_zero, List.set_cons_succ]
      refine wpAnyH_take (i := 15) (v := ?_) rfl (by kernel_rfl) (by kernel_rfl) (by kernel_rfl) (fun _ _ _ h => h) (Or.inl ⟨by rfl, ?_⟩) (by assumption) ?_
      rotate_left
      · (intro w hSw; (try dsimp only at hSw); go_simp; try with_reducible rfl)
      try simp only [List.getElem_toArray, List.getElem_cons_zero, List.getElem_cons_succ, Act.put, List.setIfInBounds_toArray, List.set_cons_zero, List.set_cons_succ]
      refine wpAnyH_ready (rs := [13, 16]) (by kernel_rfl) (by simp) ?_
      refine (AllReadyH.cons rfl (fun K hK => ?_) (AllReadyH.cons rfl (fun K hK => ?_) AllReadyH.nil))
      · skip
        try simp only [List.getElem_toArray]
        go_simp
        (go_at_call 12; refine (HC.out _ _ _ (by first | exact I1.out.rd | exact I1.out.rd.below (k := w7.heap.size) ((Below.refl _ _).drew) (Nat.le_refl _)) (by first | exact EX.out.rd | exact EX.out.rd.below (k := w7.heap.size) ((Below.refl _ _).drew) (Nat.le_refl _)) (by first | exact HSW.out.next B.out | exact (show SW (World.drew _) from HSW.out.next B.out) | exact HSW.out.next (B.out.trans ((Below.refl _ _).drew)))).mono ?_; rintro e w8 ⟨a8, c8, rfl, hin8, hbd⟩; rw [show ([(t : Int)] : List Int).length = 1 from rfl] at hin8 ⊢; have hb8 : Below w7.heap.size w7 w8 := (by first | exact hbd | exact ⟨hbd.os, hbd.tape, hbd.output, hbd.size, hbd.block⟩); clear hbd; have hz8 := hb8.size; replace X := Lib.hid (X.out.next hb8 X.out.lt); replace I1 := Lib.hid (I1.out.below hb8 (Nat.le_refl _)); replace IP := Lib.hid (IP.out.below hb8 (Nat.le_refl _)); replace EX := Lib.hid (EX.out.below hb8 (Nat.le_refl _)); replace B := Lib.hid (B.out.trans (hb8.mono B.out.size)); have IC := Lib.hid (hin8.mono (Nat.zero_le _)); clear hin8; clear hb8; have x0_8 := X.out.out.at0; have x1_8 := X.out.out.at1)
        refine hK.out _ _ (by first | exact ⟨x0_8, x1_8⟩ | exact ⟨x0_7, x1_7⟩ | exact ⟨x0, x1⟩ | go_keep) (fun hHeld => ?_)
        clear hK K
        try simp only [List.getElem_toArray, List.getElem_cons_zero, List.getElem_cons_succ, Act.put, List.setIfInBounds_toArray, List.set_cons_zero, List.set_cons_succ]
        refine wpAnyH_take (i := 14) (v := ?_) rfl (by kernel_rfl) (by kernel_rfl) (by kernel_rfl) (fun _ _ _ h => h) (Or.inl ⟨by rfl, ?_⟩) (by assumption) ?_
        rotate_left
        · (intro w hSw; (try dsimp only at hSw); go_simp; try with_reducible rfl)
        try simp only [List.getElem_toArray, List.getElem_cons_zero, List.getElem_cons_succ, Act.put, List.setIfInBounds_toArray, List.set_cons_zero, List.set_cons_succ]
        refine wpAnyH_ready (rs := [16]) (by kernel_rfl) (by simp) ?_
        refine AllReadyH.cons rfl (fun K hK => ?_) AllReadyH.nil
        try simp only [List.getElem_toArray]
        go_simp
        have RT := Lib.hid (show Ints 0 (w8.alloc (Obj.cells #[.int .i64 (t : Int)] 3)) (.slice (some ⟨w8.heap.size, 0, none⟩) 1 1) [(t : Int)] from World.ownsRow_lit w8 #[.int .i64 (t : Int)] 1 (Nat.zero_le _) (by unfold maxLen; omega) rfl)
        replace X := Lib.hid (X.out.alloc (Obj.cells #[.int .i64 (t : Int)] 3))
        replace I1 := Lib.hid (I1.out.alloc (Obj.cells #[.int .i64 (t : Int)] 3))
        replace IP := Lib.hid (IP.out.alloc (Obj.cells #[.int .i64 (t : Int)] 3))
        replace EX := Lib.hid (EX.out.alloc (Obj.cells #[.int .i64 (t : Int)] 3))
        replace IC := Lib.hid (IC.out.alloc (Obj.cells #[.int .i64 (t : Int)] 3))
        replace B := Lib.hid (B.out.alloc B.out.size (Obj.cells #[.int .i64 (t : Int)] 3))
        have hz9 : w8.heap.size ≤ (w8.alloc (Obj.cells #[.int .i64 (t : Int)] 3)).heap.size := by simp
        generalize (w8.alloc (Obj.cells #[.int .i64 (t : Int)] 3)) = w9 at *
        have x0_9 := X.out.out.at0
        have x1_9 := X.out.out.at1
        refine hK.out _ _ (by first | exact ⟨x0_9, x1_9⟩ | exact ⟨x0_8, x1_8⟩ | exact ⟨x0_7, x1_7⟩ | exact ⟨x0, x1⟩ | go_keep) (fun hHeld => ?_)
        clear hK K
        try simp only [List.getElem_toArray, List.getElem_cons_zero, List.getElem_cons_succ, Act.put, List.setIfInBounds_toArray, List.set_cons_zero, List.set_cons_succ]
        refine wpAnyH_ready (rs := [17]) (by kernel_rfl) (by simp) ?_
        refine AllReadyH.cons rfl (fun K hK => ?_) AllReadyH.nil
        try simp only [List.getElem_toArray]
        go_simp
        (go_at_call 47; refine (lawsEqualInts _ _ [(t : Int)] [(t : Int)] _ IC.out.rd RT.out.rd).mono ?_; rintro e w10 ⟨he10, hd10⟩; rw [eqB_self] at he10; subst he10; have hb10 : Below w9.heap.size w9 w10 := (by obtain ⟨d, rfl⟩ := hd10; first | exact below_drewN (Below.refl _ _) d | exact below_drewN ((Below.refl _ _).drew) d); clear hd10; have hz10 := hb10.size; replace X := Lib.hid (X.out.next hb10 X.out.lt); replace I1 := Lib.hid (I1.out.below hb10 (Nat.le_refl _)); replace IP := Lib.hid (IP.out.below hb10 (Nat.le_refl _)); replace EX := Lib.hid (EX.out.below hb10 (Nat.le_refl _)); replace IC := Lib.hid (IC.out.below hb10 (Nat.le_refl _)); replace RT := Lib.hid (RT.out.below hb10 (Nat.le_refl _)); replace B := Lib.hid (B.out.trans (hb10.mono B.out.size)); clear hb10; have x0_10 := X.out.out.at0; have x1_10 := X.out.out.at1)
        refine hK.out _ _ (by first | exact ⟨x0_10, x1_10⟩ | exact ⟨x0_9, x1_9⟩ | exact ⟨x0_8, x1_8⟩ | exact ⟨x0_7, x1_7⟩ | exact ⟨x0, x1⟩ | go_keep) (fun hHeld => ?_)
        clear hK K
        try simp only [List.getElem_toArray, List.getElem_cons_zero, List.getElem_cons_succ, Act.put, List.setIfInBounds_toArray, List.set_cons_zero, List.set_cons_succ]
        refine wpAnyH_take (i := 18) (v := ?_) rfl (by kernel_rfl) (by kernel_rfl) (by kernel_rfl) (fun _ _ _ h => h) (Or.inl ⟨by rfl, ?_⟩) (by assumption) ?_
        rotate_left
        · (intro w hSw; (try dsimp only at hSw); go_simp; try with_reducible rfl)
        try simp only [List.getElem_toArray, List.getElem_cons_zero, List.getElem_cons_succ, Act.put, List.setIfInBounds_toArray, List.set_cons_zero, List.set_cons_succ]
        refine wpAnyH_take (i := 19) (v := ?_) rfl (by kernel_rfl) (by kernel_rfl) (by kernel_rfl) (fun _ _ _ h => h) (Or.inl ⟨by rfl, ?_⟩) (by assumption) ?_
        rotate_left
        · (intro w hSw; (try dsimp only at hSw); go_simp; try with_reducible rfl)
        try simp only [List.getElem_toArray, List.getElem_cons_zero, List.getElem_cons_succ, Act.put, List.setIfInBounds_toArray, List.set_cons_zero, List.set_cons_succ]
        refine wpAnyH_done (by kernel_rfl) ?_ _
        go_wp2_with fail
        go_ret
        exact ⟨rfl, by first | exact B.out | exact B.out.drew⟩
      · skip
        try simp only [List.getElem_toArray]
        go_simp
        have RT := Lib.hid (show Ints 0 (w7.alloc (Obj.cells #[.int .i64 (t : Int)] 3)) (.slice (some ⟨w7.heap.size, 0, none⟩) 1 1) [(t : Int)] from World.ownsRow_lit w7 #[.int .i64 (t : Int)] 1 (Nat.zero_le _) (by unfold maxLen; omega) rfl)
        replace X := Lib.hid (X.out.alloc (Obj.cells #[.int .i64 (t : Int)] 3))
        replace I1 := Lib.hid (I1.out.alloc (Obj.cells #[.int .i64 (t : Int)] 3))
        replace IP := Lib.hid (IP.out.alloc (Obj.cells #[.int .i64 (t : Int)] 3))
        replace EX := Lib.hid (EX.out.alloc (Obj.cells #[.int .i64 (t : Int)] 3))
        replace B := Lib.hid (B.out.alloc B.out.size (Obj.cells #[.int .i64 (t : Int)] 3))
        have hz8 : w7.heap.size ≤ (w7.alloc (Obj.cells #[.int .i64 (t : Int)] 3)).heap.size := by simp
        generalize (w7.alloc (Obj.cells #[.int .i64 (t : Int)] 3)) = w8 at *
        have x0_8 := X.out.out.at0
        have x1_8 := X.out.out.at1
        refine hK.out _ _ (by first | exact ⟨x0_8, x1_8⟩ | exact ⟨x0_7, x1_7⟩ | exact ⟨x0, x1⟩ | go_keep) (fun hHeld => ?_)
        clear hK K
        try simp only [List.getElem_toArray, List.getElem_cons_zero, List.getElem_cons_succ, Act.put, List.setIfInBounds_toArray, List.set_cons_zero, List.set_cons_succ]
        refine wpAnyH_ready (rs := [13]) (by kernel_rfl) (by simp) ?_
        refine AllReadyH.cons rfl (fun K hK => ?_) AllReadyH.nil
        try simp only [List.getElem_toArray]
        go_simp
        (go_at_call 12; refine (HC.out _ _ _ (by first | exact I1.out.rd | exact I1.out.rd.below (k := w8.heap.size) ((Below.refl _ _).drew) (Nat.le_refl _)) (by first | exact EX.out.rd | exact EX.out.rd.below (k := w8.heap.size) ((Below.refl _ _).drew) (Nat.le_refl _)) (by first | exact HSW.out.next B.out | exact (show SW (World.drew _) from HSW.out.next B.out) | exact HSW.out.next (B.out.trans ((Below.refl _ _).drew)))).mono ?_; rintro e w9 ⟨a9, c9, rfl, hin9, hbd⟩; rw [show ([(t : Int)] : List Int).length = 1 from rfl] at hin9 ⊢; have hb9 : Below w8.heap.size w8 w9 := (by first | exact hbd | exact ⟨hbd.os, hbd.tape, hbd.output, hbd.size, hbd.block⟩); clear hbd; have hz9 := hb9.size; replace X := Lib.hid (X.out.next hb9 X.out.lt); replace I1 := Lib.hid (I1.out.below hb9 (Nat.le_refl _)); replace IP := Lib.hid (IP.out.below hb9 (Nat.le_refl _)); replace EX := Lib.hid (EX.out.below hb9 (Nat.le_refl _)); replace RT := Lib.hid (RT.out.below hb9 (Nat.le_refl _)); replace B := Lib.hid (B.out.trans (hb9.mono B.out.size)); have IC := Lib.hid (hin9.mono (Nat.zero_le _)); clear hin9; clear hb9; have x0_9 := X.out.out.at0; have x1_9 := X.out.out.at1)
        refine hK.out _ _ (by first | exact ⟨x0_9, x1_9⟩ | exact ⟨x0_8, x1_8⟩ | exact ⟨x0_7, x1_7⟩ | exact ⟨x0, x1⟩ | go_keep) (fun hHeld => ?_)
        clear hK K
        try simp only [List.getElem_toArray, List.getElem_cons_zero, List.getElem_cons_succ, Act.put, List.setIfInBounds_toArray, List.set_cons_zero, List.set_cons_succ]
        refine wpAnyH_take (i := 14) (v := ?_) rfl (by kernel_rfl) (by kernel_rfl) (by kernel_rfl) (fun _ _ _ h => h) (Or.inl ⟨by rfl, ?_⟩) (by assumption) ?_
        rotate_left
        · (intro w hSw; (try dsimp only at hSw); go_simp; try with_reducible rfl)
        try simp only [List.getElem_toArray, List.getElem_cons_zero, List.getElem_cons_succ, Act.put, List.setIfInBounds_toArray, List.set_cons_zero, List.set_cons_succ]
        refine wpAnyH_ready (rs := [17]) (by kernel_rfl) (by simp) ?_
        refine AllReadyH.cons rfl (fun K hK => ?_) AllReadyH.nil
        try simp only [List.getElem_toArray]
        go_simp
        (go_at_call 47; refine (lawsEqualInts _ _ [(t : Int)] [(t : Int)] _ IC.out.rd RT.out.rd).mono ?_; rintro e w10 ⟨he10, hd10⟩; rw [eqB_self] at he10; subst he10; have hb10 : Below w9.heap.size w9 w10 := (by obtain ⟨d, rfl⟩ := hd10; first | exact below_drewN (Below.refl _ _) d | exact below_drewN ((Below.refl _ _).drew) d); clear hd10; have hz10 := hb10.size; replace X := Lib.hid (X.out.next hb10 X.out.lt); replace I1 := Lib.hid (I1.out.below hb10 (Nat.le_refl _)); replace IP := Lib.hid (IP.out.below hb10 (Nat.le_refl _)); replace EX := Lib.hid (EX.out.below hb10 (Nat.le_refl _)); replace RT := Lib.hid (RT.out.below hb10 (Nat.le_refl _)); replace IC := Lib.hid (IC.out.below hb10 (Nat.le_refl _)); replace B := Lib.hid (B.out.trans (hb10.mono B.out.size)); clear hb10; have x0_10 := X.out.out.at0; have x1_10 := X.out.out.at1)
        refine hK.out _ _ (by first | exact ⟨x0_10, x1_10⟩ | exact ⟨x0_9, x1_9⟩ | exact ⟨x0_8, x1_8⟩ | exact ⟨x0_7, x1_7⟩ | exact ⟨x0, x1⟩ | go_keep) (fun hHeld => ?_)
        clear hK K
        try simp only [List.getElem_toArray, List.getElem_cons_zero, List.getElem_cons_succ, Act.put, List.setIfInBounds_toArray, List.set_cons_zero, List.set_cons_succ]
        refine wpAnyH_take (i := 18) (v := ?_) rfl (by kernel_rfl) (by kernel_rfl) (by kernel_rfl) (fun _ _ _ h => h) (Or.inl ⟨by rfl, ?_⟩) (by assumption) ?_
        rotate_left
        · (intro w hSw; (try dsimp only at hSw); go_simp; try with_reducible rfl)
        try simp only [List.getElem_toArray, List.getElem_cons_zero, List.getElem_cons_succ, Act.put, List.setIfInBounds_toArray, List.set_cons_zero, List.set_cons_succ]
        refine wpAnyH_take (i := 19) (v := ?_) rfl (by kernel_rfl) (by kernel_rfl) (by kernel_rfl) (fun _ _ _ h => h) (Or.inl ⟨by rfl, ?_⟩) (by assumption) ?_
        rotate_left
        · (intro w hSw; (try dsimp only at hSw); go_simp; try with_reducible rfl)
        try simp only [List.getElem_toArray, List.getElem_cons_zero, List.getElem_cons_succ, Act.put, List.setIfInBounds_toArray, List.set_cons_zero, List.set_cons_succ]
        refine wpAnyH_done (by kernel_rfl) ?_ _
        go_wp2_with fail
        go_ret
        exact ⟨rfl, by first | exact B.out | exact B.out.drew⟩
    · rw [Bool.not_eq_true] at hk
      have HI := Lib.hid (fun v w h hs => implIsTeaching N v zs s r w h hs)
      have HS := Lib.hid (fun v w h => specIsTeaching N v zs s r w h)
      rw [hk] at HI HS
      clear hk
      refine (HI.out _ _ I1.out.rd (by first | exact HSW.out.next B.out | exact (show SW (World.drew _) from HSW.out.next B.out) | exact HSW.out.next (B.out.trans ((Below.refl _ _).drew)))).mono ?_
      rintro e w3 ⟨rfl, hb3⟩
      have hz3 := hb3.size
      replace X := Lib.hid (X.out.next hb3 X.out.lt)
      replace I1 := Lib.hid (I1.out.below hb3 (Nat.le_refl _))
      replace B := Lib.hid (B.out.trans (hb3.mono B.out.size))
      clear hb3
      have x0 := X.out.out.at0
      have x1 := X.out.out.at1
      go_wp2_with fail
      clear x0 x1
      refine (HS.out _ _ I1.out.rd).mono ?_
      rintro e w4 ⟨rfl, hb4⟩
      have hz4 := hb4.size
      replace X := Lib.hid (X.out.next hb4 X.out.lt)
      replace I1 := Lib.hid (I1.out.below hb4 (Nat.le_refl _))
      replace B := Lib.hid (B.out.trans (hb4.mono B.out.size))
      clear hb4
      have x0 := X.out.out.at0
      have x1 := X.out.out.at1
      go_wp2_with fail
      clear x0 x1
      refine (HS.out _ _ I1.out.rd).mono ?_
      rintro e w5 ⟨rfl, hb5⟩
      have hz5 := hb5.size
      replace X := Lib.hid (X.out.next hb5 X.out.lt)
      replace I1 := Lib.hid (I1.out.below hb5 (Nat.le_refl _))
      replace B := Lib.hid (B.out.trans (hb5.mono B.out.size))
      clear hb5
      have x0 := X.out.out.at0
      have x1 := X.out.out.at1
      go_wp2_with fail
      clear x0 x1
      go_ret
      exact ⟨rfl, by first | exact B.out | exact B.out.drew⟩
  · go_enter Tryd.func10, Tryd.ntmps10
    go_wp2_with fail
    go_ret
    exact ⟨rfl, Below.refl _ _⟩

end Go.Proofs.YtiocaopabkbgpaaDoor
