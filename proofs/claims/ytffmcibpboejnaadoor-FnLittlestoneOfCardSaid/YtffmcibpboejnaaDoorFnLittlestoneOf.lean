/- FnLittlestoneOf's walk: mistakes lie between the dimension and the number of sets. Conditions: the code is a slice of bytes. -/
import Derived.Test.YtffmcibpboejnaaDoorDrawsLi
import Derived.Test.YtffmcibpboejnaaDoorLitM
import Derived.Test.YtffmcibpboejnaaDoorLittle
import Derived.Test.YtffmcibpboejnaaDoorZC
import Derived.Test.YtffmcibpboejnaaDoorZJ
import Derived.Test.YtffmcibpboejnaaDoorZK
namespace Go.Proofs.YtffmcibpboejnaaDoor
open Go.RowKit

theorem eqB_self (xs : List Int) : eqB xs xs = true := eqB_of rfl (fun _ _ => rfl)
theorem Rd.take {w : World} {a : Option Addr} {n c : Nat} {xs : List Int} (h : Rd w (.slice a n c) xs) (k : Nat) (hk : k ≤ n) : Rd w (.slice a k c) (xs.take k) := by
  obtain ⟨a', b, off, cap, e, h1, h3, h5⟩ := h
  simp only [Value.slice.injEq] at e
  obtain ⟨rfl, rfl, rfl⟩ := e
  have hl : (xs.take k).length = k := by rw [List.length_take]; omega
  refine ⟨a, b, off, c, by rw [hl], fun h => h1 (by omega), by omega, fun j hj => ?_⟩
  rw [h5 j (by omega)]
  simp only [List.getD_eq_getElem?_getD, List.getElem?_take, if_pos (show j < k by omega)]
theorem cls_take {m : Nat} {ns : List Nat} (h : Cls m ns) (k : Nat) : Cls m (ns.take k) :=
  ⟨h.pts, h.asc.sublist (List.take_sublist k ns), fun t ht => h.lt t (List.mem_of_mem_take ht)⟩
theorem toI_take (ns : List Nat) (k : Nat) : toI (ns.take k) = (toI ns).take k := by simp [toI, List.map_take]
theorem lit_in {m : Nat} {ns : List Nat} (h : Cls m ns) : litB (m : Int) (toI ns) = mst ns := by rw [litB, if_pos (cls_vldB h), toNat_toI]


set_option maxHeartbeats 6400000 in
set_option maxRecDepth 100000 in
theorem walkFnLittlestoneOf (a : Option Addr) (b off n cap : Nat) (w : World) (hc : n ≤ cap) (hcap : cap ≤ maxLen) (h : Byt w a b off n) (hsw : SW w) :
    Calls Tryd.prog 3 #[.slice a n cap] w fun e w' => e = .returned (.bool true) ∧ Below w.heap.size w w' := by
  have HSW := Lib.hid hsw
  clear hsw
  by_cases hn : n ≤ 1048576
  · have HD := Lib.hid (dDrawLittlestoneOf a b off n cap w hc hn hcap h)
    clear h
    go_enter Tryd.func3, Tryd.ntmps3
    go_wp2_with fail
    refine HD.out.mono ?_
    rintro e w1 ⟨N, zs, hbd, a1, c1, rfl, hin, hb⟩
    generalize hL : zs.length = L at *
    have X := Lib.hid (Bx.new N (.slice a1 L c1) w1)
    have I1 := Lib.hid ((hin.mono (Nat.zero_le _)).alloc (Obj.cells #[.int .i64 N, .slice a1 L c1] 25))
    have B := Lib.hid (hb.alloc hb.size (Obj.cells #[.int .i64 N, .slice a1 L c1] 25))
    have HZ2 := Lib.hid (show (w1.alloc (Obj.cells #[.int .i64 N, .slice a1 L c1] 25)).heap.size = w1.heap.size + 1 by simp)
    have hz1 := hb.size
    clear hin hb HD
    go_wp2_with fail
    generalize (w1.alloc (Obj.cells #[.int .i64 N, .slice a1 L c1] 25)) = w2 at *
    have hz2 := HZ2.out
    generalize ho : w1.heap.size = o at *
    obtain ⟨hN0, hN1, hL34⟩ := hbd
    by_cases hv : vldB N zs = true
    · obtain ⟨m, ns, rfl, rfl, hcl⟩ := vldB_cls hv
      have hL2 : ns.length = L := by rw [← hL, toI_length]
      have hm := hcl.pts
      have HI := Lib.hid (fun v w h hs => implLittlestoneOf (m : Int) v (toI ns) w h hs)
      have HS := Lib.hid (fun v w h => specLittlestoneOf (m : Int) v (toI ns) w h)
      have HV := Lib.hid (fun v w h => implValid (m : Int) v (toI ns) w h)
      have HVC := Lib.hid (fun v w h => implVCDimension (m : Int) v (toI ns) w h)
      have HLs := Lib.hid (fun v w h hs => implLittlestoneOf (m : Int) v (toI (ns.take (L - 1))) w h hs)
      rw [lit_in (cls_take hcl _), toI_take] at HLs
      rw [lit_in hcl] at HI HS
      rw [vcB_in hv] at HVC
      rw [hv] at HV
      have hvc := vc_lit hcl
      have hls := lit_last hcl (L - 1)
      have h32 := hcl.length
      have hnil : L = 0 → mst ns = -1 := fun h => by rw [List.length_eq_zero_iff.1 (by omega : ns.length = 0), mst_nil]
      have hfull : 0 < L → 0 ≤ mst ns ∧ 2 ^ (mst ns).toNat ≤ L ∧ (mst ns = 0 ↔ L = 1) := fun h => by
        have hne : ns ≠ [] := fun e => by rw [e] at hL2; simp at hL2; omega
        have h1 := lit_pow hcl.length hne
        have h2 := lit_one hcl hne
        rw [hL2] at h1 h2
        exact ⟨mst_nn hne, h1, h2⟩
      generalize mst (ns.take (L - 1)) = less at *
      generalize mst ns = d at *
      generalize vcL m ns = vc at *
      clear hv hcl
      by_cases hl0 : L = 0
      · obtain rfl := hnil hl0
        subst hl0
        refine (HI.out _ _ I1.out.rd (by first | exact HSW.out.next B.out | exact (show SW (World.drew _) from HSW.out.next B.out) | exact HSW.out.next (B.out.trans ((Below.refl _ _).drew)))).mono ?_
        rintro e w3 ⟨rfl, hb3⟩
        have hz3 := hb3.size
        replace X := Lib.hid (X.out.next hb3 (by omega))
        replace I1 := Lib.hid (I1.out.below hb3 (Nat.le_refl _))
        replace B := Lib.hid (B.out.trans (hb3.mono (by omega)))
        clear hb3
        have x0 := X.out.out.at0
        have x1 := X.out.out.at1
        go_wp2_with fail
        clear x0 x1
        refine (HS.out _ _ I1.out.rd).mono ?_
        rintro e w4 ⟨rfl, hb4⟩
        have hz4 := hb4.size
        replace X := Lib.hid (X.out.next hb4 (by omega))
        replace I1 := Lib.hid (I1.out.below hb4 (Nat.le_refl _))
        replace B := Lib.hid (B.out.trans (hb4.mono (by omega)))
        clear hb4
        have x0 := X.out.out.at0
        have x1 := X.out.out.at1
        go_wp2_with fail
        clear x0 x1
        refine (HV.out _ _ I1.out.rd).mono ?_
        rintro e w5 ⟨rfl, hb5⟩
        have hz5 := hb5.size
        replace X := Lib.hid (X.out.next hb5 (by omega))
        replace I1 := Lib.hid (I1.out.below hb5 (Nat.le_refl _))
        replace B := Lib.hid (B.out.trans (hb5.mono (by omega)))
        clear hb5
        have x0 := X.out.out.at0
        have x1 := X.out.out.at1
        go_wp2_with fail
        clear x0 x1
        go_ret
        exact ⟨rfl, B.out⟩
      · obtain ⟨hd0, hpow, hone⟩ := hfull (by omega)
        obtain ⟨l, rfl⟩ : ∃ l, L = l + 1 := ⟨L - 1, by omega⟩
        obtain ⟨sa, sg, sc, se, s1, s2, -⟩ := I1.out.shape
        simp only [Value.slice.injEq] at se
        obtain ⟨rfl, -, rfl⟩ := se
        have hne : a1 ≠ none := fun hn => by
          have h2 := congrArg List.length (s2 hn).1
          simp only [List.length_nil] at h2
          omega
        obtain rfl := s1.resolve_right hne
        have hlc := I1.out.len_le_cap
        have hd : (((l + 1 : Nat) : Int) == 0) = false := by simp; omega
        have hw1 : IntKind.i64.wrap (((l + 1 : Nat) : Int) - 1) = (l : Int) := by rw [IntKind.wrap_i64]; omega
        have hw2 : ((l + 1 : Nat) : Int) - 1 = (l : Int) := by omega
        have hw3 : IntKind.i64.wrap (l : Int) = (l : Int) := by rw [IntKind.wrap_i64]; omega
        have hlI : (0 : Int) ≤ (l : Int) := by omega
        have hd5 : ¬ (l : Int) + 1 = 0 := by omega
        have hd6 : ((l : Int) + 1 == 0) = false := by simpa using hd5
        have hlcI : (l : Int) ≤ (c1 : Int) := by omega
        have hd9 : d.toNat ≤ 5 := by
          rw [← Nat.not_lt]
          intro h9
          have h8 : 2 ^ 6 ≤ 2 ^ d.toNat := Nat.pow_le_pow_right (by omega) h9
          omega
        have HPW := Lib.hid (fun w => lawsPower d w hd0 (by omega))
        have hpI : (2 : Int) ^ d.toNat ≤ ((l + 1 : Nat) : Int) := by
          have : ((2 ^ d.toNat : Nat) : Int) = (2 : Int) ^ d.toNat := by simp
          rw [← this]
          exact Int.ofNat_le.2 hpow
        generalize (2 : Int) ^ d.toNat = p at *
        have hpI2 : p ≤ (l : Int) + 1 := by omega
        have k1 : decide (vc ≤ d) = true := decide_eq_true hvc
        have k2 : decide (p ≤ ((l + 1 : Nat) : Int)) = true := decide_eq_true hpI
        have k3 : decide (p ≤ (l : Int) + 1) = true := decide_eq_true hpI2
        have k4 : decide (less ≤ d) = true := decide_eq_true hls
        rw [show l + 1 - 1 = l by omega] at HLs
        clear hl0 s1 s2 hne hlc hL hL2 hN0 hN1 hm hnil hfull hpow hd9 h32
        refine (HI.out _ _ I1.out.rd (by first | exact HSW.out.next B.out | exact (show SW (World.drew _) from HSW.out.next B.out) | exact HSW.out.next (B.out.trans ((Below.refl _ _).drew)))).mono ?_
        rintro e w3 ⟨rfl, hb3⟩
        have hz3 := hb3.size
        replace X := Lib.hid (X.out.next hb3 (by omega))
        replace I1 := Lib.hid (I1.out.below hb3 (Nat.le_refl _))
        replace B := Lib.hid (B.out.trans (hb3.mono (by omega)))
        clear hb3
        have x0 := X.out.out.at0
        have x1 := X.out.out.at1
        go_wp2_with fail
        clear x0 x1
        refine (HS.out _ _ I1.out.rd).mono ?_
        rintro e w4 ⟨rfl, hb4⟩
        have hz4 := hb4.size
        replace X := Lib.hid (X.out.next hb4 (by omega))
        replace I1 := Lib.hid (I1.out.below hb4 (Nat.le_refl _))
        replace B := Lib.hid (B.out.trans (hb4.mono (by omega)))
        clear hb4
        have x0 := X.out.out.at0
        have x1 := X.out.out.at1
        go_wp2_with fail
        clear x0 x1
        refine (HV.out _ _ I1.out.rd).mono ?_
        rintro e w5 ⟨rfl, hb5⟩
        have hz5 := hb5.size
        replace X := Lib.hid (X.out.next hb5 (by omega))
        replace I1 := Lib.hid (I1.out.below hb5 (Nat.le_refl _))
        replace B := Lib.hid (B.out.trans (hb5.mono (by omega)))
        clear hb5
        have x0 := X.out.out.at0
        have x1 := X.out.out.at1
        go_wp2_with fail
        refine wp_region_held_drew (S := fun w' => w'.cell? ⟨o, 0, none⟩ = some (.int .i64 (m : Int)) ∧ w'.cell? ⟨o, 1, none⟩ = some (.slice (some ⟨sg, 0, none⟩) (l + 1) c1)) (by kernel_rfl) (by first | exact ⟨x0_6, x1_6⟩ | exact ⟨x0, x1⟩ | go_keep) (fun hHeld => ?_)
        refine wpAnyH_take (i := 0) (v := ?_) rfl (by kernel_rfl) (by kernel_rfl) (by kernel_rfl) (fun _ _ _ h => h) (Or.inl ⟨by rfl, ?_⟩) (by assumption) ?_
        rotate_left
        · (intro w hSw; (try dsimp only at hSw); go_simp; try with_reducible rfl)
        try simp only [List.getElem_toArray, List.getElem_cons_zero, Act.put, List.setIfInBounds_toArray, List.set_cons_zero, List.set_cons_succ]
        refine wpAnyH_take (i := 1) (v := ?_) rfl (by kernel_rfl) (by kernel_rfl) (by kernel_rfl) (fun _ _ _ h => h) (Or.inl ⟨by rfl, ?_⟩) (by assumption) ?_
        rotate_left
        · (intro w hSw; (try dsimp only at hSw); go_simp; try with_reducible rfl)
        try simp only [List.getElem_toArray, List.getElem_cons_zero, List.getElem_cons_succ, Act.put, List.setIfInBounds_toArray, List.set_cons_zero, List.set_cons_succ]
        refine wpAnyH_take (i := 2) (v := ?_) rfl (by kernel_rfl) (by kernel_rfl) (by kernel_rfl) (fun _ _ _ h => h) (Or.inl ⟨by rfl, ?_⟩) (by assumption) ?_
        rotate_left
        · (intro w hSw; (try dsimp only at hSw); go_simp; try with_reducible rfl)
        try simp only [List.getElem_toArray, List.getElem_cons_zero, List.getElem_cons_succ, Act.put, List.setIfInBounds_toArray, List.set_cons_zero, List.set_cons_succ]
        refine wpAnyH_take (i := 3) (v := ?_) rfl (by kernel_rfl) (by kernel_rfl) (by kernel_rfl) (fun _ _ _ h => h) (Or.inl ⟨by rfl, ?_⟩) (by assumption) ?_
        rotate_left
        · (intro w hSw; (try dsimp only at hSw); go_simp; try with_reducible rfl)
        try simp only [List.getElem_toArray, List.getElem_cons_zero, List.getElem_cons_succ, Act.put, List.setIfInBounds_toArray, List.set_cons_zero, List.set_cons_succ]
        refine wpAnyH_take (i := 4) (v := ?_) rfl (by kernel_rfl) (by kernel_rfl) (by kernel_rfl) (fun _ _ _ h => h) (Or.inl ⟨by rfl, ?_⟩) (by assumption) ?_
        rotate_left
        · (intro w hSw; (try dsimp only at hSw); go_simp; try with_reducible rfl)
        try simp only [List.getElem_toArray, List.getElem_cons_zero, List.getElem_cons_succ, Act.put, List.setIfInBounds_toArray, List.set_cons_zero, List.set_cons_succ]
        refine wpAnyH_take (i := 5) (v := ?_) rfl (by kernel_rfl) (by kernel_rfl) (by kernel_rfl) (fun _ _ _ h => h) (Or.inl ⟨by rfl, ?_⟩) (by assumption) ?_
        rotate_left
        · (intro w hSw; (try dsimp only at hSw); go_simp; try with_reducible rfl)
        try simp only [List.getElem_toArray, List.getElem_cons_zero, List.getElem_cons_succ, Act.put, List.setIfInBounds_toArray, List.set_cons_zero, List.set_cons_succ]
        refine wpAnyH_take (i := 6) (v := ?_) rfl (by kernel_rfl) (by kernel_rfl) (by kernel_rfl) (fun _ _ _ h => h) (Or.inl ⟨by rfl, ?_⟩) (by assumption) ?_
        rotate_left
        · (intro w hSw; (try dsimp only at hSw); go_simp; try with_reducible rfl)
        try simp only [List.getElem_toArray, List.getElem_cons_zero, List.getElem_cons_succ, Act.put, List.setIfInBounds_toArray, List.set_cons_zero, List.set_cons_succ]
        refine wpAnyH_take (i := 7) (v := ?_) rfl (by kernel_rfl) (by kernel_rfl) (by kernel_rfl) (fun _ _ _ h => h) (Or.inl ⟨by rfl, ?_⟩) (by assumption) ?_
        rotate_left
        · (intro w hSw; (try dsimp only at hSw); go_simp; try with_reducible rfl)
        try simp only [List.getElem_toArray, List.getElem_cons_zero, List.getElem_cons_succ, Act.put, List.setIfInBounds_toArray, List.set_cons_zero, List.set_cons_succ]
        refine wpAnyH_ready (rs := [8]) (by kernel_rfl) (by simp) ?_
        refine AllReadyH.cons rfl (fun K hK => ?_) AllReadyH.nil
        try simp only [List.getElem_toArray]
        go_simp
        (go_at_call 7; refine (HLs.out _ _ (by first | exact I1.out.rd.take l (by omega) | exact (I1.out.rd.below (k := w5.heap.size) ((Below.refl _ _).drew) (Nat.le_refl _)).take l (by omega)) (by first | exact HSW.out.next B.out | exact (show SW (World.drew _) from HSW.out.next B.out) | exact HSW.out.next (B.out.trans ((Below.refl _ _).drew)))).mono ?_; rintro e w6 ⟨rfl, hbd⟩; have hb6 : Below w5.heap.size w5 w6 := (by first | exact hbd | exact ⟨hbd.os, hbd.tape, hbd.output, hbd.size, hbd.block⟩); clear hbd; have hz6 := hb6.size; replace X := Lib.hid (X.out.next hb6 (by omega)); replace I1 := Lib.hid (I1.out.below hb6 (Nat.le_refl _)); replace B := Lib.hid (B.out.trans (hb6.mono (by omega))); clear hb6; have x0_6 := X.out.out.at0; have x1_6 := X.out.out.at1)
        refine hK.out _ _ (by first | exact ⟨x0_6, x1_6⟩ | exact ⟨x0, x1⟩ | go_keep) (fun hHeld => ?_)
        clear hK K
        try simp only [List.getElem_toArray, List.getElem_cons_zero, List.getElem_cons_succ, Act.put, List.setIfInBounds_toArray, List.set_cons_zero, List.set_cons_succ]
        refine wpAnyH_take (i := 9) (v := ?_) rfl (by kernel_rfl) (by kernel_rfl) (by kernel_rfl) (fun _ _ _ h => h) (Or.inl ⟨by rfl, ?_⟩) (by assumption) ?_
        rotate_left
        · (intro w hSw; (try dsimp only at hSw); go_simp; try with_reducible rfl)
        try simp only [List.getElem_toArray, List.getElem_cons_zero, List.getElem_cons_succ, Act.put, List.setIfInBounds_toArray, List.set_cons_zero, List.set_cons_succ]
        refine wpAnyH_done (by kernel_rfl) ?_ _
        have x0 := X.out.out.at0
        have x1 := X.out.out.at1
        go_wp2_with fail
        clear x0 x1
        refine (HVC.out _ _ I1.out.rd).mono ?_
        rintro e w7 ⟨rfl, hb7⟩
        have hz7 := hb7.size
        replace X := Lib.hid (X.out.next hb7 (by omega))
        replace I1 := Lib.hid (I1.out.below hb7 (Nat.le_refl _))
        replace B := Lib.hid (B.out.trans (hb7.mono (by omega)))
        clear hb7
        have x0 := X.out.out.at0
        have x1 := X.out.out.at1
        go_wp2_with fail
        clear x0 x1
        refine (HPW.out _).mono ?_
        rintro e w8 ⟨rfl, hw8⟩
        subst w8
        by_cases h1 : l = 0
        · obtain rfl : d = 0 := hone.2 (by omega)
          subst h1
          have x0 := X.out.out.at0
          have x1 := X.out.out.at1
          go_wp2_with fail
          go_ret
          exact ⟨rfl, B.out⟩
        · have hdn : ¬ d = 0 := fun h => by have := hone.1 h; omega
          have e1 : (d == 0) = false := by simpa using hdn
          have e2 : ¬ ((l + 1 : Nat) : Int) = 1 := by omega
          have e3 : (((l + 1 : Nat) : Int) == 1) = false := by rw [beq_eq_false_iff_ne]; omega
          have e4 : ¬ (l : Int) + 1 = 1 := by omega
          have e5 : ((l : Int) + 1 == 1) = false := by rw [beq_eq_false_iff_ne]; omega
          have x0 := X.out.out.at0
          have x1 := X.out.out.at1
          go_wp2_with fail
          go_ret
          exact ⟨rfl, B.out⟩
    · rw [Bool.not_eq_true] at hv
      have HI := Lib.hid (fun v w h hs => implLittlestoneOf N v zs w h hs)
      have HS := Lib.hid (fun v w h => specLittlestoneOf N v zs w h)
      have HV := Lib.hid (fun v w h => implValid N v zs w h)
      rw [show litB N zs = -1 by rw [litB, hv]; rfl] at HI HS
      rw [hv] at HV
      clear hv
      refine (HI.out _ _ I1.out.rd (by first | exact HSW.out.next B.out | exact (show SW (World.drew _) from HSW.out.next B.out) | exact HSW.out.next (B.out.trans ((Below.refl _ _).drew)))).mono ?_
      rintro e w3 ⟨rfl, hb3⟩
      have hz3 := hb3.size
      replace X := Lib.hid (X.out.next hb3 (by omega))
      replace I1 := Lib.hid (I1.out.below hb3 (Nat.le_refl _))
      replace B := Lib.hid (B.out.trans (hb3.mono (by omega)))
      clear hb3
      have x0 := X.out.out.at0
      have x1 := X.out.out.at1
      go_wp2_with fail
      clear x0 x1
      refine (HS.out _ _ I1.out.rd).mono ?_
      rintro e w4 ⟨rfl, hb4⟩
      have hz4 := hb4.size
      replace X := Lib.hid (X.out.next hb4 (by omega))
      replace I1 := Lib.hid (I1.out.below hb4 (Nat.le_refl _))
      replace B := Lib.hid (B.out.trans (hb4.mono (by omega)))
      clear hb4
      have x0 := X.out.out.at0
      have x1 := X.out.out.at1
      go_wp2_with fail
      clear x0 x1
      refine (HV.out _ _ I1.out.rd).mono ?_
      rintro e w5 ⟨rfl, hb5⟩
      have hz5 := hb5.size
      replace X := Lib.hid (X.out.next hb5 (by omega))
      replace I1 := Lib.hid (I1.out.below hb5 (Nat.le_refl _))
      replace B := Lib.hid (B.out.trans (hb5.mono (by omega)))
      clear hb5
      have x0 := X.out.out.at0
      have x1 := X.out.out.at1
      go_wp2_with fail
      clear x0 x1
      refine (HS.out _ _ I1.out.rd).mono ?_
      rintro e w6 ⟨rfl, hb6⟩
      have hz6 := hb6.size
      replace X := Lib.hid (X.out.next hb6 (by omega))
      replace I1 := Lib.hid (I1.out.below hb6 (Nat.le_refl _))
      replace B := Lib.hid (B.out.trans (hb6.mono (by omega)))
      clear hb6
      have x0 := X.out.out.at0
      have x1 := X.out.out.at1
      go_wp2_with fail
      clear x0 x1
      go_ret
      exact ⟨rfl, B.out⟩
  · go_enter Tryd.func3, Tryd.ntmps3
    go_wp2_with fail
    go_ret
    exact ⟨rfl, Below.refl _ _⟩

end Go.Proofs.YtffmcibpboejnaaDoor
