/- FnFirstTeaching's walk: the first teaching set is small. Conditions: the code is a slice of bytes. -/
import Derived.Test.YthjbkjkfibiceaaDoorZK
import Derived.Test.YthjbkjkfibiceaaDoorZJ
import Derived.Test.YthjbkjkfibiceaaDoorDrawsF
import Derived.Test.YthjbkjkfibiceaaDoorFirstT
import Derived.Test.YthjbkjkfibiceaaDoorFirstTS
import Derived.Test.YthjbkjkfibiceaaDoorTeachP
import Derived.Test.YthjbkjkfibiceaaDoorZG
namespace Go.Proofs.YthjbkjkfibiceaaDoor
open Go.RowKit

theorem eqB_self (xs : List Int) : eqB xs xs = true := eqB_of rfl (fun _ _ => rfl)
theorem pts_less {t x : Nat} (ht : t < 32) (hx : x ∈ pts t) : x < 5 ∧ 2 ^ x ≤ t ∧ pc (t - 2 ^ x) < pc t := by
  have key : ∀ t : Fin 32, (pts (t : Nat)).all (fun x => decide (x < 5) && decide (2 ^ x ≤ (t : Nat)) && decide (pc ((t : Nat) - 2 ^ x) < pc (t : Nat))) = true := by decide +kernel
  have := List.all_eq_true.1 (key ⟨t, ht⟩) x hx
  simp only [Bool.and_eq_true, decide_eq_true_eq] at this
  exact ⟨this.1.1, this.1.2, this.2⟩
theorem pts_len' (t : Nat) : (pts t).length ≤ 5 := filt_le _ 5
theorem ft_less {m u : Nat} {ns : List Nat} (h : Cls m ns) (hu : u ∈ ns) {x : Nat} (hx : x ∈ pts (ftN m u ns)) : x < 5 ∧ 2 ^ x ≤ ftN m u ns ∧ ftN m u ns - 2 ^ x < 2 ^ m ∧ tch u (ftN m u ns - 2 ^ x) ns = false := by
  obtain ⟨_, _, h1, h2⟩ := ft_eq h hu
  obtain ⟨a, b, c⟩ := pts_less (Nat.lt_of_lt_of_le h1 (pow_le_32 h.pts)) hx
  refine ⟨a, b, Nat.lt_of_le_of_lt (Nat.sub_le _ _) h1, ?_⟩
  rw [← Bool.not_eq_true]
  intro h9
  have h8 := (bst_spec (fun s => tch u s ns) (2 ^ m - 1) (2 ^ m)).2 (ftN m u ns - 2 ^ x) (Nat.lt_of_le_of_lt (Nat.sub_le _ _) h1) h9
  have h7 : bst (fun s => tch u s ns) (2 ^ m - 1) (2 ^ m) = ftN m u ns := rfl
  rw [h7] at h8
  omega


set_option maxHeartbeats 6400000 in
set_option maxRecDepth 100000 in
theorem walkFnFirstTeaching (a : Option Addr) (b off n cap : Nat) (w : World) (hc : n ≤ cap) (hcap : cap ≤ maxLen) (h : Byt w a b off n) (hsw : SW w) :
    Calls Tryd.prog 4 #[.slice a n cap] w fun e w' => e = .returned (.bool true) ∧ Below w.heap.size w w' := by
  have HSW := Lib.hid hsw
  clear hsw
  by_cases hn : n ≤ 1048576
  · have HD := Lib.hid (dDrawFirstTeaching a b off n cap w hc hn hcap h)
    clear h
    go_enter Tryd.func4, Tryd.ntmps4
    go_wp2_with fail
    refine HD.out.mono ?_
    rintro e w1 ⟨N, zs, s, hbd, a1, c1, rfl, hin, hb⟩
    generalize hL : zs.length = L at *
    have X := Lib.hid (Bx.new N (.slice a1 L c1) w1)
    have I1 := Lib.hid ((hin.mono (Nat.zero_le _)).alloc (Obj.cells #[.int .i64 N, .slice a1 L c1] 25))
    have B := Lib.hid (hb.alloc hb.size (Obj.cells #[.int .i64 N, .slice a1 L c1] 25))
    have HZ2 := Lib.hid (show (w1.alloc (Obj.cells #[.int .i64 N, .slice a1 L c1] 25)).heap.size = w1.heap.size + 1 by simp)
    have hz1 := hb.size
    clear hin hb HD
    go_wp2_with fail
    generalize (w1.alloc (Obj.cells #[.int .i64 N, .slice a1 L c1] 25)) = w2 at *
    have hz2 := HZ2.out
    generalize ho : w1.heap.size = o at *
    obtain ⟨hN0, hN1, hL34⟩ := hbd
    have HI := Lib.hid (fun v w h hs => implFirstTeaching N v zs s w h hs)
    have HS := Lib.hid (fun v w h => specFirstTeaching N v zs s w h)
    by_cases hk : ftK N zs s = true
    · have hv : vldB N zs = true := by simp only [ftK, Bool.and_eq_true] at hk; exact hk.1
      obtain ⟨m, ns, rfl, rfl, hcl⟩ := vldB_cls hv
      have hm := hcl.pts
      obtain ⟨u, hu, rfl⟩ : ∃ u, u ∈ ns ∧ (u : Int) = s := by
        simp only [ftK, Bool.and_eq_true, hasB, decide_eq_true_eq, toI, List.mem_map] at hk
        exact hk.2
      have hL2 : ns.length = L := by rw [← hL, toI_length]
      have hfB : ftB (m : Int) (toI ns) (u : Int) = (ftN m u ns : Nat) := by rw [ftB, if_pos hk, Int.toNat_natCast, Int.toNat_natCast, toNat_toI]
      have hfT : tnB (m : Int) (toI ns) (u : Int) = (pc (ftN m u ns) : Nat) := by rw [tnB, if_pos hk, Int.toNat_natCast, Int.toNat_natCast, toNat_toI]
      obtain ⟨-, -, hflt, hft⟩ := ft_eq hcl hu
      have HT := Lib.hid (show ∀ r : Nat, r < 2 ^ m → ∀ v w, Rd w v (toI ns) → SW w → Calls Tryd.prog 21 #[.agg #[.int .i64 (m : Int), v], .int .i64 (u : Int), .int .i64 (r : Int)] w fun e w' => e = .returned (.bool (tch u r ns)) ∧ Below w.heap.size w w' from fun r hr v w h hs => by
        have hrb : setB m (r : Int) = true := by
          have : ((2 ^ m : Nat) : Int) = (2 : Int) ^ m := by simp
          simp only [setB, Bool.and_eq_true, decide_eq_true_eq]
          omega
        have h8 := implIsTeaching (m : Int) v (toI ns) (u : Int) (r : Int) w h hs
        rw [iteB_in hv hrb] at h8
        exact h8)
      have HTf := Lib.hid (HT.out _ hflt)
      rw [hft] at HTf
      have HTN := Lib.hid (fun v w h hs => implTeachingNumber (m : Int) v (toI ns) (u : Int) w h hs)
      rw [hfT] at HTN
      have hf32 : ftN m u ns < 32 := Nat.lt_of_lt_of_le hflt (pow_le_32 hm)
      have HSz := Lib.hid (fun w => (lawsSize (ftN m u ns) hf32 w).mono fun _ _ h => And.intro h.1 h.2.symm)
      have HPts := Lib.hid (lawsPoints (ftN m u ns) hf32)
      have HPP := Lib.hid (show ∀ x ∈ pts (ftN m u ns), _ from fun x hx => ft_less hcl hu hx)
      have hpl := pts_len' (ftN m u ns)
      have HQl := Lib.hid (toI_length (pts (ftN m u ns)))
      rw [hfB, hk] at HI HS
      generalize pts (ftN m u ns) = Q at *
      generalize ftN m u ns = t at *
      generalize pc t = z at *
      have hql := HQl.out
      clear hk hv hcl hflt hft hfB hfT hu
      refine (HI.out _ _ I1.out.rd (by first | exact HSW.out.next B.out | exact (show SW (World.drew _) from HSW.out.next B.out) | exact HSW.out.next (B.out.trans ((Below.refl _ _).drew)))).mono ?_
      rintro e w3 ⟨rfl, hb3⟩
      have hz3 := hb3.size
      replace X := Lib.hid (X.out.next hb3 (by omega))
      replace I1 := Lib.hid (I1.out.below hb3 (Nat.le_refl _))
      replace B := Lib.hid (B.out.trans (hb3.mono (by omega)))
      clear hb3
      have x0 := X.out.out.at0
      have x1 := X.out.out.at1
      go_wp2_with fail
      clear x0 x1
      refine (HS.out _ _ I1.out.rd).mono ?_
      rintro e w4 ⟨rfl, hb4⟩
      have hz4 := hb4.size
      replace X := Lib.hid (X.out.next hb4 (by omega))
      replace I1 := Lib.hid (I1.out.below hb4 (Nat.le_refl _))
      replace B := Lib.hid (B.out.trans (hb4.mono (by omega)))
      clear hb4
      have x0 := X.out.out.at0
      have x1 := X.out.out.at1
      go_wp2_with fail
      clear x0 x1
      refine (HPts.out _).mono ?_
      rintro e w5 ⟨a5, c5, rfl, hin5, hb5⟩
      rw [toI_length] at hin5 ⊢
      have hz5 := hb5.size
      replace X := Lib.hid (X.out.next hb5 (by omega))
      replace I1 := Lib.hid (I1.out.below hb5 (Nat.le_refl _))
      replace B := Lib.hid (B.out.trans (hb5.mono (by omega)))
      have IQ := Lib.hid (hin5.mono (Nat.zero_le _))
      clear hin5 hb5
      obtain ⟨ar, br, offr, capr, er, h1, h3, h5⟩ := IQ.out.rd
      simp only [Value.slice.injEq] at er
      obtain ⟨rfl, -, rfl⟩ := er
      rw [toI_length] at h1 h3 h5
      have H1 := Lib.hid h1
      have H5 := Lib.hid h5
      clear h1 h5 HI HS HPts
      have x0 := X.out.out.at0
      have x1 := X.out.out.at1
      go_wp2_with fail
      clear x0 x1
      go_loopw [10] (fun i wr => ∃ j : Nat, j ≤ Q.length ∧ i = .int .i64 j ∧ Below w5.heap.size w5 wr) (fun i _ => Q.length - (intOf i).toNat)
      case atStart => exact ⟨0, Nat.zero_le _, rfl, Below.refl _ _⟩
      case round =>
        obtain ⟨j, hj, rfl, hbe⟩ := hrel
        have HBE := Lib.hid hbe
        have hzr := hbe.size
        replace X := Lib.hid (X.out.next hbe (by omega))
        replace I1 := Lib.hid (I1.out.below hbe (Nat.le_refl _))
        replace IQ := Lib.hid (IQ.out.below hbe (Nat.le_refl _))
        replace B := Lib.hid (B.out.trans (hbe.mono (by omega)))
        by_cases hlt : j < Q.length
        · obtain ⟨rfl, hbl⟩ := H1.out (by omega)
          have hcx := (hbe.cell (p := ⟨br, offr + j, none⟩) hbl).trans (H5.out j hlt)
          rw [toI_getD] at hcx
          have hq := HPP.out _ (getD_of_lt hlt)
          clear hbe
          generalize Q.getD j 0 = x at *
          obtain ⟨hx5, hxt, hxm, hxa⟩ := hq
          have hpI : (2 : Int) ^ x = ((2 ^ x : Nat) : Int) := by simp
          have HPx := Lib.hid (fun w => lawsPower (x : Int) w (by omega) (by omega))
          rw [Int.toNat_natCast, hpI] at HPx
          have HTj := Lib.hid (HT.out (t - 2 ^ x) hxm)
          rw [hxa] at HTj
          obtain ⟨r, hr⟩ : ∃ r : Nat, r = t - 2 ^ x := ⟨_, rfl⟩
          obtain ⟨p, hp⟩ : ∃ p : Nat, p = 2 ^ x := ⟨_, rfl⟩
          rw [← hr] at HTj
          rw [← hp] at HPx hr hxt
          have hw1 : IntKind.i64.wrap ((t : Int) - (p : Int)) = (r : Int) := by rw [IntKind.wrap_i64]; omega
          have hw2 : (t : Int) - (p : Int) = (r : Int) := by omega
          have hw0 : IntKind.i64.wrap (r : Int) = (r : Int) := by rw [IntKind.wrap_i64]; omega
          have hjI : (j : Int) < (Q.length : Int) := by omega
          clear hp hpI hxa hxm hr HT HTf HTN HSz HPP hL hL2 hN0 hN1 hL34
          obtain ⟨w6, hwr⟩ : ∃ w6, w6 = wr := ⟨_, rfl⟩
          subst hwr
          have hbl2 : br < w6.heap.size := by omega
          have x0 := X.out.out.at0
          have x1 := X.out.out.at1
          go_wp2_with fail
          go_region_held3 (fun w' => w'.cell? ⟨o, 0, none⟩ = some (.int .i64 (m : Int)) ∧ w'.cell? ⟨o, 1, none⟩ = some (.slice a1 L c1) ∧ w'.cell? ⟨br, offr + j, none⟩ = some (.int .i64 (x : Int))) (first | exact ⟨z0, z1, z2⟩ | exact ⟨x0, x1, hcx⟩ | go_keep) (first
            | (go_at_call 22; refine (HPx.out _).mono ?_; rintro e w99 ⟨rfl, hw99⟩; subst w99)
            | (go_at_call 21; (try simp only [hw2, hw0]); refine (HTj.out _ _ (by first | exact I1.out.rd | exact I1.out.rd.below (k := w6.heap.size) ((Below.refl _ _).drew) (Nat.le_refl _)) (by first | exact HSW.out.next B.out | exact (show SW (World.drew _) from HSW.out.next B.out) | exact HSW.out.next (B.out.trans ((Below.refl _ _).drew)))).mono ?_; rintro e w7 ⟨rfl, hbd⟩; have hb7 : Below w6.heap.size w6 w7 := (by first | exact hbd | exact ⟨hbd.os, hbd.tape, hbd.output, hbd.size, hbd.block⟩); clear hbd; have z2 := (hb7.cell (p := ⟨br, offr + j, none⟩) hbl2).trans hcx; have hz7 := hb7.size; replace X := Lib.hid (X.out.next hb7 (by omega)); replace I1 := Lib.hid (I1.out.below hb7 (Nat.le_refl _)); replace IQ := Lib.hid (IQ.out.below hb7 (Nat.le_refl _)); replace B := Lib.hid (B.out.trans (hb7.mono (by omega))); replace HBE := Lib.hid (HBE.out.trans (hb7.mono (by omega))); clear hb7; have z0 := X.out.out.at0; have z1 := X.out.out.at1))
          all_goals
            go_wp2_with fail
            go_roundw
            case rel => exact ⟨j + 1, by omega, by go_num, HBE.out⟩
            case measure => simp [intOf]; omega
        · clear hbe
          obtain rfl : j = Q.length := by omega
          clear HPP HT
          obtain ⟨w6, hwr⟩ : ∃ w6, w6 = wr := ⟨_, rfl⟩
          subst hwr
          have x0 := X.out.out.at0
          have x1 := X.out.out.at1
          go_wp2_with fail
          go_region_held3 (fun w' => w'.cell? ⟨o, 0, none⟩ = some (.int .i64 (m : Int)) ∧ w'.cell? ⟨o, 1, none⟩ = some (.slice a1 L c1)) (first | exact ⟨x0_8, x1_8⟩ | exact ⟨x0_7, x1_7⟩ | exact ⟨x0, x1⟩ | go_keep) (first
            | (go_at_call 21; refine (HTf.out _ _ (by first | exact I1.out.rd | exact I1.out.rd.below (k := w6.heap.size) ((Below.refl _ _).drew) (Nat.le_refl _)) (by first | exact HSW.out.next B.out | exact (show SW (World.drew _) from HSW.out.next B.out) | exact HSW.out.next (B.out.trans ((Below.refl _ _).drew)))).mono ?_; rintro e w7 ⟨rfl, hbd⟩; have hb7 : Below w6.heap.size w6 w7 := (by first | exact hbd | exact ⟨hbd.os, hbd.tape, hbd.output, hbd.size, hbd.block⟩); clear hbd; have hz7 := hb7.size; replace X := Lib.hid (X.out.next hb7 (by omega)); replace I1 := Lib.hid (I1.out.below hb7 (Nat.le_refl _)); replace IQ := Lib.hid (IQ.out.below hb7 (Nat.le_refl _)); replace B := Lib.hid (B.out.trans (hb7.mono (by omega))); clear hb7; have x0_7 := X.out.out.at0; have x1_7 := X.out.out.at1)
            | (go_at_call 23; refine (HSz.out _).mono ?_; rintro e w99 ⟨rfl, hw99⟩; subst w99)
            | (go_at_call 15; refine (HTN.out _ _ (by first | exact I1.out.rd | exact I1.out.rd.below (k := w7.heap.size) ((Below.refl _ _).drew) (Nat.le_refl _)) (by first | exact HSW.out.next B.out | exact (show SW (World.drew _) from HSW.out.next B.out) | exact HSW.out.next (B.out.trans ((Below.refl _ _).drew)))).mono ?_; rintro e w8 ⟨rfl, hbd⟩; have hb8 : Below w7.heap.size w7 w8 := (by first | exact hbd | exact ⟨hbd.os, hbd.tape, hbd.output, hbd.size, hbd.block⟩); clear hbd; have hz8 := hb8.size; replace X := Lib.hid (X.out.next hb8 (by omega)); replace I1 := Lib.hid (I1.out.below hb8 (Nat.le_refl _)); replace IQ := Lib.hid (IQ.out.below hb8 (Nat.le_refl _)); replace B := Lib.hid (B.out.trans (hb8.mono (by omega))); clear hb8; have x0_8 := X.out.out.at0; have x1_8 := X.out.out.at1))
          all_goals
            go_wp2_with fail
            go_ret
            exact ⟨rfl, B.out⟩
    · rw [Bool.not_eq_true] at hk
      have hfB : ftB N zs s = 0 := by rw [ftB, if_neg (by rw [hk]; decide)]
      rw [hk, hfB] at HI HS
      clear hk hfB
      refine (HI.out _ _ I1.out.rd (by first | exact HSW.out.next B.out | exact (show SW (World.drew _) from HSW.out.next B.out) | exact HSW.out.next (B.out.trans ((Below.refl _ _).drew)))).mono ?_
      rintro e w3 ⟨rfl, hb3⟩
      have hz3 := hb3.size
      replace X := Lib.hid (X.out.next hb3 (by omega))
      replace I1 := Lib.hid (I1.out.below hb3 (Nat.le_refl _))
      replace B := Lib.hid (B.out.trans (hb3.mono (by omega)))
      clear hb3
      have x0 := X.out.out.at0
      have x1 := X.out.out.at1
      go_wp2_with fail
      clear x0 x1
      refine (HS.out _ _ I1.out.rd).mono ?_
      rintro e w4 ⟨rfl, hb4⟩
      have hz4 := hb4.size
      replace X := Lib.hid (X.out.next hb4 (by omega))
      replace I1 := Lib.hid (I1.out.below hb4 (Nat.le_refl _))
      replace B := Lib.hid (B.out.trans (hb4.mono (by omega)))
      clear hb4
      have x0 := X.out.out.at0
      have x1 := X.out.out.at1
      go_wp2_with fail
      clear x0 x1
      go_ret
      exact ⟨rfl, B.out⟩
  · go_enter Tryd.func4, Tryd.ntmps4
    go_wp2_with fail
    go_ret
    exact ⟨rfl, Below.refl _ _⟩

end Go.Proofs.YthjbkjkfibiceaaDoor
