/- IsRepresentation, the model's. Conditions: Sets and the plan are slices of ints. -/
import Derived.Deep.RegionHeld3
import Derived.Test.YtlnnoeicboamgaaDoorRepM
import Derived.Test.YtlnnoeicboamgaaDoorZA
import Derived.Test.YtlnnoeicboamgaaDoorZB
import Derived.Test.YtlnnoeicboamgaaDoorZH
namespace Go.Proofs.YtlnnoeicboamgaaDoor
open Go.RowKit

theorem and_or_nil {x a b : Nat} : x &&& (a ||| b) = 0 ↔ x &&& a = 0 ∧ x &&& b = 0 := by
  rw [Nat.and_or_distrib_left, Nat.or_eq_zero_iff]

set_option maxHeartbeats 1600000 in
set_option maxRecDepth 100000 in
theorem specClash (a ra b rb : Nat) (ha : a < 32) (hra : ra < 32) (hb : b < 32) (hrb : rb < 32) (w : World) :
    Calls Tryd.prog 71 #[.int .i64 a, .int .i64 ra, .int .i64 b, .int .i64 rb] w fun e w' => e = .returned (.bool (decide ((a ^^^ b) &&& (ra ||| rb) = 0))) ∧ w' = w := by
  have HF := Lib.hid (fun w => specFlip a b (by omega) (by omega) w)
  have hd : a ^^^ b < 32 := Nat.xor_lt_two_pow (n := 5) ha hb
  have HN := Lib.hid (and_or_nil (x := a ^^^ b) (a := ra) (b := rb))
  generalize a ^^^ b = d at *
  have HM1 := Lib.hid (fun w => specMeet d ra (by omega) (by omega) w)
  have HM2 := Lib.hid (fun w => specMeet d rb (by omega) (by omega) w)
  generalize d &&& (ra ||| rb) = z at *
  generalize d &&& ra = z1 at *
  generalize d &&& rb = z2 at *
  go_enter Tryd.func71, Tryd.ntmps71
  go_wp2_with fail
  refine (HF.out _).mono ?_
  rintro e w1 ⟨rfl, hw1⟩
  subst w1
  go_wp2_with fail
  refine (HM1.out _).mono ?_
  rintro e w1 ⟨rfl, hw1⟩
  subst w1
  by_cases h1 : z1 = 0
  · have h1I : (z1 : Int) = 0 := by omega
    go_wp2_with fail
    refine (HF.out _).mono ?_
    rintro e w1 ⟨rfl, hw1⟩
    subst w1
    go_wp2_with fail
    refine (HM2.out _).mono ?_
    rintro e w1 ⟨rfl, hw1⟩
    subst w1
    by_cases h2 : z2 = 0
    · have h2I : (z2 : Int) = 0 := by omega
      have hz : decide (z = 0) = true := decide_eq_true (HN.out.2 ⟨h1, h2⟩)
      go_wp2_with fail
      go_ret
      exact ⟨ret_bool hz.symm, rfl⟩
    · have h2I : ¬ (z2 : Int) = 0 := by omega
      have hz : decide (z = 0) = false := decide_eq_false (fun h => h2 (HN.out.1 h).2)
      have h2b : ((z2 : Int) == 0) = false := by rw [beq_eq_false_iff_ne]; exact h2I
      go_wp2_with fail
      go_ret
      exact ⟨ret_bool (by first | exact hz.symm | rw [hz, h2b]), rfl⟩
  · have h1I : ¬ (z1 : Int) = 0 := by omega
    have hz : decide (z = 0) = false := decide_eq_false (fun h => h1 (HN.out.1 h).1)
    go_wp2_with fail
    go_ret
    exact ⟨ret_bool hz.symm, rfl⟩

set_option maxHeartbeats 12800000 in
set_option maxRecDepth 100000 in
theorem specValidPlan (m : Nat) (hm : m ≤ 5) (v u : Value) (ns : List Nat) (ps : List Int) (w : World) (h : Rd w v (toI ns)) (hu : Rd w u ps) (h32 : ∀ t ∈ ns, t < 32) :
    Calls Tryd.prog 38 #[.agg #[.int .i64 m, v], u] w fun e w' => e = .returned (.bool (decide (ps.length = ns.length) && plTo m ns ps ps.length)) ∧ Below w.heap.size w w' := by
  obtain ⟨a, b, off, cap, rfl, h1, h3, h5⟩ := h
  obtain ⟨a2, b2, off2, cap2, rfl, p1, p3, p5⟩ := hu
  rw [toI_length] at h1 h3 h5 ⊢
  have H1 := Lib.hid h1
  have H5 := Lib.hid h5
  have P1 := Lib.hid p1
  have P5 := Lib.hid p5
  have H32 := Lib.hid h32
  clear h1 h5 p1 p5 h32
  have HVS := Lib.hid (fun s w => specValidSet m hm (.slice a ns.length cap) s w)
  have XB := Lib.hid (Bx.new m (.slice a ns.length cap) w)
  have HZ := Lib.hid (show (w.alloc (Obj.cells #[.int .i64 (m : Int), .slice a ns.length cap] 30)).heap.size = w.heap.size + 1 by simp)
  have B0 := Lib.hid ((Below.refl w.heap.size w).alloc (Nat.le_refl _) (Obj.cells #[.int .i64 (m : Int), .slice a ns.length cap] 30))
  go_enter Tryd.func38, Tryd.ntmps38
  go_wp2_with fail
  generalize (w.alloc (Obj.cells #[.int .i64 (m : Int), .slice a ns.length cap] 30)) = w1 at *
  have hz1 := HZ.out
  clear HZ
  go_loopw [5] (fun t wr => ∃ k : Nat, k ≤ ps.length ∧ t = .int .i64 k ∧ plTo m ns ps k = true ∧ Below w1.heap.size w1 wr) (fun t _ => ps.length - (intOf t).toNat)
  case atStart => exact ⟨0, Nat.zero_le _, rfl, rfl, Below.refl _ _⟩
  case round =>
    obtain ⟨k, hk, rfl, hpl, hbe⟩ := hrel
    have HBE := Lib.hid hbe
    have hzr := hbe.size
    have X2 := Lib.hid (XB.out.next hbe (by omega))
    have B2 := Lib.hid (B0.out.trans (hbe.mono (by omega)))
    clear hbe
    by_cases hlt : k < ps.length
    · have hltI : (k : Int) < (ps.length : Int) := by omega
      obtain ⟨rfl, pbl⟩ := P1.out (by omega)
      have hc := (B2.out.cell (p := ⟨b2, off2 + k, none⟩) (by show b2 < _; omega)).trans (P5.out k hlt)
      have HQ := Lib.hid (plTo_sets (k := k) hm hpl)
      have hs := plTo_succ m ns ps k
      rw [hpl, Bool.true_and] at hs
      have hstop := fun (h : plTo m ns ps (k + 1) = false) => plTo_stop h (show k + 1 ≤ ps.length by omega)
      have HSk := Lib.hid (HVS.out (ps.getD k 0))
      obtain ⟨w3, hw3⟩ : ∃ w3, w3 = wr := ⟨_, rfl⟩
      subst hw3
      have HSET := Lib.hid (fun (h : setB m (ps.getD k 0) = true) => setB_nat hm h)
      have HPG := Lib.hid (fun (p : Nat) (h : ps.getD k 0 = (p : Int)) => ps_getD h)
      generalize ps.getD k 0 = z at *
      generalize hsz : setB m z = sz at *
      have c0 := X2.out.out.at0
      have c1 := X2.out.out.at1
      go_wp2_with fail
      go_region_held3 (fun w' => w'.cell? ⟨w.heap.size, 0, none⟩ = some (.int .i64 (m : Int)) ∧ w'.cell? ⟨w.heap.size, 1, none⟩ = some (.slice a ns.length cap) ∧ w'.cell? ⟨b2, off2 + k, none⟩ = some (.int .i64 z)) (first | exact ⟨z0, z1, z2⟩ | exact ⟨c0, c1, hc⟩ | go_keep) (first
        | (go_at_call 70; refine (HSk.out _).mono ?_; rintro e w5 ⟨rfl, hbd⟩; have hb5 : Below w3.heap.size w3 w5 := (by first | exact hbd | exact ⟨hbd.os, hbd.tape, hbd.output, hbd.size, hbd.block⟩); clear hbd; have hz5 := hb5.size; have X5 := Lib.hid (X2.out.next hb5 (by omega)); have z0 := X5.out.out.at0; have z1 := X5.out.out.at1; have z2 := (hb5.cell (p := ⟨b2, off2 + k, none⟩) (by show b2 < _; omega)).trans hc; have B5 := Lib.hid (B2.out.trans (hb5.mono (by omega))); have E5 := Lib.hid (HBE.out.trans (hb5.mono (by omega))); clear hb5))
      clear c0 c1 hc
      cases sz with
      | false =>
        rw [Bool.false_and] at hs
        have hr := hstop hs
        go_wp2_with fail
        go_ret
        exact ⟨ret_bool (by first | rfl | rw [hr, Bool.and_false]), B5.out⟩
      | true =>
        rw [Bool.true_and] at hs
        obtain ⟨p, hp, _, hp32⟩ := HSET.out rfl
        have hg := HPG.out p hp
        subst hp
        by_cases hkn : k < ns.length
        · have hknI : (k : Int) < (ns.length : Int) := by omega
          rw [decide_eq_true hkn, Bool.true_and] at hs
          obtain ⟨rfl, hbl⟩ := H1.out (by omega)
          have hx32 := H32.out _ (getD_of_lt hkn)
          have hck := H5.out k hkn
          rw [toI_getD] at hck
          have hpk := z2
          clear z0 z1 z2 HVS HSk
          go_wp2_with fail
          go_loopw [6] (fun t wq => ∃ j : Nat, j ≤ k ∧ t = .int .i64 j ∧ clTo ns (ps.map Int.toNat) k j = false ∧ Below w5.heap.size w5 wq) (fun t _ => k - (intOf t).toNat)
          case atStart => exact ⟨0, Nat.zero_le _, rfl, rfl, Below.refl _ _⟩
          case round =>
            obtain ⟨j, hj, rfl, hcl, hbf⟩ := hrel
            have HBF := Lib.hid hbf
            have hzq := hbf.size
            have X6 := Lib.hid (X5.out.next hbf (by omega))
            have B6 := Lib.hid (B5.out.trans (hbf.mono (by omega)))
            have E6 := Lib.hid (E5.out.trans (hbf.mono (by omega)))
            have hpk6 := (hbf.cell (p := ⟨b2, off2 + k, none⟩) (by show b2 < _; omega)).trans hpk
            have hck6 := (B6.out.cell (p := ⟨b, off + k, none⟩) (by show b < _; omega)).trans hck
            clear hbf
            obtain ⟨w6, hw6⟩ : ∃ w6, w6 = wr := ⟨_, rfl⟩
            subst hw6
            have c0 := X6.out.out.at0
            have c1 := X6.out.out.at1
            by_cases hjk : j < k
            · have hjkI : (j : Int) < (k : Int) := by omega
              have hjps : (j : Int) < (ps.length : Int) := by omega
              have hjns : (j : Int) < (ns.length : Int) := by omega
              obtain ⟨q, hq32, hq, _⟩ := HQ.out j hjk
              have hqg := ps_getD hq
              have hpj := (B6.out.cell (p := ⟨b2, off2 + j, none⟩) (by show b2 < _; omega)).trans (P5.out j (by omega))
              rw [hq] at hpj
              have hcj := (B6.out.cell (p := ⟨b, off + j, none⟩) (by show b < _; omega)).trans (H5.out j (by omega))
              rw [toI_getD] at hcj
              have hy32 := H32.out _ (getD_of_lt (show j < ns.length by omega))
              have hs2 := clTo_succ ns (ps.map Int.toNat) k j
              rw [hcl, Bool.false_or, clsh, hg, hqg] at hs2
              have hit := clTo_hit (ns := ns) (ps := ps.map Int.toNat) (i := k) hjk
              rw [clsh, hg, hqg] at hit
              have HCC := Lib.hid (fun w => specClash (ns.getD k 0) p (ns.getD j 0) q hx32 hp32 hy32 hq32 w)
              generalize ns.getD k 0 = x at *
              generalize ns.getD j 0 = y at *
              generalize decide ((x ^^^ y) &&& (p ||| q) = 0) = cc at *
              clear HQ hq hqg hcl
              go_wp2_with fail
              go_region_held3 (fun w' => w'.cell? ⟨w.heap.size, 0, none⟩ = some (.int .i64 (m : Int)) ∧ w'.cell? ⟨w.heap.size, 1, none⟩ = some (.slice (some ⟨b, off, none⟩) ns.length cap) ∧ w'.cell? ⟨b2, off2 + k, none⟩ = some (.int .i64 (p : Int)) ∧ w'.cell? ⟨b2, off2 + j, none⟩ = some (.int .i64 (q : Int)) ∧ w'.cell? ⟨b, off + k, none⟩ = some (.int .i64 (x : Int)) ∧ w'.cell? ⟨b, off + j, none⟩ = some (.int .i64 (y : Int))) (first | exact ⟨c0, c1, hpk6, hpj, hck6, hcj⟩ | go_keep) (first
                | (go_at_call 71; refine (HCC.out _).mono ?_; rintro e w8 ⟨rfl, hw8⟩; subst w8))
              cases cc with
              | true =>
                have hr := hit rfl
                rw [hr] at hs
                have hr2 := hstop hs
                go_wp2_with fail
                go_ret
                exact ⟨ret_bool (by first | rfl | rw [hr2, Bool.and_false]), by first | exact B6.out | exact B6.out.drew⟩
              | false =>
                go_wp2_with fail
                go_roundw
                case rel => exact ⟨j + 1, by omega, by go_num, hs2, by first | exact HBF.out | exact HBF.out.drew⟩
                case measure => simp [intOf]; omega
            · obtain rfl : j = k := by omega
              rw [hcl] at hs
              go_wp2_with fail
              go_roundw
              case rel => exact ⟨j + 1, by omega, by go_num, hs, E6.out⟩
              case measure => simp [intOf]; omega
        · have hknI : ¬ (k : Int) < (ns.length : Int) := by omega
          rw [decide_eq_false hkn, Bool.false_and] at hs
          clear z2 HVS HSk
          go_wp2_with fail
          go_loopw [6] (fun t wq => t = .int .i64 0 ∧ wq = w5) (fun t _ => 0)
          case atStart => exact ⟨rfl, rfl⟩
          case round =>
            obtain ⟨rfl, rfl⟩ := hrel
            by_cases hk0 : 0 < k
            · have hk0I : (0 : Int) < (k : Int) := by omega
              go_wp2_with fail
              go_roundw
              case rel => exact ⟨k + 1, by omega, by go_num, hs, E5.out⟩
              case measure => simp [intOf]; omega
            · have hk0I : ¬ (0 : Int) < (k : Int) := by omega
              go_wp2_with fail
              go_roundw
              case rel => exact ⟨k + 1, by omega, by go_num, hs, E5.out⟩
              case measure => simp [intOf]; omega
    · obtain rfl : k = ps.length := by omega
      have c1 := X2.out.out.at1
      by_cases hl : ps.length = ns.length
      · have hlI : (ps.length : Int) = (ns.length : Int) := by omega
        go_wp2_with fail
        go_ret
        exact ⟨ret_bool (by first | (rw [hpl, Bool.and_true]; exact (decide_eq_true hl).symm) | simp [hpl, hl]), B2.out⟩
      · have hlI : ¬ (ps.length : Int) = (ns.length : Int) := by omega
        go_wp2_with fail
        go_ret
        exact ⟨ret_bool (by first | (rw [hpl, Bool.and_true]; exact (decide_eq_false hl).symm) | simpa [hpl, hl] using hlI), B2.out⟩

set_option maxHeartbeats 1600000 in
set_option maxRecDepth 100000 in
theorem specIsRepresentation (n : Int) (v u : Value) (zs ps : List Int) (w : World) (h : Rd w v zs) (hu : Rd w u ps) :
    Calls Tryd.prog 25 #[.agg #[.int .i64 n, v], u] w fun e w' => e = .returned (.bool (repB n zs ps)) ∧ Below w.heap.size w w' := by
  have H := Lib.hid h
  have HU := Lib.hid hu
  obtain ⟨a, b, off, cap, rfl, _, _, _⟩ := h
  obtain ⟨a2, b2, off2, cap2, rfl, _, _, _⟩ := hu
  have B0 := Lib.hid (Box.made n (.slice a zs.length cap) w 30)
  by_cases hv : vldB n zs = true
  · obtain ⟨m, ns, rfl, rfl, hc⟩ := vldB_cls hv
    have HR := Lib.hid (repB_in (ps := ps) hv)
    have HV := Lib.hid (fun w h => specValid (m : Int) (.slice a ns.length cap) (toI ns) w h)
    have HP := Lib.hid (fun w h hu => specValidPlan m hc.pts (.slice a ns.length cap) (.slice a2 ps.length cap2) ns ps w h hu hc.lt32)
    rw [hv] at HV
    rw [toI_length] at H B0 ⊢
    clear hv hc
    go_enter Tryd.func25, Tryd.ntmps25
    have c0 := B0.out.at0
    have c1 := B0.out.at1
    go_wp2_with fail
    refine (HV.out _ (H.out.below B0.out.below (Nat.le_refl _))).mono ?_
    rintro e w1 ⟨rfl, hb⟩
    have hs1 : w.heap.size < w1.heap.size := by have := hb.size; simp at this; omega
    have B1 := Lib.hid (B0.out.next (by simp) hb)
    clear hb c0 c1 B0
    have c0 := B1.out.at0
    have c1 := B1.out.at1
    go_wp2_with fail
    refine (HP.out _ (H.out.below B1.out.below (Nat.le_refl _)) (HU.out.below B1.out.below (Nat.le_refl _))).mono ?_
    rintro e w2 ⟨rfl, hb2⟩
    have B2 := Lib.hid (B1.out.next hs1 hb2)
    clear hb2 c0 c1
    rw [← HR.out]
    go_wp2_with fail
    go_ret
    exact ⟨rfl, B2.out.below⟩
  · rw [Bool.not_eq_true] at hv
    have HT := Lib.hid (repB_bad (ps := ps) hv)
    have HV := Lib.hid (fun w h => specValid n (.slice a zs.length cap) zs w h)
    rw [hv] at HV
    clear hv
    go_enter Tryd.func25, Tryd.ntmps25
    have c0 := B0.out.at0
    have c1 := B0.out.at1
    go_wp2_with fail
    refine (HV.out _ (H.out.below B0.out.below (Nat.le_refl _))).mono ?_
    rintro e w1 ⟨rfl, hb⟩
    have B1 := Lib.hid (B0.out.next (by simp) hb)
    clear hb c0 c1
    go_wp2_with fail
    go_ret
    exact ⟨ret_bool HT.out.symm, B1.out.below⟩

end Go.Proofs.YtlnnoeicboamgaaDoor
