/- IsRepresentation, the program's: holds. Conditions: Sets and the plan are slices of ints. -/
import Derived.Test.YthmipnflbiclbaaDoorRep
namespace Go.Proofs.YthmipnflbiclbaaDoor
open Go.RowKit

set_option maxHeartbeats 3200000 in
set_option maxRecDepth 100000 in
theorem implHolds (n : Int) (v u : Value) (zs ps : List Int) (w : World) (h : Rd w v zs) (hu : Rd w u ps) :
    Calls Tryd.prog 81 #[.agg #[.int .i64 n, v, u]] w fun e w' => e = .returned (.bool (repB n zs ps)) ∧ Below w.heap.size w w' := by
  have H := Lib.hid h
  have HU := Lib.hid hu
  obtain ⟨a, b, off, cap, rfl, _, _, _⟩ := h
  obtain ⟨a2, b2, off2, cap2, rfl, p1, p3, p5⟩ := hu
  have P1 := Lib.hid p1
  have P5 := Lib.hid p5
  clear p1 p5
  by_cases hv : vldB n zs = true
  · obtain ⟨m, ns, rfl, rfl, hc⟩ := vldB_cls hv
    have hm := hc.pts
    have HR := Lib.hid (repB_in (ps := ps) hv)
    have HV := Lib.hid (fun w h => implValid (m : Int) (.slice a ns.length cap) (toI ns) w h)
    have HS := Lib.hid (fun s w h => implIsSetOf (m : Int) (.slice a ns.length cap) (toI ns) s w h)
    have HIN := Lib.hid (fun s => show inB (m : Int) (toI ns) s = setB m s by rw [inB, hv, Bool.true_and, Int.toNat_natCast])
    have HC := Lib.hid (fun i w h hu hi hp hq => implClashes (m : Int) (.slice a ns.length cap) (.slice a2 ps.length cap2) ns (ps.map Int.toNat) ps i w h hu hc.lt32 hi hp hq)
    rw [hv] at HV
    rw [toI_length] at H ⊢
    clear hv hc
    have RB := Lib.hid (Rpb.new m (.slice a ns.length cap) (.slice a2 ps.length cap2) w)
    have HZ := Lib.hid (show (w.alloc (.cells #[.int .i64 m, .slice a ns.length cap, .slice a2 ps.length cap2] 95)).heap.size = w.heap.size + 1 by simp)
    have B0 := Lib.hid ((Below.refl w.heap.size w).alloc (Nat.le_refl _) (.cells #[.int .i64 m, .slice a ns.length cap, .slice a2 ps.length cap2] 95))
    go_enter Tryd.func81, Tryd.ntmps81
    have c0 := RB.out.at0
    have c1 := RB.out.at1
    go_wp2_with fail
    generalize (w.alloc (.cells #[.int .i64 m, .slice a ns.length cap, .slice a2 ps.length cap2] 95)) = w1 at *
    have hz1 := HZ.out
    clear HZ c0 c1
    refine (HV.out _ (H.out.below B0.out (Nat.le_refl _))).mono ?_
    rintro e w2 ⟨rfl, hb2⟩
    have hz2 := hb2.size
    have R2 := Lib.hid (RB.out.next hb2 (by omega))
    have B2 := Lib.hid (B0.out.trans (hb2.mono (by omega)))
    clear RB B0 hb2
    have c0 := R2.out.at0
    have c1 := R2.out.at1
    have c2 := R2.out.at2
    by_cases hl : ps.length = ns.length
    · have HT := Lib.hid (show repB (m : Int) (toI ns) ps = plTo m ns ps ns.length by rw [HR.out, decide_eq_true hl, Bool.true_and, hl])
      rw [hl] at HU HC R2 c2 P1 P5 p3
      clear HR
      go_wp2_with fail
      clear c0 c1 c2
      go_loopw [22] (fun t wr => ∃ k : Nat, k ≤ ns.length ∧ t = .int .i64 k ∧ plTo m ns ps k = true ∧ Below w2.heap.size w2 wr) (fun t _ => ns.length - (intOf t).toNat)
      case atStart => exact ⟨0, Nat.zero_le _, rfl, rfl, Below.refl _ _⟩
      case round =>
        obtain ⟨k, hk, rfl, hpl, hbe⟩ := hrel
        have HBE := Lib.hid hbe
        have hzr := hbe.size
        have R3 := Lib.hid (R2.out.next hbe (by omega))
        have B3 := Lib.hid (B2.out.trans (hbe.mono (by omega)))
        clear hbe
        by_cases hlt : k < ns.length
        · obtain ⟨rfl, pbl⟩ := P1.out (by omega)
          have hc := (B3.out.cell (p := ⟨b2, off2 + k, none⟩) pbl).trans (P5.out k hlt)
          have HQ := Lib.hid (plTo_sets (k := k) hm hpl)
          have hs := plTo_succ m ns ps k
          rw [hpl, Bool.true_and, decide_eq_true hlt, Bool.true_and] at hs
          have hstop := fun (h : plTo m ns ps (k + 1) = false) => plTo_stop h (show k + 1 ≤ ns.length by omega)
          have HSk := Lib.hid (HS.out (ps.getD k 0))
          rw [HIN.out] at HSk
          have HCk := Lib.hid (fun w h hu hq => HC.out k w h hu (by omega) hlt hq)
          have c0 := R3.out.at0
          have c1 := R3.out.at1
          have c2 := R3.out.at2
          by_cases hsk : setB m (ps.getD k 0) = true
          · obtain ⟨p, hp, _, hp32⟩ := setB_nat hm hsk
            have hg := ps_getD hp
            rw [hsk] at HSk
            rw [hsk, Bool.true_and] at hs
            have hq9 : ∀ j, j ≤ k → ps.getD j 0 = (((ps.map Int.toNat).getD j 0 : Nat) : Int) ∧ (ps.map Int.toNat).getD j 0 < 32 := fun j hj => by
              by_cases e : j = k
              · subst e
                rw [hg]
                exact ⟨hp, hp32⟩
              · obtain ⟨q, q32, hq, _⟩ := HQ.out j (by omega)
                rw [ps_getD hq]
                exact ⟨hq, q32⟩
            rw [hp] at hc HSk
            have HCl := Lib.hid (fun w h hu => HCk.out w h hu hq9)
            rw [hg] at HCl
            generalize clTo ns (ps.map Int.toNat) k k = cl at *
            clear HS HIN HC HCk HQ hq9 hg hp hsk HV
            go_wp2_with fail
            refine (HSk.out _ (H.out.below B3.out (Nat.le_refl _))).mono ?_
            rintro e w4 ⟨rfl, hb4⟩
            have hz4 := hb4.size
            have R4 := Lib.hid (R3.out.next hb4 (by omega))
            have B4 := Lib.hid (B3.out.trans (hb4.mono (by omega)))
            have E4 := Lib.hid (HBE.out.trans (hb4.mono (by omega)))
            clear hb4 c0 c1 c2
            have c0 := R4.out.at0
            have c1 := R4.out.at1
            have c2 := R4.out.at2
            go_wp2_with fail
            refine (HCl.out _ (H.out.below B4.out (Nat.le_refl _)) (HU.out.below B4.out (Nat.le_refl _))).mono ?_
            rintro e w5 ⟨rfl, hb5⟩
            have B5 := Lib.hid (B4.out.trans (hb5.mono (by omega)))
            have E5 := Lib.hid (E4.out.trans (hb5.mono (by omega)))
            clear hb5 c0 c1 c2
            cases cl with
            | true =>
              go_wp2_with fail
              go_ret
              exact ⟨ret_bool (HT.out.trans (hstop hs)).symm, B5.out⟩
            | false =>
              go_wp2_with fail
              go_roundw
              case rel => exact ⟨k + 1, by omega, by go_num, hs, E5.out⟩
              case measure => simp [intOf]; omega
          · rw [Bool.not_eq_true] at hsk
            rw [hsk] at HSk
            rw [hsk, Bool.false_and] at hs
            generalize ps.getD k 0 = p at *
            clear HS HIN HC HCk HQ HV
            go_wp2_with fail
            refine (HSk.out _ (H.out.below B3.out (Nat.le_refl _))).mono ?_
            rintro e w4 ⟨rfl, hb4⟩
            have B4 := Lib.hid (B3.out.trans (hb4.mono (by omega)))
            clear hb4 c0 c1 c2
            go_wp2_with fail
            go_ret
            exact ⟨ret_bool (HT.out.trans (hstop hs)).symm, B4.out⟩
        · obtain rfl : k = ns.length := by omega
          go_wp2_with fail
          go_ret
          exact ⟨ret_bool (HT.out.trans hpl).symm, B3.out⟩
    · have HT := Lib.hid (show repB (m : Int) (toI ns) ps = false by rw [HR.out, decide_eq_false hl, Bool.false_and])
      have hlI : ¬ (ps.length : Int) = (ns.length : Int) := by omega
      go_wp2_with fail
      go_ret
      exact ⟨ret_bool HT.out.symm, B2.out⟩
  · rw [Bool.not_eq_true] at hv
    have HT := Lib.hid (repB_bad (ps := ps) hv)
    have HV := Lib.hid (fun w h => implValid n (.slice a zs.length cap) zs w h)
    rw [hv] at HV
    clear hv
    have RB := Lib.hid (Rpb.new n (.slice a zs.length cap) (.slice a2 ps.length cap2) w)
    have HZ := Lib.hid (show (w.alloc (.cells #[.int .i64 n, .slice a zs.length cap, .slice a2 ps.length cap2] 95)).heap.size = w.heap.size + 1 by simp)
    have B0 := Lib.hid ((Below.refl w.heap.size w).alloc (Nat.le_refl _) (.cells #[.int .i64 n, .slice a zs.length cap, .slice a2 ps.length cap2] 95))
    go_enter Tryd.func81, Tryd.ntmps81
    have c0 := RB.out.at0
    have c1 := RB.out.at1
    go_wp2_with fail
    generalize (w.alloc (.cells #[.int .i64 n, .slice a zs.length cap, .slice a2 ps.length cap2] 95)) = w1 at *
    have hz1 := HZ.out
    clear HZ c0 c1
    refine (HV.out _ (H.out.below B0.out (Nat.le_refl _))).mono ?_
    rintro e w2 ⟨rfl, hb2⟩
    have B2 := Lib.hid (B0.out.trans (hb2.mono (by omega)))
    clear hb2
    go_wp2_with fail
    go_ret
    exact ⟨ret_bool HT.out.symm, B2.out⟩

set_option maxHeartbeats 800000 in
set_option maxRecDepth 100000 in
theorem implIsRepresentation (n : Int) (v u : Value) (zs ps : List Int) (w : World) (h : Rd w v zs) (hu : Rd w u ps) :
    Calls Tryd.prog 31 #[.agg #[.int .i64 n, v], u] w fun e w' => e = .returned (.bool (repB n zs ps)) ∧ Below w.heap.size w w' := by
  have H := Lib.hid h
  have HU := Lib.hid hu
  obtain ⟨a, b, off, cap, rfl, _, _, _⟩ := h
  obtain ⟨a2, b2, off2, cap2, rfl, _, _, _⟩ := hu
  have B0 := Lib.hid (Box.made n (.slice a zs.length cap) w 25)
  have c0 := B0.out.at0
  have c1 := B0.out.at1
  go_enter Tryd.func31, Tryd.ntmps31
  go_wp2_with fail
  refine (implHolds n _ _ zs ps _ (H.out.below B0.out.below (Nat.le_refl _)) (HU.out.below B0.out.below (Nat.le_refl _))).mono ?_
  rintro e w1 ⟨rfl, hb⟩
  have B1 := Lib.hid (B0.out.next (by simp) hb)
  clear hb c0 c1
  go_wp2_with fail
  go_ret
  exact ⟨rfl, B1.out.below⟩

end Go.Proofs.YthmipnflbiclbaaDoor
