/- EquivalenceDepth, the model's: the whole. Conditions: Sets is a slice of ints. -/
import Derived.Test.YthmipnflbiclbaaDoorGdS
namespace Go.Proofs.YthmipnflbiclbaaDoor
open Go.RowKit

set_option maxRecDepth 100000 in
set_option maxHeartbeats 3200000 in
theorem specEquivalenceDepth (n : Int) (v : Value) (zs : List Int) (b : Bool) (w : World) (h : Rd w v zs) :
    Calls Tryd.prog 13 #[.agg #[.int .i64 n, v], .bool b] w fun e w' => e = .returned (.int .i64 (eqdB n zs b)) ∧ Below w.heap.size w w' := by
  have HV := Lib.hid (fun w0 h0 => specValid n v zs w0 h0)
  have HIR := Lib.hid (fun a b c w => specInRange a b c w)
  have H := Lib.hid h
  obtain ⟨a, bl, off, cap, rfl, _, h3, _⟩ := h
  by_cases hv : vldB n zs = true
  · rw [hv] at HV
    by_cases hk : eqdK n zs = true
    · obtain ⟨m, ns, rfl, rfl, hc⟩ := vldB_cls hv
      have hl : 0 < ns.length ∧ ns.length ≤ 7 := by
        simp only [eqdK, Bool.and_eq_true, decide_eq_true_eq, toI_length] at hk
        exact hk.2
      obtain ⟨hl0, hl7⟩ := hl
      have HE := Lib.hid (eqdB_in (b := b) hk)
      obtain ⟨hg1, hg2⟩ := gsL_lt hc b
      have HEv := Lib.hid (fun w => specEverything m hc.pts w)
      have HD := Lib.hid (fun u w hv hu => specGuesses m hc.pts ns hl7 hc.lt32 (gsL m ns b) hg1 hg2 (.slice a (toI ns).length cap) u w hv hu)
      have HTl := Lib.hid (gTab_len m (gsL m ns b) ns (2 ^ ns.length))
      have hr1 : 1 ≤ 2 ^ ns.length := Nat.pow_pos (by omega)
      have HTv := Lib.hid (show (gTab m (gsL m ns b) ns (2 ^ ns.length)).getD (2 ^ ns.length - 1) 0 = gd m (gsL m ns b) ns by rw [gTab_at (by omega), prt_all hl7])
      have hr128 := pow_le_128 hl7
      rw [toI_length] at H HV HD ⊢
      have HEr := Lib.hid (show (toI (List.range (2 ^ m))).length = (toI (List.range (2 ^ m))).length from rfl)
      obtain ⟨r, hr⟩ : ∃ r, r = 2 ^ ns.length := ⟨_, rfl⟩
      rw [← hr] at HD HTl HTv hr1 hr128
      obtain ⟨L, hL⟩ : ∃ L, L = ns.length := ⟨_, rfl⟩
      rw [← hL] at H HV HD hl0 hl7 ⊢
      have hin : (decide ((1 : Int) ≤ (L : Int)) && decide ((L : Int) ≤ 7)) = true := by simp; omega
      rw [HE.out]
      clear hL hr hk hg1 hg2 hc HE hv HEr
      generalize gTab m (gsL m ns b) ns r = TB at *
      generalize gd m (gsL m ns b) ns = E at *
      cases b with
      | true =>
        have HGs := Lib.hid (show ∀ u w, Rd w (.slice a L cap) (toI ns) → Rd w u (toI (ns)) → Calls Tryd.prog 64 #[.agg #[.int .i64 (m : Int), .slice a L cap], u] w (RetInts TB w) from HD.out)
        clear HD
        go_enter Tryd.func13, Tryd.ntmps13
        go_wp2_with fail
        refine (HV.out _ (H.out.below (by go_grown) (Nat.le_refl _))).mono ?_
        rintro e w1 ⟨rfl, hb⟩
        have B1 := Lib.hid ((Box.made (m : Int) (.slice a L cap) w _).next (by simp) hb)
        have hs1 : w.heap.size < w1.heap.size := by have := hb.size; simp at this; omega
        clear hb
        have c0 := B1.out.at0
        have c1 := B1.out.at1
        go_wp2_with fail
        refine (HIR.out _ _ _ _).mono ?_
        rintro e w' ⟨rfl, rfl⟩
        rw [hin]
        go_wp2_with fail
        refine (HEv.out _).mono ?_
        rintro e w2 ⟨a2, c2, rfl, hin2, hb⟩
        have B2 := Lib.hid (B1.out.next hs1 hb)
        have hs2 : w.heap.size < w2.heap.size := Nat.lt_of_lt_of_le hs1 hb.size
        clear hb hin2 c0 c1
        have c0 := B2.out.at0
        have c1 := B2.out.at1
        go_wp2_with fail
        refine (HGs.out _ _ (H.out.below B2.out.below (Nat.le_refl _)) (H.out.below B2.out.below (Nat.le_refl _))).mono ?_
        rintro e w3 ⟨a3, c3, rfl, hin3, hb⟩
        have B3 := Lib.hid (B2.out.next hs2 hb)
        obtain ⟨a9, bt, ot, ct, et, l1, l3, l5⟩ := hin3.rd
        rw [HTl.out] at et l1 l5
        rw [HTl.out]
        simp only [Value.slice.injEq] at et
        obtain ⟨rfl, -, rfl⟩ := et
        obtain ⟨rfl, hbt⟩ := l1 (by omega)
        have tc := l5 (r - 1) (by omega)
        rw [HTv.out] at tc
        obtain ⟨r, rfl⟩ : ∃ r', r = r' + 1 := ⟨r - 1, by omega⟩
        rw [Nat.add_sub_cancel] at tc
        have hwr : IntKind.i64.wrap (((r + 1 : Nat) : Int) - 1) = (r : Int) := by rw [IntKind.wrap_i64]; omega
        have hwr2 : (((r + 1 : Nat) : Int) - 1) = (r : Int) := by omega
        clear l1 l3 l5 hb hin3 c0 c1
        go_wp2_with fail
        go_ret
        exact ⟨rfl, B3.out.below⟩
      | false =>
        have HGs := Lib.hid (show ∀ u w, Rd w (.slice a L cap) (toI ns) → Rd w u (toI (List.range (2 ^ m))) → Calls Tryd.prog 64 #[.agg #[.int .i64 (m : Int), .slice a L cap], u] w (RetInts TB w) from HD.out)
        clear HD
        go_enter Tryd.func13, Tryd.ntmps13
        go_wp2_with fail
        refine (HV.out _ (H.out.below (by go_grown) (Nat.le_refl _))).mono ?_
        rintro e w1 ⟨rfl, hb⟩
        have B1 := Lib.hid ((Box.made (m : Int) (.slice a L cap) w _).next (by simp) hb)
        have hs1 : w.heap.size < w1.heap.size := by have := hb.size; simp at this; omega
        clear hb
        have c0 := B1.out.at0
        have c1 := B1.out.at1
        go_wp2_with fail
        refine (HIR.out _ _ _ _).mono ?_
        rintro e w' ⟨rfl, rfl⟩
        rw [hin]
        go_wp2_with fail
        refine (HEv.out _).mono ?_
        rintro e w2 ⟨a2, c2, rfl, hin2, hb⟩
        have B2 := Lib.hid (B1.out.next hs1 hb)
        have hs2 : w.heap.size < w2.heap.size := Nat.lt_of_lt_of_le hs1 hb.size
        have R2 := Lib.hid hin2.rd
        clear hb hin2 c0 c1
        generalize (toI (List.range (2 ^ m))).length = q at *
        have c0 := B2.out.at0
        have c1 := B2.out.at1
        go_wp2_with fail
        refine (HGs.out _ _ (H.out.below B2.out.below (Nat.le_refl _)) R2.out).mono ?_
        rintro e w3 ⟨a3, c3, rfl, hin3, hb⟩
        have B3 := Lib.hid (B2.out.next hs2 hb)
        obtain ⟨a9, bt, ot, ct, et, l1, l3, l5⟩ := hin3.rd
        rw [HTl.out] at et l1 l5
        rw [HTl.out]
        simp only [Value.slice.injEq] at et
        obtain ⟨rfl, -, rfl⟩ := et
        obtain ⟨rfl, hbt⟩ := l1 (by omega)
        have tc := l5 (r - 1) (by omega)
        rw [HTv.out] at tc
        obtain ⟨r, rfl⟩ : ∃ r', r = r' + 1 := ⟨r - 1, by omega⟩
        rw [Nat.add_sub_cancel] at tc
        have hwr : IntKind.i64.wrap (((r + 1 : Nat) : Int) - 1) = (r : Int) := by rw [IntKind.wrap_i64]; omega
        have hwr2 : (((r + 1 : Nat) : Int) - 1) = (r : Int) := by omega
        clear l1 l3 l5 hb hin3 c0 c1
        go_wp2_with fail
        go_ret
        exact ⟨rfl, B3.out.below⟩
    · rw [Bool.not_eq_true] at hk
      have HE := Lib.hid (eqdB_bad (b := b) hk)
      rw [HE.out]
      have hin : (decide ((1 : Int) ≤ (zs.length : Int)) && decide ((zs.length : Int) ≤ 7)) = false := by
        simp only [eqdK, hv, Bool.true_and] at hk
        rw [← hk]
        congr 1
        · rw [decide_eq_decide]; omega
        · rw [decide_eq_decide]; omega
      clear hk hv HE
      generalize zs.length = L at *
      skip
      go_enter Tryd.func13, Tryd.ntmps13
      go_wp2_with fail
      refine (HV.out _ (H.out.below (by go_grown) (Nat.le_refl _))).mono ?_
      rintro e w1 ⟨rfl, hb⟩
      have B1 := Lib.hid ((Box.made n (.slice a L cap) w _).next (by simp) hb)
      have hs1 : w.heap.size < w1.heap.size := by have := hb.size; simp at this; omega
      clear hb
      have c0 := B1.out.at0
      have c1 := B1.out.at1
      go_wp2_with fail
      refine (HIR.out _ _ _ _).mono ?_
      rintro e w' ⟨rfl, rfl⟩
      rw [hin]
      go_wp2_with fail
      go_ret
      exact ⟨rfl, B1.out.below⟩
  · rw [Bool.not_eq_true] at hv
    rw [hv] at HV
    have HE := Lib.hid (eqdB_bad (b := b) (show eqdK n zs = false by rw [eqdK, hv]; rfl))
    rw [HE.out]
    clear hv HE
    go_enter Tryd.func13, Tryd.ntmps13
    go_wp2_with fail
    refine (HV.out _ (H.out.below (by go_grown) (Nat.le_refl _))).mono ?_
    rintro e w1 ⟨rfl, hb⟩
    have B1 := Lib.hid ((Box.made n (.slice a zs.length cap) w _).next (by simp) hb)
    have hs1 : w.heap.size < w1.heap.size := by have := hb.size; simp at this; omega
    clear hb
    have c0 := B1.out.at0
    have c1 := B1.out.at1
    go_wp2_with fail
    go_ret
    exact ⟨rfl, B1.out.below⟩

end Go.Proofs.YthmipnflbiclbaaDoor
