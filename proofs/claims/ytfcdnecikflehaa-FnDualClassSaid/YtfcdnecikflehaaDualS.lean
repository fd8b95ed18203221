/- The model's DualClass. Conditions: Sets is a slice of ints. -/
import Derived.Test.YtfcdnecikflehaaShiftS
import Derived.Test.YtfcdnecikflehaaZI
namespace Go.Proofs.Ytfcdnecikflehaa
open Go.RowKit

set_option maxHeartbeats 3200000 in
set_option maxRecDepth 100000 in
theorem specDualClass (n : Int) (v : Value) (zs : List Int) (w : World) (h : Rd w v zs) :
    Calls Try.prog 9 #[.agg #[.int .i64 n, v]] w (RetClass (duN n zs) (duL n zs) w) := by
  have H := Lib.hid h
  obtain ⟨a, b, off, cap, rfl, h1, h3, h5⟩ := h
  by_cases hv : vldB n zs = true
  · obtain ⟨m, ns, rfl, rfl, hc⟩ := vldB_cls hv
    have hm := hc.pts
    have HV := Lib.hid hv
    have hl := hc.length
    have HC := Lib.hid hc
    have HNN := Lib.hid (show duN m (toI ns) = if vldB m (toI ns) = true ∧ (toI ns).length ≤ 5 then ((toI ns).length : Int) else 0 from rfl)
    have HTT := Lib.hid (show duL m (toI ns) = if vldB m (toI ns) = true ∧ (toI ns).length ≤ 5 then toI (tidyL (dul (m : Int).toNat ((toI ns).map Int.toNat))) else [] from rfl)
    rw [toI_length] at h1 h3 h5 H HNN HTT ⊢
    rw [toNat_toI, Int.toNat_natCast] at HTT
    have H5 := Lib.hid h5
    have H1 := Lib.hid h1
    have hmm := @run_makeMap Try.prog
    have OB := Lib.hid (show Out m (.slice a ns.length cap) w.heap.size ((w.alloc (Obj.cells #[.int .i64 (m : Int), .slice a ns.length cap] 25)).alloc (Obj.cells #[.int .i64 0, .slice none 0 0] 25)) from ⟨by simp [go_sem], by simp [go_sem], by simp [go_sem], by simp [go_sem]⟩)
    have OR := Lib.hid (show Out 0 (.slice none 0 0) (w.heap.size + 1) ((w.alloc (Obj.cells #[.int .i64 (m : Int), .slice a ns.length cap] 25)).alloc (Obj.cells #[.int .i64 0, .slice none 0 0] 25)) from ⟨by simp [go_sem], by simp [go_sem], by simp [go_sem], by simp [go_sem]⟩)
    by_cases h5l : ns.length ≤ 5
    · have HN := Lib.hid (show duN m (toI ns) = (ns.length : Int) by rw [HNN.out, if_pos ⟨hv, h5l⟩])
      have HT := Lib.hid (show duL m (toI ns) = toI (tidyL (dul m ns)) by rw [HTT.out, if_pos ⟨hv, h5l⟩])
      have HR := Lib.hid (range_tidy h5l (l := dul m ns) (fun x hx => dul_lt hx))
      clear hv hc h1 h5 HNN HTT
      go_enter Try.func9, Try.ntmps9
      go_wp2_with fail
      refine (specValid m _ (toI ns) _ (H.out.below (k := w.heap.size) (by go_grown) (Nat.le_refl _))).mono ?_
      rintro e w1 ⟨rfl, hb⟩
      rw [HV.out]
      have hs1 : w.heap.size + 1 < w1.heap.size := by have := hb.size; simp at this; omega
      have OB1 := Lib.hid (OB.out.next hb (by simp only [World.size_alloc]; omega))
      have OR1 := Lib.hid (OR.out.next hb (by simp only [World.size_alloc]; omega))
      have HB1 := Lib.hid (show Below w.heap.size w w1 from Below.trans (by go_grown) (hb.mono (by simp; omega)))
      clear hb
      have c0 := OB1.out.at0
      have c1 := OB1.out.at1
      have HLT := Lib.hid (show ∀ x ∈ dul m ns, x < 32 from fun x hx => Nat.lt_of_lt_of_le (dul_lt hx) (pow_le_32 h5l))
      go_wp2_with fail
      clear c0 c1
      go_loopw [3, 4] (fun o i wr => ∃ (k : Nat) (a' : Option Addr) (c' : Nat), k ≤ m ∧ i = .int .i64 k ∧ o = .slice a' (dul k ns).length c' ∧ Ints w1.heap.size wr (.slice a' (dul k ns).length c') (toI (dul k ns)) ∧ Below w1.heap.size w1 wr) (fun _ i _ => m - (intOf i).toNat)
      case atStart => exact ⟨0, _, _, Nat.zero_le _, rfl, rfl, Ints.lit' (by simp) (by simp), by go_grown⟩
      case round =>
        obtain ⟨k, a', c', hk, rfl, rfl, hin, hbe⟩ := hrel
        have HIN := Lib.hid hin
        have HBE := Lib.hid hbe
        have hz := hbe.size
        have OB2 := Lib.hid (OB1.out.next hbe (by omega))
        have OR2 := Lib.hid (OR1.out.next hbe hs1)
        have HB2 := Lib.hid (HB1.out.trans (hbe.mono (by omega)))
        clear hin hbe
        have d0 := OB2.out.at0
        have d1 := OB2.out.at1
        by_cases hlt : k < m
        · have HD := Lib.hid (show dul (k + 1) ns = dul k ns ++ [indTo ns k ns.length] by simp [dul, List.range_succ])
          have hA32 : (dul k ns).length ≤ 32 := by simp [dul]; omega
          generalize dul k ns = A at *
          have HAl := Lib.hid (toI_length A)
          go_wp2_with fail
          go_loop [5, 6] (fun o i => ∃ j : Nat, j ≤ ns.length ∧ i = .int .i64 j ∧ o = .int .i64 ((indTo ns k j : Nat) : Int)) (fun _ i => ns.length - (intOf i).toNat)
          case atStart => exact ⟨0, Nat.zero_le _, rfl, rfl⟩
          case round =>
            obtain ⟨j, hj, rfl, rfl⟩ := hrel
            by_cases hjl : j < ns.length
            · obtain ⟨rfl, hbl⟩ := H1.out (by omega)
              have hcx := (HB2.out.cell (p := ⟨b, off + j, none⟩) hbl).trans (H5.out j (by omega))
              rw [toI_getD] at hcx
              have ht := HC.out.lt32 _ (getD_of_lt hjl)
              have HS := Lib.hid (show indTo ns k (j + 1) = indTo ns k j + ns.getD j 0 / 2 ^ k % 2 * 2 ^ j from rfl)
              have hI := indTo_lt ns k j
              have hk32 := pow_le_32 (n := j) (by omega)
              have hpk := two_pow_le j (by omega)
              generalize ns.getD j 0 = t at *
              by_cases hh : hasX k t = true
              · have HS2 := Lib.hid (show indTo ns k (j + 1) = indTo ns k j + 2 ^ j by
                  rw [HS.out]
                  simp only [hasX, decide_eq_true_eq] at hh
                  rw [hh]
                  omega)
                have HH := Lib.hid (fun w => hh ▸ specHas t k (by omega) (by omega) w)
                clear hh HS
                generalize indTo ns k j = o at *
                go_wp2_with fail
                refine (HH.out _).mono ?_
                rintro e w9 ⟨rfl, rfl⟩
                go_wp2_with fail
                refine (power_q j (by omega) _).mono ?_
                rintro e w9 ⟨rfl, rfl⟩
                go_wp2_with fail
                go_round
                case rel => exact ⟨j + 1, by omega, by go_num, by rw [HS2.out]; simp⟩
                case measure => simp [intOf]; omega
              · have HS2 := Lib.hid (show indTo ns k (j + 1) = indTo ns k j by
                  rw [HS.out]
                  simp only [hasX, decide_eq_true_eq] at hh
                  rw [show t / 2 ^ k % 2 = 0 by omega]
                  omega)
                rw [Bool.not_eq_true] at hh
                have HH := Lib.hid (fun w => hh ▸ specHas t k (by omega) (by omega) w)
                clear hh HS
                generalize indTo ns k j = o at *
                go_wp2_with fail
                refine (HH.out _).mono ?_
                rintro e w9 ⟨rfl, rfl⟩
                go_wp2_with fail
                go_round
                case rel => exact ⟨j + 1, by omega, by go_num, by rw [HS2.out]⟩
                case measure => simp [intOf]; omega
            · obtain rfl : j = ns.length := by omega
              generalize indTo ns k ns.length = z at *
              go_wp2_with (at_builtin; refine wpList_app rfl (.tmp 42) (.tmp 44) rfl w1.heap.size _ (toI A) rfl (by exact HIN.out.alloc _) _ _ _ [(z : Int)] rfl (src_cell (by rw [World.cell?_alloc_at _ _ _ _ rfl]; rfl)) (by rw [HAl.out]; omega) (by simp; omega) ?_; intro a1 c1 w4 hin4 hb4 hg4; rw [HAl.out] at hin4; have I4 := Lib.hid hin4; have B4 := Lib.hid (HBE.out.trans (Below.trans ((Below.refl _ _).alloc (by omega) _) hb4)); clear hin4 hb4 hg4; rw [HAl.out])
              go_roundw
              case rel => exact ⟨k + 1, a1, c1, by omega, by go_num, by rw [HD.out]; simp, by rw [HD.out, toI_append]; simpa [toI] using I4.out, B4.out⟩
              case measure => simp [intOf]; omega
        · obtain rfl : k = m := by omega
          have hA32 : (dul k ns).length ≤ 32 := by simp [dul]; omega
          have HTD := Lib.hid (fun w h => specTidy (.slice a' (dul k ns).length c') (dul k ns) w HLT.out (by omega) h)
          have HZ := Lib.hid (show w.heap.size + 1 < wr.heap.size by omega)
          generalize tidyL (dul k ns) = L at *
          generalize dul k ns = M at *
          have HLl := Lib.hid (toI_length L)
          have r0 := OR2.out.at0
          have r1 := OR2.out.at1
          have q0 := OR2.out.free0
          have q1 := OR2.out.free1
          go_wp2_with fail
          go_region_with (go_at_call 30; refine (HTD.out _ (Rd.below HIN.out.rd (k := wr.heap.size) (by first | exact Below.refl _ _ | exact (Below.refl _ _).drew) (Nat.le_refl _))).mono ?_; rintro e w4 ⟨a4, c4, rfl, hin4, hb4⟩; have hb34 : Below wr.heap.size wr w4 := Below.trans (by first | exact Below.refl _ _ | exact (Below.refl _ _).drew) hb4; have I4 := Lib.hid (show Ints wr.heap.size w4 _ _ from hin4); have OB4 := Lib.hid (OB2.out.next hb34 (by have := HZ.out; omega)); have OR4 := Lib.hid (OR2.out.next hb34 HZ.out); have B4 := Lib.hid (show Below w.heap.size w w4 from HB2.out.trans (hb34.mono (by have := HZ.out; omega))); clear hin4 hb4 hb34; rw [HLl.out] at I4 ⊢; have b0 := OB4.out.at0; have b1 := OB4.out.at1; have s0 := OR4.out.at0; have s1 := OR4.out.at1; have p0 := OR4.out.free0; have p1 := OR4.out.free1)
          all_goals
            go_wp2_with fail
            refine bodyPost_ret (v := .agg #[.int .i64 (ns.length : Int), .slice a4 L.length c4]) (by simp [results, Try.results9, go_sem, s0, s1]) rfl ?_
            rw [HN.out, HT.out]
            refine ⟨a4, c4, by rw [HLl.out], ?_, ?_⟩
            · rw [HLl.out]
              refine Ints.mono (B := wr.heap.size) ?_ (by have := HZ.out; omega)
              repeat (refine Ints.setCell_below ?_ (by have := HZ.out; simp; omega) _)
              exact I4.out
            · have hb0 := B4.out
              clear r0 r1 q0 q1 b0 b1 s0 s1 p0 p1
              go_grown
    · have HN := Lib.hid (show duN m (toI ns) = 0 by rw [HNN.out, if_neg (fun h => h5l h.2)])
      have HT := Lib.hid (show duL m (toI ns) = [] by rw [HTT.out, if_neg (fun h => h5l h.2)])
      clear hv hc h1 h5 HNN HTT
      go_enter Try.func9, Try.ntmps9
      go_wp2_with fail
      refine (specValid m _ (toI ns) _ (H.out.below (k := w.heap.size) (by go_grown) (Nat.le_refl _))).mono ?_
      rintro e w1 ⟨rfl, hb⟩
      rw [HV.out]
      have hs1 : w.heap.size + 1 < w1.heap.size := by have := hb.size; simp at this; omega
      have OB1 := Lib.hid (OB.out.next hb (by simp only [World.size_alloc]; omega))
      have OR1 := Lib.hid (OR.out.next hb (by simp only [World.size_alloc]; omega))
      have HB1 := Lib.hid (show Below w.heap.size w w1 from Below.trans (by go_grown) (hb.mono (by simp; omega)))
      clear hb
      have c0 := OB1.out.at0
      have c1 := OB1.out.at1
      have r0 := OR1.out.at0
      have r1 := OR1.out.at1
      have q0 := OR1.out.free0
      have q1 := OR1.out.free1
      go_wp2_with fail
      refine bodyPost_ret (v := .agg #[.int .i64 0, .slice none 0 0]) (by simp [results, Try.results9, go_sem, r0, r1]) rfl ?_
      rw [HN.out, HT.out]
      refine ⟨none, 0, rfl, Ints.nil _ _, ?_⟩
      have hb0 := HB1.out
      clear c0 c1 r0 r1 q0 q1
      go_grown
  · have HN := Lib.hid (show duN n zs = 0 by rw [duN, if_neg (fun h => hv h.1)])
    have HT := Lib.hid (show duL n zs = [] by rw [duL, if_neg (fun h => hv h.1)])
    rw [Bool.not_eq_true] at hv
    have HV := Lib.hid hv
    clear hv
    go_enter Try.func9, Try.ntmps9
    go_wp2_with fail
    refine (specValid n _ zs _ (H.out.below (k := w.heap.size) (by go_grown) (Nat.le_refl _))).mono ?_
    rintro e w1 ⟨rfl, hb⟩
    rw [HV.out]
    obtain ⟨hc, hf⟩ := bcell hb
    have Hb := Lib.hid hb
    clear hb
    go_wp2_with fail
    refine bodyPost_ret (v := .agg #[.int .i64 0, .slice none 0 0]) (by simp [results, Try.results9, go_sem, hc]) rfl ?_
    rw [HN.out, HT.out]
    refine ⟨none, 0, rfl, Ints.nil _ _, ?_⟩
    have hb0 : Below w.heap.size w w1 := Below.trans (by go_grown) (Hb.out.mono (by simp; omega))
    clear hc hf
    go_grown

end Go.Proofs.Ytfcdnecikflehaa
