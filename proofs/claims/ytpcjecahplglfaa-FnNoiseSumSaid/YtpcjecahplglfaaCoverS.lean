/- CoverRadius and NoiseSum, the model's. Conditions: Sets is a slice of ints. -/
import Derived.Deep.RegionWith
import Derived.Test.YtpcjecahplglfaaNrstS
namespace Go.Proofs.Ytpcjecahplglfaa
open Go.RowKit

set_option maxRecDepth 100000 in
set_option maxHeartbeats 3200000 in
theorem specCoverRadius (n : Int) (v : Value) (zs : List Int) (w : World) (h : Rd w v zs) :
    Calls Try.prog 21 #[.agg #[.int .i64 n, v]] w fun e w' => e = .returned (.int .i64 (cvB n zs)) ∧ Below w.heap.size w w' := by
  have H := Lib.hid h
  have HV := Lib.hid (fun w h => specValid n v zs w h)
  obtain ⟨a, b, off, cap, rfl, h1, h3, h5⟩ := h
  have H1 := Lib.hid h1
  have H5 := Lib.hid h5
  clear h1 h5
  by_cases hv : vldB n zs = true
  · obtain ⟨m, ns, rfl, rfl, hc⟩ := vldB_cls hv
    have hm := hc.pts
    have hl := hc.length
    have HV0 := Lib.hid hv
    have h5 := pow_le_32 hm
    have hp := Nat.two_pow_pos m
    have HPw := Lib.hid (fun w0 => (specPower (m : Int) w0 (by omega) (by omega)).mono fun e w' h => And.intro h.1 h.2.symm)
    obtain ⟨q, hq⟩ : ∃ q : Nat, q = 2 ^ m := ⟨_, rfl⟩
    have hqI : (2 : Int) ^ m = (q : Int) := by rw [hq]; simp
    rw [Int.toNat_natCast, hqI] at HPw
    rw [hv] at HV
    rw [toI_length] at *
    by_cases hn : ns = []
    · subst hn
      rw [show cvB (m : Int) (toI []) = -1 from cvB_nil]
      have hq0 : (0 : Int) < (q : Int) := by omega
      clear hv hc hq hqI
      go_enter Try.func21, Try.ntmps21
      go_wp2_with fail
      refine (HV.out _ (H.out.below (k := w.heap.size) (by go_grown) (Nat.le_refl _))).mono ?_
      rintro e w1 ⟨rfl, hb⟩
      have B1 := Lib.hid ((Box.made (m : Int) (.slice a ([] : List Nat).length cap) w _).next (by simp) hb)
      have hs1 : w.heap.size < w1.heap.size := by have := hb.size; simp at this; omega
      clear hb
      have c0 := B1.out.at0
      have c1 := B1.out.at1
      go_wp2_with fail
      clear c0 c1
      go_loop [3, 4] (fun o i => o = .int .i64 (-1) ∧ i = .int .i64 0) (fun _ _ => 0)
      case atStart => exact ⟨rfl, rfl⟩
      case round =>
        obtain ⟨rfl, rfl⟩ := hrel
        have c0 := B1.out.at0
        have c1 := B1.out.at1
        go_wp2_with fail
        refine (HPw.out _).mono ?_
        rintro e w2 ⟨rfl, hw2⟩
        subst w2
        go_wp2_with fail
        go_ret
        exact ⟨rfl, B1.out.below⟩
    · rw [cvB_in hv hn]
      have hl0 : 0 < ns.length := List.length_pos_iff.2 hn
      have hl0I : (0 : Int) < (ns.length : Int) := by omega
      have HG := Lib.hid (fun s => (fst_idx (dis_nat s) hn).1)
      have HCv := Lib.hid (fun s => show cvTo ns (s + 1) = if cvTo ns s < fstM (dis s) ns then fstM (dis s) ns else cvTo ns s from rfl)
      have HQ := Lib.hid (show cvTo ns (2 ^ m) = cvTo ns q by rw [hq])
      have HC := Lib.hid hc
      rw [HQ.out]
      rw [← hq] at h5
      clear hv hc hn hq hqI
      go_enter Try.func21, Try.ntmps21
      go_wp2_with fail
      refine (HV.out _ (H.out.below (k := w.heap.size) (by go_grown) (Nat.le_refl _))).mono ?_
      rintro e w1 ⟨rfl, hb⟩
      have B1 := Lib.hid ((Box.made (m : Int) (.slice a ns.length cap) w _).next (by simp) hb)
      have hs1 : w.heap.size < w1.heap.size := by have := hb.size; simp at this; omega
      clear hb
      have c0 := B1.out.at0
      have c1 := B1.out.at1
      go_wp2_with fail
      clear c0 c1
      go_loopw [3, 4] (fun o i wr => ∃ j : Nat, j ≤ q ∧ i = .int .i64 j ∧ o = .int .i64 (cvTo ns j) ∧ Box (m : Int) (.slice a ns.length cap) w wr ∧ w.heap.size < wr.heap.size) (fun _ i _ => q - (intOf i).toNat)
      case atStart => exact ⟨0, by omega, rfl, rfl, B1.out, hs1⟩
      case round =>
        obtain ⟨j, hj, rfl, rfl, hbx, hsz⟩ := hrel
        have HBX := Lib.hid hbx
        clear hbx
        obtain ⟨W, hW⟩ : ∃ W, W = wr := ⟨_, rfl⟩
        subst hW
        have c0 := HBX.out.at0
        have c1 := HBX.out.at1
        by_cases hlt : j < q
        · have hltI : (j : Int) < (q : Int) := by omega
          have HGj := Lib.hid (HG.out j)
          have HCj := Lib.hid (HCv.out j)
          have HMl := Lib.hid (dsTo_all j ns)
          have HSm := Lib.hid (fun v w h => specSmallest v (ns.map (dis j)) w h)
          rw [List.length_map, ← HGj.out, ← HMl.out] at HSm
          have hj32 : j < 32 := by omega
          generalize fstM (dis j) ns = D at *
          generalize cvTo ns j = o at *
          go_wp2_with fail
          refine (HPw.out _).mono ?_
          rintro e w2 ⟨rfl, hw2⟩
          subst w2
          go_wp2_with fail
          clear c0 c1
          go_loopw [5, 6] (fun o i wr => ∃ (k : Nat) (a' : Option Addr) (c' : Nat), k ≤ ns.length ∧ i = .int .i64 k ∧ o = .slice a' k c' ∧ Ints W.heap.size wr (.slice a' k c') (dsTo j ns k) ∧ Below W.heap.size W wr) (fun _ i _ => ns.length - (intOf i).toNat)
          case atStart => exact ⟨0, _, _, Nat.zero_le _, rfl, rfl, Ints.lit' (by first | omega | simp) (by first | omega | simp), by go_grown⟩
          case round =>
            obtain ⟨k, a', c', hk, rfl, rfl, hin, hbe⟩ := hrel
            have HIN := Lib.hid hin
            have BR := Lib.hid (HBX.out.next hsz hbe)
            have HBE := Lib.hid hbe
            have hz := hbe.size
            clear hin hbe
            have c0 := BR.out.at0
            have c1 := BR.out.at1
            by_cases hkl : k < ns.length
            · obtain ⟨rfl, hbl⟩ := H1.out (by omega)
              have hc0 := (BR.out.below.cell (p := ⟨b, off + k, none⟩) hbl).trans (H5.out k (by omega))
              rw [toI_getD] at hc0
              have hx32 := HC.out.lt32 _ (getD_of_lt hkl)
              have HD := Lib.hid (dsTo_succ (s := j) hkl)
              have HAl := Lib.hid (dsTo_len (s := j) hk)
              generalize ns.getD k 0 = x at *
              have h32 : x ^^^ j < 32 := Nat.xor_lt_two_pow (n := 5) hx32 hj32
              have HF := Lib.hid (fun w => specFlip x j (by omega) (by omega) w)
              have HZ := Lib.hid (fun w => specSize (x ^^^ j) h32 w)
              have HDx := Lib.hid (show dis j x = ((pc (x ^^^ j) : Nat) : Int) from rfl)
              generalize dsTo j ns k = A at *
              go_wp2_with fail
              refine (HF.out _).mono ?_
              rintro e w3 ⟨rfl, hw3⟩
              subst w3
              generalize x ^^^ j = y at *
              go_wp2_with fail
              refine (HZ.out _).mono ?_
              rintro e w3 ⟨rfl, rfl⟩
              generalize pc y = p at *
              have hq' : A.length + 1 ≤ 1000000000 := by rw [HAl.out]; omega
              go_wp2_with (at_builtin; refine wpList_app rfl (.tmp 31) (.tmp 40) rfl W.heap.size _ A rfl (by exact HIN.out.alloc _) _ _ _ [(p : Int)] rfl (src_cell (by rw [World.cell?_alloc_at _ _ _ _ rfl]; rfl)) hq' (by simp; omega) ?_; intro a1 c1' w4 hin4 hb4 hg4)
              rw [HAl.out] at hin4
              have I4 := Lib.hid hin4
              have HB4 := Lib.hid (show Below W.heap.size W w4 from HBE.out.trans (Below.trans ((Below.refl _ _).alloc (by omega) _) hb4))
              clear hin4 hb4 hg4 hq' c0 c1
              go_roundw
              case rel => exact ⟨k + 1, a1, c1', by omega, by go_num, by rw [HAl.out], by rw [HD.out, HDx.out]; exact I4.out, HB4.out⟩
              case measure => simp [intOf]; omega
            · obtain rfl : k = ns.length := by omega
              have hs3 : w.heap.size < wr.heap.size := by omega
              by_cases hq' : o < D
              all_goals
                first
                  | have HE := Lib.hid (HCj.out.trans (if_pos hq'))
                  | have HE := Lib.hid (HCj.out.trans (if_neg hq'))
                go_wp2_with fail
                refine (HSm.out _ _ HIN.out.rd).mono ?_
                rintro e w3 ⟨rfl, rfl⟩
                clear c0 c1
                go_wp2_with fail
                go_roundw
                case rel => exact ⟨j + 1, by omega, by go_num, by rw [HE.out], BR.out, hs3⟩
                case measure => simp [intOf]; omega
        · obtain rfl : j = q := by omega
          go_wp2_with fail
          refine (HPw.out _).mono ?_
          rintro e w2 ⟨rfl, hw2⟩
          subst w2
          go_wp2_with fail
          go_ret
          exact ⟨rfl, HBX.out.below⟩
  · rw [Bool.not_eq_true] at hv
    rw [cvB_bad hv]
    rw [hv] at HV
    clear hv
    go_enter Try.func21, Try.ntmps21
    go_wp2_with fail
    refine (HV.out _ (H.out.below (k := w.heap.size) (by go_grown) (Nat.le_refl _))).mono ?_
    rintro e w1 ⟨rfl, hb⟩
    have B1 := Lib.hid ((Box.made n (.slice a zs.length cap) w _).next (by simp) hb)
    clear hb
    go_wp2_with fail
    go_ret
    exact ⟨rfl, B1.out.below⟩

set_option maxRecDepth 100000 in
set_option maxHeartbeats 3200000 in
theorem specNoiseSum (n : Int) (v : Value) (zs : List Int) (w : World) (h : Rd w v zs) :
    Calls Try.prog 26 #[.agg #[.int .i64 n, v]] w fun e w' => e = .returned (.int .i64 (nsB n zs)) ∧ Below w.heap.size w w' := by
  have H := Lib.hid h
  have HV := Lib.hid (fun w h => specValid n v zs w h)
  obtain ⟨a, b, off, cap, rfl, h1, h3, h5⟩ := h
  have H1 := Lib.hid h1
  have H5 := Lib.hid h5
  clear h1 h5
  by_cases hv : vldB n zs = true
  · obtain ⟨m, ns, rfl, rfl, hc⟩ := vldB_cls hv
    have hm := hc.pts
    have hl := hc.length
    have HV0 := Lib.hid hv
    have h5 := pow_le_32 hm
    have hp := Nat.two_pow_pos m
    have HPw := Lib.hid (fun w0 => (specPower (m : Int) w0 (by omega) (by omega)).mono fun e w' h => And.intro h.1 h.2.symm)
    obtain ⟨q, hq⟩ : ∃ q : Nat, q = 2 ^ m := ⟨_, rfl⟩
    have hqI : (2 : Int) ^ m = (q : Int) := by rw [hq]; simp
    rw [Int.toNat_natCast, hqI] at HPw
    rw [hv] at HV
    rw [toI_length] at *
    by_cases hn : ns = []
    · subst hn
      rw [show nsB (m : Int) (toI []) = 0 from nsB_nil]
      have hq0 : (0 : Int) < (q : Int) := by omega
      clear hv hc hq hqI
      go_enter Try.func26, Try.ntmps26
      go_wp2_with fail
      refine (HV.out _ (H.out.below (k := w.heap.size) (by go_grown) (Nat.le_refl _))).mono ?_
      rintro e w1 ⟨rfl, hb⟩
      have B1 := Lib.hid ((Box.made (m : Int) (.slice a ([] : List Nat).length cap) w _).next (by simp) hb)
      have hs1 : w.heap.size < w1.heap.size := by have := hb.size; simp at this; omega
      clear hb
      have c0 := B1.out.at0
      have c1 := B1.out.at1
      go_wp2_with fail
      go_ret
      exact ⟨rfl, B1.out.below⟩
    · rw [nsB_in hv hn]
      have hl0 : 0 < ns.length := List.length_pos_iff.2 hn
      have hd0 : (((ns.length : Nat) : Int) == 0) = false := by simp; omega
      have HBd := Lib.hid (fun j (hj : j < 2 ^ m) => And.intro (nsTo_bd hm hc.lt hn j (by omega)) (bsTo_all hm hc.lt hj hn))
      have HNs := Lib.hid (fun s => show nsTo m ns (s + 1) = nsTo m ns s + ((m : Int) - 2 * fstM (dis s) ns) from rfl)
      have HQ := Lib.hid (show nsTo m ns (2 ^ m) = nsTo m ns q by rw [hq])
      have HC := Lib.hid hc
      rw [HQ.out]
      rw [← hq] at h5 HBd
      have hneg : IntKind.i64.wrap (-(m : Int)) = -(m : Int) := by rw [IntKind.wrap_i64]; omega
      clear hv hc hn hq hqI
      go_enter Try.func26, Try.ntmps26
      go_wp2_with fail
      refine (HV.out _ (H.out.below (k := w.heap.size) (by go_grown) (Nat.le_refl _))).mono ?_
      rintro e w1 ⟨rfl, hb⟩
      have B1 := Lib.hid ((Box.made (m : Int) (.slice a ns.length cap) w _).next (by simp) hb)
      have hs1 : w.heap.size < w1.heap.size := by have := hb.size; simp at this; omega
      clear hb
      have c0 := B1.out.at0
      have c1 := B1.out.at1
      go_wp2_with fail
      clear c0 c1
      go_loopw [3, 4] (fun o i wr => ∃ j : Nat, j ≤ q ∧ i = .int .i64 j ∧ o = .int .i64 (nsTo m ns j) ∧ Box (m : Int) (.slice a ns.length cap) w wr ∧ w.heap.size < wr.heap.size) (fun _ i _ => q - (intOf i).toNat)
      case atStart => exact ⟨0, by omega, rfl, rfl, B1.out, hs1⟩
      case round =>
        obtain ⟨j, hj, rfl, rfl, hbx, hsz⟩ := hrel
        have HBX := Lib.hid hbx
        clear hbx
        obtain ⟨W, hW⟩ : ∃ W, W = wr := ⟨_, rfl⟩
        subst hW
        have c0 := HBX.out.at0
        have c1 := HBX.out.at1
        by_cases hlt : j < q
        · have hltI : (j : Int) < (q : Int) := by omega
          obtain ⟨⟨hlo, hhi⟩, hball⟩ := HBd.out j hlt
          have HBall := Lib.hid hball
          have HNj := Lib.hid (HNs.out j)
          rw [← HBall.out] at HNj
          have hj32 : j < 32 := by omega
          clear hball
          generalize nsTo m ns j = o at *
          go_wp2_with fail
          refine (HPw.out _).mono ?_
          rintro e w2 ⟨rfl, hw2⟩
          subst w2
          go_wp2_with fail
          clear c0 c1
          go_loopw [5, 6] (fun o i wr => ∃ (k : Nat), k ≤ ns.length ∧ i = .int .i64 k ∧ o = .int .i64 (bsTo m j ns k) ∧ Below W.heap.size W wr) (fun _ i _ => ns.length - (intOf i).toNat)
          case atStart => exact ⟨0, Nat.zero_le _, rfl, rfl, Below.refl _ _⟩
          case round =>
            obtain ⟨k, hk, rfl, rfl, hbe⟩ := hrel
            have BR := Lib.hid (HBX.out.next hsz hbe)
            have HBE := Lib.hid hbe
            have hz := hbe.size
            clear hbe
            have c0 := BR.out.at0
            have c1 := BR.out.at1
            have hs3 : w.heap.size < wr.heap.size := by omega
            obtain ⟨hb1, hb2⟩ := bsTo_bd (s := j) (ns := ns) hm k
            by_cases hkl : k < ns.length
            · obtain ⟨rfl, hbl⟩ := H1.out (by omega)
              have hc0 := (BR.out.below.cell (p := ⟨b, off + k, none⟩) hbl).trans (H5.out k (by omega))
              rw [toI_getD] at hc0
              have hx32 := HC.out.lt32 _ (getD_of_lt hkl)
              have HD := Lib.hid (show bsTo m j ns (k + 1) = if bsTo m j ns k < (m : Int) - 2 * dis j (ns.getD k 0) then (m : Int) - 2 * dis j (ns.getD k 0) else bsTo m j ns k from rfl)
              generalize ns.getD k 0 = x at *
              have h32 : x ^^^ j < 32 := Nat.xor_lt_two_pow (n := 5) hx32 hj32
              have HF := Lib.hid (fun w => specFlip x j (by omega) (by omega) w)
              have HZ := Lib.hid (fun w => (specSize (x ^^^ j) h32 w).mono fun e w' h => And.intro h.1 h.2.symm)
              have hp5 := pc_le5 (x ^^^ j)
              rw [show dis j x = ((pc (x ^^^ j) : Nat) : Int) from rfl] at HD
              generalize pc (x ^^^ j) = p at *
              generalize bsTo m j ns k = o2 at *
              have HWr := Lib.hid (show IntKind.i64.wrap ((m : Int) - IntKind.i64.wrap (2 * (p : Int))) = (m : Int) - 2 * (p : Int) by rw [show IntKind.i64.wrap (2 * (p : Int)) = 2 * (p : Int) by rw [IntKind.wrap_i64]; omega, IntKind.wrap_i64]; omega)
              go_wp2_with fail
              go_region_held3 (fun w' => w'.cell? ⟨b, off + k, none⟩ = some (.int .i64 (x : Int)) ∧ w'.cell? ⟨w.heap.size, 0, none⟩ = some (.int .i64 (m : Int)) ∧ w'.cell? ⟨w.heap.size, 1, none⟩ = some (.slice (some ⟨b, off, none⟩) ns.length cap)) (first | exact ⟨hc0, c0, c1⟩ | go_keep) (first
                | (go_at_call 41; refine (HF.out _).mono ?_; rintro e w9 ⟨rfl, hw9⟩; subst w9)
                | (go_at_call 40; refine (HZ.out _).mono ?_; rintro e w9 ⟨rfl, hw9⟩; subst w9))
              clear c0 c1 hc0
              go_wp2_with fail
              go_roundw
              case rel => exact ⟨k + 1, by omega, by go_num, by rw [HWr.out, HD.out], HBE.out.drew⟩
              case measure => simp [intOf]; omega
            · obtain rfl : k = ns.length := by omega
              generalize bsTo m j ns ns.length = Z at *
              clear hneg
              go_wp2_with fail
              clear c0 c1
              go_roundw
              case rel => exact ⟨j + 1, by omega, by go_num, by rw [HNj.out], BR.out, hs3⟩
              case measure => simp [intOf]; omega
        · obtain rfl : j = q := by omega
          go_wp2_with fail
          refine (HPw.out _).mono ?_
          rintro e w2 ⟨rfl, hw2⟩
          subst w2
          go_wp2_with fail
          go_ret
          exact ⟨rfl, HBX.out.below⟩
  · rw [Bool.not_eq_true] at hv
    rw [nsB_bad hv]
    rw [hv] at HV
    clear hv
    go_enter Try.func26, Try.ntmps26
    go_wp2_with fail
    refine (HV.out _ (H.out.below (k := w.heap.size) (by go_grown) (Nat.le_refl _))).mono ?_
    rintro e w1 ⟨rfl, hb⟩
    have B1 := Lib.hid ((Box.made n (.slice a zs.length cap) w _).next (by simp) hb)
    clear hb
    go_wp2_with fail
    go_ret
    exact ⟨rfl, B1.out.below⟩

end Go.Proofs.Ytpcjecahplglfaa
