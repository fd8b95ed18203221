/- TeachingNumbers, the program's and the model's. Conditions: Sets is a slice of ints; the table setsWith is laid. -/
import Derived.Test.YtnoppclajhfnjaaDoorFirstTS
namespace Go.Proofs.YtnoppclajhfnjaaDoor
open Go.RowKit

/-- how many points it takes to teach each set -/
def tns (m : Nat) (ns : List Nat) : List Int := ns.map (fun u => (pc (ftN m u ns) : Int))
theorem tns_len (m : Nat) (ns : List Nat) : (tns m ns).length = ns.length := by simp [tns]
theorem tns_getD {m : Nat} {ns : List Nat} {k : Nat} (hk : k < ns.length) : (tns m ns).getD k 0 = (pc (ftN m (ns.getD k 0) ns) : Int) := by
  simp [tns, List.getD_eq_getElem?_getD, hk]
theorem tns_I {m : Nat} {ns : List Nat} (hc : Cls m ns) {u : Nat} (hu : u ∈ ns) : tnI u ns = (pc (ftN m u ns) : Int) := by
  obtain ⟨h1, h2, _⟩ := ft_eq hc hu
  rw [tnI, if_neg h2, show fstNt u ns = ftN m u ns from h1]
def tnsL (n : Int) (zs : List Int) : List Int := if vldB n zs = true then tns n.toNat (zs.map Int.toNat) else []
theorem tnsL_in {m : Nat} {ns : List Nat} (hv : vldB m (toI ns) = true) : tnsL (m : Int) (toI ns) = tns m ns := by rw [tnsL, if_pos hv, Int.toNat_natCast, toNat_toI]
theorem tnsL_bad {n : Int} {zs : List Int} (hv : vldB n zs = false) : tnsL n zs = [] := by rw [tnsL, hv]; rfl
theorem tnsL_len (n : Int) (zs : List Int) : (tnsL n zs).length ≤ zs.length := by
  unfold tnsL
  split
  · simp [tns]
  · simp

set_option maxRecDepth 100000 in
set_option maxHeartbeats 6400000 in
theorem implTeachingNumbers (n : Int) (v : Value) (zs : List Int) (w : World) (h : Rd w v zs) (hsw : SW w) :
    Calls Tryd.prog 78 #[.agg #[.int .i64 n, v]] w (RetInts (tnsL n zs) w) := by
  have H := Lib.hid h
  have HSW := Lib.hid hsw
  clear hsw
  have HV := Lib.hid (fun w0 h0 => implValid n v zs w0 h0)
  obtain ⟨a, b, off, cap, rfl, h1, h3, h5⟩ := h
  by_cases hv : vldB n zs = true
  · obtain ⟨m, ns, rfl, rfl, hc⟩ := vldB_cls hv
    obtain ⟨i0, hi, hz0, hz1, hz2⟩ := info_parts info3
    have Hz2 := Lib.hid hz2
    clear hz2
    have hl := hc.length
    rw [tnsL_in hv]
    rw [hv] at HV
    rw [toI_length] at *
    have HF := Lib.hid (fun w0 h0 => implFamilyOf (m : Int) (.slice a ns.length cap) ns hc.lt32 w0 h0)
    have HX := Lib.hid (fun u (hu : u ∈ ns) w0 h0 => by
      have := implTnF ns u hc.lt32 hc.asc (hc.lt32 u hu) w0 h0
      rw [tns_I hc hu] at this
      exact this)
    have HG := Lib.hid (fun k (hk : k < ns.length) => tns_getD (m := m) hk)
    have HL := Lib.hid (tns_len m ns)
    have H1 := Lib.hid h1
    have H5 := Lib.hid h5
    clear h1 h5 hc hv
    generalize tns m ns = vs at *
    go_enter Tryd.func78, Tryd.ntmps78
    go_wp2_with fail
    refine (HV.out _ (H.out.below (by go_grown) (Nat.le_refl _))).mono ?_
    rintro e w1 ⟨rfl, hb⟩
    have B1 := Lib.hid ((Box.made (m : Int) (.slice a ns.length cap) w _).next (by simp) hb)
    have hs1 : w.heap.size < w1.heap.size := by have := hb.size; simp at this; omega
    clear hb
    have c0 := B1.out.at0
    have c1 := B1.out.at1
    go_wp2_with fail
    refine (HF.out _ (H.out.below B1.out.below (Nat.le_refl _))).mono ?_
    rintro e w3 ⟨rfl, hb⟩
    have B3 := Lib.hid (B1.out.next hs1 hb)
    have hs3 : w.heap.size < w3.heap.size := by have := hb.size; omega
    clear hb c0 c1 B1
    have c0 := B3.out.at0
    have c1 := B3.out.at1
    go_wp2_with (at_make; refine wpList_make_full _ rfl _ _ 22 rfl w3.heap.size 3 i0 (.int .i64 0) 1 Tryd.underlying22 hi hz0 hz1 _ _ _ _ ns.length rfl rfl rfl rfl (by rw [Hz2.out]; omega) (by unfold maxLen; omega) (Nat.le_refl _) ?_; intro w4 hown hgrow; have hin := Ints.of_made hown; have hb4 : Below w3.heap.size w3 w4 := (Below.refl _ _).grown hgrow (Nat.le_refl _) (fun k hk => by simp at hk); have hz4 := hb4.size; have d1 := (hb4.cell (p := ⟨w.heap.size, 1, none⟩) hs3).trans c1)
    clear hown hgrow hi hz0 hz1
    rw [← HL.out] at hin
    go_loopw [19] (fun i wr => ∃ k : Nat, k ≤ ns.length ∧ i = .int .i64 k ∧ Ints w3.heap.size wr (.slice (some ⟨w3.heap.size, 0, none⟩) ns.length ns.length) (half vs k) ∧ Below w3.heap.size w3 wr) (fun i _ => ns.length - (intOf i).toNat)
    case atStart => exact ⟨0, Nat.zero_le _, rfl, by rw [half_zero]; exact (HL.out ▸ hin), hb4⟩
    case round =>
      obtain ⟨k, hk, rfl, hik, hbk⟩ := hrel
      have Hik := Lib.hid hik
      have Hbk := Lib.hid hbk
      have HBW := Lib.hid (B3.out.below.trans (hbk.mono B3.out.below.size))
      have hzk := hbk.size
      clear hik hbk hin hb4
      by_cases hlt : k < ns.length
      · obtain ⟨rfl, hbl⟩ := H1.out (by omega)
        have hc := (HBW.out.cell (p := ⟨b, off + k, none⟩) hbl).trans (H5.out k hlt)
        rw [toI_getD] at hc
        have HXk := Lib.hid (HX.out _ (getD_of_lt hlt))
        have HS := Lib.hid (half_step vs k (by rw [HL.out]; exact hlt))
        rw [HG.out k hlt] at HS
        generalize ns.getD k 0 = u at *
        generalize (pc (ftN m u ns) : Int) = y at *
        go_wp2_with fail
        refine (HXk.out _ (HSW.out.next HBW.out)).mono ?_
        rintro e w5 ⟨rfl, hb5⟩
        have Hi5 := Lib.hid (Hik.out.below hb5 (Nat.le_refl _))
        have Hb5 := Lib.hid (Hbk.out.trans (hb5.mono hzk))
        clear hb5
        obtain ⟨hs, hf⟩ := Hi5.out.cellAt k (by rw [half_length _ _ (by rw [HL.out]; omega), HL.out]; exact hlt)
        go_wp2_with fail
        go_roundw
        case rel => exact ⟨k + 1, by omega, by go_num, by rw [← HS.out]; exact Hi5.out.store k y, Hb5.out.setCell (Nat.le_refl _) _⟩
        case measure => simp [intOf]; omega
      · go_wp2_with fail
        go_ret
        obtain rfl : k = ns.length := by omega
        have h8 := Hik.out
        rw [← HL.out, half_full, HL.out] at h8
        exact RetInts.of (h8.mono B3.out.below.size) HBW.out
  · rw [Bool.not_eq_true] at hv
    rw [tnsL_bad hv]
    rw [hv] at HV
    clear hv
    go_enter Tryd.func78, Tryd.ntmps78
    go_wp2_with fail
    refine (HV.out _ (H.out.below (by go_grown) (Nat.le_refl _))).mono ?_
    rintro e w1 ⟨rfl, hb⟩
    have B1 := Lib.hid ((Box.made n (.slice a zs.length cap) w _).next (by simp) hb)
    clear hb
    go_wp2_with fail
    go_ret
    exact RetInts.of (Ints.nil _ _) B1.out.below

set_option maxRecDepth 100000 in
set_option maxHeartbeats 6400000 in
theorem specEfforts (m : Nat) (v : Value) (ns : List Nat) (w : World) (hc : Cls m ns) (h : Rd w v (toI ns)) :
    Calls Tryd.prog 81 #[v, .int .i64 (m : Int)] w (RetInts (tns m ns) w) := by
  have H := Lib.hid h
  have hl := hc.length
  have HX := Lib.hid (fun u (hu : u ∈ ns) w0 h0 => specEffort m hc.pts v ns u w0 hu hc.lt32 (by omega) h0)
  obtain ⟨a, b, off, cap, rfl, h1, h3, h5⟩ := h
  rw [toI_length] at *
  have H1 := Lib.hid h1
  have H5 := Lib.hid h5
  have HG := Lib.hid (fun k (hk : k < ns.length) => tns_getD (m := m) hk)
  have HL := Lib.hid (tns_len m ns)
  clear h1 h5 hc
  generalize tns m ns = vs at *
  go_enter Tryd.func81, Tryd.ntmps81
  go_wp2_with fail
  go_loopw [5, 6] (fun o i wr => ∃ k : Nat, k ≤ ns.length ∧ i = .int .i64 k ∧ (∃ a' c', o = .slice a' k c') ∧ Ints w.heap.size wr o (vs.take k) ∧ Below w.heap.size w wr) (fun _ i _ => ns.length - (intOf i).toNat)
  case atStart => exact ⟨0, Nat.zero_le _, rfl, ⟨_, _, rfl⟩, by rw [List.take_zero]; exact Ints.lit' (by simp) (by simp), by go_grown⟩
  case round =>
    obtain ⟨k, hk, rfl, ⟨a', c', rfl⟩, hik, hbk⟩ := hrel
    have Hik := Lib.hid hik
    have Hbk := Lib.hid hbk
    have hzk := hbk.size
    clear hik hbk
    by_cases hlt : k < ns.length
    · obtain ⟨rfl, hbl⟩ := H1.out (by omega)
      have hc := (Hbk.out.cell (p := ⟨b, off + k, none⟩) hbl).trans (H5.out k hlt)
      rw [toI_getD] at hc
      have HXk := Lib.hid (HX.out _ (getD_of_lt hlt))
      have HS := Lib.hid (show vs.take (k + 1) = vs.take k ++ [vs.getD k 0] by
        have h9 : k < vs.length := by rw [HL.out]; exact hlt
        rw [List.take_add_one]; simp [h9])
      rw [HG.out k hlt] at HS
      have HAl := Lib.hid (show (vs.take k).length = k by rw [List.length_take, HL.out]; omega)
      generalize ns.getD k 0 = u at *
      generalize (pc (ftN m u ns) : Nat) = y at *
      generalize vs.take k = A at *
      go_wp2_with fail
      refine (HXk.out _ (H.out.below Hbk.out (Nat.le_refl _))).mono ?_
      rintro e w2 ⟨rfl, hb2⟩
      have I2 := Lib.hid (Hik.out.below hb2 (Nat.le_refl _))
      have B2 := Lib.hid (Hbk.out.trans (hb2.mono hzk))
      have hz2 := B2.out.size
      clear hb2
      go_wp2_with (at_builtin; refine wpList_app rfl (.tmp 14) (.tmp 22) rfl w.heap.size _ A rfl (by exact I2.out.alloc _) _ _ _ [(y : Int)] rfl (src_cell (by rw [World.cell?_alloc_at _ _ _ _ rfl]; rfl)) (by rw [HAl.out]; omega) (by simp; omega) ?_; intro a1 c1 w3 hin3 hb3 hg3)
      rw [HAl.out] at hin3
      have B3 := Lib.hid ((B2.out.alloc hz2 _).grown hg3 (by first | omega | (simp; done) | (simp; omega)) (fun r hr => (I2.out.lt r hr).1))
      have I3 := Lib.hid hin3
      clear hin3 hb3 hg3
      go_roundw
      case rel => exact ⟨k + 1, by omega, by go_num, ⟨a1, c1, by rw [HAl.out]⟩, by rw [HS.out, HAl.out]; exact I3.out, B3.out⟩
      case measure => simp [intOf]; omega
    · obtain rfl : k = ns.length := by omega
      go_wp2_with fail
      go_ret
      have h8 := Hik.out
      rw [← HL.out, List.take_length, HL.out] at h8
      exact RetInts.of h8 Hbk.out


end Go.Proofs.YtnoppclajhfnjaaDoor
