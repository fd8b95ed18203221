/- IsIsometric, the program's. Conditions: Sets is a slice of ints, the class is valid. -/
import Derived.BigQuiet
import Derived.Test.YtbjaacppomobeaaIso
namespace Go.Proofs.Ytbjaacppomobeaa
open Go.RowKit

theorem Nds.below {bl : Nat → Nat} {w w' : World} {v : Value} {ns : List Nat} {m k : Nat} (h : Nds bl w v ns m) (hb : Below k w w') (hk : w.heap.size ≤ k) : Nds bl w' v ns m := by
  refine ⟨h.row.below hb hk, fun s hs => ?_, fun s hs => ?_, fun s hs => ?_⟩
  · obtain ⟨h1, h2⟩ := h.set s hs
    exact ⟨Nat.lt_of_lt_of_le h1 hb.size, (hb.cell (p := ⟨bl s, 0, none⟩) (Nat.lt_of_lt_of_le h1 hk)).trans h2⟩
  · obtain ⟨nv, h1, h2⟩ := h.near s hs
    exact ⟨nv, (hb.cell (p := ⟨bl s, 1, none⟩) (Nat.lt_of_lt_of_le (h.set s hs).1 hk)).trans h1, h2.below hb hk⟩
  · exact (hb.cell (p := ⟨bl s, 2, none⟩) (Nat.lt_of_lt_of_le (h.set s hs).1 hk)).trans (h.given s hs)

set_option maxHeartbeats 6400000 in
set_option maxRecDepth 100000 in
theorem implIsoIn (m : Nat) (ns : List Nat) (R : Bool) (v : Value) (w : World) (hc : Cls m ns) (hv : vldB m (toI ns) = true) (hR : Iso ns R) (h : Rd w v (toI ns)) :
    Calls Try.prog 60 #[.agg #[.int .i64 m, v]] w fun e w' => e = .returned (.bool R) ∧ Below w.heap.size w w' := by
  have H := Lib.hid h
  obtain ⟨a, b, off, cap, rfl, h1, h3, h5⟩ := h
  rw [toI_length] at H h1 h3 h5 ⊢
  have H1 := Lib.hid h1
  have H5 := Lib.hid h5
  have HV := Lib.hid (fun w h => implValid m (.slice a ns.length cap) (toI ns) w h)
  rw [hv] at HV
  have HN := Lib.hid (fun w h => implNodesOf m ns (.slice a ns.length cap) w hc h)
  have HD := Lib.hid (fun bl nv s (hs : s ∈ ns) w h => implDistances bl m ns nv s w hc h hs)
  have HL := Lib.hid (fun i (hi : i < ns.length) j (hj : j < ns.length) d => dst_set hc hi hj (d := d))
  have HR := Lib.hid hR
  have H32 := Lib.hid hc.lt32
  have hl := hc.length
  have B0 := Lib.hid (Box.made m (.slice a ns.length cap) w 28)
  clear h1 h5 hv hc hR
  go_enter Try.func60, Try.ntmps60
  go_wp2_with fail
  refine (HV.out _ (H.out.below (k := w.heap.size) (by go_grown) (Nat.le_refl _))).mono ?_
  rintro e w1 ⟨rfl, hb⟩
  have B1 := Lib.hid (B0.out.next (by simp) hb)
  have hs1 : w.heap.size < w1.heap.size := by have := hb.size; simp at this; omega
  clear hb B0
  have c0 := B1.out.at0
  have c1 := B1.out.at1
  go_wp2_with fail
  refine (HN.out _ (H.out.below B1.out.below (Nat.le_refl _))).mono ?_
  rintro e w2 ⟨bl, v2, rfl, hnd, hb2⟩
  have B2 := Lib.hid (B1.out.next hs1 hb2)
  have hs2 : w.heap.size < w2.heap.size := by have := hb2.size; omega
  have ND := Lib.hid hnd
  obtain ⟨na, nb, noff, ncap, rfl, hn1, _, hn3⟩ := hnd.row
  rw [List.length_map] at hn1 hn3 ND ⊢
  have HN1 := Lib.hid hn1
  have HN3 := Lib.hid hn3
  clear hn1 hn3 hnd hb2 c0 c1
  go_wp2_with fail
  go_loopw [14] (fun q wr => ∃ i : Nat, i ≤ ns.length ∧ q = .int .i64 i ∧ Hid (isoTo ns i 0) ∧ Below w2.heap.size w2 wr) (fun q _ => ns.length - (intOf q).toNat)
  case atStart => exact ⟨0, Nat.zero_le _, rfl, Lib.hid (isoTo.zero ns), Below.refl _ _⟩
  case round =>
    obtain ⟨i, hi, rfl, IS, hbe⟩ := hrel
    have B3 := Lib.hid (B2.out.next hs2 hbe)
    have BE := Lib.hid hbe
    have hz2 := hbe.size
    by_cases hil : i < ns.length
    · obtain ⟨rfl, hnl⟩ := HN1.out (by omega)
      obtain ⟨rfl, hbl⟩ := H1.out (by omega)
      have hxm := getD_of_lt hil
      have hx32 := H32.out _ hxm
      have hp0 : wr.cell? ⟨nb, noff + i, none⟩ = some (.pointer (some ⟨bl (ns.getD i 0), 0, none⟩)) := (hbe.cell (p := ⟨nb, noff + i, none⟩) hnl).trans ((HN3.out i hil).trans (by rw [mapbl_getD hil]; rfl))
      have HDi := Lib.hid (HD.out bl _ _ hxm _ (ND.out.below hbe (Nat.le_refl _)))
      obtain ⟨hxl, hx0⟩ := (ND.out.below hbe (Nat.le_refl _)).set _ hxm
      have HX0 := Lib.hid hx0
      have HXE := Lib.hid (show ns.getD i 0 = ns.getD i 0 from rfl)
      have hiI : (i : Int) < (ns.length : Int) := by omega
      have HLi := Lib.hid (fun j hj d => HL.out i hil j hj d)
      clear hbe hx0 hxm
      obtain ⟨x, hxe⟩ : ∃ x, x = ns.getD i 0 := ⟨_, rfl⟩
      rw [← hxe] at hp0 HDi hxl HX0 hx32
      have HXD := Lib.hid hxe
      clear hxe HXE
      go_wp2_with fail
      refine HDi.out.mono ?_
      rintro e w3 ⟨st, rfl, hst, hb3⟩
      have ST := Lib.hid hst
      have hz3 := hb3.size
      have B4 := Lib.hid (B3.out.next (by omega) hb3)
      have BE3 := Lib.hid (BE.out.trans (hb3.mono (by omega)))
      have HX3 := Lib.hid ((hb3.cell (p := ⟨bl x, 0, none⟩) hxl).trans HX0.out)
      clear hst hb3 hp0
      go_upto_region 7 with ((with_reducible show wpList _ _ _ (Oper.mk _ (Op.store _ _ _) _ _ _ _ :: _) _ _); refine wpList_store_row rfl 75 (.tmp 5) (.tmp 19) rfl w3.heap.size (tbC st) rfl rfl 75 (tbC fun _ => 0) (heap_alloc_new w3 _) (infoT _) (by rw [tbC_size, tbC_size]) (tbC_one _) ?_)
      have A5 := Lib.hid (show Pb ((w3.alloc (.cells #[.int .i64 0, .int .i64 0, .int .i64 0, .int .i64 0, .int .i64 0, .int .i64 0, .int .i64 0, .int .i64 0, .int .i64 0, .int .i64 0, .int .i64 0, .int .i64 0, .int .i64 0, .int .i64 0, .int .i64 0, .int .i64 0, .int .i64 0, .int .i64 0, .int .i64 0, .int .i64 0, .int .i64 0, .int .i64 0, .int .i64 0, .int .i64 0, .int .i64 0, .int .i64 0, .int .i64 0, .int .i64 0, .int .i64 0, .int .i64 0, .int .i64 0, .int .i64 0] 75)).setRow w3.heap.size (tbC st)) w3.heap.size 32 (fun t => .int .i64 (st t)) 75 from setRow_heap _ _ _ _ _ _ (heap_alloc_new w3 _))
      have Y5 := Lib.hid (show Below w3.heap.size w3 ((w3.alloc (.cells #[.int .i64 0, .int .i64 0, .int .i64 0, .int .i64 0, .int .i64 0, .int .i64 0, .int .i64 0, .int .i64 0, .int .i64 0, .int .i64 0, .int .i64 0, .int .i64 0, .int .i64 0, .int .i64 0, .int .i64 0, .int .i64 0, .int .i64 0, .int .i64 0, .int .i64 0, .int .i64 0, .int .i64 0, .int .i64 0, .int .i64 0, .int .i64 0, .int .i64 0, .int .i64 0, .int .i64 0, .int .i64 0, .int .i64 0, .int .i64 0, .int .i64 0, .int .i64 0] 75)).setRow w3.heap.size (tbC st)) from below_setRow ((Below.refl _ _).alloc (Nat.le_refl _) _) (Nat.le_refl _) _)
      obtain ⟨h5, hh5⟩ : ∃ h5, h5 = w3.heap.size := ⟨_, rfl⟩
      have HH5 := Lib.hid hh5
      have hsz5 : w3.heap.size < ((w3.alloc (.cells #[.int .i64 0, .int .i64 0, .int .i64 0, .int .i64 0, .int .i64 0, .int .i64 0, .int .i64 0, .int .i64 0, .int .i64 0, .int .i64 0, .int .i64 0, .int .i64 0, .int .i64 0, .int .i64 0, .int .i64 0, .int .i64 0, .int .i64 0, .int .i64 0, .int .i64 0, .int .i64 0, .int .i64 0, .int .i64 0, .int .i64 0, .int .i64 0, .int .i64 0, .int .i64 0, .int .i64 0, .int .i64 0, .int .i64 0, .int .i64 0, .int .i64 0, .int .i64 0] 75)).setRow w3.heap.size (tbC st)).heap.size := by simp
      rw [← hh5] at A5 Y5 hsz5 ⊢
      have h5e : h5 = w3.heap.size := HH5.out
      clear hh5
      generalize (w3.alloc (.cells #[.int .i64 0, .int .i64 0, .int .i64 0, .int .i64 0, .int .i64 0, .int .i64 0, .int .i64 0, .int .i64 0, .int .i64 0, .int .i64 0, .int .i64 0, .int .i64 0, .int .i64 0, .int .i64 0, .int .i64 0, .int .i64 0, .int .i64 0, .int .i64 0, .int .i64 0, .int .i64 0, .int .i64 0, .int .i64 0, .int .i64 0, .int .i64 0, .int .i64 0, .int .i64 0, .int .i64 0, .int .i64 0, .int .i64 0, .int .i64 0, .int .i64 0, .int .i64 0] 75)).setRow h5 (tbC st) = w5 at *
      have BE5 := Lib.hid (BE3.out.trans (Y5.out.mono (by omega)))
      have B5 := Lib.hid (B4.out.next (by omega) (show Below w3.heap.size w3 w5 from by rw [← h5e]; exact Y5.out))
      have HX5 := Lib.hid ((Y5.out.cell (p := ⟨bl x, 0, none⟩) (by show bl x < h5; omega)).trans HX3.out)
      have hz5 : w.heap.size < w5.heap.size := by omega
      have hz6 : w2.heap.size ≤ w5.heap.size := by omega
      have hz7 : h5 < w5.heap.size := by omega
      have hz8 : bl x < w5.heap.size := by omega
      clear h5e HX0 HX3 Y5 hsz5
      have c1 := B5.out.at1
      go_wp2_with fail
      clear c1
      go_loopw [23] (fun q wq => ∃ k : Nat, k ≤ ns.length ∧ q = .int .i64 k ∧ Hid (isoTo ns i k) ∧ Below w5.heap.size w5 wq) (fun q _ => ns.length - (intOf q).toNat)
      case atStart => exact ⟨0, Nat.zero_le _, rfl, IS, Below.refl _ _⟩
      case round =>
        obtain ⟨k, hk, rfl, IK, hbq⟩ := hrel
        have BQ := Lib.hid hbq
        have B6 := Lib.hid (B5.out.next (by omega) hbq)
        have hzq := hbq.size
        by_cases hkl : k < ns.length
        · have hym := getD_of_lt hkl
          have hy32 := H32.out _ hym
          have hcy := (B6.out.below.cell (p := ⟨b, off + k, none⟩) hbl).trans (H5.out k hkl)
          rw [toI_getD] at hcy
          have hcx := (hbq.cell (p := ⟨bl x, 0, none⟩) (by show bl x < w5.heap.size; omega)).trans HX5.out
          have hkI : (k : Int) < (ns.length : Int) := by omega
          obtain ⟨y, hye⟩ : ∃ y, y = ns.getD k 0 := ⟨_, rfl⟩
          have HYE := Lib.hid hye
          rw [← hye] at hcy hy32
          have hct := (hbq.cell (p := ⟨h5, y, none⟩) (by show h5 < w5.heap.size; omega)).trans (A5.out.cell hy32).1
          have HD5 := Lib.hid (show Dst (nR ns) i k (st y) from HLi.out k hkl _ (by have := ST.out y; rw [HXD.out, HYE.out] at this; rw [HYE.out]; exact this))
          have HNo := Lib.hid (fun hne => HR.out.no hil hkl HD5.out hne)
          have HSt := Lib.hid (fun hd => IK.out.step hd)
          rw [← HXD.out, ← hye] at HNo HSt
          clear hbq hym hye
          generalize st y = z at *
          have hz32 : x ^^^ y < 32 := Nat.xor_lt_two_pow (n := 5) hx32 hy32
          have hxor := i64_xor x y (by omega) (by omega)
          have HZ := Lib.hid (fun w => (implSizeOf (x ^^^ y) hz32 w).mono fun e w' h => And.intro h.1 h.2.symm)
          have hyI : (y : Int) < 32 := by omega
          generalize hpp : pc (x ^^^ y) = p at *
          generalize x ^^^ y = xy at *
          by_cases hzp : z = (p : Int)
          · have HSn := Lib.hid (HSt.out (by rw [← hzp]; exact HD5.out))
            subst hzp
            clear hpp HNo HSt
            go_wp2_with fail
            go_quiet ((go_at_call 71; (try rw [hxor]); exact Calls.quiet_of_same (HZ.out _)))
            go_wp2_with fail
            go_roundw
            case rel => exact ⟨k + 1, by omega, by go_num, HSn, Below.drwN BQ.out nq⟩
            case measure => simp [intOf]; omega
          · have hRf := HNo.out hzp
            subst hRf
            have hzb : (z != (p : Int)) = true := by simp; exact hzp
            clear hpp HNo HSt
            go_wp2_with fail
            go_quiet ((go_at_call 71; (try rw [hxor]); exact Calls.quiet_of_same (HZ.out _)))
            go_wp2_with fail
            go_ret
            exact ⟨rfl, Below.drwN B6.out.below nq⟩
        · obtain rfl : k = ns.length := by omega
          clear hbq
          have IN := Lib.hid (IK.out.next)
          go_wp2_with fail
          go_roundw
          case rel => exact ⟨i + 1, by omega, by go_num, IN, BE5.out.trans (BQ.out.mono (by omega))⟩
          case measure => simp [intOf]; omega
    · obtain rfl : i = ns.length := by omega
      clear hbe
      have hRt := HR.out.yes IS.out
      subst hRt
      go_wp2_with fail
      go_ret
      exact ⟨rfl, B3.out.below⟩

end Go.Proofs.Ytbjaacppomobeaa
