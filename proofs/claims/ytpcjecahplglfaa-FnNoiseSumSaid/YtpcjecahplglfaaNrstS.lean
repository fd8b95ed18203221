/- NearestTo, the model's. Conditions: Sets is a slice of ints. -/
import Derived.Deep.RegionHeld3
import Derived.Test.YtpcjecahplglfaaIdxI
import Derived.Test.YtpcjecahplglfaaNear
import Derived.Test.YtpcjecahplglfaaZB
import Derived.Test.YtpcjecahplglfaaZH
namespace Go.Proofs.Ytpcjecahplglfaa
open Go.RowKit

/-- the distances of the first k sets -/
def dsTo (s : Nat) (ns : List Nat) (k : Nat) : List Int := (ns.take k).map (dis s)
theorem dsTo_len {s : Nat} {ns : List Nat} {k : Nat} (hk : k ≤ ns.length) : (dsTo s ns k).length = k := by simp [dsTo]; omega
theorem dsTo_succ {s : Nat} {ns : List Nat} {k : Nat} (hk : k < ns.length) : dsTo s ns (k + 1) = dsTo s ns k ++ [dis s (ns.getD k 0)] := by
  rw [dsTo, List.take_succ_eq_append_getElem hk, List.map_append, List.getD_eq_getElem?_getD, List.getElem?_eq_getElem hk]; rfl
theorem dsTo_all (s : Nat) (ns : List Nat) : dsTo s ns ns.length = ns.map (dis s) := by rw [dsTo, List.take_length]

set_option maxRecDepth 100000 in
set_option maxHeartbeats 3200000 in
theorem specNearestTo (n : Int) (v : Value) (zs : List Int) (s : Int) (w : World) (h : Rd w v zs) :
    Calls Try.prog 13 #[.agg #[.int .i64 n, v], .int .i64 s] w fun e w' => e = .returned (.tuple #[.int .i64 (nrS n zs s), .int .i64 (nrD n zs s), .bool (nrK n zs s)]) ∧ Below w.heap.size w w' := by
  have H := Lib.hid h
  have HV := Lib.hid (fun w h => specValid n v zs w h)
  obtain ⟨a, b, off, cap, rfl, h1, h3, h5⟩ := h
  have H1 := Lib.hid h1
  have H5 := Lib.hid h5
  clear h1 h5
  by_cases hv : vldB n zs = true
  · obtain ⟨m, ns, rfl, rfl, hc⟩ := vldB_cls hv
    have hm := hc.pts
    have hl := hc.length
    have HS := Lib.hid (fun v w => specValidSet m hm v s w)
    have HV0 := Lib.hid hv
    rw [hv] at HV
    rw [toI_length] at *
    by_cases hs : setB m s = true
    · obtain ⟨t, rfl, ht, ht32⟩ := setB_nat hm hs
      rw [hs] at HS
      by_cases hn : ns = []
      · subst hn
        have hk : nrK (m : Int) (toI []) (t : Int) = false := nrK_nil
        rw [nrS_no hk, nrD_no hk, hk]
        clear hk hs hv hc
        go_enter Try.func13, Try.ntmps13
        go_wp2_with fail
        refine (HV.out _ (H.out.below (k := w.heap.size) (by go_grown) (Nat.le_refl _))).mono ?_
        rintro e w1 ⟨rfl, hb⟩
        have B1 := Lib.hid ((Box.made (m : Int) (.slice a ([] : List Nat).length cap) w _).next (by simp) hb)
        have hs1 : w.heap.size < w1.heap.size := by have := hb.size; simp at this; omega
        clear hb
        have c0 := B1.out.at0
        have c1 := B1.out.at1
        go_wp2_with fail
        refine (HS.out _ _).mono ?_
        rintro e w2 ⟨rfl, hb2⟩
        have B2 := Lib.hid (B1.out.next hs1 hb2)
        clear hb2 c0 c1
        have c0 := B2.out.at0
        have c1 := B2.out.at1
        go_wp2_with fail
        refine bodyPost_ret (v := .tuple #[.int .i64 0, .int .i64 0, .bool false]) (by simp [results, Try.results13, go_sem]) rfl ?_
        exact ⟨rfl, B2.out.below⟩
      · have hk := nrK_in hv hs hn
        rw [nrS_in hk, nrD_in hk, hk]
        obtain ⟨g1, _, _, j, hj, hS, hM, hM2⟩ := fst_idx (dis_nat t) hn
        have HSm := Lib.hid (fun v w h => specSmallest v (ns.map (dis t)) w h)
        rw [List.length_map, ← g1] at HSm
        have HIx := Lib.hid (fun v w h => specIndexInt v (ns.map (dis t)) (fstM (dis t) ns) j w h (by rw [List.length_map]; exact hj) hM hM2)
        have HMl := Lib.hid (dsTo_all t ns)
        rw [← HMl.out] at HSm HIx
        rw [hS]
        generalize hxj : ns.getD j 0 = xj
        have HXj := Lib.hid hxj
        clear hxj
        have HC := Lib.hid hc
        have hl0 : 0 < ns.length := List.length_pos_iff.2 hn
        have hd0 : (((ns.length : Nat) : Int) == 0) = false := by simp; omega
        generalize fstM (dis t) ns = D at *
        clear hk hs hv hc g1 hS hM hM2 hn HMl
        go_enter Try.func13, Try.ntmps13
        go_wp2_with fail
        refine (HV.out _ (H.out.below (k := w.heap.size) (by go_grown) (Nat.le_refl _))).mono ?_
        rintro e w1 ⟨rfl, hb⟩
        have B1 := Lib.hid ((Box.made (m : Int) (.slice a ns.length cap) w _).next (by simp) hb)
        have hs1 : w.heap.size < w1.heap.size := by have := hb.size; simp at this; omega
        clear hb
        have c0 := B1.out.at0
        have c1 := B1.out.at1
        go_wp2_with fail
        refine (HS.out _ _).mono ?_
        rintro e w2 ⟨rfl, hb2⟩
        have B2 := Lib.hid (B1.out.next hs1 hb2)
        have hs2 : w.heap.size < w2.heap.size := by have := hb2.size; omega
        clear hb2 c0 c1
        have c0 := B2.out.at0
        have c1 := B2.out.at1
        go_wp2_with fail
        clear c0 c1
        go_loopw [7, 8] (fun o i wr => ∃ (k : Nat) (a' : Option Addr) (c' : Nat), k ≤ ns.length ∧ i = .int .i64 k ∧ o = .slice a' k c' ∧ Ints w2.heap.size wr (.slice a' k c') (dsTo t ns k) ∧ Below w2.heap.size w2 wr) (fun _ i _ => ns.length - (intOf i).toNat)
        case atStart => exact ⟨0, _, _, Nat.zero_le _, rfl, rfl, Ints.lit' (by first | omega | simp) (by first | omega | simp), by go_grown⟩
        case round =>
          obtain ⟨k, a', c', hk, rfl, rfl, hin, hbe⟩ := hrel
          have HIN := Lib.hid hin
          have BR := Lib.hid (B2.out.next hs2 hbe)
          have HBE := Lib.hid hbe
          have hz := hbe.size
          clear hin hbe
          have c0 := BR.out.at0
          have c1 := BR.out.at1
          by_cases hlt : k < ns.length
          · obtain ⟨rfl, hbl⟩ := H1.out (by omega)
            have hc0 := (BR.out.below.cell (p := ⟨b, off + k, none⟩) hbl).trans (H5.out k (by omega))
            rw [toI_getD] at hc0
            have hx32 := HC.out.lt32 _ (getD_of_lt hlt)
            have HD := Lib.hid (dsTo_succ (s := t) hlt)
            have HAl := Lib.hid (dsTo_len (s := t) hk)
            generalize ns.getD k 0 = x at *
            have h32 : x ^^^ t < 32 := Nat.xor_lt_two_pow (n := 5) hx32 ht32
            have HF := Lib.hid (fun w => specFlip x t (by omega) (by omega) w)
            have HZ := Lib.hid (fun w => specSize (x ^^^ t) h32 w)
            have HDx := Lib.hid (show dis t x = ((pc (x ^^^ t) : Nat) : Int) from rfl)
            generalize dsTo t ns k = A at *
            go_wp2_with fail
            refine (HF.out _).mono ?_
            rintro e w3 ⟨rfl, hw3⟩
            subst w3
            generalize x ^^^ t = y at *
            go_wp2_with fail
            refine (HZ.out _).mono ?_
            rintro e w3 ⟨rfl, rfl⟩
            generalize pc y = q at *
            have hq : A.length + 1 ≤ 1000000000 := by rw [HAl.out]; omega
            go_wp2_with (at_builtin; refine wpList_app rfl (.tmp 33) (.tmp 42) rfl w2.heap.size _ A rfl (by exact HIN.out.alloc _) _ _ _ [(q : Int)] rfl (src_cell (by rw [World.cell?_alloc_at _ _ _ _ rfl]; rfl)) hq (by simp; omega) ?_; intro a1 c1' w4 hin4 hb4 hg4)
            rw [HAl.out] at hin4
            have I4 := Lib.hid hin4
            have HB4 := Lib.hid (show Below w2.heap.size w2 w4 from HBE.out.trans (Below.trans ((Below.refl _ _).alloc (by omega) _) hb4))
            clear hin4 hb4 hg4 hq c0 c1
            go_roundw
            case rel => exact ⟨k + 1, a1, c1', by omega, by go_num, by rw [HAl.out], by rw [HD.out, HDx.out]; exact I4.out, HB4.out⟩
            case measure => simp [intOf]; omega
          · obtain rfl : k = ns.length := by omega
            have hcj := (BR.out.below.cell (p := ⟨b, off + j, none⟩) (H1.out (by omega)).2).trans (H5.out j (by omega))
            obtain ⟨rfl, -⟩ := H1.out (by omega)
            rw [toI_getD, HXj.out] at hcj
            go_wp2_with fail
            refine (HSm.out _ _ HIN.out.rd).mono ?_
            rintro e w3 ⟨rfl, rfl⟩
            go_wp2_with fail
            go_quiet ((go_at_call 43; exact Calls.quiet_of_same ((HIx.out _ _ ((HIN.out.drewN _).rd)).mono (fun e w' h => And.intro h.1 h.2.symm))))
            go_wp2_with fail
            refine bodyPost_ret (v := .tuple #[.int .i64 (xj : Int), .int .i64 D, .bool true]) (by simp [results, Try.results13, go_sem]) rfl ?_
            exact ⟨rfl, below_drewN BR.out.below _⟩
    · rw [Bool.not_eq_true] at hs
      rw [hs] at HS
      have hk := nrK_out (zs := toI ns) hs
      rw [nrS_no hk, nrD_no hk, hk]
      clear hk hs hv hc
      go_enter Try.func13, Try.ntmps13
      go_wp2_with fail
      refine (HV.out _ (H.out.below (k := w.heap.size) (by go_grown) (Nat.le_refl _))).mono ?_
      rintro e w1 ⟨rfl, hb⟩
      have B1 := Lib.hid ((Box.made (m : Int) (.slice a ns.length cap) w _).next (by simp) hb)
      have hs1 : w.heap.size < w1.heap.size := by have := hb.size; simp at this; omega
      clear hb
      have c0 := B1.out.at0
      have c1 := B1.out.at1
      go_wp2_with fail
      refine (HS.out _ _).mono ?_
      rintro e w2 ⟨rfl, hb2⟩
      have B2 := Lib.hid (B1.out.next hs1 hb2)
      clear hb2 c0 c1
      go_wp2_with fail
      refine bodyPost_ret (v := .tuple #[.int .i64 0, .int .i64 0, .bool false]) (by simp [results, Try.results13, go_sem]) rfl ?_
      exact ⟨rfl, B2.out.below⟩
  · rw [Bool.not_eq_true] at hv
    have hk := nrK_bad (s := s) hv
    rw [nrS_no hk, nrD_no hk, hk]
    rw [hv] at HV
    clear hk hv
    go_enter Try.func13, Try.ntmps13
    go_wp2_with fail
    refine (HV.out _ (H.out.below (k := w.heap.size) (by go_grown) (Nat.le_refl _))).mono ?_
    rintro e w1 ⟨rfl, hb⟩
    have B1 := Lib.hid ((Box.made n (.slice a zs.length cap) w _).next (by simp) hb)
    clear hb
    go_wp2_with fail
    refine bodyPost_ret (v := .tuple #[.int .i64 0, .int .i64 0, .bool false]) (by simp [results, Try.results13, go_sem]) rfl ?_
    exact ⟨rfl, B1.out.below⟩

end Go.Proofs.Ytpcjecahplglfaa
