/- The model's FlipClass. Conditions: Sets is a slice of ints. -/
import Derived.Test.YtilhbmohlcocjabFlip
import Derived.Test.YtilhbmohlcocjabApp
import Derived.Test.YtilhbmohlcocjabValS
import Derived.Deep.RegionWith
namespace Go.Proofs.Ytilhbmohlcocjab
open Go.RowKit

theorem specFlip (a b : Nat) (ha : a < 4096) (hb : b < 4096) (w : World) :
    Calls Try.prog 52 #[.int .i64 a, .int .i64 b] w fun e w' => e = .returned (.int .i64 ((a ^^^ b : Nat) : Int)) ∧ w' = w := by
  have h := i64_xor a b ha hb
  go_enter Try.func52, Try.ntmps52
  go_wp2
  go_ret
  exact ⟨rfl, rfl⟩

/-- what f makes of the first k of ns -/
def mapTo (f : Nat → Nat) (ns : List Nat) (k : Nat) : List Nat := (List.range k).map (fun j => f (ns.getD j 0))
theorem mapTo_succ (f : Nat → Nat) (ns : List Nat) (k : Nat) : mapTo f ns (k + 1) = mapTo f ns k ++ [f (ns.getD k 0)] := by simp [mapTo, List.range_succ]
theorem mapTo_length (f : Nat → Nat) (ns : List Nat) (k : Nat) : (mapTo f ns k).length = k := by simp [mapTo]
theorem mapTo_all (f : Nat → Nat) (ns : List Nat) : mapTo f ns ns.length = ns.map f := by
  apply List.ext_getElem
  · simp [mapTo]
  · intro i h1 h2
    have h3 : i < ns.length := by simpa using h2
    simp [mapTo, List.getElem?_eq_getElem h3]

set_option maxHeartbeats 3200000 in
set_option maxRecDepth 100000 in
theorem specFlipClass (n : Int) (v : Value) (zs : List Int) (s : Int) (w : World) (h : Rd w v zs) :
    Calls Try.prog 23 #[.agg #[.int .i64 n, v], .int .i64 s] w (RetClass (flipN n zs s) (flipL n zs s) w) := by
  have H := Lib.hid h
  obtain ⟨a, b, off, cap, rfl, h1, h3, h5⟩ := h
  by_cases hv0 : vldB n zs = true
  · obtain ⟨m, ns, rfl, rfl, hc⟩ := vldB_cls hv0
    have hm := hc.pts
    by_cases hs : setB m s = true
    · obtain ⟨t, rfl, ht, ht32⟩ := setB_nat hm hs
      have hv : inB m (toI ns) t = true := by simp [inB, hv0, hs]
      have HN := Lib.hid (show flipN m (toI ns) t = m by rw [flipN, if_pos hv])
      have HT := Lib.hid (show flipL m (toI ns) t = toI (tidyL (ns.map (fun x => x ^^^ t))) by rw [flipL, if_pos hv, toNat_toI, Int.toNat_natCast])
      have HLT := Lib.hid (show ∀ x ∈ ns.map (fun x => x ^^^ t), x < 32 by
        intro x hx
        obtain ⟨y, hy, rfl⟩ := List.mem_map.1 hx
        exact Nat.xor_lt_two_pow (n := 5) (hc.lt32 y hy) ht32)
      have HC := Lib.hid hc
      have hl := hc.length
      have HV := Lib.hid hv0
      have HS := Lib.hid hs
      rw [toI_length] at h1 h3 h5 H ⊢
      have H5 := Lib.hid h5
      have H1 := Lib.hid h1
      have OB := Lib.hid (show Out m (.slice a ns.length cap) w.heap.size ((w.alloc (Obj.cells #[.int .i64 (m : Int), .slice a ns.length cap] 27)).alloc (Obj.cells #[.int .i64 0, .slice none 0 0] 27)) from ⟨by simp [go_sem], by simp [go_sem], by simp [go_sem], by simp [go_sem]⟩)
      have OR := Lib.hid (show Out 0 (.slice none 0 0) (w.heap.size + 1) ((w.alloc (Obj.cells #[.int .i64 (m : Int), .slice a ns.length cap] 27)).alloc (Obj.cells #[.int .i64 0, .slice none 0 0] 27)) from ⟨by simp [go_sem], by simp [go_sem], by simp [go_sem], by simp [go_sem]⟩)
      clear hs hv hv0 hc h1 h5
      go_enter Try.func23, Try.ntmps23
      go_wp2_with fail
      refine (specValid m _ (toI ns) _ (H.out.below (k := w.heap.size) (by go_grown) (Nat.le_refl _))).mono ?_
      rintro e w1 ⟨rfl, hb⟩
      rw [HV.out]
      have hs1 : w.heap.size + 1 < w1.heap.size := by have := hb.size; simp at this; omega
      have OB1 := Lib.hid (OB.out.next hb (by simp only [World.size_alloc]; omega))
      have OR1 := Lib.hid (OR.out.next hb (by simp only [World.size_alloc]; omega))
      have HB1 := Lib.hid (show Below w.heap.size w w1 from Below.trans (by go_grown) (hb.mono (by simp; omega)))
      clear hb
      have c0 := OB1.out.at0
      have c1 := OB1.out.at1
      go_wp2_with fail
      refine (specValidSet m hm _ _ _).mono ?_
      rintro e w2 ⟨rfl, hb2⟩
      rw [HS.out]
      have hz2 := hb2.size
      have OB2 := Lib.hid (OB1.out.next hb2 (by omega))
      have OR2 := Lib.hid (OR1.out.next hb2 hs1)
      have HB2 := Lib.hid (show Below w.heap.size w w2 from HB1.out.trans (hb2.mono (by omega)))
      clear hb2 c0 c1 OB1 OR1 HB1
      have hs2 : w.heap.size + 1 < w2.heap.size := by omega
      go_wp2_with fail
      go_loopw [5, 6] (fun o i wr => ∃ (k : Nat) (a' : Option Addr) (c' : Nat), k ≤ ns.length ∧ i = .int .i64 k ∧ o = .slice a' k c' ∧ Ints w2.heap.size wr (.slice a' k c') (toI (mapTo (fun x => x ^^^ t) ns k)) ∧ Below w2.heap.size w2 wr) (fun _ i _ => ns.length - (intOf i).toNat)
      case atStart => exact ⟨0, _, _, Nat.zero_le _, rfl, rfl, Ints.lit' (by simp) (by simp), by go_grown⟩
      case round =>
        obtain ⟨k, a', c', hk, rfl, rfl, hin, hbe⟩ := hrel
        have HIN := Lib.hid hin
        have HBE := Lib.hid hbe
        have hz := hbe.size
        clear hin hbe
        have OB3 := Lib.hid (OB2.out.next HBE.out (by omega))
        have d0 := OB3.out.at0
        have d1 := OB3.out.at1
        by_cases hlt : k < ns.length
        · obtain ⟨rfl, hbl⟩ := H1.out (by omega)
          have hcx := (HBE.out.cell (p := ⟨b, off + k, none⟩) (by show b < w2.heap.size; omega)).trans ((HB2.out.cell (p := ⟨b, off + k, none⟩) hbl).trans (H5.out k (by omega)))
          rw [toI_getD] at hcx
          have hx := HC.out.lt32 _ (getD_of_lt hlt)
          have HSu := Lib.hid (mapTo_succ (fun x => x ^^^ t) ns k)
          have HAl := Lib.hid (show (toI (mapTo (fun x => x ^^^ t) ns k)).length = k by rw [toI_length, mapTo_length])
          generalize ns.getD k 0 = x at *
          generalize mapTo (fun x => x ^^^ t) ns k = A at *
          go_wp2_with fail
          refine (specFlip x t (by omega) (by omega) _).mono ?_
          rintro e w3 ⟨rfl, rfl⟩
          generalize x ^^^ t = z at *
          go_wp2_with (at_builtin; refine wpList_app rfl (.tmp 25) (.tmp 33) rfl w2.heap.size _ (toI A) rfl (by exact HIN.out.alloc _) _ _ _ [(z : Int)] rfl (src_cell (by rw [World.cell?_alloc_at _ _ _ _ rfl]; rfl)) (by rw [HAl.out]; omega) (by simp; omega) ?_; intro a1 c1 w4 hin4 hb4 hg4; rw [HAl.out] at hin4; have I4 := Lib.hid hin4; have B4 := Lib.hid (HBE.out.trans (Below.trans ((Below.refl _ _).alloc (by omega) _) hb4)); clear hin4 hb4 hg4; rw [HAl.out])
          go_roundw
          case rel => exact ⟨k + 1, a1, c1, by omega, by go_num, rfl, by rw [HSu.out, toI_append]; exact I4.out, B4.out⟩
          case measure => simp [intOf]; omega
        · obtain rfl : k = ns.length := by omega
          have OR3 := Lib.hid (OR2.out.next HBE.out hs2)
          have HA := Lib.hid (mapTo_all (fun x => x ^^^ t) ns)
          rw [HA.out] at HIN
          have HTD := Lib.hid (fun w h => specTidy (.slice a' ns.length c') (ns.map (fun x => x ^^^ t)) w HLT.out (by rw [List.length_map]; omega) h)
          have HZ := Lib.hid (show w.heap.size + 1 < wr.heap.size by omega)
          generalize tidyL (ns.map (fun x => x ^^^ t)) = L at *
          have HLl := Lib.hid (toI_length L)
          clear OR2
          have r0 := OR3.out.at0
          have r1 := OR3.out.at1
          have q0 := OR3.out.free0
          have q1 := OR3.out.free1
          go_wp2_with fail
          go_region_with (go_at_call 53; refine (HTD.out _ (Rd.below HIN.out.rd (k := wr.heap.size) (by first | exact Below.refl _ _ | exact (Below.refl _ _).drew) (Nat.le_refl _))).mono ?_; rintro e w4 ⟨a4, c4, rfl, hin4, hb4⟩; have hb34 : Below wr.heap.size wr w4 := Below.trans (by first | exact Below.refl _ _ | exact (Below.refl _ _).drew) hb4; have I4 := Lib.hid (show Ints wr.heap.size w4 _ _ from hin4); have OB4 := Lib.hid (OB3.out.next hb34 (by have := HZ.out; omega)); have OR4 := Lib.hid (OR3.out.next hb34 HZ.out); have B4 := Lib.hid (show Below w.heap.size w w4 from (HB2.out.trans (HBE.out.mono (by omega))).trans (hb34.mono (by have := HZ.out; omega))); clear hin4 hb4 hb34; rw [HLl.out] at I4 ⊢; have b0 := OB4.out.at0; have s0 := OR4.out.at0; have s1 := OR4.out.at1; have p0 := OR4.out.free0; have p1 := OR4.out.free1)
          all_goals
            go_wp2_with fail
            refine bodyPost_ret (v := .agg #[.int .i64 (m : Int), .slice a4 L.length c4]) (by simp [results, Try.results23, go_sem, s0, s1]) rfl ?_
            rw [HN.out, HT.out]
            refine ⟨a4, c4, by rw [HLl.out], ?_, ?_⟩
            · rw [HLl.out]
              refine Ints.mono (B := wr.heap.size) ?_ (by have := HZ.out; omega)
              repeat (refine Ints.setCell_below ?_ (by have := HZ.out; simp; omega) _)
              exact I4.out
            · have hb0 := B4.out
              clear r0 r1 q0 q1 b0 s0 s1 p0 p1
              go_grown
    · have hv : inB m (toI ns) s = false := by simp [inB, hv0, hs]
      have HN := Lib.hid (show flipN m (toI ns) s = 0 by rw [flipN, hv]; rfl)
      have HT := Lib.hid (show flipL m (toI ns) s = [] by rw [flipL, hv]; rfl)
      rw [Bool.not_eq_true] at hs
      have HV := Lib.hid hv0
      have HS := Lib.hid hs
      rw [toI_length] at h1 h3 h5 H ⊢
      have OB := Lib.hid (show Out m (.slice a ns.length cap) w.heap.size ((w.alloc (Obj.cells #[.int .i64 (m : Int), .slice a ns.length cap] 27)).alloc (Obj.cells #[.int .i64 0, .slice none 0 0] 27)) from ⟨by simp [go_sem], by simp [go_sem], by simp [go_sem], by simp [go_sem]⟩)
      have OR := Lib.hid (show Out 0 (.slice none 0 0) (w.heap.size + 1) ((w.alloc (Obj.cells #[.int .i64 (m : Int), .slice a ns.length cap] 27)).alloc (Obj.cells #[.int .i64 0, .slice none 0 0] 27)) from ⟨by simp [go_sem], by simp [go_sem], by simp [go_sem], by simp [go_sem]⟩)
      clear hs hv hv0 hc h1 h5
      go_enter Try.func23, Try.ntmps23
      go_wp2_with fail
      refine (specValid m _ (toI ns) _ (H.out.below (k := w.heap.size) (by go_grown) (Nat.le_refl _))).mono ?_
      rintro e w1 ⟨rfl, hb⟩
      rw [HV.out]
      have hs1 : w.heap.size + 1 < w1.heap.size := by have := hb.size; simp at this; omega
      have OB1 := Lib.hid (OB.out.next hb (by simp only [World.size_alloc]; omega))
      have OR1 := Lib.hid (OR.out.next hb (by simp only [World.size_alloc]; omega))
      have HB1 := Lib.hid (show Below w.heap.size w w1 from Below.trans (by go_grown) (hb.mono (by simp; omega)))
      clear hb
      have c0 := OB1.out.at0
      have c1 := OB1.out.at1
      go_wp2_with fail
      refine (specValidSet m hm _ _ _).mono ?_
      rintro e w2 ⟨rfl, hb2⟩
      rw [HS.out]
      have OR2 := Lib.hid (OR1.out.next hb2 hs1)
      have HB2 := Lib.hid (show Below w.heap.size w w2 from HB1.out.trans (hb2.mono (by omega)))
      clear hb2 c0 c1 OB1 OR1 HB1
      have r0 := OR2.out.at0
      have r1 := OR2.out.at1
      have q0 := OR2.out.free0
      have q1 := OR2.out.free1
      go_wp2_with fail
      refine bodyPost_ret (v := .agg #[.int .i64 0, .slice none 0 0]) (by simp [results, Try.results23, go_sem, r0, r1]) rfl ?_
      rw [HN.out, HT.out]
      refine ⟨none, 0, rfl, Ints.nil _ _, ?_⟩
      have hb0 := HB2.out
      clear r0 r1 q0 q1
      go_grown
  · have hv : inB n zs s = false := by simp [inB, hv0]
    have HN := Lib.hid (show flipN n zs s = 0 by rw [flipN, hv]; rfl)
    have HT := Lib.hid (show flipL n zs s = [] by rw [flipL, hv]; rfl)
    rw [Bool.not_eq_true] at hv0
    have HV := Lib.hid hv0
    clear hv hv0
    go_enter Try.func23, Try.ntmps23
    go_wp2_with fail
    refine (specValid n _ zs _ (H.out.below (k := w.heap.size) (by go_grown) (Nat.le_refl _))).mono ?_
    rintro e w1 ⟨rfl, hb⟩
    rw [HV.out]
    obtain ⟨hc, hf⟩ := bcell hb
    have Hb := Lib.hid hb
    clear hb
    go_wp2_with fail
    refine bodyPost_ret (v := .agg #[.int .i64 0, .slice none 0 0]) (by simp [results, Try.results23, go_sem, hc]) rfl ?_
    rw [HN.out, HT.out]
    refine ⟨none, 0, rfl, Ints.nil _ _, ?_⟩
    have hb0 : Below w.heap.size w w1 := Below.trans (by go_grown) (Hb.out.mono (by simp; omega))
    clear hc hf
    go_grown

end Go.Proofs.Ytilhbmohlcocjab
