/- The program's ComplementClass. Conditions: Sets is a slice of ints. -/
import Derived.Test.YtejjimfoihhcoaaFlip
import Derived.Test.YtejjimfoihhcoaaCube
namespace Go.Proofs.Ytejjimfoihhcoaa
open Go.RowKit

/-- the other sets -/
def cmpl (m : Nat) (ns : List Nat) : List Nat := (List.range (2 ^ m)).filter (fun s => !decide (s ∈ ns))
theorem cmpl_eq (m : Nat) (ns : List Nat) : (List.range (2 ^ m)).filter (fun y => !hasTo ns ns.length y && decide (y < 2 ^ m)) = cmpl m ns := by
  unfold cmpl
  apply List.filter_congr
  intro y hy
  rw [hasTo_all, decide_eq_true (List.mem_range.1 hy), Bool.and_true]
theorem lt_succ_or (y k : Nat) : (decide (y = k) || decide (y < k)) = decide (y < k + 1) := by
  rw [Bool.eq_iff_iff]
  simp
  omega
def cmN (n : Int) (zs : List Int) : Int := if vldB n zs = true then n else 0
def cmL (n : Int) (zs : List Int) : List Int := if vldB n zs = true then toI (cmpl n.toNat (zs.map Int.toNat)) else []
theorem cmL_len (n : Int) (zs : List Int) : (cmL n zs).length ≤ 1048576 := by
  unfold cmL
  split
  · rename_i hv
    obtain ⟨m, ns, rfl, rfl, hc⟩ := vldB_cls hv
    rw [toI_length, Int.toNat_natCast]
    have := List.length_filter_le (fun s => !decide (s ∈ (toI ns).map Int.toNat)) (List.range (2 ^ m))
    have := pow_le_32 hc.pts
    unfold cmpl
    simp at *
    omega
  · simp

set_option maxHeartbeats 1600000 in
set_option maxRecDepth 100000 in
theorem implComplementClass (n : Int) (v : Value) (zs : List Int) (w : World) (h : Rd w v zs) :
    Calls Try.prog 17 #[.agg #[.int .i64 n, v]] w (RetClass (cmN n zs) (cmL n zs) w) := by
  have H := Lib.hid h
  obtain ⟨a, b, off, cap, rfl, h1, h3, h5⟩ := h
  by_cases hv : vldB n zs = true
  · obtain ⟨m, ns, rfl, rfl, hc⟩ := vldB_cls hv
    have hm := hc.pts
    have hw := wrap_pow m hm
    have HWq := Lib.hid hw.1
    have hw2 := hw.2
    have HP := Lib.hid (show ((2 ^ m : Nat) : Int) = (2 : Int) ^ m by simp)
    have HN := Lib.hid (show cmN m (toI ns) = m by rw [cmN, if_pos hv])
    have HT := Lib.hid (show cmL m (toI ns) = toI (cmpl m ns) by rw [cmL, if_pos hv, toNat_toI, Int.toNat_natCast])
    have HR := Lib.hid (cmpl_eq m ns)
    have HC := Lib.hid hc
    have hl := hc.length
    have HV := Lib.hid hv
    rw [toI_length] at h1 h3 h5 H ⊢
    have H5 := Lib.hid h5
    have H1 := Lib.hid h1
    have hmm := @run_makeMap Try.prog
    have OB := Lib.hid (show Out m (.slice a ns.length cap) w.heap.size ((w.alloc (Obj.cells #[.int .i64 (m : Int), .slice a ns.length cap] 27)).alloc (Obj.cells #[.int .i64 0, .slice none 0 0] 27)) from ⟨by simp [go_sem], by simp [go_sem], by simp [go_sem], by simp [go_sem]⟩)
    have OR := Lib.hid (show Out 0 (.slice none 0 0) (w.heap.size + 1) ((w.alloc (Obj.cells #[.int .i64 (m : Int), .slice a ns.length cap] 27)).alloc (Obj.cells #[.int .i64 0, .slice none 0 0] 27)) from ⟨by simp [go_sem], by simp [go_sem], by simp [go_sem], by simp [go_sem]⟩)
    clear hv hc h1 h5 hw
    go_enter Try.func17, Try.ntmps17
    go_wp2_with fail
    refine (implValid m _ (toI ns) _ (H.out.below (k := w.heap.size) (by go_grown) (Nat.le_refl _))).mono ?_
    rintro e w1 ⟨rfl, hb⟩
    rw [HV.out]
    have hs1 : w.heap.size + 1 < w1.heap.size := by have := hb.size; simp at this; omega
    have OB1 := Lib.hid (OB.out.next hb (by simp only [World.size_alloc]; omega))
    have OR1 := Lib.hid (OR.out.next hb (by simp only [World.size_alloc]; omega))
    have HB1 := Lib.hid (show Below w.heap.size w w1 from Below.trans (by go_grown) (hb.mono (by simp; omega)))
    clear hb
    have c0 := OB1.out.at0
    have c1 := OB1.out.at1
    have cm := (OB1.out.next (show Below w1.heap.size w1 (w1.alloc (.map #[] 0)) from (Below.refl _ _).alloc (Nat.le_refl _) _) (by omega)).at0
    go_wp2_with fail
    clear c0 c1 cm
    go_loopw [15] (fun i wr => ∃ k : Nat, (k : Int) ≤ wrap64 (2 ^ m) ∧ i = .int .i64 k ∧ Keys wr w1.heap.size k (fun y => decide (y < k)) ∧ Below w1.heap.size w1 wr) (fun i _ => 64 - (intOf i).toNat)
    case atStart => exact ⟨0, by omega, rfl, (Keys.made w1).congr (fun y _ => by simp), (Below.refl _ _).alloc (Nat.le_refl _) _⟩
    case round =>
      obtain ⟨k, hk, rfl, hks, hbe⟩ := hrel
      have HK := Lib.hid hks
      have HBE := Lib.hid hbe
      clear hks hbe
      by_cases hlt : (k : Int) < wrap64 (2 ^ m)
      · go_wp2_with (at_mapUpdate; refine wpList_keys_put _ rfl (.tmp 18) (.tmp 19) _ rfl w1.heap.size k _ rfl HK.out (by omega) k (by omega) rfl rfl ?_; intro w2 hk2 hg2)
        have HK2 := Lib.hid hk2
        have HB2 := Lib.hid (HBE.out.grown hg2 HBE.out.size (fun j hj => by cases hj; omega))
        clear hk2 hg2
        go_roundw
        case rel => exact ⟨k + 1, by omega, by go_num, HK2.out.congr (fun y _ => lt_succ_or y k), HB2.out⟩
        case measure => simp [intOf]; omega
      · have HKe := Lib.hid (show k = 2 ^ m by have := HWq.out; have := HP.out; omega)
        have OB2 := Lib.hid (OB1.out.next HBE.out (by omega))
        have OR2 := Lib.hid (OR1.out.next HBE.out hs1)
        have hz2 : w1.heap.size < wr.heap.size := HK.out.lt
        have HB2 := Lib.hid (HB1.out.trans (HBE.out.mono (by omega)))
        have d0 := OB2.out.at0
        have d1 := OB2.out.at1
        go_wp2_with fail
        clear d0 d1
        go_loopw [24] (fun i wq => ∃ j : Nat, j ≤ ns.length ∧ i = .int .i64 j ∧ Keys wq w1.heap.size k (fun y => !hasTo ns j y && decide (y < k)) ∧ Below w1.heap.size wr wq) (fun i _ => ns.length - (intOf i).toNat)
        case atStart => exact ⟨0, Nat.zero_le _, rfl, HK.out.congr (fun y _ => by simp [hasTo]), Below.refl _ _⟩
        case round =>
          obtain ⟨j, hj, rfl, hkq, hbq⟩ := hrel
          have HKq := Lib.hid hkq
          have HBq := Lib.hid hbq
          clear hkq hbq
          by_cases hjl : j < ns.length
          · obtain ⟨rfl, hbl⟩ := H1.out (by omega)
            have hcx := (HBq.out.cell (p := ⟨b, off + j, none⟩) (by show b < w1.heap.size; omega)).trans ((HB2.out.cell (p := ⟨b, off + j, none⟩) hbl).trans (H5.out j (by omega)))
            rw [toI_getD] at hcx
            have hx := HC.out.lt32 _ (getD_of_lt hjl)
            have HS := Lib.hid (hasTo_succ ns j)
            generalize ns.getD j 0 = x at *
            go_wp2_with (at_delete; refine wpList_keys_del _ rfl (.tmp 28) (.tmp 29) rfl w1.heap.size k _ rfl HKq.out x (by omega) rfl ?_; intro w3 hk3 hg3)
            have HK3 := Lib.hid hk3
            have HB3 := Lib.hid (HBq.out.grown hg3 (by have := HBq.out.size; omega) (fun j hj => by cases hj; omega))
            clear hk3 hg3
            go_roundw
            case rel => exact ⟨j + 1, by omega, by go_num, HK3.out.congr (fun y _ => by rw [HS.out y, Bool.not_or, Bool.and_assoc]), HB3.out⟩
            case measure => simp [intOf]; omega
          · obtain rfl : j = ns.length := by omega
            have hzq := HBq.out.size
            have OB3 := Lib.hid (OB2.out.next HBq.out (by omega))
            have OR3 := Lib.hid (OR2.out.next HBq.out (by omega))
            have HB3 := Lib.hid (HB2.out.trans (HBq.out.mono (by omega)))
            have d0 := OB3.out.at0
            have d1 := OB3.out.at1
            go_wp2_with fail
            refine (implClassOf m hm _ _ _ _ HKq.out).mono ?_
            rintro e w4 ⟨a4, c4, rfl, hin4, hb4⟩
            rw [HKe.out] at hin4 ⊢
            rw [HR.out] at hin4 ⊢
            have hz4 := hb4.size
            have OR4 := Lib.hid (OR3.out.next hb4 (by omega))
            have HIN := Lib.hid hin4
            have HB4 := Lib.hid (show Below w.heap.size w w4 from HB3.out.trans (hb4.mono (by omega)))
            clear hin4 hb4 d0 d1
            have r0 := OR4.out.at0
            have r1 := OR4.out.at1
            have q0 := OR4.out.free0
            have q1 := OR4.out.free1
            go_wp2_with fail
            refine bodyPost_ret (v := .agg #[.int .i64 (m : Int), .slice a4 (toI (cmpl m ns)).length c4]) (by simp [results, Try.results17, go_sem, r0, r1]) rfl ?_
            rw [HN.out, HT.out]
            refine ⟨a4, c4, rfl, ?_, ?_⟩
            · refine Ints.mono (B := _) ?_ (show w.heap.size ≤ wr.heap.size by omega)
              repeat (refine Ints.setCell_below ?_ (by simp; omega) _)
              exact HIN.out
            · have hb0 := HB4.out
              clear r0 r1 q0 q1
              go_grown
  · have HN := Lib.hid (show cmN n zs = 0 by rw [cmN, if_neg hv])
    have HT := Lib.hid (show cmL n zs = [] by rw [cmL, if_neg hv])
    rw [Bool.not_eq_true] at hv
    have HV := Lib.hid hv
    clear hv
    go_enter Try.func17, Try.ntmps17
    go_wp2_with fail
    refine (implValid n _ zs _ (H.out.below (k := w.heap.size) (by go_grown) (Nat.le_refl _))).mono ?_
    rintro e w1 ⟨rfl, hb⟩
    rw [HV.out]
    obtain ⟨hc, hf⟩ := bcell hb
    have Hb := Lib.hid hb
    clear hb
    go_wp2_with fail
    refine bodyPost_ret (v := .agg #[.int .i64 0, .slice none 0 0]) (by simp [results, Try.results17, go_sem, hc]) rfl ?_
    rw [HN.out, HT.out]
    refine ⟨none, 0, rfl, Ints.nil _ _, ?_⟩
    have hb0 : Below w.heap.size w w1 := Below.trans (by go_grown) (Hb.out.mono (by simp; omega))
    clear hc hf
    go_grown

end Go.Proofs.Ytejjimfoihhcoaa
