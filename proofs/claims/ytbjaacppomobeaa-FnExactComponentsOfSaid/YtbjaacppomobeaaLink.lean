/- The program's LinkOf. Conditions: Sets is a slice of ints. -/
import Derived.Test.YtbjaacppomobeaaZH
namespace Go.Proofs.Ytbjaacppomobeaa
open Go.RowKit

/-- is s a set without x that is there with x, too? -/
def lnkP (x : Nat) (ns : List Nat) (s : Nat) : Bool := !(hasX x s) && decide (s + 2 ^ x ∈ ns)
theorem or_add {x s : Nat} (hx : x < 5) (hs : s < 32) (h : ¬ hasX x s = true) : s ||| 2 ^ x = s + 2 ^ x := by
  have key : ∀ x : Fin 5, ∀ s : Fin 32, ¬ hasX x s = true → (s : Nat) ||| 2 ^ (x : Nat) = s + 2 ^ (x : Nat) := by decide +kernel
  exact key ⟨x, hx⟩ ⟨s, hs⟩ h
theorem shr_and1 (s x : Nat) (hs : s < 32) (_hx : x < 5) : bits .and .i64 ((s : Int) / 2 ^ x) 1 = ((s / 2 ^ x % 2 : Nat) : Int) := by
  have h1 : ((s : Int) / 2 ^ x) = ((s / 2 ^ x : Nat) : Int) := by simp
  have h2 : s / 2 ^ x < 4096 := Nat.lt_of_le_of_lt (Nat.div_le_self _ _) (by omega)
  have h3 := i64_and (s / 2 ^ x) 1 h2 (by omega)
  rw [h1]
  rw [Nat.and_one_is_mod] at h3
  exact h3
def lnkL (n : Int) (zs : List Int) (x : Int) : List Int := if ptB n zs x = true then toI (tidyL (((zs.map Int.toNat).filter (lnkP x.toNat (zs.map Int.toNat))).map (rmv x.toNat))) else []
theorem lnkL_len (n : Int) (zs : List Int) (x : Int) : (lnkL n zs x).length ≤ 1048576 := by
  unfold lnkL
  split
  · rw [toI_length]
    have := flt_length (fun p => decide (p ∈ ((zs.map Int.toNat).filter (lnkP x.toNat (zs.map Int.toNat))).map (rmv x.toNat)))
    unfold tidyL
    omega
  · simp

set_option maxHeartbeats 1600000 in
set_option maxRecDepth 100000 in
theorem implLinkOf (n : Int) (v : Value) (zs : List Int) (s : Int) (w : World) (h : Rd w v zs) :
    Calls Try.prog 36 #[.agg #[.int .i64 n, v], .int .i64 s] w (RetClass (rmN n zs s) (lnkL n zs s) w) := by
  have H := Lib.hid h
  obtain ⟨a, b, off, cap, rfl, h1, h3, h5⟩ := h
  by_cases hv : ptB n zs s = true
  · obtain ⟨m, t, ns, rfl, rfl, rfl, hc, ht, hm, hv0⟩ := ptB_nat hv
    have HN := Lib.hid (show rmN m (toI ns) t = (m : Int) - 1 by rw [rmN, if_pos hv])
    have HT := Lib.hid (show lnkL m (toI ns) t = toI (tidyL ((ns.filter (lnkP t ns)).map (rmv t))) by rw [lnkL, if_pos hv, toNat_toI, Int.toNat_natCast])
    have HR := Lib.hid (range_tidy (m := m - 1) (by omega) (l := (ns.filter (lnkP t ns)).map (rmv t)) (by
      intro x hx
      obtain ⟨y, hy, rfl⟩ := List.mem_map.1 hx
      exact rmv_lt ht hm (hc.lt y (List.mem_filter.1 hy).1)))
    have HM := Lib.hid (show (m : Int) - 1 = ((m - 1 : Nat) : Int) by omega)
    have HC := Lib.hid hc
    have hl := hc.length
    have HV := Lib.hid hv
    rw [toI_length] at h1 h3 h5 H ⊢
    have H5 := Lib.hid h5
    have H1 := Lib.hid h1
    have hmm := @run_makeMap Try.prog
    have OB := Lib.hid (show Out m (.slice a ns.length cap) w.heap.size ((w.alloc (Obj.cells #[.int .i64 (m : Int), .slice a ns.length cap] 28)).alloc (Obj.cells #[.int .i64 0, .slice none 0 0] 28)) from ⟨by simp [go_sem], by simp [go_sem], by simp [go_sem], by simp [go_sem]⟩)
    have OR := Lib.hid (show Out 0 (.slice none 0 0) (w.heap.size + 1) ((w.alloc (Obj.cells #[.int .i64 (m : Int), .slice a ns.length cap] 28)).alloc (Obj.cells #[.int .i64 0, .slice none 0 0] 28)) from ⟨by simp [go_sem], by simp [go_sem], by simp [go_sem], by simp [go_sem]⟩)
    clear hv hv0 hc h1 h5
    go_enter Try.func36, Try.ntmps36
    go_wp2_with fail
    refine (implIsPointOf m _ (toI ns) t _ (H.out.below (k := w.heap.size) (by go_grown) (Nat.le_refl _))).mono ?_
    rintro e w1 ⟨rfl, hb⟩
    rw [HV.out]
    have hs1 : w.heap.size + 1 < w1.heap.size := by have := hb.size; simp at this; omega
    have OB1 := Lib.hid (OB.out.next hb (by simp only [World.size_alloc]; omega))
    have OR1 := Lib.hid (OR.out.next hb (by simp only [World.size_alloc]; omega))
    have HB1 := Lib.hid (show Below w.heap.size w w1 from Below.trans (by go_grown) (hb.mono (by simp; omega)))
    clear hb
    have c0 := OB1.out.at0
    have c1 := OB1.out.at1
    go_wp2_with fail
    refine (implKeysOf m _ ns _ ((H.out.below HB1.out (Nat.le_refl _))) hl HC.out.lt32).mono ?_
    rintro e w2 ⟨rfl, hk0, hb2⟩
    clear c0 c1
    have hs2 : w1.heap.size ≤ w2.heap.size := hb2.size
    have hs2' : w1.heap.size + 1 < w2.heap.size := hk0.lt
    have K0 := Lib.hid hk0
    have OB2 := Lib.hid (OB1.out.next hb2 (by omega))
    have OR2 := Lib.hid (OR1.out.next hb2 (by omega))
    have HB2 := Lib.hid (HB1.out.trans (hb2.mono (by omega)))
    clear hk0 hb2 OB1 OR1
    have c0 := OB2.out.at0
    have c1 := OB2.out.at1
    have cm := (OB2.out.next (show Below w2.heap.size w2 (w2.alloc (.map #[] 0)) from (Below.refl _ _).alloc (Nat.le_refl _) _) (by omega)).at1
    go_wp2_with fail
    clear c0 c1 cm
    go_loopw [20] (fun i wr => ∃ k : Nat, k ≤ ns.length ∧ i = .int .i64 k ∧ Keys wr w2.heap.size k (hasPF (lnkP t ns) (rmv t) ns k) ∧ Below w2.heap.size w2 wr) (fun i _ => ns.length - (intOf i).toNat)
    case atStart => exact ⟨0, Nat.zero_le _, rfl, (Keys.made w2).congr (fun _ _ => rfl), (Below.refl _ _).alloc (Nat.le_refl _) _⟩
    case round =>
      obtain ⟨k, hk, rfl, hks, hbe⟩ := hrel
      have HK := Lib.hid hks
      have HBE := Lib.hid hbe
      clear hks hbe
      by_cases hlt : k < ns.length
      · obtain ⟨rfl, hbl⟩ := H1.out (by omega)
        have hcx := (HBE.out.cell (p := ⟨b, off + k, none⟩) (by show b < w2.heap.size; omega)).trans ((HB2.out.cell (p := ⟨b, off + k, none⟩) hbl).trans (H5.out k (by omega)))
        rw [toI_getD] at hcx
        have hx := HC.out.lt32 _ (getD_of_lt hlt)
        have HY := Lib.hid (fun h => hasPF_yes (P := lnkP t ns) (f := rmv t) (ns := ns) (k := k) h)
        have HNo := Lib.hid (fun h => hasPF_no (P := lnkP t ns) (f := rmv t) (ns := ns) (k := k) h)
        have HP := Lib.hid (show lnkP t ns (ns.getD k 0) = (!(hasX t (ns.getD k 0)) && decide (ns.getD k 0 + 2 ^ t ∈ ns)) from rfl)
        generalize ns.getD k 0 = x at *
        have HZ := Lib.hid (rmv_and (x := t) (by omega) hx).2.2
        have hand := shr_and1 x t hx (by omega)
        have hp2 := two_pow_le t (by omega)
        by_cases hh : hasX t x = true
        · have HF := Lib.hid (HNo.out (by rw [HP.out, hh]; rfl))
          have hh1 : x / 2 ^ t % 2 = 1 := by simpa [hasX] using hh
          rw [hh1] at hand
          clear hh hh1
          go_wp2_with fail
          go_roundw
          case rel => exact ⟨k + 1, by omega, by go_num, by rw [HF.out]; exact HK.out.mono (by omega), HBE.out⟩
          case measure => simp [intOf]; omega
        · have HA := Lib.hid (or_add (x := t) (by omega) hx hh)
          have hor : bits .or .i64 (x : Int) ((2 : Int) ^ t) = ((x + 2 ^ t : Nat) : Int) := by
            rw [show ((2 : Int) ^ t) = ((2 ^ t : Nat) : Int) by simp, i64_or _ _ (by omega) (by have := pow_le_32 (n := t) (by omega); omega), HA.out]
          have hlook := (K0.out.below HBE.out (by omega)).look (x + 2 ^ t) (by have := pow_le_32 (n := t) (by omega); omega)
          have hh0 : x / 2 ^ t % 2 = 0 := by simp [hasX] at hh; omega
          rw [hh0] at hand
          rw [Bool.not_eq_true] at hh
          by_cases hq : decide (x + 2 ^ t ∈ ns) = true
          · have HF := Lib.hid (HY.out (by rw [HP.out, hh, hq]; rfl))
            rw [hq] at hlook
            clear hh hh0 hq
            generalize ((x + 2 ^ t : Nat) : Int) = y at *
            go_wp2_with fail
            refine (implWithout x t hx (by omega) _).mono ?_
            rintro e w9 ⟨rfl, rfl⟩
            have hz := HZ.out
            generalize rmv t x = z at *
            go_wp2_with (at_mapUpdate; refine wpList_keys_put _ rfl (.tmp 37) (.tmp 40) _ rfl w2.heap.size k _ rfl HK.out (by omega) z (by omega) rfl rfl ?_; intro w3 hk3 hg3)
            have HK3 := Lib.hid hk3
            have HB3 := Lib.hid (HBE.out.grown hg3 HBE.out.size (fun j hj => by cases hj; omega))
            clear hk3 hg3
            go_roundw
            case rel => exact ⟨k + 1, by omega, by go_num, HK3.out.congr (fun y _ => by rw [HF.out y]), HB3.out⟩
            case measure => simp [intOf]; omega
          · rw [Bool.not_eq_true] at hq
            have HF := Lib.hid (HNo.out (by rw [HP.out, hh, hq]; rfl))
            rw [hq] at hlook
            clear hh hh0 hq
            generalize ((x + 2 ^ t : Nat) : Int) = y at *
            go_wp2_with fail
            go_roundw
            case rel => exact ⟨k + 1, by omega, by go_num, by rw [HF.out]; exact HK.out.mono (by omega), HBE.out⟩
            case measure => simp [intOf]; omega
      · obtain rfl : k = ns.length := by omega
        have OB3 := Lib.hid (OB2.out.next HBE.out (by omega))
        have OR3 := Lib.hid (OR2.out.next HBE.out (by omega))
        have d0 := OB3.out.at0
        have d1 := OB3.out.at1
        have HKK := Lib.hid (HK.out.congr (fun y _ => hasPF_all (lnkP t ns) (rmv t) ns y))
        go_wp2_with fail
        rw [HM.out]
        refine (implClassOf (m - 1) (by omega) _ _ _ _ HKK.out).mono ?_
        rintro e w4 ⟨a4, c4, rfl, hin4, hb4⟩
        rw [HR.out] at hin4 ⊢
        have hz4 := hb4.size
        have hz2 := HBE.out.size
        have OR4 := Lib.hid (OR3.out.next hb4 (by omega))
        have HIN := Lib.hid hin4
        have HB4 := Lib.hid (show Below w.heap.size w w4 from (HB2.out.trans (HBE.out.mono (by omega))).trans (hb4.mono (by omega)))
        clear hin4 hb4 d0 d1
        have r0 := OR4.out.at0
        have r1 := OR4.out.at1
        have q0 := OR4.out.free0
        have q1 := OR4.out.free1
        go_wp2_with fail
        refine bodyPost_ret (v := .agg #[.int .i64 ((m - 1 : Nat) : Int), .slice a4 (toI (tidyL ((ns.filter (lnkP t ns)).map (rmv t)))).length c4]) (by simp [results, Try.results36, go_sem, r0, r1]) rfl ?_
        rw [HN.out, HT.out, HM.out]
        refine ⟨a4, c4, rfl, ?_, ?_⟩
        · refine Ints.mono (B := _) ?_ (show w.heap.size ≤ wr.heap.size by omega)
          repeat (refine Ints.setCell_below ?_ (by simp; omega) _)
          exact HIN.out
        · have hb0 := HB4.out
          clear r0 r1 q0 q1
          go_grown
  · have HN := Lib.hid (show rmN n zs s = 0 by rw [rmN, if_neg hv])
    have HT := Lib.hid (show lnkL n zs s = [] by rw [lnkL, if_neg hv])
    rw [Bool.not_eq_true] at hv
    have HV := Lib.hid hv
    clear hv
    go_enter Try.func36, Try.ntmps36
    go_wp2_with fail
    refine (implIsPointOf n _ zs s _ (H.out.below (k := w.heap.size) (by go_grown) (Nat.le_refl _))).mono ?_
    rintro e w1 ⟨rfl, hb⟩
    rw [HV.out]
    obtain ⟨hc, hf⟩ := bcell hb
    have Hb := Lib.hid hb
    clear hb
    go_wp2_with fail
    refine bodyPost_ret (v := .agg #[.int .i64 0, .slice none 0 0]) (by simp [results, Try.results36, go_sem, hc]) rfl ?_
    rw [HN.out, HT.out]
    refine ⟨none, 0, rfl, Ints.nil _ _, ?_⟩
    have hb0 : Below w.heap.size w w1 := Below.trans (by go_grown) (Hb.out.mono (by simp; omega))
    clear hc hf
    go_grown

end Go.Proofs.Ytbjaacppomobeaa
