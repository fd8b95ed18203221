/- IsTeaching, the program's. Conditions: Sets is a slice of ints; the table setsWith is laid. -/
import Derived.Deep.RegionWith
import Derived.Test.YtnoppclajhfnjaaDoorTeach
import Derived.Test.YtnoppclajhfnjaaDoorTeachS
import Derived.Test.YtnoppclajhfnjaaDoorZU
namespace Go.Proofs.YtnoppclajhfnjaaDoor
open Go.RowKit

set_option maxRecDepth 100000 in
set_option maxHeartbeats 3200000 in
theorem implTeaches (l : List Nat) (t s : Nat) (h32 : ∀ u ∈ l, u < 32) (hp : l.Pairwise (· < ·)) (ht : t < 32) (hs : s < 32) (w : World) (hsw : SW w) :
    Calls Tryd.prog 72 #[.int .u32 (fm l), .int .i64 (t : Int), .int .i64 (s : Int)] w fun e w' => e = .returned (.bool (tch t s l)) ∧ Below w.heap.size w w' := by
  have HA := Lib.hid (fun w0 h0 => implAgreeing l t s h32 ht hs w0 h0)
  have hm : (2 : Int) ^ t % 4294967296 = 2 ^ t := by
    have key : ∀ s : Fin 32, (2 : Int) ^ (s : Nat) % 4294967296 = 2 ^ (s : Nat) := by decide +kernel
    exact key ⟨t, ht⟩
  have hw : IntKind.u32.wrap ((2 : Int) ^ t) = 2 ^ t := by rw [show IntKind.u32.wrap ((2 : Int) ^ t) = (2 : Int) ^ t % 4294967296 from rfl, hm]
  have HE := Lib.hid (show tch t s l = (fm (agr t s l) == (2 : Int) ^ t) by
    rw [Bool.eq_iff_iff, tch, beq_iff_eq, beq_iff_eq]
    exact (fm_inj (fun u hu => h32 u (agr_sub hu)) (hp.filter _) ht).symm)
  have HSW := Lib.hid hsw
  rw [HE.out]
  generalize fm (agr t s l) = A at *
  generalize fm l = F at *
  clear HE hsw
  go_enter Tryd.func72, Tryd.ntmps72
  go_wp2_with fail
  go_region_with (first
    | (go_at_call 102; refine (HA.out _ (by first | exact HSW.out | exact (show SW (World.drew _) from HSW.out))).mono ?_; rintro e w1 ⟨rfl, hb1⟩; have HB1 := Lib.hid (show Below w.heap.size w w1 by first | exact hb1 | exact ⟨hb1.os, hb1.tape, hb1.output, hb1.size, hb1.block⟩); clear hb1))
  all_goals
    go_wp2_with fail
    go_ret
    exact ⟨rfl, HB1.out⟩

theorem iteB_t {m : Nat} {ns : List Nat} {t s : Int} (hc : Cls m ns) (h : setB m t = false) : iteB (m : Int) (toI ns) t s = false := by
  rw [iteB, toNat_toI, tcB]
  have : hasB (toI ns) t = false := by
    simp only [hasB, decide_eq_false_iff_not]
    intro hm
    obtain ⟨u, hu, rfl⟩ := List.mem_map.1 hm
    have h2 := hc.lt u hu
    have h3 : ((2 ^ m : Nat) : Int) = (2 : Int) ^ m := by simp
    simp only [setB, Bool.and_eq_false_iff, decide_eq_false_iff_not] at h
    omega
  rw [this]
  simp
theorem iteB_in {m : Nat} {ns : List Nat} {t s : Nat} (hv : vldB m (toI ns) = true) (hs : setB m (s : Int) = true) : iteB (m : Int) (toI ns) (t : Int) (s : Int) = tch t s ns := by
  rw [iteB, hv, Int.toNat_natCast, hs, toNat_toI, Int.toNat_natCast, tcB, Int.toNat_natCast, hasB_nat, tch_count]
  cases decide (t ∈ ns) <;> simp

set_option maxRecDepth 100000 in
set_option maxHeartbeats 3200000 in
theorem implIsTeaching (n : Int) (v : Value) (zs : List Int) (t s : Int) (w : World) (h : Rd w v zs) (hsw : SW w) :
    Calls Tryd.prog 26 #[.agg #[.int .i64 n, v], .int .i64 t, .int .i64 s] w fun e w' => e = .returned (.bool (iteB n zs t s)) ∧ Below w.heap.size w w' := by
  have H := Lib.hid h
  have HSW := Lib.hid hsw
  clear hsw
  have HI := Lib.hid (fun r w0 h0 => implIsSetOf n v zs r w0 h0)
  obtain ⟨a, b, off, cap, rfl, _, _, _⟩ := h
  have first : inB n zs t = false → iteB n zs t s = false → Calls Tryd.prog 26 #[.agg #[.int .i64 n, .slice a zs.length cap], .int .i64 t, .int .i64 s] w fun e w' => e = .returned (.bool (iteB n zs t s)) ∧ Below w.heap.size w w' := fun h1 h2 => by
    have HT := Lib.hid (HI.out t)
    rw [h1] at HT
    rw [h2]
    clear h1 h2
    go_enter Tryd.func26, Tryd.ntmps26
    go_wp2_with fail
    refine (HT.out _ (H.out.below (by go_grown) (Nat.le_refl _))).mono ?_
    rintro e w1 ⟨rfl, hb⟩
    have B1 := Lib.hid ((Box.made n (.slice a zs.length cap) w _).next (by simp) hb)
    clear hb
    go_wp2_with fail
    go_ret
    exact ⟨rfl, B1.out.below⟩
  by_cases hv : vldB n zs = true
  · obtain ⟨m, ns, rfl, rfl, hc⟩ := vldB_cls hv
    have hm := hc.pts
    have hin : ∀ r, inB (m : Int) (toI ns) r = setB m r := fun r => by rw [inB, hv]; rfl
    by_cases ht : setB m t = true
    · obtain ⟨u, rfl, hu, hu32⟩ := setB_nat hm ht
      clear first
      have HT := Lib.hid (HI.out (u : Int))
      rw [hin, ht] at HT
      have HR := Lib.hid (HI.out s)
      rw [hin] at HR
      by_cases hs : setB m s = true
      · obtain ⟨r, rfl, hr, hr32⟩ := setB_nat hm hs
        rw [hs] at HR
        have HE := Lib.hid (iteB_in (t := u) hv hs)
        rw [HE.out]
        have HF := Lib.hid (fun w0 h0 => implFamilyOf (m : Int) (.slice a (toI ns).length cap) ns hc.lt32 w0 h0)
        have HX := Lib.hid (fun w0 h0 => implTeaches ns u r hc.lt32 hc.asc hu32 hr32 w0 h0)
        clear HE hs ht hin hc hv HI
        go_enter Tryd.func26, Tryd.ntmps26
        go_wp2_with fail
        refine (HT.out _ (H.out.below (by go_grown) (Nat.le_refl _))).mono ?_
        rintro e w1 ⟨rfl, hb⟩
        have B1 := Lib.hid ((Box.made (m : Int) (.slice a (toI ns).length cap) w _).next (by simp) hb)
        have hs1 : w.heap.size < w1.heap.size := by have := hb.size; simp at this; omega
        clear hb
        have c0 := B1.out.at0
        have c1 := B1.out.at1
        go_wp2_with fail
        refine (HR.out _ (H.out.below B1.out.below (Nat.le_refl _))).mono ?_
        rintro e w2 ⟨rfl, hb⟩
        have B2 := Lib.hid (B1.out.next hs1 hb)
        have hs2 : w.heap.size < w2.heap.size := by have := hb.size; omega
        clear hb c0 c1 B1
        have c0 := B2.out.at0
        have c1 := B2.out.at1
        go_wp2_with fail
        refine (HF.out _ (H.out.below B2.out.below (Nat.le_refl _))).mono ?_
        rintro e w3 ⟨rfl, hb⟩
        have B3 := Lib.hid (B2.out.next hs2 hb)
        have hs3 : w.heap.size < w3.heap.size := by have := hb.size; omega
        clear hb c0 c1 B2
        go_wp2_with fail
        refine (HX.out _ (HSW.out.next B3.out.below)).mono ?_
        rintro e w4 ⟨rfl, hb⟩
        have HB := Lib.hid (B3.out.below.trans (hb.mono B3.out.below.size))
        clear hb
        go_wp2_with fail
        go_ret
        exact ⟨rfl, HB.out⟩
      · rw [Bool.not_eq_true] at hs
        rw [hs] at HR
        have HE := Lib.hid (show iteB (m : Int) (toI ns) (u : Int) s = false by rw [iteB, Int.toNat_natCast, hs]; simp)
        rw [HE.out]
        clear HE hs ht hin hc hv HI
        go_enter Tryd.func26, Tryd.ntmps26
        go_wp2_with fail
        refine (HT.out _ (H.out.below (by go_grown) (Nat.le_refl _))).mono ?_
        rintro e w1 ⟨rfl, hb⟩
        have B1 := Lib.hid ((Box.made (m : Int) (.slice a (toI ns).length cap) w _).next (by simp) hb)
        clear hb
        have c0 := B1.out.at0
        have c1 := B1.out.at1
        go_wp2_with fail
        refine (HR.out _ (H.out.below B1.out.below (Nat.le_refl _))).mono ?_
        rintro e w2 ⟨rfl, hb⟩
        have HB := Lib.hid (B1.out.below.trans (hb.mono B1.out.below.size))
        clear hb
        go_wp2_with fail
        go_ret
        exact ⟨rfl, HB.out⟩
    · rw [Bool.not_eq_true] at ht
      exact first (by rw [hin, ht]) (iteB_t hc ht)
  · rw [Bool.not_eq_true] at hv
    exact first (by rw [inB, hv]; rfl) (iteB_bad hv)

end Go.Proofs.YtnoppclajhfnjaaDoor
