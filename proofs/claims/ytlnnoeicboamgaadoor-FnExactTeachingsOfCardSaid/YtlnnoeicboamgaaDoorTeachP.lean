/- IsTeaching, the program's. Conditions: Sets is a slice of ints; the table setsWith is laid. -/
import Derived.Deep.RegionWith
import Derived.Test.YtlnnoeicboamgaaDoorTeach
import Derived.Test.YtlnnoeicboamgaaDoorTeachS
import Derived.Test.YtlnnoeicboamgaaDoorZU
namespace Go.Proofs.YtlnnoeicboamgaaDoor
open Go.RowKit

set_option maxRecDepth 100000 in
set_option maxHeartbeats 3200000 in
theorem implTeaches (l : List Nat) (t s : Nat) (h32 : ∀ u ∈ l, u < 32) (hp : l.Pairwise (· < ·)) (ht : t < 32) (hs : s < 32) (w : World) (hsw : SW w) :
    Calls Tryd.prog 64 #[.int .u32 (fm l), .int .i64 (t : Int), .int .i64 (s : Int)] w fun e w' => e = .returned (.bool (tch t s l)) ∧ Below w.heap.size w w' := by
  have HA := Lib.hid (fun w0 h0 => implAgreeing l t s h32 ht hs w0 h0)
  have hm : (2 : Int) ^ t % 4294967296 = 2 ^ t := by
    have key : ∀ s : Fin 32, (2 : Int) ^ (s : Nat) % 4294967296 = 2 ^ (s : Nat) := by decide +kernel
    exact key ⟨t, ht⟩
  have hw : IntKind.u32.wrap ((2 : Int) ^ t) = 2 ^ t := by rw [show IntKind.u32.wrap ((2 : Int) ^ t) = (2 : Int) ^ t % 4294967296 from rfl, hm]
  have HE := Lib.hid (show tch t s l = (fm (agr t s l) == (2 : Int) ^ t) by
    rw [Bool.eq_iff_iff, tch, beq_iff_eq, beq_iff_eq]
    exact (fm_inj (fun u hu => h32 u (agr_sub hu)) (hp.filter _) ht).symm)
  have HSW := Lib.hid hsw
  rw [HE.out]
  generalize fm (agr t s l) = A at *
  generalize fm l = F at *
  clear HE hsw
  go_enter Tryd.func64, Tryd.ntmps64
  go_wp2_with fail
  go_region_with (first
    | (go_at_call 85; refine (HA.out _ (by first | exact HSW.out | exact (show SW (World.drew _) from HSW.out))).mono ?_; rintro e w1 ⟨rfl, hb1⟩; have HB1 := Lib.hid (show Below w.heap.size w w1 by first | exact hb1 | exact ⟨hb1.os, hb1.tape, hb1.output, hb1.size, hb1.block⟩); clear hb1))
  all_goals
    go_wp2_with fail
    go_ret
    exact ⟨rfl, HB1.out⟩

theorem iteB_t {m : Nat} {ns : List Nat} {t s : Int} (hc : Cls m ns) (h : setB m t = false) : iteB (m : Int) (toI ns) t s = false := by
  rw [iteB, toNat_toI, tcB]
  have : hasB (toI ns) t = false := by
    simp only [hasB, decide_eq_false_iff_not]
    intro hm
    obtain ⟨u, hu, rfl⟩ := List.mem_map.1 hm
    have h2 := hc.lt u hu
    have h3 : ((2 ^ m : Nat) : Int) = (2 : Int) ^ m := by simp
    simp only [setB, Bool.and_eq_false_iff, decide_eq_false_iff_not] at h
    omega
  rw [this]
  simp
theorem iteB_in {m : Nat} {ns : List Nat} {t s : Nat} (hv : vldB m (toI ns) = true) (hs : setB m (s : Int) = true) : iteB (m : Int) (toI ns) (t : Int) (s : Int) = tch t s ns := by
  rw [iteB, hv, Int.toNat_natCast, hs, toNat_toI, Int.toNat_natCast, tcB, Int.toNat_natCast, hasB_nat, tch_count]
  cases decide (t ∈ ns) <;> simp


end Go.Proofs.YtlnnoeicboamgaaDoor
