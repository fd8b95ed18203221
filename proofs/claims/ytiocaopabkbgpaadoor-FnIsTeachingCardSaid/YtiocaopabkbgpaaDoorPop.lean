/- How many bits a family has: math/bits.OnesCount32, and size. Conditions: the sets are small and no two are equal. -/
import Derived.Test.YtiocaopabkbgpaaDoorZL
namespace Go.Proofs.YtiocaopabkbgpaaDoor
open Go.RowKit

/-- how many of the first k bits of a number are set -/
def cntN (k i : Nat) : Nat := (List.range k).countP (fun s => i.testBit s)
theorem cntN_add (a k i : Nat) : cntN (a + k) i = cntN a i + cntN k (i / 2 ^ a) := by
  unfold cntN
  rw [List.range_add, List.countP_append, List.countP_map]
  congr 1
  apply List.countP_congr
  intro s _
  simp [Nat.testBit_div_two_pow, Nat.add_comm]
theorem cntN_mod (k i : Nat) : cntN k (i % 2 ^ k) = cntN k i := by
  unfold cntN
  apply List.countP_congr
  intro s hs
  rw [List.mem_range] at hs
  simp [Nat.testBit_mod_two_pow, hs]
theorem cntN_32 (i : Nat) (_h : i < 4294967296) : cntN 32 i = cntN 8 (i / 16777216) + cntN 8 (i / 65536 % 256) + cntN 8 (i / 256 % 256) + cntN 8 (i % 256) := by
  have e1 := cntN_mod 8 i
  have e2 := cntN_mod 8 (i / 256)
  have e3 := cntN_mod 8 (i / 65536)
  have f1 := cntN_add 8 24 i
  have f2 := cntN_add 8 16 (i / 2 ^ 8)
  have f3 := cntN_add 8 8 (i / 2 ^ 8 / 2 ^ 8)
  rw [Nat.div_div_eq_div_mul] at f2 f3
  rw [Nat.div_div_eq_div_mul] at f3
  simp only [Nat.reducePow, Nat.reduceAdd, Nat.reduceMul] at *
  omega
theorem cntN_8 (i : Nat) : cntN 8 i ≤ 8 := by
  unfold cntN
  exact Nat.le_trans List.countP_le_length (by simp)
theorem cnt_len {l : List Nat} (hn : l.Nodup) (h32 : ∀ s ∈ l, s < 32) : cntN 32 (famB l).toNat = l.length := by
  have h1 : ∀ s ∈ List.range 32, ((famB l).toNat.testBit s = true ↔ decide (s ∈ l) = true) := by
    intro s hs
    rw [List.mem_range] at hs
    have := famB_bit l hs
    rw [BitVec.getLsbD] at this
    rw [this]
  unfold cntN
  rw [List.countP_congr h1, List.countP_eq_length_filter]
  apply List.Perm.length_eq
  apply (List.perm_ext_iff_of_nodup (List.nodup_range.filter _) hn).2
  intro s
  rw [List.mem_filter, List.mem_range, decide_eq_true_eq]
  exact ⟨fun h => h.2, fun h => ⟨h32 s h, h⟩⟩
theorem and255 (a : Int) (h0 : 0 ≤ a) (h1 : a < 4294967296) : bits .and .u32 a 255 = a % 256 := by
  obtain ⟨n, rfl⟩ := Int.eq_ofNat_of_zero_le h0
  have hn : n < 2 ^ 32 := by omega
  have e : ((n : Int)) = ((BitVec.ofNat 32 n).toNat : Int) := by
    rw [BitVec.toNat_ofNat, Nat.mod_eq_of_lt hn]
  have e2 : (255 : Int) = ((255#32).toNat : Int) := by decide
  rw [e, e2, u32_and, BitVec.toNat_and, BitVec.toNat_ofNat, Nat.mod_eq_of_lt hn]
  show ((n &&& 2 ^ 8 - 1 : Nat) : Int) = (n : Int) % 256
  rw [Nat.and_two_pow_sub_one_eq_mod]
  omega

/-- the table of bits of a byte -/
def popT : ByteArray := ⟨#[0, 1, 1, 2, 1, 2, 2, 3, 1, 2, 2, 3, 2, 3, 3, 4, 1, 2, 2, 3, 2, 3, 3, 4, 2, 3, 3, 4, 3, 4, 4, 5, 1, 2, 2, 3, 2, 3, 3, 4, 2, 3, 3, 4, 3, 4, 4, 5, 2, 3, 3, 4, 3, 4, 4, 5, 3, 4, 4, 5, 4, 5, 5, 6, 1, 2, 2, 3, 2, 3, 3, 4, 2, 3, 3, 4, 3, 4, 4, 5, 2, 3, 3, 4, 3, 4, 4, 5, 3, 4, 4, 5, 4, 5, 5, 6, 2, 3, 3, 4, 3, 4, 4, 5, 3, 4, 4, 5, 4, 5, 5, 6, 3, 4, 4, 5, 4, 5, 5, 6, 4, 5, 5, 6, 5, 6, 6, 7, 1, 2, 2, 3, 2, 3, 3, 4, 2, 3, 3, 4, 3, 4, 4, 5, 2, 3, 3, 4, 3, 4, 4, 5, 3, 4, 4, 5, 4, 5, 5, 6, 2, 3, 3, 4, 3, 4, 4, 5, 3, 4, 4, 5, 4, 5, 5, 6, 3, 4, 4, 5, 4, 5, 5, 6, 4, 5, 5, 6, 5, 6, 6, 7, 2, 3, 3, 4, 3, 4, 4, 5, 3, 4, 4, 5, 4, 5, 5, 6, 3, 4, 4, 5, 4, 5, 5, 6, 4, 5, 5, 6, 5, 6, 6, 7, 3, 4, 4, 5, 4, 5, 5, 6, 4, 5, 5, 6, 5, 6, 6, 7, 4, 5, 5, 6, 5, 6, 6, 7, 5, 6, 6, 7, 6, 7, 7, 8]⟩
theorem popT_size : popT.size = 256 := by decide +kernel
theorem popT_at (j : Nat) (h : j < popT.size) : (popT[j]'h).toNat = cntN 8 j := by
  have key : ∀ j : Fin 256, (popT[j.1]'(by rw [popT_size]; exact j.2)).toNat = cntN 8 j := by decide +kernel
  exact key ⟨j, by rw [popT_size] at h; exact h⟩

set_option maxHeartbeats 3200000 in
set_option maxRecDepth 100000 in
theorem ones32 (i : Nat) (hi : i < 4294967296) (w : World) :
    Calls Tryd.prog 120 #[.int .u32 (i : Int)] w fun e w' => e = .returned (.int .i64 (cntN 32 i : Nat)) ∧ ∃ d, w' = w.drewN d := by
  have a0 : 0 ≤ (i : Int) / 16777216 ∧ (i : Int) / 16777216 < 256 := by omega
  have a1 := and255 ((i : Int) / 65536) (by omega) (by omega)
  have a2 := and255 ((i : Int) / 256) (by omega) (by omega)
  have a3 := and255 (i : Int) (by omega) (by omega)
  have b1 : 0 ≤ (i : Int) / 65536 % 256 ∧ (i : Int) / 65536 % 256 < 256 := by omega
  have b2 : 0 ≤ (i : Int) / 256 % 256 ∧ (i : Int) / 256 % 256 < 256 := by omega
  have b3 : 0 ≤ (i : Int) % 256 ∧ (i : Int) % 256 < 256 := by omega
  have HT := Lib.hid (show ((((popT[i / 16777216]'(by rw [popT_size]; omega)).toNat : Int) + ((popT[i / 65536 % 256]'(by rw [popT_size]; omega)).toNat : Int) + ((popT[i / 256 % 256]'(by rw [popT_size]; omega)).toNat : Int) + ((popT[i % 256]'(by rw [popT_size]; omega)).toNat : Int)) % 256 = (cntN 32 i : Nat)) by
    rw [popT_at, popT_at, popT_at, popT_at, cntN_32 i hi]
    have c0 := cntN_8 (i / 16777216)
    have c1 := cntN_8 (i / 65536 % 256)
    have c2 := cntN_8 (i / 256 % 256)
    have c3 := cntN_8 (i % 256)
    omega)
  go_enter Tryd.func120, Tryd.ntmps120
  go_wp2_with fail
  go_quiet (fail)
  go_wp2_with fail
  go_ret
  refine ⟨ret_int HT.out, nq, rfl⟩

theorem onesFm (l : List Nat) (h32 : ∀ s ∈ l, s < 32) (hnd : l.Nodup) (w : World) :
    Calls Tryd.prog 120 #[.int .u32 (fm l)] w fun e w' => e = .returned (.int .i64 (l.length : Int)) ∧ ∃ d, w' = w.drewN d := by
  have h := ones32 (famB l).toNat (famB l).isLt w
  rw [cnt_len hnd h32] at h
  exact h

end Go.Proofs.YtiocaopabkbgpaaDoor
