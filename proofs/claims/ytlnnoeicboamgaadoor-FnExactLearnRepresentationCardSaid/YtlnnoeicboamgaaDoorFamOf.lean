/- The program's familyOf. Conditions: Sets is a slice of small sets. -/
import Derived.Test.YtlnnoeicboamgaaDoorFam
namespace Go.Proofs.YtlnnoeicboamgaaDoor
open Go.RowKit

theorem fm_succ {ns : List Nat} {k : Nat} (hk : k < ns.length) (h32 : ∀ t ∈ ns, t < 32) : bits .or .u32 (fm (ns.take k)) ((2 : Int) ^ ns.getD k 0) = fm (ns.take (k + 1)) := by
  have h1 := h32 _ (getD_of_lt hk)
  have e1 : ns.take (k + 1) = ns.take k ++ [ns.getD k 0] := by
    rw [List.take_add_one, List.getElem?_eq_getElem hk, List.getD_eq_getElem?_getD, List.getElem?_eq_getElem hk]; rfl
  rw [e1]
  generalize ns.getD k 0 = s at *
  have h2 : (2 : Int) ^ s = ((1#32 <<< s).toNat : Int) := by
    have key : ∀ s : Fin 32, (2 : Int) ^ (s : Nat) = ((1#32 <<< (s : Nat)).toNat : Int) := by decide +kernel
    exact key ⟨s, h1⟩
  rw [h2, fm, u32_or, fm]
  congr 2
  apply famB_ext
  intro t ht
  have h3 : (1#32 <<< s).getLsbD t = decide (t = s) := by
    have := famB_bit [s] ht
    simpa [famB] using this
  rw [BitVec.getLsbD_or, famB_bit _ ht, h3, Bool.eq_iff_iff]
  simp

set_option maxHeartbeats 800000 in
theorem implFamilyOf (n : Int) (v : Value) (ns : List Nat) (h32 : ∀ t ∈ ns, t < 32) (w : World) (h : Rd w v (toI ns)) :
    Calls Tryd.prog 47 #[.agg #[.int .i64 n, v]] w fun e w' => e = .returned (.int .u32 (fm ns)) ∧ Below w.heap.size w w' := by
  obtain ⟨a, b, off, cap, rfl, h1, h3, h5⟩ := h
  rw [toI_length] at *
  have H5 := Lib.hid h5
  have H1 := Lib.hid h1
  clear h5 h1
  go_enter Tryd.func47, Tryd.ntmps47
  go_wp2_with fail
  go_loopw [3, 9] (fun f i wr => ∃ k : Nat, k ≤ ns.length ∧ i = .int .i64 k ∧ f = .int .u32 (fm (ns.take k)) ∧ wr = w.alloc (Obj.cells #[.int .i64 n, .slice a ns.length cap] 30)) (fun _ i _ => ns.length - (intOf i).toNat)
  case atStart => exact ⟨0, Nat.zero_le _, rfl, by rw [List.take_zero, fm_nil], rfl⟩
  case round =>
    obtain ⟨k, hk, rfl, rfl, rfl⟩ := hrel
    by_cases hlt : k < ns.length
    · obtain ⟨rfl, hbl⟩ := H1.out (by omega)
      have hc := H5.out k hlt
      rw [toI_getD] at hc
      have hx := h32 _ (getD_of_lt hlt)
      have HS := Lib.hid (fm_succ hlt h32)
      have HM := Lib.hid (show (2 : Int) ^ ns.getD k 0 % 4294967296 = 2 ^ ns.getD k 0 by
        have key : ∀ s : Fin 32, (2 : Int) ^ (s : Nat) % 4294967296 = 2 ^ (s : Nat) := by decide +kernel
        exact key ⟨_, hx⟩)
      generalize ns.getD k 0 = x at *
      have hc2 := (show Below w.heap.size w (w.alloc (Obj.cells #[.int .i64 n, .slice (some ⟨b, off, none⟩) ns.length cap] 30)) from (Below.refl _ _).alloc (Nat.le_refl _) _).cell (p := ⟨b, off + k, none⟩) hbl
      rw [hc] at hc2
      go_wp2_with fail
      go_roundw
      case rel => exact ⟨k + 1, by omega, by go_num, by rw [← HS.out, HM.out], trivial⟩
      case measure => simp [intOf]; omega
    · obtain rfl : k = ns.length := by omega
      go_wp2_with fail
      go_ret
      exact ⟨ret_int (by rw [List.take_length]), by go_grown⟩

end Go.Proofs.YtlnnoeicboamgaaDoor
