/- The model's indexInt. Conditions: the number is among those of a slice of ints. -/
import Derived.Test.YtpkilacappjkhaaZA
namespace Go.Proofs.Ytpkilacappjkhaa
open Go.RowKit

set_option maxHeartbeats 800000 in
theorem specIndexInt (v : Value) (xs : List Int) (x : Int) (j : Nat) (w : World) (h : Rd w v xs) (hj : j < xs.length) (hx : xs.getD j 0 = x) (hn : ∀ i, i < j → xs.getD i 0 ≠ x) :
    Calls Try.prog 32 #[v, .int .i64 x] w fun e w' => e = .returned (.int .i64 (j : Int)) ∧ w = w' := by
  obtain ⟨a, b, off, cap, rfl, h1, h3, h5⟩ := h
  have H5 := Lib.hid h5
  have HX := Lib.hid hx
  have HN := Lib.hid hn
  obtain ⟨rfl, _⟩ := h1 (by omega)
  clear h5 h1 hx hn
  go_enter Try.func32, Try.ntmps32
  go_wp2
  go_loop [5] (fun i => ∃ k : Nat, k ≤ j ∧ i = .int .i64 k) (fun i => xs.length - (intOf i).toNat)
  case atStart => exact ⟨0, by omega, rfl⟩
  case round =>
    obtain ⟨k, hk, rfl⟩ := hrel
    have hlt : k < xs.length := by omega
    have hc := H5.out k hlt
    by_cases he : k = j
    · have HK := Lib.hid he
      have he2 : xs.getD k 0 = x := by rw [he]; exact HX.out
      rw [he2] at hc
      clear he he2
      go_wp2
      go_ret
      exact ⟨ret_int (by rw [HK.out]), rfl⟩
    · have hne := HN.out k (by omega)
      generalize xs.getD k 0 = y at *
      have hd : (y == x) = false := by simpa using hne
      go_wp2
      go_round
      case rel => exact ⟨k + 1, by omega, by go_num⟩
      case measure => simp [intOf]; omega

end Go.Proofs.Ytpkilacappjkhaa
