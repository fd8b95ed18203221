/- The law's sum of numbers: total. Conditions: the sums on the way are small. -/
import Derived.Test.YtbjaacppomobeaaCcM
import Derived.Test.YtbjaacppomobeaaZJ
namespace Go.Proofs.Ytbjaacppomobeaa
open Go.RowKit

set_option maxHeartbeats 1600000 in
set_option maxRecDepth 100000 in
theorem lawsTotal (v : Value) (zs : List Int) (w : World) (h : Rd w v zs) (hb : ∀ k, k ≤ zs.length → -1000000 ≤ wTo (fun _ => 1) zs k ∧ wTo (fun _ => 1) zs k ≤ 1000000) :
    Calls Try.prog 48 #[v] w fun e w' => e = .returned (.int .i64 (wTo (fun _ => 1) zs zs.length)) ∧ w = w' := by
  obtain ⟨a, b, off, cap, rfl, h1, h3, h5⟩ := h
  have H5 := Lib.hid h5
  have H1 := Lib.hid h1
  have HB := Lib.hid hb
  have HS := Lib.hid (fun k => show wTo (fun _ => 1) zs (k + 1) = wTo (fun _ => 1) zs k + zs.getD k 0 by rw [wTo, Int.mul_one])
  clear h1 h5 hb
  go_enter Try.func48, Try.ntmps48
  go_wp2_with fail
  go_loop [3, 4] (fun n i => ∃ k : Nat, k ≤ zs.length ∧ i = .int .i64 k ∧ n = .int .i64 (wTo (fun _ => 1) zs k)) (fun _ i => zs.length - (intOf i).toNat)
  case atStart => exact ⟨0, Nat.zero_le _, rfl, rfl⟩
  case round =>
    obtain ⟨k, hk, rfl, rfl⟩ := hrel
    by_cases hlt : k < zs.length
    · obtain ⟨rfl, hbl⟩ := H1.out (by omega)
      have hc := H5.out k hlt
      have h1 := HB.out k (by omega)
      have h2 := HB.out (k + 1) (by omega)
      have hs := HS.out k
      obtain ⟨q, hq⟩ : ∃ q, q = wTo (fun _ => 1) zs (k + 1) := ⟨_, rfl⟩
      rw [← hq] at h2 hs
      have HQ2 := Lib.hid hq
      clear hq
      obtain ⟨p, hp⟩ : ∃ p, p = wTo (fun _ => 1) zs k := ⟨_, rfl⟩
      rw [← hp] at h1 hs ⊢
      clear hp
      generalize zs.getD k 0 = y at *
      have hw : IntKind.i64.wrap (p + y) = q := by rw [IntKind.wrap_i64]; omega
      have HQ := Lib.hid hs
      clear hs
      go_wp2_with fail
      go_round
      case rel => exact ⟨k + 1, by omega, by go_num, by rw [← HQ2.out, HQ.out]⟩
      case measure => simp [intOf]; omega
    · obtain rfl : k = zs.length := by omega
      go_wp2_with fail
      go_ret
      exact ⟨rfl, rfl⟩

end Go.Proofs.Ytbjaacppomobeaa
