/- The laws' equalPairs of two lists of pairs that read the same. No conditions. -/
import Derived.Deep.RegionHeld3
import Derived.Test.YtbjaacppomobeaaPr
import Derived.Test.YtbjaacppomobeaaZB
namespace Go.Proofs.Ytbjaacppomobeaa
open Go.RowKit

set_option maxHeartbeats 1600000 in
set_option maxRecDepth 100000 in
theorem lawsEqualPairs (va vb : Value) (es : List (Int × Int)) (w : World) (ha : RdP w va es) (hb : RdP w vb es) :
    Calls Try.prog 23 #[va, vb] w fun e w' => e = .returned (.bool true) ∧ Below w.heap.size w w' := by
  obtain ⟨a, ga, oa, ca, rfl, ha1, ha3, ha5⟩ := ha
  obtain ⟨b, gb, ob, cb, rfl, hb1, _, hb5⟩ := hb
  have HA1 := Lib.hid ha1
  have HA5 := Lib.hid ha5
  have HB1 := Lib.hid hb1
  have HB5 := Lib.hid hb5
  clear ha1 ha5 hb1 hb5
  generalize hn : es.length = n at *
  clear hn
  go_enter Try.func23, Try.ntmps23
  go_wp2_with fail
  go_loopw [5] (fun i wr => ∃ k : Nat, k ≤ n ∧ i = .int .i64 k ∧ Below w.heap.size w wr) (fun i _ => n - (intOf i).toNat)
  case atStart => exact ⟨0, Nat.zero_le _, rfl, Below.refl _ _⟩
  case round =>
    obtain ⟨k, hk, rfl, hbe⟩ := hrel
    have HBE := Lib.hid hbe
    have hz := hbe.size
    clear hbe
    by_cases hlt : k < n
    · obtain ⟨rfl, hla⟩ := HA1.out (by omega)
      obtain ⟨rfl, hlb⟩ := HB1.out (by omega)
      have c0 := (HBE.out.cell (p := ⟨ga, oa + k * 2, none⟩) hla).trans (HA5.out k hlt).1
      have c1 := (HBE.out.cell (p := ⟨ga, oa + k * 2 + 1, none⟩) hla).trans (HA5.out k hlt).2
      have d0 := (HBE.out.cell (p := ⟨gb, ob + k * 2, none⟩) hlb).trans (HB5.out k hlt).1
      have d1 := (HBE.out.cell (p := ⟨gb, ob + k * 2 + 1, none⟩) hlb).trans (HB5.out k hlt).2
      generalize (es.getD k (0, 0)).1 = p at *
      generalize (es.getD k (0, 0)).2 = l at *
      have hkI : (k : Int) < (n : Int) := by omega
      go_wp2_with fail
      go_region_held3 (fun w' => (w'.cell? ⟨ga, oa + k * 2, none⟩ = some (.int .i64 p) ∧ w'.cell? ⟨ga, oa + k * 2 + 1, none⟩ = some (.int .i64 l)) ∧ w'.cell? ⟨gb, ob + k * 2, none⟩ = some (.int .i64 p) ∧ w'.cell? ⟨gb, ob + k * 2 + 1, none⟩ = some (.int .i64 l)) (first | exact ⟨⟨c0, c1⟩, d0, d1⟩ | go_keep) (fail)
      go_wp2_with fail
      go_roundw
      case rel => exact ⟨k + 1, by omega, by go_num, by first | exact HBE.out | exact HBE.out.drew⟩
      case measure => simp [intOf]; omega
    · obtain rfl : k = n := by omega
      go_wp2_with fail
      go_ret
      exact ⟨rfl, HBE.out⟩

end Go.Proofs.Ytbjaacppomobeaa
