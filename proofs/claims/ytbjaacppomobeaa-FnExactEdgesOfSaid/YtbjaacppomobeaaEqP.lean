/- Slices of pairs, compared by the laws. Conditions: at most 1048576 of them. -/
import Derived.Test.YtbjaacppomobeaaPr
namespace Go.Proofs.Ytbjaacppomobeaa
open Go.RowKit

set_option maxHeartbeats 800000 in
theorem eqPr (p l : Int) (w : World) :
    Calls Try.prog 66 #[.agg #[.int .i64 p, .int .i64 l], .agg #[.int .i64 p, .int .i64 l]] w fun e w' => e = .returned (.bool true) ∧ Below w.heap.size w w' := by
  go_enter Try.func66, Try.ntmps66
  go_wp2_with fail
  go_ret
  exact ⟨rfl, by go_grown⟩

set_option maxHeartbeats 1600000 in
set_option maxRecDepth 100000 in
theorem eqPrSame (va vb : Value) (es : List (Int × Int)) (w : World) (ha : RdP w va es) (hb : RdP w vb es) :
    Calls Try.prog 17 #[va, vb] w fun e w' => e = .returned (.bool true) ∧ Below w.heap.size w w' := by
  obtain ⟨a, ga, oa, ca, rfl, ha1, ha3, ha5⟩ := ha
  obtain ⟨b, gb, ob, cb, rfl, hb1, _, hb5⟩ := hb
  have HA1 := Lib.hid ha1
  have HA5 := Lib.hid ha5
  have HB1 := Lib.hid hb1
  have HB5 := Lib.hid hb5
  clear ha1 ha5 hb1 hb5
  generalize hn : es.length = n at *
  clear hn
  go_enter Try.func17, Try.ntmps17
  go_wp2_with fail
  go_loopw [5] (fun i wr => ∃ k : Nat, k ≤ n ∧ i = .int .i64 k ∧ Below w.heap.size w wr) (fun i _ => n - (intOf i).toNat)
  case atStart => exact ⟨0, Nat.zero_le _, rfl, Below.refl _ _⟩
  case round =>
    obtain ⟨k, hk, rfl, hbe⟩ := hrel
    have HBE := Lib.hid hbe
    have hz := hbe.size
    clear hbe
    by_cases hlt : k < n
    · obtain ⟨rfl, hla⟩ := HA1.out (by omega)
      obtain ⟨rfl, hlb⟩ := HB1.out (by omega)
      have c0 := (HBE.out.cell (p := ⟨ga, oa + k * 2, none⟩) hla).trans (HA5.out k hlt).1
      have c1 := (HBE.out.cell (p := ⟨ga, oa + k * 2 + 1, none⟩) hla).trans (HA5.out k hlt).2
      have d0 := (HBE.out.cell (p := ⟨gb, ob + k * 2, none⟩) hlb).trans (HB5.out k hlt).1
      have d1 := (HBE.out.cell (p := ⟨gb, ob + k * 2 + 1, none⟩) hlb).trans (HB5.out k hlt).2
      generalize (es.getD k (0, 0)).1 = p at *
      generalize (es.getD k (0, 0)).2 = l at *
      have hkI : (k : Int) < (n : Int) := by omega
      have HQ := Lib.hid (fun w => eqPr p l w)
      go_wp2_with fail
      go_region_held3 (fun w' => (w'.cell? ⟨ga, oa + k * 2, none⟩ = some (.int .i64 p) ∧ w'.cell? ⟨ga, oa + k * 2 + 1, none⟩ = some (.int .i64 l)) ∧ w'.cell? ⟨gb, ob + k * 2, none⟩ = some (.int .i64 p) ∧ w'.cell? ⟨gb, ob + k * 2 + 1, none⟩ = some (.int .i64 l)) (first | exact ⟨⟨c0, c1⟩, d0, d1⟩ | exact ⟨⟨x0, x1⟩, y0, y1⟩ | go_keep) (first | (go_at_call 66; refine (HQ.out _).mono ?_; rintro e w4 ⟨rfl, hb4⟩; have hb34 : Below wr.heap.size wr w4 := Below.trans (by first | exact Below.refl _ _ | exact (Below.refl _ _).drew) hb4; have B34 := Lib.hid hb34; have x0 := (hb34.cell (p := ⟨ga, oa + k * 2, none⟩) (by show ga < wr.heap.size; omega)).trans c0; have x1 := (hb34.cell (p := ⟨ga, oa + k * 2 + 1, none⟩) (by show ga < wr.heap.size; omega)).trans c1; have y0 := (hb34.cell (p := ⟨gb, ob + k * 2, none⟩) (by show gb < wr.heap.size; omega)).trans d0; have y1 := (hb34.cell (p := ⟨gb, ob + k * 2 + 1, none⟩) (by show gb < wr.heap.size; omega)).trans d1; clear hb4 hb34))
      go_wp2_with fail
      go_roundw
      case rel => exact ⟨k + 1, by omega, by go_num, HBE.out.trans (B34.out.mono hz)⟩
      case measure => simp [intOf]; omega
    · obtain rfl : k = n := by omega
      go_wp2_with fail
      go_ret
      exact ⟨rfl, HBE.out⟩

end Go.Proofs.Ytbjaacppomobeaa
