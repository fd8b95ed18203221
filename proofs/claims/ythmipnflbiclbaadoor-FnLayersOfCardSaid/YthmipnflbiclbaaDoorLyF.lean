/- Lists of lists compared by the laws: equalLists. Conditions: what the slices hold. -/
import Derived.Deep.RegionHeld3
import Derived.Test.YthmipnflbiclbaaDoorLyOI
import Derived.Test.YthmipnflbiclbaaDoorLyQ
import Derived.Test.YthmipnflbiclbaaDoorZB
import Derived.Test.YthmipnflbiclbaaDoorZJ
namespace Go.Proofs.YthmipnflbiclbaaDoor
open Go.RowKit

set_option maxHeartbeats 1600000 in
set_option maxRecDepth 100000 in
theorem lawsEqualLists (va vb : Value) (Ps : List (List Int)) (w : World) (ha : RdLy w va Ps) (hb : RdLy w vb Ps) :
    Calls Tryd.prog 17 #[va, vb] w fun e w' => e = .returned (.bool true) ∧ Below w.heap.size w w' := by
  obtain ⟨bs, ⟨a, ga, oa, ca, rfl, ha1, ha3, ha5⟩, hla, hra⟩ := ha
  obtain ⟨cs, ⟨b, gb, ob, cb, rfl, hb1, hb3, hb5⟩, hlb, hrb⟩ := hb
  have hlen : cs.length = bs.length := hlb.trans hla.symm
  rw [hlen] at hb1 hb3 hb5 hrb ⊢
  clear hla hlb hlen
  have HA1 := Lib.hid ha1
  have HA5 := Lib.hid ha5
  have HB1 := Lib.hid hb1
  have HB5 := Lib.hid hb5
  have HRA := Lib.hid hra
  have HRB := Lib.hid hrb
  clear ha1 ha5 hb1 hb5 hra hrb hb3
  generalize hn : bs.length = n at *
  clear hn
  go_enter Tryd.func17, Tryd.ntmps17
  go_wp2_with fail
  go_loopw [5] (fun i wr => ∃ k : Nat, k ≤ n ∧ i = .int .i64 k ∧ Below w.heap.size w wr) (fun i _ => n - (intOf i).toNat)
  case atStart => exact ⟨0, Nat.zero_le _, rfl, Below.refl _ _⟩
  case round =>
    obtain ⟨k, hk, rfl, hbe⟩ := hrel
    have HBE := Lib.hid hbe
    have hz := hbe.size
    clear hbe
    by_cases hlt : k < n
    · obtain ⟨rfl, hla⟩ := HA1.out (by omega)
      obtain ⟨rfl, hlb⟩ := HB1.out (by omega)
      have c0 := (HBE.out.cell (p := ⟨ga, oa + k, none⟩) hla).trans (HA5.out k hlt)
      have d0 := (HBE.out.cell (p := ⟨gb, ob + k, none⟩) hlb).trans (HB5.out k hlt)
      have R1 := Lib.hid ((HRA.out k hlt).below HBE.out (Nat.le_refl _))
      have R2 := Lib.hid ((HRB.out k hlt).below HBE.out (Nat.le_refl _))
      generalize slv (bs.getD k sl0) = va1 at *
      generalize slv (cs.getD k sl0) = vb1 at *
      generalize Ps.getD k [] = zs at *
      have hkI : (k : Int) < (n : Int) := by omega
      go_wp2_with fail
      go_region_held3 (fun w' => w'.cell? ⟨ga, oa + k, none⟩ = some va1 ∧ w'.cell? ⟨gb, ob + k, none⟩ = some vb1) (first | exact ⟨c0, d0⟩ | exact ⟨x0, y0⟩ | go_keep) (first | (go_at_call 26; refine (lawsEqualInts _ _ zs zs _ (by first | exact R1.out | exact R1.out.below (k := wr.heap.size) ((Below.refl _ _).drew) (Nat.le_refl _)) (by first | exact R2.out | exact R2.out.below (k := wr.heap.size) ((Below.refl _ _).drew) (Nat.le_refl _))).mono ?_; rintro e w4 ⟨he4, hd4⟩; rw [show eqB zs zs = true by simp [eqB]] at he4; subst he4; have B34 := Lib.hid (show Below wr.heap.size wr w4 from by obtain ⟨d, rfl⟩ := hd4; first | exact below_drewN (Below.refl _ _) d | exact below_drewN ((Below.refl _ _).drew) d); clear hd4; have x0 := (B34.out.cell (p := ⟨ga, oa + k, none⟩) (by show ga < wr.heap.size; omega)).trans c0; have y0 := (B34.out.cell (p := ⟨gb, ob + k, none⟩) (by show gb < wr.heap.size; omega)).trans d0))
      go_wp2_with fail
      go_roundw
      case rel => exact ⟨k + 1, by omega, by go_num, HBE.out.trans (B34.out.mono hz)⟩
      case measure => simp [intOf]; omega
    · obtain rfl : k = n := by omega
      go_wp2_with fail
      go_ret
      exact ⟨rfl, HBE.out⟩

end Go.Proofs.YthmipnflbiclbaaDoor
