/- The model's fits, keep, yes, no. Conditions: sets is a slice of small sets, the point is below 5. -/
import Derived.Deep.RegionHeld3
import Derived.Test.YtlnnoeicboamgaaDoorFam
import Derived.Test.YtlnnoeicboamgaaDoorFits
import Derived.Test.YtlnnoeicboamgaaDoorKeepM
import Derived.Test.YtlnnoeicboamgaaDoorZA
namespace Go.Proofs.YtlnnoeicboamgaaDoor
open Go.RowKit

set_option maxHeartbeats 3200000 in
set_option maxRecDepth 100000 in
theorem specKeep (v : Value) (ns : List Nat) (x : Nat) (l : Bool) (hx : x < 5) (h32 : ∀ t ∈ ns, t < 32) (hl : ns.length ≤ 32) (w : World) (h : Rd w v (toI ns)) :
    Calls Tryd.prog 72 #[v, .agg #[.int .i64 (x : Int), .bool l]] w (RetInts (toI (ns.filter (fun s => hasX x s == l))) w) := by
  have H := Lib.hid h
  obtain ⟨a, b, off, cap, rfl, h1, h3, h5⟩ := h
  rw [toI_length] at h1 h3 h5 H ⊢
  have H5 := Lib.hid h5
  have H1 := Lib.hid h1
  clear h5 h1
  obtain ⟨P, hP⟩ : ∃ P, P = (fun s => hasX x s == l) := ⟨_, rfl⟩
  rw [← hP]
  have HPP := Lib.hid hP
  clear hP
  have HB := Lib.hid (show Below w.heap.size w (w.alloc (Obj.cells #[.int .i64 (x : Int), .bool l] 62)) from (Below.refl _ _).alloc (Nat.le_refl _) _)
  have HE0 := Lib.hid (show (w.alloc (Obj.cells #[.int .i64 (x : Int), .bool l] 62)).cell? ⟨w.heap.size, 0, none⟩ = some (.int .i64 (x : Int)) by simp [go_sem])
  have HE1 := Lib.hid (show (w.alloc (Obj.cells #[.int .i64 (x : Int), .bool l] 62)).cell? ⟨w.heap.size, 1, none⟩ = some (.bool l) by simp [go_sem])
  have HZ := Lib.hid (show (w.alloc (Obj.cells #[.int .i64 (x : Int), .bool l] 62)).heap.size = w.heap.size + 1 by simp)
  go_enter Tryd.func72, Tryd.ntmps72
  go_wp2_with fail
  generalize (w.alloc (Obj.cells #[.int .i64 (x : Int), .bool l] 62)) = w1 at *
  have hz1 := HZ.out
  go_loopw [5, 6] (fun o i wr => ∃ (k : Nat) (a' : Option Addr) (c' : Nat), k ≤ ns.length ∧ i = .int .i64 k ∧ o = .slice a' (keepTo P ns k).length c' ∧ Ints w1.heap.size wr (.slice a' (keepTo P ns k).length c') (toI (keepTo P ns k)) ∧ Below w1.heap.size w1 wr) (fun _ i _ => ns.length - (intOf i).toNat)
  case atStart => exact ⟨0, _, _, Nat.zero_le _, rfl, rfl, Ints.lit' (by first | omega | simp) (by first | omega | simp), by go_grown⟩
  case round =>
    obtain ⟨k, a', c', hk, rfl, rfl, hin, hbe⟩ := hrel
    have HIN := Lib.hid hin
    have HBE := Lib.hid hbe
    have hz := hbe.size
    have d0 := (hbe.cell (p := ⟨w.heap.size, 0, none⟩) (by show w.heap.size < _; omega)).trans HE0.out
    have d1 := (hbe.cell (p := ⟨w.heap.size, 1, none⟩) (by show w.heap.size < _; omega)).trans HE1.out
    clear hin hbe
    by_cases hlt : k < ns.length
    · obtain ⟨rfl, hbl⟩ := H1.out (by omega)
      have hcx := (HBE.out.cell (p := ⟨b, off + k, none⟩) (by show b < w1.heap.size; omega)).trans ((HB.out.cell (p := ⟨b, off + k, none⟩) hbl).trans (H5.out k (by omega)))
      rw [toI_getD] at hcx
      have hxx := h32 _ (getD_of_lt hlt)
      have HY := Lib.hid (keepTo_yes (p := P) hlt)
      have HN := Lib.hid (keepTo_no (p := P) hlt)
      have hA32 := keepTo_le P ns k
      have hkI : (k : Int) < (ns.length : Int) := by omega
      generalize ns.getD k 0 = s at *
      generalize keepTo P ns k = A at *
      have HAl := Lib.hid (toI_length A)
      have HFT := Lib.hid (fun w => specFits s x l (by omega) hx w)
      rw [show (hasX x s == l) = P s by rw [HPP.out]] at HFT
      by_cases hp : P s = true
      · have HF := Lib.hid (HY.out hp)
        rw [hp] at HFT
        clear hp
        go_wp2_with fail
        go_region_held3 (fun w' => w'.cell? ⟨b, off + k, none⟩ = some (.int .i64 (s : Int)) ∧ w'.cell? ⟨w.heap.size, 0, none⟩ = some (.int .i64 (x : Int)) ∧ w'.cell? ⟨w.heap.size, 1, none⟩ = some (.bool l)) (first | exact ⟨hcx, d0, d1⟩ | exact ⟨hcx2, f0, f1⟩ | go_keep) (first | (go_at_call 91; refine (HFT.out _).mono ?_; rintro e w4 ⟨rfl, hb4⟩; have hb34 : Below wr.heap.size wr w4 := Below.trans (by first | exact Below.refl _ _ | exact (Below.refl _ _).drew) hb4; have B34 := Lib.hid hb34; have hcx2 := (hb34.cell (p := ⟨b, off + k, none⟩) (by show b < wr.heap.size; omega)).trans hcx; have f0 := (hb34.cell (p := ⟨w.heap.size, 0, none⟩) (by show w.heap.size < wr.heap.size; omega)).trans d0; have f1 := (hb34.cell (p := ⟨w.heap.size, 1, none⟩) (by show w.heap.size < wr.heap.size; omega)).trans d1; clear hb4 hb34))
        have HIN2 := Lib.hid (HIN.out.below B34.out (Nat.le_refl _))
        have HBE2 := Lib.hid (HBE.out.trans (B34.out.mono hz))
        have hz2 := B34.out.size
        go_wp2_with (at_builtin; refine wpList_app rfl (.tmp 20) (.tmp 25) rfl w1.heap.size _ (toI A) rfl (by exact HIN2.out.alloc _) _ _ _ [(s : Int)] rfl (src_cell (by rw [World.cell?_alloc_at _ _ _ _ rfl]; rfl)) (by rw [HAl.out]; omega) (by simp; omega) ?_; intro a1 c1 w5 hin5 hb5 hg5; rw [HAl.out] at hin5; have I5 := Lib.hid hin5; have B5 := Lib.hid (HBE2.out.trans (Below.trans ((Below.refl _ _).alloc (by omega) _) hb5)); clear hin5 hb5 hg5; rw [HAl.out])
        go_roundw
        case rel => exact ⟨k + 1, a1, c1, by omega, by go_num, by rw [HF.out]; simp, by rw [HF.out, toI_append]; simpa [toI] using I5.out, B5.out⟩
        case measure => simp [intOf]; omega
      · rw [Bool.not_eq_true] at hp
        have HF := Lib.hid (HN.out hp)
        rw [hp] at HFT
        clear hp
        go_wp2_with fail
        go_region_held3 (fun w' => w'.cell? ⟨b, off + k, none⟩ = some (.int .i64 (s : Int)) ∧ w'.cell? ⟨w.heap.size, 0, none⟩ = some (.int .i64 (x : Int)) ∧ w'.cell? ⟨w.heap.size, 1, none⟩ = some (.bool l)) (first | exact ⟨hcx, d0, d1⟩ | exact ⟨hcx2, f0, f1⟩ | go_keep) (first | (go_at_call 91; refine (HFT.out _).mono ?_; rintro e w4 ⟨rfl, hb4⟩; have hb34 : Below wr.heap.size wr w4 := Below.trans (by first | exact Below.refl _ _ | exact (Below.refl _ _).drew) hb4; have B34 := Lib.hid hb34; have hcx2 := (hb34.cell (p := ⟨b, off + k, none⟩) (by show b < wr.heap.size; omega)).trans hcx; have f0 := (hb34.cell (p := ⟨w.heap.size, 0, none⟩) (by show w.heap.size < wr.heap.size; omega)).trans d0; have f1 := (hb34.cell (p := ⟨w.heap.size, 1, none⟩) (by show w.heap.size < wr.heap.size; omega)).trans d1; clear hb4 hb34))
        have HIN2 := Lib.hid (HIN.out.below B34.out (Nat.le_refl _))
        have HBE2 := Lib.hid (HBE.out.trans (B34.out.mono hz))
        go_wp2_with fail
        go_roundw
        case rel => exact ⟨k + 1, a', c', by omega, by go_num, by rw [HF.out], by rw [HF.out]; exact HIN2.out, HBE2.out⟩
        case measure => simp [intOf]; omega
    · obtain rfl : k = ns.length := by omega
      rw [keepTo_all] at HIN ⊢
      generalize ns.filter P = R at *
      have HRl := Lib.hid (toI_length R)
      go_wp2_with fail
      go_ret
      exact ⟨a', c', by rw [HRl.out]; rfl, by rw [HRl.out]; exact HIN.out.mono (by omega), HB.out.trans (HBE.out.mono (by omega))⟩



end Go.Proofs.YtlnnoeicboamgaaDoor
