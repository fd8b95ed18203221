/- How many examples a set does not fit: missesOf, the program's, and risk, the model's. Conditions: the list is a slice of examples of points below 5. -/
import Derived.Deep.RegionHeld3
import Derived.Test.YtlnnoeicboamgaaDoorLab
import Derived.Test.YtlnnoeicboamgaaDoorZU
namespace Go.Proofs.YtlnnoeicboamgaaDoor
open Go.RowKit

/-- how many of the first k examples a set does not fit -/
def msTo (s : Nat) (es : List (Int × Bool)) : Nat → Int
  | 0 => 0
  | k + 1 => msTo s es k + (if hasX (es.getD k (0, false)).1.toNat s = (es.getD k (0, false)).2 then 0 else 1)
theorem msTo_bd (s : Nat) (es : List (Int × Bool)) (k : Nat) : 0 ≤ msTo s es k ∧ msTo s es k ≤ k := by
  induction k with
  | zero => simp [msTo]
  | succ k ih =>
    rw [msTo]
    split <;> omega
theorem ms_at {n : Int} {es : List (Int × Bool)} (h : ptsTo n es es.length = true) {k : Nat} (hk : k < es.length) : 0 ≤ (es.getD k (0, false)).1 ∧ (es.getD k (0, false)).1 < n := by
  simp only [ptsTo, List.all_eq_true, List.mem_range, Bool.and_eq_true, decide_eq_true_eq] at h
  exact h k hk

set_option maxHeartbeats 3200000 in
set_option maxRecDepth 100000 in
theorem implMisses (s : Nat) (hs : s < 32) (m : Nat) (hm : m ≤ 5) (u : Value) (es : List (Int × Bool)) (hpt : ptsTo m es es.length = true) (h12 : es.length ≤ 12) (w : World) (hu : RdE w u es) :
    Calls Tryd.prog 56 #[.int .i64 (s : Int), u] w fun e w' => e = .returned (.int .i64 (msTo s es es.length)) ∧ Below w.heap.size w w' := by
  obtain ⟨a2, b2, off2, cap2, rfl, he1, _, he5⟩ := hu
  have HE1 := Lib.hid he1
  have HE5 := Lib.hid he5
  have HP := Lib.hid hpt
  clear he1 he5 hpt
  go_enter Tryd.func56, Tryd.ntmps56
  go_wp2_with fail
  go_loopw [5, 10] (fun mi i wr => ∃ k : Nat, k ≤ es.length ∧ i = .int .i64 k ∧ mi = .int .i64 (msTo s es k) ∧ Below w.heap.size w wr) (fun _ i _ => es.length - (intOf i).toNat)
  case atStart => exact ⟨0, Nat.zero_le _, rfl, rfl, Below.refl _ _⟩
  case round =>
    obtain ⟨k, hk, rfl, rfl, hbe⟩ := hrel
    have BE := Lib.hid hbe
    have hz := hbe.size
    obtain ⟨hb0, hb1⟩ := msTo_bd s es k
    clear hbe
    by_cases hlt : k < es.length
    · obtain ⟨rfl, hbl⟩ := HE1.out (by omega)
      have hc0 := (BE.out.cell (p := ⟨b2, off2 + k * 2, none⟩) hbl).trans (HE5.out k hlt).1
      have hc1 := (BE.out.cell (p := ⟨b2, off2 + k * 2 + 1, none⟩) hbl).trans (HE5.out k hlt).2
      obtain ⟨hp0, hp1⟩ := ms_at HP.out hlt
      have HMS := Lib.hid (show msTo s es (k + 1) = msTo s es k + (if hasX (es.getD k (0, false)).1.toNat s = (es.getD k (0, false)).2 then 0 else 1) from rfl)
      obtain ⟨x, hx⟩ := Int.eq_ofNat_of_zero_le hp0
      rw [hx] at hc0 hp0 hp1 HMS
      rw [Int.toNat_natCast] at HMS
      generalize (es.getD k (0, false)).2 = lb at *
      have hx5 : x < 5 := by omega
      clear hx
      generalize msTo s es k = M at *
      have HG := Lib.hid (fun w => implLabelled s x hs hx5 w)
      generalize hasX x s = gg at *
      have EX := Lib.hid (show Below wr.heap.size wr (wr.alloc (Obj.cells #[.int .i64 (x : Int), .bool lb] 62)) from (Below.refl _ _).alloc (Nat.le_refl _) _)
      have EZ := Lib.hid (show wr.heap.size < (wr.alloc (Obj.cells #[.int .i64 (x : Int), .bool lb] 62)).heap.size by simp)
      have e0 := (show (wr.alloc (Obj.cells #[.int .i64 (x : Int), .bool lb] 62)).cell? ⟨wr.heap.size, 0, none⟩ = some (.int .i64 (x : Int)) by simp [go_sem])
      have e1 := (show (wr.alloc (Obj.cells #[.int .i64 (x : Int), .bool lb] 62)).cell? ⟨wr.heap.size, 1, none⟩ = some (.bool lb) by simp [go_sem])
      cases gg
      · cases lb
        · go_wp2_with fail
          generalize (wr.alloc (Obj.cells #[.int .i64 (x : Int), .bool false] 62)) = we at *
          go_region_held3 (fun w' => w'.cell? ⟨wr.heap.size, 0, none⟩ = some (.int .i64 (x : Int)) ∧ w'.cell? ⟨wr.heap.size, 1, none⟩ = some (.bool false)) (first | exact ⟨e0, e1⟩ | exact ⟨f0, f1⟩ | go_keep) (first | (go_at_call 59; refine (HG.out _).mono ?_; rintro e w4 ⟨rfl, hb4⟩; have B4 := Lib.hid (show Below we.heap.size we w4 from Below.trans (by first | exact Below.refl _ _ | exact (Below.refl _ _).drew) hb4); have f0 := (B4.out.cell (p := ⟨wr.heap.size, 0, none⟩) EZ.out).trans e0; have f1 := (B4.out.cell (p := ⟨wr.heap.size, 1, none⟩) EZ.out).trans e1; clear hb4))
          have B5 := Lib.hid (show Below wr.heap.size wr w4 from EX.out.trans (B4.out.mono (Nat.le_of_lt EZ.out)))
          clear e0 e1
          go_wp2_with fail
          go_roundw
          case rel => exact ⟨k + 1, by omega, by go_num, by rw [HMS.out]; simp, BE.out.trans (B5.out.mono hz)⟩
          case measure => simp [intOf]; omega
        · go_wp2_with fail
          generalize (wr.alloc (Obj.cells #[.int .i64 (x : Int), .bool true] 62)) = we at *
          go_region_held3 (fun w' => w'.cell? ⟨wr.heap.size, 0, none⟩ = some (.int .i64 (x : Int)) ∧ w'.cell? ⟨wr.heap.size, 1, none⟩ = some (.bool true)) (first | exact ⟨e0, e1⟩ | exact ⟨f0, f1⟩ | go_keep) (first | (go_at_call 59; refine (HG.out _).mono ?_; rintro e w4 ⟨rfl, hb4⟩; have B4 := Lib.hid (show Below we.heap.size we w4 from Below.trans (by first | exact Below.refl _ _ | exact (Below.refl _ _).drew) hb4); have f0 := (B4.out.cell (p := ⟨wr.heap.size, 0, none⟩) EZ.out).trans e0; have f1 := (B4.out.cell (p := ⟨wr.heap.size, 1, none⟩) EZ.out).trans e1; clear hb4))
          have B5 := Lib.hid (show Below wr.heap.size wr w4 from EX.out.trans (B4.out.mono (Nat.le_of_lt EZ.out)))
          clear e0 e1
          go_wp2_with fail
          go_roundw
          case rel => exact ⟨k + 1, by omega, by go_num, by rw [HMS.out]; simp, BE.out.trans (B5.out.mono hz)⟩
          case measure => simp [intOf]; omega
      · cases lb
        · go_wp2_with fail
          generalize (wr.alloc (Obj.cells #[.int .i64 (x : Int), .bool false] 62)) = we at *
          go_region_held3 (fun w' => w'.cell? ⟨wr.heap.size, 0, none⟩ = some (.int .i64 (x : Int)) ∧ w'.cell? ⟨wr.heap.size, 1, none⟩ = some (.bool false)) (first | exact ⟨e0, e1⟩ | exact ⟨f0, f1⟩ | go_keep) (first | (go_at_call 59; refine (HG.out _).mono ?_; rintro e w4 ⟨rfl, hb4⟩; have B4 := Lib.hid (show Below we.heap.size we w4 from Below.trans (by first | exact Below.refl _ _ | exact (Below.refl _ _).drew) hb4); have f0 := (B4.out.cell (p := ⟨wr.heap.size, 0, none⟩) EZ.out).trans e0; have f1 := (B4.out.cell (p := ⟨wr.heap.size, 1, none⟩) EZ.out).trans e1; clear hb4))
          have B5 := Lib.hid (show Below wr.heap.size wr w4 from EX.out.trans (B4.out.mono (Nat.le_of_lt EZ.out)))
          clear e0 e1
          go_wp2_with fail
          go_roundw
          case rel => exact ⟨k + 1, by omega, by go_num, by rw [HMS.out]; simp, BE.out.trans (B5.out.mono hz)⟩
          case measure => simp [intOf]; omega
        · go_wp2_with fail
          generalize (wr.alloc (Obj.cells #[.int .i64 (x : Int), .bool true] 62)) = we at *
          go_region_held3 (fun w' => w'.cell? ⟨wr.heap.size, 0, none⟩ = some (.int .i64 (x : Int)) ∧ w'.cell? ⟨wr.heap.size, 1, none⟩ = some (.bool true)) (first | exact ⟨e0, e1⟩ | exact ⟨f0, f1⟩ | go_keep) (first | (go_at_call 59; refine (HG.out _).mono ?_; rintro e w4 ⟨rfl, hb4⟩; have B4 := Lib.hid (show Below we.heap.size we w4 from Below.trans (by first | exact Below.refl _ _ | exact (Below.refl _ _).drew) hb4); have f0 := (B4.out.cell (p := ⟨wr.heap.size, 0, none⟩) EZ.out).trans e0; have f1 := (B4.out.cell (p := ⟨wr.heap.size, 1, none⟩) EZ.out).trans e1; clear hb4))
          have B5 := Lib.hid (show Below wr.heap.size wr w4 from EX.out.trans (B4.out.mono (Nat.le_of_lt EZ.out)))
          clear e0 e1
          go_wp2_with fail
          go_roundw
          case rel => exact ⟨k + 1, by omega, by go_num, by rw [HMS.out]; simp, BE.out.trans (B5.out.mono hz)⟩
          case measure => simp [intOf]; omega
    · obtain rfl : k = es.length := by omega
      go_wp2_with fail
      go_ret
      exact ⟨rfl, BE.out⟩


end Go.Proofs.YtlnnoeicboamgaaDoor
