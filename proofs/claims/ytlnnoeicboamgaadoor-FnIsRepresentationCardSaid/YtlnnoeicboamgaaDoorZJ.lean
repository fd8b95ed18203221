/- The laws' own helpers: equality of lists, membership, size. Conditions: what the slices hold. The laws' own helpers: among, ascends, subset, points. Conditions: what the slices hold. -/
import Derived.Test.YtlnnoeicboamgaaDoorComplS
import Derived.Test.YtlnnoeicboamgaaDoorZA
import Derived.Test.YtlnnoeicboamgaaDoorZB
import Derived.Test.YtlnnoeicboamgaaDoorZH
namespace Go.Proofs.YtlnnoeicboamgaaDoor
open Go.RowKit



set_option maxHeartbeats 400000 in
theorem lawsHolds (v : Value) (zs : List Int) (x : Int) (w : World) (h : Rd w v zs) :
    Calls Tryd.prog 20 #[v, .int .i64 x] w fun e w' => e = .returned (.bool (hasB zs x)) ∧ w = w' := by
  obtain ⟨a, b, off, cap, rfl, h1, h3, h5⟩ := h
  have H5 := Lib.hid h5
  have H1 := Lib.hid h1
  clear h5 h1
  go_enter Tryd.func20, Tryd.ntmps20
  go_wp2
  go_loop [5] (fun i => ∃ k : Nat, k ≤ zs.length ∧ i = .int .i64 k ∧ Hid (∀ j, j < k → zs.getD j 0 ≠ x)) (fun i => zs.length - (intOf i).toNat)
  case atStart => exact ⟨0, Nat.zero_le _, rfl, Lib.hid fun j hj => by omega⟩
  case round =>
    obtain ⟨k, hk, rfl, HN⟩ := hrel
    by_cases hlt : k < zs.length
    · obtain ⟨rfl, _⟩ := H1.out (by omega)
      have hc := H5.out k hlt
      have HY := Lib.hid (fun h => hasB_at (x := x) hlt h)
      generalize hy : zs.getD k 0 = y at hc HY
      have HE := Lib.hid hy
      clear hy
      by_cases hxy : y = x
      · have hb : (y == x) = true := by simpa using hxy
        have HR := Lib.hid (HY.out hxy)
        clear hxy
        go_wp2
        go_ret
        exact ⟨ret_bool HR.out.symm, rfl⟩
      · have hb : (y == x) = false := by simpa using hxy
        have HX := Lib.hid hxy
        clear hxy
        go_wp2
        go_round
        case rel => exact ⟨k + 1, by omega, by go_num, Lib.hid fun j hj => by
          by_cases e : j = k
          · subst e; rw [HE.out]; exact HX.out
          · exact HN.out j (by omega)⟩
        case measure => simp [intOf]; omega
    · go_wp2
      go_ret
      obtain rfl : k = zs.length := by omega
      exact ⟨ret_bool (hasB_none HN.out).symm, rfl⟩


end Go.Proofs.YtlnnoeicboamgaaDoor

namespace Go.Proofs.YtlnnoeicboamgaaDoor
open Go.RowKit


theorem asc_step {ns : List Nat} (h : ns.Pairwise (· < ·)) {k : Nat} (hk : 0 < k) (hl : k < ns.length) : ns.getD (k - 1) 0 < ns.getD k 0 := by
  rw [List.pairwise_iff_getElem] at h
  have := h (k - 1) k (by omega) hl (by omega)
  simp only [List.getD_eq_getElem?_getD, List.getElem?_eq_getElem (show k - 1 < ns.length by omega), List.getElem?_eq_getElem hl, Option.getD_some]
  exact this



/-- the points of a set -/
def pts (s : Nat) : List Nat := (List.range 5).filter (fun x => hasX x s)
def ptUp (s k : Nat) : List Nat := (List.range k).filter (fun x => hasX x s)
theorem pts_done {s k : Nat} (hs : s < 32) (hk : k ≤ 5) (h : s / 2 ^ k = 0) : ptUp s k = pts s := by
  have key : ∀ s : Fin 32, ∀ k : Fin 6, (s : Nat) / 2 ^ (k : Nat) = 0 → ptUp (s : Nat) (k : Nat) = pts (s : Nat) := by decide +kernel
  exact key ⟨s, hs⟩ ⟨k, by omega⟩ h

set_option maxHeartbeats 1600000 in
theorem lawsPoints (s : Nat) (hs : s < 32) (w : World) :
    Calls Tryd.prog 28 #[.int .i64 (s : Int)] w (RetInts (toI (pts s)) w) := by
  go_enter Tryd.func28, Tryd.ntmps28
  go_wp2_with fail
  go_loopw [0, 3, 4] (fun i o x wr => ∃ (k : Nat) (a' : Option Addr) (c' : Nat), k ≤ 5 ∧ i = .int .i64 ((s / 2 ^ k : Nat) : Int) ∧ x = .int .i64 k ∧ o = .slice a' (ptUp s k).length c' ∧ Ints w.heap.size wr (.slice a' (ptUp s k).length c') (toI (ptUp s k)) ∧ Below w.heap.size w wr) (fun i _ _ _ => (intOf i).toNat)
  case atStart => exact ⟨0, _, _, by omega, by simp, rfl, rfl, Ints.lit' (by simp) (by simp), by go_grown⟩
  case round =>
    obtain ⟨k, a', c', hk, rfl, rfl, rfl, hin, hbe⟩ := hrel
    have HIN := Lib.hid hin
    have HBE := Lib.hid hbe
    have hz := hbe.size
    clear hin hbe
    have HDn := Lib.hid (pts_done (s := s) (k := k) hs hk)
    have H5 := Lib.hid (show k = 5 → s / 2 ^ k = 0 from fun h => by subst h; exact Nat.div_eq_of_lt hs)
    have HN := Lib.hid (show s / 2 ^ k / 2 = s / 2 ^ (k + 1) by rw [Nat.div_div_eq_div_mul, Nat.pow_succ])
    have HY := Lib.hid (show s / 2 ^ k % 2 = 1 → ptUp s (k + 1) = ptUp s k ++ [k] from fun h => filt_yes (by simpa [hasX] using h))
    have HO := Lib.hid (show ¬ s / 2 ^ k % 2 = 1 → ptUp s (k + 1) = ptUp s k from fun h => filt_no (by simpa [hasX] using h))
    have hle := filt_le (fun x => hasX x s) k
    have hle2 : (ptUp s k).length ≤ k := hle
    clear hle
    have hr32 : s / 2 ^ k < 32 := Nat.lt_of_le_of_lt (Nat.div_le_self _ _) hs
    generalize s / 2 ^ k = r at *
    generalize ptUp s k = A at *
    by_cases hlt : 0 < r
    · by_cases hb : r % 2 = 1
      · have hd : ((r : Int) % 2 == 1) = true := by simp; omega
        have hd2 : (Int.tmod (r : Int) 2 == 1) = true := by rw [Int.tmod_eq_emod_of_nonneg (by omega)]; exact hd
        have HAl := Lib.hid (toI_length A)
        go_wp2_with (at_builtin; refine wpList_app rfl (.tmp 13) (.tmp 15) rfl w.heap.size _ (toI A) rfl (by exact HIN.out.alloc _) _ _ _ [(k : Int)] rfl (src_cell (by rw [World.cell?_alloc_at _ _ _ _ rfl]; rfl)) (by rw [HAl.out]; omega) (by simp; omega) ?_; intro a3 c3 w3 hin3 hb3 hg3; have I3 := Lib.hid hin3; have B3 := Lib.hid (HBE.out.trans (Below.trans ((Below.refl _ _).alloc (by omega) _) hb3)); clear hin3 hb3 hg3)
        rw [HAl.out] at I3
        go_roundw
        case rel => exact ⟨k + 1, a3, c3, by have := H5.out; omega, by rw [← HN.out]; go_num, by go_num, by rw [HY.out hb, HAl.out, List.length_append]; rfl, by rw [HY.out hb, List.length_append, toI_append]; exact I3.out, B3.out⟩
        case measure => simp [intOf]; omega
      · have hd : ((r : Int) % 2 == 1) = false := by simp; omega
        have hd2 : (Int.tmod (r : Int) 2 == 1) = false := by rw [Int.tmod_eq_emod_of_nonneg (by omega)]; exact hd
        go_wp2_with fail
        go_roundw
        case rel => exact ⟨k + 1, a', c', by have := H5.out; omega, by rw [← HN.out]; go_num, by go_num, by rw [HO.out hb], by rw [HO.out hb]; exact HIN.out, HBE.out⟩
        case measure => simp [intOf]; omega
    · obtain rfl : r = 0 := by omega
      have HP := Lib.hid (HDn.out rfl)
      have HAl := Lib.hid (toI_length A)
      go_wp2_with fail
      go_ret
      refine ⟨a', c', ?_, ?_, HBE.out⟩
      · rw [← HP.out, HAl.out]
        rfl
      · rw [← HP.out, HAl.out]; exact HIN.out

end Go.Proofs.YtlnnoeicboamgaaDoor
