/- slices.Index and slices.Contains of ints. Conditions: a slice of ints. -/
import Derived.Test.YtgldckgecoijfaaIdxI
import Derived.Test.YtgldckgecoijfaaZJ
namespace Go.Proofs.Ytgldckgecoijfaa
open Go.RowKit

set_option maxHeartbeats 800000 in
theorem slIndexIn (v : Value) (xs : List Int) (x : Int) (j : Nat) (w : World) (h : Rd w v xs) (hj : j < xs.length) (hx : xs.getD j 0 = x) (hn : ∀ i, i < j → xs.getD i 0 ≠ x) :
    Calls Try.prog 53 #[v, .int .i64 x] w fun e w' => e = .returned (.int .i64 (j : Int)) ∧ w = w' := by
  obtain ⟨a, b, off, cap, rfl, h1, h3, h5⟩ := h
  have H5 := Lib.hid h5
  have HX := Lib.hid hx
  have HN := Lib.hid hn
  obtain ⟨rfl, _⟩ := h1 (by omega)
  clear h5 h1 hx hn
  go_enter Try.func53, Try.ntmps53
  go_wp2
  go_loop [8] (fun i => ∃ k : Nat, k ≤ j ∧ i = .int .i64 k) (fun i => xs.length - (intOf i).toNat)
  case atStart => exact ⟨0, by omega, rfl⟩
  case round =>
    obtain ⟨k, hk, rfl⟩ := hrel
    have hlt : k < xs.length := by omega
    have hc := H5.out k hlt
    by_cases he : k = j
    · have HK := Lib.hid he
      have he2 : xs.getD k 0 = x := by rw [he]; exact HX.out
      rw [he2] at hc
      clear he he2
      go_wp2
      go_ret
      exact ⟨ret_int (by rw [HK.out]), rfl⟩
    · have hne := HN.out k (by omega)
      generalize xs.getD k 0 = y at *
      have hd : (x == y) = false := by simpa using fun e => hne e.symm
      go_wp2
      go_round
      case rel => exact ⟨k + 1, by omega, by go_num⟩
      case measure => simp [intOf]; omega

set_option maxHeartbeats 800000 in
theorem slIndexNo (v : Value) (xs : List Int) (x : Int) (w : World) (h : Rd w v xs) (hn : ∀ i, i < xs.length → xs.getD i 0 ≠ x) :
    Calls Try.prog 53 #[v, .int .i64 x] w fun e w' => e = .returned (.int .i64 (-1)) ∧ w = w' := by
  obtain ⟨a, b, off, cap, rfl, h1, h3, h5⟩ := h
  have H5 := Lib.hid h5
  have H1 := Lib.hid h1
  have HN := Lib.hid hn
  clear h5 h1 hn
  go_enter Try.func53, Try.ntmps53
  go_wp2
  go_loop [8] (fun i => ∃ k : Nat, k ≤ xs.length ∧ i = .int .i64 k) (fun i => xs.length - (intOf i).toNat)
  case atStart => exact ⟨0, by omega, rfl⟩
  case round =>
    obtain ⟨k, hk, rfl⟩ := hrel
    by_cases hlt : k < xs.length
    · obtain ⟨rfl, _⟩ := H1.out (by omega)
      have hc := H5.out k hlt
      have hne := HN.out k hlt
      generalize xs.getD k 0 = y at *
      have hd : (x == y) = false := by simpa using fun e => hne e.symm
      go_wp2
      go_round
      case rel => exact ⟨k + 1, by omega, by go_num⟩
      case measure => simp [intOf]; omega
    · go_wp2
      go_ret
      exact ⟨rfl, rfl⟩
/-- the first place of a number that is there -/
theorem first_at (xs : List Int) (x : Int) : hasB xs x = true → ∃ j, j < xs.length ∧ xs.getD j 0 = x ∧ ∀ i, i < j → xs.getD i 0 ≠ x := by
  intro h
  have hm : x ∈ xs := by simpa [hasB] using h
  clear h
  induction xs with
  | nil => cases hm
  | cons y ys ih =>
    by_cases e : y = x
    · exact ⟨0, by simp, by simpa using e, fun i hi => by omega⟩
    · have hm2 : x ∈ ys := by
        rcases List.mem_cons.1 hm with h | h
        · exact absurd h.symm e
        · exact h
      obtain ⟨j, h1, h2, h3⟩ := ih hm2
      refine ⟨j + 1, by simp; exact h1, by simpa using h2, fun i hi => ?_⟩
      cases i with
      | zero => simpa using e
      | succ i => have := h3 i (by omega); simpa using this
theorem none_at {xs : List Int} {x : Int} (h : hasB xs x = false) : ∀ i, i < xs.length → xs.getD i 0 ≠ x := by
  intro i hi e
  have hm : xs.getD i 0 ∈ xs := by rw [List.getD_eq_getElem?_getD, List.getElem?_eq_getElem hi]; exact List.getElem_mem hi
  rw [e] at hm
  have : hasB xs x = true := by simpa [hasB] using hm
  rw [h] at this
  cases this
set_option maxHeartbeats 800000 in
theorem slContains (v : Value) (xs : List Int) (x : Int) (w : World) (h : Rd w v xs) :
    Calls Try.prog 54 #[v, .int .i64 x] w fun e w' => e = .returned (.bool (hasB xs x)) ∧ w = w' := by
  cases hh : hasB xs x with
  | true =>
    obtain ⟨j, h1, h2, h3⟩ := first_at xs x hh
    have HI := Lib.hid (slIndexIn v xs x j w h h1 h2 h3)
    clear h1 h2 h3 h hh
    go_enter Try.func54, Try.ntmps54
    go_wp2_with fail
    refine HI.out.mono ?_
    rintro e w1 ⟨rfl, rfl⟩
    go_wp2_with fail
    go_ret
    exact ⟨rfl, rfl⟩
  | false =>
    have HI := Lib.hid (slIndexNo v xs x w h (none_at hh))
    clear h hh
    go_enter Try.func54, Try.ntmps54
    go_wp2_with fail
    refine HI.out.mono ?_
    rintro e w1 ⟨rfl, rfl⟩
    go_wp2_with fail
    go_ret
    exact ⟨rfl, rfl⟩

end Go.Proofs.Ytgldckgecoijfaa
