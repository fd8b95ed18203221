/- The greatest and the least of numbers, the program's (slices.Max, slices.Min) and the model's. Conditions: a slice of ints. -/
import Derived.Test.YtnoppclajhfnjaaDoorZA
namespace Go.Proofs.YtnoppclajhfnjaaDoor
open Go.RowKit

/-- the greatest and the least of the first k numbers, -1 for none -/
def gTo (xs : List Int) : Nat → Int
  | 0 => -1
  | k + 1 => if gTo xs k < xs.getD k 0 then xs.getD k 0 else gTo xs k
def sTo (xs : List Int) : Nat → Int
  | 0 => -1
  | k + 1 => if sTo xs k < 0 ∨ xs.getD k 0 < sTo xs k then xs.getD k 0 else sTo xs k
def natural (xs : List Int) : Prop := ∀ k, k < xs.length → 0 ≤ xs.getD k 0
theorem gTo_step (xs : List Int) (k : Nat) : gTo xs (k + 1) = if gTo xs k < xs.getD k 0 then xs.getD k 0 else gTo xs k := rfl
theorem sTo_step (xs : List Int) (k : Nat) : sTo xs (k + 1) = if sTo xs k < 0 ∨ xs.getD k 0 < sTo xs k then xs.getD k 0 else sTo xs k := rfl
theorem gTo_bd {xs : List Int} (h : natural xs) (k : Nat) (hk : k < xs.length) : 0 ≤ gTo xs (k + 1) := by
  have h1 := h k hk
  rw [gTo_step]
  by_cases hc : gTo xs k < xs.getD k 0
  · rw [if_pos hc]; exact h1
  · rw [if_neg hc]; omega
theorem gTo_one {xs : List Int} (h : natural xs) (h0 : 0 < xs.length) : gTo xs 1 = xs.getD 0 0 := by
  have h1 := h 0 h0
  have e : gTo xs 0 = -1 := rfl
  rw [gTo_step, if_pos (by omega)]
theorem sTo_bd {xs : List Int} (h : natural xs) (k : Nat) (hk : k < xs.length) : 0 ≤ sTo xs (k + 1) := by
  have h1 := h k hk
  rw [sTo_step]
  by_cases hc : sTo xs k < 0 ∨ xs.getD k 0 < sTo xs k
  · rw [if_pos hc]; exact h1
  · rw [if_neg hc]; omega
theorem sTo_one (xs : List Int) : sTo xs 1 = xs.getD 0 0 := by
  have e : sTo xs 0 = -1 := rfl
  rw [sTo_step, if_pos (.inl (by omega))]

set_option maxHeartbeats 800000 in
theorem slicesMax (v : Value) (xs : List Int) (w : World) (h : Rd w v xs) (hn : natural xs) (h0 : 0 < xs.length) :
    Calls Tryd.prog 79 #[v] w fun e w' => e = .returned (.int .i64 (gTo xs xs.length)) ∧ w = w' := by
  obtain ⟨a, b, off, cap, rfl, h1, h3, h5⟩ := h
  have H5 := Lib.hid h5
  have HG := Lib.hid (gTo_one hn h0)
  obtain ⟨rfl, _⟩ := h1 h0
  have hc0 := h5 0 h0
  rw [Nat.add_zero] at hc0
  generalize xs.getD 0 0 = x0 at hc0 HG
  clear h5
  have h0I : (0 : Int) < (xs.length : Int) := by omega
  have h0J : ¬ (xs.length : Int) < 1 := by omega
  go_enter Tryd.func79, Tryd.ntmps79
  go_wp2
  go_loop [3, 4] (fun m i => ∃ k : Nat, 0 < k ∧ k ≤ xs.length ∧ i = .int .i64 k ∧ m = .int .i64 (gTo xs k)) (fun _ i => xs.length - (intOf i).toNat)
  case atStart => exact ⟨1, by omega, by omega, rfl, by rw [HG.out]⟩
  case round =>
    obtain ⟨k, hk0, hk, rfl, rfl⟩ := hrel
    by_cases hlt : k < xs.length
    · have hc := H5.out k hlt
      have HS := Lib.hid (show gTo xs (k + 1) = if gTo xs k < xs.getD k 0 then xs.getD k 0 else gTo xs k from rfl)
      generalize xs.getD k 0 = x at *
      generalize gTo xs k = g at *
      by_cases hx : g < x
      · have HE := Lib.hid (HS.out.trans (if_pos hx))
        go_wp2
        go_round
        case rel => exact ⟨k + 1, by omega, by omega, by go_num, by rw [HE.out]⟩
        case measure => simp [intOf]; omega
      · have HE := Lib.hid (HS.out.trans (if_neg hx))
        go_wp2
        go_round
        case rel => exact ⟨k + 1, by omega, by omega, by go_num, by rw [HE.out]⟩
        case measure => simp [intOf]; omega
    · obtain rfl : k = xs.length := by omega
      go_wp2
      go_ret
      exact ⟨rfl, rfl⟩

set_option maxHeartbeats 800000 in
theorem slicesMin (v : Value) (xs : List Int) (w : World) (h : Rd w v xs) (hn : natural xs) (h0 : 0 < xs.length) :
    Calls Tryd.prog 87 #[v] w fun e w' => e = .returned (.int .i64 (sTo xs xs.length)) ∧ w = w' := by
  obtain ⟨a, b, off, cap, rfl, h1, h3, h5⟩ := h
  have H5 := Lib.hid h5
  have HG := Lib.hid (sTo_one xs)
  have HB := Lib.hid (fun k hk => sTo_bd hn k hk)
  obtain ⟨rfl, _⟩ := h1 h0
  have hc0 := h5 0 h0
  rw [Nat.add_zero] at hc0
  generalize xs.getD 0 0 = x0 at hc0 HG
  clear h5
  have h0I : (0 : Int) < (xs.length : Int) := by omega
  have h0J : ¬ (xs.length : Int) < 1 := by omega
  go_enter Tryd.func87, Tryd.ntmps87
  go_wp2
  go_loop [3, 4] (fun m i => ∃ k : Nat, 0 < k ∧ k ≤ xs.length ∧ i = .int .i64 k ∧ m = .int .i64 (sTo xs k)) (fun _ i => xs.length - (intOf i).toNat)
  case atStart => exact ⟨1, by omega, by omega, rfl, by rw [HG.out]⟩
  case round =>
    obtain ⟨k, hk0, hk, rfl, rfl⟩ := hrel
    by_cases hlt : k < xs.length
    · have hc := H5.out k hlt
      have HS := Lib.hid (show sTo xs (k + 1) = if sTo xs k < 0 ∨ xs.getD k 0 < sTo xs k then xs.getD k 0 else sTo xs k from rfl)
      have hg0 := HB.out (k - 1) (by omega)
      rw [show k - 1 + 1 = k by omega] at hg0
      generalize xs.getD k 0 = x at *
      generalize sTo xs k = g at *
      by_cases hx : x < g
      · have HE := Lib.hid (HS.out.trans (if_pos (.inr hx)))
        go_wp2
        go_round
        case rel => exact ⟨k + 1, by omega, by omega, by go_num, by rw [HE.out]⟩
        case measure => simp [intOf]; omega
      · have HE := Lib.hid (HS.out.trans (if_neg (fun h => h.elim (fun h => by omega) hx)))
        go_wp2
        go_round
        case rel => exact ⟨k + 1, by omega, by omega, by go_num, by rw [HE.out]⟩
        case measure => simp [intOf]; omega
    · obtain rfl : k = xs.length := by omega
      go_wp2
      go_ret
      exact ⟨rfl, rfl⟩

set_option maxHeartbeats 800000 in
theorem specGreatest (v : Value) (xs : List Int) (w : World) (h : Rd w v xs) :
    Calls Tryd.prog 80 #[v] w fun e w' => e = .returned (.int .i64 (gTo xs xs.length)) ∧ w = w' := by
  obtain ⟨a, b, off, cap, rfl, h1, h3, h5⟩ := h
  have H5 := Lib.hid h5
  have H1 := Lib.hid h1
  clear h5 h1
  go_enter Tryd.func80, Tryd.ntmps80
  go_wp2
  go_loop [3, 4] (fun m i => ∃ k : Nat, k ≤ xs.length ∧ i = .int .i64 k ∧ m = .int .i64 (gTo xs k)) (fun _ i => xs.length - (intOf i).toNat)
  case atStart => exact ⟨0, by omega, rfl, rfl⟩
  case round =>
    obtain ⟨k, hk, rfl, rfl⟩ := hrel
    by_cases hlt : k < xs.length
    · obtain ⟨rfl, _⟩ := H1.out (by omega)
      have hc := H5.out k hlt
      have HS := Lib.hid (gTo_step xs k)
      generalize xs.getD k 0 = x at *
      generalize gTo xs k = g at *
      by_cases hx : g < x
      · have HE := Lib.hid (HS.out.trans (if_pos hx))
        go_wp2
        go_round
        case rel => exact ⟨k + 1, by omega, by go_num, by rw [HE.out]⟩
        case measure => simp [intOf]; omega
      · have HE := Lib.hid (HS.out.trans (if_neg hx))
        go_wp2
        go_round
        case rel => exact ⟨k + 1, by omega, by go_num, by rw [HE.out]⟩
        case measure => simp [intOf]; omega
    · obtain rfl : k = xs.length := by omega
      go_wp2
      go_ret
      exact ⟨rfl, rfl⟩

set_option maxHeartbeats 800000 in
theorem specSmallest (v : Value) (xs : List Int) (w : World) (h : Rd w v xs) :
    Calls Tryd.prog 88 #[v] w fun e w' => e = .returned (.int .i64 (sTo xs xs.length)) ∧ w = w' := by
  obtain ⟨a, b, off, cap, rfl, h1, h3, h5⟩ := h
  have H5 := Lib.hid h5
  have H1 := Lib.hid h1
  clear h5 h1
  go_enter Tryd.func88, Tryd.ntmps88
  go_wp2
  go_loop [3, 4] (fun m i => ∃ k : Nat, k ≤ xs.length ∧ i = .int .i64 k ∧ m = .int .i64 (sTo xs k)) (fun _ i => xs.length - (intOf i).toNat)
  case atStart => exact ⟨0, by omega, rfl, rfl⟩
  case round =>
    obtain ⟨k, hk, rfl, rfl⟩ := hrel
    by_cases hlt : k < xs.length
    · obtain ⟨rfl, _⟩ := H1.out (by omega)
      have hc := H5.out k hlt
      have HS := Lib.hid (sTo_step xs k)
      generalize xs.getD k 0 = x at *
      generalize sTo xs k = g at *
      by_cases hg : g < 0
      · have HE := Lib.hid (HS.out.trans (if_pos (.inl hg)))
        go_wp2
        go_round
        case rel => exact ⟨k + 1, by omega, by go_num, by rw [HE.out]⟩
        case measure => simp [intOf]; omega
      · by_cases hx : x < g
        · have HE := Lib.hid (HS.out.trans (if_pos (.inr hx)))
          go_wp2
          go_round
          case rel => exact ⟨k + 1, by omega, by go_num, by rw [HE.out]⟩
          case measure => simp [intOf]; omega
        · have HE := Lib.hid (HS.out.trans (if_neg (fun h => h.elim hg hx)))
          go_wp2
          go_round
          case rel => exact ⟨k + 1, by omega, by go_num, by rw [HE.out]⟩
          case measure => simp [intOf]; omega
    · obtain rfl : k = xs.length := by omega
      go_wp2
      go_ret
      exact ⟨rfl, rfl⟩

end Go.Proofs.YtnoppclajhfnjaaDoor
