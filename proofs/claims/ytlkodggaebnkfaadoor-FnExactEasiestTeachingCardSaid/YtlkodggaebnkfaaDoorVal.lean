/- ValidClass, the program's and the model's. Conditions: Sets is a slice of ints. -/
import Derived.Test.YtlkodggaebnkfaaDoorPow
import Derived.WalkSmall
namespace Go.Proofs.YtlkodggaebnkfaaDoor
open Go.RowKit

/-- the first k numbers are sets of n points, ascending -/
def okTo (n : Nat) (zs : List Int) (k : Nat) : Prop := ∀ j, j < k → 0 ≤ zs.getD j 0 ∧ zs.getD j 0 < 2 ^ n ∧ (0 < j → zs.getD (j - 1) 0 < zs.getD j 0)
instance (n : Nat) (zs : List Int) (k : Nat) : Decidable (okTo n zs k) := Nat.decidableBallLT k fun j _ => 0 ≤ zs.getD j 0 ∧ zs.getD j 0 < 2 ^ n ∧ (0 < j → zs.getD (j - 1) 0 < zs.getD j 0)
/-- is the class valid? -/
def vldB (n : Int) (zs : List Int) : Bool := decide (0 ≤ n ∧ n ≤ 5 ∧ okTo n.toNat zs zs.length)
/-- the least number that may come next -/
def lst (zs : List Int) : Nat → Int
  | 0 => 0
  | k + 1 => zs.getD k 0 + 1

theorem vldB_low {n : Int} {zs : List Int} (h : n < 0) : vldB n zs = false := by simp [vldB]; intro h0; omega
theorem vldB_high {n : Int} {zs : List Int} (h : 5 < n) : vldB n zs = false := by simp [vldB]; intro _ h0; omega
theorem vldB_at {n : Nat} {zs : List Int} {k : Nat} (hk : k < zs.length) (h : ¬ (0 ≤ zs.getD k 0 ∧ zs.getD k 0 < 2 ^ n ∧ (0 < k → zs.getD (k - 1) 0 < zs.getD k 0))) : vldB n zs = false := by
  simp only [vldB, decide_eq_false_iff_not]
  rintro ⟨_, _, h3⟩
  exact h (h3 k hk)
theorem vldB_all {n : Nat} {zs : List Int} (hn : n ≤ 5) (h : okTo n zs zs.length) : vldB n zs = true := by
  simp only [vldB, decide_eq_true_eq]
  exact ⟨by omega, by omega, h⟩
theorem okTo_zero (n : Nat) (zs : List Int) : okTo n zs 0 := fun j hj => by omega
theorem okTo_succ {n : Nat} {zs : List Int} {k : Nat} (h : okTo n zs k) (h1 : 0 ≤ zs.getD k 0) (h2 : zs.getD k 0 < 2 ^ n) (h3 : 0 < k → zs.getD (k - 1) 0 < zs.getD k 0) : okTo n zs (k + 1) := fun j hj => by
  by_cases e : j = k
  · subst e; exact ⟨h1, h2, h3⟩
  · exact h j (by omega)
theorem lst_bd {n : Nat} {zs : List Int} {k : Nat} (hn : n ≤ 5) (h : okTo n zs k) : 0 ≤ lst zs k ∧ lst zs k ≤ 32 := by
  cases k with
  | zero => exact ⟨Int.le_refl _, by simp [lst]⟩
  | succ k =>
    have := h k (by omega)
    have hp : (2 : Int) ^ n ≤ 32 := by
      have : ∀ m : Fin 6, (2 : Int) ^ (m : Nat) ≤ 32 := by decide
      exact this ⟨n, by omega⟩
    simp only [lst]
    omega
/-- what the program asks of one set is what is asked here -/
theorem lst_ok {n : Nat} {zs : List Int} {k : Nat} (h : okTo n zs k) (x : Int) : lst zs k ≤ x ↔ (0 ≤ x ∧ (0 < k → zs.getD (k - 1) 0 < x)) := by
  cases k with
  | zero => simp [lst]
  | succ k =>
    have := h k (by omega)
    simp only [lst, Nat.add_sub_cancel]
    constructor
    · intro h; exact ⟨by omega, fun _ => by omega⟩
    · intro h; have := h.2 (by omega); omega

theorem wrap_pow (n : Nat) (h : n ≤ 5) : wrap64 ((2 : Int) ^ n) = 2 ^ n ∧ 1 ≤ wrap64 ((2 : Int) ^ n) ∧ wrap64 ((2 : Int) ^ n) ≤ 32 := by
  have hp : (2 : Int) ^ n ≤ 32 ∧ 1 ≤ (2 : Int) ^ n := by
    have : ∀ m : Fin 6, (2 : Int) ^ (m : Nat) ≤ 32 ∧ 1 ≤ (2 : Int) ^ (m : Nat) := by decide
    exact this ⟨n, by omega⟩
  have e : wrap64 ((2 : Int) ^ n) = 2 ^ n := IntWalk.wrap64_in _ ⟨by omega, by omega⟩
  rw [e]
  exact ⟨rfl, hp.2, hp.1⟩

set_option maxHeartbeats 400000 in
theorem implValid_off (n : Int) (v : Value) (w : World) (h : n < 0 ∨ 5 < n) :
    Calls Tryd.prog 48 #[.agg #[.int .i64 n, v]] w fun e w' => e = .returned (.bool false) ∧ Below w.heap.size w w' := by
  rcases h with h | h
  · go_enter Tryd.func48, Tryd.ntmps48
    go_wp2
    go_ret
    exact ⟨rfl, (Below.refl _ _).alloc (Nat.le_refl _) _⟩
  · have h' : ¬ n < 0 := by omega
    go_enter Tryd.func48, Tryd.ntmps48
    go_wp2
    go_ret
    exact ⟨rfl, (Below.refl _ _).alloc (Nat.le_refl _) _⟩

set_option maxHeartbeats 800000 in
theorem implValid_in (n : Nat) (hn : n ≤ 5) (v : Value) (zs : List Int) (w : World) (h : Rd w v zs) :
    Calls Tryd.prog 48 #[.agg #[.int .i64 n, v]] w fun e w' => e = .returned (.bool (vldB n zs)) ∧ Below w.heap.size w w' := by
  obtain ⟨a, g, off, cap, rfl, h1, h3, h5⟩ := h
  have H5 := Lib.hid h5
  have H1 := Lib.hid h1
  clear h5 h1
  have h0 : ¬ (n : Int) < 0 := by omega
  have h0' : ¬ (5 : Int) < n := by omega
  go_enter Tryd.func48, Tryd.ntmps48
  go_wp2
  go_loop [3, 17] (fun l i => ∃ k : Nat, k ≤ zs.length ∧ i = .int .i64 k ∧ l = .int .i64 (lst zs k) ∧ okTo n zs k) (fun _ i => zs.length - (intOf i).toNat)
  case atStart => exact ⟨0, Nat.zero_le _, rfl, rfl, okTo_zero _ _⟩
  case round =>
    obtain ⟨k, hk, rfl, rfl, hok⟩ := hrel
    have hb := lst_bd hn hok
    have HI := Lib.hid (lst_ok hok)
    have HO := Lib.hid hok
    clear hok
    by_cases hlt : k < zs.length
    · obtain ⟨rfl, hbl⟩ := H1.out (by omega)
      have hc := H5.out k hlt
      generalize hx : zs.getD k 0 = x at hc
      have HX := Lib.hid hx
      clear hx
      generalize hl : lst zs k = l at hb
      have HL := Lib.hid hl
      clear hl
      have hw := wrap_pow n hn
      have HW := Lib.hid hw.1
      have hw2 := hw.2
      clear hw
      go_wp2
      · have h1 : l ≤ x := by assumption
        have h2 : x < l ∨ wrap64 (2 ^ n) ≤ x := by assumption
        go_ret
        refine ⟨ret_bool ?_, (Below.refl _ _).alloc (Nat.le_refl _) _⟩
        refine (vldB_at hlt ?_).symm
        rw [HX.out, ← HW.out]
        rintro ⟨_, h4, _⟩
        rcases h2 with h2 | h2 <;> omega
      · have h1 : l ≤ x ∧ x < wrap64 (2 ^ n) := by assumption
        go_round
        case rel =>
          have hI := (HI.out x).1 (by rw [HL.out]; exact h1.1)
          refine ⟨k + 1, by omega, by go_num, ?_, okTo_succ HO.out (by rw [HX.out]; exact hI.1) (by rw [HX.out, ← HW.out]; exact h1.2) (by rw [HX.out]; exact hI.2)⟩
          simp only [lst, HX.out]
        case measure => simp [intOf]; omega
      · have h1 : x < l := by assumption
        go_ret
        refine ⟨ret_bool ?_, (Below.refl _ _).alloc (Nat.le_refl _) _⟩
        refine (vldB_at hlt ?_).symm
        rw [HX.out]
        rintro ⟨h4, _, h6⟩
        have := (HI.out x).2 ⟨h4, h6⟩
        rw [HL.out] at this
        omega
    · go_wp2
      go_ret
      obtain rfl : k = zs.length := by omega
      exact ⟨ret_bool (vldB_all hn HO.out).symm, (Below.refl _ _).alloc (Nat.le_refl _) _⟩

theorem implValid (n : Int) (v : Value) (zs : List Int) (w : World) (h : Rd w v zs) :
    Calls Tryd.prog 48 #[.agg #[.int .i64 n, v]] w fun e w' => e = .returned (.bool (vldB n zs)) ∧ Below w.heap.size w w' := by
  by_cases h0 : n < 0
  · rw [vldB_low h0]; exact implValid_off n v w (.inl h0)
  · by_cases h1 : 5 < n
    · rw [vldB_high h1]; exact implValid_off n v w (.inr h1)
    · obtain ⟨m, rfl⟩ := Int.eq_ofNat_of_zero_le (show 0 ≤ n by omega)
      exact implValid_in m (by omega) v zs w h

end Go.Proofs.YtlkodggaebnkfaaDoor
