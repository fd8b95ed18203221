/- The model's has; lists of what f makes of those of ns for which P holds. No conditions. -/
import Derived.Test.YtejjimfoihhcoaaRemoveS
namespace Go.Proofs.Ytejjimfoihhcoaa
open Go.RowKit

/-- is the point x in the set s? -/
def hasX (x s : Nat) : Bool := decide (s / 2 ^ x % 2 = 1)

set_option maxHeartbeats 800000 in
theorem specHas (s x : Nat) (hs : s < 4096) (hx : x < 5) (w : World) :
    Calls Try.prog 58 #[.int .i64 (s : Int), .int .i64 (x : Int)] w fun e w' => e = .returned (.bool (hasX x s)) ∧ w' = w := by
  have HQ := Lib.hid (show (s : Int) / (2 : Int) ^ x = ((s / 2 ^ x : Nat) : Int) by simp)
  have hr : s / 2 ^ x < 4096 := Nat.lt_of_le_of_lt (Nat.div_le_self _ _) hs
  have HE := Lib.hid (show hasX x s = decide (s / 2 ^ x % 2 = 1) from rfl)
  have hp := two_pow_le x (by omega)
  go_enter Try.func58, Try.ntmps58
  go_wp2_with fail
  refine (power_q x (by omega) _).mono ?_
  rintro e w1 ⟨rfl, rfl⟩
  generalize (2 : Int) ^ x = q at *
  generalize s / 2 ^ x = r at *
  have hne : q ≠ 0 := by omega
  go_wp2_with fail
  go_ret
  exact ⟨ret_bool (by
    rw [HE.out, HQ.out, show wrap64 (r : Int) = r by simp only [wrap64]; omega, Int.tmod_eq_emod_of_nonneg (by omega), Bool.eq_iff_iff]
    simp
    omega), rfl⟩

/-- what f makes of those of the first k of ns for which P holds -/
def fmTo (P : Nat → Bool) (f : Nat → Nat) (ns : List Nat) (k : Nat) : List Nat := ((List.range k).filter (fun j => P (ns.getD j 0))).map (fun j => f (ns.getD j 0))
theorem fmTo_yes {P : Nat → Bool} {f : Nat → Nat} {ns : List Nat} {k : Nat} (h : P (ns.getD k 0) = true) : fmTo P f ns (k + 1) = fmTo P f ns k ++ [f (ns.getD k 0)] := by
  simp only [fmTo, List.range_succ, List.filter_append, List.map_append]
  rw [List.filter_cons_of_pos (by simpa using h)]
  rfl
theorem fmTo_no {P : Nat → Bool} {f : Nat → Nat} {ns : List Nat} {k : Nat} (h : P (ns.getD k 0) = false) : fmTo P f ns (k + 1) = fmTo P f ns k := by
  simp only [fmTo, List.range_succ, List.filter_append, List.map_append]
  rw [List.filter_cons_of_neg (by simpa using h)]
  simp
theorem fmTo_le (P : Nat → Bool) (f : Nat → Nat) (ns : List Nat) (k : Nat) : (fmTo P f ns k).length ≤ k := by
  rw [fmTo, List.length_map]
  have := List.length_filter_le (fun j => P (ns.getD j 0)) (List.range k)
  simpa using this
theorem map_getD (ns : List Nat) : (List.range ns.length).map (fun j => ns.getD j 0) = ns := by
  apply List.ext_getElem
  · simp
  · intro i h1 h2
    simp [List.getElem?_eq_getElem h2]
theorem fmTo_all (P : Nat → Bool) (f : Nat → Nat) (ns : List Nat) : fmTo P f ns ns.length = (ns.filter P).map f := by
  have h := map_getD ns
  conv => rhs; rw [← h]
  rw [List.filter_map, List.map_map]
  rfl

/-- is x what f makes of one of the first k of ns for which P holds? -/
def hasPF (P : Nat → Bool) (f : Nat → Nat) (ns : List Nat) (k x : Nat) : Bool := decide (x ∈ fmTo P f ns k)
theorem hasPF_yes {P : Nat → Bool} {f : Nat → Nat} {ns : List Nat} {k : Nat} (h : P (ns.getD k 0) = true) (x : Nat) : hasPF P f ns (k + 1) x = (decide (x = f (ns.getD k 0)) || hasPF P f ns k x) := by
  rw [hasPF, fmTo_yes h, hasPF, Bool.or_comm]
  simp [Bool.decide_or]
theorem hasPF_no {P : Nat → Bool} {f : Nat → Nat} {ns : List Nat} {k : Nat} (h : P (ns.getD k 0) = false) : hasPF P f ns (k + 1) = hasPF P f ns k := by
  funext x
  rw [hasPF, fmTo_no h, hasPF]
theorem hasPF_all (P : Nat → Bool) (f : Nat → Nat) (ns : List Nat) (x : Nat) : hasPF P f ns ns.length x = decide (x ∈ (ns.filter P).map f) := by
  rw [hasPF, fmTo_all]

end Go.Proofs.Ytejjimfoihhcoaa
