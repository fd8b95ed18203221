/- The program's indicesWith and DualClass. Conditions: Sets is a slice of ints. -/
import Derived.Test.YtnmilfkocheaiaaGreatDoorLink
import Derived.Test.YtnmilfkocheaiaaGreatDoorZD
namespace Go.Proofs.YtnmilfkocheaiaaGreatDoor
open Go.RowKit

/-- the indices, as a number, of those of the first k of ns that have x -/
def indTo (ns : List Nat) (x : Nat) : Nat → Nat
  | 0 => 0
  | k + 1 => indTo ns x k + ns.getD k 0 / 2 ^ x % 2 * 2 ^ k
theorem indTo_lt (ns : List Nat) (x k : Nat) : indTo ns x k < 2 ^ k := by
  induction k with
  | zero => simp [indTo]
  | succ k ih =>
    rw [indTo, Nat.pow_succ]
    have : ns.getD k 0 / 2 ^ x % 2 < 2 := Nat.mod_lt _ (by omega)
    generalize ns.getD k 0 / 2 ^ x % 2 = b at *
    generalize 2 ^ k = p at *
    rcases (show b = 0 ∨ b = 1 by omega) with rfl | rfl <;> omega
theorem or_pow {o k : Nat} (hk : k < 5) (ho : o < 2 ^ k) : o ||| 2 ^ k = o + 2 ^ k := by
  have key : ∀ k : Fin 5, ∀ o : Fin 32, (o : Nat) < 2 ^ (k : Nat) → (o : Nat) ||| 2 ^ (k : Nat) = o + 2 ^ (k : Nat) := by decide +kernel
  exact key ⟨k, hk⟩ ⟨o, Nat.lt_of_lt_of_le ho (pow_le_32 (by omega))⟩ ho


def duN (n : Int) (zs : List Int) : Int := if vldB n zs = true ∧ zs.length ≤ 5 then zs.length else 0
/-- the sets of indices of the points -/
def dul (m : Nat) (ns : List Nat) : List Nat := (List.range m).map (fun x => indTo ns x ns.length)
def duL (n : Int) (zs : List Int) : List Int := if vldB n zs = true ∧ zs.length ≤ 5 then toI (tidyL (dul n.toNat (zs.map Int.toNat))) else []
theorem duL_len (n : Int) (zs : List Int) : (duL n zs).length ≤ 1048576 := by
  unfold duL
  split
  · rw [toI_length]
    have := flt_length (fun p => decide (p ∈ dul n.toNat (zs.map Int.toNat)))
    unfold tidyL
    omega
  · simp
theorem dul_lt {m : Nat} {ns : List Nat} {y : Nat} (h : y ∈ dul m ns) : y < 2 ^ ns.length := by
  obtain ⟨x, _, rfl⟩ := List.mem_map.1 h
  exact indTo_lt _ _ _

/-- is y the indices of one of the first k points? -/
def hasD (ns : List Nat) (k y : Nat) : Bool := decide (y ∈ dul k ns)
theorem hasD_succ (ns : List Nat) (k y : Nat) : hasD ns (k + 1) y = (decide (y = indTo ns k ns.length) || hasD ns k y) := by
  rw [Bool.eq_iff_iff]
  simp only [hasD, dul, List.range_succ, List.map_append, List.map_cons, List.map_nil, List.mem_append, List.mem_singleton, Bool.or_eq_true, decide_eq_true_eq]
  exact ⟨fun h => h.elim (fun h => .inr (decide_eq_true h)) .inl, fun h => h.elim .inr (fun h => .inl (of_decide_eq_true h))⟩


end Go.Proofs.YtnmilfkocheaiaaGreatDoor
