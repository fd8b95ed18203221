/- The sets of points that teach a set, one after the other: teachings and its iterator. Conditions: the table setsWith is laid. -/
import Derived.Test.YtiocaopabkbgpaaDoorTeachN
import Derived.Test.YtiocaopabkbgpaaDoorZO
namespace Go.Proofs.YtiocaopabkbgpaaDoor
open Go.RowKit Go.Shelf
attribute [local go_sem] Oper.semAt_some

def swc : List (Addr × Value) := (List.range 5).map (fun x => (⟨0, x, none⟩, .int .u32 (swZ.getD x 0)))
theorem sw_cs {w : World} (h : SW w) : CS swc w := fun p hp => by
  obtain ⟨x, hx, rfl⟩ := List.mem_map.1 hp
  exact h.2 x (List.mem_range.1 hx)
theorem cs_sw {w : World} (h : CS swc w) : SW w := by
  have h2 : ∀ x, x < 5 → w.cell? ⟨0, x, none⟩ = some (.int .u32 (swZ.getD x 0)) := fun x hx => h (⟨0, x, none⟩, .int .u32 (swZ.getD x 0)) (List.mem_map.2 ⟨x, List.mem_range.2 hx, rfl⟩)
  exact ⟨World.block_lt_of_cell? w _ (h2 0 (by decide)), h2⟩

/-- those of the first k that meet a test -/
def tcR (p : Nat → Bool) : Nat → List (Fin 32)
  | 0 => []
  | k + 1 => if h : k < 32 then (if p k = true then tcR p k ++ [⟨k, h⟩] else tcR p k) else tcR p k
theorem tcR_yes {p : Nat → Bool} {k : Nat} (h : k < 32) (hp : p k = true) : tcR p (k + 1) = tcR p k ++ [⟨k, h⟩] := by rw [tcR, dif_pos h, if_pos hp]
theorem tcR_no {p : Nat → Bool} {k : Nat} (h : k < 32) (hp : ¬ p k = true) : tcR p (k + 1) = tcR p k := by rw [tcR, dif_pos h, if_neg hp]
theorem tcR_len (p : Nat → Bool) (k : Nat) : (tcR p k).length ≤ k := by
  induction k with
  | zero => exact Nat.le_refl _
  | succ k ih =>
    rw [tcR]
    split
    · split
      · rw [List.length_append, List.length_singleton]; omega
      · omega
    · omega
theorem tcR_pre (p : Nat → Bool) (k d : Nat) : tcR p k <+: tcR p (k + d) := by
  induction d with
  | zero => exact List.prefix_refl _
  | succ d ih =>
    refine List.IsPrefix.trans ih ?_
    show tcR p (k + d) <+: tcR p (k + d + 1)
    rw [tcR]
    split
    · split
      · exact List.prefix_append _ _
      · exact List.prefix_refl _
    · exact List.prefix_refl _
theorem tcR_val (p : Nat → Bool) {k : Nat} (hk : k ≤ 32) : (tcR p k).map Fin.val = (List.range k).filter p := by
  induction k with
  | zero => rfl
  | succ k ih =>
    have h : k < 32 := by omega
    rw [List.range_succ, List.filter_append, ← ih (by omega)]
    by_cases hp : p k = true
    · rw [tcR_yes h hp, List.map_append]; simp [hp]
    · rw [tcR_no h hp]; simp [hp]
theorem tcR_all (p : Nat → Bool) : (tcR p 32).map Fin.val = flt p := tcR_val p (Nat.le_refl _)

abbrev csT (bf bt : Nat) (l : List Nat) (t : Nat) : List (Addr × Value) := swc ++ [(⟨bf, 0, none⟩, .int .u32 (fm l)), (⟨bt, 0, none⟩, .int .i64 (t : Int))]



end Go.Proofs.YtiocaopabkbgpaaDoor
