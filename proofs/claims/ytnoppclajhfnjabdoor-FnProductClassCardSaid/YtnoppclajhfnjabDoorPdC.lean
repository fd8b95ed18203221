/- A product of two classes is a class; the bounds of what it has. No program. -/
import Derived.Test.YtnoppclajhfnjabDoorProdR
import Derived.Test.YtnoppclajhfnjabDoorZ3
namespace Go.Proofs.YtnoppclajhfnjabDoor
open Go.RowKit

theorem pdIn_mem {m : Nat} {ns : List Nat} {t x : Nat} : x ∈ pdIn m ns t ns.length ↔ ∃ s ∈ ns, x = s + t * 2 ^ m := by
  rw [pdIn, List.take_length, List.mem_map]
  constructor
  · rintro ⟨s, hs, e⟩; exact ⟨s, hs, e.symm⟩
  · rintro ⟨s, hs, e⟩; exact ⟨s, hs, e.symm⟩
theorem pdTo_pd (m : Nat) (ns ms : List Nat) : Pd m ns ms (pdTo m ns ms ms.length) := fun x => by
  rw [pdTo, List.take_length, List.mem_flatMap]
  constructor
  · rintro ⟨t, ht, h⟩
    obtain ⟨s, hs, e⟩ := pdIn_mem.1 h
    exact ⟨s, hs, t, ht, e⟩
  · rintro ⟨s, hs, t, ht, e⟩
    exact ⟨t, ht, pdIn_mem.2 ⟨s, hs, e⟩⟩
theorem pd_order {s u t v q : Nat} (hs : s < q) (h : t < v) : s + t * q < u + v * q := by
  have h1 : (t + 1) * q ≤ v * q := Nat.mul_le_mul_right q h
  rw [Nat.succ_mul] at h1
  omega
theorem pdTo_cls {m k : Nat} {ns ms : List Nat} (hmk : m + k ≤ 5) (ca : Cls m ns) (cb : Cls k ms) : Cls (m + k) (pdTo m ns ms ms.length) := by
  refine ⟨hmk, ?_, fun x hx => ?_⟩
  · rw [pdTo, List.take_length, List.flatMap, List.pairwise_flatten]
    refine ⟨fun l hl => ?_, ?_⟩
    · obtain ⟨t, ht, rfl⟩ := List.mem_map.1 hl
      rw [pdIn, List.take_length, List.pairwise_map]
      exact ca.asc.imp (fun h => by omega)
    · rw [List.pairwise_map]
      refine cb.asc.imp (fun {t v} h => ?_)
      intro x hx y hy
      obtain ⟨s, hs, rfl⟩ := pdIn_mem.1 hx
      obtain ⟨u, hu, rfl⟩ := pdIn_mem.1 hy
      exact pd_order (ca.lt s hs) h
  · obtain ⟨s, hs, t, ht, rfl⟩ := (pdTo_pd m ns ms x).1 hx
    exact pd_lt (ca.lt s hs) (cb.lt t ht)
theorem mst_bd5 {m : Nat} {l : List Nat} (h : Cls m l) (hn : l ≠ []) : 0 ≤ mst l ∧ mst l ≤ 5 := by
  have h1 := lit_pow h.length hn
  have h2 := h.length
  have h3 := mst_nn hn
  refine ⟨h3, ?_⟩
  apply Classical.byContradiction
  intro h4
  have h5 : 2 ^ 6 ≤ 2 ^ (mst l).toNat := Nat.pow_le_pow_right (by omega) (by omega)
  omega
theorem td_bd5 {m : Nat} {l : List Nat} (hn : l ≠ []) : 0 ≤ gTo (tns m l) l.length ∧ gTo (tns m l) l.length ≤ 5 := by
  obtain ⟨⟨u, _, e⟩, _⟩ := gTo_tns (m := m) hn
  have := pc_le5 (ftN m u l)
  omega
theorem eul_bd5 {m : Nat} {l : List Nat} (h : Cls m l) : -1024 ≤ eulTo (cbTo l m l.length) (cbTo l m l.length).length ∧ eulTo (cbTo l m l.length) (cbTo l m l.length).length ≤ 1024 := by
  have h1 := eulTo_bd (cbTo l m l.length) (cbTo l m l.length).length
  have h2 := cbTo_len (ns := l) h.pts l.length
  have h3 := h.length
  omega
theorem mul_bd {x y : Int} (hx : -1024 ≤ x ∧ x ≤ 1024) (hy : -1024 ≤ y ∧ y ≤ 1024) : -1048576 ≤ x * y ∧ x * y ≤ 1048576 := by
  have h1 : (x * y).natAbs ≤ 1024 * 1024 := by
    rw [Int.natAbs_mul]
    exact Nat.mul_le_mul (by omega) (by omega)
  omega

end Go.Proofs.YtnoppclajhfnjabDoor
