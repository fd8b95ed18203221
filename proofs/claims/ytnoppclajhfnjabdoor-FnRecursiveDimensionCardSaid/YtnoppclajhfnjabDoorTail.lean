/- A class without its first set. No conditions. -/
import Derived.Test.YtnoppclajhfnjabDoorZA
namespace Go.Proofs.YtnoppclajhfnjabDoor
open Go.RowKit

theorem Rd.tail {w : World} {b off l c : Nat} {xs : List Int} (h : Rd w (.slice (some ⟨b, off, none⟩) (l + 1) c) xs) (c' : Nat) : Rd w (.slice (some ⟨b, off + 1, none⟩) l c') (xs.drop 1) := by
  obtain ⟨a, b', off', cap, e, h1, h3, h5⟩ := h
  simp only [Value.slice.injEq] at e
  obtain ⟨rfl, hl, rfl⟩ := e
  have hdl : (xs.drop 1).length = l := by rw [List.length_drop]; omega
  obtain ⟨he, hb⟩ := h1 (by omega)
  simp only [Option.some.injEq, Addr.mk.injEq] at he
  obtain ⟨rfl, rfl, -⟩ := he
  refine ⟨_, b, off + 1, c', by rw [hdl], fun _ => ⟨rfl, hb⟩, by omega, fun j hj => ?_⟩
  rw [show off + 1 + j = off + (j + 1) by omega, h5 (j + 1) (by omega)]
  simp only [List.getD_eq_getElem?_getD, List.getElem?_drop, Nat.add_comm 1 j]
theorem cls_tail {m : Nat} {ns : List Nat} (h : Cls m ns) : Cls m (ns.drop 1) :=
  ⟨h.pts, h.asc.sublist (List.drop_sublist 1 ns), fun t ht => h.lt t (List.mem_of_mem_drop ht)⟩
theorem toI_tail (ns : List Nat) : toI (ns.drop 1) = (toI ns).drop 1 := by simp [toI]

end Go.Proofs.YtnoppclajhfnjabDoor
