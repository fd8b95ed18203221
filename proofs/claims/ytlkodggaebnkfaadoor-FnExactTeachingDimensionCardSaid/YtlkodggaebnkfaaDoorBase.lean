/- Common notions and lemmas of the proofs over this program: slices of ints that read as a list, worlds that differ above a block. No conditions. -/
import Derived.Test.YtlkodggaebnkfaaDoorProg
import Derived.WalkKit
import Derived.Handy
import Derived.Lib.Hide
import Derived.BigQuiet
import Derived.Deep.QuietTactic
namespace Go.Proofs.YtlkodggaebnkfaaDoor
open Go.RowKit

theorem info3 : (Tryd.prog.info? 3).map (fun i => (i.zero, i.size, i.bytes)) = some (some (.int .i64 0), 1, 8) := by kernel_rfl

/-- The slice v lies in a block from B on and reads as zs. -/
def Ints (B : Nat) (w : World) (v : Value) (zs : List Int) : Prop := w.ownsRow B 3 1 v zs.length (zs.map (Value.int .i64))

theorem Ints.nil (B : Nat) (w : World) : Ints B w (.slice none 0 0) [] := World.ownsRow_nil w B _ 1

theorem Ints.mono {B B' : Nat} {w : World} {v : Value} {zs : List Int} (h : Ints B w v zs) (hB : B' ≤ B) : Ints B' w v zs := by
  refine ⟨h.1, ?_⟩
  rcases h.2 with h2 | ⟨g, cap, cur, e, hb, r⟩
  · exact .inl h2
  · exact .inr ⟨g, cap, cur, e, Nat.le_trans hB hb, r⟩

theorem Ints.below {B k : Nat} {w w' : World} {v : Value} {zs : List Int} (h : Ints B w v zs) (hb : Below k w w') (hk : w.heap.size ≤ k) : Ints B w' v zs := by
  refine ⟨h.1, ?_⟩
  rcases h.2 with h2 | ⟨g, cap, cur, e, hB, hg, r⟩
  · exact .inl h2
  · refine .inr ⟨g, cap, cur, e, hB, ?_, r⟩
    rw [hb.block g (Nat.lt_of_lt_of_le (Array.getElem?_eq_some_iff.1 hg).1 hk)]
    exact hg

/-- What the slice's value looks like, and what its cells hold. -/
theorem Ints.shape {B : Nat} {w : World} {v : Value} {zs : List Int} (h : Ints B w v zs) :
    ∃ (a : Option Addr) (g cap : Nat), v = .slice a zs.length cap ∧ (a = some ⟨g, 0, none⟩ ∨ a = none) ∧ (a = none → zs = [] ∧ cap = 0) ∧ zs.length ≤ maxLen ∧ (a ≠ none → B ≤ g ∧ g < w.heap.size) ∧
      (∀ j, j < zs.length → w.cell? ⟨g, j, none⟩ = some (.int .i64 (zs.getD j 0))) ∧ (∀ j, j < zs.length → w.frozen? ⟨g, j, none⟩ = false) := by
  rcases h.2 with ⟨rfl, hn⟩ | ⟨g, cap, cur, rfl, hb, hg, hnc, hcm, hcs, htake⟩
  · have : zs = [] := List.eq_nil_of_length_eq_zero hn
    subst this
    exact ⟨none, 0, 0, rfl, .inr rfl, fun _ => ⟨rfl, rfl⟩, by simp, fun h => absurd rfl h, fun j hj => by simp at hj, fun j hj => by simp at hj⟩
  · refine ⟨some ⟨g, 0, none⟩, g, cap, rfl, .inl rfl, fun h => by simp at h, Nat.le_trans hnc hcm, fun _ => ⟨hb, (Array.getElem?_eq_some_iff.1 hg).1⟩, fun j hj => ?_, fun j hj => frozen_of_row w g j cur _ hg⟩
    rw [World.ownsRow.cellAt h j (by omega)]
    simp [List.getD, hj]

/-- the slice v, wherever it lies, reads as xs -/
def Rd (w : World) (v : Value) (xs : List Int) : Prop :=
  ∃ (a : Option Addr) (b off cap : Nat), v = .slice a xs.length cap ∧ (0 < xs.length → a = some ⟨b, off, none⟩ ∧ b < w.heap.size) ∧ xs.length ≤ 9223372036854775807 ∧
    ∀ j, j < xs.length → w.cell? ⟨b, off + j, none⟩ = some (.int .i64 (xs.getD j 0))

theorem Rd.below {k : Nat} {w w' : World} {v : Value} {xs : List Int} (h : Rd w v xs) (hb : Below k w w') (hk : w.heap.size ≤ k) : Rd w' v xs := by
  obtain ⟨a, b, off, cap, e, h1, h3, h5⟩ := h
  refine ⟨a, b, off, cap, e, fun h => ⟨(h1 h).1, Nat.lt_of_lt_of_le (h1 h).2 hb.size⟩, h3, fun j hj => ?_⟩
  rw [hb.cell (p := ⟨b, off + j, none⟩) (Nat.lt_of_lt_of_le (h1 (by omega)).2 hk)]
  exact h5 j hj

theorem Ints.rd {B : Nat} {w : World} {v : Value} {zs : List Int} (h : Ints B w v zs) : Rd w v zs := by
  obtain ⟨a, g, cap, rfl, h1, h2, h3, h4, h5, _⟩ := h.shape
  have hn : 0 < zs.length → a ≠ none := fun hp h => by rw [(h2 h).1] at hp; simp at hp
  refine ⟨a, g, 0, cap, rfl, fun hp => ⟨h1.resolve_right (hn hp), (h4 (hn hp)).2⟩, by unfold maxLen at h3; omega, fun j hj => ?_⟩
  rw [Nat.zero_add]
  exact h5 j hj

theorem bcell {W w1 : World} (hb : Below W.heap.size W w1) : (∀ b o, b < W.heap.size → w1.cell? ⟨b, o, none⟩ = W.cell? ⟨b, o, none⟩) ∧ (∀ b o, b < W.heap.size → w1.frozen? ⟨b, o, none⟩ = W.frozen? ⟨b, o, none⟩) :=
  ⟨fun b o h => hb.cell (p := ⟨b, o, none⟩) h, fun b o h => hb.frozen (p := ⟨b, o, none⟩) h⟩

theorem ret_int {k : IntKind} {a b : Int} (h : a = b) : Ending.returned (.int k a) = .returned (.int k b) := by rw [h]
theorem ret_bool {a b : Bool} (h : a = b) : Ending.returned (.bool a) = .returned (.bool b) := by rw [h]

end Go.Proofs.YtlkodggaebnkfaaDoor
