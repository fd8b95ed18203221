/- The laws' marks: markIntS writes numbers into a slice, heldIntS looks for them. Conditions: at most 1048576 elements, which the call may write. -/
import Derived.Test.YtdglokepkmgieaaApp
namespace Go.Proofs.Ytdglokepkmgieaa
open Go.RowKit

/-- k, k + 1, ..: n numbers -/
def ramp (k n : Nat) : List Int := (List.range n).map (fun i => ((k + i : Nat) : Int))
theorem ramp_length (k n : Nat) : (ramp k n).length = n := by simp [ramp]
theorem ramp_getD (k n i : Nat) (h : i < n) : (ramp k n).getD i 0 = ((k + i : Nat) : Int) := by simp [ramp, List.getD, h]
/-- the first j are written -/
def mix (k : Nat) (zs : List Int) (j : Nat) : List Int := ramp k j ++ zs.drop j
theorem mix_length (k : Nat) (zs : List Int) (j : Nat) (h : j ≤ zs.length) : (mix k zs j).length = zs.length := by simp [mix, ramp_length]; omega
theorem mix_zero (k : Nat) (zs : List Int) : mix k zs 0 = zs := by simp [mix, ramp]
theorem mix_full (k : Nat) (zs : List Int) : mix k zs zs.length = ramp k zs.length := by simp [mix]
theorem mix_step (k : Nat) (zs : List Int) (j : Nat) (h : j < zs.length) : (mix k zs j).set j ((k + j : Nat) : Int) = mix k zs (j + 1) := by
  have e : zs.drop j = zs[j] :: zs.drop (j + 1) := List.drop_eq_getElem_cons h
  simp only [mix, e]
  rw [List.set_append_right _ _ (by rw [ramp_length]; omega), ramp_length, Nat.sub_self, List.set_cons_zero]
  simp [ramp, List.range_succ]

theorem Ints.kept {B : Nat} {w w' : World} {v : Value} {zs : List Int} {row : Option Nat} (h : Ints B w v zs) (hg : w.grownBy w' row) (hne : v.ownBlock = none ∨ v.ownBlock ≠ row) : Ints B w' v zs := World.ownsRow.kept h hg hne
theorem Ints.apart {B1 B2 : Nat} {w1 w2 : World} {v1 v2 : Value} {z1 z2 : List Int} (h1 : Ints B1 w1 v1 z1) (h2 : Ints B2 w2 v2 z2) (hle : w1.heap.size ≤ B2) : v1.ownBlock = none ∨ v1.ownBlock ≠ v2.ownBlock := by
  cases e1 : v1.ownBlock with
  | none => exact .inl rfl
  | some g1 =>
    right
    intro e2
    have := (h1.lt g1 e1).2
    have := (h2.lt g1 e2.symm).1
    omega
theorem grownBy_set {g : Nat} (w : World) (j : Nat) (x : Value) : w.grownBy (w.setCell ⟨g, j, none⟩ x) (some g) :=
  ⟨rfl, rfl, rfl, by simp, fun k _ hk => heap_setCell_other w ⟨g, j, none⟩ k x (fun e => hk (by simp [e]))⟩
theorem grownBy_trans {a b c : World} {row : Option Nat} (h1 : a.grownBy b row) (h2 : b.grownBy c row) : a.grownBy c row :=
  ⟨h2.os.trans h1.os, h2.tape.trans h1.tape, h2.output.trans h1.output, Nat.le_trans h1.size h2.size, fun k hk hne => (h2.block k (Nat.lt_of_lt_of_le hk h1.size) hne).trans (h1.block k hk hne)⟩

theorem Ints.row_ge {B b : Nat} {w : World} {v : Value} {zs : List Int} (h : Ints B w v zs) (hb : b < B) : ∀ k, v.ownBlock = some k → b < k := fun k hk => Nat.lt_of_lt_of_le hb (h.lt k hk).1
theorem Box.grown {n : Int} {v : Value} {w wr w1 : World} {row : Option Nat} (h : Box n v w wr) (hg : wr.grownBy w1 row) (hr : ∀ k, row = some k → w.heap.size < k) : Box n v w w1 :=
  ⟨h.below.grown hg h.below.size (fun k hk => Nat.le_of_lt (hr k hk)),
   hg.cell h.at0 (fun e => Nat.lt_irrefl _ (hr _ e.symm)), hg.cell h.at1 (fun e => Nat.lt_irrefl _ (hr _ e.symm))⟩
theorem Ints.apart_of {B : Nat} {w : World} {v u : Value} {zs : List Int} (_h : Ints B w v zs) (ha : u.ownBlock = none ∨ u.ownBlock ≠ v.ownBlock) : v.ownBlock = none ∨ v.ownBlock ≠ u.ownBlock := by
  cases hv : v.ownBlock with
  | none => exact .inl rfl
  | some k =>
    right
    intro e
    rcases ha with ha | ha
    · rw [ha] at e; cases e
    · exact ha (by rw [hv, e])




end Go.Proofs.Ytdglokepkmgieaa
