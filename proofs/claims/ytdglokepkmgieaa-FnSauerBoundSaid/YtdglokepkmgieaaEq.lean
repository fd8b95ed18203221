/- The laws' own small functions: sizes, copies of slices and classes, equality. Conditions: what the slices hold, at most 1048576 elements. -/
import Derived.Test.YtdglokepkmgieaaBase
import Derived.WalkSmall
namespace Go.Proofs.Ytdglokepkmgieaa
open Go.RowKit

def left' (left : Int) (n : Nat) : Int := if left < n then -1 else left - n



/-- nothing that was there has changed, and the first new block is a class -/
structure Box (n : Int) (v : Value) (w wr : World) : Prop where
  below : Below w.heap.size w wr
  at0 : wr.cell? ⟨w.heap.size, 0, none⟩ = some (.int .i64 n)
  at1 : wr.cell? ⟨w.heap.size, 1, none⟩ = some v

theorem Box.made (n : Int) (v : Value) (w : World) (t : TypeId) : Box n v w (w.alloc (.cells #[.int .i64 n, v] t)) :=
  ⟨(Below.refl _ _).alloc (Nat.le_refl _) _, by rw [World.cell?_alloc_at _ _ _ _ rfl]; rfl, by rw [World.cell?_alloc_at _ _ _ _ rfl]; rfl⟩

theorem Box.drewN {n : Int} {v : Value} {w wr : World} (h : Box n v w wr) (q : Nat) : Box n v w (wr.drewN q) := ⟨below_drewN h.below q, h.at0, h.at1⟩

theorem Box.next {n : Int} {v : Value} {w wr w1 : World} (h : Box n v w wr) (hlt : w.heap.size < wr.heap.size) (hb : Below wr.heap.size wr w1) : Box n v w w1 :=
  ⟨h.below.trans (hb.mono h.below.size), (hb.cell (p := ⟨w.heap.size, 0, none⟩) hlt).trans h.at0, (hb.cell (p := ⟨w.heap.size, 1, none⟩) hlt).trans h.at1⟩

/-- what a call hands back: a new slice that reads as xs; nothing that was there has changed -/
def RetInts (xs : List Int) (w : World) (e : Ending) (w' : World) : Prop := ∃ a cap, e = .returned (.slice a xs.length cap) ∧ Ints w.heap.size w' (.slice a xs.length cap) xs ∧ Below w.heap.size w w'

theorem RetInts.of {xs : List Int} {w w' : World} {v : Value} (h : Ints w.heap.size w' v xs) (hb : Below w.heap.size w w') : RetInts xs w (.returned v) w' := by
  obtain ⟨a, g, cap, rfl, _⟩ := h.shape
  exact ⟨a, cap, rfl, h, hb⟩

/-- the same for a class -/
def RetClass (n : Int) (xs : List Int) (w : World) (e : Ending) (w' : World) : Prop :=
  ∃ a cap, e = .returned (.agg #[.int .i64 n, .slice a xs.length cap]) ∧ Ints w.heap.size w' (.slice a xs.length cap) xs ∧ Below w.heap.size w w'

/-- a copy, k elements of which are made -/
def half (xs : List Int) (k : Nat) : List Int := xs.take k ++ List.replicate (xs.length - k) 0

theorem half_length (xs : List Int) (k : Nat) (h : k ≤ xs.length) : (half xs k).length = xs.length := by simp [half]; omega
theorem half_zero (xs : List Int) : half xs 0 = List.replicate xs.length 0 := by simp [half]
theorem half_full (xs : List Int) : half xs xs.length = xs := by simp [half]
theorem half_step (xs : List Int) (k : Nat) (h : k < xs.length) : (half xs k).set k (xs.getD k 0) = half xs (k + 1) := by
  apply List.ext_getElem?
  intro j
  rw [List.getElem?_set]
  simp only [half, List.length_append, List.length_take, List.length_replicate, List.getElem?_append, List.getElem?_take, List.getElem?_replicate]
  have hm : min k xs.length = k := by omega
  have hm' : min (k + 1) xs.length = k + 1 := by omega
  rw [hm, hm']
  by_cases hj : k = j
  · subst hj
    rw [if_pos rfl, if_pos (by omega), if_pos (by omega), if_pos (by omega)]
    simp [h]
  · rw [if_neg hj]
    by_cases h1 : j < k
    · rw [if_pos h1, if_pos h1, if_pos (by omega), if_pos (by omega)]
    · have e : (j - k < xs.length - k) ↔ (j - (k + 1) < xs.length - (k + 1)) := by omega
      simp only [h1, if_false, show ¬ j < k + 1 by omega, e]

theorem Ints.setCell_below {B : Nat} {w : World} {v : Value} {zs : List Int} (h : Ints B w v zs) {a : Addr} (ha : a.block < B) (u : Value) : Ints B (w.setCell a u) v zs :=
  ownsRow_setCell_below h ha u

theorem Ints.store {B g n cap : Nat} {w : World} {zs : List Int} (h : Ints B w (.slice (some ⟨g, 0, none⟩) n cap) zs) (k : Nat) (x : Int) :
    Ints B (w.setCell ⟨g, k, none⟩ (.int .i64 x)) (.slice (some ⟨g, 0, none⟩) n cap) (zs.set k x) := by
  have hn : n = zs.length := by obtain ⟨_, _, _, e, _⟩ := h.shape; simp at e; exact e.2.1
  subst hn
  have := (World.ownsRow.stored h k (.int .i64 x)).1
  unfold Ints
  rw [List.length_set, List.map_set]
  exact this

theorem made_ints (n : Nat) : (madeCells (Value.int .i64 0).cells (n * 1)).toList = (List.replicate n (0 : Int)).map (Value.int .i64) := by
  rw [Nat.mul_one]
  exact (toList_madeCells_one (.int .i64 0) n).trans (by simp)

theorem Ints.of_made {B g n : Nat} {w : World} (h : w.ownsRow B 3 1 (.slice (some ⟨g, 0, none⟩) n n) n (madeCells (Value.int .i64 0).cells (n * 1)).toList) :
    Ints B w (.slice (some ⟨g, 0, none⟩) n n) (List.replicate n 0) := by
  unfold Ints
  rw [List.length_replicate, ← made_ints]
  exact h

theorem Ints.cellAt {B g n cap : Nat} {w : World} {zs : List Int} (h : Ints B w (.slice (some ⟨g, 0, none⟩) n cap) zs) (k : Nat) (hk : k < zs.length) :
    w.cell? ⟨g, k, none⟩ = some (.int .i64 (zs.getD k 0)) ∧ w.frozen? ⟨g, k, none⟩ = false := by
  obtain ⟨a, g', cap', e, h1, h2, h3, h4, h5, h6⟩ := h.shape
  simp only [Value.slice.injEq] at e
  obtain ⟨rfl, _, _⟩ := e
  rcases h1 with h1 | h1
  · simp only [Option.some.injEq, Addr.mk.injEq, and_true] at h1
    subst h1
    exact ⟨h5 k hk, h6 k hk⟩
  · simp at h1


/-- are the first n elements the same? -/
def eqTo (za zb : List Int) (n : Nat) : Prop := ∀ j, j < n → za.getD j 0 = zb.getD j 0
def eqB (za zb : List Int) : Bool := decide (za = zb)
theorem eqB_of {za zb : List Int} (hl : za.length = zb.length) (h : eqTo za zb za.length) : eqB za zb = true := by
  simp only [eqB, decide_eq_true_eq]
  apply List.ext_getElem hl
  intro j h1 h2
  have := h j h1
  simpa [List.getD, h1, h2] using this
theorem eqB_not {za zb : List Int} {k : Nat} (h : za.getD k 0 ≠ zb.getD k 0) : eqB za zb = false := by
  simp only [eqB, decide_eq_false_iff_not]
  rintro rfl
  exact h rfl
theorem eqB_len {za zb : List Int} (h : za.length ≠ zb.length) : eqB za zb = false := by
  simp only [eqB, decide_eq_false_iff_not]
  rintro rfl
  exact h rfl





end Go.Proofs.Ytdglokepkmgieaa
