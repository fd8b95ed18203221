/- Slices of pairs: read, compared. Conditions: at most 1048576 of them. -/
import Derived.Deep.RegionHeld3
import Derived.Test.YtpkilacappjkhaaZA
namespace Go.Proofs.Ytpkilacappjkhaa
open Go.RowKit

theorem infoP : (Try.prog.info? 52).map (fun i => (i.zero, i.size, i.bytes)) = some (some (.agg #[.int .i64 0, .int .i64 0]), 2, 16) := by kernel_rfl

/-- the slice v, wherever it lies, reads as the pairs es -/
def RdP (w : World) (v : Value) (es : List (Int × Int)) : Prop :=
  ∃ (a : Option Addr) (b off cap : Nat), v = .slice a es.length cap ∧ (0 < es.length → a = some ⟨b, off, none⟩ ∧ b < w.heap.size) ∧ es.length ≤ 9223372036854775807 ∧
    ∀ j, j < es.length → w.cell? ⟨b, off + j * 2, none⟩ = some (.int .i64 (es.getD j (0, 0)).1) ∧ w.cell? ⟨b, off + j * 2 + 1, none⟩ = some (.int .i64 (es.getD j (0, 0)).2)

theorem RdP.below {k : Nat} {w w' : World} {v : Value} {es : List (Int × Int)} (h : RdP w v es) (hb : Below k w w') (hk : w.heap.size ≤ k) : RdP w' v es := by
  obtain ⟨a, b, off, cap, e, h1, h3, h5⟩ := h
  refine ⟨a, b, off, cap, e, fun h => ⟨(h1 h).1, Nat.lt_of_lt_of_le (h1 h).2 hb.size⟩, h3, fun j hj => ?_⟩
  have hlt : b < k := Nat.lt_of_lt_of_le (h1 (by omega)).2 hk
  rw [hb.cell (p := ⟨b, off + j * 2, none⟩) hlt, hb.cell (p := ⟨b, off + j * 2 + 1, none⟩) hlt]
  exact h5 j hj

/-- the cells of pairs -/
def flatP (es : List (Int × Int)) : List Value := es.flatMap (fun e => [.int .i64 e.1, .int .i64 e.2])
theorem flatP_length (es : List (Int × Int)) : (flatP es).length = es.length * 2 := by
  induction es with
  | nil => rfl
  | cons e es ih => simp [flatP] at ih ⊢; omega
theorem flatP_at (es : List (Int × Int)) (k : Nat) (hk : k < es.length) : (flatP es)[k * 2]? = some (.int .i64 (es.getD k (0, 0)).1) ∧ (flatP es)[k * 2 + 1]? = some (.int .i64 (es.getD k (0, 0)).2) := by
  induction es generalizing k with
  | nil => simp at hk
  | cons e es ih =>
    cases k with
    | zero => simp [flatP]
    | succ k =>
      have := ih k (by simpa using hk)
      have e1 : flatP (e :: es) = .int .i64 e.1 :: .int .i64 e.2 :: flatP es := rfl
      rw [e1, show (k + 1) * 2 = k * 2 + 1 + 1 by omega]
      simpa using this

/-- the slice v is owned from block B on and reads as es -/
def PrS (B : Nat) (w : World) (v : Value) (es : List (Int × Int)) : Prop := w.ownsRow B 52 2 v es.length (flatP es)
theorem PrS.below {B k : Nat} {w w' : World} {v : Value} {es : List (Int × Int)} (h : PrS B w v es) (hb : Below k w w') (hk : w.heap.size ≤ k) : PrS B w' v es := by
  refine ⟨h.1, ?_⟩
  rcases h.2 with h2 | ⟨g, cap, cur, e, hB, hg, r⟩
  · exact .inl h2
  · refine .inr ⟨g, cap, cur, e, hB, ?_, r⟩
    rw [hb.block g (Nat.lt_of_lt_of_le (Array.getElem?_eq_some_iff.1 hg).1 hk)]
    exact hg
theorem PrS.rd {B : Nat} {w : World} {v : Value} {es : List (Int × Int)} (h : PrS B w v es) : RdP w v es := by
  have h' := h
  rcases h.2 with ⟨rfl, hn⟩ | ⟨g, cap, cur, rfl, hb, hg, hnc, hcm, hcs, htake⟩
  · have : es = [] := List.eq_nil_of_length_eq_zero hn
    subst this
    exact ⟨none, 0, 0, 0, rfl, fun h => by simp at h, by simp, fun j hj => by simp at hj⟩
  · refine ⟨some ⟨g, 0, none⟩, g, 0, cap, rfl, fun _ => ⟨rfl, (Array.getElem?_eq_some_iff.1 hg).1⟩, by unfold maxLen at hcm; omega, fun j hj => ?_⟩
    have e := flatP_at es j hj
    rw [Nat.zero_add, World.ownsRow.cellAt h' (j * 2) (by omega), World.ownsRow.cellAt h' (j * 2 + 1) (by omega)]
    exact e

/-- what a call answers whose result is pairs of its own -/
def RetPr (es : List (Int × Int)) (w : World) (e : Ending) (w' : World) : Prop :=
  ∃ a cap, e = .returned (.slice a es.length cap) ∧ PrS w.heap.size w' (.slice a es.length cap) es ∧ Below w.heap.size w w'

theorem flat_extP {xs : List Value} {es : List (Int × Int)} (hl : xs.length = es.length * 2) (h : ∀ j, j < es.length → xs[j * 2]? = some (.int .i64 (es.getD j (0, 0)).1) ∧ xs[j * 2 + 1]? = some (.int .i64 (es.getD j (0, 0)).2)) : xs = flatP es := by
  apply List.ext_getElem?
  intro i
  by_cases hi : i < es.length * 2
  · have e := flatP_at es (i / 2) (by omega)
    have e2 := h (i / 2) (by omega)
    rcases (show i = i / 2 * 2 ∨ i = i / 2 * 2 + 1 by omega) with hc | hc
    · rw [hc, e.1, e2.1]
    · rw [hc, e.2, e2.2]
  · rw [List.getElem?_eq_none (by omega), List.getElem?_eq_none (by rw [flatP_length]; omega)]

end Go.Proofs.Ytpkilacappjkhaa
