/- ValidSample, the program's and the model's. Conditions: Sets is a slice of ints, the list one of examples. -/
import Derived.Test.YtffmcibpboejnaaDoorEx
import Derived.Test.YtffmcibpboejnaaDoorZB
import Derived.Test.YtffmcibpboejnaaDoorZH
namespace Go.Proofs.YtffmcibpboejnaaDoor
open Go.RowKit

/-- are all points of the first k in 0..n-1? -/
def ptsTo (n : Int) (es : List (Int × Bool)) (k : Nat) : Bool := (List.range k).all (fun j => decide (0 ≤ (es.getD j (0, false)).1) && decide ((es.getD j (0, false)).1 < n))
theorem ptsTo_yes {n : Int} {es : List (Int × Bool)} {k : Nat} (h : ptsTo n es k = true) (h1 : 0 ≤ (es.getD k (0, false)).1) (h2 : (es.getD k (0, false)).1 < n) : ptsTo n es (k + 1) = true := by
  simp only [ptsTo, List.range_succ, List.all_append, List.all_cons, List.all_nil, Bool.and_true, Bool.and_eq_true, decide_eq_true_eq] at h ⊢
  exact ⟨h, h1, h2⟩
theorem ptsTo_no {n : Int} {es : List (Int × Bool)} {k m : Nat} (hk : k < m) (h : ¬ (0 ≤ (es.getD k (0, false)).1 ∧ (es.getD k (0, false)).1 < n)) : ptsTo n es m = false := by
  rw [← Bool.not_eq_true]
  intro hh
  simp only [ptsTo, List.all_eq_true, List.mem_range, Bool.and_eq_true, decide_eq_true_eq] at hh
  exact h (hh k hk)
/-- ValidSample's answer -/
def vsB (n : Int) (zs : List Int) (es : List (Int × Bool)) : Bool := vldB n zs && (decide (es.length ≤ 12) && ptsTo n es es.length)
theorem vsB_bad {n : Int} {zs : List Int} {es : List (Int × Bool)} (h : vldB n zs = false) : vsB n zs es = false := by simp [vsB, h]
theorem vsB_in {n : Int} {zs : List Int} {es : List (Int × Bool)} (h : vldB n zs = true) : vsB n zs es = (decide (es.length ≤ 12) && ptsTo n es es.length) := by simp [vsB, h]



/-- what the closure captures -/
def VCap (n : Int) (v : Value) (zs : List Int) (o : Nat) (w : World) : Prop := w.cell? ⟨o, 0, none⟩ = some (.int .i64 n) ∧ w.cell? ⟨o, 1, none⟩ = some v ∧ Rd w v zs ∧ o < w.heap.size
theorem VCap.next {n : Int} {v : Value} {zs : List Int} {o : Nat} {w w' : World} (h : VCap n v zs o w) (hb : Below w.heap.size w w') : VCap n v zs o w' :=
  ⟨(hb.cell (p := ⟨o, 0, none⟩) h.2.2.2).trans h.1, (hb.cell (p := ⟨o, 1, none⟩) h.2.2.2).trans h.2.1, h.2.2.1.below hb (Nat.le_refl _), Nat.lt_of_lt_of_le h.2.2.2 hb.size⟩





end Go.Proofs.YtffmcibpboejnaaDoor
