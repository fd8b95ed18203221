/- What the walks of leastOf need: blocks that are kept, rows of their own. No conditions. -/
import Derived.Maps.AppendAt
import Derived.RangeFuncBox
import Derived.Test.YtnoppclajhfnjaaDoorCsk
import Derived.Test.YtnoppclajhfnjaaDoorLmn
import Derived.Test.YtnoppclajhfnjaaDoorZA
namespace Go.Proofs.YtnoppclajhfnjaaDoor
open Go.RowKit Go.Shelf
attribute [local go_sem] Oper.semAt_some

theorem infoI : (Tryd.prog.info? 3).map (fun i => (i.zero, i.size, i.bytes)) = some (some (.int .i64 0), 1, 8) := by kernel_rfl
theorem boxed_keeps {W W' : World} {row : Option Nat} {B : Nat} {t : TypeId} {v : Value} (h : Boxed W B t v) (hg : W.grownBy W' row) (hr : ∀ r, row = some r → ∃ o : Obj, W.heap[r]? = some o ∧ o.isCells = false) : Boxed W' B t v :=
  h.kept hg (fun e' => by
    obtain ⟨o, ho, hc⟩ := hr B e'.symm
    rw [show W.heap[B]? = _ from h] at ho
    cases ho
    cases hc)
theorem own_none {W W' : World} {base size k : Nat} {e : TypeId} {v : Value} {xs : List Value} (h : W.ownsRow base e size v k xs) (hb : Below W.heap.size W W') : W'.ownsRow base e size v k xs :=
  h.kept (grown_none hb) (by by_cases e : v.ownBlock = none; exact .inl e; exact .inr e)
theorem own_mono {W : World} {base b2 size k : Nat} {e : TypeId} {v : Value} {xs : List Value} (h : W.ownsRow base e size v k xs) (hb : b2 ≤ base) : W.ownsRow b2 e size v k xs :=
  ⟨h.1, h.2.imp id (fun ⟨g, cap, cur, h1, h2, h3⟩ => ⟨g, cap, cur, h1, Nat.le_trans hb h2, h3⟩)⟩
theorem own_far {W : World} {base size k b : Nat} {e : TypeId} {v u : Value} {xs : List Value} (h : W.ownsRow base e size v k xs) (hb : b < base) : (W.setCell ⟨b, 0, none⟩ u).ownsRow base e size v k xs := by
  refine h.kept (grownBy_setCell' W b u) ?_
  rcases h.2 with ⟨rfl, _⟩ | ⟨g, cap, cur, rfl, hg, _⟩
  · exact .inl rfl
  · refine .inr (fun e' => ?_)
    have : g = b := by simpa [Value.ownBlock] using e'
    omega
theorem own_cut {W : World} {base k g cap : Nat} {e : TypeId} {xs : List Value} (h : W.ownsRow base e 1 (.slice (some ⟨g, 0, none⟩) k cap) k xs) : W.ownsRow base e 1 (.slice (some ⟨g, 0, none⟩) 0 cap) 0 [] := by
  rcases h.2 with ⟨h1, _⟩ | ⟨g', cap', cur, h1, h2, h3, h4, h5, h6, h7⟩
  · cases h1
  · cases h1
    exact ⟨rfl, .inr ⟨g, cap, cur, rfl, h2, h3, Nat.zero_le _, h5, h6, rfl⟩⟩
theorem appended2 {W w1 : World} {N n1 B : Nat} {t e : TypeId} {size : Nat} {v v' : Value} {k m : Nat} {xs ys : List Value} {tmp : Obj}
    (hv : Boxed W B t v) (hte : t ≠ e) (hrow : W.ownsRow n1 e size v k xs) (hN1 : N ≤ n1) (hNs : N ≤ W.heap.size) (hB : N ≤ B)
    (hown' : w1.ownsRow n1 e size v' m ys) (hgrow : (W.alloc tmp).grownBy w1 v.ownBlock) :
    Boxed w1 B t v ∧ Boxed (w1.setCell ⟨B, 0, none⟩ v') B t v' ∧ (w1.setCell ⟨B, 0, none⟩ v').ownsRow n1 e size v' m ys ∧ KeepsOthers W (w1.setCell ⟨B, 0, none⟩ v') ∧ Below N W (w1.setCell ⟨B, 0, none⟩ v') := by
  obtain ⟨a, b, _, d, f⟩ := hv.appended hte (own_mono hrow hN1) hNs hB (own_mono hown' hN1) hgrow
  exact ⟨a, b, hown'.kept (grownBy_setCell' w1 B v') (.inr (a.not_row hte hown').symm), d, f⟩
theorem own_ne {W : World} {base size k b : Nat} {e : TypeId} {v : Value} {xs : List Value} (h : W.ownsRow base e size v k xs) (hb : b < base) : some b ≠ v.ownBlock := by
  rcases h.2 with ⟨rfl, _⟩ | ⟨g, cap, cur, rfl, hg, _⟩
  · simp [Value.ownBlock]
  · intro e'
    have : b = g := by simpa [Value.ownBlock] using e'
    omega

theorem boxed_far {W : World} {B b : Nat} {t : TypeId} {v : Value} (h : Boxed W B t v) (u : Value) (hne : B ≠ b) : Boxed (W.setCell ⟨b, 0, none⟩ u) B t v := h.kept (grownBy_setCell' W b u) (by simpa using hne)
abbrev lA (μ : Nat → Int) (pre : List (Fin 32)) : List Nat := (lmn μ (pre.map Fin.val)).1
abbrev lM (μ : Nat → Int) (pre : List (Fin 32)) : Int := (lmn μ (pre.map Fin.val)).2
abbrev ivs (l : List Nat) : List Value := (toI l).map (Value.int .i64)
theorem lmn_next (μ : Nat → Int) (pre : List (Fin 32)) (x : Fin 32) : lmn μ ((pre ++ [x]).map Fin.val) = lstep μ (lmn μ (pre.map Fin.val)) x.val := by rw [List.map_append, List.map_singleton, lmn_snoc]

end Go.Proofs.YtnoppclajhfnjaaDoor
