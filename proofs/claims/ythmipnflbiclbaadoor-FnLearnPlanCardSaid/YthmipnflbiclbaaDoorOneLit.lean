/- One of some numbers of a literal is drawn. No conditions. -/
import Derived.Test.YthmipnflbiclbaaDoorBent
namespace Go.Proofs.YthmipnflbiclbaaDoor
open Go.RowKit

/-- one of some numbers is drawn -/
theorem specOneLit (B R p : Nat) (l : List Int) (k : Nat) (o : Obj) (hk : l.length = k) (h0 : 0 < k) (hp : p ≤ 1000000) (w : World) (h : Rdr B R p w) (ho : o = Obj.cells (l.map (Value.int .i64)).toArray 3) (hm : k ≤ 100) (b : Nat) (hb : w.heap.size = b) :
    Calls Tryd.prog 122 #[.pointer (some ⟨R, 0, none⟩), .slice (some ⟨b, 0, none⟩) k k] (w.alloc o) fun e w' => (∃ i, i < k ∧ e = .returned (.int .i64 (l.getD i 0))) ∧ Rdr B R (p + 1) w' ∧ w.grownBy w' (some R) := by
  subst hk; subst ho; subst hb
  have hRB := h.1
  have hBw := h.2.1
  refine (specOne B R p (some ⟨w.heap.size, 0, none⟩) l.length l hp h0 _ (h.alloc _) (rdLit _ _ _ rfl (by omega)) (fun b' o e => by cases e; omega)).mono ?_
  rintro e w' ⟨h1, h2, h3⟩
  exact ⟨h1, h2, grownBy_trans (World.grownBy_alloc _ _ _) h3⟩

end Go.Proofs.YthmipnflbiclbaaDoor
