/- A region that draws its order, in a round of a loop over a function: it may be walked as elsewhere. Conditions: no operation of it is a defer statement. -/
import Derived.Deep.RegionHeld3
import Derived.OrdersIn
import Derived.Test.YthmipnflbiclbaaDoorZW
namespace Go.Proofs.YthmipnflbiclbaaDoor
open Go.RowKit

variable {n : Nat} {P : Program} {ops : Array Oper} {Q : Exit → Act → World → Prop} {md : Region.Mode} {S : World → Prop}

/-- no defer statement -/
def calmOps (ops : Array Oper) : Bool := ops.all (fun o => match o.op with | .defer _ => false | _ => true)
theorem calmOps_at {i : Nat} {o : Oper} (h : calmOps ops = true) (ho : ops[i]? = some o) : ∀ c, o.op ≠ .defer c := fun c e => by
  rw [calmOps, Array.all_eq_true] at h
  obtain ⟨hi, he⟩ := Array.getElem?_eq_some_iff.1 ho
  have h1 := h i hi
  rw [he, e] at h1
  simp at h1
theorem wpOpIn_round (l : Nat) {i : Nat} {K : Act → World → Prop} {a : Act} {w : World} (hq : ∀ a w, ¬ Q .outgrown a w) (hd : calmOps ops = true) (h : wpOp P ops Q i K a w) : wpOpIn (Fence.wide.inRound l) n P ops Q i K a w := by
  unfold wpOp at h
  unfold wpOpIn
  cases ho : ops[i]? with
  | none => simp only [ho] at h ⊢; exact h
  | some o =>
    simp only [ho] at h ⊢
    by_cases hw : Region.wanted o (yielded ops a.tmps) = true
    · rw [if_pos hw] at h ⊢
      rcases h with h | ⟨_, a', w', h⟩
      · refine ⟨fun _ _ => trivial, ?_⟩
        show o.uponIn (Fence.wide.inRound l) n P a K Q ((o.semAt (some l) a.eval).run P w)
        rw [Oper.semAt_some l _ o (calmOps_at hd ho)]
        unfold Oper.wp at h
        generalize (execOp a.eval o).run P w = r at h ⊢
        cases r with
        | ok x w' =>
          cases x with
          | value v => exact h
          | skip => exact h
          | defer d => exact h
          | enter f args =>
            refine ⟨fun h9 => (by cases h9), ?_⟩
            exact CallsIn.inRound l (callsIn_wide.2 h)
          | row row args =>
            refine ⟨fun h9 => (by cases h9), ?_⟩
            exact (fun c cs _ => let ⟨v, w', r, s⟩ := h c cs; ⟨v, w', r, stepsIn_wide.2 s⟩ : RowsIn Fence.wide (n - 1) P row args _ _)
          | _ => exact h.elim
        | halt x w' => cases x <;> first | exact h | exact h.elim
      · exact (hq _ _ h).elim
    · rw [if_neg hw] at h ⊢
      exact ⟨fun _ _ => trivial, h⟩
theorem wpAnyIn_round (l : Nat) (hq : ∀ a w, ¬ Q .outgrown a w) (hd : calmOps ops = true) : ∀ (fuel : Nat) (listed : Array Bool) (a : Act) (w : World), wpAny P md ops Q fuel listed a w → wpAnyIn (Fence.wide.inRound l) n P md ops Q fuel listed a w
  | 0, _, _, _, h => h
  | fuel + 1, _, _, _, h => ⟨h.1, fun i hi => wpOpIn_round l hq hd (wpOp_mono (fun a' w' h' => wpAnyIn_round l hq hd fuel _ a' w' h') (h.2 i hi))⟩
/-- **the beginning of a region in a round**: as elsewhere -/
theorem wpIn_round_held (l : Nat) {id : Nat} {a : Act} {w : World} (hm : P.follows .mixedOrders = true) (hd : calmOps ops = true) (hq : ∀ a w, ¬ Q .outgrown a w) (hS : S w.drew)
    (h : S w.drew → wpAnyH P .any ops Q S ops.size (Array.replicate ops.size false) a w.drew) : (Code.region id ops true).wpIn (Fence.wide.inRound l) n P Q a w :=
  wpIn_region_any hm (wpAnyIn_round l hq hd _ _ _ _ (wpAny_of_held _ _ _ _ (h hS)))

end Go.Proofs.YthmipnflbiclbaaDoor
