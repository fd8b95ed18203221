/- The model's tidy: the different numbers of a list, ascending. Conditions: numbers below 32, at most 1048576 of them. -/
import Derived.Test.YtffmcibpboejnaaZA
namespace Go.Proofs.Ytffmcibpboejnaa
open Go.RowKit

/-- membership so far -/
def memTo (ms : List Nat) (k : Nat) (p : Nat) : Bool := decide (p ∈ ms.take k)
theorem memTo_succ (ms : List Nat) (k : Nat) (hk : k < ms.length) (p : Nat) : memTo ms (k + 1) p = (memTo ms k p || p == ms.getD k 0) := by
  have e : ms.take (k + 1) = ms.take k ++ [ms.getD k 0] := by
    rw [List.take_add_one, List.getElem?_eq_getElem hk, List.getD_eq_getElem?_getD, List.getElem?_eq_getElem hk]; rfl
  simp only [memTo, e, List.mem_append, List.mem_singleton, Bool.decide_or]
  rfl
theorem flt_same (ms : List Nat) (k : Nat) (hk : k < ms.length) (h : memTo ms k (ms.getD k 0) = true) : flt (memTo ms (k + 1)) = flt (memTo ms k) :=
  flt_congr fun x _ => by
    rw [memTo_succ ms k hk]
    by_cases e : x = ms.getD k 0
    · rw [e, h]; rfl
    · have e' : (x == ms.getD k 0) = false := by simpa using e
      rw [e', Bool.or_false]
theorem hasB_toI (p : Nat → Bool) (x : Nat) (hx : x < 32) : hasB (toI (flt p)) (x : Int) = p x := by
  rw [hasB]
  by_cases h : p x = true
  · rw [h, decide_eq_true_eq]
    exact List.mem_map.2 ⟨x, mem_flt.2 ⟨hx, h⟩, rfl⟩
  · rw [Bool.not_eq_true] at h
    rw [h, decide_eq_false_iff_not]
    intro hm
    obtain ⟨y, hy, e⟩ := List.mem_map.1 hm
    have e : y = x := by omega
    subst e
    rw [(mem_flt.1 hy).2] at h
    cases h
theorem toI_put {p : Nat → Bool} {x : Nat} (hx : x < 32) (hp : p x = false) :
    toI (flt (fun y => p y || y == x)) = (([] ++ (toI (flt p)).take (before p x)) ++ [(x : Int)]) ++ (toI (flt p)).drop (before p x) := by
  rw [flt_put hx hp]
  simp [toI]

theorem tidy_rel {B : Nat} {w : World} {a : Option Addr} {n c : Nat} {A D A2 : List Int} {x : Int} {M : List Nat} (h : Ints B w (.slice a n c) (A2 ++ D)) (hA2 : A2 = A ++ [x]) (hM : toI M = (([] ++ A) ++ [x]) ++ D) :
    (∃ g c', Value.slice a n c = .slice (some ⟨g, 0, none⟩) M.length c') ∧ Ints B w (.slice a n c) (toI M) := by
  have e : A2 ++ D = toI M := by rw [hM, hA2]; simp
  rw [e] at h
  refine ⟨?_, h⟩
  obtain ⟨a', g, cap, e', h1, h2, _⟩ := h.shape
  simp only [Value.slice.injEq] at e'
  obtain ⟨rfl, rfl, rfl⟩ := e'
  rcases h1 with rfl | rfl
  · exact ⟨g, c, by rw [toI_length]⟩
  · have := (h2 rfl).1
    rw [hM] at this
    simp at this


end Go.Proofs.Ytffmcibpboejnaa
