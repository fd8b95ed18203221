/- Searching: how many steps lead from one place to another, and what a queue of reached places tells. No program. -/
import Derived.Test.YtgldckgecoijfaaEdgN
namespace Go.Proofs.Ytgldckgecoijfaa
open Go.RowKit

/-- k steps lead from s to t -/
def Pth (R : Nat → Nat → Prop) (s : Nat) : Nat → Nat → Prop
  | 0, t => t = s
  | k + 1, t => ∃ v, Pth R s k v ∧ R v t
/-- d is how many steps lead from s to t at least, -1 if none do -/
def Dst (R : Nat → Nat → Prop) (s t : Nat) (d : Int) : Prop := (d = -1 ∧ ∀ k, ¬ Pth R s k t) ∨ ∃ k : Nat, d = (k : Int) ∧ Pth R s k t ∧ ∀ j, Pth R s j t → k ≤ j
theorem Dst.uniq {R : Nat → Nat → Prop} {s t : Nat} {d e : Int} (h : Dst R s t d) (h2 : Dst R s t e) : d = e := by
  rcases h with ⟨h1, h3⟩ | ⟨k, h1, h3, h4⟩ <;> rcases h2 with ⟨g1, g3⟩ | ⟨j, g1, g3, g4⟩
  · omega
  · exact absurd g3 (h3 j)
  · exact absurd h3 (g3 k)
  · have := h4 j g3
    have := g4 k h3
    omega
/-- the search: the places q are reached, of which the first i are done; st says by how many steps. Of the i-th one the neighbours L are done. -/
structure Srch (R : Nat → Nat → Prop) (s : Nat) (st : Nat → Int) (q : List Nat) (i : Nat) (L : List Nat) : Prop where
  start : st s = 0 ∧ s ∈ q
  out : ∀ t, t ∉ q → st t = -1
  nodup : q.Nodup
  path : ∀ t ∈ q, ∃ k : Nat, st t = (k : Int) ∧ Pth R s k t
  rise : ∀ a b, a ≤ b → b < q.length → st (q.getD a 0) ≤ st (q.getD b 0)
  near : ∀ b, b < q.length → i < q.length → st (q.getD b 0) ≤ st (q.getD i 0) + 1
  done : ∀ a, a < i → ∀ v, R (q.getD a 0) v → v ∈ q ∧ st v ≤ st (q.getD a 0) + 1
  now : ∀ v ∈ L, v ∈ q ∧ st v ≤ st (q.getD i 0) + 1
  len : i ≤ q.length
theorem Srch.first (R : Nat → Nat → Prop) (s : Nat) : Srch R s (fun t => if t = s then 0 else -1) [s] 0 [] := by
  refine ⟨⟨if_pos rfl, List.mem_singleton.2 rfl⟩, fun t ht => if_neg (fun e => ht (List.mem_singleton.2 e)), List.nodup_cons.2 ⟨fun h => (by cases h), List.nodup_nil⟩, fun t ht => ⟨0, if_pos (List.mem_singleton.1 ht), List.mem_singleton.1 ht⟩, fun a b hab hb => ?_, fun b hb _ => ?_, fun a ha => absurd ha (by omega), fun v hv => (by cases hv), Nat.zero_le _⟩
  · rw [List.length_singleton] at hb
    obtain rfl : b = 0 := by omega
    obtain rfl : a = 0 := by omega
    exact Int.le_refl _
  · rw [List.length_singleton] at hb
    obtain rfl : b = 0 := by omega
    omega
theorem app_getD {l : List Nat} {v a : Nat} (h : a < l.length) : (l ++ [v]).getD a 0 = l.getD a 0 := by
  rw [List.getD_eq_getElem?_getD, List.getElem?_append_left h, ← List.getD_eq_getElem?_getD]
theorem app_last (l : List Nat) (v : Nat) : (l ++ [v]).getD l.length 0 = v := by
  rw [List.getD_eq_getElem?_getD, List.getElem?_append_right (Nat.le_refl _), Nat.sub_self]; rfl
/-- a neighbour that is reached already -/
theorem Srch.skip {R : Nat → Nat → Prop} {s i : Nat} {st : Nat → Int} {q L : List Nat} (h : Srch R s st q i L) (hi : i < q.length) {v : Nat} (hv : ¬ st v < 0) : Srch R s st q i (L ++ [v]) := by
  refine ⟨h.start, h.out, h.nodup, h.path, h.rise, h.near, h.done, fun w hw => ?_, h.len⟩
  rcases List.mem_append.1 hw with hw | hw
  · exact h.now w hw
  · rw [List.mem_singleton] at hw
    subst hw
    have hq : w ∈ q := Classical.byContradiction fun hn => by have := h.out w hn; omega
    obtain ⟨b, hb, e⟩ := List.getElem_of_mem hq
    have h2 := h.near b hb hi
    rw [show q.getD b 0 = w by rw [List.getD_eq_getElem?_getD, List.getElem?_eq_getElem hb]; exact e] at h2
    exact ⟨hq, h2⟩
/-- a neighbour that is reached now -/
theorem Srch.visit {R : Nat → Nat → Prop} {s i : Nat} {st : Nat → Int} {q L : List Nat} (h : Srch R s st q i L) (hi : i < q.length) {v : Nat} (hv : st v < 0) (hR : R (q.getD i 0) v) : Srch R s (fun t => if t = v then st (q.getD i 0) + 1 else st t) (q ++ [v]) i (L ++ [v]) := by
  have hm : ∀ {a : Nat}, a < q.length → q.getD a 0 ∈ q := fun ha => getD_of_lt ha
  have hpos : ∀ t ∈ q, 0 ≤ st t := fun t ht => by obtain ⟨k, e, _⟩ := h.path t ht; omega
  have hnq : v ∉ q := fun hq => by have := hpos v hq; omega
  have hne : ∀ t ∈ q, t ≠ v := fun t ht e => hnq (e ▸ ht)
  have hst : ∀ {a : Nat}, a < q.length → (if (q ++ [v]).getD a 0 = v then st (q.getD i 0) + 1 else st ((q ++ [v]).getD a 0)) = st (q.getD a 0) := fun ha => by
    rw [app_getD ha, if_neg (hne _ (hm ha))]
  have hlast : (if (q ++ [v]).getD q.length 0 = v then st (q.getD i 0) + 1 else st ((q ++ [v]).getD q.length 0)) = st (q.getD i 0) + 1 := by
    rw [app_last, if_pos rfl]
  obtain ⟨ki, ei, pi⟩ := h.path _ (hm hi)
  refine ⟨⟨?_, List.mem_append_left _ h.start.2⟩, fun t ht => ?_, ?_, fun t ht => ?_, fun a b hab hb => ?_, fun b hb _ => ?_, fun a ha w hw => ?_, fun w hw => ?_, by rw [List.length_append]; omega⟩
  · rw [if_neg (hne _ h.start.2)]; exact h.start.1
  · rw [List.mem_append, List.mem_singleton, not_or] at ht
    rw [if_neg ht.2]; exact h.out t ht.1
  · rw [List.nodup_append]
    exact ⟨h.nodup, by simp, fun a ha b hb e => by rw [List.mem_singleton] at hb; exact hnq (by rw [← hb, ← e]; exact ha)⟩
  · rcases List.mem_append.1 ht with ht | ht
    · rw [if_neg (hne t ht)]; exact h.path t ht
    · rw [List.mem_singleton] at ht
      subst ht
      exact ⟨ki + 1, by rw [if_pos rfl, ei]; rfl, _, pi, hR⟩
  · rw [List.length_append, List.length_singleton] at hb
    show (if (q ++ [v]).getD a 0 = v then st (q.getD i 0) + 1 else st ((q ++ [v]).getD a 0)) ≤ (if (q ++ [v]).getD b 0 = v then st (q.getD i 0) + 1 else st ((q ++ [v]).getD b 0))
    by_cases hb2 : b < q.length
    · rw [hst (by omega), hst hb2]; exact h.rise a b hab hb2
    · obtain rfl : b = q.length := by omega
      rw [hlast]
      by_cases ha2 : a < q.length
      · rw [hst ha2]; exact h.near a ha2 hi
      · obtain rfl : a = q.length := by omega
        rw [hlast]; exact Int.le_refl _
  · rw [List.length_append, List.length_singleton] at hb
    show (if (q ++ [v]).getD b 0 = v then st (q.getD i 0) + 1 else st ((q ++ [v]).getD b 0)) ≤ (if (q ++ [v]).getD i 0 = v then st (q.getD i 0) + 1 else st ((q ++ [v]).getD i 0)) + 1
    rw [hst hi]
    by_cases hb2 : b < q.length
    · rw [hst hb2]; exact h.near b hb2 hi
    · obtain rfl : b = q.length := by omega
      rw [hlast]; exact Int.le_refl _
  · rw [app_getD (by omega)] at hw
    obtain ⟨h1, h2⟩ := h.done a ha w hw
    show w ∈ q ++ [v] ∧ (if w = v then st (q.getD i 0) + 1 else st w) ≤ (if (q ++ [v]).getD a 0 = v then st (q.getD i 0) + 1 else st ((q ++ [v]).getD a 0)) + 1
    rw [if_neg (hne w h1), hst (by omega)]
    exact ⟨List.mem_append_left _ h1, h2⟩
  · show w ∈ q ++ [v] ∧ (if w = v then st (q.getD i 0) + 1 else st w) ≤ (if (q ++ [v]).getD i 0 = v then st (q.getD i 0) + 1 else st ((q ++ [v]).getD i 0)) + 1
    rw [hst hi]
    rcases List.mem_append.1 hw with hw | hw
    · obtain ⟨h1, h2⟩ := h.now w hw
      rw [if_neg (hne w h1)]
      exact ⟨List.mem_append_left _ h1, h2⟩
    · rw [List.mem_singleton] at hw
      rw [if_pos hw, hw]
      exact ⟨List.mem_append_right _ (by simp), Int.le_refl _⟩
/-- the i-th one is done -/
theorem Srch.next {R : Nat → Nat → Prop} {s i : Nat} {st : Nat → Int} {q L : List Nat} (h : Srch R s st q i L) (hi : i < q.length) (hL : ∀ v, R (q.getD i 0) v → v ∈ L) : Srch R s st q (i + 1) [] := by
  refine ⟨h.start, h.out, h.nodup, h.path, h.rise, fun b hb hi2 => ?_, fun a ha v hv => ?_, fun v hv => (by cases hv), (by omega)⟩
  · have h1 := h.near b hb hi
    have h2 := h.rise i (i + 1) (by omega) hi2
    omega
  · by_cases e : a = i
    · subst e; exact h.now v (hL v hv)
    · exact h.done a (by omega) v hv
/-- all are done: each place has its least number of steps -/
theorem Srch.end {R : Nat → Nat → Prop} {s : Nat} {st : Nat → Int} {q : List Nat} (h : Srch R s st q q.length []) (t : Nat) : Dst R s t (st t) := by
  have key : ∀ k t, Pth R s k t → t ∈ q ∧ st t ≤ (k : Int) := by
    intro k
    induction k with
    | zero =>
      intro t ht
      have : t = s := ht
      subst this
      exact ⟨h.start.2, by rw [h.start.1]; omega⟩
    | succ k ih =>
      rintro t ⟨v, hv, hR⟩
      obtain ⟨h1, h2⟩ := ih v hv
      obtain ⟨a, ha, e⟩ := List.getElem_of_mem h1
      have eg : q.getD a 0 = v := by rw [List.getD_eq_getElem?_getD, List.getElem?_eq_getElem ha]; exact e
      obtain ⟨h3, h4⟩ := h.done a ha t (by rw [eg]; exact hR)
      rw [eg] at h4
      exact ⟨h3, by omega⟩
  by_cases ht : t ∈ q
  · obtain ⟨k, e, hp⟩ := h.path t ht
    exact .inr ⟨k, e, hp, fun j hj => by have := (key j t hj).2; omega⟩
  · exact .inl ⟨h.out t ht, fun k hk => ht (key k t hk).1⟩

end Go.Proofs.Ytgldckgecoijfaa
