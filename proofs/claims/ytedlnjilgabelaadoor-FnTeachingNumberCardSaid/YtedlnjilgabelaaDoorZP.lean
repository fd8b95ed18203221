/- The pairs of sets that differ at one point, as a list. No program. The edges at a set: the sets behind it that differ at one point, by the point. No program. The number of edges: by the last point, by any point, summed over the points; no more than the dimension times the sets; no fewer where a point is shifted. No program. Slices of pointers to nodes that the call itself has made: read, and one appended. Conditions: fewer than a million elements. Slices of pairs: read, compared. Conditions: at most 1048576 of them. append of one pair to a slice of pairs that the call itself has made. Conditions: fewer than a million of them. EdgesOf, the program's, where what nodesOf answers is known. Conditions: Sets is a slice of ints. Blocks of values, nodes in blocks of their own, and the two states in which nodesOf's loops run. No program. nodesOf, the program's: the sets of a valid class as nodes. Conditions: Sets is a slice of ints, the class is valid. EdgesOf, the program's. Conditions: Sets is a slice of ints. -/
import Derived.BigQuiet
import Derived.Deep.Cut
import Derived.Deep.RegionHeld3
import Derived.Test.YtedlnjilgabelaaDoorCubM
import Derived.Test.YtedlnjilgabelaaDoorPaj4
import Derived.Test.YtedlnjilgabelaaDoorZA
import Derived.Test.YtedlnjilgabelaaDoorZD
namespace Go.Proofs.YtedlnjilgabelaaDoor
open Go.RowKit

/-- s and t differ at one point -/
def adj (s t : Nat) : Bool := pc (s ^^^ t) == 1
/-- the pairs of the set at i with those behind it, among the first k -/
def egIn (ns : List Nat) (i k : Nat) : List (Int × Int) := ((List.range k).filter (fun j => decide (i < j) && adj (ns.getD i 0) (ns.getD j 0))).map (fun j => (((ns.getD i 0 : Nat) : Int), ((ns.getD j 0 : Nat) : Int)))
theorem egIn_nil (ns : List Nat) (i : Nat) : egIn ns i (i + 1) = [] := by
  rw [egIn, List.map_eq_nil_iff, List.filter_eq_nil_iff]
  intro j hj h
  rw [List.mem_range] at hj
  rw [Bool.and_eq_true, decide_eq_true_eq] at h
  omega
theorem egIn_yes {ns : List Nat} {i k : Nat} (hik : i < k) (h : adj (ns.getD i 0) (ns.getD k 0) = true) : egIn ns i (k + 1) = egIn ns i k ++ [(((ns.getD i 0 : Nat) : Int), ((ns.getD k 0 : Nat) : Int))] := by
  have h2 : (decide (i < k) && adj (ns.getD i 0) (ns.getD k 0)) = true := by rw [h, decide_eq_true hik]; rfl
  simp only [egIn, List.range_succ, List.filter_append, List.map_append, List.filter_cons, List.filter_nil, h2, ↓reduceIte, List.map_cons, List.map_nil]
theorem egIn_no {ns : List Nat} {i k : Nat} (h : adj (ns.getD i 0) (ns.getD k 0) = false) : egIn ns i (k + 1) = egIn ns i k := by
  have h2 : (decide (i < k) && adj (ns.getD i 0) (ns.getD k 0)) = false := by rw [h, Bool.and_false]
  simp only [egIn, List.range_succ, List.filter_append, List.filter_cons, List.filter_nil, h2, Bool.false_eq_true, ↓reduceIte, List.append_nil]
theorem egIn_len (ns : List Nat) (i k : Nat) : (egIn ns i k).length ≤ k := by
  rw [egIn, List.length_map]
  have := List.length_filter_le (fun j => decide (i < j) && adj (ns.getD i 0) (ns.getD j 0)) (List.range k)
  rw [List.length_range] at this
  exact this
/-- the pairs of the first i sets with those behind each -/
def egTo (ns : List Nat) (i : Nat) : List (Int × Int) := (List.range i).flatMap (fun j => egIn ns j ns.length)
theorem egTo_succ (ns : List Nat) (i : Nat) : egTo ns (i + 1) = egTo ns i ++ egIn ns i ns.length := by
  simp [egTo, List.range_succ, List.flatMap_append]
theorem egTo_len {ns : List Nat} (h : ns.length ≤ 32) (i : Nat) : (egTo ns i).length ≤ i * 32 := by
  induction i with
  | zero => simp [egTo]
  | succ i ih =>
    rw [egTo_succ, List.length_append]
    have h1 := egIn_len ns i ns.length
    omega
/-- the edges of any class: none where it is not valid -/
def egL (n : Int) (zs : List Int) : List (Int × Int) := if vldB n zs = true then egTo (zs.map Int.toNat) (zs.map Int.toNat).length else []
theorem egL_in {m : Nat} {ns : List Nat} (h : vldB (m : Int) (toI ns) = true) : egL (m : Int) (toI ns) = egTo ns ns.length := by rw [egL, if_pos h, toNat_toI]
theorem egL_bad {n : Int} {zs : List Int} (h : vldB n zs = false) : egL n zs = [] := by rw [egL, h]; rfl
theorem egL_len (n : Int) (zs : List Int) : (egL n zs).length ≤ 1048576 := by
  by_cases hv : vldB n zs = true
  · obtain ⟨m, ns, rfl, rfl, hc⟩ := vldB_cls hv
    rw [egL_in hv]
    have h1 := egTo_len hc.length ns.length
    have h2 := hc.length
    omega
  · rw [Bool.not_eq_true] at hv
    rw [egL_bad hv]
    simp

end Go.Proofs.YtedlnjilgabelaaDoor

namespace Go.Proofs.YtedlnjilgabelaaDoor
open Go.RowKit

/-- the sets of ns that differ from s at one of the first k points, by the point -/
def nearTo (ns : List Nat) (s k : Nat) : List Nat := ((List.range k).map (fun x => s ^^^ 2 ^ x)).filter (fun t => decide (t ∈ ns))
theorem near_yes {ns : List Nat} {s k : Nat} (h : s ^^^ 2 ^ k ∈ ns) : nearTo ns s (k + 1) = nearTo ns s k ++ [s ^^^ 2 ^ k] := by
  have h2 : decide (s ^^^ 2 ^ k ∈ ns) = true := decide_eq_true h
  simp only [nearTo, List.range_succ, List.map_append, List.filter_append, List.map_cons, List.map_nil, List.filter_cons, List.filter_nil, h2, ↓reduceIte]
theorem near_no {ns : List Nat} {s k : Nat} (h : ¬ s ^^^ 2 ^ k ∈ ns) : nearTo ns s (k + 1) = nearTo ns s k := by
  have h2 : decide (s ^^^ 2 ^ k ∈ ns) = false := decide_eq_false h
  simp only [nearTo, List.range_succ, List.map_append, List.filter_append, List.map_cons, List.map_nil, List.filter_cons, List.filter_nil, h2, Bool.false_eq_true, ↓reduceIte, List.append_nil]
theorem near_len (ns : List Nat) (s k : Nat) : (nearTo ns s k).length ≤ k := by
  have := List.length_filter_le (fun t => decide (t ∈ ns)) ((List.range k).map (fun x => s ^^^ 2 ^ x))
  rw [List.length_map, List.length_range] at this
  exact this
theorem near_mem {ns : List Nat} {s k t : Nat} (h : t ∈ nearTo ns s k) : t ∈ ns := by
  rw [nearTo, List.mem_filter] at h
  exact of_decide_eq_true h.2
theorem up_asc : ∀ (m : Fin 6) (s : Fin 32), (((List.range m.1).map (fun x => s.1 ^^^ 2 ^ x)).filter (fun t => decide (s.1 < t))).Pairwise (· < ·) := by decide +kernel
theorem adj_iff : ∀ (m : Fin 6) (s t : Fin 32), s.1 < 2 ^ m.1 → t.1 < 2 ^ m.1 → (adj s.1 t.1 = true ↔ t.1 ∈ (List.range m.1).map (fun x => s.1 ^^^ 2 ^ x)) := by decide +kernel
/-- the program's edges at a set are the model's -/
theorem eg_near {m : Nat} {ns : List Nat} (hc : Cls m ns) {i : Nat} (hi : i < ns.length) :
    egIn ns i ns.length = ((nearTo ns (ns.getD i 0) m).filter (fun t => decide (ns.getD i 0 < t))).map (fun t => (((ns.getD i 0 : Nat) : Int), ((t : Nat) : Int))) := by
  have hm := hc.pts
  have hsm : ns.getD i 0 ∈ ns := getD_of_lt hi
  have hs32 := hc.lt32 _ hsm
  have hsl := hc.lt _ hsm
  have hgt : ∀ j, j < ns.length → (i < j ↔ ns.getD i 0 < ns.getD j 0) := by
    intro j hj
    have h1 := List.pairwise_iff_getElem.1 hc.asc
    rw [List.getD_eq_getElem?_getD, List.getD_eq_getElem?_getD, List.getElem?_eq_getElem hi, List.getElem?_eq_getElem hj, Option.getD_some, Option.getD_some]
    constructor
    · intro h; exact h1 i j hi hj h
    · intro h
      rcases Nat.lt_trichotomy i j with h2 | h2 | h2
      · exact h2
      · subst h2; omega
      · have := h1 j i hj hi h2; omega
  have hL : egIn ns i ns.length = (((List.range ns.length).filter (fun j => decide (i < j) && adj (ns.getD i 0) (ns.getD j 0))).map (fun j => ns.getD j 0)).map (fun t => (((ns.getD i 0 : Nat) : Int), ((t : Nat) : Int))) := by
    rw [List.map_map]; rfl
  rw [hL]
  congr 1
  apply asc_ext
  · rw [List.pairwise_map]
    have h0 : ((List.range ns.length).filter (fun j => decide (i < j) && adj (ns.getD i 0) (ns.getD j 0))).Pairwise (· < ·) := List.Pairwise.filter _ List.pairwise_lt_range
    refine List.Pairwise.imp_of_mem (fun {a b} ha hb hab => ?_) h0
    have ha' := List.mem_range.1 (List.mem_filter.1 ha).1
    have hb' := List.mem_range.1 (List.mem_filter.1 hb).1
    have h1 := List.pairwise_iff_getElem.1 hc.asc
    rw [List.getD_eq_getElem?_getD, List.getD_eq_getElem?_getD, List.getElem?_eq_getElem ha', List.getElem?_eq_getElem hb', Option.getD_some, Option.getD_some]
    exact h1 a b ha' hb' hab
  · have h1 := up_asc ⟨m, by omega⟩ ⟨ns.getD i 0, hs32⟩
    dsimp only at h1
    rw [nearTo, List.filter_filter]
    have h2 := h1.filter (fun t => decide (t ∈ ns))
    rw [List.filter_filter] at h2
    rw [show (fun a => decide (ns.getD i 0 < a) && decide (a ∈ ns)) = (fun a => decide (a ∈ ns) && decide (ns.getD i 0 < a)) from funext fun a => Bool.and_comm _ _]
    exact h2
  · intro t
    rw [List.mem_map, List.mem_filter, nearTo, List.mem_filter]
    constructor
    · rintro ⟨j, hj, rfl⟩
      obtain ⟨hj1, hj2⟩ := List.mem_filter.1 hj
      rw [List.mem_range] at hj1
      rw [Bool.and_eq_true, decide_eq_true_eq] at hj2
      have htm : ns.getD j 0 ∈ ns := getD_of_lt hj1
      exact ⟨⟨(adj_iff ⟨m, by omega⟩ ⟨_, hs32⟩ ⟨_, hc.lt32 _ htm⟩ hsl (hc.lt _ htm)).1 hj2.2, decide_eq_true htm⟩, decide_eq_true ((hgt j hj1).1 hj2.1)⟩
    · rintro ⟨⟨h1, h2⟩, h3⟩
      have htm : t ∈ ns := of_decide_eq_true h2
      have hlt := of_decide_eq_true h3
      obtain ⟨j, hj, rfl⟩ := List.getElem_of_mem htm
      have hg : ns.getD j 0 = ns[j] := by rw [List.getD_eq_getElem?_getD, List.getElem?_eq_getElem hj, Option.getD_some]
      refine ⟨j, List.mem_filter.2 ⟨List.mem_range.2 hj, ?_⟩, hg⟩
      rw [hg, Bool.and_eq_true, decide_eq_true_eq]
      exact ⟨(hgt j hj).2 (by rw [hg]; exact hlt), (adj_iff ⟨m, by omega⟩ ⟨_, hs32⟩ ⟨ns[j], hc.lt32 _ htm⟩ hsl (hc.lt _ htm)).2 h1⟩

end Go.Proofs.YtedlnjilgabelaaDoor

namespace Go.Proofs.YtedlnjilgabelaaDoor
open Go.RowKit

/-- the number of edges -/
def eF : Nat → (Nat → Bool) → Nat
  | 0, _ => 0
  | n + 1, f => eF n f + eF n (up n f) + cnt n (andF f (up n f))
theorem eF_congr {n : Nat} {f g : Nat → Bool} (h : ∀ s, s < 2 ^ n → f s = g s) : eF n f = eF n g := by
  induction n generalizing f g with
  | zero => rfl
  | succ n ih =>
    have h1 : ∀ s, s < 2 ^ n → f s = g s := fun s hs => h s (by rw [Nat.pow_succ]; omega)
    have h2 : ∀ s, s < 2 ^ n → up n f s = up n g s := fun s hs => h (s + 2 ^ n) (by rw [Nat.pow_succ]; omega)
    rw [eF, eF, ih h1, ih h2, cnt_congr (f := andF f (up n f)) (g := andF g (up n g)) (fun s hs => by simp only [andF]; rw [h1 s hs, h2 s hs])]
theorem eF_sup (n : Nat) (f g : Nat → Bool) : eF n f + eF n g ≤ eF n (orF f g) + eF n (andF f g) := by
  induction n generalizing f g with
  | zero => simp [eF]
  | succ n ih =>
    have h1 := ih f g
    have h2 := ih (up n f) (up n g)
    have h3 := cnt_or_and n (andF f (up n f)) (andF g (up n g))
    have h4 : cnt n (orF (andF f (up n f)) (andF g (up n g))) ≤ cnt n (andF (orF f g) (up n (orF f g))) := cnt_mono (fun s _ hs => by
      simp only [orF, andF, up, Bool.or_eq_true, Bool.and_eq_true] at hs ⊢
      rcases hs with hs | hs
      · exact ⟨.inl hs.1, .inl hs.2⟩
      · exact ⟨.inr hs.1, .inr hs.2⟩)
    have h5 : cnt n (andF (andF f (up n f)) (andF g (up n g))) = cnt n (andF (andF f g) (up n (andF f g))) := cnt_congr (fun s _ => by
      simp only [andF, up]
      cases f s <;> cases g s <;> simp)
    show eF n f + eF n (up n f) + cnt n (andF f (up n f)) + (eF n g + eF n (up n g) + cnt n (andF g (up n g))) ≤ eF n (orF f g) + eF n (orF (up n f) (up n g)) + cnt n (andF (orF f g) (up n (orF f g))) + (eF n (andF f g) + eF n (andF (up n f) (up n g)) + cnt n (andF (andF f g) (up n (andF f g))))
    omega
theorem pc_up {n s : Nat} (hn : n < 5) (hs : s < 2 ^ n) : pc (s + 2 ^ n) = pc s + 1 := by
  have key : ∀ n : Fin 5, ∀ s : Fin 16, (s : Nat) < 2 ^ (n : Nat) → pc ((s : Nat) + 2 ^ (n : Nat)) = pc (s : Nat) + 1 := by decide +kernel
  have h16 := sixteen hn
  exact key ⟨n, hn⟩ ⟨s, by omega⟩ hs
theorem shF_zero {n : Nat} {f : Nat → Bool} (h : cnt n f ≠ 0) : shF n f 0 = true := by
  induction n generalizing f with
  | zero =>
    rw [cnt] at h
    rw [shF]
    cases h0 : f 0 with
    | true => rfl
    | false => rw [h0] at h; simp at h
  | succ n ih =>
    rw [shF, if_pos (Nat.two_pow_pos n)]
    apply ih
    rw [cnt] at h
    have h1 := cnt_or_and n f (up n f)
    have h2 : cnt n (andF f (up n f)) ≤ cnt n (orF f (up n f)) := cnt_mono (fun s _ hs => by
      simp only [orF, andF, Bool.or_eq_true, Bool.and_eq_true] at hs ⊢
      exact .inl hs.1)
    omega
/-- no more edges than the dimension times the sets -/
theorem eF_le {n : Nat} (hn : n ≤ 5) (f : Nat → Bool) (d : Nat) (h : ∀ s, s < 2 ^ n → shF n f s = true → pc s ≤ d) : eF n f ≤ d * cnt n f := by
  induction n generalizing f d with
  | zero => simp [eF]
  | succ n ih =>
    have hp : 2 ^ (n + 1) = 2 ^ n + 2 ^ n := by rw [Nat.pow_succ]; omega
    have hor := ih (by omega) (orF f (up n f)) d (fun s hs hh => h s (by omega) (by rw [shF, if_pos hs]; exact hh))
    have hsum := cnt_or_and n f (up n f)
    have hsup := eF_sup n f (up n f)
    have hand : ∀ s, s < 2 ^ n → shF n (andF f (up n f)) s = true → pc s + 1 ≤ d := fun s hs hh => by
      have h1 := shF_and n f (up n f) s hh
      have h2 := h (s + 2 ^ n) (by omega) (by rw [shF, if_neg (by omega), Nat.add_sub_cancel, h1.1, h1.2]; rfl)
      rw [pc_up (by omega) hs] at h2
      exact h2
    rw [eF, cnt, ← hsum]
    by_cases hz : cnt n (andF f (up n f)) = 0
    · have h3 := ih (by omega) (andF f (up n f)) d (fun s hs hh => by have := hand s hs hh; omega)
      rw [hz] at h3 ⊢
      rw [Nat.mul_zero] at h3
      simp only [Nat.add_zero]
      omega
    · have h0 := hand 0 (Nat.two_pow_pos n) (shF_zero hz)
      obtain ⟨e, rfl⟩ : ∃ e, d = e + 1 := ⟨d - 1, by omega⟩
      have h3 := ih (by omega) (andF f (up n f)) e (fun s hs hh => by have := hand s hs hh; omega)
      have e1 : (e + 1) * (cnt n (orF f (up n f)) + cnt n (andF f (up n f))) = (e + 1) * cnt n (orF f (up n f)) + (e * cnt n (andF f (up n f)) + cnt n (andF f (up n f))) := by rw [Nat.mul_add, Nat.succ_mul e (cnt n (andF f (up n f)))]
      omega

/-- the sets that have an edge at the point y -/
def eY (y : Nat) (f : Nat → Bool) : Nat → Bool := fun s => f s && (!hasX y s && f (s + 2 ^ y))
theorem sum_add {α : Type} (l : List α) (f g : α → Nat) : (l.map (fun y => f y + g y)).sum = (l.map f).sum + (l.map g).sum := by
  induction l with
  | nil => rfl
  | cons a l ih => simp only [List.map_cons, List.sum_cons, ih]; omega
theorem sum_if {α : Type} (l : List α) (p : α → Bool) : (l.map (fun y => if p y = true then 1 else 0)).sum = l.countP p := by
  induction l with
  | nil => rfl
  | cons a l ih => simp only [List.map_cons, List.sum_cons, List.countP_cons, ih]; omega
theorem sum_swap {α β : Type} (l : List α) (r : List β) (q : α → β → Bool) : (l.map (fun s => r.countP (q s))).sum = (r.map (fun y => l.countP (fun s => q s y))).sum := by
  induction l with
  | nil =>
    simp only [List.map_nil, List.sum_nil, List.countP_nil]
    induction r with
    | nil => rfl
    | cons b r ih => simp only [List.map_cons, List.sum_cons, ← ih, Nat.add_zero]
  | cons a l ih =>
    simp only [List.map_cons, List.sum_cons, List.countP_cons, ih]
    rw [sum_add, sum_if]
    omega
theorem has_high {n y s : Nat} (hn : n < 5) (hy : y < n) (hs : s < 2 ^ n) : hasX y (s + 2 ^ n) = hasX y s := by
  have key : ∀ n : Fin 5, ∀ y : Fin 5, ∀ s : Fin 16, (y : Nat) < (n : Nat) → (s : Nat) < 2 ^ (n : Nat) → hasX (y : Nat) ((s : Nat) + 2 ^ (n : Nat)) = hasX (y : Nat) (s : Nat) := by decide +kernel
  have h16 := sixteen hn
  exact key ⟨n, hn⟩ ⟨y, by omega⟩ ⟨s, by omega⟩ hy hs
theorem has_last {n s : Nat} (hn : n < 5) (hs : s < 2 ^ n) : hasX n s = false ∧ hasX n (s + 2 ^ n) = true := by
  have key : ∀ n : Fin 5, ∀ s : Fin 16, (s : Nat) < 2 ^ (n : Nat) → hasX (n : Nat) (s : Nat) = false ∧ hasX (n : Nat) ((s : Nat) + 2 ^ (n : Nat)) = true := by decide +kernel
  have h16 := sixteen hn
  exact key ⟨n, hn⟩ ⟨s, by omega⟩ hs
theorem eF_sum {n : Nat} (hn : n ≤ 5) (f : Nat → Bool) : eF n f = ((List.range n).map (fun y => cnt n (eY y f))).sum := by
  induction n generalizing f with
  | zero => rfl
  | succ n ih =>
    rw [eF, ih (by omega) f, ih (by omega) (up n f), List.range_succ, List.map_append, List.sum_append, ← sum_add]
    have e1 : (List.range n).map (fun y => cnt (n + 1) (eY y f)) = (List.range n).map (fun y => cnt n (eY y f) + cnt n (eY y (up n f))) := List.map_congr_left (fun y hy => by
      rw [List.mem_range] at hy
      rw [cnt]
      congr 1
      apply cnt_congr
      intro s hs
      simp only [up, eY]
      rw [has_high (by omega) hy hs, Nat.add_right_comm])
    have e2 : cnt (n + 1) (eY n f) = cnt n (andF f (up n f)) := by
      rw [cnt, cnt_congr (f := eY n f) (g := andF f (up n f)) (fun s hs => by simp only [eY, andF, up]; rw [(has_last (by omega) hs).1]; rfl), cnt_congr (f := up n (eY n f)) (g := fun _ => false) (fun s hs => by simp only [eY, up]; rw [(has_last (by omega) hs).2]; simp), cnt_none, Nat.add_zero]
    rw [e1, List.map_cons, List.map_nil, List.sum_cons, List.sum_nil, Nat.add_zero, e2]
theorem xor_has {y s : Nat} (hy : y < 5) (hs : s < 32) : (hasX y s = false → s ^^^ 2 ^ y = s + 2 ^ y) ∧ (hasX y s = true → ¬ s < s ^^^ 2 ^ y) := by
  have key : ∀ y : Fin 5, ∀ s : Fin 32, (hasX (y : Nat) (s : Nat) = false → (s : Nat) ^^^ 2 ^ (y : Nat) = (s : Nat) + 2 ^ (y : Nat)) ∧ (hasX (y : Nat) (s : Nat) = true → ¬ (s : Nat) < (s : Nat) ^^^ 2 ^ (y : Nat)) := by decide +kernel
  exact key ⟨y, hy⟩ ⟨s, hs⟩
theorem range_getD (l : List Nat) : (List.range l.length).map (fun i => l.getD i 0) = l := by
  apply List.ext_getElem
  · simp
  · intro i h1 h2
    rw [List.getElem_map, List.getElem_range, List.getD_eq_getElem?_getD, List.getElem?_eq_getElem h2]
    rfl
theorem many_cnt {m : Nat} {ns : List Nat} (h : Cls m ns) (p : Nat → Bool) : ns.countP p = cnt m (fun s => inF ns s && p s) := by
  have h1 : ns.countP p = ((List.range (2 ^ m)).filter (inF ns)).countP p := by rw [h.self]
  rw [h1, List.countP_eq_length_filter, List.filter_filter, cnt_filter]
  exact cnt_congr (fun s _ => Bool.and_comm _ _)
/-- the number of edges, as a list -/
theorem eg_count {m : Nat} {ns : List Nat} (hc : Cls m ns) : (egTo ns ns.length).length = eF m (inF ns) := by
  have hm := hc.pts
  rw [egTo, List.length_flatMap, eF_sum hm]
  have e1 : (List.range ns.length).map (fun i => (egIn ns i ns.length).length) = (List.range ns.length).map (fun i => (fun s => (List.range m).countP (fun y => decide (s ^^^ 2 ^ y ∈ ns) && decide (s < s ^^^ 2 ^ y))) (ns.getD i 0)) := List.map_congr_left (fun i hi => by
    rw [List.mem_range] at hi
    rw [eg_near hc hi, List.length_map, ← List.countP_eq_length_filter, nearTo, List.countP_filter, List.countP_map]
    apply List.countP_congr
    intro y _
    simp only [Function.comp_apply, Bool.and_eq_true, decide_eq_true_eq]
    exact And.comm)
  rw [e1, show (List.range ns.length).map (fun i => (fun s => (List.range m).countP (fun y => decide (s ^^^ 2 ^ y ∈ ns) && decide (s < s ^^^ 2 ^ y))) (ns.getD i 0)) = ns.map (fun s => (List.range m).countP (fun y => decide (s ^^^ 2 ^ y ∈ ns) && decide (s < s ^^^ 2 ^ y))) by
    have h9 : ∀ g : Nat → Nat, (List.range ns.length).map (fun i => g (ns.getD i 0)) = ns.map g := fun g => by
      have h8 := congrArg (List.map g) (range_getD ns)
      rw [List.map_map] at h8
      exact h8
    exact h9 (fun s => (List.range m).countP (fun y => decide (s ^^^ 2 ^ y ∈ ns) && decide (s < s ^^^ 2 ^ y))), sum_swap]
  congr 1
  apply List.map_congr_left
  intro y hy
  rw [List.mem_range] at hy
  rw [many_cnt hc]
  apply cnt_congr
  intro s hs
  have h32 := pow_le_32 hm
  obtain ⟨x1, x2⟩ := xor_has (y := y) (s := s) (by omega) (by omega)
  simp only [eY]
  congr 1
  have hp := Nat.two_pow_pos y
  cases hh : hasX y s with
  | false =>
    rw [x1 hh, show decide (s < s + 2 ^ y) = true from decide_eq_true (by omega)]
    simp [inF]
  | true =>
    rw [show decide (s < s ^^^ 2 ^ y) = false from decide_eq_false (x2 hh)]
    simp

/-- the sets without x, the sets with x -/
def dnX (x : Nat) (f : Nat → Bool) : Nat → Bool := fun t => f (ins x t)
def upX (x : Nat) (f : Nat → Bool) : Nat → Bool := fun t => f (ins x t + 2 ^ x)
theorem cnt_ins' {n x : Nat} (hn : n < 5) (hx : x ≤ n) (f : Nat → Bool) : cnt (n + 1) f = cnt n (dnX x f) + cnt n (upX x f) := cnt_ins hn hx f
theorem dn_up {n x : Nat} (hn : n < 4) (hx : x ≤ n) (f : Nat → Bool) : ∀ t, t < 2 ^ n → up n (dnX x f) t = dnX x (up (n + 1) f) t ∧ up n (upX x f) t = upX x (up (n + 1) f) t := fun t ht => by
  simp only [up, dnX, upX]
  rw [ins_up hn hx ht]
  exact ⟨rfl, by rw [Nat.add_right_comm]⟩
theorem dn_top {n : Nat} (f : Nat → Bool) : ∀ t, t < 2 ^ n → dnX n f t = f t ∧ upX n f t = up n f t := fun t ht => by
  simp only [up, dnX, upX]
  rw [ins_top ht]
  exact ⟨rfl, rfl⟩
theorem eF_ins {n x : Nat} (hn : n < 5) (hx : x ≤ n) (f : Nat → Bool) : eF (n + 1) f = eF n (dnX x f) + eF n (upX x f) + cnt n (andF (dnX x f) (upX x f)) := by
  induction n generalizing x f with
  | zero =>
    obtain rfl : x = 0 := by omega
    rfl
  | succ n ih =>
    by_cases e : x = n + 1
    · subst e
      have h1 := dn_top (n := n + 1) f
      rw [eF, eF_congr (f := dnX (n + 1) f) (fun t ht => (h1 t ht).1), eF_congr (f := upX (n + 1) f) (fun t ht => (h1 t ht).2), cnt_congr (f := andF (dnX (n + 1) f) (upX (n + 1) f)) (g := andF f (up (n + 1) f)) (fun t ht => by simp only [andF]; rw [(h1 t ht).1, (h1 t ht).2])]
    · have hx2 : x ≤ n := by omega
      have hd := dn_up (n := n) (x := x) (by omega) hx2 f
      rw [eF, ih (by omega) hx2 f, ih (by omega) hx2 (up (n + 1) f), cnt_ins' (by omega) hx2]
      rw [show eF (n + 1) (dnX x f) = eF n (dnX x f) + eF n (up n (dnX x f)) + cnt n (andF (dnX x f) (up n (dnX x f))) from rfl, show eF (n + 1) (upX x f) = eF n (upX x f) + eF n (up n (upX x f)) + cnt n (andF (upX x f) (up n (upX x f))) from rfl]
      rw [eF_congr (f := up n (dnX x f)) (fun t ht => (hd t ht).1), eF_congr (f := up n (upX x f)) (fun t ht => (hd t ht).2)]
      rw [show cnt (n + 1) (andF (dnX x f) (upX x f)) = cnt n (andF (dnX x f) (upX x f)) + cnt n (andF (up n (dnX x f)) (up n (upX x f))) from rfl]
      rw [cnt_congr (f := andF (up n (dnX x f)) (up n (upX x f))) (g := andF (dnX x (up (n + 1) f)) (upX x (up (n + 1) f))) (fun t ht => by simp only [andF]; rw [(hd t ht).1, (hd t ht).2])]
      rw [cnt_congr (f := andF (dnX x f) (up n (dnX x f))) (g := dnX x (andF f (up (n + 1) f))) (fun t ht => by simp only [andF]; rw [(hd t ht).1]; rfl)]
      rw [cnt_congr (f := andF (upX x f) (up n (upX x f))) (g := upX x (andF f (up (n + 1) f))) (fun t ht => by simp only [andF]; rw [(hd t ht).2]; rfl)]
      omega

end Go.Proofs.YtedlnjilgabelaaDoor

namespace Go.Proofs.YtedlnjilgabelaaDoor
open Go.RowKit

theorem infoN : (Tryd.prog.info? 44).map (fun i => (i.zero, i.size, i.bytes)) = some (some (.pointer none), 1, 8) := by kernel_rfl
/-- the pointer to the node in block b -/
def ndp (b : Nat) : Value := .pointer (some ⟨b, 0, none⟩)
/-- the slice v is owned, its blocks from B on, and holds the nodes in the blocks bs -/
def NdS (B : Nat) (w : World) (v : Value) (bs : List Nat) : Prop := w.ownsRow B 44 1 v bs.length (bs.map ndp)
/-- the slice v, wherever it lies, reads as the nodes in the blocks bs -/
def RdN (w : World) (v : Value) (bs : List Nat) : Prop :=
  ∃ (a : Option Addr) (b off cap : Nat), v = .slice a bs.length cap ∧ (0 < bs.length → a = some ⟨b, off, none⟩ ∧ b < w.heap.size) ∧ bs.length ≤ 9223372036854775807 ∧
    ∀ j, j < bs.length → w.cell? ⟨b, off + j, none⟩ = some (ndp (bs.getD j 0))
theorem RdN.below {k : Nat} {w w' : World} {v : Value} {bs : List Nat} (h : RdN w v bs) (hb : Below k w w') (hk : w.heap.size ≤ k) : RdN w' v bs := by
  obtain ⟨a, b, off, cap, e, h1, h2, h3⟩ := h
  refine ⟨a, b, off, cap, e, fun hp => ⟨(h1 hp).1, Nat.lt_of_lt_of_le (h1 hp).2 hb.size⟩, h2, fun j hj => ?_⟩
  have hlt := (h1 (by omega)).2
  exact (hb.cell (p := ⟨b, off + j, none⟩) (Nat.lt_of_lt_of_le hlt hk)).trans (h3 j hj)
theorem NdS.nil (B : Nat) (w : World) : NdS B w (.slice none 0 0) [] := World.ownsRow_nil w B _ 1
theorem NdS.alloc {B : Nat} {w : World} {v : Value} {bs : List Nat} (h : NdS B w v bs) (o : Obj) : NdS B (w.alloc o) v bs := World.ownsRow.alloc h o
theorem NdS.mono {B B' : Nat} {w : World} {v : Value} {bs : List Nat} (h : NdS B w v bs) (hB : B' ≤ B) : NdS B' w v bs := by
  refine ⟨h.1, ?_⟩
  rcases h.2 with h2 | ⟨g, cap, cur, e, hb, r⟩
  · exact .inl h2
  · exact .inr ⟨g, cap, cur, e, Nat.le_trans hB hb, r⟩
theorem NdS.below {B k : Nat} {w w' : World} {v : Value} {bs : List Nat} (h : NdS B w v bs) (hb : Below k w w') (hk : w.heap.size ≤ k) : NdS B w' v bs := by
  refine ⟨h.1, ?_⟩
  rcases h.2 with h2 | ⟨g, cap, cur, e, hB, hg, r⟩
  · exact .inl h2
  · refine .inr ⟨g, cap, cur, e, hB, ?_, r⟩
    rw [hb.block g (Nat.lt_of_lt_of_le (Array.getElem?_eq_some_iff.1 hg).1 hk)]
    exact hg
theorem NdS.rd {B : Nat} {w : World} {v : Value} {bs : List Nat} (h : NdS B w v bs) : RdN w v bs := by
  have h' := h
  rcases h.2 with ⟨rfl, hn⟩ | ⟨g, cap, cur, rfl, hb, hg, hnc, hcm, hcs, htake⟩
  · have : bs = [] := List.eq_nil_of_length_eq_zero hn
    subst this
    exact ⟨none, 0, 0, 0, rfl, fun h => by simp at h, by simp, fun j hj => by simp at hj⟩
  · refine ⟨some ⟨g, 0, none⟩, g, 0, cap, rfl, fun _ => ⟨rfl, (Array.getElem?_eq_some_iff.1 hg).1⟩, by unfold maxLen at hcm; omega, fun j hj => ?_⟩
    rw [Nat.zero_add, World.ownsRow.cellAt h' j (by omega)]
    simp [List.getD, hj]

theorem run_appN {w : World} {ty : TypeId} {B : Nat} {v : Value} {bs : List Nat} (h : NdS B w v bs) {H p : Nat} (hs : w.cell? ⟨H, 0, none⟩ = some (ndp p)) (hl : bs.length ≤ 1000000) (hB : B ≤ w.heap.size) :
    ∃ a' cap' w', (Builtin.append_ #[42, 42] ty #[v, .slice (some ⟨H, 0, none⟩) 1 1]).run Tryd.prog w = .ok (.slice a' (bs.length + 1) cap') w' ∧ NdS B w' (.slice a' (bs.length + 1) cap') (bs ++ [p]) ∧ Below B w w' ∧ w.grownBy w' v.ownBlock := by
  obtain ⟨i, hi, hz0, hz1, hz2⟩ := info_parts infoN
  obtain ⟨v', w', hr, hown, hg, _⟩ := run_append_own (P := Tryd.prog) w B 42 ty 44 i (.pointer none) 1 8 Tryd.underlying42 hi hz0 hz1 hz2 rfl (by decide) v bs.length (bs.map ndp) h
    ⟨H, 0, none⟩ 1 1 [ndp p] rfl (fun j u hu => by
      match j, hu with
      | 0, hu => simp at hu; subst hu; rw [Addr.add_lit]; exact hs
      | j + 1, hu => simp at hu) (by simp [Value.oneCell', ndp]) (by unfold maxLen; omega) (by omega) hB
  have hin : NdS B w' v' (bs ++ [p]) := by
    unfold NdS
    rw [List.length_append, List.map_append]
    exact hown
  rcases hin.2 with ⟨_, e0⟩ | ⟨g, cap, cur, rfl, _⟩
  · simp at e0
  · rw [List.length_append] at hr hin
    exact ⟨some ⟨g, 0, none⟩, cap, w', hr, hin, (Below.refl _ _).grown hg hB (fun k hk => by
      rcases h.2 with ⟨rfl, _⟩ | ⟨g2, cap2, cur2, rfl, hB2, _⟩
      · cases hk
      · obtain rfl := Option.some.inj hk
        exact hB2), hg⟩

theorem wpList_appN {w : World} {ops : Array Oper} {rest : List Oper} {o : Oper} {a : Act} {Q : Exit → Act → World → Prop} (hgd : o.guard = none) (s x : Operand)
    (ho : o.op = Op.call { callee := Callee.builtin Builtin.append, args := #[s, x], argTypes := #[42, 42] })
    (B : Nat) (v : Value) (bs : List Nat) (hs : a.eval s = v) (h : NdS B w v bs) (H p : Nat) (hx : a.eval x = .slice (some ⟨H, 0, none⟩) 1 1) (hsrc : w.cell? ⟨H, 0, none⟩ = some (ndp p)) (hl : bs.length ≤ 1000000) (hB : B ≤ w.heap.size)
    (hK : ∀ a' cap' w', NdS B w' (.slice a' (bs.length + 1) cap') (bs ++ [p]) → Below B w w' → w.grownBy w' v.ownBlock → wpList Tryd.prog ops Q rest (a.put o.dst (.slice a' (bs.length + 1) cap')) w') : wpList Tryd.prog ops Q (o :: rest) a w := by
  refine wpList_plain hgd fun K hK' => ?_
  obtain ⟨a', cap', w', hrun, r1, r2, r3⟩ := run_appN (ty := o.type) h hsrc hl hB
  unfold Oper.wp
  simp [execOp, ho, resolve, invoke, builtin, hs, hx, hrun, Result.andThen]
  exact hK' _ _ (hK a' cap' w' r1 r2 r3)

end Go.Proofs.YtedlnjilgabelaaDoor

namespace Go.Proofs.YtedlnjilgabelaaDoor
open Go.RowKit

theorem infoP : (Tryd.prog.info? 32).map (fun i => (i.zero, i.size, i.bytes)) = some (some (.agg #[.int .i64 0, .int .i64 0]), 2, 16) := by kernel_rfl

/-- the slice v, wherever it lies, reads as the pairs es -/
def RdP (w : World) (v : Value) (es : List (Int × Int)) : Prop :=
  ∃ (a : Option Addr) (b off cap : Nat), v = .slice a es.length cap ∧ (0 < es.length → a = some ⟨b, off, none⟩ ∧ b < w.heap.size) ∧ es.length ≤ 9223372036854775807 ∧
    ∀ j, j < es.length → w.cell? ⟨b, off + j * 2, none⟩ = some (.int .i64 (es.getD j (0, 0)).1) ∧ w.cell? ⟨b, off + j * 2 + 1, none⟩ = some (.int .i64 (es.getD j (0, 0)).2)

theorem RdP.below {k : Nat} {w w' : World} {v : Value} {es : List (Int × Int)} (h : RdP w v es) (hb : Below k w w') (hk : w.heap.size ≤ k) : RdP w' v es := by
  obtain ⟨a, b, off, cap, e, h1, h3, h5⟩ := h
  refine ⟨a, b, off, cap, e, fun h => ⟨(h1 h).1, Nat.lt_of_lt_of_le (h1 h).2 hb.size⟩, h3, fun j hj => ?_⟩
  have hlt : b < k := Nat.lt_of_lt_of_le (h1 (by omega)).2 hk
  rw [hb.cell (p := ⟨b, off + j * 2, none⟩) hlt, hb.cell (p := ⟨b, off + j * 2 + 1, none⟩) hlt]
  exact h5 j hj

/-- the cells of pairs -/
def flatP (es : List (Int × Int)) : List Value := es.flatMap (fun e => [.int .i64 e.1, .int .i64 e.2])
theorem flatP_length (es : List (Int × Int)) : (flatP es).length = es.length * 2 := by
  induction es with
  | nil => rfl
  | cons e es ih => simp [flatP] at ih ⊢; omega
theorem flatP_at (es : List (Int × Int)) (k : Nat) (hk : k < es.length) : (flatP es)[k * 2]? = some (.int .i64 (es.getD k (0, 0)).1) ∧ (flatP es)[k * 2 + 1]? = some (.int .i64 (es.getD k (0, 0)).2) := by
  induction es generalizing k with
  | nil => simp at hk
  | cons e es ih =>
    cases k with
    | zero => simp [flatP]
    | succ k =>
      have := ih k (by simpa using hk)
      have e1 : flatP (e :: es) = .int .i64 e.1 :: .int .i64 e.2 :: flatP es := rfl
      rw [e1, show (k + 1) * 2 = k * 2 + 1 + 1 by omega]
      simpa using this

/-- the slice v is owned from block B on and reads as es -/
def PrS (B : Nat) (w : World) (v : Value) (es : List (Int × Int)) : Prop := w.ownsRow B 32 2 v es.length (flatP es)
theorem PrS.below {B k : Nat} {w w' : World} {v : Value} {es : List (Int × Int)} (h : PrS B w v es) (hb : Below k w w') (hk : w.heap.size ≤ k) : PrS B w' v es := by
  refine ⟨h.1, ?_⟩
  rcases h.2 with h2 | ⟨g, cap, cur, e, hB, hg, r⟩
  · exact .inl h2
  · refine .inr ⟨g, cap, cur, e, hB, ?_, r⟩
    rw [hb.block g (Nat.lt_of_lt_of_le (Array.getElem?_eq_some_iff.1 hg).1 hk)]
    exact hg
theorem PrS.rd {B : Nat} {w : World} {v : Value} {es : List (Int × Int)} (h : PrS B w v es) : RdP w v es := by
  have h' := h
  rcases h.2 with ⟨rfl, hn⟩ | ⟨g, cap, cur, rfl, hb, hg, hnc, hcm, hcs, htake⟩
  · have : es = [] := List.eq_nil_of_length_eq_zero hn
    subst this
    exact ⟨none, 0, 0, 0, rfl, fun h => by simp at h, by simp, fun j hj => by simp at hj⟩
  · refine ⟨some ⟨g, 0, none⟩, g, 0, cap, rfl, fun _ => ⟨rfl, (Array.getElem?_eq_some_iff.1 hg).1⟩, by unfold maxLen at hcm; omega, fun j hj => ?_⟩
    have e := flatP_at es j hj
    rw [Nat.zero_add, World.ownsRow.cellAt h' (j * 2) (by omega), World.ownsRow.cellAt h' (j * 2 + 1) (by omega)]
    exact e

/-- what a call answers whose result is pairs of its own -/
def RetPr (es : List (Int × Int)) (w : World) (e : Ending) (w' : World) : Prop :=
  ∃ a cap, e = .returned (.slice a es.length cap) ∧ PrS w.heap.size w' (.slice a es.length cap) es ∧ Below w.heap.size w w'

theorem flat_extP {xs : List Value} {es : List (Int × Int)} (hl : xs.length = es.length * 2) (h : ∀ j, j < es.length → xs[j * 2]? = some (.int .i64 (es.getD j (0, 0)).1) ∧ xs[j * 2 + 1]? = some (.int .i64 (es.getD j (0, 0)).2)) : xs = flatP es := by
  apply List.ext_getElem?
  intro i
  by_cases hi : i < es.length * 2
  · have e := flatP_at es (i / 2) (by omega)
    have e2 := h (i / 2) (by omega)
    rcases (show i = i / 2 * 2 ∨ i = i / 2 * 2 + 1 by omega) with hc | hc
    · rw [hc, e.1, e2.1]
    · rw [hc, e.2, e2.2]
  · rw [List.getElem?_eq_none (by omega), List.getElem?_eq_none (by rw [flatP_length]; omega)]

end Go.Proofs.YtedlnjilgabelaaDoor

namespace Go.Proofs.YtedlnjilgabelaaDoor
open Go.RowKit

theorem PrS.alloc {B : Nat} {w : World} {v : Value} {es : List (Int × Int)} (h : PrS B w v es) (o : Obj) : PrS B (w.alloc o) v es := World.ownsRow.alloc h o
theorem PrS.mono {B B' : Nat} {w : World} {v : Value} {es : List (Int × Int)} (h : PrS B w v es) (hB : B' ≤ B) : PrS B' w v es := by
  refine ⟨h.1, ?_⟩
  rcases h.2 with h2 | ⟨g, cap, cur, e, hb, r⟩
  · exact .inl h2
  · exact .inr ⟨g, cap, cur, e, Nat.le_trans hB hb, r⟩
theorem PrS.nil (B : Nat) (w : World) : PrS B w (.slice none 0 0) [] := World.ownsRow_nil w B _ 2
theorem PrS.lit' {B : Nat} {w : World} {H : Nat} (hB : B ≤ w.heap.size) (hH : w.heap.size = H) : PrS B (w.alloc (.cells #[] 32)) (.slice (some ⟨H, 0, none⟩) 0 0) [] := hH ▸ World.ownsRow_lit w #[] 0 hB (by unfold maxLen; omega) rfl
theorem flatP_append (es fs : List (Int × Int)) : flatP (es ++ fs) = flatP es ++ flatP fs := by simp [flatP]
/-- one pair that lies in a block of its own -/
def SrcP (w : World) (H : Nat) (p : Int) (l : Int) : Prop := w.cell? ⟨H, 0, none⟩ = some (.int .i64 p) ∧ w.cell? ⟨H, 1, none⟩ = some (.int .i64 l)

theorem run_appP {w : World} {ty : TypeId} {B : Nat} {v : Value} {es : List (Int × Int)} (h : PrS B w v es) {H : Nat} {p l : Int} (hs : SrcP w H p l) (hl : es.length ≤ 1000000) (hB : B ≤ w.heap.size) :
    ∃ a' cap' w', (Builtin.append_ #[29, 29] ty #[v, .slice (some ⟨H, 0, none⟩) 1 1]).run Tryd.prog w = .ok (.slice a' (es.length + 1) cap') w' ∧ PrS B w' (.slice a' (es.length + 1) cap') (es ++ [(p, l)]) ∧ Below B w w' ∧ w.grownBy w' v.ownBlock := by
  obtain ⟨i, hi, hz0, hz1, hz2⟩ := info_parts infoP
  obtain ⟨v', w', hr, hown, hg, _⟩ := run_append_own (P := Tryd.prog) w B 29 ty 32 i (.agg #[.int .i64 0, .int .i64 0]) 2 16 Tryd.underlying29 hi hz0 hz1 hz2 rfl (by decide) v es.length (flatP es) h
    ⟨H, 0, none⟩ 1 1 [.int .i64 p, .int .i64 l] rfl (fun j u hu => by
      match j, hu with
      | 0, hu => simp at hu; subst hu; rw [Addr.add_lit]; exact hs.1
      | 1, hu => simp at hu; subst hu; rw [Addr.add_lit]; exact hs.2
      | j + 2, hu => simp at hu) (by simp [Value.oneCell']) (by unfold maxLen; omega) (by omega) hB
  have hin : PrS B w' v' (es ++ [(p, l)]) := by
    unfold PrS
    rw [List.length_append, flatP_append]
    exact hown
  rcases hin.2 with ⟨_, e0⟩ | ⟨g, cap, cur, rfl, _⟩
  · simp at e0
  · rw [List.length_append] at hr hin
    exact ⟨some ⟨g, 0, none⟩, cap, w', hr, hin, (Below.refl _ _).grown hg hB (fun k hk => by
      rcases h.2 with ⟨rfl, _⟩ | ⟨g2, cap2, cur2, rfl, hB2, _⟩
      · cases hk
      · obtain rfl := Option.some.inj hk
        exact hB2), hg⟩

theorem wpList_appP {w : World} {ops : Array Oper} {rest : List Oper} {o : Oper} {a : Act} {Q : Exit → Act → World → Prop} (hgd : o.guard = none) (s x : Operand)
    (ho : o.op = Op.call { callee := Callee.builtin Builtin.append, args := #[s, x], argTypes := #[29, 29] })
    (B : Nat) (v : Value) (es : List (Int × Int)) (hs : a.eval s = v) (h : PrS B w v es) (H : Nat) (p : Int) (l : Int) (hx : a.eval x = .slice (some ⟨H, 0, none⟩) 1 1) (hsrc : SrcP w H p l) (hl : es.length ≤ 1000000) (hB : B ≤ w.heap.size)
    (hK : ∀ a' cap' w', PrS B w' (.slice a' (es.length + 1) cap') (es ++ [(p, l)]) → Below B w w' → w.grownBy w' v.ownBlock → wpList Tryd.prog ops Q rest (a.put o.dst (.slice a' (es.length + 1) cap')) w') : wpList Tryd.prog ops Q (o :: rest) a w := by
  refine wpList_plain hgd fun K hK' => ?_
  obtain ⟨a', cap', w', hrun, r1, r2, r3⟩ := run_appP (ty := o.type) h hsrc hl hB
  unfold Oper.wp
  simp [execOp, ho, resolve, invoke, builtin, hs, hx, hrun, Result.andThen]
  exact hK' _ _ (hK a' cap' w' r1 r2 r3)

theorem step_appP {w : World} {ops : Array Oper} {o : Oper} {a : Act} {K : Act → World → Prop} {Q : Exit → Act → World → Prop} {E : Prop} (hgd : o.guard = none) (s x : Operand)
    (ho : o.op = Op.call { callee := Callee.builtin Builtin.append, args := #[s, x], argTypes := #[29, 29] })
    (B : Nat) (v : Value) (es : List (Int × Int)) (hs : a.eval s = v) (h : PrS B w v es) (H : Nat) (p : Int) (l : Int) (hx : a.eval x = .slice (some ⟨H, 0, none⟩) 1 1) (hsrc : SrcP w H p l) (hl : es.length ≤ 1000000) (hB : B ≤ w.heap.size)
    (hK : ∀ a' cap' w', PrS B w' (.slice a' (es.length + 1) cap') (es ++ [(p, l)]) → Below B w w' → w.grownBy w' v.ownBlock → K (a.put o.dst (.slice a' (es.length + 1) cap')) w') : if Region.wanted o (yielded ops a.tmps) = true then Oper.wp Tryd.prog o a w K Q else E := by
  have hw : Region.wanted o (yielded ops a.tmps) = true := by simp [Region.wanted, hgd]
  rw [if_pos hw]
  obtain ⟨a', cap', w', hrun, r1, r2, r3⟩ := run_appP (ty := o.type) h hsrc hl hB
  unfold Oper.wp
  simp [execOp, ho, resolve, invoke, builtin, hs, hx, hrun, Result.andThen]
  exact hK a' cap' w' r1 r2 r3

end Go.Proofs.YtedlnjilgabelaaDoor

namespace Go.Proofs.YtedlnjilgabelaaDoor
open Go.RowKit

/-- the nodes of the sets ns, that of a set s in the block bl s -/
structure Nds (bl : Nat → Nat) (w : World) (v : Value) (ns : List Nat) (m : Nat) : Prop where
  row : RdN w v (ns.map bl)
  set : ∀ s ∈ ns, bl s < w.heap.size ∧ w.cell? ⟨bl s, 0, none⟩ = some (.int .i64 (s : Nat))
  near : ∀ s ∈ ns, ∃ nv, w.cell? ⟨bl s, 1, none⟩ = some nv ∧ RdN w nv ((nearTo ns s m).map bl)
  given : ∀ s ∈ ns, w.cell? ⟨bl s, 2, none⟩ = some (.slice none 0 0)

/-- the pairs of s with those of the first k of l that are more -/
def nrIn (l : List Nat) (s k : Nat) : List (Int × Int) := ((l.take k).filter (fun t => decide (s < t))).map (fun t => (((s : Nat) : Int), ((t : Nat) : Int)))
theorem nrIn_yes {l : List Nat} {s k : Nat} (hk : k < l.length) (h : s < l.getD k 0) : nrIn l s (k + 1) = nrIn l s k ++ [(((s : Nat) : Int), ((l.getD k 0 : Nat) : Int))] := by
  have e : l.getD k 0 = l[k] := by rw [List.getD_eq_getElem?_getD, List.getElem?_eq_getElem hk, Option.getD_some]
  rw [e] at h ⊢
  have h2 : decide (s < l[k]) = true := decide_eq_true h
  simp only [nrIn, List.take_succ_eq_append_getElem hk, List.filter_append, List.map_append, List.filter_cons, List.filter_nil, h2, ↓reduceIte, List.map_cons, List.map_nil]
theorem nrIn_no {l : List Nat} {s k : Nat} (hk : k < l.length) (h : ¬ s < l.getD k 0) : nrIn l s (k + 1) = nrIn l s k := by
  have e : l.getD k 0 = l[k] := by rw [List.getD_eq_getElem?_getD, List.getElem?_eq_getElem hk, Option.getD_some]
  rw [e] at h
  have h2 : decide (s < l[k]) = false := decide_eq_false h
  simp only [nrIn, List.take_succ_eq_append_getElem hk, List.filter_append, List.filter_cons, List.filter_nil, h2, Bool.false_eq_true, ↓reduceIte, List.append_nil]
theorem nrIn_len (l : List Nat) (s k : Nat) : (nrIn l s k).length ≤ k := by
  rw [nrIn, List.length_map]
  have := List.length_filter_le (fun t => decide (s < t)) (l.take k)
  rw [List.length_take] at this
  omega
theorem nrIn_eg {m : Nat} {ns : List Nat} (hc : Cls m ns) {i : Nat} (hi : i < ns.length) : nrIn (nearTo ns (ns.getD i 0) m) (ns.getD i 0) (nearTo ns (ns.getD i 0) m).length = egIn ns i ns.length := by
  rw [eg_near hc hi, nrIn, List.take_length]
theorem mapbl_getD {bl : Nat → Nat} {l : List Nat} {k : Nat} (h : k < l.length) : (l.map bl).getD k 0 = bl (l.getD k 0) := by
  rw [List.getD_eq_getElem?_getD, List.getD_eq_getElem?_getD, List.getElem?_map, List.getElem?_eq_getElem h]
  rfl

set_option maxHeartbeats 6400000 in
set_option maxRecDepth 100000 in
theorem implEdgesBy (n : Int) (v : Value) (zs : List Int) (w : World) (h : Rd w v zs)
    (HN : ∀ (m : Nat) (ns : List Nat) (v : Value) (w : World), Cls m ns → Rd w v (toI ns) → Calls Tryd.prog 16 #[.agg #[.int .i64 m, v]] w fun e w' => ∃ bl v', e = .returned v' ∧ Nds bl w' v' ns m ∧ Below w.heap.size w w') :
    Calls Tryd.prog 7 #[.agg #[.int .i64 n, v]] w (RetPr (egL n zs) w) := by
  have H := Lib.hid h
  obtain ⟨a, b, off, cap, rfl, h1, h3, h5⟩ := h
  by_cases hv : vldB n zs = true
  · obtain ⟨m, ns, rfl, rfl, hc⟩ := vldB_cls hv
    have hm := hc.pts
    rw [toI_length] at H h1 h3 h5 ⊢
    have HT := Lib.hid (egL_in hv)
    have HV := Lib.hid hv
    have HC := Lib.hid hc
    have hl := hc.length
    have HLen := Lib.hid (fun j => egTo_len (ns := ns) hl j)
    have HQ := Lib.hid (fun w h => HN m ns (.slice a ns.length cap) w hc h)
    clear hv hc h1 h5 HN
    go_enter Tryd.func7, Tryd.ntmps7
    go_wp2_with fail
    refine (implValid m _ (toI ns) _ (H.out.below (k := w.heap.size) (by go_grown) (Nat.le_refl _))).mono ?_
    rintro e w1 ⟨rfl, hb⟩
    rw [HV.out]
    have B1 := Lib.hid ((Box.made m (.slice a ns.length cap) w _).next (by simp) hb)
    have hs1 : w.heap.size < w1.heap.size := by have := hb.size; simp at this; omega
    clear hb
    have c0 := B1.out.at0
    have c1 := B1.out.at1
    go_wp2_with fail
    refine (HQ.out _ (H.out.below B1.out.below (Nat.le_refl _))).mono ?_
    rintro e w2 ⟨bl, v2, rfl, hnd, hb2⟩
    clear c0 c1
    have B2 := Lib.hid (B1.out.next hs1 hb2)
    have ND := Lib.hid hnd
    have hs2 : w.heap.size < w2.heap.size := by have := hb2.size; omega
    obtain ⟨na, nb, noff, ncap, rfl, hn1, _, hn3⟩ := hnd.row
    rw [List.length_map] at hn1 hn3 ⊢
    have HN1 := Lib.hid hn1
    have HN3 := Lib.hid hn3
    clear hb2 B1 hnd hn1 hn3
    go_wp2_with fail
    go_loopw [14, 3] (fun i o wr => ∃ (j : Nat) (a' : Option Addr) (c' : Nat), j ≤ ns.length ∧ i = .int .i64 j ∧ o = .slice a' (egTo ns j).length c' ∧ PrS w2.heap.size wr (.slice a' (egTo ns j).length c') (egTo ns j) ∧ Below w2.heap.size w2 wr) (fun i _ _ => ns.length - (intOf i).toNat)
    case atStart => exact ⟨0, none, 0, Nat.zero_le _, rfl, rfl, PrS.nil _ _, Below.refl _ _⟩
    case round =>
      obtain ⟨j, a', c', hj, rfl, rfl, hin, hbe⟩ := hrel
      have HIN := Lib.hid hin
      have HBE := Lib.hid hbe
      have hzr := hbe.size
      clear hin hbe
      by_cases hlt : j < ns.length
      · obtain ⟨rfl, hnl⟩ := HN1.out (by omega)
        have HS := Lib.hid ((egTo_succ ns j).trans (by rw [← nrIn_eg HC.out hlt]))
        have hel := HLen.out j
        have hsm : ns.getD j 0 ∈ ns := getD_of_lt hlt
        have hnl2 := near_len ns (ns.getD j 0) m
        have HNM := Lib.hid (fun t (ht : t ∈ nearTo ns (ns.getD j 0) m) => near_mem ht)
        have hp0 : wr.cell? ⟨nb, noff + j, none⟩ = some (.pointer (some ⟨bl (ns.getD j 0), 0, none⟩)) := (HBE.out.cell (p := ⟨nb, noff + j, none⟩) hnl).trans ((HN3.out j hlt).trans (by rw [mapbl_getD hlt]; rfl))
        obtain ⟨hxl, hx0⟩ := ND.out.set _ hsm
        obtain ⟨nv, hx1, hnr⟩ := ND.out.near _ hsm
        obtain ⟨ra, rb, roff, rcap, rfl, hr1, _, hr3⟩ := hnr
        rw [List.length_map] at hr1 hr3 hx1
        have HX0 := Lib.hid hx0
        have HR1 := Lib.hid hr1
        have HR3 := Lib.hid hr3
        have hx1r := (HBE.out.cell (p := ⟨bl (ns.getD j 0), 1, none⟩) hxl).trans hx1
        clear hx0 hr1 hr3 hx1 hsm
        have HMG := Lib.hid (fun k (hk : k < (nearTo ns (ns.getD j 0) m).length) => mapbl_getD (bl := bl) hk)
        generalize egTo ns j = E at *
        generalize nearTo ns (ns.getD j 0) m = l at *
        generalize ns.getD j 0 = x at *
        generalize bl x = X at *
        go_wp2_with fail
        clear hp0 hx1r
        go_loopw [23, 3] (fun i o wq => ∃ (k : Nat) (a' : Option Addr) (c' : Nat), k ≤ l.length ∧ i = .int .i64 k ∧ o = .slice a' (E ++ nrIn l x k).length c' ∧ PrS w2.heap.size wq (.slice a' (E ++ nrIn l x k).length c') (E ++ nrIn l x k) ∧ Below w2.heap.size w2 wq) (fun i _ _ => l.length - (intOf i).toNat)
        case atStart =>
          refine ⟨0, a', c', Nat.zero_le _, rfl, ?_, ?_, HBE.out⟩
          · rw [show nrIn l x 0 = [] from rfl, List.append_nil]
          · rw [show nrIn l x 0 = [] from rfl, List.append_nil]; exact HIN.out
        case round =>
          obtain ⟨k, a2, c2, hk, rfl, rfl, hin2, hbf⟩ := hrel
          have HIN2 := Lib.hid hin2
          have HBF := Lib.hid hbf
          have hzq := hbf.size
          clear hin2 hbf HIN
          by_cases hkl : k < l.length
          · obtain ⟨rfl, hrl⟩ := HR1.out (by omega)
            have hil := nrIn_len l x k
            have hcy : x < l.getD k 0 → E ++ nrIn l x (k + 1) = E ++ nrIn l x k ++ [((x : Int), ((l.getD k 0 : Nat) : Int))] := fun h => by rw [nrIn_yes hkl h, List.append_assoc]
            have hcn : ¬ x < l.getD k 0 → E ++ nrIn l x (k + 1) = E ++ nrIn l x k := fun h => by rw [nrIn_no hkl h]
            have hp0 : wr.cell? ⟨rb, roff + k, none⟩ = some (.pointer (some ⟨bl (l.getD k 0), 0, none⟩)) := (HBF.out.cell (p := ⟨rb, roff + k, none⟩) hrl).trans ((HR3.out k hkl).trans (by rw [HMG.out k hkl]; rfl))
            obtain ⟨hyl, hy0⟩ := ND.out.set _ (HNM.out _ (getD_of_lt hkl))
            have hcx := (HBF.out.cell (p := ⟨X, 0, none⟩) hxl).trans HX0.out
            have hcyy := (HBF.out.cell (p := ⟨bl (l.getD k 0), 0, none⟩) hyl).trans hy0
            have HLE := Lib.hid (show (E ++ nrIn l x k).length ≤ 1000000 by rw [List.length_append]; omega)
            clear hy0
            generalize E ++ nrIn l x k = F at *
            generalize l.getD k 0 = y at *
            generalize bl y = Y at *
            by_cases hxy : x < y
            · have hxyI : (x : Int) < (y : Int) := by omega
              have HCY := Lib.hid (hcy hxy)
              clear hcy hcn hxy
              go_wp2_with fail
              clear hp0
              go_region_held3 (fun w' => w'.cell? ⟨X, 0, none⟩ = some (.int .i64 (x : Int)) ∧ w'.cell? ⟨Y, 0, none⟩ = some (.int .i64 (y : Int))) (first | exact ⟨hcx, hcyy⟩ | go_keep) (fail)
              go_wp2_with fail
              go_region_law (first
                | (refine step_appP rfl (.tmp 36) (.tmp 46) rfl w2.heap.size _ F rfl (by exact HIN2.out.alloc _) _ (x : Int) (y : Int) rfl ⟨by simp only [cell_drew]; rw [World.cell?_alloc_at _ _ _ _ (by simp)]; rfl, by simp only [cell_drew]; rw [World.cell?_alloc_at _ _ _ _ (by simp)]; rfl⟩ (by exact HLE.out) (by simp; omega) ?_; intro a1 c1 w3 hin3 hb3 hg3; have H13 := Lib.hid (show Below w2.heap.size w2 w3 from Below.trans (by first | exact (HBF.out.alloc (by omega) _).drew.drew | exact (HBF.out.drew.drew).alloc (by first | omega | (simp; omega)) _) hb3); have I3 := Lib.hid hin3; clear hin3 hb3 hg3))
              all_goals
                go_wp2_with fail
                go_roundw
                case rel => exact ⟨k + 1, a1, c1, by omega, by go_num, by rw [HCY.out, List.length_append]; rfl, by rw [HCY.out, List.length_append]; exact I3.out, H13.out⟩
                case measure => simp [intOf]; omega
            · have hxyI : ¬ (x : Int) < (y : Int) := by omega
              have HCN := Lib.hid (hcn hxy)
              clear hcy hcn hxy
              go_wp2_with fail
              clear hp0
              go_region_held3 (fun w' => w'.cell? ⟨X, 0, none⟩ = some (.int .i64 (x : Int)) ∧ w'.cell? ⟨Y, 0, none⟩ = some (.int .i64 (y : Int))) (first | exact ⟨hcx, hcyy⟩ | go_keep) (fail)
              go_wp2_with fail
              go_roundw
              case rel => exact ⟨k + 1, a2, c2, by omega, by go_num, by rw [HCN.out], by rw [HCN.out]; exact HIN2.out, HBF.out.drew⟩
              case measure => simp [intOf]; omega
          · obtain rfl : k = l.length := by omega
            go_wp2_with fail
            go_roundw
            case rel => exact ⟨j + 1, a2, c2, by omega, by go_num, by rw [HS.out], by rw [HS.out]; exact HIN2.out, HBF.out⟩
            case measure => simp [intOf]; omega
      · obtain rfl : j = ns.length := by omega
        go_wp2_with fail
        go_ret
        rw [HT.out]
        exact ⟨a', c', rfl, HIN.out.mono (by omega), B2.out.below.trans (HBE.out.mono (by omega))⟩
  · rw [Bool.not_eq_true] at hv
    have HT := Lib.hid (egL_bad hv)
    have HV := Lib.hid hv
    clear hv HN
    have B0 := Lib.hid (Box.made n (.slice a zs.length cap) w 25)
    go_enter Tryd.func7, Tryd.ntmps7
    go_wp2_with fail
    refine (implValid n _ zs _ (H.out.below (k := w.heap.size) (by go_grown) (Nat.le_refl _))).mono ?_
    rintro e w1 ⟨rfl, hb⟩
    rw [HV.out]
    have B1 := Lib.hid (B0.out.next (by simp) hb)
    clear hb
    go_wp2_with fail
    go_ret
    rw [HT.out]
    exact ⟨none, 0, rfl, PrS.nil _ _, B1.out.below⟩

end Go.Proofs.YtedlnjilgabelaaDoor

namespace Go.Proofs.YtedlnjilgabelaaDoor
open Go.RowKit

/-- the block b holds the n values f -/
def Pb (w : World) (b n : Nat) (f : Nat → Value) (t : TypeId) : Prop := w.heap[b]? = some (.cells ((List.range n).map f).toArray t (0, 0))
theorem Pb.lt {w : World} {b n : Nat} {f : Nat → Value} {t : TypeId} (h : Pb w b n f t) : b < w.heap.size := (Array.getElem?_eq_some_iff.1 h).1
theorem Pb.keep {w w' : World} {b n : Nat} {f : Nat → Value} {t : TypeId} (h : Pb w b n f t) (e : w'.heap[b]? = w.heap[b]?) : Pb w' b n f t := e.trans h
theorem Pb.congr {w : World} {b n : Nat} {f g : Nat → Value} {t : TypeId} (h : Pb w b n f t) (e : ∀ j, j < n → f j = g j) : Pb w b n g t := by
  have : (List.range n).map g = (List.range n).map f := List.map_congr_left (fun j hj => (e j (List.mem_range.1 hj)).symm)
  unfold Pb
  rw [this]
  exact h
theorem Pb.cell {w : World} {b n : Nat} {f : Nat → Value} {t : TypeId} (h : Pb w b n f t) {j : Nat} (hj : j < n) : w.cell? ⟨b, j, none⟩ = some (f j) ∧ w.frozen? ⟨b, j, none⟩ = false := by
  refine ⟨?_, frozen_of_row w b j _ _ h⟩
  rw [cell_of_row w b j _ _ _ h]
  simp [hj]
theorem Pb.set {w : World} {b n : Nat} {f : Nat → Value} {t : TypeId} (h : Pb w b n f t) (j : Nat) (u : Value) : Pb (w.setCell ⟨b, j, none⟩ u) b n (fun y => if y = j then u else f y) t := by
  unfold Pb
  rw [heap_setCell_same w b j _ _ _ h]
  congr 2
  apply Array.ext_getElem?
  intro y
  rw [Array.getElem?_setIfInBounds]
  simp only [List.size_toArray, List.length_map, List.length_range, List.getElem?_toArray, List.getElem?_map]
  by_cases hy : y < n
  · by_cases e : j = y
    · subst e; simp [hy]
    · simp [e, hy, show ¬ y = j from fun h => e h.symm]
  · by_cases e : j = y
    · subst e; simp [hy]
    · simp [e, hy]
theorem Pb.other {w : World} {b n g j : Nat} {f : Nat → Value} {t : TypeId} (h : Pb w b n f t) (hne : b ≠ g) (u : Value) : Pb (w.setCell ⟨g, j, none⟩ u) b n f t :=
  h.keep (heap_setCell_other w ⟨g, j, none⟩ b u hne)
theorem Pb.alloc {w : World} {b n : Nat} {f : Nat → Value} {t : TypeId} (h : Pb w b n f t) (o : Obj) : Pb (w.alloc o) b n f t := h.keep (Below.heap_alloc w o b h.lt)
theorem Pb.rd {w : World} {b n : Nat} {f : Nat → Value} {t : TypeId} (h : Pb w b n f t) {bs : List Nat} (hn : bs.length = n) (hm : n ≤ 9223372036854775807) (hf : ∀ j, j < n → f j = ndp (bs.getD j 0)) : RdN w (.slice (some ⟨b, 0, none⟩) n n) bs := by
  subst hn
  exact ⟨_, b, 0, _, rfl, fun _ => ⟨rfl, h.lt⟩, hm, fun j hj => by rw [Nat.zero_add, (h.cell hj).1, hf j hj]⟩

/-- the block o holds the node of the set s with the neighbours v; none of its edges is given -/
def Nb (w : World) (o s : Nat) (v : Value) : Prop := w.heap[o]? = some (.cells #[.int .i64 (s : Nat), v, .slice none 0 0] 46 (0, 0))
theorem Nb.lt {w : World} {o s : Nat} {v : Value} (h : Nb w o s v) : o < w.heap.size := (Array.getElem?_eq_some_iff.1 h).1
theorem Nb.keep {w w' : World} {o s : Nat} {v : Value} (h : Nb w o s v) (e : w'.heap[o]? = w.heap[o]?) : Nb w' o s v := e.trans h
theorem Nb.at0 {w : World} {o s : Nat} {v : Value} (h : Nb w o s v) : w.cell? ⟨o, 0, none⟩ = some (.int .i64 (s : Nat)) := by rw [cell_of_row w o 0 _ _ _ h]; rfl
theorem Nb.at1 {w : World} {o s : Nat} {v : Value} (h : Nb w o s v) : w.cell? ⟨o, 1, none⟩ = some v := by rw [cell_of_row w o 1 _ _ _ h]; rfl
theorem Nb.at2 {w : World} {o s : Nat} {v : Value} (h : Nb w o s v) : w.cell? ⟨o, 2, none⟩ = some (.slice none 0 0) := by rw [cell_of_row w o 2 _ _ _ h]; rfl
theorem Nb.fr {w : World} {o s : Nat} {v : Value} (h : Nb w o s v) (j : Nat) : w.frozen? ⟨o, j, none⟩ = false := frozen_of_row w o j _ _ h
theorem Nb.other {w : World} {o s g j : Nat} {v : Value} (h : Nb w o s v) (hne : o ≠ g) (u : Value) : Nb (w.setCell ⟨g, j, none⟩ u) o s v := h.keep (heap_setCell_other w ⟨g, j, none⟩ o u hne)
theorem Nb.alloc {w : World} {o s : Nat} {v : Value} (h : Nb w o s v) (x : Obj) : Nb (w.alloc x) o s v := h.keep (Below.heap_alloc w x o h.lt)
theorem Nb.set {w : World} {o s : Nat} {v : Value} (h : Nb w o s v) (u : Value) : Nb (w.setCell ⟨o, 1, none⟩ u) o s u := by
  unfold Nb
  rw [heap_setCell_same w o 1 _ _ _ h]
  rfl

/-- the first k sets have their nodes -/
structure Made (w : World) (h nb H k : Nat) (ns : List Nat) (bl : Nat → Nat) : Prop where
  known : Pb w h 32 (fun s => if s ∈ ns.take k then ndp (bl s) else .pointer none) 54
  row : Pb w nb ns.length (fun j => if j < k then ndp (bl (ns.getD j 0)) else .pointer none) 44
  nd : ∀ s ∈ ns.take k, H ≤ bl s ∧ Nb w (bl s) s (.slice none 0 0)
  inj : ∀ s ∈ ns.take k, ∀ t ∈ ns.take k, bl s = bl t → s = t
  hlt : h < H
  nlt : nb < H
  hne : h ≠ nb
theorem Made.step {w : World} {h nb H k : Nat} {ns : List Nat} {bl : Nat → Nat} (M : Made w h nb H k ns bl) (hk : k < ns.length) (hH : H ≤ w.heap.size) (hasc : ns.Pairwise (· < ·)) (h32 : ns.getD k 0 < 32) :
    Made (((w.setCell ⟨nb, k, none⟩ (ndp w.heap.size)).setCell ⟨h, ns.getD k 0, none⟩ (ndp w.heap.size)).alloc (.cells #[.int .i64 (ns.getD k 0 : Nat), .slice none 0 0, .slice none 0 0] 46)) h nb H (k + 1) ns (fun t => if t = ns.getD k 0 then w.heap.size else bl t) := by
  have e : ns.take (k + 1) = ns.take k ++ [ns.getD k 0] := by
    rw [List.take_add_one, List.getElem?_eq_getElem hk, List.getD_eq_getElem?_getD, List.getElem?_eq_getElem hk]; rfl
  have hno : ns.getD k 0 ∉ ns.take k := by
    intro hm
    obtain ⟨j, hj, e2⟩ := List.getElem_of_mem hm
    rw [List.length_take] at hj
    rw [List.getElem_take, List.getD_eq_getElem?_getD, List.getElem?_eq_getElem hk, Option.getD_some] at e2
    have := List.pairwise_iff_getElem.1 hasc j k (by omega) hk (by omega)
    omega
  have hne : ∀ t ∈ ns.take k, t ≠ ns.getD k 0 := fun t ht e => hno (e ▸ ht)
  have hlt : ∀ t ∈ ns.take k, bl t < w.heap.size := fun t ht => (M.nd t ht).2.lt
  have hg : ∀ j, j < k → ns.getD j 0 ∈ ns.take k := fun j hj => by
    rw [List.getD_eq_getElem?_getD, List.getElem?_eq_getElem (show j < ns.length by omega), Option.getD_some, List.mem_take_iff_getElem]
    exact ⟨j, by omega, rfl⟩
  refine ⟨?_, ?_, ?_, ?_, M.hlt, M.nlt, M.hne⟩
  · refine (((M.known.other M.hne _).set _ _).alloc _).congr fun j hj => ?_
    rw [e]
    by_cases h1 : j = ns.getD k 0
    · subst h1; simp
    · have hiff : j ∈ ns.take k ++ [ns.getD k 0] ↔ j ∈ ns.take k := by rw [List.mem_append, List.mem_singleton]; exact or_iff_left h1
      simp only [hiff, if_neg h1]
  · refine (((M.row.set _ _).other (fun e => M.hne e.symm) _).alloc _).congr fun j hj => ?_
    by_cases h1 : j = k
    · subst h1; simp
    · by_cases h2 : j < k
      · rw [if_neg h1, if_pos h2, if_pos (by omega), if_neg (hne _ (hg j h2))]
      · rw [if_neg h1, if_neg h2, if_neg (by omega)]
  · intro s hs
    rw [e, List.mem_append, List.mem_singleton] at hs
    rcases hs with hs | hs
    · rw [if_neg (hne s hs)]
      have := M.nd s hs
      have h1 := M.hlt
      have h2 := M.nlt
      exact ⟨this.1, ((this.2.other (by omega) _).other (by omega) _).alloc _⟩
    · subst hs
      rw [if_pos rfl]
      have h1 := M.hlt
      have h2 := M.nlt
      exact ⟨hH, heap_alloc_at (by simp [World.setCell])⟩
  · intro s hs t ht
    rw [e, List.mem_append, List.mem_singleton] at hs ht
    rcases hs with hs | hs <;> rcases ht with ht | ht
    · rw [if_neg (hne s hs), if_neg (hne t ht)]; exact M.inj s hs t ht
    · subst ht
      rw [if_neg (hne s hs), if_pos rfl]
      intro e3
      have := hlt s hs
      omega
    · subst hs
      rw [if_neg (hne t ht), if_pos rfl]
      intro e3
      have := hlt t ht
      omega
    · subst hs; exact fun _ => ht.symm

/-- the first k nodes have their neighbours -/
structure Joined (w : World) (h nb H k m : Nat) (ns : List Nat) (bl : Nat → Nat) : Prop where
  known : Pb w h 32 (fun s => if s ∈ ns then ndp (bl s) else .pointer none) 54
  row : Pb w nb ns.length (fun j => ndp (bl (ns.getD j 0))) 44
  done : ∀ j, j < k → ∃ v, Nb w (bl (ns.getD j 0)) (ns.getD j 0) v ∧ RdN w v ((nearTo ns (ns.getD j 0) m).map bl)
  left : ∀ j, k ≤ j → j < ns.length → Nb w (bl (ns.getD j 0)) (ns.getD j 0) (.slice none 0 0)
  apart : ∀ s ∈ ns, H ≤ bl s
  inj : ∀ s ∈ ns, ∀ t ∈ ns, bl s = bl t → s = t
  hlt : h < H
  nlt : nb < H
theorem Made.joined {w : World} {h nb H m : Nat} {ns : List Nat} {bl : Nat → Nat} (M : Made w h nb H ns.length ns bl) : Joined w h nb H 0 m ns bl := by
  have e : ns.take ns.length = ns := List.take_length
  refine ⟨?_, M.row.congr (fun j hj => by rw [if_pos hj]), fun j hj => absurd hj (by omega), fun j _ hj => ?_, ?_, ?_, M.hlt, M.nlt⟩
  · have := M.known; rw [e] at this; exact this
  · exact (M.nd _ (by rw [e]; exact getD_of_lt hj)).2
  · exact fun s hs => (M.nd s (by rw [e]; exact hs)).1
  · exact fun s hs t ht => M.inj s (by rw [e]; exact hs) t (by rw [e]; exact ht)
theorem getD_inj {ns : List Nat} (hasc : ns.Pairwise (· < ·)) {i j : Nat} (hi : i < ns.length) (hj : j < ns.length) (e : ns.getD i 0 = ns.getD j 0) : i = j := by
  rw [List.getD_eq_getElem?_getD, List.getD_eq_getElem?_getD, List.getElem?_eq_getElem hi, List.getElem?_eq_getElem hj, Option.getD_some, Option.getD_some] at e
  have h1 := List.pairwise_iff_getElem.1 hasc
  rcases Nat.lt_trichotomy i j with h2 | h2 | h2
  · have := h1 i j hi hj h2; omega
  · exact h2
  · have := h1 j i hj hi h2; omega
theorem RdN.keep {w w' : World} {v : Value} {bs : List Nat} (h : RdN w v bs) (hs : w.heap.size ≤ w'.heap.size) {o : Nat} (hb : ∀ b, b < w.heap.size → b ≠ o → w'.heap[b]? = w.heap[b]?) (ho : ∀ b j, w.cell? ⟨o, j, none⟩ ≠ some (ndp b)) : RdN w' v bs := by
  obtain ⟨a, b, off, cap, e, h1, h2, h3⟩ := h
  refine ⟨a, b, off, cap, e, fun hp => ⟨(h1 hp).1, Nat.lt_of_lt_of_le (h1 hp).2 hs⟩, h2, fun j hj => ?_⟩
  have hlt := (h1 (by omega)).2
  have hne : b ≠ o := fun e => ho _ _ (e ▸ h3 j hj)
  have := h3 j hj
  unfold World.cell? at this ⊢
  rw [show w'.heap[(⟨b, off + j, none⟩ : Addr).block]? = w.heap[(⟨b, off + j, none⟩ : Addr).block]? from hb b hlt hne]
  exact this
/-- the k-th node gets its neighbours: whatever else lies there stays -/
theorem Joined.step {w w' : World} {h nb H k m : Nat} {ns : List Nat} {bl : Nat → Nat} (J : Joined w h nb H k m ns bl) (hk : k < ns.length) (hasc : ns.Pairwise (· < ·)) (hs : w.heap.size ≤ w'.heap.size)
    (hb : ∀ b, b < w.heap.size → b ≠ bl (ns.getD k 0) → w'.heap[b]? = w.heap[b]?) {v : Value} (hn : Nb w' (bl (ns.getD k 0)) (ns.getD k 0) v) (hr : RdN w' v ((nearTo ns (ns.getD k 0) m).map bl)) : Joined w' h nb H (k + 1) m ns bl := by
  have hm : ∀ {j : Nat}, j < ns.length → ns.getD j 0 ∈ ns := fun hj => getD_of_lt hj
  have hH := J.apart _ (hm hk)
  have h1 := J.hlt
  have h2 := J.nlt
  have hx : ∀ b j, w.cell? ⟨bl (ns.getD k 0), j, none⟩ ≠ some (ndp b) := by
    intro b j
    have h3 := J.left k (Nat.le_refl _) hk
    rw [cell_of_row w _ j _ _ _ h3]
    match j with
    | 0 => simp [ndp]
    | 1 => simp [ndp]
    | 2 => simp [ndp]
    | j + 3 => simp
  have hnb : ∀ j, j < ns.length → j ≠ k → bl (ns.getD j 0) ≠ bl (ns.getD k 0) := fun j hj hne e => hne (getD_inj hasc hj hk (J.inj _ (hm hj) _ (hm hk) e))
  refine ⟨J.known.keep (hb _ J.known.lt (by omega)), J.row.keep (hb _ J.row.lt (by omega)), fun j hj => ?_, fun j hj hjl => ?_, J.apart, J.inj, h1, h2⟩
  · by_cases e : j = k
    · subst e; exact ⟨v, hn, hr⟩
    · obtain ⟨u, h3, h4⟩ := J.done j (by omega)
      exact ⟨u, h3.keep (hb _ h3.lt (hnb j (by omega) e)), h4.keep hs hb hx⟩
  · have h3 := J.left j (by omega) hjl
    exact h3.keep (hb _ h3.lt (hnb j hjl (by omega)))
theorem Joined.nds {w : World} {h nb H m : Nat} {ns : List Nat} {bl : Nat → Nat} (J : Joined w h nb H ns.length m ns bl) (hl : ns.length ≤ 32) : Nds bl w (.slice (some ⟨nb, 0, none⟩) ns.length ns.length) ns m := by
  have hx : ∀ s ∈ ns, ∃ v, Nb w (bl s) s v ∧ RdN w v ((nearTo ns s m).map bl) := by
    intro s hs
    obtain ⟨j, hj, rfl⟩ := List.getElem_of_mem hs
    have := J.done j hj
    rw [List.getD_eq_getElem?_getD, List.getElem?_eq_getElem hj, Option.getD_some] at this
    exact this
  refine ⟨J.row.rd (by simp) (by omega) (fun j hj => by rw [mapbl_getD hj]), fun s hs => ?_, fun s hs => ?_, fun s hs => ?_⟩
  · obtain ⟨v, h1, _⟩ := hx s hs; exact ⟨h1.lt, h1.at0⟩
  · obtain ⟨v, h1, h2⟩ := hx s hs; exact ⟨v, h1.at1, h2⟩
  · obtain ⟨v, h1, _⟩ := hx s hs; exact h1.at2

end Go.Proofs.YtedlnjilgabelaaDoor

namespace Go.Proofs.YtedlnjilgabelaaDoor
open Go.RowKit

theorem Pb.of_made {B g n : Nat} {w : World} (h : w.ownsRow B 44 1 (.slice (some ⟨g, 0, none⟩) n n) n (madeCells (Value.pointer none).cells (n * 1)).toList) : Pb w g n (fun _ => .pointer none) 44 := by
  rcases h.2 with ⟨e, _⟩ | ⟨g', cap, cur, e, _, hg, _, _, hs, ht⟩
  · cases e
  · simp only [Value.slice.injEq, Option.some.injEq, Addr.mk.injEq, and_true, true_and] at e
    obtain ⟨rfl, rfl⟩ := e
    unfold Pb
    rw [hg]
    congr 2
    apply Array.toList_inj.1
    rw [List.take_of_length_le (by rw [Array.length_toList]; omega)] at ht
    rw [ht, show (madeCells (Value.pointer none).cells (n * 1)).toList = List.replicate n (.pointer none) by rw [Nat.mul_one]; exact toList_madeCells_one (.pointer none) n]
    simp [List.map_const']
theorem Pb.of_lit {w : World} : Pb (w.alloc (.cells #[.pointer none, .pointer none, .pointer none, .pointer none, .pointer none, .pointer none, .pointer none, .pointer none, .pointer none, .pointer none, .pointer none, .pointer none, .pointer none, .pointer none, .pointer none, .pointer none, .pointer none, .pointer none, .pointer none, .pointer none, .pointer none, .pointer none, .pointer none, .pointer none, .pointer none, .pointer none, .pointer none, .pointer none, .pointer none, .pointer none, .pointer none, .pointer none] 54)) w.heap.size 32 (fun _ => .pointer none) 54 := heap_alloc_new w _

theorem Below.drwN {B : Nat} {a w : World} (h : Below B a w) (n : Nat) : Below B a (w.drewN n) := ⟨h.os, h.tape, h.output, h.size, h.block⟩
theorem xor_at (x j : Nat) (hx : x < 32) (hj : j < 5) : x ^^^ 2 ^ j < 32 ∧ wrap64 ((2 : Int) ^ j) = ((2 ^ j : Nat) : Int) ∧ bits .xor .i64 (x : Int) ((2 ^ j : Nat) : Int) = ((x ^^^ 2 ^ j : Nat) : Int) := by
  have h2j : 2 ^ j < 32 := Nat.lt_of_lt_of_le (Nat.pow_lt_pow_right (by omega) hj) (Nat.le_refl _)
  generalize hp : 2 ^ j = p at *
  refine ⟨Nat.xor_lt_two_pow (n := 5) hx h2j, ?_, i64_xor x p (by omega) (by omega)⟩
  rw [← hp]
  exact (wrap_pow j (by omega)).1.trans (by simp)

set_option maxHeartbeats 6400000 in
set_option maxRecDepth 100000 in
theorem implNodesOf (m : Nat) (ns : List Nat) (v : Value) (w : World) (hc : Cls m ns) (h : Rd w v (toI ns)) : Calls Tryd.prog 16 #[.agg #[.int .i64 m, v]] w fun e w' => ∃ bl v', e = .returned v' ∧ Nds bl w' v' ns m ∧ Below w.heap.size w w' := by
  obtain ⟨a, b, off, cap, rfl, h1, h3, h5⟩ := h
  obtain ⟨i0, hi, hz0, hz1, hz2⟩ := info_parts infoN
  have Hz2 := Lib.hid hz2
  clear hz2
  rw [toI_length] at *
  have hm := hc.pts
  have hl := hc.length
  have HC := Lib.hid hc
  have H1 := Lib.hid h1
  have H5 := Lib.hid h5
  clear h1 h5 hc
  have X0 := Lib.hid (Bx.new m (.slice a ns.length cap) w)
  have Y0 := Lib.hid (show Below w.heap.size w (w.alloc (.cells #[.int .i64 m, .slice a ns.length cap] 25)) from (Below.refl _ _).alloc (Nat.le_refl _) _)
  go_enter Tryd.func16, Tryd.ntmps16
  go_upto_region 1 with (fail)
  have hs1 : w.heap.size < (w.alloc (.cells #[.int .i64 m, .slice a ns.length cap] 25)).heap.size := by simp
  generalize w.alloc (.cells #[.int .i64 m, .slice a ns.length cap] 25) = w1 at *
  go_upto_region 2 with (fail)
  have K2 := Lib.hid (Pb.of_lit (w := w1))
  have hs2 : w1.heap.size < (w1.alloc (.cells #[.pointer none, .pointer none, .pointer none, .pointer none, .pointer none, .pointer none, .pointer none, .pointer none, .pointer none, .pointer none, .pointer none, .pointer none, .pointer none, .pointer none, .pointer none, .pointer none, .pointer none, .pointer none, .pointer none, .pointer none, .pointer none, .pointer none, .pointer none, .pointer none, .pointer none, .pointer none, .pointer none, .pointer none, .pointer none, .pointer none, .pointer none, .pointer none] 54)).heap.size := by simp
  have X2 := Lib.hid (X0.out.alloc (.cells #[.pointer none, .pointer none, .pointer none, .pointer none, .pointer none, .pointer none, .pointer none, .pointer none, .pointer none, .pointer none, .pointer none, .pointer none, .pointer none, .pointer none, .pointer none, .pointer none, .pointer none, .pointer none, .pointer none, .pointer none, .pointer none, .pointer none, .pointer none, .pointer none, .pointer none, .pointer none, .pointer none, .pointer none, .pointer none, .pointer none, .pointer none, .pointer none] 54))
  have Y2 := Lib.hid (Y0.out.alloc (by omega) (.cells #[.pointer none, .pointer none, .pointer none, .pointer none, .pointer none, .pointer none, .pointer none, .pointer none, .pointer none, .pointer none, .pointer none, .pointer none, .pointer none, .pointer none, .pointer none, .pointer none, .pointer none, .pointer none, .pointer none, .pointer none, .pointer none, .pointer none, .pointer none, .pointer none, .pointer none, .pointer none, .pointer none, .pointer none, .pointer none, .pointer none, .pointer none, .pointer none] 54))
  clear X0 Y0
  generalize w1.alloc (.cells #[.pointer none, .pointer none, .pointer none, .pointer none, .pointer none, .pointer none, .pointer none, .pointer none, .pointer none, .pointer none, .pointer none, .pointer none, .pointer none, .pointer none, .pointer none, .pointer none, .pointer none, .pointer none, .pointer none, .pointer none, .pointer none, .pointer none, .pointer none, .pointer none, .pointer none, .pointer none, .pointer none, .pointer none, .pointer none, .pointer none, .pointer none, .pointer none] 54) = w2 at *
  have c1 := X2.out.out.at1
  go_wp2_with (at_make; refine wpList_make_full _ rfl _ _ 42 rfl w2.heap.size 44 i0 (.pointer none) 1 Tryd.underlying42 hi hz0 hz1 _ _ _ _ ns.length rfl rfl rfl rfl (by rw [Hz2.out]; omega) (by unfold maxLen; omega) (Nat.le_refl _) ?_; intro w4 hown hgrow; have hrow := Pb.of_made hown; have hb4 : Below w2.heap.size w2 w4 := (Below.refl _ _).grown hgrow (Nat.le_refl _) (fun k hk => by simp at hk); have hz4 := hb4.size; have X4 := Lib.hid (X2.out.next hb4 (by omega)); have d1 := X4.out.out.at1)
  clear hown hgrow hi hz0 hz1 c1 d1
  have hr4 := hrow.lt
  have K4 := Lib.hid (K2.out.keep (hb4.block _ (by omega)))
  have Y4 := Lib.hid (Y2.out.trans (hb4.mono (by omega)))
  have M4 := Lib.hid (show Made w4 w1.heap.size w2.heap.size w4.heap.size 0 ns (fun _ => 0) from ⟨K4.out.congr (fun j _ => by simp), hrow.congr (fun j _ => by simp), fun s hs => by simp at hs, fun s hs => by simp at hs, by omega, by omega, by omega⟩)
  clear hrow hb4 K4 K2 X2 Y2
  go_loopw [18] (fun i wr => ∃ (k : Nat) (bl : Nat → Nat), k ≤ ns.length ∧ i = .int .i64 k ∧ Made wr w1.heap.size w2.heap.size w4.heap.size k ns bl ∧ Below w.heap.size w wr ∧ Bx m (.slice a ns.length cap) w.heap.size wr ∧ w4.heap.size ≤ wr.heap.size) (fun i _ => ns.length - (intOf i).toNat)
  case atStart => exact ⟨0, fun _ => 0, Nat.zero_le _, rfl, M4.out, Y4.out, X4.out, Nat.le_refl _⟩
  case round =>
    obtain ⟨k, bl, hk, rfl, hmd, hbe, hbx, hsz⟩ := hrel
    have MD := Lib.hid hmd
    have BE := Lib.hid hbe
    have BX := Lib.hid hbx
    clear hmd hbe hbx
    by_cases hlt : k < ns.length
    · obtain ⟨rfl, hbl⟩ := H1.out (by omega)
      have hx := HC.out.lt32 _ (getD_of_lt hlt)
      have ST := Lib.hid (MD.out.step hlt hsz HC.out.asc hx)
      have hcx := (BE.out.cell (p := ⟨b, off + k, none⟩) hbl).trans (H5.out k hlt)
      rw [toI_getD] at hcx
      have hp := MD.out.row.cell hlt
      rw [if_neg (Nat.lt_irrefl k)] at hp
      obtain ⟨hp1, hp2⟩ := hp
      have hq := MD.out.known.cell hx
      obtain ⟨hq1, hq2⟩ := hq
      have hkl := MD.out.known.lt
      have hnl := MD.out.row.lt
      generalize (if ns.getD k 0 ∈ ns.take k then ndp (bl (ns.getD k 0)) else .pointer none) = q0 at hq1
      generalize ns.getD k 0 = x at *
      go_wp2_with fail
      go_roundw
      case rel =>
        refine ⟨k + 1, _, by omega, by go_num, ST.out, ?_, ?_, ?_⟩
        · exact ((BE.out.setCell (by show w.heap.size ≤ w2.heap.size; omega) _).setCell (by show w.heap.size ≤ w1.heap.size; omega) _).alloc (by simp; omega) _
        · exact ((BX.out.other (by omega) _).other (by omega) _).alloc _
        · simp; omega
      case measure => simp [intOf]; omega
    · obtain rfl : k = ns.length := by omega
      have J0 := Lib.hid (MD.out.joined (m := m))
      clear MD
      go_wp2_with fail
      go_loopw [38] (fun i wr => ∃ k : Nat, k ≤ ns.length ∧ i = .int .i64 k ∧ Joined wr w1.heap.size w2.heap.size w4.heap.size k m ns bl ∧ Below w.heap.size w wr ∧ Bx m (.slice a ns.length cap) w.heap.size wr) (fun i _ => ns.length - (intOf i).toNat)
      case atStart => exact ⟨0, Nat.zero_le _, rfl, J0.out, BE.out, BX.out⟩
      case round =>
        obtain ⟨k, hk, rfl, hj, hbe, hbx⟩ := hrel
        have JO := Lib.hid hj
        have BJ := Lib.hid hbe
        have BX2 := Lib.hid hbx
        clear hj hbe hbx
        by_cases hlt : k < ns.length
        · have hxm := getD_of_lt hlt
          have hx := HC.out.lt32 _ hxm
          have hxl := HC.out.lt _ hxm
          have ST := Lib.hid (fun w' v hs hb hn hr => JO.out.step (w' := w') hlt HC.out.asc hs hb (v := v) hn hr)
          have hp : wr.cell? ⟨w2.heap.size, k, none⟩ = some (.pointer (some ⟨bl (ns.getD k 0), 0, none⟩)) := (JO.out.row.cell hlt).1
          have hnb := JO.out.left k (Nat.le_refl _) hlt
          have NB := Lib.hid hnb
          have KN := Lib.hid JO.out.known
          have hkn := JO.out.known.lt
          have hap := JO.out.apart _ hxm
          have hhl := JO.out.hlt
          have hlo := hnb.lt
          have d0 := BX2.out.out.at0
          have BLE := Lib.hid (BJ.out)
          clear hnb hxm
          generalize ns.getD k 0 = x at *
          generalize hO : bl x = o at *
          clear hO
          obtain ⟨B0, hB0⟩ : ∃ B0, B0 = wr.heap.size := ⟨_, rfl⟩
          have HB0 := Lib.hid hB0
          have hoB : o < B0 := by omega
          have hkB : w1.heap.size < B0 := by omega
          clear hB0
          have KZ := Lib.hid (fun (wq : World) (hfr : ∀ b, b < B0 → b ≠ o → wq.heap[b]? = wr.heap[b]?) => KN.out.keep (hfr w1.heap.size hkB (by omega)))
          go_wp2_with fail
          clear hp
          go_loopw [44] (fun i wq => ∃ (j : Nat) (v : Value), j ≤ m ∧ i = .int .i64 j ∧ B0 ≤ wq.heap.size ∧ (∀ b, b < B0 → b ≠ o → wq.heap[b]? = wr.heap[b]?) ∧ Nb wq o x v ∧ NdS B0 wq v ((nearTo ns x j).map bl) ∧ Below w.heap.size w wq) (fun i _ => m - (intOf i).toNat)
          case atStart => exact ⟨0, _, Nat.zero_le _, rfl, Nat.le_of_eq HB0.out, fun _ _ _ => rfl, NB.out, NdS.nil _ _, BJ.out⟩
          case round =>
            obtain ⟨j, v, hj, rfl, hsq, hfr, hnq, hnd, hbq⟩ := hrel
            have FR := Lib.hid hfr
            have NQ := Lib.hid hnq
            have NDq := Lib.hid hnd
            have BQ := Lib.hid hbq
            have KQ := Lib.hid (KZ.out _ hfr)
            clear hfr hnq hnd hbq
            by_cases hjm : j < m
            · obtain ⟨hz, hwp, hxor⟩ := xor_at x j hx (by omega)
              have e0 := NQ.out.at0
              have hkz := (KQ.out.cell hz).1
              have hln := near_len ns x j
              by_cases hin : x ^^^ 2 ^ j ∈ ns
              · rw [if_pos hin] at hkz
                have NY := Lib.hid (show (nearTo ns x (j + 1)).map bl = (nearTo ns x j).map bl ++ [bl (x ^^^ 2 ^ j)] from (congrArg (List.map bl) (near_yes hin)).trans List.map_append)
                have HL := Lib.hid (show ((nearTo ns x j).map bl).length ≤ 1000000 by rw [List.length_map]; omega)
                clear hin hln
                generalize (nearTo ns x j).map bl = E at *
                generalize x ^^^ 2 ^ j = z at *
                generalize 2 ^ j = p at *
                have hzI : (z : Int) < 32 := by omega
                have hzP : (0 : Int) ≤ (z : Int) := by omega
                generalize bl z = Z at *
                have hkz2 : wr.cell? ⟨w1.heap.size, z, none⟩ = some (.pointer (some ⟨Z, 0, none⟩)) := hkz
                clear hkz
                go_wp2_with fail
                go_quiet (fail)
                clear e0 hkz2 hxor hwp
                have e1 := NQ.out.at1
                go_wp2_with (at_builtin; go_loud (refine wpList_appN rfl (.tmp 62) (.tmp 64) rfl B0 _ E rfl (by exact World.ownsRow.alloc NDq.out _) _ Z rfl (by rw [World.cell?_alloc_at _ _ _ _ (by simp)]; rfl) (by exact HL.out) (by simp; omega) ?_; intro a1 c1 w3 hin3 hb3 hg3; have H13 := Lib.hid (show Below B0 wr w3 from Below.trans ((show Below B0 wr (wr.drewN nq) from Below.drwN (Below.refl B0 wr) nq).alloc (by first | omega | (simp; omega)) _) hb3); have N3 := Lib.hid (NQ.out.keep (H13.out.block o hoB)); have f1 := N3.out.at1; have g1 := N3.out.fr 1; have I3 := Lib.hid hin3; clear hin3 hb3 hg3))
                go_roundw
                case rel =>
                  refine ⟨j + 1, _, by omega, by go_num, ?_, ?_, N3.out.set _, ?_, ?_⟩
                  · have := H13.out.size; simp [World.setCell]; omega
                  · exact fun b hb hne => (heap_setCell_other w3 ⟨o, 1, none⟩ b _ hne).trans ((H13.out.block b hb).trans (FR.out b hb hne))
                  · rw [NY.out]; exact ownsRow_setCell_below (a := ⟨o, 1, none⟩) I3.out hoB _
                  · exact (BQ.out.trans (H13.out.mono (by omega))).setCell (by show w.heap.size ≤ o; omega) _
                case measure => simp [intOf]; omega
              · rw [if_neg hin] at hkz
                have NN := Lib.hid (congrArg (List.map bl) (near_no hin))
                clear hin hln
                generalize (nearTo ns x j).map bl = E at *
                generalize x ^^^ 2 ^ j = z at *
                generalize 2 ^ j = p at *
                have hzI : (z : Int) < 32 := by omega
                have hzP : (0 : Int) ≤ (z : Int) := by omega
                go_wp2_with fail
                go_quiet (fail)
                clear e0 hkz hxor hwp
                go_wp2_with fail
                go_roundw
                case rel => exact ⟨j + 1, v, by omega, by go_num, hsq, FR.out, NQ.out, by rw [NN.out]; exact NDq.out, Below.drwN BQ.out nq⟩
                case measure => simp [intOf]; omega
            · obtain rfl : j = m := by omega
              have S2 := Lib.hid (ST.out _ v (by have := HB0.out; omega) (fun b hb => FR.out b (by have := HB0.out; omega)) NQ.out NDq.out.rd)
              go_wp2_with fail
              go_roundw
              case rel => exact ⟨k + 1, by omega, by go_num, S2.out, BQ.out, (FR.out w.heap.size (by omega) (by omega)).trans BX2.out⟩
              case measure => simp [intOf]; omega
        · obtain rfl : k = ns.length := by omega
          have ND := Lib.hid (JO.out.nds hl)
          go_wp2_with fail
          go_ret
          exact ⟨bl, _, rfl, ND.out, BJ.out⟩

end Go.Proofs.YtedlnjilgabelaaDoor

namespace Go.Proofs.YtedlnjilgabelaaDoor
open Go.RowKit

theorem implEdgesOf (n : Int) (v : Value) (zs : List Int) (w : World) (h : Rd w v zs) : Calls Tryd.prog 7 #[.agg #[.int .i64 n, v]] w (RetPr (egL n zs) w) :=
  implEdgesBy n v zs w h (fun m ns v w hc h => implNodesOf m ns v w hc h)

end Go.Proofs.YtedlnjilgabelaaDoor
