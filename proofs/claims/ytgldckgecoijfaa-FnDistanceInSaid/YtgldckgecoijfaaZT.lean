/- The number of edges: by the last point, by any point, summed over the points; no more than the dimension times the sets; no fewer where a point is shifted. No program. A shift shatters no more, has no fewer strong sets and no fewer edges. No program. CubesOf, the program's. Conditions: Sets is a slice of ints. CubesOf, the model's. Conditions: Sets is a slice of ints. EulerOf, the program's and the model's. Conditions: Sets is a slice of ints. CubeCounts, the program's and the model's. Conditions: Sets is a slice of ints. The counts of cubes: how many sets, how many edges, how many in all, and in turns. No program. Euler's number of a class: by the last point, of extremal classes 1, of flipped ones the same. No program. -/
import Derived.Deep.Cut
import Derived.Test.YtgldckgecoijfaaAppP
import Derived.Test.YtgldckgecoijfaaCubM
import Derived.Test.YtgldckgecoijfaaEdgN
import Derived.Test.YtgldckgecoijfaaIsStrS
import Derived.Test.YtgldckgecoijfaaPaj4
import Derived.Test.YtgldckgecoijfaaZA
import Derived.Test.YtgldckgecoijfaaZB
import Derived.Test.YtgldckgecoijfaaZC
import Derived.Test.YtgldckgecoijfaaZD
import Derived.Test.YtgldckgecoijfaaZH
namespace Go.Proofs.Ytgldckgecoijfaa
open Go.RowKit

/-- the number of edges -/
def eF : Nat → (Nat → Bool) → Nat
  | 0, _ => 0
  | n + 1, f => eF n f + eF n (up n f) + cnt n (andF f (up n f))
theorem eF_congr {n : Nat} {f g : Nat → Bool} (h : ∀ s, s < 2 ^ n → f s = g s) : eF n f = eF n g := by
  induction n generalizing f g with
  | zero => rfl
  | succ n ih =>
    have h1 : ∀ s, s < 2 ^ n → f s = g s := fun s hs => h s (by rw [Nat.pow_succ]; omega)
    have h2 : ∀ s, s < 2 ^ n → up n f s = up n g s := fun s hs => h (s + 2 ^ n) (by rw [Nat.pow_succ]; omega)
    rw [eF, eF, ih h1, ih h2, cnt_congr (f := andF f (up n f)) (g := andF g (up n g)) (fun s hs => by simp only [andF]; rw [h1 s hs, h2 s hs])]
theorem eF_sup (n : Nat) (f g : Nat → Bool) : eF n f + eF n g ≤ eF n (orF f g) + eF n (andF f g) := by
  induction n generalizing f g with
  | zero => simp [eF]
  | succ n ih =>
    have h1 := ih f g
    have h2 := ih (up n f) (up n g)
    have h3 := cnt_or_and n (andF f (up n f)) (andF g (up n g))
    have h4 : cnt n (orF (andF f (up n f)) (andF g (up n g))) ≤ cnt n (andF (orF f g) (up n (orF f g))) := cnt_mono (fun s _ hs => by
      simp only [orF, andF, up, Bool.or_eq_true, Bool.and_eq_true] at hs ⊢
      rcases hs with hs | hs
      · exact ⟨.inl hs.1, .inl hs.2⟩
      · exact ⟨.inr hs.1, .inr hs.2⟩)
    have h5 : cnt n (andF (andF f (up n f)) (andF g (up n g))) = cnt n (andF (andF f g) (up n (andF f g))) := cnt_congr (fun s _ => by
      simp only [andF, up]
      cases f s <;> cases g s <;> simp)
    show eF n f + eF n (up n f) + cnt n (andF f (up n f)) + (eF n g + eF n (up n g) + cnt n (andF g (up n g))) ≤ eF n (orF f g) + eF n (orF (up n f) (up n g)) + cnt n (andF (orF f g) (up n (orF f g))) + (eF n (andF f g) + eF n (andF (up n f) (up n g)) + cnt n (andF (andF f g) (up n (andF f g))))
    omega
theorem pc_up {n s : Nat} (hn : n < 5) (hs : s < 2 ^ n) : pc (s + 2 ^ n) = pc s + 1 := by
  have key : ∀ n : Fin 5, ∀ s : Fin 16, (s : Nat) < 2 ^ (n : Nat) → pc ((s : Nat) + 2 ^ (n : Nat)) = pc (s : Nat) + 1 := by decide +kernel
  have h16 := sixteen hn
  exact key ⟨n, hn⟩ ⟨s, by omega⟩ hs
theorem shF_zero {n : Nat} {f : Nat → Bool} (h : cnt n f ≠ 0) : shF n f 0 = true := by
  induction n generalizing f with
  | zero =>
    rw [cnt] at h
    rw [shF]
    cases h0 : f 0 with
    | true => rfl
    | false => rw [h0] at h; simp at h
  | succ n ih =>
    rw [shF, if_pos (Nat.two_pow_pos n)]
    apply ih
    rw [cnt] at h
    have h1 := cnt_or_and n f (up n f)
    have h2 : cnt n (andF f (up n f)) ≤ cnt n (orF f (up n f)) := cnt_mono (fun s _ hs => by
      simp only [orF, andF, Bool.or_eq_true, Bool.and_eq_true] at hs ⊢
      exact .inl hs.1)
    omega
/-- no more edges than the dimension times the sets -/
theorem eF_le {n : Nat} (hn : n ≤ 5) (f : Nat → Bool) (d : Nat) (h : ∀ s, s < 2 ^ n → shF n f s = true → pc s ≤ d) : eF n f ≤ d * cnt n f := by
  induction n generalizing f d with
  | zero => simp [eF]
  | succ n ih =>
    have hp : 2 ^ (n + 1) = 2 ^ n + 2 ^ n := by rw [Nat.pow_succ]; omega
    have hor := ih (by omega) (orF f (up n f)) d (fun s hs hh => h s (by omega) (by rw [shF, if_pos hs]; exact hh))
    have hsum := cnt_or_and n f (up n f)
    have hsup := eF_sup n f (up n f)
    have hand : ∀ s, s < 2 ^ n → shF n (andF f (up n f)) s = true → pc s + 1 ≤ d := fun s hs hh => by
      have h1 := shF_and n f (up n f) s hh
      have h2 := h (s + 2 ^ n) (by omega) (by rw [shF, if_neg (by omega), Nat.add_sub_cancel, h1.1, h1.2]; rfl)
      rw [pc_up (by omega) hs] at h2
      exact h2
    rw [eF, cnt, ← hsum]
    by_cases hz : cnt n (andF f (up n f)) = 0
    · have h3 := ih (by omega) (andF f (up n f)) d (fun s hs hh => by have := hand s hs hh; omega)
      rw [hz] at h3 ⊢
      rw [Nat.mul_zero] at h3
      simp only [Nat.add_zero]
      omega
    · have h0 := hand 0 (Nat.two_pow_pos n) (shF_zero hz)
      obtain ⟨e, rfl⟩ : ∃ e, d = e + 1 := ⟨d - 1, by omega⟩
      have h3 := ih (by omega) (andF f (up n f)) e (fun s hs hh => by have := hand s hs hh; omega)
      have e1 : (e + 1) * (cnt n (orF f (up n f)) + cnt n (andF f (up n f))) = (e + 1) * cnt n (orF f (up n f)) + (e * cnt n (andF f (up n f)) + cnt n (andF f (up n f))) := by rw [Nat.mul_add, Nat.succ_mul e (cnt n (andF f (up n f)))]
      omega

/-- the sets that have an edge at the point y -/
def eY (y : Nat) (f : Nat → Bool) : Nat → Bool := fun s => f s && (!hasX y s && f (s + 2 ^ y))
theorem sum_add {α : Type} (l : List α) (f g : α → Nat) : (l.map (fun y => f y + g y)).sum = (l.map f).sum + (l.map g).sum := by
  induction l with
  | nil => rfl
  | cons a l ih => simp only [List.map_cons, List.sum_cons, ih]; omega
theorem sum_if {α : Type} (l : List α) (p : α → Bool) : (l.map (fun y => if p y = true then 1 else 0)).sum = l.countP p := by
  induction l with
  | nil => rfl
  | cons a l ih => simp only [List.map_cons, List.sum_cons, List.countP_cons, ih]; omega
theorem sum_swap {α β : Type} (l : List α) (r : List β) (q : α → β → Bool) : (l.map (fun s => r.countP (q s))).sum = (r.map (fun y => l.countP (fun s => q s y))).sum := by
  induction l with
  | nil =>
    simp only [List.map_nil, List.sum_nil, List.countP_nil]
    induction r with
    | nil => rfl
    | cons b r ih => simp only [List.map_cons, List.sum_cons, ← ih, Nat.add_zero]
  | cons a l ih =>
    simp only [List.map_cons, List.sum_cons, List.countP_cons, ih]
    rw [sum_add, sum_if]
    omega
theorem has_high {n y s : Nat} (hn : n < 5) (hy : y < n) (hs : s < 2 ^ n) : hasX y (s + 2 ^ n) = hasX y s := by
  have key : ∀ n : Fin 5, ∀ y : Fin 5, ∀ s : Fin 16, (y : Nat) < (n : Nat) → (s : Nat) < 2 ^ (n : Nat) → hasX (y : Nat) ((s : Nat) + 2 ^ (n : Nat)) = hasX (y : Nat) (s : Nat) := by decide +kernel
  have h16 := sixteen hn
  exact key ⟨n, hn⟩ ⟨y, by omega⟩ ⟨s, by omega⟩ hy hs
theorem has_last {n s : Nat} (hn : n < 5) (hs : s < 2 ^ n) : hasX n s = false ∧ hasX n (s + 2 ^ n) = true := by
  have key : ∀ n : Fin 5, ∀ s : Fin 16, (s : Nat) < 2 ^ (n : Nat) → hasX (n : Nat) (s : Nat) = false ∧ hasX (n : Nat) ((s : Nat) + 2 ^ (n : Nat)) = true := by decide +kernel
  have h16 := sixteen hn
  exact key ⟨n, hn⟩ ⟨s, by omega⟩ hs
theorem eF_sum {n : Nat} (hn : n ≤ 5) (f : Nat → Bool) : eF n f = ((List.range n).map (fun y => cnt n (eY y f))).sum := by
  induction n generalizing f with
  | zero => rfl
  | succ n ih =>
    rw [eF, ih (by omega) f, ih (by omega) (up n f), List.range_succ, List.map_append, List.sum_append, ← sum_add]
    have e1 : (List.range n).map (fun y => cnt (n + 1) (eY y f)) = (List.range n).map (fun y => cnt n (eY y f) + cnt n (eY y (up n f))) := List.map_congr_left (fun y hy => by
      rw [List.mem_range] at hy
      rw [cnt]
      congr 1
      apply cnt_congr
      intro s hs
      simp only [up, eY]
      rw [has_high (by omega) hy hs, Nat.add_right_comm])
    have e2 : cnt (n + 1) (eY n f) = cnt n (andF f (up n f)) := by
      rw [cnt, cnt_congr (f := eY n f) (g := andF f (up n f)) (fun s hs => by simp only [eY, andF, up]; rw [(has_last (by omega) hs).1]; rfl), cnt_congr (f := up n (eY n f)) (g := fun _ => false) (fun s hs => by simp only [eY, up]; rw [(has_last (by omega) hs).2]; simp), cnt_none, Nat.add_zero]
    rw [e1, List.map_cons, List.map_nil, List.sum_cons, List.sum_nil, Nat.add_zero, e2]
theorem xor_has {y s : Nat} (hy : y < 5) (hs : s < 32) : (hasX y s = false → s ^^^ 2 ^ y = s + 2 ^ y) ∧ (hasX y s = true → ¬ s < s ^^^ 2 ^ y) := by
  have key : ∀ y : Fin 5, ∀ s : Fin 32, (hasX (y : Nat) (s : Nat) = false → (s : Nat) ^^^ 2 ^ (y : Nat) = (s : Nat) + 2 ^ (y : Nat)) ∧ (hasX (y : Nat) (s : Nat) = true → ¬ (s : Nat) < (s : Nat) ^^^ 2 ^ (y : Nat)) := by decide +kernel
  exact key ⟨y, hy⟩ ⟨s, hs⟩
theorem range_getD (l : List Nat) : (List.range l.length).map (fun i => l.getD i 0) = l := by
  apply List.ext_getElem
  · simp
  · intro i h1 h2
    rw [List.getElem_map, List.getElem_range, List.getD_eq_getElem?_getD, List.getElem?_eq_getElem h2]
    rfl
theorem many_cnt {m : Nat} {ns : List Nat} (h : Cls m ns) (p : Nat → Bool) : ns.countP p = cnt m (fun s => inF ns s && p s) := by
  have h1 : ns.countP p = ((List.range (2 ^ m)).filter (inF ns)).countP p := by rw [h.self]
  rw [h1, List.countP_eq_length_filter, List.filter_filter, cnt_filter]
  exact cnt_congr (fun s _ => Bool.and_comm _ _)
/-- the number of edges, as a list -/
theorem eg_count {m : Nat} {ns : List Nat} (hc : Cls m ns) : (egTo ns ns.length).length = eF m (inF ns) := by
  have hm := hc.pts
  rw [egTo, List.length_flatMap, eF_sum hm]
  have e1 : (List.range ns.length).map (fun i => (egIn ns i ns.length).length) = (List.range ns.length).map (fun i => (fun s => (List.range m).countP (fun y => decide (s ^^^ 2 ^ y ∈ ns) && decide (s < s ^^^ 2 ^ y))) (ns.getD i 0)) := List.map_congr_left (fun i hi => by
    rw [List.mem_range] at hi
    rw [eg_near hc hi, List.length_map, ← List.countP_eq_length_filter, nearTo, List.countP_filter, List.countP_map]
    apply List.countP_congr
    intro y _
    simp only [Function.comp_apply, Bool.and_eq_true, decide_eq_true_eq]
    exact And.comm)
  rw [e1, show (List.range ns.length).map (fun i => (fun s => (List.range m).countP (fun y => decide (s ^^^ 2 ^ y ∈ ns) && decide (s < s ^^^ 2 ^ y))) (ns.getD i 0)) = ns.map (fun s => (List.range m).countP (fun y => decide (s ^^^ 2 ^ y ∈ ns) && decide (s < s ^^^ 2 ^ y))) by
    have h9 : ∀ g : Nat → Nat, (List.range ns.length).map (fun i => g (ns.getD i 0)) = ns.map g := fun g => by
      have h8 := congrArg (List.map g) (range_getD ns)
      rw [List.map_map] at h8
      exact h8
    exact h9 (fun s => (List.range m).countP (fun y => decide (s ^^^ 2 ^ y ∈ ns) && decide (s < s ^^^ 2 ^ y))), sum_swap]
  congr 1
  apply List.map_congr_left
  intro y hy
  rw [List.mem_range] at hy
  rw [many_cnt hc]
  apply cnt_congr
  intro s hs
  have h32 := pow_le_32 hm
  obtain ⟨x1, x2⟩ := xor_has (y := y) (s := s) (by omega) (by omega)
  simp only [eY]
  congr 1
  have hp := Nat.two_pow_pos y
  cases hh : hasX y s with
  | false =>
    rw [x1 hh, show decide (s < s + 2 ^ y) = true from decide_eq_true (by omega)]
    simp [inF]
  | true =>
    rw [show decide (s < s ^^^ 2 ^ y) = false from decide_eq_false (x2 hh)]
    simp

/-- the sets without x, the sets with x -/
def dnX (x : Nat) (f : Nat → Bool) : Nat → Bool := fun t => f (ins x t)
def upX (x : Nat) (f : Nat → Bool) : Nat → Bool := fun t => f (ins x t + 2 ^ x)
theorem cnt_ins' {n x : Nat} (hn : n < 5) (hx : x ≤ n) (f : Nat → Bool) : cnt (n + 1) f = cnt n (dnX x f) + cnt n (upX x f) := cnt_ins hn hx f
theorem dn_up {n x : Nat} (hn : n < 4) (hx : x ≤ n) (f : Nat → Bool) : ∀ t, t < 2 ^ n → up n (dnX x f) t = dnX x (up (n + 1) f) t ∧ up n (upX x f) t = upX x (up (n + 1) f) t := fun t ht => by
  simp only [up, dnX, upX]
  rw [ins_up hn hx ht]
  exact ⟨rfl, by rw [Nat.add_right_comm]⟩
theorem dn_top {n : Nat} (f : Nat → Bool) : ∀ t, t < 2 ^ n → dnX n f t = f t ∧ upX n f t = up n f t := fun t ht => by
  simp only [up, dnX, upX]
  rw [ins_top ht]
  exact ⟨rfl, rfl⟩
theorem eF_ins {n x : Nat} (hn : n < 5) (hx : x ≤ n) (f : Nat → Bool) : eF (n + 1) f = eF n (dnX x f) + eF n (upX x f) + cnt n (andF (dnX x f) (upX x f)) := by
  induction n generalizing x f with
  | zero =>
    obtain rfl : x = 0 := by omega
    rfl
  | succ n ih =>
    by_cases e : x = n + 1
    · subst e
      have h1 := dn_top (n := n + 1) f
      rw [eF, eF_congr (f := dnX (n + 1) f) (fun t ht => (h1 t ht).1), eF_congr (f := upX (n + 1) f) (fun t ht => (h1 t ht).2), cnt_congr (f := andF (dnX (n + 1) f) (upX (n + 1) f)) (g := andF f (up (n + 1) f)) (fun t ht => by simp only [andF]; rw [(h1 t ht).1, (h1 t ht).2])]
    · have hx2 : x ≤ n := by omega
      have hd := dn_up (n := n) (x := x) (by omega) hx2 f
      rw [eF, ih (by omega) hx2 f, ih (by omega) hx2 (up (n + 1) f), cnt_ins' (by omega) hx2]
      rw [show eF (n + 1) (dnX x f) = eF n (dnX x f) + eF n (up n (dnX x f)) + cnt n (andF (dnX x f) (up n (dnX x f))) from rfl, show eF (n + 1) (upX x f) = eF n (upX x f) + eF n (up n (upX x f)) + cnt n (andF (upX x f) (up n (upX x f))) from rfl]
      rw [eF_congr (f := up n (dnX x f)) (fun t ht => (hd t ht).1), eF_congr (f := up n (upX x f)) (fun t ht => (hd t ht).2)]
      rw [show cnt (n + 1) (andF (dnX x f) (upX x f)) = cnt n (andF (dnX x f) (upX x f)) + cnt n (andF (up n (dnX x f)) (up n (upX x f))) from rfl]
      rw [cnt_congr (f := andF (up n (dnX x f)) (up n (upX x f))) (g := andF (dnX x (up (n + 1) f)) (upX x (up (n + 1) f))) (fun t ht => by simp only [andF]; rw [(hd t ht).1, (hd t ht).2])]
      rw [cnt_congr (f := andF (dnX x f) (up n (dnX x f))) (g := dnX x (andF f (up (n + 1) f))) (fun t ht => by simp only [andF]; rw [(hd t ht).1]; rfl)]
      rw [cnt_congr (f := andF (upX x f) (up n (upX x f))) (g := upX x (andF f (up (n + 1) f))) (fun t ht => by simp only [andF]; rw [(hd t ht).2]; rfl)]
      omega

end Go.Proofs.Ytgldckgecoijfaa

namespace Go.Proofs.Ytgldckgecoijfaa
open Go.RowKit

theorem sF_ins {n x : Nat} (hn : n < 5) (hx : x ≤ n) (f : Nat → Bool) {s : Nat} (hs : s < 2 ^ n) :
    shF (n + 1) f (ins x s) = shF n (orF (dnX x f) (upX x f)) s ∧ shF (n + 1) f (ins x s + 2 ^ x) = (shF n (dnX x f) s && shF n (upX x f) s) ∧
    stF (n + 1) f (ins x s) = (stF n (dnX x f) s || stF n (upX x f) s) ∧ stF (n + 1) f (ins x s + 2 ^ x) = stF n (andF (dnX x f) (upX x f)) s := by
  induction n generalizing x f s with
  | zero =>
    obtain rfl : x = 0 := by omega
    obtain rfl : s = 0 := by simp at hs; omega
    exact ⟨rfl, rfl, rfl, rfl⟩
  | succ n ih =>
    have hp : 2 ^ (n + 1) = 2 ^ n + 2 ^ n := by rw [Nat.pow_succ]; omega
    by_cases e : x = n + 1
    · subst e
      have h1 := dn_top (n := n + 1) f
      rw [ins_top hs, show shF (n + 1 + 1) f s = shF (n + 1) (orF f (up (n + 1) f)) s by rw [shF, if_pos hs], show shF (n + 1 + 1) f (s + 2 ^ (n + 1)) = (shF (n + 1) f s && shF (n + 1) (up (n + 1) f) s) by rw [shF, if_neg (by omega), Nat.add_sub_cancel], show stF (n + 1 + 1) f s = (stF (n + 1) f s || stF (n + 1) (up (n + 1) f) s) by rw [stF, if_pos hs], show stF (n + 1 + 1) f (s + 2 ^ (n + 1)) = stF (n + 1) (andF f (up (n + 1) f)) s by rw [stF, if_neg (by omega), Nat.add_sub_cancel]]
      rw [shF_congr (f := orF (dnX (n + 1) f) (upX (n + 1) f)) (g := orF f (up (n + 1) f)) (fun t ht => by simp only [orF]; rw [(h1 t ht).1, (h1 t ht).2]), shF_congr (f := dnX (n + 1) f) (fun t ht => (h1 t ht).1), shF_congr (f := upX (n + 1) f) (fun t ht => (h1 t ht).2), stF_congr (f := dnX (n + 1) f) (fun t ht => (h1 t ht).1), stF_congr (f := upX (n + 1) f) (fun t ht => (h1 t ht).2), stF_congr (f := andF (dnX (n + 1) f) (upX (n + 1) f)) (g := andF f (up (n + 1) f)) (fun t ht => by simp only [andF]; rw [(h1 t ht).1, (h1 t ht).2])]
      exact ⟨rfl, rfl, rfl, rfl⟩
    · have hx2 : x ≤ n := by omega
      have hd := dn_up (n := n) (x := x) (by omega) hx2 f
      by_cases hlt : s < 2 ^ n
      · obtain ⟨i1, i2, _⟩ := ins_facts (n := n) (x := x) (t := s) (by omega) hx2 hlt
        obtain ⟨a1, a2, -, -⟩ := ih (by omega) hx2 (orF f (up (n + 1) f)) hlt
        obtain ⟨-, -, b3, b4⟩ := ih (by omega) hx2 f hlt
        obtain ⟨-, -, c3, c4⟩ := ih (by omega) hx2 (up (n + 1) f) hlt
        refine ⟨?_, ?_, ?_, ?_⟩
        · rw [shF, if_pos i1, a1, shF, if_pos hlt]
          apply shF_congr
          intro t ht
          obtain ⟨h1, h2⟩ := hd t ht
          simp only [orF, up, dnX, upX] at h1 h2 ⊢
          rw [h1, h2]
          ac_rfl
        · rw [shF, if_pos i2, a2, shF, if_pos hlt, shF, if_pos hlt]
          congr 1
          · apply shF_congr
            intro t ht
            obtain ⟨h1, h2⟩ := hd t ht
            simp only [orF, up, dnX] at h1 ⊢
            rw [h1]
          · apply shF_congr
            intro t ht
            obtain ⟨h1, h2⟩ := hd t ht
            simp only [orF, up, upX] at h2 ⊢
            rw [h2]
        · rw [stF, if_pos i1, b3, c3, stF, if_pos hlt, stF, if_pos hlt, stF_congr (f := up n (dnX x f)) (fun t ht => (hd t ht).1), stF_congr (f := up n (upX x f)) (fun t ht => (hd t ht).2)]
          ac_rfl
        · rw [stF, if_pos i2, b4, c4, stF, if_pos hlt]
          congr 1
          apply stF_congr
          intro t ht
          obtain ⟨h1, h2⟩ := hd t ht
          simp only [andF, up] at h1 h2 ⊢
          rw [h1, h2]
      · obtain ⟨r, rfl⟩ : ∃ r, s = r + 2 ^ n := ⟨s - 2 ^ n, by omega⟩
        have hr : r < 2 ^ n := by omega
        obtain ⟨a1, a2, -, -⟩ := ih (by omega) hx2 f hr
        obtain ⟨b1, b2, -, -⟩ := ih (by omega) hx2 (up (n + 1) f) hr
        obtain ⟨-, -, c3, c4⟩ := ih (by omega) hx2 (andF f (up (n + 1) f)) hr
        have hpx := Nat.two_pow_pos x
        have e1 := ins_up (n := n) (x := x) (t := r) (by omega) hx2 hr
        have e2 : ins x (r + 2 ^ n) + 2 ^ x = ins x r + 2 ^ x + 2 ^ (n + 1) := by rw [e1]; omega
        obtain ⟨i1, i2, _⟩ := ins_facts (n := n) (x := x) (t := r) (by omega) hx2 hr
        refine ⟨?_, ?_, ?_, ?_⟩
        · rw [e1, shF, if_neg (by omega), Nat.add_sub_cancel, a1, b1, shF, if_neg (by omega), Nat.add_sub_cancel]
          congr 1
          apply shF_congr
          intro t ht
          obtain ⟨h1, h2⟩ := hd t ht
          simp only [orF, up] at h1 h2 ⊢
          rw [h1, h2]
        · rw [e2, shF, if_neg (by omega), Nat.add_sub_cancel, a2, b2, shF, if_neg (by omega), Nat.add_sub_cancel, shF, if_neg (by omega), Nat.add_sub_cancel, shF_congr (f := up n (dnX x f)) (fun t ht => (hd t ht).1), shF_congr (f := up n (upX x f)) (fun t ht => (hd t ht).2)]
          ac_rfl
        · rw [e1, stF, if_neg (by omega), Nat.add_sub_cancel, c3, stF, if_neg (by omega), Nat.add_sub_cancel, stF, if_neg (by omega), Nat.add_sub_cancel]
          congr 1
          · apply stF_congr
            intro t ht
            obtain ⟨h1, h2⟩ := hd t ht
            simp only [andF, up, dnX] at h1 ⊢
            rw [h1]
          · apply stF_congr
            intro t ht
            obtain ⟨h1, h2⟩ := hd t ht
            simp only [andF, up, upX] at h2 ⊢
            rw [h2]
        · rw [e2, stF, if_neg (by omega), Nat.add_sub_cancel, c4, stF, if_neg (by omega), Nat.add_sub_cancel]
          apply stF_congr
          intro t ht
          obtain ⟨h1, h2⟩ := hd t ht
          simp only [andF, up, dnX, upX] at h1 h2 ⊢
          rw [h1, h2]
          ac_rfl

theorem low_ins {n x t : Nat} (hn : n < 5) (hx : x ≤ n) (ht : t < 2 ^ n) : low x (ins x t) = ins x t ∧ low x (ins x t + 2 ^ x) = ins x t := by
  obtain ⟨_, _, _, _, h1, h2, _⟩ := ins_facts hn hx ht
  exact ⟨low_of h1, by rw [low, if_pos h2]; omega⟩
theorem sh_parts {n x : Nat} {ns : List Nat} (h : Cls (n + 1) ns) (hx : x ≤ n) {t : Nat} (ht : t < 2 ^ n) :
    dnX x (inF (sh1 x ns)) t = orF (dnX x (inF ns)) (upX x (inF ns)) t ∧ upX x (inF (sh1 x ns)) t = andF (dnX x (inF ns)) (upX x (inF ns)) t := by
  have hn : n < 5 := by have := h.pts; omega
  obtain ⟨_, _, _, _, h1, h2, _⟩ := ins_facts hn hx ht
  obtain ⟨l1, l2⟩ := low_ins hn hx ht
  have k1 : (ins x t ∈ sh1 x ns) ↔ (ins x t ∈ ns ∨ ins x t + 2 ^ x ∈ ns) := by
    rw [mem_sh1 h.lt32]
    constructor
    · rintro ⟨s, hs, he⟩
      by_cases hl : low x s ∈ ns
      · rw [shs_of_in hl] at he; exact .inl (he ▸ hs)
      · rw [shs_of_out hl] at he
        cases hh : hasX x s with
        | false => rw [low_of hh] at he; exact .inl (he ▸ hs)
        | true =>
          have h3 := low_ge hh
          rw [low, if_pos hh] at he
          exact .inr (by rw [← he, Nat.sub_add_cancel h3]; exact hs)
    · intro hh
      by_cases hi : ins x t ∈ ns
      · exact ⟨_, hi, by rw [shs_of_in (by rw [l1]; exact hi)]⟩
      · rcases hh with hh | hh
        · exact absurd hh hi
        · exact ⟨_, hh, by rw [shs_of_out (by rw [l2]; exact hi), l2]⟩
  have k2 : (ins x t + 2 ^ x ∈ sh1 x ns) ↔ (ins x t ∈ ns ∧ ins x t + 2 ^ x ∈ ns) := by
    rw [mem_sh1 h.lt32]
    constructor
    · rintro ⟨s, hs, he⟩
      by_cases hl : low x s ∈ ns
      · rw [shs_of_in hl] at he
        subst he
        rw [l2] at hl
        exact ⟨hl, hs⟩
      · rw [shs_of_out hl] at he
        have h3 := low_has x s
        rw [he, h2] at h3
        cases h3
    · rintro ⟨ha, hb⟩
      exact ⟨_, hb, shs_of_in (by rw [l2]; exact ha)⟩
  constructor
  · simp only [dnX, upX, orF, inF]
    rw [← Bool.decide_or]
    exact decide_eq_decide.2 k1
  · simp only [dnX, upX, andF, inF]
    rw [← Bool.decide_and]
    exact decide_eq_decide.2 k2
theorem sh_edges {n x : Nat} {ns : List Nat} (h : Cls (n + 1) ns) (hx : x ≤ n) : (egTo ns ns.length).length ≤ (egTo (sh1 x ns) (sh1 x ns).length).length := by
  have hn : n < 5 := by have := h.pts; omega
  rw [eg_count h, eg_count (h.sh1 x), eF_ins hn hx, eF_ins hn hx]
  have h1 := fun t ht => (sh_parts h hx (t := t) ht).1
  have h2 := fun t ht => (sh_parts h hx (t := t) ht).2
  rw [eF_congr h1, eF_congr h2, cnt_congr (f := andF (dnX x (inF (sh1 x ns))) (upX x (inF (sh1 x ns)))) (g := andF (dnX x (inF ns)) (upX x (inF ns))) (fun t ht => by
    show (dnX x (inF (sh1 x ns)) t && upX x (inF (sh1 x ns)) t) = _
    rw [h1 t ht, h2 t ht]
    simp only [orF, andF]
    cases dnX x (inF ns) t <;> cases upX x (inF ns) t <;> rfl)]
  have := eF_sup n (dnX x (inF ns)) (upX x (inF ns))
  omega
theorem sh_both {n x : Nat} {ns : List Nat} (h : Cls (n + 1) ns) (hx : x ≤ n) {s : Nat} (hs : s < 2 ^ (n + 1)) : (sht (sh1 x ns) s = true → sht ns s = true) ∧ (strg ns s = true → strg (sh1 x ns) s = true) := by
  have hn : n < 5 := by have := h.pts; omega
  rw [sht_sh h hs, sht_sh (h.sh1 x) hs, strg_st h hs, strg_st (h.sh1 x) hs]
  obtain ⟨r1, r2, r3⟩ := rmv_facts hn hx hs
  have h1 := fun t ht => (sh_parts h hx (t := t) ht).1
  have h2 := fun t ht => (sh_parts h hx (t := t) ht).2
  obtain ⟨a1, a2, a3, a4⟩ := sF_ins hn hx (inF ns) r1
  obtain ⟨b1, b2, b3, b4⟩ := sF_ins hn hx (inF (sh1 x ns)) r1
  have eor : shF n (orF (dnX x (inF (sh1 x ns))) (upX x (inF (sh1 x ns)))) (rmv x s) = shF n (orF (dnX x (inF ns)) (upX x (inF ns))) (rmv x s) := shF_congr (fun t ht => by
    show (dnX x (inF (sh1 x ns)) t || upX x (inF (sh1 x ns)) t) = _
    rw [h1 t ht, h2 t ht]
    simp only [orF, andF]
    cases dnX x (inF ns) t <;> cases upX x (inF ns) t <;> rfl) _
  have eand : stF n (andF (dnX x (inF (sh1 x ns))) (upX x (inF (sh1 x ns)))) (rmv x s) = stF n (andF (dnX x (inF ns)) (upX x (inF ns))) (rmv x s) := stF_congr (fun t ht => by
    show (dnX x (inF (sh1 x ns)) t && upX x (inF (sh1 x ns)) t) = _
    rw [h1 t ht, h2 t ht]
    simp only [orF, andF]
    cases dnX x (inF ns) t <;> cases upX x (inF ns) t <;> rfl) _
  cases hh : hasX x s with
  | false =>
    have e := r2 hh
    rw [e] at a1 a3 b1 b3
    rw [a1, a3, b1, b3, eor, stF_congr h1]
    refine ⟨id, fun k => ?_⟩
    rw [Bool.or_eq_true] at k ⊢
    refine .inl ?_
    rw [stF_iff (by omega) _ r1]
    rcases k with k | k
    · obtain ⟨c, c1, c2, c3⟩ := (stF_iff (by omega) _ r1).1 k
      exact ⟨c, c1, c2, fun t ht h9 => by simp only [orF, c3 t ht h9, Bool.true_or]⟩
    · obtain ⟨c, c1, c2, c3⟩ := (stF_iff (by omega) _ r1).1 k
      exact ⟨c, c1, c2, fun t ht h9 => by simp only [orF, c3 t ht h9, Bool.or_true]⟩
  | true =>
    have e := r3 hh
    rw [e] at a2 a4 b2 b4
    rw [a2, a4, b2, b4, eand, shF_congr h1, shF_congr h2]
    refine ⟨fun k => ?_, id⟩
    rw [Bool.and_eq_true] at k
    have := shF_and n _ _ _ k.2
    rw [this.1, this.2]; rfl

end Go.Proofs.Ytgldckgecoijfaa

namespace Go.Proofs.Ytgldckgecoijfaa
open Go.RowKit


end Go.Proofs.Ytgldckgecoijfaa

namespace Go.Proofs.Ytgldckgecoijfaa
open Go.RowKit



end Go.Proofs.Ytgldckgecoijfaa

namespace Go.Proofs.Ytgldckgecoijfaa
open Go.RowKit

/-- the turns of the first k cubes -/
def eulTo (es : List (Int × Int)) : Nat → Int
  | 0 => 0
  | k + 1 => eulTo es k + if pc (es.getD k (0, 0)).2.toNat % 2 = 0 then 1 else -1
theorem eulTo_succ (es : List (Int × Int)) (k : Nat) : eulTo es (k + 1) = eulTo es k + if pc (es.getD k (0, 0)).2.toNat % 2 = 0 then 1 else -1 := rfl
theorem eulTo_bd (es : List (Int × Int)) (k : Nat) : -(k : Int) ≤ eulTo es k ∧ eulTo es k ≤ k := by
  induction k with
  | zero => simp [eulTo]
  | succ k ih =>
    rw [eulTo_succ]
    split <;> omega
def eulB (n : Int) (zs : List Int) : Int := eulTo (cubL n zs) (cubL n zs).length
theorem eulB_bad {n : Int} {zs : List Int} (h : vldB n zs = false) : eulB n zs = 0 := by rw [eulB, cubL_bad h]; rfl
theorem eulB_in {m : Nat} {ns : List Nat} (h : vldB (m : Int) (toI ns) = true) : eulB (m : Int) (toI ns) = eulTo (cbTo ns m ns.length) (cbTo ns m ns.length).length := by rw [eulB, cubL_in h]
theorem getD_mem {α : Type} {l : List α} {k : Nat} {d : α} (h : k < l.length) : l.getD k d ∈ l := by
  rw [List.getD_eq_getElem?_getD, List.getElem?_eq_getElem h]
  exact List.getElem_mem h
/-- the sets along which cubes lie are sets -/
theorem cub_set {n : Int} {zs : List Int} {k : Nat} (h : k < (cubL n zs).length) : ∃ b : Nat, b < 32 ∧ ((cubL n zs).getD k (0, 0)).2 = (b : Int) := by
  have hm := getD_mem (d := ((0 : Int), (0 : Int))) h
  generalize (cubL n zs).getD k (0, 0) = e at *
  unfold cubL at hm
  split at hm
  · rename_i hv
    obtain ⟨m, ns, rfl, rfl, hc⟩ := vldB_cls hv
    rw [toNat_toI, Int.toNat_natCast, cbTo, List.mem_flatMap] at hm
    obtain ⟨a, _, ha⟩ := hm
    rw [cbIn, List.mem_map] at ha
    obtain ⟨b, hb, rfl⟩ := ha
    have := List.mem_range.1 (List.mem_filter.1 hb).1
    have := pow_le_32 hc.pts
    exact ⟨b, by omega, rfl⟩
  · cases hm



end Go.Proofs.Ytgldckgecoijfaa

namespace Go.Proofs.Ytgldckgecoijfaa
open Go.RowKit

/-- how many of the first k cubes there are of each dimension -/
def ccTo (m : Nat) (es : List (Int × Int)) : Nat → List Int
  | 0 => List.replicate (m + 1) 0
  | k + 1 => (ccTo m es k).set (pc (es.getD k (0, 0)).2.toNat) ((ccTo m es k).getD (pc (es.getD k (0, 0)).2.toNat) 0 + 1)
theorem ccTo_succ (m : Nat) (es : List (Int × Int)) (k : Nat) : ccTo m es (k + 1) = (ccTo m es k).set (pc (es.getD k (0, 0)).2.toNat) ((ccTo m es k).getD (pc (es.getD k (0, 0)).2.toNat) 0 + 1) := rfl
theorem ccTo_length (m : Nat) (es : List (Int × Int)) (k : Nat) : (ccTo m es k).length = m + 1 := by
  induction k with
  | zero => simp [ccTo]
  | succ k ih => rw [ccTo_succ, List.length_set, ih]
theorem ccTo_bd (m : Nat) (es : List (Int × Int)) (k j : Nat) : 0 ≤ (ccTo m es k).getD j 0 ∧ (ccTo m es k).getD j 0 ≤ k := by
  induction k generalizing j with
  | zero =>
    rw [ccTo, List.getD_eq_getElem?_getD, List.getElem?_replicate]
    split <;> simp
  | succ k ih =>
    rw [ccTo_succ, List.getD_eq_getElem?_getD, List.getElem?_set]
    split
    · split
      · have := ih (pc (es.getD k (0, 0)).2.toNat)
        simp only [Option.getD_some]
        omega
      · simp only [Option.getD_none]
        omega
    · have := ih j
      rw [List.getD_eq_getElem?_getD] at this
      omega
def ccL (n : Int) (zs : List Int) : List Int := if vldB n zs = true then ccTo n.toNat (cubL n zs) (cubL n zs).length else []
theorem ccL_in {m : Nat} {ns : List Nat} (h : vldB (m : Int) (toI ns) = true) : ccL (m : Int) (toI ns) = ccTo m (cubL (m : Int) (toI ns)) (cubL (m : Int) (toI ns)).length := by rw [ccL, if_pos h, Int.toNat_natCast]
theorem ccL_bad {n : Int} {zs : List Int} (h : vldB n zs = false) : ccL n zs = [] := by rw [ccL, h]; rfl
theorem ccL_len (n : Int) (zs : List Int) : (ccL n zs).length ≤ 1048576 := by
  unfold ccL
  split
  · rename_i hv
    obtain ⟨m, ns, rfl, rfl, hc⟩ := vldB_cls hv
    have := hc.pts
    rw [ccTo_length, Int.toNat_natCast]
    omega
  · simp
/-- a cube's second set is one of the class's points -/
theorem cub_dim {m : Nat} {ns : List Nat} (h : Cls m ns) (hv : vldB (m : Int) (toI ns) = true) {k : Nat} (hk : k < (cubL (m : Int) (toI ns)).length) : ∃ b : Nat, b < 32 ∧ pc b ≤ m ∧ ((cubL (m : Int) (toI ns)).getD k (0, 0)).2 = (b : Int) := by
  have hm := getD_mem (d := ((0 : Int), (0 : Int))) hk
  generalize (cubL (m : Int) (toI ns)).getD k (0, 0) = e at *
  rw [cubL_in hv, cbTo, List.mem_flatMap] at hm
  obtain ⟨a, _, ha⟩ := hm
  rw [cbIn, List.mem_map] at ha
  obtain ⟨b, hb, rfl⟩ := ha
  have h1 := List.mem_range.1 (List.mem_filter.1 hb).1
  have := pow_le_32 h.pts
  exact ⟨b, by omega, pc_le m b h.pts h1, rfl⟩




end Go.Proofs.Ytgldckgecoijfaa

namespace Go.Proofs.Ytgldckgecoijfaa
open Go.RowKit

/-- the sum of the first k numbers, each as often as c says -/
def wTo (c : Nat → Int) (l : List Int) : Nat → Int
  | 0 => 0
  | k + 1 => wTo c l k + l.getD k 0 * c k
theorem set_getD (l : List Int) (i k : Nat) (v : Int) (hi : i < l.length) : (l.set i v).getD k 0 = if i = k then v else l.getD k 0 := by
  rw [List.getD_eq_getElem?_getD, List.getElem?_set]
  by_cases e : i = k
  · rw [if_pos e, if_pos e, if_pos hi, Option.getD_some]
  · rw [if_neg e, if_neg e, List.getD_eq_getElem?_getD]
theorem wTo_set (c : Nat → Int) (l : List Int) (i : Nat) (v : Int) (hi : i < l.length) (k : Nat) : wTo c (l.set i v) k = wTo c l k + if i < k then (v - l.getD i 0) * c i else 0 := by
  induction k with
  | zero => simp [wTo]
  | succ k ih =>
    rw [wTo, wTo, ih, set_getD l i k v hi]
    by_cases e : i = k
    · subst e
      rw [if_pos rfl, if_neg (Nat.lt_irrefl i), if_pos (Nat.lt_succ_self i), Int.sub_mul]
      omega
    · rw [if_neg e]
      by_cases h2 : i < k
      · rw [if_pos h2, if_pos (by omega)]; omega
      · rw [if_neg h2, if_neg (by omega)]; omega
theorem wTo_zero (c : Nat → Int) (n k : Nat) : wTo c (List.replicate n 0) k = 0 := by
  induction k with
  | zero => rfl
  | succ k ih =>
    rw [wTo, ih, List.getD_eq_getElem?_getD, List.getElem?_replicate]
    split <;> simp
theorem wTo_cc {m : Nat} {es : List (Int × Int)} (c : Nat → Int) (h : ∀ j, j < es.length → pc (es.getD j (0, 0)).2.toNat ≤ m) (k : Nat) (hk : k ≤ es.length) :
    wTo c (ccTo m es (k + 0)) (m + 1) = ((List.range k).map (fun j => c (pc (es.getD j (0, 0)).2.toNat))).sum := by
  induction k with
  | zero => rw [show ccTo m es (0 + 0) = List.replicate (m + 1) 0 from rfl, wTo_zero]; rfl
  | succ k ih =>
    have h1 := h k (by omega)
    rw [Nat.add_zero, ccTo_succ, wTo_set _ _ _ _ (by rw [ccTo_length]; omega), if_pos (by omega), List.range_succ, List.map_append, List.sum_append, ← ih (by omega)]
    simp only [List.map_cons, List.map_nil, List.sum_cons, List.sum_nil, Nat.add_zero]
    rw [show (ccTo m es k).getD (pc (es.getD k (0, 0)).2.toNat) 0 + 1 - (ccTo m es k).getD (pc (es.getD k (0, 0)).2.toNat) 0 = 1 by omega]
    omega
/-- all counts together are the cubes -/
theorem cc_total {m : Nat} {es : List (Int × Int)} (h : ∀ j, j < es.length → pc (es.getD j (0, 0)).2.toNat ≤ m) : wTo (fun _ => 1) (ccTo m es es.length) (m + 1) = (es.length : Int) := by
  have h1 := wTo_cc (fun _ => 1) h es.length (Nat.le_refl _)
  rw [Nat.add_zero] at h1
  rw [h1]
  generalize es.length = n
  induction n with
  | zero => rfl
  | succ n ih =>
    rw [List.range_succ, List.map_append, List.sum_append, ih]
    simp
/-- in turns they are the Euler number -/
theorem cc_turns {m : Nat} {es : List (Int × Int)} (h : ∀ j, j < es.length → pc (es.getD j (0, 0)).2.toNat ≤ m) : wTo (fun j => 1 - 2 * ((j % 2 : Nat) : Int)) (ccTo m es es.length) (m + 1) = eulTo es es.length := by
  have h1 := wTo_cc (fun j => 1 - 2 * ((j % 2 : Nat) : Int)) h es.length (Nat.le_refl _)
  rw [Nat.add_zero] at h1
  rw [h1]
  generalize es.length = n
  induction n with
  | zero => rfl
  | succ n ih =>
    rw [List.range_succ, List.map_append, List.sum_append, ih, eulTo_succ]
    simp only [List.map_cons, List.map_nil, List.sum_cons, List.sum_nil]
    congr 1
    have := Nat.mod_two_eq_zero_or_one (pc (es.getD n (0, 0)).2.toNat)
    rcases this with e | e <;> rw [e] <;> simp
theorem cc_at {m : Nat} {es : List (Int × Int)} (d : Nat) (k : Nat) (hd : d ≤ m) (hk : k ≤ es.length) : (ccTo m es k).getD d 0 = (((es.take k).countP (fun e => pc e.2.toNat == d) : Nat) : Int) := by
  induction k with
  | zero =>
    rw [show ccTo m es 0 = List.replicate (m + 1) 0 from rfl, List.getD_eq_getElem?_getD, List.getElem?_replicate, if_pos (by omega)]
    simp
  | succ k ih =>
    have h0 := ih (by omega)
    rw [ccTo_succ, List.take_succ_eq_append_getElem (by omega), List.countP_append, List.getD_eq_getElem?_getD, List.getElem?_set]
    have e1 : es.getD k (0, 0) = es[k] := by rw [List.getD_eq_getElem?_getD, List.getElem?_eq_getElem (by omega), Option.getD_some]
    rw [e1]
    by_cases e : pc es[k].2.toNat = d
    · rw [if_pos e, if_pos (by rw [ccTo_length]; omega), Option.getD_some, e, h0]
      simp [e]
    · rw [if_neg e, ← List.getD_eq_getElem?_getD, h0]
      simp [e]
theorem crn_iff {ns : List Nat} {s c : Nat} : crn ns s c = true ↔ c &&& s = 0 ∧ ∀ t, t ≤ s → t &&& s = t → c ||| t ∈ ns := by
  simp only [crn, Bool.and_eq_true, cubTo, List.all_eq_true, List.mem_range, beq_iff_eq]
  constructor
  · rintro ⟨h1, h2⟩
    refine ⟨h1, fun t ht he => ?_⟩
    have := h2 t (by omega)
    simpa [he] using this
  · rintro ⟨h1, h2⟩
    refine ⟨h1, fun t ht => ?_⟩
    by_cases he : t &&& s = t
    · simp [he, h2 t (by omega) he]
    · simp [he]
theorem cb_count {ns : List Nat} {m : Nat} (d : Nat) : (cbTo ns m ns.length).countP (fun e => pc e.2.toNat == d) = (ns.map (fun a => (List.range (2 ^ m)).countP (fun b => (pc b == d) && crn ns b a))).sum := by
  rw [cbTo, List.take_length, List.countP_flatMap]
  congr 1
  apply List.map_congr_left
  intro a _
  show (cbIn ns a (2 ^ m)).countP _ = _
  rw [cbIn, List.countP_map, List.countP_filter]
  apply List.countP_congr
  intro b _
  simp
theorem dim_zero : ∀ m : Fin 6, (List.range (2 ^ m.1)).filter (fun b => pc b == 0) = [0] := by decide +kernel
theorem dim_one : ∀ m : Fin 6, (List.range (2 ^ m.1)).filter (fun b => pc b == 1) = (List.range m.1).map (fun y => 2 ^ y) := by decide +kernel
theorem sub_one : ∀ y : Fin 5, ∀ t : Fin 32, t.1 ≤ 2 ^ y.1 → t.1 &&& 2 ^ y.1 = t.1 → t.1 = 0 ∨ t.1 = 2 ^ y.1 := by decide +kernel
theorem up_one : ∀ y : Fin 5, ∀ a : Fin 32, (a.1 &&& 2 ^ y.1 = 0 ↔ a.1 < a.1 ^^^ 2 ^ y.1) ∧ (a.1 &&& 2 ^ y.1 = 0 → a.1 ||| 2 ^ y.1 = a.1 ^^^ 2 ^ y.1) := by decide +kernel
theorem crn_one {ns : List Nat} {y a : Nat} (hy : y < 5) (ha : a < 32) (hm : a ∈ ns) : crn ns (2 ^ y) a = (decide (a ^^^ 2 ^ y ∈ ns) && decide (a < a ^^^ 2 ^ y)) := by
  rw [Bool.eq_iff_iff, crn_iff, Bool.and_eq_true, decide_eq_true_eq, decide_eq_true_eq]
  obtain ⟨u1, u2⟩ := up_one ⟨y, hy⟩ ⟨a, ha⟩
  dsimp only at u1 u2
  have hp : 2 ^ y < 32 := Nat.pow_lt_pow_right (by omega) (show y < 5 from hy)
  constructor
  · rintro ⟨h1, h2⟩
    have h3 := h2 (2 ^ y) (Nat.le_refl _) (Nat.and_self _)
    rw [u2 h1] at h3
    exact ⟨h3, u1.1 h1⟩
  · rintro ⟨h1, h2⟩
    have h0 := u1.2 h2
    refine ⟨h0, fun t ht he => ?_⟩
    rcases sub_one ⟨y, hy⟩ ⟨t, by omega⟩ ht he with e | e <;> dsimp only at e
    · subst e; rw [Nat.or_zero]; exact hm
    · subst e; rw [u2 h0]; exact h1
theorem crn_nil {ns : List Nat} {a : Nat} (hm : a ∈ ns) : crn ns 0 a = true := by
  rw [crn_iff]
  refine ⟨Nat.and_zero a, fun t ht _ => ?_⟩
  obtain rfl : t = 0 := by omega
  rw [Nat.or_zero]; exact hm
theorem cb_sets {m : Nat} {ns : List Nat} (h : Cls m ns) : (cbTo ns m ns.length).countP (fun e => pc e.2.toNat == 0) = ns.length := by
  rw [cb_count]
  have e1 : ns.map (fun a => (List.range (2 ^ m)).countP (fun b => (pc b == 0) && crn ns b a)) = ns.map (fun _ => 1) := List.map_congr_left (fun a ha => by
    have h1 := dim_zero ⟨m, by have := h.pts; omega⟩
    dsimp only at h1
    have h2 := congrArg (List.countP (fun b => crn ns b a)) h1
    rw [List.countP_filter] at h2
    rw [show (List.range (2 ^ m)).countP (fun b => (pc b == 0) && crn ns b a) = (List.range (2 ^ m)).countP (fun b => crn ns b a && (pc b == 0)) from List.countP_congr (fun b _ => by rw [Bool.and_comm]), h2]
    simp [crn_nil ha])
  rw [e1]
  have h3 : ∀ l : List Nat, (l.map (fun _ => 1)).sum = l.length := fun l => by
    induction l with
    | nil => rfl
    | cons a l ih => rw [List.map_cons, List.sum_cons, ih, List.length_cons]; omega
  exact h3 ns
theorem cb_edges {m : Nat} {ns : List Nat} (h : Cls m ns) : (cbTo ns m ns.length).countP (fun e => pc e.2.toNat == 1) = (egTo ns ns.length).length := by
  have hm := h.pts
  have e1 : ns.map (fun a => (List.range (2 ^ m)).countP (fun b => (pc b == 1) && crn ns b a)) = ns.map (fun a => (List.range m).countP (fun y => crn ns (2 ^ y) a)) := List.map_congr_left (fun a _ => by
    have h1 := dim_one ⟨m, by omega⟩
    dsimp only at h1
    have h2 := congrArg (List.countP (fun b => crn ns b a)) h1
    rw [List.countP_filter, List.countP_map] at h2
    rw [show (List.range (2 ^ m)).countP (fun b => (pc b == 1) && crn ns b a) = (List.range (2 ^ m)).countP (fun b => crn ns b a && (pc b == 1)) from List.countP_congr (fun b _ => by rw [Bool.and_comm]), h2]
    rfl)
  rw [cb_count, e1, eg_count h, eF_sum hm, sum_swap]
  congr 1
  apply List.map_congr_left
  intro y hy
  rw [List.mem_range] at hy
  rw [many_cnt h]
  apply cnt_congr
  intro s hs
  have h32 := pow_le_32 hm
  obtain ⟨x1, x2⟩ := xor_has (y := y) (s := s) (by omega) (by omega)
  show (inF ns s && crn ns (2 ^ y) s) = (inF ns s && (!hasX y s && inF ns (s + 2 ^ y)))
  by_cases hin : s ∈ ns
  · rw [crn_one (by omega) (by omega) hin]
    congr 1
    have hp := Nat.two_pow_pos y
    cases hh : hasX y s with
    | false =>
      rw [x1 hh, show decide (s < s + 2 ^ y) = true from decide_eq_true (by omega)]
      simp [inF]
    | true =>
      rw [show decide (s < s ^^^ 2 ^ y) = false from decide_eq_false (x2 hh)]
      simp
  · rw [show inF ns s = false from decide_eq_false hin]
    rfl

end Go.Proofs.Ytgldckgecoijfaa

namespace Go.Proofs.Ytgldckgecoijfaa
open Go.RowKit

/-- Euler's number -/
def chF : Nat → (Nat → Bool) → Int
  | 0, f => if f 0 then 1 else 0
  | n + 1, f => chF n f + chF n (up n f) - chF n (andF f (up n f))
theorem chF_congr {n : Nat} {f g : Nat → Bool} (h : ∀ s, s < 2 ^ n → f s = g s) : chF n f = chF n g := by
  induction n generalizing f g with
  | zero => simp [chF, h 0 (by simp)]
  | succ n ih =>
    have h1 : ∀ s, s < 2 ^ n → f s = g s := fun s hs => h s (by rw [Nat.pow_succ]; omega)
    have h2 : ∀ s, s < 2 ^ n → up n f s = up n g s := fun s hs => h (s + 2 ^ n) (by rw [Nat.pow_succ]; omega)
    rw [chF, chF, ih h1, ih h2, ih (f := andF f (up n f)) (g := andF g (up n g)) (fun s hs => by simp only [andF]; rw [h1 s hs, h2 s hs])]
theorem chF_flip {n : Nat} (hn : n ≤ 5) (f : Nat → Bool) {x : Nat} (hx : x < 2 ^ n) : chF n (xorF x f) = chF n f := by
  induction n generalizing f x with
  | zero =>
    obtain rfl : x = 0 := by simp at hx; omega
    simp [chF, xorF]
  | succ n ih =>
    obtain ⟨y, hy, ⟨h1, h2⟩ | ⟨h1, h2⟩⟩ := flip_parts (by omega) f hx
    · rw [chF, chF, chF_congr h1, chF_congr h2, ih (by omega) f hy, ih (by omega) (up n f) hy, chF_congr (f := andF (xorF x f) (up n (xorF x f))) (g := xorF y (andF f (up n f))) (fun t ht => by simp only [andF]; rw [h1 t ht, h2 t ht]; rfl), ih (by omega) _ hy]
    · rw [chF, chF, chF_congr h1, chF_congr h2, ih (by omega) f hy, ih (by omega) (up n f) hy, chF_congr (f := andF (xorF x f) (up n (xorF x f))) (g := xorF y (andF f (up n f))) (fun t ht => by simp only [andF]; rw [h1 t ht, h2 t ht, Bool.and_comm]; rfl), ih (by omega) _ hy]
      omega

/-- what is shattered is strong -/
def ampF (n : Nat) (f : Nat → Bool) : Prop := ∀ s, s < 2 ^ n → shF n f s = true → stF n f s = true
theorem stF_mono {n : Nat} (hn : n ≤ 5) {f g : Nat → Bool} (h : ∀ s, f s = true → g s = true) {s : Nat} (hs : s < 2 ^ n) (k : stF n f s = true) : stF n g s = true := by
  obtain ⟨c, c1, c2, c3⟩ := (stF_iff hn f hs).1 k
  exact (stF_iff hn g hs).2 ⟨c, c1, c2, fun t ht he => h _ (c3 t ht he)⟩
theorem cnt_pos {n : Nat} (hn : n ≤ 5) {f : Nat → Bool} {s : Nat} (hs : s < 2 ^ n) (k : shF n f s = true) : cnt n f ≠ 0 := by
  obtain ⟨u, hu, hf, _⟩ := (shF_iff hn f hs).1 k 0 (Nat.two_pow_pos n) (Nat.zero_and s)
  have h1 : cnt n (fun p => decide (p = u)) ≤ cnt n f := cnt_mono (fun s _ he => by
    have := of_decide_eq_true he
    rw [this]; exact hf)
  rw [cnt_one hu] at h1
  omega
theorem amp_parts {n : Nat} (hn : n < 5) {f : Nat → Bool} (h : ampF (n + 1) f) : ampF n f ∧ ampF n (up n f) ∧ ampF n (andF f (up n f)) ∧ (cnt n f ≠ 0 → cnt n (up n f) ≠ 0 → cnt n (andF f (up n f)) ≠ 0) := by
  have hp : 2 ^ (n + 1) = 2 ^ n + 2 ^ n := by rw [Nat.pow_succ]; omega
  have hA : ∀ s, s < 2 ^ n → shF n f s = true → shF n (up n f) s = true → stF n (andF f (up n f)) s = true := fun s hs k1 k2 => by
    have h1 := h (s + 2 ^ n) (by omega) (by rw [shF, if_neg (by omega), Nat.add_sub_cancel, k1, k2]; rfl)
    rw [stF, if_neg (by omega), Nat.add_sub_cancel] at h1
    exact h1
  have hB : ∀ s, s < 2 ^ n → shF n (orF f (up n f)) s = true → stF n f s = true ∨ stF n (up n f) s = true := fun s hs k => by
    have h1 := h s (by omega) (by rw [shF, if_pos hs]; exact k)
    rw [stF, if_pos hs, Bool.or_eq_true] at h1
    exact h1
  have m1 : ∀ s, andF f (up n f) s = true → f s = true := fun s k => by simp only [andF, Bool.and_eq_true] at k; exact k.1
  have m2 : ∀ s, andF f (up n f) s = true → up n f s = true := fun s k => by simp only [andF, Bool.and_eq_true] at k; exact k.2
  refine ⟨fun s hs k => ?_, fun s hs k => ?_, fun s hs k => ?_, fun k1 k2 => ?_⟩
  · rcases hB s hs (shF_or n f (up n f) s (.inl k)) with h1 | h1
    · exact h1
    · exact stF_mono (by omega) m1 hs (hA s hs k (st_sh n _ s h1))
  · rcases hB s hs (shF_or n f (up n f) s (.inr k)) with h1 | h1
    · exact stF_mono (by omega) m2 hs (hA s hs (st_sh n _ s h1) k)
    · exact h1
  · have := shF_and n f (up n f) s k
    exact hA s hs this.1 this.2
  · exact cnt_pos (by omega) (Nat.two_pow_pos n) (st_sh n _ 0 (hA 0 (Nat.two_pow_pos n) (shF_zero k1) (shF_zero k2)))
theorem chF_amp {n : Nat} (hn : n ≤ 5) {f : Nat → Bool} (h : ampF n f) : chF n f = if cnt n f = 0 then 0 else 1 := by
  induction n generalizing f with
  | zero => rw [chF, cnt]; cases f 0 <;> rfl
  | succ n ih =>
    obtain ⟨h1, h2, h3, h4⟩ := amp_parts (by omega) h
    rw [chF, ih (by omega) h1, ih (by omega) h2, ih (by omega) h3, cnt]
    have l1 : cnt n (andF f (up n f)) ≤ cnt n f := cnt_mono (fun s _ k => by simp only [andF, Bool.and_eq_true] at k; exact k.1)
    have l2 : cnt n (andF f (up n f)) ≤ cnt n (up n f) := cnt_mono (fun s _ k => by simp only [andF, Bool.and_eq_true] at k; exact k.2)
    by_cases a : cnt n f = 0
    · rw [if_pos a, if_pos (show cnt n (andF f (up n f)) = 0 by omega)]
      by_cases b : cnt n (up n f) = 0
      · rw [if_pos b, if_pos (by omega)]; rfl
      · rw [if_neg b, if_neg (by omega)]; rfl
    · by_cases b : cnt n (up n f) = 0
      · rw [if_neg a, if_pos b, if_pos (show cnt n (andF f (up n f)) = 0 by omega), if_neg (by omega)]; rfl
      · rw [if_neg a, if_neg b, if_neg (h4 a b), if_neg (by omega)]; rfl

/-- the sum over the sets of n points -/
def smF : Nat → (Nat → Int) → Int
  | 0, g => g 0
  | n + 1, g => smF n g + smF n (fun s => g (s + 2 ^ n))
theorem smF_congr {n : Nat} {f g : Nat → Int} (h : ∀ s, s < 2 ^ n → f s = g s) : smF n f = smF n g := by
  induction n generalizing f g with
  | zero => exact h 0 (by simp)
  | succ n ih =>
    rw [smF, smF, ih (fun s hs => h s (by rw [Nat.pow_succ]; omega)), ih (f := fun s => f (s + 2 ^ n)) (g := fun s => g (s + 2 ^ n)) (fun s hs => h (s + 2 ^ n) (by rw [Nat.pow_succ]; omega))]
theorem smF_add (n : Nat) (f g : Nat → Int) : smF n (fun s => f s + g s) = smF n f + smF n g := by
  induction n generalizing f g with
  | zero => rfl
  | succ n ih =>
    rw [smF, smF, smF, ih, ih (fun s => f (s + 2 ^ n)) (fun s => g (s + 2 ^ n))]
    omega
theorem smF_neg (n : Nat) (f : Nat → Int) : smF n (fun s => - f s) = - smF n f := by
  induction n generalizing f with
  | zero => rfl
  | succ n ih =>
    rw [smF, smF, ih, ih (fun s => f (s + 2 ^ n))]
    omega
theorem smF_zero (n : Nat) : smF n (fun _ => 0) = 0 := by
  induction n with
  | zero => rfl
  | succ n ih => rw [smF, ih]; rfl
theorem sum_range (n : Nat) (g : Nat → Int) : ((List.range (2 ^ n)).map g).sum = smF n g := by
  induction n generalizing g with
  | zero => show ((List.range 1).map g).sum = _; simp [smF]
  | succ n ih =>
    have e : List.range (2 ^ (n + 1)) = List.range (2 ^ n) ++ (List.range (2 ^ n)).map (fun x => 2 ^ n + x) := by
      rw [Nat.pow_succ, show 2 ^ n * 2 = 2 ^ n + 2 ^ n by omega]
      exact List.range_add
    rw [e, List.map_append, List.sum_append, ih, List.map_map, smF, ← ih (fun s => g (s + 2 ^ n))]
    congr 2
    apply List.map_congr_left
    intro x _
    show g (2 ^ n + x) = _
    rw [Nat.add_comm]
/-- a cube at a along b -/
def crB (f : Nat → Bool) (b a : Nat) : Bool := (a &&& b == 0) && cubTo f a b (b + 1)
theorem crB_iff {n : Nat} {f : Nat → Bool} {b a : Nat} (hb : b < 2 ^ n) : crB f b a = true ↔ a &&& b = 0 ∧ ∀ t, t < 2 ^ n → t &&& b = t → f (a ||| t) = true := by
  simp only [crB, Bool.and_eq_true, cubTo, List.all_eq_true, List.mem_range, beq_iff_eq]
  constructor
  · rintro ⟨h1, h2⟩
    refine ⟨h1, fun t _ he => ?_⟩
    have hle : t ≤ b := by rw [← he]; exact Nat.and_le_right
    have := h2 t (by omega)
    simpa [he] using this
  · rintro ⟨h1, h2⟩
    refine ⟨h1, fun t ht => ?_⟩
    by_cases he : t &&& b = t
    · simp [he, h2 t (by omega) he]
    · simp [he]
theorem or_high {n a b : Nat} (hn : n < 5) (ha : a < 2 ^ n) (hb : b < 2 ^ n) : (a + 2 ^ n) ||| b = (a ||| b) + 2 ^ n ∧ a ||| (b + 2 ^ n) = (a ||| b) + 2 ^ n := by
  have key : ∀ n : Fin 5, ∀ a : Fin 16, ∀ b : Fin 16, (a : Nat) < 2 ^ (n : Nat) → (b : Nat) < 2 ^ (n : Nat) → ((a : Nat) + 2 ^ (n : Nat)) ||| (b : Nat) = ((a : Nat) ||| (b : Nat)) + 2 ^ (n : Nat) ∧ (a : Nat) ||| ((b : Nat) + 2 ^ (n : Nat)) = ((a : Nat) ||| (b : Nat)) + 2 ^ (n : Nat) := by decide +kernel
  have h16 := sixteen hn
  exact key ⟨n, hn⟩ ⟨a, by omega⟩ ⟨b, by omega⟩ ha hb
theorem cr_parts {n : Nat} (hn : n < 5) (f : Nat → Bool) {a b : Nat} (ha : a < 2 ^ n) (hb : b < 2 ^ n) :
    crB f b (a + 2 ^ n) = crB (up n f) b a ∧ crB f (b + 2 ^ n) a = crB (andF f (up n f)) b a ∧ crB f (b + 2 ^ n) (a + 2 ^ n) = false := by
  have hp : 2 ^ (n + 1) = 2 ^ n + 2 ^ n := by rw [Nat.pow_succ]; omega
  obtain ⟨a1, a2, a3, _⟩ := and_high hn ha hb
  refine ⟨?_, ?_, ?_⟩
  · rw [Bool.eq_iff_iff, crB_iff hb, crB_iff hb, a1]
    constructor
    · rintro ⟨h1, h2⟩
      refine ⟨h1, fun t ht he => ?_⟩
      have := h2 t ht he
      rw [(or_high hn ha ht).1] at this
      exact this
    · rintro ⟨h1, h2⟩
      refine ⟨h1, fun t ht he => ?_⟩
      rw [(or_high hn ha ht).1]
      exact h2 t ht he
  · rw [Bool.eq_iff_iff, crB_iff (n := n + 1) (by omega), crB_iff hb, a2]
    constructor
    · rintro ⟨h1, h2⟩
      refine ⟨h1, fun t ht he => ?_⟩
      have k1 := h2 t (by omega) (by rw [(and_high hn ht hb).2.1]; exact he)
      have k2 := h2 (t + 2 ^ n) (by omega) (by rw [(and_high hn ht hb).2.2.1, he])
      rw [(or_high hn ha ht).2] at k2
      simp only [andF, up, k1, k2]; rfl
    · rintro ⟨h1, h2⟩
      refine ⟨h1, fun t ht he => ?_⟩
      by_cases hlt : t < 2 ^ n
      · rw [(and_high hn hlt hb).2.1] at he
        have := h2 t hlt he
        simp only [andF, Bool.and_eq_true] at this
        exact this.1
      · obtain ⟨r, rfl⟩ : ∃ r, t = r + 2 ^ n := ⟨t - 2 ^ n, by omega⟩
        have hr : r < 2 ^ n := by omega
        rw [(and_high hn hr hb).2.2.1] at he
        have := h2 r hr (by omega)
        simp only [andF, Bool.and_eq_true] at this
        rw [(or_high hn ha hr).2]
        exact this.2
  · rw [Bool.eq_false_iff]
    intro h
    have := (crB_iff (n := n + 1) (by omega)).1 h
    have h1 := this.1
    rw [a3] at h1
    have := Nat.two_pow_pos n
    omega
/-- even ones count, odd ones count against -/
def sgn (b : Nat) : Int := if pc b % 2 = 0 then 1 else -1
theorem sgn_up {n b : Nat} (hn : n < 5) (hb : b < 2 ^ n) : sgn (b + 2 ^ n) = - sgn b := by
  rw [sgn, sgn, pc_up hn hb]
  by_cases h : pc b % 2 = 0
  · rw [if_pos h, if_neg (by omega)]
  · rw [if_neg h, if_pos (by omega)]; rfl
def euF (n : Nat) (f : Nat → Bool) : Int := smF n (fun a => smF n (fun b => if crB f b a = true then sgn b else 0))
theorem eu_ch {n : Nat} (hn : n ≤ 5) (f : Nat → Bool) : euF n f = chF n f := by
  induction n generalizing f with
  | zero =>
    show (if crB f 0 0 = true then sgn 0 else 0) = _
    rw [chF, show sgn 0 = 1 by decide]
    have : crB f 0 0 = f 0 := by simp [crB, cubTo]
    rw [this]
  | succ n ih =>
    rw [chF, ← ih (by omega) f, ← ih (by omega) (up n f), ← ih (by omega) (andF f (up n f))]
    rw [euF, smF]
    have e1 : smF n (fun a => smF (n + 1) (fun b => if crB f b a = true then sgn b else 0)) = euF n f + - euF n (andF f (up n f)) := by
      rw [euF, euF, ← smF_neg, ← smF_add]
      apply smF_congr
      intro a ha
      rw [smF, ← smF_neg]
      congr 1
      apply smF_congr
      intro b hb
      rw [(cr_parts (by omega) f ha hb).2.1, sgn_up (by omega) hb]
      split <;> rfl
    have e2 : smF n (fun a => smF (n + 1) (fun b => if crB f b (a + 2 ^ n) = true then sgn b else 0)) = euF n (up n f) := by
      rw [euF]
      apply smF_congr
      intro a ha
      rw [smF, smF_congr (f := fun b => if crB f (b + 2 ^ n) (a + 2 ^ n) = true then sgn (b + 2 ^ n) else 0) (g := fun _ => 0) (fun b hb => by rw [(cr_parts (by omega) f ha hb).2.2]; rfl), smF_zero, Int.add_zero]
      apply smF_congr
      intro b hb
      rw [(cr_parts (by omega) f ha hb).1]
    rw [e1, e2]
    omega
theorem eul_sum (es : List (Int × Int)) : eulTo es es.length = (es.map (fun e => sgn e.2.toNat)).sum := by
  have h : ∀ k, k ≤ es.length → eulTo es k = ((es.take k).map (fun e => sgn e.2.toNat)).sum := by
    intro k
    induction k with
    | zero => intro _; rfl
    | succ k ih =>
      intro hk
      rw [eulTo_succ, ih (by omega), List.take_succ_eq_append_getElem (by omega), List.map_append, List.sum_append, List.getD_eq_getElem?_getD, List.getElem?_eq_getElem (show k < es.length by omega)]
      simp [sgn]
  have := h es.length (Nat.le_refl _)
  rw [List.take_length] at this
  exact this
theorem sum_flat {α : Type} (l : List α) (g : α → List Int) : (l.flatMap g).sum = (l.map (fun a => (g a).sum)).sum := by
  induction l with
  | nil => rfl
  | cons a l ih => rw [List.flatMap_cons, List.sum_append, ih, List.map_cons, List.sum_cons]
theorem sum_filt {α : Type} (l : List α) (p : α → Bool) (g : α → Int) : ((l.filter p).map g).sum = (l.map (fun a => if p a = true then g a else 0)).sum := by
  induction l with
  | nil => rfl
  | cons a l ih =>
    rw [List.filter_cons]
    cases h : p a with
    | true => rw [if_pos rfl, List.map_cons, List.map_cons, List.sum_cons, List.sum_cons, ih, if_pos h]
    | false => rw [if_neg (by decide), List.map_cons, List.sum_cons, ih, if_neg (by rw [h]; decide), Int.zero_add]
/-- what EulerOf answers is Euler's number -/
theorem eul_ch {m : Nat} {ns : List Nat} (h : Cls m ns) : eulTo (cbTo ns m ns.length) (cbTo ns m ns.length).length = chF m (inF ns) := by
  rw [eul_sum, ← cs_cb h, ← eu_ch h.pts, csTo, List.map_flatMap, sum_flat, sum_range, euF]
  apply smF_congr
  intro a _
  rw [cbIn, List.map_map]
  rw [← sum_range, ← sum_filt]
  rfl
/-- of an extremal class, and a set, it is 1 -/
theorem eul_ext {m : Nat} {ns : List Nat} (h : Cls m ns) (he : extL m ns) (hne : ns ≠ []) : eulTo (cbTo ns m ns.length) (cbTo ns m ns.length).length = 1 := by
  have hb := ext_both h he
  have ha : ampF m (inF ns) := fun s hs hh => by
    rw [← sht_sh h hs] at hh
    have : s ∈ (List.range (2 ^ m)).filter (strg ns) := by rw [hb, List.mem_filter, List.mem_range]; exact ⟨hs, hh⟩
    rw [List.mem_filter] at this
    rw [← strg_st h hs]
    exact this.2
  rw [eul_ch h, chF_amp h.pts ha, h.cnt, if_neg (fun e => hne (List.eq_nil_of_length_eq_zero e))]
theorem eul_flip {m x : Nat} {ns : List Nat} (h : Cls m ns) (hx : x < 2 ^ m) : eulTo (cbTo (flp x ns) m (flp x ns).length) (cbTo (flp x ns) m (flp x ns).length).length = eulTo (cbTo ns m ns.length) (cbTo ns m ns.length).length := by
  rw [eul_ch h, eul_ch (flp_cls h hx), chF_congr (fun s _ => inF_flp h hx s), chF_flip h.pts _ hx]

end Go.Proofs.Ytgldckgecoijfaa
