/- The number of edges: by the last point, by any point, summed over the points; no more than the dimension times the sets; no fewer where a point is shifted. No program. -/
import Derived.Test.YtpkilacappjkhaaEdgN
import Derived.Test.YtpkilacappjkhaaZI
namespace Go.Proofs.Ytpkilacappjkhaa
open Go.RowKit

/-- the number of edges -/
def eF : Nat → (Nat → Bool) → Nat
  | 0, _ => 0
  | n + 1, f => eF n f + eF n (up n f) + cnt n (andF f (up n f))
theorem eF_congr {n : Nat} {f g : Nat → Bool} (h : ∀ s, s < 2 ^ n → f s = g s) : eF n f = eF n g := by
  induction n generalizing f g with
  | zero => rfl
  | succ n ih =>
    have h1 : ∀ s, s < 2 ^ n → f s = g s := fun s hs => h s (by rw [Nat.pow_succ]; omega)
    have h2 : ∀ s, s < 2 ^ n → up n f s = up n g s := fun s hs => h (s + 2 ^ n) (by rw [Nat.pow_succ]; omega)
    rw [eF, eF, ih h1, ih h2, cnt_congr (f := andF f (up n f)) (g := andF g (up n g)) (fun s hs => by simp only [andF]; rw [h1 s hs, h2 s hs])]
theorem eF_sup (n : Nat) (f g : Nat → Bool) : eF n f + eF n g ≤ eF n (orF f g) + eF n (andF f g) := by
  induction n generalizing f g with
  | zero => simp [eF]
  | succ n ih =>
    have h1 := ih f g
    have h2 := ih (up n f) (up n g)
    have h3 := cnt_or_and n (andF f (up n f)) (andF g (up n g))
    have h4 : cnt n (orF (andF f (up n f)) (andF g (up n g))) ≤ cnt n (andF (orF f g) (up n (orF f g))) := cnt_mono (fun s _ hs => by
      simp only [orF, andF, up, Bool.or_eq_true, Bool.and_eq_true] at hs ⊢
      rcases hs with hs | hs
      · exact ⟨.inl hs.1, .inl hs.2⟩
      · exact ⟨.inr hs.1, .inr hs.2⟩)
    have h5 : cnt n (andF (andF f (up n f)) (andF g (up n g))) = cnt n (andF (andF f g) (up n (andF f g))) := cnt_congr (fun s _ => by
      simp only [andF, up]
      cases f s <;> cases g s <;> simp)
    show eF n f + eF n (up n f) + cnt n (andF f (up n f)) + (eF n g + eF n (up n g) + cnt n (andF g (up n g))) ≤ eF n (orF f g) + eF n (orF (up n f) (up n g)) + cnt n (andF (orF f g) (up n (orF f g))) + (eF n (andF f g) + eF n (andF (up n f) (up n g)) + cnt n (andF (andF f g) (up n (andF f g))))
    omega
theorem pc_up {n s : Nat} (hn : n < 5) (hs : s < 2 ^ n) : pc (s + 2 ^ n) = pc s + 1 := by
  have key : ∀ n : Fin 5, ∀ s : Fin 16, (s : Nat) < 2 ^ (n : Nat) → pc ((s : Nat) + 2 ^ (n : Nat)) = pc (s : Nat) + 1 := by decide +kernel
  have h16 := sixteen hn
  exact key ⟨n, hn⟩ ⟨s, by omega⟩ hs
theorem shF_zero {n : Nat} {f : Nat → Bool} (h : cnt n f ≠ 0) : shF n f 0 = true := by
  induction n generalizing f with
  | zero =>
    rw [cnt] at h
    rw [shF]
    cases h0 : f 0 with
    | true => rfl
    | false => rw [h0] at h; simp at h
  | succ n ih =>
    rw [shF, if_pos (Nat.two_pow_pos n)]
    apply ih
    rw [cnt] at h
    have h1 := cnt_or_and n f (up n f)
    have h2 : cnt n (andF f (up n f)) ≤ cnt n (orF f (up n f)) := cnt_mono (fun s _ hs => by
      simp only [orF, andF, Bool.or_eq_true, Bool.and_eq_true] at hs ⊢
      exact .inl hs.1)
    omega
/-- no more edges than the dimension times the sets -/
theorem eF_le {n : Nat} (hn : n ≤ 5) (f : Nat → Bool) (d : Nat) (h : ∀ s, s < 2 ^ n → shF n f s = true → pc s ≤ d) : eF n f ≤ d * cnt n f := by
  induction n generalizing f d with
  | zero => simp [eF]
  | succ n ih =>
    have hp : 2 ^ (n + 1) = 2 ^ n + 2 ^ n := by rw [Nat.pow_succ]; omega
    have hor := ih (by omega) (orF f (up n f)) d (fun s hs hh => h s (by omega) (by rw [shF, if_pos hs]; exact hh))
    have hsum := cnt_or_and n f (up n f)
    have hsup := eF_sup n f (up n f)
    have hand : ∀ s, s < 2 ^ n → shF n (andF f (up n f)) s = true → pc s + 1 ≤ d := fun s hs hh => by
      have h1 := shF_and n f (up n f) s hh
      have h2 := h (s + 2 ^ n) (by omega) (by rw [shF, if_neg (by omega), Nat.add_sub_cancel, h1.1, h1.2]; rfl)
      rw [pc_up (by omega) hs] at h2
      exact h2
    rw [eF, cnt, ← hsum]
    by_cases hz : cnt n (andF f (up n f)) = 0
    · have h3 := ih (by omega) (andF f (up n f)) d (fun s hs hh => by have := hand s hs hh; omega)
      rw [hz] at h3 ⊢
      rw [Nat.mul_zero] at h3
      simp only [Nat.add_zero]
      omega
    · have h0 := hand 0 (Nat.two_pow_pos n) (shF_zero hz)
      obtain ⟨e, rfl⟩ : ∃ e, d = e + 1 := ⟨d - 1, by omega⟩
      have h3 := ih (by omega) (andF f (up n f)) e (fun s hs hh => by have := hand s hs hh; omega)
      have e1 : (e + 1) * (cnt n (orF f (up n f)) + cnt n (andF f (up n f))) = (e + 1) * cnt n (orF f (up n f)) + (e * cnt n (andF f (up n f)) + cnt n (andF f (up n f))) := by rw [Nat.mul_add, Nat.succ_mul e (cnt n (andF f (up n f)))]
      omega

/-- the sets that have an edge at the point y -/
def eY (y : Nat) (f : Nat → Bool) : Nat → Bool := fun s => f s && (!hasX y s && f (s + 2 ^ y))
theorem sum_add {α : Type} (l : List α) (f g : α → Nat) : (l.map (fun y => f y + g y)).sum = (l.map f).sum + (l.map g).sum := by
  induction l with
  | nil => rfl
  | cons a l ih => simp only [List.map_cons, List.sum_cons, ih]; omega
theorem sum_if {α : Type} (l : List α) (p : α → Bool) : (l.map (fun y => if p y = true then 1 else 0)).sum = l.countP p := by
  induction l with
  | nil => rfl
  | cons a l ih => simp only [List.map_cons, List.sum_cons, List.countP_cons, ih]; omega
theorem sum_swap {α β : Type} (l : List α) (r : List β) (q : α → β → Bool) : (l.map (fun s => r.countP (q s))).sum = (r.map (fun y => l.countP (fun s => q s y))).sum := by
  induction l with
  | nil =>
    simp only [List.map_nil, List.sum_nil, List.countP_nil]
    induction r with
    | nil => rfl
    | cons b r ih => simp only [List.map_cons, List.sum_cons, ← ih, Nat.add_zero]
  | cons a l ih =>
    simp only [List.map_cons, List.sum_cons, List.countP_cons, ih]
    rw [sum_add, sum_if]
    omega
theorem has_high {n y s : Nat} (hn : n < 5) (hy : y < n) (hs : s < 2 ^ n) : hasX y (s + 2 ^ n) = hasX y s := by
  have key : ∀ n : Fin 5, ∀ y : Fin 5, ∀ s : Fin 16, (y : Nat) < (n : Nat) → (s : Nat) < 2 ^ (n : Nat) → hasX (y : Nat) ((s : Nat) + 2 ^ (n : Nat)) = hasX (y : Nat) (s : Nat) := by decide +kernel
  have h16 := sixteen hn
  exact key ⟨n, hn⟩ ⟨y, by omega⟩ ⟨s, by omega⟩ hy hs
theorem has_last {n s : Nat} (hn : n < 5) (hs : s < 2 ^ n) : hasX n s = false ∧ hasX n (s + 2 ^ n) = true := by
  have key : ∀ n : Fin 5, ∀ s : Fin 16, (s : Nat) < 2 ^ (n : Nat) → hasX (n : Nat) (s : Nat) = false ∧ hasX (n : Nat) ((s : Nat) + 2 ^ (n : Nat)) = true := by decide +kernel
  have h16 := sixteen hn
  exact key ⟨n, hn⟩ ⟨s, by omega⟩ hs
theorem eF_sum {n : Nat} (hn : n ≤ 5) (f : Nat → Bool) : eF n f = ((List.range n).map (fun y => cnt n (eY y f))).sum := by
  induction n generalizing f with
  | zero => rfl
  | succ n ih =>
    rw [eF, ih (by omega) f, ih (by omega) (up n f), List.range_succ, List.map_append, List.sum_append, ← sum_add]
    have e1 : (List.range n).map (fun y => cnt (n + 1) (eY y f)) = (List.range n).map (fun y => cnt n (eY y f) + cnt n (eY y (up n f))) := List.map_congr_left (fun y hy => by
      rw [List.mem_range] at hy
      rw [cnt]
      congr 1
      apply cnt_congr
      intro s hs
      simp only [up, eY]
      rw [has_high (by omega) hy hs, Nat.add_right_comm])
    have e2 : cnt (n + 1) (eY n f) = cnt n (andF f (up n f)) := by
      rw [cnt, cnt_congr (f := eY n f) (g := andF f (up n f)) (fun s hs => by simp only [eY, andF, up]; rw [(has_last (by omega) hs).1]; rfl), cnt_congr (f := up n (eY n f)) (g := fun _ => false) (fun s hs => by simp only [eY, up]; rw [(has_last (by omega) hs).2]; simp), cnt_none, Nat.add_zero]
    rw [e1, List.map_cons, List.map_nil, List.sum_cons, List.sum_nil, Nat.add_zero, e2]
theorem xor_has {y s : Nat} (hy : y < 5) (hs : s < 32) : (hasX y s = false → s ^^^ 2 ^ y = s + 2 ^ y) ∧ (hasX y s = true → ¬ s < s ^^^ 2 ^ y) := by
  have key : ∀ y : Fin 5, ∀ s : Fin 32, (hasX (y : Nat) (s : Nat) = false → (s : Nat) ^^^ 2 ^ (y : Nat) = (s : Nat) + 2 ^ (y : Nat)) ∧ (hasX (y : Nat) (s : Nat) = true → ¬ (s : Nat) < (s : Nat) ^^^ 2 ^ (y : Nat)) := by decide +kernel
  exact key ⟨y, hy⟩ ⟨s, hs⟩
theorem range_getD (l : List Nat) : (List.range l.length).map (fun i => l.getD i 0) = l := by
  apply List.ext_getElem
  · simp
  · intro i h1 h2
    rw [List.getElem_map, List.getElem_range, List.getD_eq_getElem?_getD, List.getElem?_eq_getElem h2]
    rfl
theorem many_cnt {m : Nat} {ns : List Nat} (h : Cls m ns) (p : Nat → Bool) : ns.countP p = cnt m (fun s => inF ns s && p s) := by
  have h1 : ns.countP p = ((List.range (2 ^ m)).filter (inF ns)).countP p := by rw [h.self]
  rw [h1, List.countP_eq_length_filter, List.filter_filter, cnt_filter]
  exact cnt_congr (fun s _ => Bool.and_comm _ _)
/-- the number of edges, as a list -/
theorem eg_count {m : Nat} {ns : List Nat} (hc : Cls m ns) : (egTo ns ns.length).length = eF m (inF ns) := by
  have hm := hc.pts
  rw [egTo, List.length_flatMap, eF_sum hm]
  have e1 : (List.range ns.length).map (fun i => (egIn ns i ns.length).length) = (List.range ns.length).map (fun i => (fun s => (List.range m).countP (fun y => decide (s ^^^ 2 ^ y ∈ ns) && decide (s < s ^^^ 2 ^ y))) (ns.getD i 0)) := List.map_congr_left (fun i hi => by
    rw [List.mem_range] at hi
    rw [eg_near hc hi, List.length_map, ← List.countP_eq_length_filter, nearTo, List.countP_filter, List.countP_map]
    apply List.countP_congr
    intro y _
    simp only [Function.comp_apply, Bool.and_eq_true, decide_eq_true_eq]
    exact And.comm)
  rw [e1, show (List.range ns.length).map (fun i => (fun s => (List.range m).countP (fun y => decide (s ^^^ 2 ^ y ∈ ns) && decide (s < s ^^^ 2 ^ y))) (ns.getD i 0)) = ns.map (fun s => (List.range m).countP (fun y => decide (s ^^^ 2 ^ y ∈ ns) && decide (s < s ^^^ 2 ^ y))) by
    have h9 : ∀ g : Nat → Nat, (List.range ns.length).map (fun i => g (ns.getD i 0)) = ns.map g := fun g => by
      have h8 := congrArg (List.map g) (range_getD ns)
      rw [List.map_map] at h8
      exact h8
    exact h9 (fun s => (List.range m).countP (fun y => decide (s ^^^ 2 ^ y ∈ ns) && decide (s < s ^^^ 2 ^ y))), sum_swap]
  congr 1
  apply List.map_congr_left
  intro y hy
  rw [List.mem_range] at hy
  rw [many_cnt hc]
  apply cnt_congr
  intro s hs
  have h32 := pow_le_32 hm
  obtain ⟨x1, x2⟩ := xor_has (y := y) (s := s) (by omega) (by omega)
  simp only [eY]
  congr 1
  have hp := Nat.two_pow_pos y
  cases hh : hasX y s with
  | false =>
    rw [x1 hh, show decide (s < s + 2 ^ y) = true from decide_eq_true (by omega)]
    simp [inF]
  | true =>
    rw [show decide (s < s ^^^ 2 ^ y) = false from decide_eq_false (x2 hh)]
    simp

/-- the sets without x, the sets with x -/
def dnX (x : Nat) (f : Nat → Bool) : Nat → Bool := fun t => f (ins x t)
def upX (x : Nat) (f : Nat → Bool) : Nat → Bool := fun t => f (ins x t + 2 ^ x)
theorem cnt_ins' {n x : Nat} (hn : n < 5) (hx : x ≤ n) (f : Nat → Bool) : cnt (n + 1) f = cnt n (dnX x f) + cnt n (upX x f) := cnt_ins hn hx f
theorem dn_up {n x : Nat} (hn : n < 4) (hx : x ≤ n) (f : Nat → Bool) : ∀ t, t < 2 ^ n → up n (dnX x f) t = dnX x (up (n + 1) f) t ∧ up n (upX x f) t = upX x (up (n + 1) f) t := fun t ht => by
  simp only [up, dnX, upX]
  rw [ins_up hn hx ht]
  exact ⟨rfl, by rw [Nat.add_right_comm]⟩
theorem dn_top {n : Nat} (f : Nat → Bool) : ∀ t, t < 2 ^ n → dnX n f t = f t ∧ upX n f t = up n f t := fun t ht => by
  simp only [up, dnX, upX]
  rw [ins_top ht]
  exact ⟨rfl, rfl⟩
theorem eF_ins {n x : Nat} (hn : n < 5) (hx : x ≤ n) (f : Nat → Bool) : eF (n + 1) f = eF n (dnX x f) + eF n (upX x f) + cnt n (andF (dnX x f) (upX x f)) := by
  induction n generalizing x f with
  | zero =>
    obtain rfl : x = 0 := by omega
    rfl
  | succ n ih =>
    by_cases e : x = n + 1
    · subst e
      have h1 := dn_top (n := n + 1) f
      rw [eF, eF_congr (f := dnX (n + 1) f) (fun t ht => (h1 t ht).1), eF_congr (f := upX (n + 1) f) (fun t ht => (h1 t ht).2), cnt_congr (f := andF (dnX (n + 1) f) (upX (n + 1) f)) (g := andF f (up (n + 1) f)) (fun t ht => by simp only [andF]; rw [(h1 t ht).1, (h1 t ht).2])]
    · have hx2 : x ≤ n := by omega
      have hd := dn_up (n := n) (x := x) (by omega) hx2 f
      rw [eF, ih (by omega) hx2 f, ih (by omega) hx2 (up (n + 1) f), cnt_ins' (by omega) hx2]
      rw [show eF (n + 1) (dnX x f) = eF n (dnX x f) + eF n (up n (dnX x f)) + cnt n (andF (dnX x f) (up n (dnX x f))) from rfl, show eF (n + 1) (upX x f) = eF n (upX x f) + eF n (up n (upX x f)) + cnt n (andF (upX x f) (up n (upX x f))) from rfl]
      rw [eF_congr (f := up n (dnX x f)) (fun t ht => (hd t ht).1), eF_congr (f := up n (upX x f)) (fun t ht => (hd t ht).2)]
      rw [show cnt (n + 1) (andF (dnX x f) (upX x f)) = cnt n (andF (dnX x f) (upX x f)) + cnt n (andF (up n (dnX x f)) (up n (upX x f))) from rfl]
      rw [cnt_congr (f := andF (up n (dnX x f)) (up n (upX x f))) (g := andF (dnX x (up (n + 1) f)) (upX x (up (n + 1) f))) (fun t ht => by simp only [andF]; rw [(hd t ht).1, (hd t ht).2])]
      rw [cnt_congr (f := andF (dnX x f) (up n (dnX x f))) (g := dnX x (andF f (up (n + 1) f))) (fun t ht => by simp only [andF]; rw [(hd t ht).1]; rfl)]
      rw [cnt_congr (f := andF (upX x f) (up n (upX x f))) (g := upX x (andF f (up (n + 1) f))) (fun t ht => by simp only [andF]; rw [(hd t ht).2]; rfl)]
      omega

end Go.Proofs.Ytpkilacappjkhaa
