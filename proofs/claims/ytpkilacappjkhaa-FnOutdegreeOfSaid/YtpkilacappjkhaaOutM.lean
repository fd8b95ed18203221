/- Edges given to sets: how many a set gets at least at most. Sums over pairs of sets; too many edges among some sets; a handing out. No program. -/
import Derived.Test.YtpkilacappjkhaaEdC
namespace Go.Proofs.Ytpkilacappjkhaa
open Go.RowKit

/-- a sum over a list -/
def sm (l : List Nat) (f : Nat → Nat) : Nat := (l.map f).sum
theorem sm_nil (f : Nat → Nat) : sm [] f = 0 := rfl
theorem sm_cons (a : Nat) (l : List Nat) (f : Nat → Nat) : sm (a :: l) f = f a + sm l f := by simp [sm]
theorem sm_le {l : List Nat} {f g : Nat → Nat} (h : ∀ s ∈ l, f s ≤ g s) : sm l f ≤ sm l g := by
  induction l with
  | nil => exact Nat.le_refl _
  | cons a l ih =>
    rw [sm_cons, sm_cons]
    have h1 := h a (by simp)
    have h2 := ih (fun s hs => h s (by simp [hs]))
    omega
theorem sm_congr {l : List Nat} {f g : Nat → Nat} (h : ∀ s ∈ l, f s = g s) : sm l f = sm l g :=
  Nat.le_antisymm (sm_le fun s hs => Nat.le_of_eq (h s hs)) (sm_le fun s hs => Nat.le_of_eq (h s hs).symm)
theorem sm_lt {l : List Nat} {f g : Nat → Nat} (h : ∀ s ∈ l, f s ≤ g s) {x : Nat} (hx : x ∈ l) (hlt : f x < g x) : sm l f < sm l g := by
  induction l with
  | nil => simp at hx
  | cons a l ih =>
    rw [sm_cons, sm_cons]
    have h1 := h a (by simp)
    have h3 : ∀ s ∈ l, f s ≤ g s := fun s hs => h s (by simp [hs])
    rcases List.mem_cons.1 hx with e | e
    · subst e
      have := sm_le h3
      omega
    · have := ih h3 e
      omega
theorem sm_add (l : List Nat) (f g : Nat → Nat) : sm l (fun s => f s + g s) = sm l f + sm l g := by
  induction l with
  | nil => rfl
  | cons a l ih => rw [sm_cons, sm_cons, sm_cons, ih]; omega
theorem sm_zero (l : List Nat) : sm l (fun _ => 0) = 0 := by
  induction l with
  | nil => rfl
  | cons a l ih => rw [sm_cons, ih]
theorem sm_swap (l r : List Nat) (f : Nat → Nat → Nat) : sm l (fun s => sm r (f s)) = sm r (fun t => sm l (fun s => f s t)) := by
  induction l with
  | nil => simp only [sm_nil, sm_zero]
  | cons a l ih =>
    rw [sm_cons, ih, ← sm_add]
    exact sm_congr fun t _ => (sm_cons a l (fun s => f s t)).symm
theorem sm_if (l : List Nat) (p : Nat → Bool) (k : Nat) : sm l (fun s => if p s = true then k else 0) = k * l.countP p := by
  induction l with
  | nil => rfl
  | cons a l ih =>
    rw [sm_cons, ih, List.countP_cons]
    split
    · rw [Nat.mul_add]; omega
    · simp
theorem sm_cond (l : List Nat) (b : Bool) (f : Nat → Nat) : sm l (fun s => if b = true then f s else 0) = if b = true then sm l f else 0 := by
  cases b with
  | true => rfl
  | false => simp [sm_zero]
theorem sm_eq_le {r : List Nat} (hn : r.Nodup) (a : Nat) : sm r (fun t => if a = t then 1 else 0) ≤ 1 := by
  induction r with
  | nil => simp [sm_nil]
  | cons b r ih =>
    rw [List.nodup_cons] at hn
    rw [sm_cons]
    by_cases e : a = b
    · subst e
      have : sm r (fun t => if a = t then 1 else 0) = 0 := (sm_congr fun t ht => if_neg (fun e => hn.1 (by rw [e]; exact ht))).trans (sm_zero r)
      rw [this, if_pos rfl]
      omega
    · rw [if_neg e]
      have := ih hn.2
      omega
theorem sm_eq_mem {r : List Nat} (hn : r.Nodup) {a : Nat} (ha : a ∈ r) : sm r (fun t => if a = t then 1 else 0) = 1 := by
  have h1 := sm_eq_le hn a
  have h2 := sm_lt (l := r) (f := fun _ => 0) (g := fun t => if a = t then 1 else 0) (fun s _ => Nat.zero_le _) ha (by simp)
  rw [sm_zero] at h2
  omega
theorem sm_count_le {r : List Nat} (hn : r.Nodup) (l : List Nat) : sm r (fun t => l.count t) ≤ l.length := by
  induction l with
  | nil => simp [sm_zero]
  | cons a l ih =>
    have e : sm r (fun t => (a :: l).count t) = sm r (fun t => l.count t) + sm r (fun t => if a = t then 1 else 0) := by
      rw [← sm_add]
      exact sm_congr fun t _ => by rw [List.count_cons]; simp
    rw [e, List.length_cons]
    have := sm_eq_le hn a
    omega
theorem sm_count_eq {r : List Nat} (hn : r.Nodup) (l : List Nat) (h : ∀ x ∈ l, x ∈ r) : sm r (fun t => l.count t) = l.length := by
  induction l with
  | nil => simp [sm_zero]
  | cons a l ih =>
    have e : sm r (fun t => (a :: l).count t) = sm r (fun t => l.count t) + sm r (fun t => if a = t then 1 else 0) := by
      rw [← sm_add]
      exact sm_congr fun t _ => by rw [List.count_cons]; simp
    rw [e, List.length_cons, ih (fun x hx => h x (by simp [hx])), sm_eq_mem hn (h a (by simp))]

/-- the edge of s and t, if it is one among the sets S -/
def ed (S : Nat → Bool) (s t : Nat) : Nat := if s < t ∧ adj s t = true ∧ S s = true ∧ S t = true then 1 else 0
/-- how many edges there are among the sets S -/
def eIn (ns : List Nat) (S : Nat → Bool) : Nat := sm ns (fun s => sm ns (ed S s))
/-- some sets have more edges than k for each of them -/
def Vio (ns : List Nat) (k : Nat) : Prop := ∃ S : Nat → Bool, k * ns.countP S < eIn ns S
/-- the edges can be given to their ends so that none gets more than k -/
def Asg (ns : List Nat) (k : Nat) : Prop := ∃ G : Nat → List Nat, (∀ s ∈ ns, (G s).length ≤ k) ∧ ∀ s ∈ ns, ∀ t ∈ ns, s < t → adj s t = true → t ∈ G s ∨ s ∈ G t
/-- k is the least number for which the edges can be given so -/
def Odg (ns : List Nat) (k : Nat) : Prop := Asg ns k ∧ ∀ j, j < k → Vio ns j
theorem Vio.mono {ns : List Nat} {j k : Nat} (h : Vio ns k) (hj : j ≤ k) : Vio ns j := by
  obtain ⟨S, hS⟩ := h
  exact ⟨S, Nat.lt_of_le_of_lt (Nat.mul_le_mul_right _ hj) hS⟩
theorem asc_nodup {ns : List Nat} (h : ns.Pairwise (· < ·)) : ns.Nodup := h.imp (fun h => Nat.ne_of_lt h)

theorem Asg.bound {ns : List Nat} {k : Nat} (hn : ns.Nodup) (h : Asg ns k) (S : Nat → Bool) : eIn ns S ≤ k * ns.countP S := by
  obtain ⟨G, h1, h2⟩ := h
  have hA : eIn ns S ≤ sm ns (fun s => sm ns (fun t => (if S s = true ∧ s < t then (G s).count t else 0) + (if S t = true ∧ s < t then (G t).count s else 0))) := by
    refine sm_le fun s hs => sm_le fun t ht => ?_
    rw [ed]
    split
    · rename_i h
      rw [if_pos ⟨h.2.2.1, h.1⟩, if_pos ⟨h.2.2.2, h.1⟩]
      rcases h2 s hs t ht h.1 h.2.1 with h3 | h3
      · have := List.count_pos_iff.2 h3; omega
      · have := List.count_pos_iff.2 h3; omega
    · exact Nat.zero_le _
  have hB : sm ns (fun s => sm ns (fun t => (if S s = true ∧ s < t then (G s).count t else 0) + (if S t = true ∧ s < t then (G t).count s else 0)))
      = sm ns (fun s => sm ns (fun t => (if S s = true ∧ s < t then (G s).count t else 0) + (if S s = true ∧ t < s then (G s).count t else 0))) := by
    have e1 : ∀ f g : Nat → Nat → Nat, sm ns (fun s => sm ns (fun t => f s t + g s t)) = sm ns (fun s => sm ns (f s)) + sm ns (fun s => sm ns (g s)) := fun f g => by
      rw [← sm_add]
      exact sm_congr fun s _ => sm_add ns (f s) (g s)
    rw [e1 (fun s t => if S s = true ∧ s < t then (G s).count t else 0) (fun s t => if S t = true ∧ s < t then (G t).count s else 0), e1 (fun s t => if S s = true ∧ s < t then (G s).count t else 0) (fun s t => if S s = true ∧ t < s then (G s).count t else 0)]
    rw [sm_swap ns ns (fun s t => if S t = true ∧ s < t then (G t).count s else 0)]
  have hC : sm ns (fun s => sm ns (fun t => (if S s = true ∧ s < t then (G s).count t else 0) + (if S s = true ∧ t < s then (G s).count t else 0))) ≤ sm ns (fun s => if S s = true then k else 0) := by
    refine sm_le fun s hs => ?_
    have h3 := sm_count_le hn (G s)
    have h4 := h1 s hs
    cases hS : S s with
    | true =>
      refine Nat.le_trans (sm_le (g := fun t => (G s).count t) fun t _ => ?_) (by simp; omega)
      rcases Nat.lt_trichotomy s t with h | h | h
      · rw [if_pos ⟨rfl, h⟩, if_neg (fun e => by omega)]; omega
      · rw [if_neg (fun e => by omega), if_neg (fun e => by omega)]; omega
      · rw [if_neg (fun e => by omega), if_pos ⟨rfl, h⟩]; omega
    | false => simp [sm_zero]
  rw [sm_if] at hC
  omega
theorem Asg.not_vio {ns : List Nat} {k : Nat} (hn : ns.Nodup) (h : Asg ns k) : ¬ Vio ns k := fun ⟨S, hS⟩ => by
  have := h.bound hn S
  omega
theorem Odg.uniq {ns : List Nat} {j k : Nat} (hn : ns.Nodup) (h : Odg ns j) (h2 : Odg ns k) : j = k := by
  rcases Nat.lt_trichotomy j k with h3 | h3 | h3
  · exact absurd (h2.2 j h3) (h.1.not_vio hn)
  · exact h3
  · exact absurd (h.2 k h3) (h2.1.not_vio hn)

/-- an edge more than the sets S may get: all they have leads into S, and one is not given -/
theorem vio_of {ns : List Nat} {k : Nat} (hn : ns.Nodup) (S : Nat → Bool) (G : Nat → List Nat) (h1 : ∀ s ∈ ns, S s = true → k ≤ (G s).length) (h2 : ∀ s ∈ ns, S s = true → ∀ t ∈ G s, t ∈ ns ∧ S t = true)
    (h3 : ∀ s ∈ ns, ∀ t ∈ ns, s < t → (G s).count t + (G t).count s ≤ if adj s t = true then 1 else 0) (h4 : ∀ s ∈ ns, s ∉ G s)
    {n m : Nat} (hN : n ∈ ns) (hM : m ∈ ns) (hlt : n < m) (ha : adj n m = true) (hSn : S n = true) (hSm : S m = true) (h5 : (G n).count m + (G m).count n = 0) : Vio ns k := by
  refine ⟨S, ?_⟩
  have hA : k * ns.countP S ≤ sm ns (fun s => sm ns (fun t => if S s = true then (G s).count t else 0)) := by
    rw [← sm_if]
    refine sm_le fun s hs => ?_
    rw [sm_cond]
    split
    · rename_i h
      rw [sm_count_eq hn (G s) (fun x hx => (h2 s hs h x hx).1)]
      exact h1 s hs h
    · exact Nat.le_refl _
  have hB : sm ns (fun s => sm ns (fun t => if S s = true then (G s).count t else 0)) = sm ns (fun s => sm ns (fun t => (if S s = true ∧ s < t then (G s).count t else 0) + (if S t = true ∧ s < t then (G t).count s else 0))) := by
    have e1 : ∀ f g : Nat → Nat → Nat, sm ns (fun s => sm ns (fun t => f s t + g s t)) = sm ns (fun s => sm ns (f s)) + sm ns (fun s => sm ns (g s)) := fun f g => by
      rw [← sm_add]
      exact sm_congr fun s _ => sm_add ns (f s) (g s)
    rw [e1 (fun s t => if S s = true ∧ s < t then (G s).count t else 0) (fun s t => if S t = true ∧ s < t then (G t).count s else 0), sm_swap ns ns (fun s t => if S t = true ∧ s < t then (G t).count s else 0), ← e1 (fun s t => if S s = true ∧ s < t then (G s).count t else 0) (fun s t => if S s = true ∧ t < s then (G s).count t else 0)]
    refine sm_congr fun s hs => sm_congr fun t _ => ?_
    cases hS : S s with
    | true =>
      rcases Nat.lt_trichotomy s t with h | h | h
      · rw [if_pos rfl, if_pos ⟨rfl, h⟩, if_neg (fun e => by omega)]; rfl
      · subst h
        rw [if_pos rfl, if_neg (fun e => by omega), List.count_eq_zero.2 (h4 s hs)]
      · rw [if_pos rfl, if_neg (fun e => by omega), if_pos ⟨rfl, h⟩]; omega
    | false => simp
  have hT : ∀ s ∈ ns, ∀ t ∈ ns, (if S s = true ∧ s < t then (G s).count t else 0) + (if S t = true ∧ s < t then (G t).count s else 0) ≤ ed S s t := by
    intro s hs t ht
    by_cases hst : s < t
    · have h6 := h3 s hs t ht hst
      rw [ed]
      by_cases p1 : S s = true ∧ 0 < (G s).count t
      · have hSt := (h2 s hs p1.1 t (List.count_pos_iff.1 p1.2)).2
        rw [if_pos ⟨p1.1, hst⟩, if_pos ⟨hSt, hst⟩]
        by_cases hadj : adj s t = true
        · rw [if_pos ⟨hst, hadj, p1.1, hSt⟩]
          rw [if_pos hadj] at h6
          exact h6
        · rw [if_neg hadj] at h6
          omega
      · have e0 : (if S s = true ∧ s < t then (G s).count t else 0) = 0 := by
          split
          · rename_i h
            rcases Nat.eq_zero_or_pos ((G s).count t) with h7 | h7
            · exact h7
            · exact absurd ⟨h.1, h7⟩ p1
          · rfl
        rw [e0]
        by_cases p2 : S t = true ∧ 0 < (G t).count s
        · have hSs := (h2 t ht p2.1 s (List.count_pos_iff.1 p2.2)).2
          rw [if_pos ⟨p2.1, hst⟩]
          by_cases hadj : adj s t = true
          · rw [if_pos ⟨hst, hadj, hSs, p2.1⟩]
            rw [if_pos hadj] at h6
            omega
          · rw [if_neg hadj] at h6
            omega
        · have e1 : (if S t = true ∧ s < t then (G t).count s else 0) = 0 := by
            split
            · rename_i h
              rcases Nat.eq_zero_or_pos ((G t).count s) with h7 | h7
              · exact h7
              · exact absurd ⟨h.1, h7⟩ p2
            · rfl
          rw [e1]
          exact Nat.zero_le _
    · rw [if_neg (fun e => hst e.2), if_neg (fun e => hst e.2)]
      exact Nat.zero_le _
  have hC : sm ns (fun s => sm ns (fun t => (if S s = true ∧ s < t then (G s).count t else 0) + (if S t = true ∧ s < t then (G t).count s else 0))) < eIn ns S := by
    refine sm_lt (fun s hs => sm_le fun t ht => hT s hs t ht) hN (sm_lt (fun t ht => hT n hN t ht) hM ?_)
    rw [if_pos ⟨hSn, hlt⟩, if_pos ⟨hSm, hlt⟩, h5, ed, if_pos ⟨hlt, ha, hSn, hSm⟩]
    omega
  omega

/-- as many edges as pairs among the sets, at most -/
theorem eIn_le (ns : List Nat) (S : Nat → Bool) : eIn ns S ≤ ns.length * ns.length := by
  have h0 : ∀ (l : List Nat) (k : Nat), sm l (fun _ => k) = k * l.length := fun l k => by
    have := sm_if l (fun _ => true) k
    simpa using this
  have h1 : eIn ns S ≤ sm ns (fun _ => ns.length) := sm_le fun s _ => by
    have h2 : sm ns (ed S s) ≤ sm ns (fun _ => 1) := sm_le fun t _ => by rw [ed]; split <;> omega
    rw [h0] at h2
    omega
  rw [h0] at h1
  exact h1
theorem Vio.lt {ns : List Nat} {k : Nat} (h : Vio ns k) : k < ns.length * ns.length := by
  obtain ⟨S, hS⟩ := h
  have h1 := eIn_le ns S
  by_cases h0 : ns.countP S = 0
  · have h2 : eIn ns S = 0 := by
      have hS0 : ∀ s ∈ ns, ¬ S s = true := List.countP_eq_zero.1 h0
      have : eIn ns S = sm ns (fun _ => 0) := sm_congr fun s hs => by
        rw [show sm ns (ed S s) = sm ns (fun _ => 0) from sm_congr fun t _ => by rw [ed, if_neg (fun e => hS0 s hs e.2.2.1)], sm_zero]
      rw [this, sm_zero]
    omega
  · have : k * 1 ≤ k * ns.countP S := Nat.mul_le_mul_left _ (by omega)
    omega

end Go.Proofs.Ytpkilacappjkhaa
