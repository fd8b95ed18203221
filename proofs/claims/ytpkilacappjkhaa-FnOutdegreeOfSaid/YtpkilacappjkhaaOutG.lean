/- Edges given to nodes, by sets: one is given more, one is exchanged; what is asked in vain. No program. -/
import Derived.Test.YtpkilacappjkhaaOutM
namespace Go.Proofs.Ytpkilacappjkhaa
open Go.RowKit

/-- how often s and t have each other -/
def cc (G : Nat → List Nat) (s t : Nat) : Nat := (G s).count t + (G t).count s
/-- are s and t the pair n and m? -/
def pr (n m s t : Nat) : Nat := if (s = n ∧ t = m) ∨ (s = m ∧ t = n) then 1 else 0
theorem pr_comm (n m s t : Nat) : pr n m s t = pr m n s t := by
  rw [pr, pr]
  by_cases h : (s = n ∧ t = m) ∨ (s = m ∧ t = n)
  · rw [if_pos h, if_pos (Or.comm.1 h)]
  · rw [if_neg h, if_neg (fun k => h (Or.comm.1 k))]
def putG (G : Nat → List Nat) (n : Nat) (l : List Nat) : Nat → List Nat := fun s => if s = n then l else G s
theorem putG_me (G : Nat → List Nat) (n : Nat) (l : List Nat) : putG G n l n = l := if_pos rfl
theorem putG_ne {G : Nat → List Nat} {n s : Nat} {l : List Nat} (h : s ≠ n) : putG G n l s = G s := if_neg h
theorem cc_app {G : Nat → List Nat} {n m : Nat} (h : n ≠ m) (s t : Nat) : cc (putG G n (G n ++ [m])) s t = cc G s t + pr n m s t := by
  have h1 : ∀ x, (G n ++ [m]).count x = (G n).count x + if m = x then 1 else 0 := fun x => by
    rw [List.count_append, List.count_cons, List.count_nil, Nat.zero_add]
    simp
  unfold cc pr
  by_cases hs : s = n
  · subst hs
    rw [putG_me, h1]
    by_cases ht : t = s
    · subst ht
      rw [putG_me, h1, if_neg (fun e => h e.symm), if_neg (fun e => by omega)]
      omega
    · rw [putG_ne ht]
      by_cases hm : m = t
      · rw [if_pos hm, if_pos (.inl ⟨rfl, hm.symm⟩)]; omega
      · rw [if_neg hm, if_neg (fun e => by omega)]; omega
  · rw [putG_ne hs]
    by_cases ht : t = n
    · subst ht
      rw [putG_me, h1]
      by_cases hm : m = s
      · rw [if_pos hm, if_pos (.inr ⟨hm.symm, rfl⟩)]; omega
      · rw [if_neg hm, if_neg (fun e => by omega)]; omega
    · rw [putG_ne ht, if_neg (fun e => by omega)]; omega
theorem count_set' (l : List Nat) : ∀ (i : Nat), i < l.length → ∀ m t, (l.set i m).count t + (if l.getD i 0 = t then 1 else 0) = l.count t + if m = t then 1 else 0 := by
  induction l with
  | nil => intro i hi; simp at hi
  | cons a l ih =>
    intro i hi m t
    cases i with
    | zero =>
      rw [List.set_cons_zero, List.count_cons, List.count_cons, show (a :: l).getD 0 0 = a from rfl]
      simp only [beq_iff_eq]
      omega
    | succ i =>
      have := ih i (by simp at hi; omega) m t
      rw [List.set_cons_succ, List.count_cons, List.count_cons, show (a :: l).getD (i + 1) 0 = l.getD i 0 by simp]
      omega
theorem cc_swap {G : Nat → List Nat} {n m i : Nat} (hi : i < (G n).length) (hnm : n ≠ m) (ho : (G n).getD i 0 ≠ n) (s t : Nat) : cc (putG G n ((G n).set i m)) s t + pr n ((G n).getD i 0) s t = cc G s t + pr n m s t := by
  have h1 := fun x => count_set' (G n) i hi m x
  generalize (G n).getD i 0 = o at *
  generalize (G n).set i m = l at *
  unfold cc pr
  by_cases hs : s = n
  · subst hs
    rw [putG_me]
    by_cases ht : t = s
    · subst ht
      have := h1 t
      rw [if_neg ho, if_neg (fun e => hnm e.symm)] at this
      rw [putG_me, if_neg (fun e => by omega), if_neg (fun e => by omega)]
      omega
    · have := h1 t
      rw [putG_ne ht]
      have e1 : (if (s = s ∧ t = o) ∨ (s = o ∧ t = s) then 1 else 0) = if o = t then 1 else 0 := by
        by_cases e : o = t
        · rw [if_pos e, if_pos (.inl ⟨rfl, e.symm⟩)]
        · rw [if_neg e, if_neg (fun e => by omega)]
      have e2 : (if (s = s ∧ t = m) ∨ (s = m ∧ t = s) then 1 else 0) = if m = t then 1 else 0 := by
        by_cases e : m = t
        · rw [if_pos e, if_pos (.inl ⟨rfl, e.symm⟩)]
        · rw [if_neg e, if_neg (fun e => by omega)]
      rw [e1, e2]
      omega
  · rw [putG_ne hs]
    by_cases ht : t = n
    · subst ht
      have := h1 s
      rw [putG_me]
      have e1 : (if (s = t ∧ t = o) ∨ (s = o ∧ t = t) then 1 else 0) = if o = s then 1 else 0 := by
        by_cases e : o = s
        · rw [if_pos e, if_pos (.inr ⟨e.symm, rfl⟩)]
        · rw [if_neg e, if_neg (fun e => by omega)]
      have e2 : (if (s = t ∧ t = m) ∨ (s = m ∧ t = t) then 1 else 0) = if m = s then 1 else 0 := by
        by_cases e : m = s
        · rw [if_pos e, if_pos (.inr ⟨e.symm, rfl⟩)]
        · rw [if_neg e, if_neg (fun e => by omega)]
      rw [e1, e2]
      omega
    · rw [putG_ne ht, if_neg (fun e => by omega), if_neg (fun e => by omega)]

/-- what is given leads to other sets of the class, and none gets more than k -/
def GOk (ns : List Nat) (k : Nat) (G : Nat → List Nat) : Prop := ∀ s ∈ ns, (G s).length ≤ k ∧ ∀ t ∈ G s, t ∈ ns ∧ t ≠ s
theorem GOk.mono {ns : List Nat} {j k : Nat} {G : Nat → List Nat} (h : GOk ns j G) (hj : j ≤ k) : GOk ns k G := fun s hs => ⟨Nat.le_trans (h s hs).1 hj, (h s hs).2⟩
/-- the edge of n and m is given, too; what the asked ones have is as it was -/
structure Took (ns : List Nat) (k n m : Nat) (G G' : Nat → List Nat) (K : Nat → Bool) : Prop where
  ok : GOk ns k G'
  cc : ∀ s t, cc G' s t = cc G s t + pr n m s t
  keep : ∀ s, K s = true → s ≠ n → G' s = G s
/-- s has as many as it may, and all lead to sets that are asked -/
def Full (ns : List Nat) (k : Nat) (G : Nat → List Nat) (K : Nat → Bool) (s : Nat) : Prop := s ∈ ns ∧ k ≤ (G s).length ∧ ∀ t ∈ G s, K t = true
theorem Full.mono {ns : List Nat} {k s : Nat} {G : Nat → List Nat} {K K' : Nat → Bool} (h : Full ns k G K s) (hK : ∀ t, K t = true → K' t = true) : Full ns k G K' s := ⟨h.1, h.2.1, fun t ht => hK t (h.2.2 t ht)⟩
/-- n is asked in vain, and so are all that are asked besides -/
structure Vain (ns : List Nat) (k n : Nat) (G : Nat → List Nat) (K K' : Nat → Bool) : Prop where
  sub : ∀ s, K s = true → K' s = true
  me : K' n = true
  new : ∀ s, K' s = true → K s = true ∨ Full ns k G K' s
/-- the first i that n has are asked in vain -/
structure Vains (ns : List Nat) (k n i : Nat) (G : Nat → List Nat) (K K' : Nat → Bool) : Prop where
  sub : ∀ s, K s = true → K' s = true
  me : K' n = true
  new : ∀ s, K' s = true → K s = true ∨ s = n ∨ Full ns k G K' s
  done : ∀ j, j < i → K' ((G n).getD j 0) = true
theorem Vains.first {ns : List Nat} {k n : Nat} {G : Nat → List Nat} {K : Nat → Bool} : Vains ns k n 0 G K (fun s => if s = n then true else K s) := by
  refine ⟨fun s hs => ?_, if_pos rfl, fun s hs => ?_, fun j hj => absurd hj (by omega)⟩
  · by_cases e : s = n
    · rw [if_pos e]
    · rw [if_neg e]; exact hs
  · by_cases e : s = n
    · exact .inr (.inl e)
    · rw [if_neg e] at hs; exact .inl hs
theorem Vains.skip {ns : List Nat} {k n i : Nat} {G : Nat → List Nat} {K K' : Nat → Bool} (h : Vains ns k n i G K K') (hi : K' ((G n).getD i 0) = true) : Vains ns k n (i + 1) G K K' :=
  ⟨h.sub, h.me, h.new, fun j hj => by
    by_cases e : j = i
    · subst e; exact hi
    · exact h.done j (by omega)⟩
theorem Vains.next {ns : List Nat} {k n i : Nat} {G : Nat → List Nat} {K K' K2 : Nat → Bool} (h : Vains ns k n i G K K') (h2 : Vain ns k ((G n).getD i 0) G K' K2) : Vains ns k n (i + 1) G K K2 := by
  refine ⟨fun s hs => h2.sub s (h.sub s hs), h2.sub n h.me, fun s hs => ?_, fun j hj => ?_⟩
  · rcases h2.new s hs with h3 | h3
    · rcases h.new s h3 with h4 | h4 | h4
      · exact .inl h4
      · exact .inr (.inl h4)
      · exact .inr (.inr (h4.mono h2.sub))
    · exact .inr (.inr h3)
  · by_cases e : j = i
    · subst e; exact h2.me
    · exact h2.sub _ (h.done j (by omega))
theorem Vains.all {ns : List Nat} {k n : Nat} {G : Nat → List Nat} {K K' : Nat → Bool} (h : Vains ns k n (G n).length G K K') (hn : n ∈ ns) (hk : k ≤ (G n).length) : Vain ns k n G K K' := by
  refine ⟨h.sub, h.me, fun s hs => ?_⟩
  rcases h.new s hs with h3 | h3 | h3
  · exact .inl h3
  · subst h3
    refine .inr ⟨hn, hk, fun t ht => ?_⟩
    obtain ⟨j, hj, e⟩ := List.getElem_of_mem ht
    have := h.done j hj
    rw [List.getD_eq_getElem?_getD, List.getElem?_eq_getElem hj, Option.getD_some, e] at this
    exact this
  · exact .inr h3
theorem took_app {ns : List Nat} {k n m : Nat} {G : Nat → List Nat} {K : Nat → Bool} (h : GOk ns k G) (hm : m ∈ ns) (hnm : n ≠ m) (hl : (G n).length < k) : Took ns k n m G (putG G n (G n ++ [m])) K := by
  refine ⟨fun s hs => ?_, cc_app hnm, fun s _ hs => putG_ne hs⟩
  by_cases e : s = n
  · subst e
    rw [putG_me, List.length_append, List.length_singleton]
    refine ⟨by omega, fun t ht => ?_⟩
    rcases List.mem_append.1 ht with ht | ht
    · exact (h s hs).2 t ht
    · rw [List.mem_singleton] at ht
      rw [ht]
      exact ⟨hm, fun e => hnm e.symm⟩
  · rw [putG_ne e]
    exact h s hs
theorem took_swap {ns : List Nat} {k n m i : Nat} {G G2 : Nat → List Nat} {K K' : Nat → Bool} (hn : n ∈ ns) (hm : m ∈ ns) (hnm : n ≠ m) (hi : i < (G n).length) (ho : (G n).getD i 0 ≠ n) (hK : ∀ s, K s = true → K' s = true) (hKn : K' n = true)
    (h2 : Took ns k ((G n).getD i 0) n G G2 K') (hKo : K' ((G n).getD i 0) = false) : Took ns k n m G (putG G2 n ((G2 n).set i m)) K := by
  have e2 : G2 n = G n := h2.keep n hKn (fun e => ho e.symm)
  refine ⟨fun s hs => ?_, fun s t => ?_, fun s hs hne => ?_⟩
  · by_cases e : s = n
    · subst e
      rw [putG_me, List.length_set]
      refine ⟨(h2.ok s hs).1, fun t ht => ?_⟩
      rcases List.mem_or_eq_of_mem_set ht with ht | ht
      · exact (h2.ok s hs).2 t ht
      · rw [ht]; exact ⟨hm, fun e => hnm e.symm⟩
    · rw [putG_ne e]; exact h2.ok s hs
  · have h3 := cc_swap (G := G2) (n := n) (m := m) (i := i) (by rw [e2]; exact hi) hnm (by rw [e2]; exact ho) s t
    have h4 := h2.cc s t
    rw [e2] at h3
    rw [pr_comm n] at h3
    rw [e2]
    omega
  · rw [putG_ne hne]
    exact h2.keep s (hK s hs) (fun e => by rw [e] at hs; rw [hK _ hs] at hKo; cases hKo)
/-- how many are not asked, besides n -/
def unasked (n : Nat) (K : Nat → Bool) : Nat := cnt 5 (fun s => !K s && !decide (s = n))
theorem unasked_lt {n o : Nat} {K K' : Nat → Bool} (ho : o < 32) (hK : ∀ s, K s = true → K' s = true) (hn : K' n = true) (hKo : K' o = false) : unasked o K' < unasked n K := by
  have hle : cnt 5 (fun s => !K' s && !decide (s = o)) ≤ cnt 5 (fun s => !K s && !decide (s = n)) := cnt_mono (fun s _ hs => by
    simp only [Bool.and_eq_true, Bool.not_eq_true', decide_eq_false_iff_not] at hs ⊢
    refine ⟨?_, fun e => ?_⟩
    · cases h : K s with
      | false => rfl
      | true => rw [hK s h] at hs; simp at hs
    · rw [e, hn] at hs; simp at hs)
  rcases Nat.lt_or_ge (unasked o K') (unasked n K) with h | h
  · exact h
  · have := cnt_same (n := 5) (f := fun s => !K' s && !decide (s = o)) (g := fun s => !K s && !decide (s = n)) (fun s _ hs => by
      simp only [Bool.and_eq_true, Bool.not_eq_true', decide_eq_false_iff_not] at hs ⊢
      refine ⟨?_, fun e => ?_⟩
      · cases h : K s with
        | false => rfl
        | true => rw [hK s h] at hs; simp at hs
      · rw [e, hn] at hs; simp at hs) h o ho
    have h2 : K o = false := by
      cases h : K o with
      | false => rfl
      | true => rw [hK o h] at hKo; cases hKo
    have h3 : o ≠ n := fun e => by rw [e, hn] at hKo; cases hKo
    simp [h2, h3] at this

/-- the state of the handing out: the edges E are given, none gets more than k, and fewer than k are too few -/
structure Gvn (ns : List Nat) (k : Nat) (G : Nat → List Nat) (E : List (Nat × Nat)) : Prop where
  ok : GOk ns k G
  has : ∀ s t, s < t → cc G s t = E.count (s, t)
  vio : ∀ j, j < k → Vio ns j
  edge : ∀ e ∈ E, e.1 < e.2 ∧ adj e.1 e.2 = true
  one : E.Nodup
theorem Gvn.nil (ns : List Nat) : Gvn ns 0 (fun _ => []) [] :=
  ⟨fun s _ => ⟨Nat.le_refl _, fun t ht => by simp at ht⟩, fun s t _ => by simp [cc], fun j hj => absurd hj (by omega), fun e he => by simp at he, List.nodup_nil⟩
theorem count_app (E : List (Nat × Nat)) (n m s t : Nat) (hnm : n < m) (hst : s < t) : (E ++ [(n, m)]).count (s, t) = E.count (s, t) + pr n m s t := by
  rw [List.count_append, List.count_cons, List.count_nil, Nat.zero_add, pr]
  by_cases h : s = n ∧ t = m
  · obtain ⟨rfl, rfl⟩ := h
    simp
  · have h2 : ((n, m) == (s, t)) = false := by
      rw [beq_eq_false_iff_ne]
      intro e
      simp only [Prod.mk.injEq] at e
      exact h ⟨e.1.symm, e.2.symm⟩
    rw [h2, if_neg (show ¬ ((s = n ∧ t = m) ∨ (s = m ∧ t = n)) by omega)]
    rfl
/-- an edge more is given -/
theorem Gvn.took {ns : List Nat} {k n m : Nat} {G G' : Nat → List Nat} {E : List (Nat × Nat)} {K : Nat → Bool} (h : Gvn ns k G E) (hT : Took ns k n m G G' K ∨ Took ns k m n G G' K) (hnm : n < m) (ha : adj n m = true) (hE : (n, m) ∉ E) : Gvn ns k G' (E ++ [(n, m)]) := by
  refine ⟨hT.elim (·.ok) (·.ok), fun s t hst => ?_, h.vio, fun e he => ?_, ?_⟩
  · rw [count_app E n m s t hnm hst, ← h.has s t hst]
    rcases hT with hT | hT
    · exact hT.cc s t
    · rw [hT.cc s t, pr_comm]
  · rcases List.mem_append.1 he with he | he
    · exact h.edge e he
    · rw [List.mem_singleton] at he
      subst he
      exact ⟨hnm, ha⟩
  · rw [List.nodup_append]
    exact ⟨h.one, by simp, fun a ha b hb e => by rw [List.mem_singleton] at hb; exact hE (by rw [← hb, ← e]; exact ha)⟩
/-- both ends are asked in vain: k is too few -/
theorem Gvn.more {ns : List Nat} {k n m : Nat} {G : Nat → List Nat} {E : List (Nat × Nat)} {K K2 : Nat → Bool} (h : Gvn ns k G E) (hns : ns.Nodup) (h1 : Vain ns k n G (fun _ => false) K) (h2 : Vain ns k m G K K2) (hn : n ∈ ns) (hm : m ∈ ns) (hnm : n < m) (ha : adj n m = true) (hE : (n, m) ∉ E) : Gvn ns (k + 1) G E := by
  refine ⟨h.ok.mono (Nat.le_succ k), h.has, fun j hj => ?_, h.edge, h.one⟩
  by_cases e : j = k
  · subst e
    have hF : ∀ s, K2 s = true → Full ns j G K2 s := fun s hs => by
      rcases h2.new s hs with h3 | h3
      · rcases h1.new s h3 with h4 | h4
        · cases h4
        · exact h4.mono h2.sub
      · exact h3
    refine vio_of hns K2 G (fun s _ hs => (hF s hs).2.1) (fun s hs hK t ht => ⟨((h.ok s hs).2 t ht).1, (hF s hK).2.2 t ht⟩) (fun s _ t _ hst => ?_) (fun s hs he => ((h.ok s hs).2 s he).2 rfl) hn hm hnm ha (h2.sub n h1.me) h2.me ?_
    · have h3 := h.has s t hst
      rw [cc] at h3
      rw [h3]
      by_cases he : (s, t) ∈ E
      · rw [if_pos (h.edge _ he).2]
        exact List.nodup_iff_count.1 h.one (s, t)
      · rw [List.count_eq_zero.2 he]
        exact Nat.zero_le _
    · have h3 := h.has n m hnm
      rw [cc, List.count_eq_zero.2 hE] at h3
      exact h3
  · exact h.vio j (by omega)
/-- all edges are given -/
theorem Gvn.odg {ns : List Nat} {k : Nat} {G : Nat → List Nat} {E : List (Nat × Nat)} (h : Gvn ns k G E) (hall : ∀ s ∈ ns, ∀ t ∈ ns, s < t → adj s t = true → (s, t) ∈ E) : Odg ns k := by
  refine ⟨⟨G, fun s hs => (h.ok s hs).1, fun s hs t ht hst ha => ?_⟩, h.vio⟩
  have h1 := h.has s t hst
  have h2 := List.count_pos_iff.2 (hall s hs t ht hst ha)
  rw [cc] at h1
  rcases Nat.eq_zero_or_pos ((G s).count t) with h3 | h3
  · exact .inr (List.count_pos_iff.1 (by omega))
  · exact .inl (List.count_pos_iff.1 h3)

end Go.Proofs.Ytpkilacappjkhaa
