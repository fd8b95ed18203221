/- Edges and their owners, by places: ways from an owner to another one, turned round; owners that are closed; a handing out. No program. -/
import Derived.Test.YtpkilacappjkhaaOutG
namespace Go.Proofs.Ytpkilacappjkhaa
open Go.RowKit

/-- the edges, as pairs of places -/
def ep (ns : List Nat) : List (Nat × Nat) := (List.range ns.length).flatMap (fun i => ((List.range ns.length).filter (fun j => decide (i < j) && adj (ns.getD i 0) (ns.getD j 0))).map (fun j => (i, j)))
theorem ep_eg (ns : List Nat) : egTo ns ns.length = (ep ns).map (fun p => (((ns.getD p.1 0 : Nat) : Int), ((ns.getD p.2 0 : Nat) : Int))) := by
  rw [egTo, ep, List.map_flatMap]
  congr 1
  funext i
  rw [egIn, List.map_map]
  rfl
theorem ep_mem {ns : List Nat} {i j : Nat} : (i, j) ∈ ep ns ↔ i < j ∧ j < ns.length ∧ adj (ns.getD i 0) (ns.getD j 0) = true := by
  simp only [ep, List.mem_flatMap, List.mem_range, List.mem_map, List.mem_filter, Bool.and_eq_true, decide_eq_true_eq, Prod.mk.injEq]
  constructor
  · rintro ⟨a, ha, b, ⟨hb, h1, h2⟩, rfl, rfl⟩
    exact ⟨h1, hb, h2⟩
  · rintro ⟨h1, h2, h3⟩
    exact ⟨i, by omega, j, ⟨h2, h1, h3⟩, rfl, rfl⟩
theorem ep_len {ns : List Nat} (h : ns.length ≤ 32) : (ep ns).length ≤ 1024 := by
  have h1 := congrArg List.length (ep_eg ns)
  rw [List.length_map] at h1
  have h2 := egTo_len h ns.length
  omega
theorem getE_mem {l : List (Nat × Nat)} {e : Nat} (h : e < l.length) : l.getD e (0, 0) ∈ l := by
  rw [List.getD_eq_getElem?_getD, List.getElem?_eq_getElem h]
  exact List.getElem_mem h
theorem ep_at {ns : List Nat} {e : Nat} (h : e < (ep ns).length) : ((ep ns).getD e (0, 0)).1 < ((ep ns).getD e (0, 0)).2 ∧ ((ep ns).getD e (0, 0)).2 < ns.length ∧ adj (ns.getD ((ep ns).getD e (0, 0)).1 0) (ns.getD ((ep ns).getD e (0, 0)).2 0) = true := ep_mem.1 (getE_mem h)
/-- the other end -/
def oth (p : Nat × Nat) (v : Nat) : Nat := if p.1 = v then p.2 else p.1

/-- a list of owners, turned along a way -/
def flw (E : List (Nat × Nat)) (os : List Nat) (p : List Nat) : List Nat := p.foldl (fun os e => os.set e (oth (E.getD e (0, 0)) (os.getD e 0))) os
theorem flw_cons (E : List (Nat × Nat)) (os : List Nat) (k : Nat) (p : List Nat) : flw E os (k :: p) = flw E (os.set k (oth (E.getD k (0, 0)) (os.getD k 0))) p := rfl
theorem flw_snoc (E : List (Nat × Nat)) (os : List Nat) (k : Nat) (p : List Nat) : flw E os (p ++ [k]) = (flw E os p).set k (oth (E.getD k (0, 0)) ((flw E os p).getD k 0)) := by
  rw [flw, List.foldl_append]; rfl
theorem flw_len (E : List (Nat × Nat)) (p : List Nat) : ∀ os, (flw E os p).length = os.length := by
  induction p with
  | nil => intro os; rfl
  | cons k p ih => intro os; rw [flw_cons, ih, List.length_set]
/-- each owner is an end of its edge -/
def Own (E : List (Nat × Nat)) (os : List Nat) : Prop := os.length = E.length ∧ ∀ e, e < E.length → os.getD e 0 = (E.getD e (0, 0)).1 ∨ os.getD e 0 = (E.getD e (0, 0)).2
theorem getD_set {l : List Nat} {k j v : Nat} (hk : k < l.length) : (l.set k v).getD j 0 = if j = k then v else l.getD j 0 := by
  rw [List.getD_eq_getElem?_getD, List.getElem?_set, List.getD_eq_getElem?_getD]
  by_cases e : j = k
  · subst e; simp [hk]
  · rw [if_neg (fun h => e h.symm), if_neg e]
theorem oth_or (p : Nat × Nat) (v : Nat) : oth p v = p.1 ∨ oth p v = p.2 := by
  unfold oth
  split
  · exact .inr rfl
  · exact .inl rfl
theorem Own.set {E : List (Nat × Nat)} {os : List Nat} (h : Own E os) {k : Nat} (hk : k < E.length) (v : Nat) : Own E (os.set k (oth (E.getD k (0, 0)) v)) := by
  refine ⟨by rw [List.length_set]; exact h.1, fun e he => ?_⟩
  rw [getD_set (by rw [h.1]; exact hk)]
  by_cases e2 : e = k
  · subst e2
    rw [if_pos rfl]
    exact oth_or _ _
  · rw [if_neg e2]
    exact h.2 e he
theorem Own.flw {E : List (Nat × Nat)} {p : List Nat} (hp : ∀ k ∈ p, k < E.length) : ∀ {os : List Nat}, Own E os → Own E (flw E os p) := by
  induction p with
  | nil => intro os h; exact h
  | cons k p ih =>
    intro os h
    rw [flw_cons]
    exact ih (fun j hj => hp j (by simp [hj])) (h.set (hp k (by simp)) _)
/-- a way from v to x: each of its edges is owned where it begins -/
def Way (E : List (Nat × Nat)) (os : List Nat) : Nat → List Nat → Nat → Prop
  | v, [], x => x = v
  | v, k :: p, x => k < E.length ∧ os.getD k 0 = v ∧ Way E os (oth (E.getD k (0, 0)) v) p x
/-- the places on a way -/
def Wn (E : List (Nat × Nat)) : Nat → List Nat → List Nat
  | v, [] => [v]
  | v, k :: p => v :: Wn E (oth (E.getD k (0, 0)) v) p
theorem Way.lt {E : List (Nat × Nat)} {os : List Nat} : ∀ {p : List Nat} {v x : Nat}, Way E os v p x → ∀ k ∈ p, k < E.length := by
  intro p
  induction p with
  | nil => intro v x _ k hk; simp at hk
  | cons a p ih =>
    intro v x h k hk
    rcases List.mem_cons.1 hk with e | e
    · rw [e]; exact h.1
    · exact ih h.2.2 k e
theorem Way.own {E : List (Nat × Nat)} {os : List Nat} : ∀ {p : List Nat} {v x : Nat}, Way E os v p x → ∀ k ∈ p, os.getD k 0 ∈ Wn E v p := by
  intro p
  induction p with
  | nil => intro v x _ k hk; simp at hk
  | cons a p ih =>
    intro v x h k hk
    rcases List.mem_cons.1 hk with e | e
    · rw [e, h.2.1]; exact List.mem_cons_self
    · exact List.mem_cons_of_mem _ (ih h.2.2 k e)
theorem Way.congr {E : List (Nat × Nat)} {os os' : List Nat} : ∀ {p : List Nat} {v x : Nat}, Way E os v p x → (∀ k ∈ p, os'.getD k 0 = os.getD k 0) → Way E os' v p x := by
  intro p
  induction p with
  | nil => intro v x h _; exact h
  | cons a p ih =>
    intro v x h hk
    exact ⟨h.1, (hk a (by simp)).trans h.2.1, ih h.2.2 (fun k hk2 => hk k (by simp [hk2]))⟩
theorem Way.snoc {E : List (Nat × Nat)} {os : List Nat} {k y : Nat} (hk : k < E.length) (ho : os.getD k 0 = y) : ∀ {p : List Nat} {v : Nat}, Way E os v p y → Way E os v (p ++ [k]) (oth (E.getD k (0, 0)) y) := by
  intro p
  induction p with
  | nil =>
    intro v h
    have : y = v := h
    subst this
    exact ⟨hk, ho, rfl⟩
  | cons a p ih => intro v h; exact ⟨h.1, h.2.1, ih h.2.2⟩
theorem Way.nodes {E : List (Nat × Nat)} {os : List Nat} {k y : Nat} : ∀ {p : List Nat} {v : Nat}, Way E os v p y → Wn E v (p ++ [k]) = Wn E v p ++ [oth (E.getD k (0, 0)) y] := by
  intro p
  induction p with
  | nil =>
    intro v h
    have : y = v := h
    subst this
    rfl
  | cons a p ih =>
    intro v h
    rw [List.cons_append, Wn, Wn, ih h.2.2]
    rfl
/-- turned along a way, its first place has one less, its last one more -/
theorem flw_count {E : List (Nat × Nat)} {x : Nat} : ∀ {p : List Nat} {os : List Nat} {v : Nat}, os.length = E.length → Way E os v p x → (Wn E v p).Nodup → ∀ u, (flw E os p).count u + (if v = u then 1 else 0) = os.count u + if x = u then 1 else 0 := by
  intro p
  induction p with
  | nil =>
    intro os v _ h _ u
    have : x = v := h
    subst this
    rfl
  | cons k p ih =>
    intro os v hl h hn u
    rw [Wn, List.nodup_cons] at hn
    obtain ⟨hk, ho, hw⟩ := h
    have hkp : k ∉ p := fun hm => hn.1 (by have := hw.own k hm; rw [ho] at this; exact this)
    have h1 := count_set' os k (by omega) (oth (E.getD k (0, 0)) v) u
    rw [ho] at h1
    have h2 := ih (os := os.set k (oth (E.getD k (0, 0)) v)) (by rw [List.length_set]; exact hl) (hw.congr (fun j hj => by rw [getD_set (by omega), if_neg (show ¬ j = k from fun e => hkp (e ▸ hj))])) hn.2 u
    rw [flw_cons, ho]
    omega
theorem Way.keep {E : List (Nat × Nat)} {os : List Nat} {x : Nat} : ∀ {p q : List Nat} {v k : Nat}, Way E os v (p ++ k :: q) x → (Wn E v (p ++ k :: q)).Nodup → k ∉ p := by
  intro p
  induction p with
  | nil => intro q v k _ _ h; simp at h
  | cons a p ih =>
    intro q v k h hn hm
    rw [List.cons_append, Wn, List.nodup_cons] at hn
    rcases List.mem_cons.1 hm with e | e
    · subst e
      exact hn.1 (by have := h.2.2.own k (by simp); rw [h.2.1] at this; exact this)
    · exact ih h.2.2 hn.2 e

/-- a search for relief: the places ss are reached, each by its way; those ahead of i are done, and of the i-th one the first k edges -/
structure Rlf (E : List (Nat × Nat)) (os : List Nat) (n v most i k : Nat) (ss : List Nat) (ps : List (List Nat)) : Prop where
  len : ps.length = ss.length
  at0 : 0 < ss.length ∧ ss.getD 0 0 = v
  nodup : ss.Nodup
  lt : ∀ u ∈ ss, u < n
  way : ∀ a, a < ss.length → Way E os v (ps.getD a []) (ss.getD a 0) ∧ (Wn E v (ps.getD a [])).Nodup ∧ ∀ u ∈ Wn E v (ps.getD a []), u ∈ ss
  full : ∀ a, a < i → a < ss.length → most ≤ os.count (ss.getD a 0)
  done : ∀ a, a < i → a < ss.length → ∀ e, e < E.length → os.getD e 0 = ss.getD a 0 → oth (E.getD e (0, 0)) (ss.getD a 0) ∈ ss
  now : i < ss.length → ∀ e, e < k → e < E.length → os.getD e 0 = ss.getD i 0 → oth (E.getD e (0, 0)) (ss.getD i 0) ∈ ss
theorem Rlf.first {E : List (Nat × Nat)} {os : List Nat} {n v most : Nat} (hv : v < n) : Rlf E os n v most 0 0 [v] [[]] := by
  refine ⟨rfl, ⟨by simp, rfl⟩, by simp, fun u hu => ?_, fun a ha => ?_, fun a ha => absurd ha (by omega), fun a ha => absurd ha (by omega), fun _ e he => absurd he (by omega)⟩
  · rw [List.mem_singleton] at hu; omega
  · rw [List.length_singleton] at ha
    obtain rfl : a = 0 := by omega
    exact ⟨rfl, by simp [Wn], fun u hu => by simpa [Wn] using hu⟩
theorem Rlf.skip {E : List (Nat × Nat)} {os : List Nat} {n v most i k : Nat} {ss : List Nat} {ps : List (List Nat)} (h : Rlf E os n v most i k ss ps) (hk : os.getD k 0 = ss.getD i 0 → oth (E.getD k (0, 0)) (ss.getD i 0) ∈ ss) : Rlf E os n v most i (k + 1) ss ps :=
  ⟨h.len, h.at0, h.nodup, h.lt, h.way, h.full, h.done, fun hi e he hl ho => by
    by_cases e2 : e = k
    · subst e2; exact hk ho
    · exact h.now hi e (by omega) hl ho⟩
theorem getD_snoc {l : List Nat} {v a : Nat} (h : a < l.length) : (l ++ [v]).getD a 0 = l.getD a 0 := by
  rw [List.getD_eq_getElem?_getD, List.getElem?_append_left h, ← List.getD_eq_getElem?_getD]
theorem getD_snoc_end (l : List Nat) (v : Nat) : (l ++ [v]).getD l.length 0 = v := by
  rw [List.getD_eq_getElem?_getD, List.getElem?_append_right (Nat.le_refl _), Nat.sub_self]; rfl
theorem getL_snoc {l : List (List Nat)} {v : List Nat} {a : Nat} (h : a < l.length) : (l ++ [v]).getD a [] = l.getD a [] := by
  rw [List.getD_eq_getElem?_getD, List.getElem?_append_left h, ← List.getD_eq_getElem?_getD]
theorem getL_snoc_end (l : List (List Nat)) (v : List Nat) : (l ++ [v]).getD l.length [] = v := by
  rw [List.getD_eq_getElem?_getD, List.getElem?_append_right (Nat.le_refl _), Nat.sub_self]; rfl
theorem Rlf.add {E : List (Nat × Nat)} {os : List Nat} {n v most i k : Nat} {ss : List Nat} {ps : List (List Nat)} (h : Rlf E os n v most i k ss ps) (hi : i < ss.length) (hk : k < E.length) (ho : os.getD k 0 = ss.getD i 0) (hx : oth (E.getD k (0, 0)) (ss.getD i 0) < n) (hno : oth (E.getD k (0, 0)) (ss.getD i 0) ∉ ss) :
    Rlf E os n v most i (k + 1) (ss ++ [oth (E.getD k (0, 0)) (ss.getD i 0)]) (ps ++ [ps.getD i [] ++ [k]]) := by
  obtain ⟨w1, w2, w3⟩ := h.way i hi
  have hl := h.len
  refine ⟨by rw [List.length_append, List.length_append, hl]; rfl, ⟨by rw [List.length_append]; omega, by rw [getD_snoc h.at0.1]; exact h.at0.2⟩, ?_, fun u hu => ?_, fun a ha => ?_, fun a ha hl2 => ?_, fun a ha hl2 e he hoe => ?_, fun _ e he hel hoe => ?_⟩
  · rw [List.nodup_append]
    exact ⟨h.nodup, by simp, fun a ha b hb e => by rw [List.mem_singleton] at hb; exact hno (by rw [← hb, ← e]; exact ha)⟩
  · rcases List.mem_append.1 hu with hu | hu
    · exact h.lt u hu
    · rw [List.mem_singleton] at hu; rw [hu]; exact hx
  · rw [List.length_append, List.length_singleton] at ha
    by_cases e : a < ss.length
    · rw [getD_snoc e, getL_snoc (by omega)]
      obtain ⟨g1, g2, g3⟩ := h.way a e
      exact ⟨g1, g2, fun u hu => List.mem_append_left _ (g3 u hu)⟩
    · obtain rfl : a = ss.length := by omega
      rw [getD_snoc_end]
      rw [← hl, getL_snoc_end]
      refine ⟨w1.snoc hk ho, ?_, fun u hu => ?_⟩
      · rw [w1.nodes, List.nodup_append]
        exact ⟨w2, by simp, fun a ha b hb e => by rw [List.mem_singleton] at hb; exact hno (by rw [← hb, ← e]; exact w3 a ha)⟩
      · rw [w1.nodes] at hu
        rcases List.mem_append.1 hu with hu | hu
        · exact List.mem_append_left _ (w3 u hu)
        · exact List.mem_append_right _ hu
  · rw [getD_snoc (by omega)]
    exact h.full a ha (by omega)
  · rw [getD_snoc (by omega)] at hoe ⊢
    exact List.mem_append_left _ (h.done a ha (by omega) e he hoe)
  · rw [getD_snoc hi] at hoe ⊢
    by_cases e2 : e = k
    · subst e2
      exact List.mem_append_right _ (by simp)
    · exact List.mem_append_left _ (h.now hi e (by omega) hel hoe)
theorem Rlf.next {E : List (Nat × Nat)} {os : List Nat} {n v most i : Nat} {ss : List Nat} {ps : List (List Nat)} (h : Rlf E os n v most i E.length ss ps) (hi : i < ss.length) (hf : most ≤ os.count (ss.getD i 0)) : Rlf E os n v most (i + 1) 0 ss ps := by
  refine ⟨h.len, h.at0, h.nodup, h.lt, h.way, fun a ha hl => ?_, fun a ha hl e he ho => ?_, fun _ e he => absurd he (by omega)⟩
  · by_cases e : a = i
    · subst e; exact hf
    · exact h.full a (by omega) hl
  · by_cases e2 : a = i
    · subst e2; exact h.now hi e he he ho
    · exact h.done a (by omega) hl e he ho
/-- places that all have as many as they may, v more, and whose edges lead among them -/
def Clo (E : List (Nat × Nat)) (os : List Nat) (n v most : Nat) (ss : List Nat) : Prop :=
  v ∈ ss ∧ ss.Nodup ∧ (∀ u ∈ ss, u < n ∧ most ≤ os.count u) ∧ ∀ e, e < E.length → os.getD e 0 ∈ ss → oth (E.getD e (0, 0)) (os.getD e 0) ∈ ss
theorem Rlf.end {E : List (Nat × Nat)} {os : List Nat} {n v most : Nat} {ss : List Nat} {ps : List (List Nat)} (h : Rlf E os n v most ss.length 0 ss ps) : Clo E os n v most ss := by
  refine ⟨?_, h.nodup, fun u hu => ⟨h.lt u hu, ?_⟩, fun e he hm => ?_⟩
  · rw [← h.at0.2]; exact getD_of_lt h.at0.1
  · obtain ⟨a, ha, e⟩ := List.getElem_of_mem hu
    have := h.full a ha ha
    rw [List.getD_eq_getElem?_getD, List.getElem?_eq_getElem ha, Option.getD_some, e] at this
    exact this
  · obtain ⟨a, ha, e2⟩ := List.getElem_of_mem hm
    have e3 : ss.getD a 0 = os.getD e 0 := by rw [List.getD_eq_getElem?_getD, List.getElem?_eq_getElem ha, Option.getD_some, e2]
    have := h.done a ha ha e he e3.symm
    rw [e3] at this
    exact this
/-- a way that serves -/
def Rel (E : List (Nat × Nat)) (os : List Nat) (n v most : Nat) (p : List Nat) : Prop := ∃ x, Way E os v p x ∧ (Wn E v p).Nodup ∧ os.count x < most ∧ x < n
theorem Rlf.rel {E : List (Nat × Nat)} {os : List Nat} {n v most i k : Nat} {ss : List Nat} {ps : List (List Nat)} (h : Rlf E os n v most i k ss ps) (hi : i < ss.length) (hf : os.count (ss.getD i 0) < most) : Rel E os n v most (ps.getD i []) :=
  ⟨ss.getD i 0, (h.way i hi).1, (h.way i hi).2.1, hf, h.lt _ (getD_of_lt hi)⟩

/-- closed places: too many edges -/
theorem sm_mem {r : List Nat} (hn : r.Nodup) (l : List Nat) : sm r (fun t => l.count t) = l.countP (fun x => decide (x ∈ r)) := by
  induction l with
  | nil => simp [sm_zero]
  | cons a l ih =>
    have e : sm r (fun t => (a :: l).count t) = sm r (fun t => l.count t) + sm r (fun t => if a = t then 1 else 0) := by
      rw [← sm_add]
      exact sm_congr fun t _ => by rw [List.count_cons]; simp
    rw [e, ih, List.countP_cons]
    by_cases h : a ∈ r
    · rw [sm_eq_mem hn h, if_pos (decide_eq_true h)]
    · rw [if_neg (by simp [h]), show sm r (fun t => if a = t then 1 else 0) = 0 from (sm_congr fun t ht => if_neg (show ¬ a = t from fun e => h (e ▸ ht))).trans (sm_zero r)]
theorem map_getE (l : List (Nat × Nat)) : (List.range l.length).map (fun e => l.getD e (0, 0)) = l := by
  apply List.ext_getElem
  · simp
  · intro i h1 h2
    rw [List.getElem_map, List.getElem_range, List.getD_eq_getElem?_getD, List.getElem?_eq_getElem h2]
    rfl
/-- the edges among some sets, counted by the pairs -/
theorem eIn_ep {ns : List Nat} (hasc : ns.Pairwise (· < ·)) (S : Nat → Bool) : eIn ns S = (ep ns).countP (fun p => S (ns.getD p.1 0) && S (ns.getD p.2 0)) := by
  have hgt : ∀ i, i < ns.length → ∀ j, j < ns.length → (i < j ↔ ns.getD i 0 < ns.getD j 0) := by
    intro i hi j hj
    have h1 := List.pairwise_iff_getElem.1 hasc
    rw [List.getD_eq_getElem?_getD, List.getD_eq_getElem?_getD, List.getElem?_eq_getElem hi, List.getElem?_eq_getElem hj, Option.getD_some, Option.getD_some]
    constructor
    · intro h; exact h1 i j hi hj h
    · intro h
      rcases Nat.lt_trichotomy i j with h2 | h2 | h2
      · exact h2
      · subst h2; omega
      · have := h1 j i hj hi h2; omega
  have h9 : ∀ g : Nat → Nat, sm ns g = sm (List.range ns.length) (fun i => g (ns.getD i 0)) := fun g => by
    have h8 := congrArg (fun l => (List.map g l).sum) (range_getD ns)
    simp only [List.map_map] at h8
    exact h8.symm
  rw [ep, List.countP_flatMap, eIn, h9]
  show sm (List.range ns.length) _ = sm (List.range ns.length) _
  refine sm_congr fun i hi => ?_
  rw [List.mem_range] at hi
  rw [h9, Function.comp_apply, List.countP_map, List.countP_filter]
  rw [← sum_if]
  refine sm_congr fun j hj => ?_
  rw [List.mem_range] at hj
  rw [ed]
  by_cases h : ns.getD i 0 < ns.getD j 0 ∧ adj (ns.getD i 0) (ns.getD j 0) = true ∧ S (ns.getD i 0) = true ∧ S (ns.getD j 0) = true
  · rw [if_pos h, if_pos]
    simp only [Function.comp_apply, Bool.and_eq_true, decide_eq_true_eq]
    exact ⟨⟨h.2.2.1, h.2.2.2⟩, (hgt i hi j hj).2 h.1, h.2.1⟩
  · rw [if_neg h, if_neg]
    simp only [Function.comp_apply, Bool.and_eq_true, decide_eq_true_eq]
    exact fun k => h ⟨(hgt i hi j hj).1 k.2.1, k.2.2, k.1.1, k.1.2⟩
theorem Clo.vio {ns : List Nat} {os ss : List Nat} {v most : Nat} (hasc : ns.Pairwise (· < ·)) (hO : Own (ep ns) os) (h : Clo (ep ns) os ns.length v most ss) (hv : most < os.count v) : Vio ns most := by
  obtain ⟨h1, h2, h3, h4⟩ := h
  have hns := asc_nodup hasc
  have hinj : ∀ u, u < ns.length → ∀ t, t < ns.length → ns.getD u 0 = ns.getD t 0 → u = t := fun u hu t ht e => by
    rw [List.getD_eq_getElem?_getD, List.getD_eq_getElem?_getD, List.getElem?_eq_getElem hu, List.getElem?_eq_getElem ht, Option.getD_some, Option.getD_some] at e
    have hp := List.pairwise_iff_getElem.1 hasc
    rcases Nat.lt_trichotomy u t with h | h | h
    · have := hp u t hu ht h; omega
    · exact h
    · have := hp t u ht hu h; omega
  have hS : ∀ u, u < ns.length → (decide (∃ x ∈ ss, ns.getD x 0 = ns.getD u 0) = true ↔ u ∈ ss) := fun u hu => by
    rw [decide_eq_true_eq]
    constructor
    · rintro ⟨x, hx, e⟩
      rw [← hinj x (h3 x hx).1 u hu e]; exact hx
    · intro hu2; exact ⟨u, hu2, rfl⟩
  refine ⟨fun s => decide (∃ x ∈ ss, ns.getD x 0 = s), ?_⟩
  rw [eIn_ep hasc]
  have hA : ns.countP (fun s => decide (∃ x ∈ ss, ns.getD x 0 = s)) = ss.length := by
    have e1 : ns.countP (fun s => decide (∃ x ∈ ss, ns.getD x 0 = s)) = (List.range ns.length).countP (fun u => decide (u ∈ ss)) := by
      have h8 := congrArg (List.countP (fun s => decide (∃ x ∈ ss, ns.getD x 0 = s))) (range_getD ns)
      rw [List.countP_map] at h8
      rw [← h8]
      apply List.countP_congr
      intro u hu
      rw [List.mem_range] at hu
      rw [Function.comp_apply, hS u hu, decide_eq_true_eq]
    have e2 := sm_mem h2 (List.range ns.length)
    have e3 : sm ss (fun t => (List.range ns.length).count t) = sm ss (fun _ => 1) := sm_congr fun t ht => by
      have h5 : (List.range ns.length).count t ≤ 1 := List.nodup_iff_count.1 List.nodup_range t
      have h6 := List.count_pos_iff.2 (List.mem_range.2 (h3 t ht).1)
      omega
    have e4 := sm_if ss (fun _ => true) 1
    simp only [↓reduceIte, List.countP_true, Nat.one_mul] at e4
    rw [e1, ← e2, e3, e4]
  have hB : most * ss.length < sm ss (fun u => os.count u) := by
    have e4 := sm_if ss (fun _ => true) most
    simp only [↓reduceIte, List.countP_true] at e4
    rw [← e4]
    exact sm_lt (fun u hu => (h3 u hu).2) h1 hv
  have hC : sm ss (fun u => os.count u) ≤ (ep ns).countP (fun p => decide (∃ x ∈ ss, ns.getD x 0 = ns.getD p.1 0) && decide (∃ x ∈ ss, ns.getD x 0 = ns.getD p.2 0)) := by
    rw [sm_mem h2]
    have e5 := congrArg (List.countP (fun x => decide (x ∈ ss))) (range_getD os)
    have e6 := congrArg (List.countP (fun p : Nat × Nat => decide (∃ x ∈ ss, ns.getD x 0 = ns.getD p.1 0) && decide (∃ x ∈ ss, ns.getD x 0 = ns.getD p.2 0))) (map_getE (ep ns))
    rw [List.countP_map] at e5 e6
    rw [← e5, ← e6, hO.1]
    refine List.countP_mono_left fun e he hm => ?_
    rw [List.mem_range] at he
    simp only [Function.comp_apply, decide_eq_true_eq] at hm
    obtain ⟨g1, g2, _⟩ := ep_at he
    have h5 := h4 e he hm
    have h6 := hO.2 e he
    simp only [Function.comp_apply, Bool.and_eq_true]
    rw [hS _ (by omega), hS _ g2]
    rcases h6 with h6 | h6
    · rw [h6] at h5 hm
      rw [oth, if_pos rfl] at h5
      exact ⟨hm, h5⟩
    · rw [h6] at h5 hm
      rw [oth, if_neg (by omega)] at h5
      exact ⟨h5, hm⟩
  rw [hA]
  omega
/-- no owner has too many -/
theorem Own.asg {ns os : List Nat} {most : Nat} (hasc : ns.Pairwise (· < ·)) (hO : Own (ep ns) os) (h : ∀ u, u < ns.length → os.count u ≤ most) : Asg ns most := by
  have hinj : ∀ u, u < ns.length → ∀ t, t < ns.length → ns.getD u 0 = ns.getD t 0 → u = t := fun u hu t ht e => by
    rw [List.getD_eq_getElem?_getD, List.getD_eq_getElem?_getD, List.getElem?_eq_getElem hu, List.getElem?_eq_getElem ht, Option.getD_some, Option.getD_some] at e
    have hp := List.pairwise_iff_getElem.1 hasc
    rcases Nat.lt_trichotomy u t with h | h | h
    · have := hp u t hu ht h; omega
    · exact h
    · have := hp t u ht hu h; omega
  have hpl : ∀ s ∈ ns, ∃ u, u < ns.length ∧ ns.getD u 0 = s := fun s hs => by
    obtain ⟨u, hu, e⟩ := List.getElem_of_mem hs
    exact ⟨u, hu, by rw [List.getD_eq_getElem?_getD, List.getElem?_eq_getElem hu]; exact e⟩
  have hlt : ∀ e, e < (ep ns).length → os.getD e 0 < ns.length := fun e he => by
    obtain ⟨g1, g2, _⟩ := ep_at he
    rcases hO.2 e he with h6 | h6 <;> omega
  refine ⟨fun s => ((List.range (ep ns).length).filter (fun e => decide (ns.getD (os.getD e 0) 0 = s))).map (fun e => ns.getD (oth ((ep ns).getD e (0, 0)) (os.getD e 0)) 0), fun s hs => ?_, fun s hs t ht hst ha => ?_⟩
  · obtain ⟨u, hu, rfl⟩ := hpl s hs
    rw [List.length_map, ← List.countP_eq_length_filter]
    refine Nat.le_trans (Nat.le_of_eq ?_) (h u hu)
    have e5 := congrArg (List.count u) (range_getD os)
    rw [List.count, List.countP_map] at e5
    rw [show List.count u os = List.countP (fun x => x == u) os from rfl, ← e5, hO.1]
    apply List.countP_congr
    intro e he
    rw [List.mem_range] at he
    simp only [Function.comp_apply, decide_eq_true_eq, beq_iff_eq]
    exact ⟨hinj _ (hlt e he) _ hu, fun k => by rw [k]⟩
  · obtain ⟨i, hi, rfl⟩ := hpl s hs
    obtain ⟨j, hj, rfl⟩ := hpl t ht
    have hij : i < j := by
      rcases Nat.lt_trichotomy i j with k | k | k
      · exact k
      · subst k; omega
      · have := List.pairwise_iff_getElem.1 hasc j i hj hi k
        rw [List.getD_eq_getElem?_getD, List.getD_eq_getElem?_getD, List.getElem?_eq_getElem hi, List.getElem?_eq_getElem hj, Option.getD_some, Option.getD_some] at hst
        omega
    obtain ⟨e, he, ee⟩ := List.getElem_of_mem (ep_mem.2 ⟨hij, hj, ha⟩)
    have eg : (ep ns).getD e (0, 0) = (i, j) := by rw [List.getD_eq_getElem?_getD, List.getElem?_eq_getElem he]; exact ee
    have h6 := hO.2 e he
    rw [eg] at h6
    rcases h6 with h6 | h6
    · left
      rw [List.mem_map]
      refine ⟨e, List.mem_filter.2 ⟨List.mem_range.2 he, ?_⟩, ?_⟩
      · rw [h6]; exact decide_eq_true rfl
      · rw [h6, eg, oth, if_pos rfl]
    · right
      rw [List.mem_map]
      refine ⟨e, List.mem_filter.2 ⟨List.mem_range.2 he, ?_⟩, ?_⟩
      · rw [h6]; exact decide_eq_true rfl
      · rw [h6, eg, oth, if_neg (by dsimp only; omega)]

end Go.Proofs.Ytpkilacappjkhaa
