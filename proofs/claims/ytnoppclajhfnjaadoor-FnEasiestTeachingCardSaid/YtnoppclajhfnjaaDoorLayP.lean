/- Layers: what they promise: mathematics. No conditions. -/
import Derived.Test.YtnoppclajhfnjaaDoorLayM
namespace Go.Proofs.YtnoppclajhfnjaaDoor
open Go.RowKit

theorem tch_all {t s : Nat} {l : List Nat} (has : l.Pairwise (· < ·)) : tch t s l = true ↔ t ∈ l ∧ ∀ u ∈ l, u &&& s = t &&& s → u = t := by
  rw [tch, beq_iff_eq]
  constructor
  · intro e
    have ht : t ∈ agr t s l := by rw [e]; simp
    refine ⟨agr_sub ht, fun u hu hus => ?_⟩
    have h9 : u ∈ agr t s l := List.mem_filter.2 ⟨hu, by simpa using hus⟩
    rw [e] at h9
    simpa using h9
  · rintro ⟨ht, hu⟩
    refine asc_ext (has.filter _) (List.pairwise_singleton _ _) (fun x => ?_)
    rw [List.mem_singleton, agr, List.mem_filter]
    constructor
    · rintro ⟨h1, h2⟩; exact hu x h1 (by simpa using h2)
    · rintro rfl; exact ⟨ht, by simp⟩
theorem ftN_ok {m t : Nat} {l : List Nat} (h : Cls m l) (ht : t ∈ l) : ftN m t l < 2 ^ m ∧ tch t (ftN m t l) l = true := (ft_eq h ht).2.2
theorem ftN_min {m t s : Nat} {l : List Nat} (hs : s < 2 ^ m) (h : tch t s l = true) : pc (ftN m t l) ≤ pc s := (bstN_spec (fun s => tch t s l) (2 ^ m - 1) (2 ^ m)).2 s hs h
theorem tch_less {t s : Nat} {l l' : List Nat} (ha : l.Pairwise (· < ·)) (ha' : l'.Pairwise (· < ·)) (hs : ∀ u ∈ l', u ∈ l) (ht : t ∈ l') (h : tch t s l = true) : tch t s l' = true := by
  rw [tch_all ha] at h
  rw [tch_all ha']
  exact ⟨ht, fun u hu e => h.2 u (hs u hu) e⟩
theorem ftN_less {m t : Nat} {l l' : List Nat} (hc : Cls m l) (hc' : Cls m l') (hs : ∀ u ∈ l', u ∈ l) (ht : t ∈ l') : pc (ftN m t l') ≤ pc (ftN m t l) := by
  obtain ⟨h1, h2⟩ := ftN_ok hc (hs t ht)
  exact ftN_min h1 (tch_less hc.asc hc'.asc hs ht h2)
theorem ezL_lay {m t : Nat} {l : List Nat} (hc : Cls m l) (h : t ∈ lay l) : ezL m l = (pc (ftN m t l) : Int) := ((mem_lay hc (lay_sub h)).1 h).symm
theorem ezL_nn {m : Nat} {l : List Nat} (h : l ≠ []) : 0 ≤ ezL m l := by
  obtain ⟨⟨u, _, e⟩, _⟩ := ezL_spec (m := m) h
  rw [e]; exact Int.natCast_nonneg _
theorem ezL_mono {m t : Nat} {l l' : List Nat} (hc : Cls m l) (hc' : Cls m l') (hs : ∀ u ∈ l', u ∈ l) (ht : t ∈ l') (h : t ∈ lay l) : ezL m l' ≤ ezL m l := by
  have h1 := (ezL_spec (m := m) (List.ne_nil_of_mem ht)).2 t ht
  have h2 := ftN_less hc hc' hs ht
  rw [ezL_lay hc h]
  omega

/-- the greatest of the layers' numbers, from b on -/
def rdS (m : Nat) (b : Int) (P : List (List Nat × List Nat)) : Int := P.foldl (fun b p => if b < ezL m p.2 then ezL m p.2 else b) b
theorem rdS_snoc (m : Nat) (b : Int) (P : List (List Nat × List Nat)) (p : List Nat × List Nat) : rdS m b (P ++ [p]) = if rdS m b P < ezL m p.2 then ezL m p.2 else rdS m b P := by rw [rdS, List.foldl_append]; rfl
theorem rdS_spec (m : Nat) : ∀ (P : List (List Nat × List Nat)) (b : Int), b ≤ rdS m b P ∧ (∀ p ∈ P, ezL m p.2 ≤ rdS m b P) ∧ (rdS m b P = b ∨ ∃ p ∈ P, rdS m b P = ezL m p.2)
  | [], b => ⟨Int.le_refl _, fun p hp => by simp at hp, .inl rfl⟩
  | q :: P, b => by
    have e : rdS m b (q :: P) = rdS m (if b < ezL m q.2 then ezL m q.2 else b) P := rfl
    obtain ⟨h1, h2, h3⟩ := rdS_spec m P (if b < ezL m q.2 then ezL m q.2 else b)
    rw [e]
    have hb : b ≤ (if b < ezL m q.2 then ezL m q.2 else b) ∧ ezL m q.2 ≤ (if b < ezL m q.2 then ezL m q.2 else b) := by split <;> omega
    refine ⟨by omega, fun p hp => ?_, ?_⟩
    · rcases List.mem_cons.1 hp with rfl | hp
      · omega
      · exact h2 p hp
    · rcases h3 with h3 | ⟨p, hp, h3⟩
      · by_cases hc : b < ezL m q.2
        · rw [if_pos hc] at h3 ⊢
          exact .inr ⟨q, by simp, h3⟩
        · rw [if_neg hc] at h3 ⊢
          exact .inl h3
      · exact .inr ⟨p, List.mem_cons_of_mem _ hp, h3⟩
/-- what RecursiveDimension answers for a class -/
def rdM (m : Nat) (l : List Nat) : Int := rdS m (-1) (lys l)
theorem rdM_lo (m : Nat) (l : List Nat) : -1 ≤ rdM m l := (rdS_spec m (lys l) (-1)).1
theorem rdM_nil (m : Nat) : rdM m [] = -1 := rfl
theorem rdM_first {m : Nat} {l : List Nat} (h : l ≠ []) : ezL m l ≤ rdM m l := (rdS_spec m (lys l) (-1)).2.1 (lay l, l) (by rw [lys_cons h]; simp)
theorem rdM_rst {m : Nat} {l : List Nat} (h : l ≠ []) : rdM m (rst l) ≤ rdM m l := by
  rcases (rdS_spec m (lys (rst l)) (-1)).2.2 with e | ⟨p, hp, e⟩
  · rw [rdM, e]; exact rdM_lo m l
  · rw [rdM, e]
    exact (rdS_spec m (lys l) (-1)).2.1 p (by rw [lys_cons h]; exact List.mem_cons_of_mem _ hp)
theorem rdM_sub {m : Nat} : ∀ (N : Nat) (l : List Nat), l.length ≤ N → Cls m l → ∀ l', Cls m l' → l' ≠ [] → (∀ u ∈ l', u ∈ l) → ezL m l' ≤ rdM m l := by
  intro N
  induction N with
  | zero =>
    intro l hl _ l' _ hne hs
    obtain ⟨u, hu⟩ := List.exists_mem_of_ne_nil _ hne
    have := List.length_pos_iff.2 (List.ne_nil_of_mem (hs u hu))
    omega
  | succ N ih =>
    intro l hl hc l' hc' hne hs
    obtain ⟨u, hu⟩ := List.exists_mem_of_ne_nil _ hne
    have hl0 := List.ne_nil_of_mem (hs u hu)
    by_cases hm : ∃ t ∈ l', t ∈ lay l
    · obtain ⟨t, ht, h2⟩ := hm
      have h3 := ezL_mono hc hc' hs ht h2
      have h4 := rdM_first (m := m) hl0
      omega
    · have hr := rst_len hl0
      have h5 := ih (rst l) (by omega) (rst_cls hc) l' hc' hne (fun v hv => mem_rst.2 ⟨hs v hv, fun h => hm ⟨v, hv, h⟩⟩)
      have h6 := rdM_rst (m := m) hl0
      omega
theorem rdM_att {m : Nat} {l : List Nat} (hc : Cls m l) : rdM m l = -1 ∨ ∃ p ∈ lys l, rdM m l = ezL m p.2 ∧ p.2 ≠ [] ∧ Cls m p.2 ∧ ∀ t ∈ p.2, t ∈ l := by
  rcases (rdS_spec m (lys l) (-1)).2.2 with e | ⟨p, hp, e⟩
  · exact .inl e
  · obtain ⟨_, h2, h3, h4⟩ := lys_mem l.length l (Nat.le_refl _) hc p hp
    exact .inr ⟨p, hp, e, h2, h3, h4⟩
/-- fewer sets are no harder -/
theorem rdM_mono {m : Nat} {l l' : List Nat} (hc : Cls m l) (hc' : Cls m l') (hs : ∀ u ∈ l', u ∈ l) : rdM m l' ≤ rdM m l := by
  rcases rdM_att hc' with e | ⟨p, _, e, h2, h3, h4⟩
  · rw [e]; exact rdM_lo m l
  · rw [e]; exact rdM_sub l.length l (Nat.le_refl _) hc p.2 h3 h2 (fun u hu => hs u (h4 u hu))
theorem gTo_all (xs : List Int) : ∀ k, -1 ≤ gTo xs k ∧ ∀ i, i < k → xs.getD i 0 ≤ gTo xs k := by
  intro k
  induction k with
  | zero => exact ⟨Int.le_refl _, fun i hi => by omega⟩
  | succ k ih =>
    rw [gTo_step]
    by_cases h : gTo xs k < xs.getD k 0
    · rw [if_pos h]
      refine ⟨by omega, fun i hi => ?_⟩
      by_cases e : i = k
      · rw [e]; exact Int.le_refl _
      · have := ih.2 i (by omega); omega
    · rw [if_neg h]
      refine ⟨ih.1, fun i hi => ?_⟩
      by_cases e : i = k
      · rw [e]; omega
      · exact ih.2 i (by omega)
theorem gTo_one_of (xs : List Int) : ∀ k, gTo xs k = -1 ∨ ∃ i, i < k ∧ gTo xs k = xs.getD i 0 := by
  intro k
  induction k with
  | zero => exact .inl rfl
  | succ k ih =>
    rw [gTo_step]
    by_cases h : gTo xs k < xs.getD k 0
    · rw [if_pos h]; exact .inr ⟨k, by omega, rfl⟩
    · rw [if_neg h]
      rcases ih with e | ⟨i, hi, e⟩
      · exact .inl e
      · exact .inr ⟨i, by omega, e⟩
/-- layers are no harder than all -/
theorem rdM_td {m : Nat} {l : List Nat} (hc : Cls m l) : rdM m l ≤ gTo (tns m l) l.length := by
  rcases rdM_att hc with e | ⟨p, _, e, h2, h3, h4⟩
  · rw [e]; exact (gTo_all _ _).1
  · obtain ⟨u, hu⟩ := List.exists_mem_of_ne_nil _ h2
    have h5 := (ezL_spec (m := m) h2).2 u hu
    have h6 := ftN_less hc h3 h4 hu
    obtain ⟨i, hi, hie⟩ := List.getElem_of_mem (h4 u hu)
    have h7 := (gTo_all (tns m l) l.length).2 i hi
    rw [tns_getD hi, List.getD_eq_getElem?_getD, List.getElem?_eq_getElem hi, Option.getD_some, hie] at h7
    rw [e]; omega
/-- nothing need be told exactly where there is one set alone -/
theorem ezL_zero {m : Nat} {l : List Nat} (hc : Cls m l) (h : l ≠ []) : ezL m l = 0 ↔ l.length = 1 := by
  obtain ⟨⟨u, hu, h1⟩, h2⟩ := ezL_spec (m := m) h
  have hz : ∀ s : Fin 32, pc s.1 = 0 → s.1 = 0 := by decide +kernel
  constructor
  · intro h0
    obtain ⟨h3, h4⟩ := ftN_ok hc hu
    have h5 : ftN m u l = 0 := hz ⟨ftN m u l, Nat.lt_of_lt_of_le h3 (pow_le_32 hc.pts)⟩ (by show pc (ftN m u l) = 0; omega)
    rw [h5, tch_all hc.asc] at h4
    have h6 : l = [u] := asc_ext hc.asc (List.pairwise_singleton _ _) (fun x => by
      rw [List.mem_singleton]
      exact ⟨fun hx => h4.2 x hx (by simp), fun e => e ▸ hu⟩)
    rw [h6]; rfl
  · intro h1'
    obtain ⟨a, rfl⟩ := List.length_eq_one_iff.1 h1'
    have h3 : tch a 0 [a] = true := by
      rw [tch_all hc.asc]
      exact ⟨by simp, fun u hu _ => by simpa using hu⟩
    have h4 := ftN_min (Nat.two_pow_pos m) h3
    have h5 := h2 a (by simp)
    have h6 := ezL_nn (m := m) h
    have h7 : pc 0 = 0 := rfl
    omega

/-- which points a plan has for t, by the layers P -/
def plV (m : Nat) (P : List (List Nat × List Nat)) (t : Nat) : Nat := P.foldl (fun v p => if t ∈ p.1 then ftN m t p.2 else v) 0
theorem plV_snoc (m : Nat) (P : List (List Nat × List Nat)) (p : List Nat × List Nat) (t : Nat) : plV m (P ++ [p]) t = if t ∈ p.1 then ftN m t p.2 else plV m P t := by simp [plV]
theorem lys_pair {m : Nat} : ∀ (N : Nat) (l : List Nat), l.length ≤ N → Cls m l → (lys l).Pairwise (fun p q => ∀ t ∈ q.2, t ∈ p.2 ∧ t ∉ p.1) := by
  intro N
  induction N with
  | zero =>
    intro l hl _
    obtain rfl : l = [] := List.eq_nil_of_length_eq_zero (by omega)
    rw [lys_nil]; exact List.Pairwise.nil
  | succ N ih =>
    intro l hl hc
    by_cases e : l = []
    · subst e; rw [lys_nil]; exact List.Pairwise.nil
    · have hr := rst_len e
      rw [lys_cons e]
      refine List.pairwise_cons.2 ⟨fun q hq t ht => ?_, ih (rst l) (by omega) (rst_cls hc)⟩
      exact mem_rst.1 ((lys_mem _ _ (Nat.le_refl _) (rst_cls hc) q hq).2.2.2 t ht)
theorem lys_has {m : Nat} : ∀ (N : Nat) (l : List Nat), l.length ≤ N → Cls m l → ∀ t ∈ l, ∃ p ∈ lys l, t ∈ p.1 := by
  intro N
  induction N with
  | zero =>
    intro l hl _ t ht
    have := List.length_pos_iff.2 (List.ne_nil_of_mem ht)
    omega
  | succ N ih =>
    intro l hl hc t ht
    have e := List.ne_nil_of_mem ht
    have hr := rst_len e
    rw [lys_cons e]
    by_cases h : t ∈ lay l
    · exact ⟨(lay l, l), by simp, h⟩
    · obtain ⟨p, hp, h2⟩ := ih (rst l) (by omega) (rst_cls hc) t (mem_rst.2 ⟨ht, h⟩)
      exact ⟨p, List.mem_cons_of_mem _ hp, h2⟩
/-- a layer, with those behind it -/
theorem lys_cut {m : Nat} {l : List Nat} (hc : Cls m l) {p : List Nat × List Nat} (hp : p ∈ lys l) : ∃ A B, lys l = A ++ p :: B ∧ ∀ q ∈ B, ∀ t ∈ q.1, t ∈ p.2 ∧ t ∉ p.1 := by
  obtain ⟨A, B, e⟩ := List.append_of_mem hp
  have hpw := lys_pair l.length l (Nat.le_refl _) hc
  rw [e, List.pairwise_append] at hpw
  refine ⟨A, B, e, fun q hq t ht => (List.pairwise_cons.1 hpw.2.1).1 q hq t ?_⟩
  have hq2 := lys_mem l.length l (Nat.le_refl _) hc q (by rw [e]; simp [hq])
  rw [hq2.1] at ht
  exact lay_sub ht
theorem fold_keep {α β : Type} {f : β → α → β} (v : β) : ∀ (B : List α), (∀ q ∈ B, f v q = v) → B.foldl f v = v
  | [], _ => rfl
  | q :: B, h => by
    rw [List.foldl_cons, h q (by simp)]
    exact fold_keep v B (fun r hr => h r (List.mem_cons_of_mem _ hr))
theorem plV_at {m t : Nat} {l : List Nat} (hc : Cls m l) {p : List Nat × List Nat} (hp : p ∈ lys l) (ht : t ∈ p.1) : plV m (lys l) t = ftN m t p.2 := by
  obtain ⟨A, B, e, hB⟩ := lys_cut hc hp
  rw [e, plV, List.foldl_append, List.foldl_cons, if_pos ht]
  exact fold_keep _ B (fun q hq => if_neg (fun h => (hB q hq t h).2 ht))
/-- the plan of a class: its numbers of points have the greatest one of the layers' -/
theorem plan_rd {m : Nat} {l : List Nat} (hc : Cls m l) : gTo (l.map (fun t => ((pc (plV m (lys l) t) : Nat) : Int))) l.length = rdM m l := by
  have hpt : ∀ p ∈ lys l, ∀ t ∈ p.1, ((pc (plV m (lys l) t) : Nat) : Int) = ezL m p.2 := fun p hp t ht => by
    obtain ⟨h1, h2, h3, h4⟩ := lys_mem l.length l (Nat.le_refl _) hc p hp
    rw [plV_at hc hp ht]
    rw [h1] at ht
    exact (ezL_lay h3 ht).symm
  have hget : ∀ i, i < l.length → (l.map (fun t => ((pc (plV m (lys l) t) : Nat) : Int))).getD i 0 = ((pc (plV m (lys l) (l.getD i 0)) : Nat) : Int) := fun i hi => by
    simp [List.getD_eq_getElem?_getD, hi]
  apply Int.le_antisymm
  · rcases gTo_one_of (l.map (fun t => ((pc (plV m (lys l) t) : Nat) : Int))) l.length with e | ⟨i, hi, e⟩
    · rw [e]; exact rdM_lo m l
    · rw [e, hget i hi]
      obtain ⟨p, hp, h2⟩ := lys_has l.length l (Nat.le_refl _) hc _ (getD_of_lt hi)
      rw [hpt p hp _ h2]
      exact (rdS_spec m (lys l) (-1)).2.1 p hp
  · rcases rdM_att hc with e | ⟨p, hp, e, h2, h3, h4⟩
    · rw [e]; exact (gTo_all _ _).1
    · obtain ⟨t, ht⟩ := List.exists_mem_of_ne_nil _ (lay_ne h2)
      have h1 := (lys_mem l.length l (Nat.le_refl _) hc p hp).1
      obtain ⟨i, hi, hie⟩ := List.getElem_of_mem (h4 t (lay_sub ht))
      have h7 := (gTo_all (l.map (fun t => ((pc (plV m (lys l) t) : Nat) : Int))) l.length).2 i hi
      rw [hget i hi, List.getD_eq_getElem?_getD, List.getElem?_eq_getElem hi, Option.getD_some, hie, hpt p hp t (by rw [h1]; exact ht)] at h7
      rw [e]; exact h7
theorem plV_lt {m t : Nat} {l : List Nat} (hc : Cls m l) (ht : t ∈ l) : plV m (lys l) t < 2 ^ m := by
  obtain ⟨p, hp, h2⟩ := lys_has l.length l (Nat.le_refl _) hc t ht
  obtain ⟨h1, _, h3, _⟩ := lys_mem l.length l (Nat.le_refl _) hc p hp
  rw [plV_at hc hp h2]
  rw [h1] at h2
  exact (ftN_ok h3 (lay_sub h2)).1
/-- plans tell each two sets apart -/
theorem plV_apart {m t u : Nat} {l : List Nat} (hc : Cls m l) (ht : t ∈ l) (hu : u ∈ l) (hne : t ≠ u) : t &&& plV m (lys l) t ≠ u &&& plV m (lys l) t ∨ t &&& plV m (lys l) u ≠ u &&& plV m (lys l) u := by
  obtain ⟨p, hp, h1⟩ := lys_has l.length l (Nat.le_refl _) hc t ht
  obtain ⟨q, hq, h2⟩ := lys_has l.length l (Nat.le_refl _) hc u hu
  obtain ⟨p1, _, p3, _⟩ := lys_mem l.length l (Nat.le_refl _) hc p hp
  obtain ⟨q1, _, q3, _⟩ := lys_mem l.length l (Nat.le_refl _) hc q hq
  have tell : ∀ {v w : Nat} {r : List Nat × List Nat}, r ∈ lys l → v ∈ r.1 → w ∈ r.2 → v ≠ w → v &&& plV m (lys l) v ≠ w &&& plV m (lys l) v := by
    intro v w r hr hv hw hvw e
    obtain ⟨r1, _, r3, _⟩ := lys_mem l.length l (Nat.le_refl _) hc r hr
    rw [plV_at hc hr hv] at e
    have hv2 : v ∈ r.2 := lay_sub (by rw [← r1]; exact hv)
    have h9 := (tch_all r3.asc).1 (ftN_ok r3 hv2).2
    exact hvw (h9.2 w hw e.symm).symm
  have hu2 : u ∈ q.2 := lay_sub (by rw [← q1]; exact h2)
  have ht2 : t ∈ p.2 := lay_sub (by rw [← p1]; exact h1)
  obtain ⟨A, B, e, hB⟩ := lys_cut hc hp
  have hq' := hq
  rw [e, List.mem_append, List.mem_cons] at hq'
  rcases hq' with hA | rfl | hB'
  · -- q lies ahead of p: t is one of q's
    have hpw := lys_pair l.length l (Nat.le_refl _) hc
    rw [e, List.pairwise_append] at hpw
    have h5 := (hpw.2.2 q hA p (by simp) t ht2).1
    exact .inr (fun e2 => tell hq h2 h5 (Ne.symm hne) e2.symm)
  · exact .inl (tell hp h1 hu2 hne)
  · exact .inl (tell hp h1 (hB q hB' u h2).1 hne)

/-- what LearnPlan tells: the first that fits of the last layer that has one -/
def lpO (f : Nat → Bool) (P : List (List Nat × List Nat)) : Option Nat := P.foldl (fun o p => ((p.1.filter f).head?).or o) none
theorem lpO_snoc (f : Nat → Bool) (P : List (List Nat × List Nat)) (p : List Nat × List Nat) : lpO f (P ++ [p]) = ((p.1.filter f).head?).or (lpO f P) := by simp [lpO]
theorem lpO_some {f : Nat → Bool} : ∀ (P : List (List Nat × List Nat)) (o : Option Nat) (t : Nat), P.foldl (fun o p => ((p.1.filter f).head?).or o) o = some t → o = some t ∨ ∃ p ∈ P, t ∈ p.1 ∧ f t = true
  | [], o, t, h => .inl h
  | q :: P, o, t, h => by
    rw [List.foldl_cons] at h
    rcases lpO_some P _ t h with h | ⟨p, hp, h⟩
    · cases hh : (q.1.filter f).head? with
      | none => rw [hh] at h; exact .inl (by simpa using h)
      | some u =>
        rw [hh] at h
        obtain rfl : u = t := by simpa using h
        have hm := List.mem_of_head? hh
        rw [List.mem_filter] at hm
        exact .inr ⟨q, by simp, hm⟩
    · exact .inr ⟨p, List.mem_cons_of_mem _ hp, h⟩
theorem lpO_none {f : Nat → Bool} : ∀ (P : List (List Nat × List Nat)) (o : Option Nat), P.foldl (fun o p => ((p.1.filter f).head?).or o) o = none → o = none ∧ ∀ p ∈ P, ∀ t ∈ p.1, f t = false
  | [], o, h => ⟨h, fun p hp => by simp at hp⟩
  | q :: P, o, h => by
    rw [List.foldl_cons] at h
    obtain ⟨h1, h2⟩ := lpO_none P _ h
    rw [Option.or_eq_none_iff] at h1
    refine ⟨h1.2, fun p hp t ht => ?_⟩
    rcases List.mem_cons.1 hp with rfl | hp
    · have h3 := List.head?_eq_none_iff.1 h1.1
      rw [List.filter_eq_nil_iff] at h3
      simpa using h3 t ht
    · exact h2 p hp t ht
theorem lpO_in {m : Nat} {l : List Nat} (hc : Cls m l) {f : Nat → Bool} {t : Nat} (h : lpO f (lys l) = some t) : t ∈ l ∧ f t = true := by
  rcases lpO_some _ _ _ h with h | ⟨p, hp, h1, h2⟩
  · cases h
  · obtain ⟨e, _, _, h4⟩ := lys_mem l.length l (Nat.le_refl _) hc p hp
    rw [e] at h1
    exact ⟨h4 t (lay_sub h1), h2⟩
theorem lpO_out {m : Nat} {l : List Nat} (hc : Cls m l) {f : Nat → Bool} (h : lpO f (lys l) = none) : ∀ t ∈ l, f t = false := fun t ht => by
  obtain ⟨p, hp, h2⟩ := lys_has l.length l (Nat.le_refl _) hc t ht
  exact (lpO_none _ _ h).2 p hp t h2
/-- what a plan tells of a set is learned -/
theorem lpO_teach {m t : Nat} {l : List Nat} (hc : Cls m l) {f : Nat → Bool} (ht : t ∈ l) (hf : ∀ u ∈ l, f u = true ↔ u &&& plV m (lys l) t = t &&& plV m (lys l) t) : lpO f (lys l) = some t := by
  obtain ⟨p, hp, h1⟩ := lys_has l.length l (Nat.le_refl _) hc t ht
  obtain ⟨p1, _, p3, p4⟩ := lys_mem l.length l (Nat.le_refl _) hc p hp
  have ht2 : t ∈ p.2 := lay_sub (by rw [← p1]; exact h1)
  have hone : ∀ u ∈ p.2, f u = true → u = t := fun u hu h => by
    have h5 := (hf u (p4 u hu)).1 h
    rw [plV_at hc hp h1] at h5
    exact ((tch_all p3.asc).1 (ftN_ok p3 ht2).2).2 u hu h5
  have hft : f t = true := (hf t ht).2 rfl
  obtain ⟨A, B, e, hB⟩ := lys_cut hc hp
  have hh : (p.1.filter f).head? = some t := by
    cases hh : (p.1.filter f).head? with
    | none =>
      have h3 := List.filter_eq_nil_iff.1 (List.head?_eq_none_iff.1 hh) t h1
      rw [hft] at h3; simp at h3
    | some u =>
      have hm := List.mem_of_head? hh
      rw [List.mem_filter] at hm
      rw [hone u (lay_sub (by rw [← p1]; exact hm.1)) hm.2]
  rw [e, lpO, List.foldl_append, List.foldl_cons, hh, Option.some_or]
  refine fold_keep _ B (fun q hq => ?_)
  have h6 : q.1.filter f = [] := List.filter_eq_nil_iff.2 (fun u hu hfu => by
    obtain ⟨h7, h8⟩ := hB q hq u hu
    exact h8 (hone u h7 hfu ▸ h1))
  rw [h6]; rfl

end Go.Proofs.YtnoppclajhfnjaaDoor
