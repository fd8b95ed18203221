/- Layers of a class: mathematics. No conditions. Layers: what they promise: mathematics. No conditions. A range over a method value ('for t := range f.members'): one round of a loop, and the statement, where the function that is ranged over has arguments of its own ahead of yield. Conditions: the loop is no part of another such loop. The sets of a family, one after the other: members. Conditions: the sets are numbers below 32. leastOf over the members of a family, with the measure of teachingNumber: all values of the least measure, in order. Conditions: the iterator gives small numbers. The layers of a family, one after the other: layers, an iterator of two values. Conditions: a class in order; the table setsWith is laid. One int appended to a row that the call owns: the row stays in its block or goes to a new one. Conditions: at most a million elements. The easiest sets and the others, the model's. Conditions: a class in order. RecursiveDimension, the model's. Conditions: Sets is a slice of ints. -/
import Derived.RangeFuncNested
import Derived.Test.YtnmilfkocheaiaaGreatDoorZA
import Derived.Test.YtnmilfkocheaiaaGreatDoorZB
import Derived.Test.YtnmilfkocheaiaaGreatDoorZU
import Derived.Test.YtnmilfkocheaiaaGreatDoorZW
import Derived.Test.YtnmilfkocheaiaaGreatDoorZX
namespace Go.Proofs.YtnmilfkocheaiaaGreatDoor
open Go.RowKit

/-- the easiest sets, and the others -/
def lay (l : List Nat) : List Nat := (lmn (fun t => tnI t l) l).1
def rst (l : List Nat) : List Nat := l.filter (fun t => !decide (t ∈ lay l))
theorem lay_sub {l : List Nat} {t : Nat} (h : t ∈ lay l) : t ∈ l := lmn_sub h
theorem lay_ne {l : List Nat} (h : l ≠ []) : lay l ≠ [] := lmn_ne h
theorem mem_rst {l : List Nat} {t : Nat} : t ∈ rst l ↔ t ∈ l ∧ t ∉ lay l := by simp [rst]
theorem rst_len {l : List Nat} (h : l ≠ []) : (rst l).length < l.length := by
  obtain ⟨t, ht⟩ := List.exists_mem_of_ne_nil _ (lay_ne h)
  rw [rst]
  exact List.length_filter_lt_length_iff_exists.2 ⟨t, lay_sub ht, by simp [ht]⟩
def lysF : Nat → List Nat → List (List Nat × List Nat)
  | 0, _ => []
  | k + 1, l => if l = [] then [] else (lay l, l) :: lysF k (rst l)
theorem lysF_any : ∀ (k : Nat) (l : List Nat), l.length ≤ k → ∀ j, l.length ≤ j → lysF k l = lysF j l := by
  intro k
  induction k with
  | zero =>
    intro l h j _
    obtain rfl : l = [] := List.eq_nil_of_length_eq_zero (by omega)
    cases j <;> simp [lysF]
  | succ k ih =>
    intro l h j hj
    by_cases e : l = []
    · subst e
      cases j <;> simp [lysF]
    · have hp := List.length_pos_iff.2 e
      obtain ⟨j, rfl⟩ : ∃ i, j = i + 1 := ⟨j - 1, by omega⟩
      have hr := rst_len e
      rw [lysF, lysF, if_neg e, if_neg e, ih (rst l) (by omega) j (by omega)]
/-- the layers of a class, each with what it is taught among -/
def lys (l : List Nat) : List (List Nat × List Nat) := lysF l.length l
theorem lys_nil : lys [] = [] := rfl
theorem lys_cons {l : List Nat} (h : l ≠ []) : lys l = (lay l, l) :: lys (rst l) := by
  have hp := List.length_pos_iff.2 h
  have hr := rst_len h
  rw [lys, lysF_any l.length l (Nat.le_refl _) (l.length - 1 + 1) (by omega), lysF, if_neg h, lysF_any (l.length - 1) (rst l) (by omega) (rst l).length (Nat.le_refl _)]
  rfl
theorem lysF_len : ∀ (k : Nat) (l : List Nat), (lysF k l).length ≤ k := by
  intro k
  induction k with
  | zero => intro l; exact Nat.le_refl _
  | succ k ih =>
    intro l
    rw [lysF]
    split
    · exact Nat.zero_le _
    · have := ih (rst l)
      rw [List.length_cons]; omega
theorem lys_len (l : List Nat) : (lys l).length ≤ l.length := lysF_len _ _
theorem Cls.part {m : Nat} {ns : List Nat} (h : Cls m ns) (p : Nat → Bool) : Cls m (ns.filter p) :=
  ⟨h.pts, h.asc.filter _, fun t ht => h.lt t (List.mem_filter.1 ht).1⟩
theorem rst_cls {m : Nat} {ns : List Nat} (h : Cls m ns) : Cls m (rst ns) := h.part _
theorem lay_asc {l : List Nat} (h : l.Pairwise (· < ·)) : (lay l).Pairwise (· < ·) := by
  rcases lmn_good (fun t => tnI t l) l with ⟨_, e⟩ | ⟨_, e, _⟩
  · rw [lay, e]; exact List.Pairwise.nil
  · rw [lay, e]; exact h.filter _
/-- every layer is one of sets below 32 in order, not empty -/
theorem lys_mem {m : Nat} : ∀ (k : Nat) (l : List Nat), l.length ≤ k → Cls m l → ∀ p ∈ lys l, p.1 = lay p.2 ∧ p.2 ≠ [] ∧ Cls m p.2 ∧ ∀ t ∈ p.2, t ∈ l := by
  intro k
  induction k with
  | zero =>
    intro l h _ p hp
    obtain rfl : l = [] := List.eq_nil_of_length_eq_zero (by omega)
    rw [lys_nil] at hp
    simp at hp
  | succ k ih =>
    intro l h hc p hp
    by_cases e : l = []
    · subst e
      rw [lys_nil] at hp
      simp at hp
    · rw [lys_cons e] at hp
      rcases List.mem_cons.1 hp with rfl | hp
      · exact ⟨rfl, e, hc, fun t ht => ht⟩
      · have hr := rst_len e
        obtain ⟨h1, h2, h3, h4⟩ := ih (rst l) (by omega) (rst_cls hc) p hp
        exact ⟨h1, h2, h3, fun t ht => (mem_rst.1 (h4 t ht)).1⟩
theorem sTo_spec {xs : List Int} (hn : natural xs) : ∀ k, k < xs.length → (∃ i, i ≤ k ∧ sTo xs (k + 1) = xs.getD i 0) ∧ ∀ i, i ≤ k → sTo xs (k + 1) ≤ xs.getD i 0 := by
  intro k
  induction k with
  | zero =>
    intro _
    rw [sTo_one]
    exact ⟨⟨0, Nat.le_refl _, rfl⟩, fun i hi => by rw [show i = 0 by omega]; exact Int.le_refl _⟩
  | succ k ih =>
    intro hk
    obtain ⟨⟨j, hj, h1⟩, h2⟩ := ih (by omega)
    have h0 := sTo_bd hn k (by omega)
    rw [sTo_step]
    by_cases hc : sTo xs (k + 1) < 0 ∨ xs.getD (k + 1) 0 < sTo xs (k + 1)
    · rw [if_pos hc]
      refine ⟨⟨k + 1, Nat.le_refl _, rfl⟩, fun i hi => ?_⟩
      by_cases e : i = k + 1
      · rw [e]; exact Int.le_refl _
      · have := h2 i (by omega); omega
    · rw [if_neg hc]
      refine ⟨⟨j, by omega, h1⟩, fun i hi => ?_⟩
      by_cases e : i = k + 1
      · rw [e]; omega
      · exact h2 i (by omega)
theorem tns_nat (m : Nat) (l : List Nat) : natural (tns m l) := fun k hk => by
  rw [tns_len] at hk
  rw [tns_getD hk]
  exact Int.natCast_nonneg _
/-- the least number of points that teach one -/
def ezL (m : Nat) (l : List Nat) : Int := sTo (tns m l) l.length
theorem ezL_spec {m : Nat} {l : List Nat} (h : l ≠ []) : (∃ u ∈ l, ezL m l = (pc (ftN m u l) : Int)) ∧ ∀ u ∈ l, ezL m l ≤ (pc (ftN m u l) : Int) := by
  have hp := List.length_pos_iff.2 h
  obtain ⟨⟨i, hi, h1⟩, h2⟩ := sTo_spec (tns_nat m l) (l.length - 1) (by rw [tns_len]; omega)
  rw [show l.length - 1 + 1 = l.length by omega] at h1 h2
  refine ⟨⟨l.getD i 0, getD_of_lt (by omega), ?_⟩, fun u hu => ?_⟩
  · rw [ezL, h1, tns_getD (by omega)]
  · obtain ⟨j, hj, rfl⟩ := List.getElem_of_mem hu
    have := h2 j (by omega)
    rw [tns_getD hj, List.getD_eq_getElem?_getD, List.getElem?_eq_getElem hj, Option.getD_some] at this
    exact this
theorem mem_lay {m : Nat} {l : List Nat} (hc : Cls m l) {t : Nat} (ht : t ∈ l) : t ∈ lay l ↔ (pc (ftN m t l) : Int) = ezL m l := by
  have hne := List.ne_nil_of_mem ht
  obtain ⟨⟨u, hu, h1⟩, h2⟩ := ezL_spec (m := m) hne
  rcases lmn_good (fun t => tnI t l) l with ⟨e, _⟩ | ⟨g1, g2, g3⟩
  · exact absurd e hne
  have e : (lmn (fun t => tnI t l) l).2 = ezL m l := by
    have h3 := g3 u hu
    rw [show (fun t => tnI t l) u = tnI u l from rfl, tns_I hc hu] at h3
    obtain ⟨v, hv⟩ := List.exists_mem_of_ne_nil _ g1
    rw [g2] at hv
    obtain ⟨hv1, hv2⟩ := List.mem_filter.1 hv
    have hv3 : tnI v l = (lmn (fun t => tnI t l) l).2 := by simpa using hv2
    rw [tns_I hc hv1] at hv3
    have := h2 v hv1
    omega
  rw [lay, g2, List.mem_filter]
  constructor
  · rintro ⟨_, h⟩
    have h4 : tnI t l = (lmn (fun t => tnI t l) l).2 := by simpa using h
    rw [← e, ← h4, tns_I hc ht]
  · intro h
    refine ⟨ht, ?_⟩
    have h4 : tnI t l = (lmn (fun t => tnI t l) l).2 := by rw [e, ← h, tns_I hc ht]
    simpa using h4
theorem lay_flt {m : Nat} {l : List Nat} (hc : Cls m l) : lay l = l.filter (fun t => decide ((pc (ftN m t l) : Int) = ezL m l)) := by
  refine asc_ext (lay_asc hc.asc) (hc.asc.filter _) (fun t => ?_)
  rw [List.mem_filter, decide_eq_true_eq]
  exact ⟨fun h => ⟨lay_sub h, (mem_lay hc (lay_sub h)).1 h⟩, fun h => (mem_lay hc h.1).2 h.2⟩
theorem rst_flt {m : Nat} {l : List Nat} (hc : Cls m l) : rst l = l.filter (fun t => !decide ((pc (ftN m t l) : Int) = ezL m l)) := by
  refine List.filter_congr (fun t ht => ?_)
  congr 1
  rw [decide_eq_decide]
  exact mem_lay hc ht

end Go.Proofs.YtnmilfkocheaiaaGreatDoor

namespace Go.Proofs.YtnmilfkocheaiaaGreatDoor
open Go.RowKit

theorem tch_all {t s : Nat} {l : List Nat} (has : l.Pairwise (· < ·)) : tch t s l = true ↔ t ∈ l ∧ ∀ u ∈ l, u &&& s = t &&& s → u = t := by
  rw [tch, beq_iff_eq]
  constructor
  · intro e
    have ht : t ∈ agr t s l := by rw [e]; simp
    refine ⟨agr_sub ht, fun u hu hus => ?_⟩
    have h9 : u ∈ agr t s l := List.mem_filter.2 ⟨hu, by simpa using hus⟩
    rw [e] at h9
    simpa using h9
  · rintro ⟨ht, hu⟩
    refine asc_ext (has.filter _) (List.pairwise_singleton _ _) (fun x => ?_)
    rw [List.mem_singleton, agr, List.mem_filter]
    constructor
    · rintro ⟨h1, h2⟩; exact hu x h1 (by simpa using h2)
    · rintro rfl; exact ⟨ht, by simp⟩
theorem ftN_ok {m t : Nat} {l : List Nat} (h : Cls m l) (ht : t ∈ l) : ftN m t l < 2 ^ m ∧ tch t (ftN m t l) l = true := (ft_eq h ht).2.2
theorem ftN_min {m t s : Nat} {l : List Nat} (hs : s < 2 ^ m) (h : tch t s l = true) : pc (ftN m t l) ≤ pc s := (bstN_spec (fun s => tch t s l) (2 ^ m - 1) (2 ^ m)).2 s hs h
theorem tch_less {t s : Nat} {l l' : List Nat} (ha : l.Pairwise (· < ·)) (ha' : l'.Pairwise (· < ·)) (hs : ∀ u ∈ l', u ∈ l) (ht : t ∈ l') (h : tch t s l = true) : tch t s l' = true := by
  rw [tch_all ha] at h
  rw [tch_all ha']
  exact ⟨ht, fun u hu e => h.2 u (hs u hu) e⟩
theorem ftN_less {m t : Nat} {l l' : List Nat} (hc : Cls m l) (hc' : Cls m l') (hs : ∀ u ∈ l', u ∈ l) (ht : t ∈ l') : pc (ftN m t l') ≤ pc (ftN m t l) := by
  obtain ⟨h1, h2⟩ := ftN_ok hc (hs t ht)
  exact ftN_min h1 (tch_less hc.asc hc'.asc hs ht h2)
theorem ezL_lay {m t : Nat} {l : List Nat} (hc : Cls m l) (h : t ∈ lay l) : ezL m l = (pc (ftN m t l) : Int) := ((mem_lay hc (lay_sub h)).1 h).symm
theorem ezL_nn {m : Nat} {l : List Nat} (h : l ≠ []) : 0 ≤ ezL m l := by
  obtain ⟨⟨u, _, e⟩, _⟩ := ezL_spec (m := m) h
  rw [e]; exact Int.natCast_nonneg _
theorem ezL_mono {m t : Nat} {l l' : List Nat} (hc : Cls m l) (hc' : Cls m l') (hs : ∀ u ∈ l', u ∈ l) (ht : t ∈ l') (h : t ∈ lay l) : ezL m l' ≤ ezL m l := by
  have h1 := (ezL_spec (m := m) (List.ne_nil_of_mem ht)).2 t ht
  have h2 := ftN_less hc hc' hs ht
  rw [ezL_lay hc h]
  omega

/-- the greatest of the layers' numbers, from b on -/
def rdS (m : Nat) (b : Int) (P : List (List Nat × List Nat)) : Int := P.foldl (fun b p => if b < ezL m p.2 then ezL m p.2 else b) b
theorem rdS_snoc (m : Nat) (b : Int) (P : List (List Nat × List Nat)) (p : List Nat × List Nat) : rdS m b (P ++ [p]) = if rdS m b P < ezL m p.2 then ezL m p.2 else rdS m b P := by rw [rdS, List.foldl_append]; rfl
theorem rdS_spec (m : Nat) : ∀ (P : List (List Nat × List Nat)) (b : Int), b ≤ rdS m b P ∧ (∀ p ∈ P, ezL m p.2 ≤ rdS m b P) ∧ (rdS m b P = b ∨ ∃ p ∈ P, rdS m b P = ezL m p.2)
  | [], b => ⟨Int.le_refl _, fun p hp => by simp at hp, .inl rfl⟩
  | q :: P, b => by
    have e : rdS m b (q :: P) = rdS m (if b < ezL m q.2 then ezL m q.2 else b) P := rfl
    obtain ⟨h1, h2, h3⟩ := rdS_spec m P (if b < ezL m q.2 then ezL m q.2 else b)
    rw [e]
    have hb : b ≤ (if b < ezL m q.2 then ezL m q.2 else b) ∧ ezL m q.2 ≤ (if b < ezL m q.2 then ezL m q.2 else b) := by split <;> omega
    refine ⟨by omega, fun p hp => ?_, ?_⟩
    · rcases List.mem_cons.1 hp with rfl | hp
      · omega
      · exact h2 p hp
    · rcases h3 with h3 | ⟨p, hp, h3⟩
      · by_cases hc : b < ezL m q.2
        · rw [if_pos hc] at h3 ⊢
          exact .inr ⟨q, by simp, h3⟩
        · rw [if_neg hc] at h3 ⊢
          exact .inl h3
      · exact .inr ⟨p, List.mem_cons_of_mem _ hp, h3⟩
/-- what RecursiveDimension answers for a class -/
def rdM (m : Nat) (l : List Nat) : Int := rdS m (-1) (lys l)
theorem rdM_lo (m : Nat) (l : List Nat) : -1 ≤ rdM m l := (rdS_spec m (lys l) (-1)).1
theorem rdM_nil (m : Nat) : rdM m [] = -1 := rfl
theorem rdM_first {m : Nat} {l : List Nat} (h : l ≠ []) : ezL m l ≤ rdM m l := (rdS_spec m (lys l) (-1)).2.1 (lay l, l) (by rw [lys_cons h]; simp)
theorem rdM_rst {m : Nat} {l : List Nat} (h : l ≠ []) : rdM m (rst l) ≤ rdM m l := by
  rcases (rdS_spec m (lys (rst l)) (-1)).2.2 with e | ⟨p, hp, e⟩
  · rw [rdM, e]; exact rdM_lo m l
  · rw [rdM, e]
    exact (rdS_spec m (lys l) (-1)).2.1 p (by rw [lys_cons h]; exact List.mem_cons_of_mem _ hp)
theorem rdM_sub {m : Nat} : ∀ (N : Nat) (l : List Nat), l.length ≤ N → Cls m l → ∀ l', Cls m l' → l' ≠ [] → (∀ u ∈ l', u ∈ l) → ezL m l' ≤ rdM m l := by
  intro N
  induction N with
  | zero =>
    intro l hl _ l' _ hne hs
    obtain ⟨u, hu⟩ := List.exists_mem_of_ne_nil _ hne
    have := List.length_pos_iff.2 (List.ne_nil_of_mem (hs u hu))
    omega
  | succ N ih =>
    intro l hl hc l' hc' hne hs
    obtain ⟨u, hu⟩ := List.exists_mem_of_ne_nil _ hne
    have hl0 := List.ne_nil_of_mem (hs u hu)
    by_cases hm : ∃ t ∈ l', t ∈ lay l
    · obtain ⟨t, ht, h2⟩ := hm
      have h3 := ezL_mono hc hc' hs ht h2
      have h4 := rdM_first (m := m) hl0
      omega
    · have hr := rst_len hl0
      have h5 := ih (rst l) (by omega) (rst_cls hc) l' hc' hne (fun v hv => mem_rst.2 ⟨hs v hv, fun h => hm ⟨v, hv, h⟩⟩)
      have h6 := rdM_rst (m := m) hl0
      omega
theorem rdM_att {m : Nat} {l : List Nat} (hc : Cls m l) : rdM m l = -1 ∨ ∃ p ∈ lys l, rdM m l = ezL m p.2 ∧ p.2 ≠ [] ∧ Cls m p.2 ∧ ∀ t ∈ p.2, t ∈ l := by
  rcases (rdS_spec m (lys l) (-1)).2.2 with e | ⟨p, hp, e⟩
  · exact .inl e
  · obtain ⟨_, h2, h3, h4⟩ := lys_mem l.length l (Nat.le_refl _) hc p hp
    exact .inr ⟨p, hp, e, h2, h3, h4⟩
/-- fewer sets are no harder -/
theorem rdM_mono {m : Nat} {l l' : List Nat} (hc : Cls m l) (hc' : Cls m l') (hs : ∀ u ∈ l', u ∈ l) : rdM m l' ≤ rdM m l := by
  rcases rdM_att hc' with e | ⟨p, _, e, h2, h3, h4⟩
  · rw [e]; exact rdM_lo m l
  · rw [e]; exact rdM_sub l.length l (Nat.le_refl _) hc p.2 h3 h2 (fun u hu => hs u (h4 u hu))
theorem gTo_all (xs : List Int) : ∀ k, -1 ≤ gTo xs k ∧ ∀ i, i < k → xs.getD i 0 ≤ gTo xs k := by
  intro k
  induction k with
  | zero => exact ⟨Int.le_refl _, fun i hi => by omega⟩
  | succ k ih =>
    rw [gTo_step]
    by_cases h : gTo xs k < xs.getD k 0
    · rw [if_pos h]
      refine ⟨by omega, fun i hi => ?_⟩
      by_cases e : i = k
      · rw [e]; exact Int.le_refl _
      · have := ih.2 i (by omega); omega
    · rw [if_neg h]
      refine ⟨ih.1, fun i hi => ?_⟩
      by_cases e : i = k
      · rw [e]; omega
      · exact ih.2 i (by omega)
theorem gTo_one_of (xs : List Int) : ∀ k, gTo xs k = -1 ∨ ∃ i, i < k ∧ gTo xs k = xs.getD i 0 := by
  intro k
  induction k with
  | zero => exact .inl rfl
  | succ k ih =>
    rw [gTo_step]
    by_cases h : gTo xs k < xs.getD k 0
    · rw [if_pos h]; exact .inr ⟨k, by omega, rfl⟩
    · rw [if_neg h]
      rcases ih with e | ⟨i, hi, e⟩
      · exact .inl e
      · exact .inr ⟨i, by omega, e⟩
/-- layers are no harder than all -/
theorem rdM_td {m : Nat} {l : List Nat} (hc : Cls m l) : rdM m l ≤ gTo (tns m l) l.length := by
  rcases rdM_att hc with e | ⟨p, _, e, h2, h3, h4⟩
  · rw [e]; exact (gTo_all _ _).1
  · obtain ⟨u, hu⟩ := List.exists_mem_of_ne_nil _ h2
    have h5 := (ezL_spec (m := m) h2).2 u hu
    have h6 := ftN_less hc h3 h4 hu
    obtain ⟨i, hi, hie⟩ := List.getElem_of_mem (h4 u hu)
    have h7 := (gTo_all (tns m l) l.length).2 i hi
    rw [tns_getD hi, List.getD_eq_getElem?_getD, List.getElem?_eq_getElem hi, Option.getD_some, hie] at h7
    rw [e]; omega
/-- nothing need be told exactly where there is one set alone -/
theorem ezL_zero {m : Nat} {l : List Nat} (hc : Cls m l) (h : l ≠ []) : ezL m l = 0 ↔ l.length = 1 := by
  obtain ⟨⟨u, hu, h1⟩, h2⟩ := ezL_spec (m := m) h
  have hz : ∀ s : Fin 32, pc s.1 = 0 → s.1 = 0 := by decide +kernel
  constructor
  · intro h0
    obtain ⟨h3, h4⟩ := ftN_ok hc hu
    have h5 : ftN m u l = 0 := hz ⟨ftN m u l, Nat.lt_of_lt_of_le h3 (pow_le_32 hc.pts)⟩ (by show pc (ftN m u l) = 0; omega)
    rw [h5, tch_all hc.asc] at h4
    have h6 : l = [u] := asc_ext hc.asc (List.pairwise_singleton _ _) (fun x => by
      rw [List.mem_singleton]
      exact ⟨fun hx => h4.2 x hx (by simp), fun e => e ▸ hu⟩)
    rw [h6]; rfl
  · intro h1'
    obtain ⟨a, rfl⟩ := List.length_eq_one_iff.1 h1'
    have h3 : tch a 0 [a] = true := by
      rw [tch_all hc.asc]
      exact ⟨by simp, fun u hu _ => by simpa using hu⟩
    have h4 := ftN_min (Nat.two_pow_pos m) h3
    have h5 := h2 a (by simp)
    have h6 := ezL_nn (m := m) h
    have h7 : pc 0 = 0 := rfl
    omega

/-- which points a plan has for t, by the layers P -/
def plV (m : Nat) (P : List (List Nat × List Nat)) (t : Nat) : Nat := P.foldl (fun v p => if t ∈ p.1 then ftN m t p.2 else v) 0
theorem plV_snoc (m : Nat) (P : List (List Nat × List Nat)) (p : List Nat × List Nat) (t : Nat) : plV m (P ++ [p]) t = if t ∈ p.1 then ftN m t p.2 else plV m P t := by simp [plV]
theorem lys_pair {m : Nat} : ∀ (N : Nat) (l : List Nat), l.length ≤ N → Cls m l → (lys l).Pairwise (fun p q => ∀ t ∈ q.2, t ∈ p.2 ∧ t ∉ p.1) := by
  intro N
  induction N with
  | zero =>
    intro l hl _
    obtain rfl : l = [] := List.eq_nil_of_length_eq_zero (by omega)
    rw [lys_nil]; exact List.Pairwise.nil
  | succ N ih =>
    intro l hl hc
    by_cases e : l = []
    · subst e; rw [lys_nil]; exact List.Pairwise.nil
    · have hr := rst_len e
      rw [lys_cons e]
      refine List.pairwise_cons.2 ⟨fun q hq t ht => ?_, ih (rst l) (by omega) (rst_cls hc)⟩
      exact mem_rst.1 ((lys_mem _ _ (Nat.le_refl _) (rst_cls hc) q hq).2.2.2 t ht)
theorem lys_has {m : Nat} : ∀ (N : Nat) (l : List Nat), l.length ≤ N → Cls m l → ∀ t ∈ l, ∃ p ∈ lys l, t ∈ p.1 := by
  intro N
  induction N with
  | zero =>
    intro l hl _ t ht
    have := List.length_pos_iff.2 (List.ne_nil_of_mem ht)
    omega
  | succ N ih =>
    intro l hl hc t ht
    have e := List.ne_nil_of_mem ht
    have hr := rst_len e
    rw [lys_cons e]
    by_cases h : t ∈ lay l
    · exact ⟨(lay l, l), by simp, h⟩
    · obtain ⟨p, hp, h2⟩ := ih (rst l) (by omega) (rst_cls hc) t (mem_rst.2 ⟨ht, h⟩)
      exact ⟨p, List.mem_cons_of_mem _ hp, h2⟩
/-- a layer, with those behind it -/
theorem lys_cut {m : Nat} {l : List Nat} (hc : Cls m l) {p : List Nat × List Nat} (hp : p ∈ lys l) : ∃ A B, lys l = A ++ p :: B ∧ ∀ q ∈ B, ∀ t ∈ q.1, t ∈ p.2 ∧ t ∉ p.1 := by
  obtain ⟨A, B, e⟩ := List.append_of_mem hp
  have hpw := lys_pair l.length l (Nat.le_refl _) hc
  rw [e, List.pairwise_append] at hpw
  refine ⟨A, B, e, fun q hq t ht => (List.pairwise_cons.1 hpw.2.1).1 q hq t ?_⟩
  have hq2 := lys_mem l.length l (Nat.le_refl _) hc q (by rw [e]; simp [hq])
  rw [hq2.1] at ht
  exact lay_sub ht
theorem fold_keep {α β : Type} {f : β → α → β} (v : β) : ∀ (B : List α), (∀ q ∈ B, f v q = v) → B.foldl f v = v
  | [], _ => rfl
  | q :: B, h => by
    rw [List.foldl_cons, h q (by simp)]
    exact fold_keep v B (fun r hr => h r (List.mem_cons_of_mem _ hr))
theorem plV_at {m t : Nat} {l : List Nat} (hc : Cls m l) {p : List Nat × List Nat} (hp : p ∈ lys l) (ht : t ∈ p.1) : plV m (lys l) t = ftN m t p.2 := by
  obtain ⟨A, B, e, hB⟩ := lys_cut hc hp
  rw [e, plV, List.foldl_append, List.foldl_cons, if_pos ht]
  exact fold_keep _ B (fun q hq => if_neg (fun h => (hB q hq t h).2 ht))
/-- the plan of a class: its numbers of points have the greatest one of the layers' -/
theorem plan_rd {m : Nat} {l : List Nat} (hc : Cls m l) : gTo (l.map (fun t => ((pc (plV m (lys l) t) : Nat) : Int))) l.length = rdM m l := by
  have hpt : ∀ p ∈ lys l, ∀ t ∈ p.1, ((pc (plV m (lys l) t) : Nat) : Int) = ezL m p.2 := fun p hp t ht => by
    obtain ⟨h1, h2, h3, h4⟩ := lys_mem l.length l (Nat.le_refl _) hc p hp
    rw [plV_at hc hp ht]
    rw [h1] at ht
    exact (ezL_lay h3 ht).symm
  have hget : ∀ i, i < l.length → (l.map (fun t => ((pc (plV m (lys l) t) : Nat) : Int))).getD i 0 = ((pc (plV m (lys l) (l.getD i 0)) : Nat) : Int) := fun i hi => by
    simp [List.getD_eq_getElem?_getD, hi]
  apply Int.le_antisymm
  · rcases gTo_one_of (l.map (fun t => ((pc (plV m (lys l) t) : Nat) : Int))) l.length with e | ⟨i, hi, e⟩
    · rw [e]; exact rdM_lo m l
    · rw [e, hget i hi]
      obtain ⟨p, hp, h2⟩ := lys_has l.length l (Nat.le_refl _) hc _ (getD_of_lt hi)
      rw [hpt p hp _ h2]
      exact (rdS_spec m (lys l) (-1)).2.1 p hp
  · rcases rdM_att hc with e | ⟨p, hp, e, h2, h3, h4⟩
    · rw [e]; exact (gTo_all _ _).1
    · obtain ⟨t, ht⟩ := List.exists_mem_of_ne_nil _ (lay_ne h2)
      have h1 := (lys_mem l.length l (Nat.le_refl _) hc p hp).1
      obtain ⟨i, hi, hie⟩ := List.getElem_of_mem (h4 t (lay_sub ht))
      have h7 := (gTo_all (l.map (fun t => ((pc (plV m (lys l) t) : Nat) : Int))) l.length).2 i hi
      rw [hget i hi, List.getD_eq_getElem?_getD, List.getElem?_eq_getElem hi, Option.getD_some, hie, hpt p hp t (by rw [h1]; exact ht)] at h7
      rw [e]; exact h7
theorem plV_lt {m t : Nat} {l : List Nat} (hc : Cls m l) (ht : t ∈ l) : plV m (lys l) t < 2 ^ m := by
  obtain ⟨p, hp, h2⟩ := lys_has l.length l (Nat.le_refl _) hc t ht
  obtain ⟨h1, _, h3, _⟩ := lys_mem l.length l (Nat.le_refl _) hc p hp
  rw [plV_at hc hp h2]
  rw [h1] at h2
  exact (ftN_ok h3 (lay_sub h2)).1
/-- plans tell each two sets apart -/
theorem plV_apart {m t u : Nat} {l : List Nat} (hc : Cls m l) (ht : t ∈ l) (hu : u ∈ l) (hne : t ≠ u) : t &&& plV m (lys l) t ≠ u &&& plV m (lys l) t ∨ t &&& plV m (lys l) u ≠ u &&& plV m (lys l) u := by
  obtain ⟨p, hp, h1⟩ := lys_has l.length l (Nat.le_refl _) hc t ht
  obtain ⟨q, hq, h2⟩ := lys_has l.length l (Nat.le_refl _) hc u hu
  obtain ⟨p1, _, p3, _⟩ := lys_mem l.length l (Nat.le_refl _) hc p hp
  obtain ⟨q1, _, q3, _⟩ := lys_mem l.length l (Nat.le_refl _) hc q hq
  have tell : ∀ {v w : Nat} {r : List Nat × List Nat}, r ∈ lys l → v ∈ r.1 → w ∈ r.2 → v ≠ w → v &&& plV m (lys l) v ≠ w &&& plV m (lys l) v := by
    intro v w r hr hv hw hvw e
    obtain ⟨r1, _, r3, _⟩ := lys_mem l.length l (Nat.le_refl _) hc r hr
    rw [plV_at hc hr hv] at e
    have hv2 : v ∈ r.2 := lay_sub (by rw [← r1]; exact hv)
    have h9 := (tch_all r3.asc).1 (ftN_ok r3 hv2).2
    exact hvw (h9.2 w hw e.symm).symm
  have hu2 : u ∈ q.2 := lay_sub (by rw [← q1]; exact h2)
  have ht2 : t ∈ p.2 := lay_sub (by rw [← p1]; exact h1)
  obtain ⟨A, B, e, hB⟩ := lys_cut hc hp
  have hq' := hq
  rw [e, List.mem_append, List.mem_cons] at hq'
  rcases hq' with hA | rfl | hB'
  · -- q lies ahead of p: t is one of q's
    have hpw := lys_pair l.length l (Nat.le_refl _) hc
    rw [e, List.pairwise_append] at hpw
    have h5 := (hpw.2.2 q hA p (by simp) t ht2).1
    exact .inr (fun e2 => tell hq h2 h5 (Ne.symm hne) e2.symm)
  · exact .inl (tell hp h1 hu2 hne)
  · exact .inl (tell hp h1 (hB q hB' u h2).1 hne)

/-- what LearnPlan tells: the first that fits of the last layer that has one -/
def lpO (f : Nat → Bool) (P : List (List Nat × List Nat)) : Option Nat := P.foldl (fun o p => ((p.1.filter f).head?).or o) none
theorem lpO_snoc (f : Nat → Bool) (P : List (List Nat × List Nat)) (p : List Nat × List Nat) : lpO f (P ++ [p]) = ((p.1.filter f).head?).or (lpO f P) := by simp [lpO]
theorem lpO_some {f : Nat → Bool} : ∀ (P : List (List Nat × List Nat)) (o : Option Nat) (t : Nat), P.foldl (fun o p => ((p.1.filter f).head?).or o) o = some t → o = some t ∨ ∃ p ∈ P, t ∈ p.1 ∧ f t = true
  | [], o, t, h => .inl h
  | q :: P, o, t, h => by
    rw [List.foldl_cons] at h
    rcases lpO_some P _ t h with h | ⟨p, hp, h⟩
    · cases hh : (q.1.filter f).head? with
      | none => rw [hh] at h; exact .inl (by simpa using h)
      | some u =>
        rw [hh] at h
        obtain rfl : u = t := by simpa using h
        have hm := List.mem_of_head? hh
        rw [List.mem_filter] at hm
        exact .inr ⟨q, by simp, hm⟩
    · exact .inr ⟨p, List.mem_cons_of_mem _ hp, h⟩
theorem lpO_none {f : Nat → Bool} : ∀ (P : List (List Nat × List Nat)) (o : Option Nat), P.foldl (fun o p => ((p.1.filter f).head?).or o) o = none → o = none ∧ ∀ p ∈ P, ∀ t ∈ p.1, f t = false
  | [], o, h => ⟨h, fun p hp => by simp at hp⟩
  | q :: P, o, h => by
    rw [List.foldl_cons] at h
    obtain ⟨h1, h2⟩ := lpO_none P _ h
    rw [Option.or_eq_none_iff] at h1
    refine ⟨h1.2, fun p hp t ht => ?_⟩
    rcases List.mem_cons.1 hp with rfl | hp
    · have h3 := List.head?_eq_none_iff.1 h1.1
      rw [List.filter_eq_nil_iff] at h3
      simpa using h3 t ht
    · exact h2 p hp t ht
theorem lpO_in {m : Nat} {l : List Nat} (hc : Cls m l) {f : Nat → Bool} {t : Nat} (h : lpO f (lys l) = some t) : t ∈ l ∧ f t = true := by
  rcases lpO_some _ _ _ h with h | ⟨p, hp, h1, h2⟩
  · cases h
  · obtain ⟨e, _, _, h4⟩ := lys_mem l.length l (Nat.le_refl _) hc p hp
    rw [e] at h1
    exact ⟨h4 t (lay_sub h1), h2⟩
theorem lpO_out {m : Nat} {l : List Nat} (hc : Cls m l) {f : Nat → Bool} (h : lpO f (lys l) = none) : ∀ t ∈ l, f t = false := fun t ht => by
  obtain ⟨p, hp, h2⟩ := lys_has l.length l (Nat.le_refl _) hc t ht
  exact (lpO_none _ _ h).2 p hp t h2
/-- what a plan tells of a set is learned -/
theorem lpO_teach {m t : Nat} {l : List Nat} (hc : Cls m l) {f : Nat → Bool} (ht : t ∈ l) (hf : ∀ u ∈ l, f u = true ↔ u &&& plV m (lys l) t = t &&& plV m (lys l) t) : lpO f (lys l) = some t := by
  obtain ⟨p, hp, h1⟩ := lys_has l.length l (Nat.le_refl _) hc t ht
  obtain ⟨p1, _, p3, p4⟩ := lys_mem l.length l (Nat.le_refl _) hc p hp
  have ht2 : t ∈ p.2 := lay_sub (by rw [← p1]; exact h1)
  have hone : ∀ u ∈ p.2, f u = true → u = t := fun u hu h => by
    have h5 := (hf u (p4 u hu)).1 h
    rw [plV_at hc hp h1] at h5
    exact ((tch_all p3.asc).1 (ftN_ok p3 ht2).2).2 u hu h5
  have hft : f t = true := (hf t ht).2 rfl
  obtain ⟨A, B, e, hB⟩ := lys_cut hc hp
  have hh : (p.1.filter f).head? = some t := by
    cases hh : (p.1.filter f).head? with
    | none =>
      have h3 := List.filter_eq_nil_iff.1 (List.head?_eq_none_iff.1 hh) t h1
      rw [hft] at h3; simp at h3
    | some u =>
      have hm := List.mem_of_head? hh
      rw [List.mem_filter] at hm
      rw [hone u (lay_sub (by rw [← p1]; exact hm.1)) hm.2]
  rw [e, lpO, List.foldl_append, List.foldl_cons, hh, Option.some_or]
  refine fold_keep _ B (fun q hq => ?_)
  have h6 : q.1.filter f = [] := List.filter_eq_nil_iff.2 (fun u hu hfu => by
    obtain ⟨h7, h8⟩ := hB q hq u hu
    exact h8 (hone u h7 hfu ▸ h1))
  rw [h6]; rfl

end Go.Proofs.YtnmilfkocheaiaaGreatDoor

namespace Go.Proofs.YtnmilfkocheaiaaGreatDoor
open Go.RowKit

variable {F : Fence} {n : Nat} {P : Program}

/-- what an iterator with arguments ahead of yield owes, and is owed -/
def SeqV {α : Type} (F : Fence) (n : Nat) (P : Program) (g : Nat) (fs lb : Array Value) (encs : α → Array Value) (Kp : α → World → World → Prop) (G : List α → α → World → World → Prop) (S Sp : List α → Prop) (N : Nat) (w : World) : Prop :=
  ∀ (l : Nat) (J Jx : List α → World → Prop) (W : World), Below w.heap.size w W → AbidesFrom W.heap.size J → AbidesFrom W.heap.size Jx →
    (∀ pre x W0 W1, J pre W0 → Below W0.heap.size W0 W1 → J pre W1 → G pre x W0 W1 → pre.length < N → YieldAt F (n - 1) P l (encs x) W1 fun e W' =>
      (e = .returned (.bool true) ∧ J (pre ++ [x]) W' ∧ Kp x W1 W') ∨ (e = .returned (.bool false) ∧ Jx (pre ++ [x]) W')) →
    J [] W →
    CallsIn F n P g (fs ++ #[.func (.yield l) #[] #[]] ++ lb) W fun e W' => (∃ v, e = .returned v) ∧ ((∃ xs, S xs ∧ J xs W') ∨ (∃ pre, Sp pre ∧ Jx pre W'))

/-- a record's state while its body runs; behind it -/
def Loop.busyR (r : Loop) : Loop := { r with state := .busy }
def Loop.endR (r : Loop) (j : Option Code) : Loop := { r with state := if j.isNone then .ready else .done, pending := j }
/-- by which jump a body is left, if by any -/
def goOn (K : Option Code → World → Prop) : Exit → Act → World → Prop
  | .normal, _, W => K none W
  | .ret, _, W => K (some .ret) W
  | .exit id, _, W => K (some (.exit id)) W
  | .goto t, _, W => K (some (.goto t)) W
  | .panic _, _, _ => False
  | .outgrown, _, _ => False

/-- **one round**, off the record that lies at l -/
theorem yieldAt_rec {m l : Nat} {r : Loop} {args : Array Value} {W : World} {R : Ending → World → Prop} (hl : W.heap[l]? = some (.loop r)) (hs : r.state = .ready) (ha : args.size = r.params.size) (hf : F.fn r.fn)
    (h : r.assign.wpIn (F.inRound l) m P (Exit.then (fun a' Wa => Wa.heap[l]? = some (.loop r) ∧ r.body.wpIn (F.inRound l) m P (goOn fun j W3 => W3.heap[l]? = some (.loop (Loop.busyR r)) ∧ R (.returned (.bool j.isNone)) (W3.putObj l (.loop (Loop.endR r j)))) a' (Wa.putObj l (.loop (Loop.busyR r)))) (fun _ _ _ => False))
      { tmps := (r.params.zip args).foldl (fun tmps (t, a) => tmps.setIfInBounds t a) r.tmps, defers := [] } W) :
    YieldAt F m P l args W R := by
  refine ⟨r.fn, _, r.assign, r.body, run_yield hl ha, roundIn_of_wpIn hf (wpIn_mono h ?_)⟩
  intro e a' Wa hp
  cases e with
  | normal =>
    obtain ⟨hla, hb⟩ := hp
    refine ⟨_, run_beginRound hla hs, wpIn_mono hb ?_⟩
    intro e2 a3 W3 hq
    have fin : ∀ j : Option Code, (W3.heap[l]? = some (.loop (Loop.busyR r)) ∧ R (.returned (.bool j.isNone)) (W3.putObj l (.loop (Loop.endR r j)))) → ∃ v w', (Instr.endRound l j).run P W3 = .ok v w' ∧ R (.returned v) w' :=
      fun j hj => ⟨_, _, run_endRound j hj.1, hj.2⟩
    cases e2 with
    | normal => exact fin none hq
    | ret => exact fin (some .ret) hq
    | exit id => exact fin (some (.exit id)) hq
    | goto t => exact fin (some (.goto t)) hq
    | panic c => exact hq.elim
    | outgrown => exact hq.elim
  | exit id => exact hp.elim
  | goto t => exact hp.elim
  | ret => exact hp.elim
  | panic c => exact hp.elim
  | outgrown => exact hp.elim

/-- what lies at two blocks of book-keeping: the calls put off, and the record -/
def Books (D : Nat) (r : Loop) (W : World) : Prop := W.heap[D]? = some (.deferred (some [])) ∧ W.heap[D + 1]? = some (.loop r)
theorem Books.lt {D : Nat} {r : Loop} {W : World} (h : Books D r W) : D + 1 < W.heap.size := (Array.getElem?_eq_some_iff.1 h.2).1
theorem Books.put {D : Nat} {r : Loop} {W : World} (r' : Loop) (h : Books D r W) : Books D r' (W.putObj (D + 1) (.loop r')) :=
  ⟨(World.putObj_heap_other (by omega)).trans h.1, World.putObj_heap_same h.lt⟩
theorem Books.kept {D B : Nat} {r : Loop} {W W' : World} (h : Books D r W) (k : KeepsFrom B W W') (hB : B ≤ D) : Books D r W' := ⟨k.same _ _ hB h.1 rfl, k.same _ _ (by omega) h.2 rfl⟩
theorem Books.grown {D : Nat} {r : Loop} {A B : World} {row : Option Nat} (h : Books D r A) (hg : A.grownBy B row) (hr : ∀ k, row = some k → ∃ o : Obj, A.heap[k]? = some o ∧ o.isWalk = true) : Books D r B :=
  ⟨(grownBy_keeps hg hr h.1 rfl).trans h.1, (grownBy_keeps hg hr h.2 rfl).trans h.2⟩

/-- **the statement** -/
theorem wpIn_rangeV {α : Type} {g : Operand} {ps : Array Tmp} {assign body : Code} {Q : Exit → Act → World → Prop} {a : Act} {w : World}
    (hro : F.round = none) (h1 : 1 ≤ n) {gf : Nat} {fs lb : Array Value} (hg : a.eval g = .func (.func gf) fs lb) (hFg : F.fn gf) (eg : ∀ args w, (callFunc gf args).run P w = .ok (.enter gf args) w)
    {encs : α → Array Value} {Kp : α → World → World → Prop} {G : List α → α → World → World → Prop} {S Sp : List α → Prop} {N : Nat} {w0 : World} (hseq : SeqV F (n - 1) P gf fs lb encs Kp G S Sp N w0)
    (hKt : ∀ (x : α) {A B C : World}, Kp x A B → Kp x B C → Kp x A C) (hKb : ∀ (x : α) (W : World) (l : Nat) (o o' : Obj), w.heap.size ≤ l → W.heap[l]? = some o → o.isCells = false → o.isWalk = false → Kp x W (W.putObj l o')) (hb0 : Below w0.heap.size w0 w) (hps : ∀ x, (encs x).size = ps.size)
    (I : List α → World → Prop) (Ix : Code → List α → World → Prop) (hI : OwnFrom w.heap.size I) (hIx : ∀ c, OwnFrom w.heap.size (Ix c)) (h0 : I [] w) (Ax : α → Act → World → Prop) (hAx : ∀ x a', OwnFrom w.heap.size (fun (_ : Unit) W => Ax x a' W))
    (hassign : ∀ (l : Nat) (pre : List α) (x : α) (W0 W : World) (K : Act → World → Prop), I pre W0 → Below W0.heap.size W0 W → I pre W → G pre x W0 W → (∀ a' W', KeepsFrom w.heap.size W W' → Kp x W W' → I pre W' → Ax x a' W' → K a' W') →
      assign.wpIn (F.inRound l) (n - 1 - 1) P (Exit.then K (fun _ _ _ => False)) { tmps := (ps.zip (encs x)).foldl (fun t (p, v) => t.setIfInBounds p v) a.tmps, defers := [] } W)
    (hbody : ∀ (l : Nat) (pre : List α) (x : α) (a' : Act) (W : World), w.heap.size ≤ l → (∃ r, W.heap[l]? = some (.loop r)) → I pre W → Ax x a' W → pre.length < N → body.wpIn (F.inRound l) (n - 1 - 1) P (ownPostG w.heap.size (Kp x) I Ix (pre ++ [x]) W) a' W)
    (hdone : ∀ (D : Nat) (xs : List α) (W : World), w.heap.size ≤ D → S xs → I xs W → W.heap[D]? = some (.deferred (some [])) → Q .normal { a with defers := { target := .collected D, args := #[] } :: a.defers } W)
    (hstop : ∀ (D : Nat) (c : Code) (pre : List α) (W : World), w.heap.size ≤ D → Sp pre → Ix c pre W → W.heap[D]? = some (.deferred (some [])) → c.wpIn F n P Q { a with defers := { target := .collected D, args := #[] } :: a.defers } W) :
    (Code.rangeFunc g ps assign body).wpIn F n P Q a w := by
  refine wpIn_rangeFunc (fun fn hfn => ?_)
  obtain ⟨r, hr⟩ : ∃ r : Loop, r = { state := .ready, pending := none, fn, tmps := a.tmps, params := ps, assign, body, defers := w.heap.size } := ⟨_, rfl⟩
  obtain ⟨W1, hW1⟩ : ∃ W1, (w.alloc (.deferred (some []))).alloc (.loop r) = W1 := ⟨_, rfl⟩
  have hs1 : W1.heap.size = w.heap.size + 2 := by rw [← hW1]; simp
  have hbk : Books w.heap.size r W1 := by
    rw [← hW1]
    refine ⟨(Below.heap_alloc _ _ _ (by simp)).trans (World.alloc_heap_new w _), ?_⟩
    have h9 := World.alloc_heap_new (w.alloc (.deferred (some []))) (.loop r)
    rwa [World.size_alloc] at h9
  have hI1 : I [] W1 := by rw [← hW1]; exact hI.alloc _ (hI.alloc _ h0)
  have hb1 : Below w0.heap.size w0 W1 := by
    rw [← hW1]; exact hb0.trans ((((Below.refl _ w).alloc (Nat.le_refl _) _).alloc (by simp) _).mono hb0.size)
  have hen : (Instr.enterLoop fn a.tmps ps assign body F.round).run P w = .ok (w.heap.size + 1, [{ target := .collected w.heap.size, args := #[] }]) W1 := by
    rw [hro, ← hW1, hr]; exact run_enterLoop_outer _ _ _ _ _
  clear hW1
  have hst : r.state = .ready := by rw [hr]
  have hfnr : F.fn r.fn := by rw [hr]; exact hfn
  have ht : r.tmps = a.tmps := by rw [hr]
  have hpa : r.params = ps := by rw [hr]
  have has : r.assign = assign := by rw [hr]
  have hbo : r.body = body := by rw [hr]
  have hpe : Loop.endR r none = r := by rw [hr]; rfl
  have hpn : r.pending = none := by rw [hr]
  clear hr
  have up : ∀ {A : World} {row : Option Nat}, (∀ k, row = some k → W1.heap.size ≤ k ∧ ∃ o : Obj, A.heap[k]? = some o ∧ o.isWalk = true) → (∀ k, row = some k → w.heap.size ≤ k ∧ ∃ o : Obj, A.heap[k]? = some o ∧ o.isCells = false) :=
    fun h k e => by obtain ⟨hB, o, ho, hw⟩ := h k e; exact ⟨by omega, o, ho, Obj.not_cells_of_walk hw⟩
  refine ⟨w.heap.size + 1, _, W1, { target := .fn (.func gf) lb, args := fs ++ #[.func (.yield (w.heap.size + 1)) #[] #[]] }, W1, gf, fs ++ #[.func (.yield (w.heap.size + 1)) #[] #[]] ++ lb, W1, hen, ?_, ?_, ?_, fun _ => h1, ?_⟩
  · simp only [resolve, hg]
    simp [go_sem]
  · intro f' hf'; simp [Target.leads] at hf'; subst hf'; exact hFg
  · simp [invoke, go_sem, eg]
  refine (hseq (w.heap.size + 1) (fun pre W => I pre W ∧ Books w.heap.size r W) (fun pre W => ∃ c, Ix c pre W ∧ Books w.heap.size (Loop.endR r (some c)) W) W1 hb1
    (fun s A B row hs hg' hk => ⟨hI s A B row hs.1 hg' (up hk), hs.2.grown hg' (fun k e => (hk k e).2)⟩)
    (fun s A B row hs hg' hk => by
      obtain ⟨c, hc, hbb⟩ := hs
      exact ⟨c, hIx c s A B row hc hg' (up hk), hbb.grown hg' (fun k e => (hk k e).2)⟩) ?_ ⟨hI1, hbk⟩).mono ?_
  · rintro pre x W9 W ⟨hi9, hB9⟩ hbel ⟨hi, hB⟩ hG hlen
    refine yieldAt_rec hB.2 hst (by rw [hpa]; exact hps x) hfnr ?_
    rw [has, hbo, hpa, ht]
    refine hassign _ pre x W9 W _ hi9 hbel hi hG (fun a' Wa hkf hkp hia hax => ?_)
    have hBa := hB.kept hkf (Nat.le_refl _)
    have hBb := hBa.put (Loop.busyR r)
    refine ⟨hBa.2, wpIn_mono (hbody _ pre x a' _ (by omega) ⟨_, hBb.2⟩ (hI.putObj _ hia (by omega) hBa.2 rfl) ((hAx x a').putObj (s := ()) _ hax (by omega) hBa.2 rfl) hlen) ?_⟩
    have hp1 : Kp x Wa (Wa.putObj (w.heap.size + 1) (.loop (Loop.busyR r))) := hKb _ _ _ _ _ (by omega) hBa.2 rfl rfl
    intro e a3 W3 hq
    have jump : ∀ c, (KeepsFrom w.heap.size (Wa.putObj (w.heap.size + 1) (.loop (Loop.busyR r))) W3 ∧ Ix c (pre ++ [x]) W3) → (W3.heap[w.heap.size + 1]? = some (.loop (Loop.busyR r)) ∧
        ((Ending.returned (.bool (some c).isNone) = .returned (.bool true) ∧ (I (pre ++ [x]) (W3.putObj (w.heap.size + 1) (.loop (Loop.endR r (some c)))) ∧ Books w.heap.size r (W3.putObj (w.heap.size + 1) (.loop (Loop.endR r (some c))))) ∧ Kp x W (W3.putObj (w.heap.size + 1) (.loop (Loop.endR r (some c))))) ∨
          (Ending.returned (.bool (some c).isNone) = .returned (.bool false) ∧ ∃ c', Ix c' (pre ++ [x]) (W3.putObj (w.heap.size + 1) (.loop (Loop.endR r (some c)))) ∧ Books w.heap.size (Loop.endR r (some c')) (W3.putObj (w.heap.size + 1) (.loop (Loop.endR r (some c))))))) := fun c hc => by
      have h3 := hBb.kept hc.1 (Nat.le_refl _)
      exact ⟨h3.2, .inr ⟨rfl, c, (hIx c).putObj _ hc.2 (by omega) h3.2 rfl, h3.put _⟩⟩
    cases e with
    | normal =>
      obtain ⟨hk3, hp3, hi3⟩ := hq
      have h3 := hBb.kept hk3 (Nat.le_refl _)
      refine ⟨h3.2, .inl ⟨rfl, ⟨hI.putObj _ hi3 (by omega) h3.2 rfl, ?_⟩, hKt _ hkp (hKt _ (hKt _ hp1 hp3) (hKb _ _ _ _ _ (by omega) h3.2 rfl rfl))⟩⟩
      rw [hpe]; exact h3.put _
    | ret => exact jump _ hq
    | exit id => exact jump _ hq
    | goto t => exact jump _ hq
    | panic c => exact hq.elim
    | outgrown => exact hq.elim
  · rintro e W2 ⟨⟨v, rfl⟩, (⟨xs, hS, hi, hB⟩ | ⟨pre, hSp, c, hi, hB⟩)⟩
    · refine ⟨_, _, run_endLoop hB.2 (by rw [hst]; decide), ?_⟩
      rw [hpn]
      exact hdone _ xs _ (Nat.le_refl _) hS (hI.putObj _ hi (by omega) hB.2 rfl) ((World.putObj_heap_other (by omega)).trans hB.1)
    · refine ⟨_, _, run_endLoop hB.2 (by simp [Loop.endR]), ?_⟩
      exact hstop _ c pre _ (Nat.le_refl _) hSp ((hIx c).putObj _ hi (by omega) hB.2 rfl) ((World.putObj_heap_other (by omega)).trans hB.1)

end Go.Proofs.YtnmilfkocheaiaaGreatDoor

namespace Go.Proofs.YtnmilfkocheaiaaGreatDoor
open Go.RowKit Go.Shelf
attribute [local go_sem] Oper.semAt_some

/-- the sets of l, as a list of numbers below 32 -/
def memF (l : List Nat) : List (Fin 32) := tcR (fun t => decide (t ∈ l)) 32
theorem memF_val {l : List Nat} (h32 : ∀ u ∈ l, u < 32) (hp : l.Pairwise (· < ·)) : (memF l).map Fin.val = l := by
  rw [memF, tcR_all]
  refine asc_ext (flt_asc _) hp (fun x => ?_)
  rw [mem_flt, decide_eq_true_eq]
  exact ⟨fun h => h.2, fun h => ⟨h32 x h, h⟩⟩


set_option maxRecDepth 100000 in
set_option maxHeartbeats 3200000 in
theorem memStops (Kp : Fin 32 → World → World → Prop) (n : Nat) (hn : 1 ≤ n) (l : List Nat) (w : World) :
    SeqV Fence.wide n Tryz.prog 129 #[.int .u32 (fm l)] #[] encG Kp (fun _ _ _ _ => True) (fun xs => xs = memF l) (fun pre => pre <+: memF l) 32 w := fun l0 J Jx W hW hJ hJx hY h0 => by
  have HTst := Lib.hid (fun j hj => fm_test l (j := j) hj)
  refine callsIn_of_wp Tryz.func129 rfl trivial ?_ rfl
  simp only [Tryz.ntmps129, List.size_toArray, List.length_cons, List.length_nil, Nat.reduceAdd, Nat.reduceSub, Array.replicate_succ, Array.replicate_zero, List.push_toArray, List.append_toArray, List.nil_append, List.cons_append]
  have hF0 : 0 ≤ fm l := by unfold fm; omega
  have hF1 : fm l < 4294967296 := by unfold fm; have := (famB l).isLt; omega
  show Code.wpIn _ _ _ _ _ _ _
  obtain ⟨Fm, hFm⟩ : ∃ Fm, Fm = fm l := ⟨_, rfl⟩
  rw [← hFm] at HTst hF0 hF1 ⊢
  clear hFm
  gi_wp2
  gi_loopw [5] (fun i wr => ∃ k : Nat, k ≤ 32 ∧ i = .int .i64 k ∧ J (tcR (fun t => decide (t ∈ l)) k) wr) (fun i _ => 32 - (intOf i).toNat)
  case atStart => exact ⟨0, by omega, rfl, h0⟩
  case round =>
    obtain ⟨k, hk, rfl, hJr⟩ := hrel
    by_cases hlt : k < 32
    · have hb := HTst.out k hlt
      have hle := tcR_len (fun t => decide (t ∈ l)) k
      by_cases hx : decide (k ∈ l) = true
      · have hst := tcR_yes (p := fun t => decide (t ∈ l)) hlt hx
        rw [if_pos hx] at hb
        obtain ⟨fn, tmps, assign, body, hy, hR⟩ := hY _ ⟨k, hlt⟩ wr wr hJr (Below.refl _ _) hJr trivial (by omega)
        gi_wp2
        refine hR.mono ?_
        rintro e W3 (⟨rfl, hJ3, _⟩ | ⟨rfl, hJx3⟩)
        · gi_wp2
          go_roundw
          case rel => exact ⟨k + 1, by omega, by go_num, by rw [hst]; exact hJ3⟩
          case measure => simp [intOf]; omega
        · gi_wp2
          refine bodyPost_ret (results_none rfl _ _ _) rfl ?_
          exact ⟨⟨_, rfl⟩, .inr ⟨_, by rw [← hst]; have := tcR_pre (fun t => decide (t ∈ l)) (k + 1) (32 - (k + 1)); rwa [show k + 1 + (32 - (k + 1)) = 32 by omega] at this, hJx3⟩⟩
      · have hst := tcR_no (p := fun t => decide (t ∈ l)) hlt hx
        rw [if_neg hx] at hb
        gi_wp2
        refine ⟨fun _ h => (by cases h), ?_⟩
        gi_wp2
        go_roundw
        case rel => exact ⟨k + 1, by omega, by go_num, by rw [hst]; exact hJr⟩
        case measure => simp [intOf]; omega
    · obtain rfl : k = 32 := by omega
      gi_wp2
      go_end0
      exact ⟨⟨_, rfl⟩, .inl ⟨_, rfl, hJr⟩⟩

end Go.Proofs.YtnmilfkocheaiaaGreatDoor

namespace Go.Proofs.YtnmilfkocheaiaaGreatDoor
open Go.RowKit Go.Shelf
attribute [local go_sem] Oper.semAt_some

set_option maxRecDepth 100000 in
set_option maxHeartbeats 12800000 in
theorem implLeastM (F : Int) (μ : Nat → Int) (gf : Nat) (fs lb : Array Value) (cs : List (Addr × Value)) (L : List (Fin 32)) (hL : L.length ≤ 32) (w : World)
    (eg : ∀ args w, (callFunc gf args).run Tryz.prog w = .ok (.enter gf args) w)
    (hseq : ∀ n w0, 1 ≤ n → CS cs w0 → SeqV Fence.wide n Tryz.prog gf fs lb encG (fun _ => Kcs cs) (fun _ _ _ _ => True) (fun xs => xs = L) (fun pre => pre <+: L) 32 w0)
    (HM : Hid (∀ (x : Fin 32) (W : World), CS cs W → Calls Tryz.prog 107 #[.int .u32 F, .int .i64 ((x.val : Nat) : Int)] W fun e w' => e = .returned (.int .i64 (μ x.val)) ∧ Below W.heap.size W w'))
    (hcs0 : CS cs w) :
    Calls Tryz.prog 128 #[.func (.func gf) fs lb, (.func (.func 107) #[.int .u32 F] #[])] w (RetInts (toI (lmn μ (L.map Fin.val)).1) w) := by
  obtain ⟨i0, hi, hz0, hz1, hz2⟩ := info_parts infoI
  have hlo : ∀ p ∈ cs, p.1.block < w.heap.size := hcs0.lt
  refine (callsIn_wide (n := 3)).1 ?_
  refine callsIn_of_wp_marks Tryz.func128 rfl trivial ?_ rfl
  simp only [Tryz.ntmps128, List.size_toArray, List.length_cons, List.length_nil, Nat.reduceAdd, Nat.reduceSub, Array.replicate_succ, Array.replicate_zero, List.push_toArray, List.append_toArray, List.nil_append, List.cons_append]
  gi_wp2
  have bM := Boxed.new w 49 (.func (.func 107) #[.int .u32 F] #[])
  have bO := Boxed.new (w.alloc (.cells #[(.func (.func 107) #[.int .u32 F] #[])] 49)) 44 (.slice none 0 0)
  have bL := Boxed.new ((w.alloc (.cells #[(.func (.func 107) #[.int .u32 F] #[])] 49)).alloc (.cells #[.slice none 0 0] 44)) 3 (.int .i64 0)
  simp only [World.size_alloc] at bO bL
  have hB0 : Below w.heap.size w (((w.alloc (.cells #[(.func (.func 107) #[.int .u32 F] #[])] 49)).alloc (.cells #[.slice none 0 0] 44)).alloc (.cells #[.int .i64 0] 3)) := (((Below.refl _ w).alloc (Nat.le_refl _) _).alloc (by simp) _).alloc (by simp; omega) _
  refine wpIn_rangeV rfl (by omega) (gf := gf) (fs := fs) (lb := lb) rfl trivial eg
    (hseq _ _ (by omega) (hcs0.next hB0)) (fun _ => kcs_t) (fun _ => kcs_b) (Below.refl _ _) (fun _ => rfl)
    (fun pre W => (∃ v, Boxed W (w.heap.size + 1) 44 v ∧ W.ownsRow (w.heap.size + 1 + 1 + 1) 3 1 v (lA μ pre).length (ivs (lA μ pre)) ∧ (v = .slice none 0 0 ↔ lA μ pre = []))
      ∧ (Boxed W w.heap.size 49 (.func (.func 107) #[.int .u32 F] #[]) ∧ Boxed W (w.heap.size + 1 + 1) 3 (.int .i64 (lM μ pre)) ∧ CS cs W) ∧ (Below w.heap.size w W ∧ w.heap.size + 1 + 1 + 1 ≤ W.heap.size))
    (fun _ _ _ => False)
    (OwnFrom.and (Own.from (holdsRow_own (w.heap.size + 1 + 1 + 1) (w.heap.size + 1) 44 3 1 (fun pre => (lA μ pre).length) (fun pre => ivs (lA μ pre)) (fun pre v => v = .slice none 0 0 ↔ lA μ pre = [])) _)
      (OwnFrom.and (Own.from (fun s A B row hs hg hr => ⟨boxed_keeps hs.1 hg hr, boxed_keeps hs.2.1 hg hr, cs_own cs s A B row hs.2.2 hg hr⟩) _)
        (OwnFrom.and (ownFrom_below (Nat.le_refl _) (by simp; omega)) (fun s A B row hs hg hr => Nat.le_trans hs hg.size))))
    (fun _ _ _ _ _ hs _ _ => hs)
    ⟨⟨_, bO.alloc _, World.ownsRow_nil _ _ _ _, by simp [lA, lmn]⟩, ⟨(bM.alloc _).alloc _, bL, hcs0.next hB0⟩, hB0, by simp⟩
    (fun x a' _ => a' = { tmps := #[.func (.func gf) fs lb, (.func (.func 107) #[.int .u32 F] #[]), undef, .pointer (some ⟨w.heap.size, 0, none⟩), .slice none 0 0, .pointer (some ⟨w.heap.size + 1, 0, none⟩), .pointer (some ⟨w.heap.size + 1 + 1, 0, none⟩), .int .i64 ((x.val : Nat) : Int), undef, .func (.func gf) fs lb, .int .i64 ((x.val : Nat) : Int), undef, undef, undef, undef, undef, undef, undef, undef, undef, undef, undef, undef, undef, undef, undef, undef, undef, undef, undef, undef, undef, undef], defers := [] })
    (fun _ _ _ _ _ _ hs _ _ => hs) ?assign ?body ?done ?stop
  case assign =>
    rintro l0 pre x _ W K _ _ hi _ hK
    gi_wp2
    exact hK _ _ (KeepsFrom.refl _ _) (fun e => e) hi rfl
  case body =>
    rintro l0 pre x a' W _ _ ⟨⟨v, hv, hrow, hnil⟩, ⟨hM, hLb, hcs⟩, hB, hN⟩ rfl hlen
    refine wpIn_mono ?_ ownPostG_of_ownPostK
    have HNX := Lib.hid (lmn_next μ pre x)
    have hlA : (lA μ pre).length ≤ 32 := by
      have := lmn_len μ (pre.map Fin.val)
      rw [List.length_map] at this
      show (lmn _ _).1.length ≤ 32
      omega
    have hmv := hM.cell
    simp only [lA, lM] at hrow hnil hLb hlA
    generalize lmn μ (pre.map Fin.val) = am at *
    obtain ⟨A, M⟩ := am
    dsimp only at hrow hnil hLb hlA HNX
    obtain ⟨m, hm⟩ : ∃ m : Int, m = μ x.val := ⟨_, rfl⟩
    have HMx := Lib.hid (HM.out x)
    rw [← hm] at HMx
    have HLS := Lib.hid (show lstep μ (A, M) x.val = if A = [] ∨ m < M then ([x.val], m) else if m = M then (A ++ [x.val], M) else (A, M) by rw [hm]; rfl)
    clear hm
    by_cases hA : A = []
    · obtain rfl : v = .slice none 0 0 := hnil.2 hA
      subst hA
      have HA : lA μ (pre ++ [x]) = [x.val] := by show (lmn _ _).1 = _; rw [HNX.out, HLS.out, if_pos (Or.inl (rfl : ([] : List Nat) = []))]
      have HM2 : lM μ (pre ++ [x]) = m := by show (lmn _ _).2 = _; rw [HNX.out, HLS.out, if_pos (Or.inl (rfl : ([] : List Nat) = []))]
      gi_wp2
      refine ⟨trivial, ?_⟩
      gi_at_call 107
      refine (CallsIn.inRound l0 (callsIn_wide.2 (HMx.out _ hcs))).mono ?_
      rintro e W1 ⟨rfl, hb1⟩
      have bO1 := hv.kept (grown_none hb1) (by simp)
      have bL1 := hLb.kept (grown_none hb1) (by simp)
      have bM1 := hM.kept (grown_none hb1) (by simp)
      have hN1 : w.heap.size + 1 + 1 + 1 ≤ W1.heap.size := Nat.le_trans hN hb1.size
      have o1 := bO1.cell
      have o2 := bO1.frozen
      have l1 := bL1.cell
      have l2 := bL1.frozen
      have bO2 : Boxed ((W1.setCell ⟨w.heap.size + 1, 0, none⟩ (.slice none 0 0)).setCell ⟨w.heap.size + 1 + 1, 0, none⟩ (.int .i64 m)) (w.heap.size + 1) 44 (.slice none 0 0) := boxed_far (bO1.set (.slice none 0 0)) _ (by omega)
      have bL2 : Boxed ((W1.setCell ⟨w.heap.size + 1, 0, none⟩ (.slice none 0 0)).setCell ⟨w.heap.size + 1 + 1, 0, none⟩ (.int .i64 m)) (w.heap.size + 1 + 1) 3 (.int .i64 m) := (boxed_far bL1 (.slice none 0 0) (by omega)).set _
      have bM2 : Boxed ((W1.setCell ⟨w.heap.size + 1, 0, none⟩ (.slice none 0 0)).setCell ⟨w.heap.size + 1 + 1, 0, none⟩ (.int .i64 m)) w.heap.size 49 (.func (.func 107) #[.int .u32 F] #[]) := boxed_far (boxed_far bM1 (.slice none 0 0) (by omega)) _ (by omega)
      have l3 := bL2.cell
      have o3 := bO2.cell
      have o4 := bO2.frozen
      have r2 : ((W1.setCell ⟨w.heap.size + 1, 0, none⟩ (.slice none 0 0)).setCell ⟨w.heap.size + 1 + 1, 0, none⟩ (.int .i64 m)).ownsRow (w.heap.size + 1 + 1 + 1) 3 1 (.slice none 0 0) 0 [] := World.ownsRow_nil _ _ _ _
      gi_wp2_with (gi_at_builtin; refine wpListIn_append_own _ rfl _ _ 44 rfl (w.heap.size + 1 + 1 + 1) 3 i0 (.int .i64 0) 1 8 Tryz.underlying44 hi hz0 hz1 hz2 rfl (by decide) _ _ _ rfl (r2.alloc _) ⟨W1.heap.size, 0, none⟩ 1 1 [.int .i64 ((x.val : Nat) : Int)] rfl rfl (by have h9 := cell_one_new ((W1.setCell ⟨w.heap.size + 1, 0, none⟩ (.slice none 0 0)).setCell ⟨w.heap.size + 1 + 1, 0, none⟩ (.int .i64 m)) (.int .i64 ((x.val : Nat) : Int)) 3; have h8 : ((W1.setCell ⟨w.heap.size + 1, 0, none⟩ (.slice none 0 0)).setCell ⟨w.heap.size + 1 + 1, 0, none⟩ (.int .i64 m)).heap.size = W1.heap.size := (by first | rfl | simp); rw [h8] at h9; exact h9) (by simp [Value.oneCell']) (by unfold maxLen; omega) (by omega) (by first | omega | (simp; omega)) ?_; intro v' w1 hown' hgrow _; obtain ⟨g', cap', rfl⟩ := ownsRow_succ hown'; obtain ⟨hv1, hv2, hr2, hk2, hb2⟩ := appended2 (N := w.heap.size) bO2 (by decide) r2 (by omega) (by first | omega | (simp; omega)) (by omega) hown' hgrow; have hc1 := hv1.cell; have hf1 := hv1.frozen)
      have bM3 := boxed_far ((bM2.alloc _).kept hgrow (own_ne r2 (by omega))) (.slice (some ⟨g', 0, none⟩) (0 + 1) cap') (show w.heap.size ≠ w.heap.size + 1 by omega)
      have bL3 := boxed_far ((bL2.alloc _).kept hgrow (own_ne r2 (by omega))) (.slice (some ⟨g', 0, none⟩) (0 + 1) cap') (show w.heap.size + 1 + 1 ≠ w.heap.size + 1 by omega)
      have hBel := (((hb1.mono hB.size).setCell (p := ⟨w.heap.size + 1, 0, none⟩) (by show w.heap.size ≤ w.heap.size + 1; omega) _).setCell (p := ⟨w.heap.size + 1 + 1, 0, none⟩) (by show w.heap.size ≤ w.heap.size + 1 + 1; omega) _).trans hb2
      exact ⟨(((keeps_below hb1).trans (KeepsOthers.setCell _ _ _)).trans (KeepsOthers.setCell _ _ _)).trans hk2, fun hh => hh.below hBel hlo, ⟨⟨_, hv2, by rw [HA]; simpa [ivs, toI] using hr2, by rw [HA]; simp⟩, ⟨bM3, by rw [HM2]; exact bL3, hcs.below hBel hlo⟩, hB.trans hBel, Nat.le_trans hN hBel.size⟩⟩
    · obtain ⟨k, hk⟩ : ∃ k, A.length = k + 1 := ⟨A.length - 1, by have := List.length_pos_iff.2 hA; omega⟩
      rw [hk] at hrow hlA
      obtain ⟨g, cap, rfl⟩ := ownsRow_succ hrow
      have hd0 : (((k + 1 : Nat) : Int) == 0) = false := by simp; omega
      have hd1 : ((k : Int) + 1 == 0) = false := by simp; omega
      have hd2 : ¬ (k : Int) + 1 = 0 := by omega
      clear hnil
      by_cases hlt : m < M
      · have hdm : decide (m < M) = true := decide_eq_true hlt
        have HA : lA μ (pre ++ [x]) = [x.val] := by show (lmn _ _).1 = _; rw [HNX.out, HLS.out, if_pos (.inr hlt)]
        have HM2 : lM μ (pre ++ [x]) = m := by show (lmn _ _).2 = _; rw [HNX.out, HLS.out, if_pos (.inr hlt)]
        gi_wp2
        refine ⟨trivial, ?_⟩
        gi_at_call 107
        refine (CallsIn.inRound l0 (callsIn_wide.2 (HMx.out _ hcs))).mono ?_
        rintro e W1 ⟨rfl, hb1⟩
        have bO1 := hv.kept (grown_none hb1) (by simp)
        have bL1 := hLb.kept (grown_none hb1) (by simp)
        have bM1 := hM.kept (grown_none hb1) (by simp)
        have hN1 : w.heap.size + 1 + 1 + 1 ≤ W1.heap.size := Nat.le_trans hN hb1.size
        have o1 := bO1.cell
        have o2 := bO1.frozen
        have l1 := bL1.cell
        have l2 := bL1.frozen
        have bO2 : Boxed ((W1.setCell ⟨w.heap.size + 1, 0, none⟩ (.slice (some ⟨g, 0, none⟩) 0 cap)).setCell ⟨w.heap.size + 1 + 1, 0, none⟩ (.int .i64 m)) (w.heap.size + 1) 44 (.slice (some ⟨g, 0, none⟩) 0 cap) := boxed_far (bO1.set (.slice (some ⟨g, 0, none⟩) 0 cap)) _ (by omega)
        have bL2 : Boxed ((W1.setCell ⟨w.heap.size + 1, 0, none⟩ (.slice (some ⟨g, 0, none⟩) 0 cap)).setCell ⟨w.heap.size + 1 + 1, 0, none⟩ (.int .i64 m)) (w.heap.size + 1 + 1) 3 (.int .i64 m) := (boxed_far bL1 (.slice (some ⟨g, 0, none⟩) 0 cap) (by omega)).set _
        have bM2 : Boxed ((W1.setCell ⟨w.heap.size + 1, 0, none⟩ (.slice (some ⟨g, 0, none⟩) 0 cap)).setCell ⟨w.heap.size + 1 + 1, 0, none⟩ (.int .i64 m)) w.heap.size 49 (.func (.func 107) #[.int .u32 F] #[]) := boxed_far (boxed_far bM1 (.slice (some ⟨g, 0, none⟩) 0 cap) (by omega)) _ (by omega)
        have l3 := bL2.cell
        have o3 := bO2.cell
        have o4 := bO2.frozen
        have r2 : ((W1.setCell ⟨w.heap.size + 1, 0, none⟩ (.slice (some ⟨g, 0, none⟩) 0 cap)).setCell ⟨w.heap.size + 1 + 1, 0, none⟩ (.int .i64 m)).ownsRow (w.heap.size + 1 + 1 + 1) 3 1 (.slice (some ⟨g, 0, none⟩) 0 cap) 0 [] := own_far (own_far (own_cut (own_none hrow hb1)) (by omega)) (by omega)
        gi_wp2_with (gi_at_builtin; refine wpListIn_append_own _ rfl _ _ 44 rfl (w.heap.size + 1 + 1 + 1) 3 i0 (.int .i64 0) 1 8 Tryz.underlying44 hi hz0 hz1 hz2 rfl (by decide) _ _ _ rfl (r2.alloc _) ⟨W1.heap.size, 0, none⟩ 1 1 [.int .i64 ((x.val : Nat) : Int)] rfl rfl (by have h9 := cell_one_new ((W1.setCell ⟨w.heap.size + 1, 0, none⟩ (.slice (some ⟨g, 0, none⟩) 0 cap)).setCell ⟨w.heap.size + 1 + 1, 0, none⟩ (.int .i64 m)) (.int .i64 ((x.val : Nat) : Int)) 3; have h8 : ((W1.setCell ⟨w.heap.size + 1, 0, none⟩ (.slice (some ⟨g, 0, none⟩) 0 cap)).setCell ⟨w.heap.size + 1 + 1, 0, none⟩ (.int .i64 m)).heap.size = W1.heap.size := (by first | rfl | simp); rw [h8] at h9; exact h9) (by simp [Value.oneCell']) (by unfold maxLen; omega) (by omega) (by first | omega | (simp; omega)) ?_; intro v' w1 hown' hgrow _; obtain ⟨g', cap', rfl⟩ := ownsRow_succ hown'; obtain ⟨hv1, hv2, hr2, hk2, hb2⟩ := appended2 (N := w.heap.size) bO2 (by decide) r2 (by omega) (by first | omega | (simp; omega)) (by omega) hown' hgrow; have hc1 := hv1.cell; have hf1 := hv1.frozen)
        have bM3 := boxed_far ((bM2.alloc _).kept hgrow (own_ne r2 (by omega))) (.slice (some ⟨g', 0, none⟩) (0 + 1) cap') (show w.heap.size ≠ w.heap.size + 1 by omega)
        have bL3 := boxed_far ((bL2.alloc _).kept hgrow (own_ne r2 (by omega))) (.slice (some ⟨g', 0, none⟩) (0 + 1) cap') (show w.heap.size + 1 + 1 ≠ w.heap.size + 1 by omega)
        have hBel := (((hb1.mono hB.size).setCell (p := ⟨w.heap.size + 1, 0, none⟩) (by show w.heap.size ≤ w.heap.size + 1; omega) _).setCell (p := ⟨w.heap.size + 1 + 1, 0, none⟩) (by show w.heap.size ≤ w.heap.size + 1 + 1; omega) _).trans hb2
        exact ⟨(((keeps_below hb1).trans (KeepsOthers.setCell _ _ _)).trans (KeepsOthers.setCell _ _ _)).trans hk2, fun hh => hh.below hBel hlo, ⟨⟨_, hv2, by rw [HA]; simpa [ivs, toI] using hr2, by rw [HA]; simp⟩, ⟨bM3, by rw [HM2]; exact bL3, hcs.below hBel hlo⟩, hB.trans hBel, Nat.le_trans hN hBel.size⟩⟩
      · have hdm : decide (m < M) = false := decide_eq_false hlt
        have hnor : ¬ (A = [] ∨ m < M) := fun h => h.elim hA hlt
        by_cases he : m = M
        · have hde : (m == M) = true := by simpa using he
          have HA : lA μ (pre ++ [x]) = A ++ [x.val] := by show (lmn _ _).1 = _; rw [HNX.out, HLS.out, if_neg hnor, if_pos he]
          have HM2 : lM μ (pre ++ [x]) = M := by show (lmn _ _).2 = _; rw [HNX.out, HLS.out, if_neg hnor, if_pos he]
          gi_wp2
          refine ⟨trivial, ?_⟩
          gi_at_call 107
          refine (CallsIn.inRound l0 (callsIn_wide.2 (HMx.out _ hcs))).mono ?_
          rintro e W1 ⟨rfl, hb1⟩
          have bO1 := hv.kept (grown_none hb1) (by simp)
          have bL1 := hLb.kept (grown_none hb1) (by simp)
          have bM1 := hM.kept (grown_none hb1) (by simp)
          have hN1 : w.heap.size + 1 + 1 + 1 ≤ W1.heap.size := Nat.le_trans hN hb1.size
          have o1 := bO1.cell
          have o2 := bO1.frozen
          have l1 := bL1.cell
          have l2 := bL1.frozen
          have r1 := own_none hrow hb1
          gi_wp2_with (gi_at_builtin; refine wpListIn_append_own _ rfl _ _ 44 rfl (w.heap.size + 1 + 1 + 1) 3 i0 (.int .i64 0) 1 8 Tryz.underlying44 hi hz0 hz1 hz2 rfl (by decide) _ _ _ rfl (r1.alloc _) ⟨W1.heap.size, 0, none⟩ 1 1 [.int .i64 ((x.val : Nat) : Int)] rfl rfl (by have h9 := cell_one_new (W1) (.int .i64 ((x.val : Nat) : Int)) 3; have h8 : (W1).heap.size = W1.heap.size := (by first | rfl | simp); rw [h8] at h9; exact h9) (by simp [Value.oneCell']) (by unfold maxLen; omega) (by omega) (by first | omega | (simp; omega)) ?_; intro v' w1 hown' hgrow _; obtain ⟨g', cap', rfl⟩ := ownsRow_succ hown'; obtain ⟨hv1, hv2, hr2, hk2, hb2⟩ := appended2 (N := w.heap.size) bO1 (by decide) r1 (by omega) (by first | omega | (simp; omega)) (by omega) hown' hgrow; have hc1 := hv1.cell; have hf1 := hv1.frozen)
          have bM3 := boxed_far ((bM1.alloc _).kept hgrow (own_ne r1 (by omega))) (.slice (some ⟨g', 0, none⟩) (k + 1 + 1) cap') (show w.heap.size ≠ w.heap.size + 1 by omega)
          have bL3 := boxed_far ((bL1.alloc _).kept hgrow (own_ne r1 (by omega))) (.slice (some ⟨g', 0, none⟩) (k + 1 + 1) cap') (show w.heap.size + 1 + 1 ≠ w.heap.size + 1 by omega)
          have hBel := (hb1.mono hB.size).trans hb2
          exact ⟨(keeps_below hb1).trans hk2, fun hh => hh.below hBel hlo, ⟨⟨_, hv2, by rw [HA]; simpa [ivs, toI, hk] using hr2, by rw [HA]; simp⟩, ⟨bM3, by rw [HM2]; exact bL3, hcs.below hBel hlo⟩, hB.trans hBel, Nat.le_trans hN hBel.size⟩⟩
        · have hde : (m == M) = false := by simpa using he
          have HA : lA μ (pre ++ [x]) = A := by show (lmn _ _).1 = _; rw [HNX.out, HLS.out, if_neg hnor, if_neg he]
          have HM2 : lM μ (pre ++ [x]) = M := by show (lmn _ _).2 = _; rw [HNX.out, HLS.out, if_neg hnor, if_neg he]
          gi_wp2
          refine ⟨trivial, ?_⟩
          gi_at_call 107
          refine (CallsIn.inRound l0 (callsIn_wide.2 (HMx.out _ hcs))).mono ?_
          rintro e W1 ⟨rfl, hb1⟩
          have bO1 := hv.kept (grown_none hb1) (by simp)
          have bL1 := hLb.kept (grown_none hb1) (by simp)
          have bM1 := hM.kept (grown_none hb1) (by simp)
          have hN1 : w.heap.size + 1 + 1 + 1 ≤ W1.heap.size := Nat.le_trans hN hb1.size
          have o1 := bO1.cell
          have o2 := bO1.frozen
          have l1 := bL1.cell
          have l2 := bL1.frozen
          have r1 := own_none hrow hb1
          gi_wp2
          exact ⟨keeps_below hb1, fun hh => hh.next hb1, ⟨⟨_, bO1, by rw [HA, hk]; exact r1, by rw [HA]; simp [hA]⟩, ⟨bM1, by rw [HM2]; exact bL1, hcs.next hb1⟩, hB.trans (hb1.mono hB.size), hN1⟩⟩
  case done =>
    rintro D ys W hD rfl ⟨⟨v, hv, hrow, hnil⟩, ⟨hM, hLb, hcs⟩, hB, hN⟩ hK
    have hc := hv.cell
    gi_wp2
    refine ⟨by simp, .inl ⟨_, _, rfl, run_takeDeferred hK, ?_⟩⟩
    refine ⟨_, results_tmp rfl _ _ _, ?_⟩
    refine RetInts.of ?_ (hB.trans (belowK_b (w := w) (Nat.le_refl _) W D _ _ (by simp at hD; omega) hK rfl rfl))
    show World.ownsRow _ _ _ 1 v (toI _).length _
    rw [toI_length]
    exact own_mono (ownsRow_putObj hrow _ hK rfl) (by omega)
  case stop =>
    rintro D c pre W _ _ h _
    exact h.elim

end Go.Proofs.YtnmilfkocheaiaaGreatDoor

namespace Go.Proofs.YtnmilfkocheaiaaGreatDoor
open Go.RowKit Go.Shelf
attribute [local go_sem] Oper.semAt_some

/-- a layer that is yielded: its slice, the layer and what it is taught among -/
structure Ly where
  v : Value
  p : List Nat × List Nat
abbrev encL (x : Ly) : Array Value := #[x.v, .int .u32 (fm x.p.2)]
/-- what a round keeps -/
def KpL (x : Ly) (A B : World) : Prop := (Rd A x.v (toI x.p.1) → Rd B x.v (toI x.p.1)) ∧ (SW A → SW B)
/-- what is known of a layer -/
def GL (l : List Nat) (pre : List Ly) (x : Ly) (W0 W1 : World) : Prop := Ints W0.heap.size W1 x.v (toI x.p.1) ∧ (pre ++ [x]).map Ly.p <+: lys l
theorem kpL_t (x : Ly) {A B C : World} (h : KpL x A B) (k : KpL x B C) : KpL x A C := ⟨fun e => k.1 (h.1 e), fun e => k.2 (h.2 e)⟩
theorem kpL_b {n0 : Nat} (x : Ly) (W : World) (l : Nat) (o o' : Obj) (_ : n0 ≤ l) (h : W.heap[l]? = some o) (hc : o.isCells = false) (_ : o.isWalk = false) : KpL x W (W.putObj l o') := by
  have key : ∀ {a : Addr} {u : Value}, W.cell? a = some u → (W.putObj l o').cell? a = some u := fun e => cell_kept e (grownBy_putObj' W l o') (fun r er => by cases er; exact ⟨o, h, hc⟩)
  constructor
  · rintro ⟨a, b, off, cap, e, h1, h3, h5⟩
    exact ⟨a, b, off, cap, e, fun h0 => ⟨(h1 h0).1, by rw [World.putObj_size]; exact (h1 h0).2⟩, h3, fun j hj => key (h5 j hj)⟩
  · rintro ⟨h1, h2⟩
    exact ⟨by rw [World.putObj_size]; exact h1, fun x hx => key (h2 x hx)⟩
theorem kpL_below (x : Ly) {W W' : World} (h : Below W.heap.size W W') : KpL x W W' := ⟨fun e => e.below h (Nat.le_refl _), fun e => e.next h⟩
theorem fm_less (l k : List Nat) : bits .andNot .u32 (fm l) (fm k) = fm (l.filter (fun t => !decide (t ∈ k))) := by
  rw [fm, fm, u32_andNot, fm]
  congr 2
  apply famB_ext
  intro s hs
  rw [BitVec.getLsbD_and, BitVec.getLsbD_not, famB_bit l hs, famB_bit k hs, Bool.eq_iff_iff]
  simp [hs]
/-- how many sets a family has -/
def famLen (F : Int) : Nat := ((List.range 32).filter (fun j => F.toNat.testBit j)).length
theorem famLen_fm {m : Nat} {l : List Nat} (h : Cls m l) : famLen (fm l) = l.length := by
  have e : (List.range 32).filter (fun j => (fm l).toNat.testBit j) = l := by
    refine asc_ext ((range_asc 32).filter _) h.asc (fun x => ?_)
    rw [List.mem_filter, List.mem_range]
    have hb : ∀ x, x < 32 → (fm l).toNat.testBit x = decide (x ∈ l) := fun x hx => by
      rw [← famB_bit l hx, fm, Int.toNat_natCast, BitVec.getLsbD]
    constructor
    · rintro ⟨h1, h2⟩; rw [hb x h1] at h2; simpa using h2
    · intro hx; exact ⟨h.lt32 x hx, by rw [hb x (h.lt32 x hx)]; simpa using hx⟩
  rw [famLen, e]
theorem lys_pre {l cur : List Nat} {P : List (List Nat × List Nat)} (h : lys l = P ++ lys cur) (hne : cur ≠ []) : (P ++ [(lay cur, cur)]) <+: lys l := by
  rw [h, lys_cons hne]
  exact ⟨lys (rst cur), by simp⟩

set_option maxRecDepth 100000 in
set_option maxHeartbeats 6400000 in
theorem layStops (m : Nat) (l : List Nat) (hc : Cls m l) (n : Nat) (hn : 1 ≤ n) (w : World) (hsw : SW w) :
    SeqV Fence.wide n Tryz.prog 106 #[.int .u32 (fm l)] #[] encL KpL (GL l) (fun xs => xs.map Ly.p = lys l) (fun pre => pre.map Ly.p <+: lys l) 32 w := fun l0 J Jx W hW hJ hJx hY h0 => by
  have hswW := hsw.next hW
  have hll := lys_len l
  have hl32 := hc.length
  refine callsIn_of_wp Tryz.func106 rfl trivial ?_ rfl
  simp only [Tryz.ntmps106, List.size_toArray, List.length_cons, List.length_nil, Nat.reduceAdd, Nat.reduceSub, Array.replicate_succ, Array.replicate_zero, List.push_toArray, List.append_toArray, List.nil_append, List.cons_append]
  have HLL := Lib.hid hll
  clear hll
  gi_wp2
  gi_loopw [4] (fun f wr => ∃ (pre : List Ly) (cur : List Nat), f = .int .u32 (fm cur) ∧ Cls m cur ∧ lys l = pre.map Ly.p ++ lys cur ∧ J pre wr ∧ SW wr) (fun f _ => famLen (intOf f))
  case atStart => exact ⟨[], l, rfl, hc, rfl, h0, hswW⟩
  case round =>
    obtain ⟨pre, cur, rfl, hcc, hl, hJr, hsr⟩ := hrel
    have HC := Lib.hid hcc
    have HL := Lib.hid hl
    have HSr := Lib.hid hsr
    clear hl hsr
    by_cases hne : cur = []
    · subst hne
      rw [fm_nil]
      gi_wp2
      go_end0
      exact ⟨⟨_, rfl⟩, .inl ⟨pre, by rw [HL.out, lys_nil, List.append_nil], hJr⟩⟩
    · have hF1 := (fm_ne hcc.lt32).2 hne
      have HPre := Lib.hid (lys_pre HL.out hne)
      have hpl : pre.length < 32 := by
        have h1 := HPre.out.length_le
        rw [List.length_append, List.length_map, List.length_singleton] at h1
        have := HLL.out
        omega
      have HLM := Lib.hid (fun w0 (h0 : SW w0) => implLeastM (fm cur) (fun t => tnI t cur) 129 #[.int .u32 (fm cur)] #[] swc (memF cur) (tcR_len _ 32) w0 (enters_of Tryz.func129 (by kernel_rfl) rfl)
        (fun n w1 hn _ => memStops (fun _ => Kcs swc) n hn cur w1)
        (Lib.hid (fun x W hcs => implTnF cur x.val hcc.lt32 hcc.asc x.isLt W (cs_sw hcs))) (sw_cs h0))
      rw [memF_val hcc.lt32 hcc.asc] at HLM
      have HLay := Lib.hid (show (lmn (fun t => tnI t cur) cur).1 = lay cur from rfl)
      rw [HLay.out] at HLM
      have hly32 : ∀ u ∈ lay cur, u < 32 := fun u hu => hcc.lt32 u (lay_sub hu)
      have HFa := Lib.hid (fun v w0 h0 => implFamilyOf 0 v (lay cur) hly32 w0 h0)
      have HAN := Lib.hid (show bits .andNot .u32 (fm cur) (fm (lay cur)) = fm (rst cur) from fm_less cur (lay cur))
      have HM := Lib.hid (show famLen (fm (rst cur)) < famLen (fm cur) by rw [famLen_fm hcc, famLen_fm (rst_cls hcc)]; exact rst_len hne)
      have HNX := Lib.hid (show lys cur = (lay cur, cur) :: lys (rst cur) from lys_cons hne)
      have HY := Lib.hid (fun (a1 : Option Addr) (c1 : Nat) W1 (hb1 : Below wr.heap.size wr W1) (hin1 : Ints wr.heap.size W1 (.slice a1 (toI (lay cur)).length c1) (toI (lay cur))) =>
        hY pre ⟨.slice a1 (toI (lay cur)).length c1, (lay cur, cur)⟩ wr W1 hJr hb1 (hJ _ wr W1 none hJr (grown_none hb1) (fun r e => by cases e)) ⟨hin1, by rw [List.map_append]; exact HPre.out⟩ hpl)
      have HCr := Lib.hid (rst_cls hcc)
      have hd1 : (fm cur == 0) = false := by simpa using hF1
      have hd2 : (fm cur != 0) = true := by simpa using hF1
      have HFC := Lib.hid (show fm cur = fm cur from rfl)
      clear hne hly32 hF1 HLay hcc HC
      obtain ⟨Fr, hFr⟩ : ∃ Fr, Fr = fm (rst cur) := ⟨_, rfl⟩
      obtain ⟨Fl, hFl⟩ : ∃ Fl, Fl = fm (lay cur) := ⟨_, rfl⟩
      rw [← hFr] at HAN HM
      rw [← hFl] at HAN HFa
      have HFr := Lib.hid hFr
      clear hFr hFl
      have han := HAN.out
      gi_wp2_with (first | (refine ⟨trivial, ?_⟩; gi_at_call 128; refine (callsIn_wide.2 (HLM.out _ HSr.out)).mono ?_; rintro e W1 ⟨a1, c1, rfl, hin1, hb1⟩; have R1 := Lib.hid hin1.rd; have S1 := Lib.hid (HSr.out.next hb1); obtain ⟨fn, tmps, assign, body, hy0, hR⟩ := HY.out a1 c1 W1 hb1 hin1; have hy : (Instr.yield l0 #[.slice a1 (toI (lay cur)).length c1, .int .u32 (fm cur)]).run Tryz.prog W1 = _ := hy0; clear hy0 hin1 hb1))
      refine hR.mono ?_
      rintro e W3 (⟨rfl, hJ3, hk3⟩ | ⟨rfl, hJx3⟩)
      · have R3 := Lib.hid (hk3.1 R1.out)
        have S3 := Lib.hid (hk3.2 S1.out)
        clear hk3
        gi_wp2_with (first | (refine ⟨trivial, ?_⟩; gi_at_call 102; refine (callsIn_wide.2 (HFa.out _ _ R3.out)).mono ?_; rintro e W4 ⟨rfl, hb4⟩; have J4 := hJ _ W3 W4 none hJ3 (grown_none hb4) (fun r e => by cases e); have S4 := Lib.hid (S3.out.next hb4); clear hb4))
        go_roundw
        case rel => exact ⟨_, rst cur, by rw [HFr.out], HCr.out, by rw [HL.out, HNX.out, List.map_append, List.append_assoc]; rfl, J4, S4.out⟩
        case measure => exact HM.out
      · gi_wp2
        refine bodyPost_ret (results_none rfl _ _ _) rfl ?_
        exact ⟨⟨_, rfl⟩, .inr ⟨_, by rw [List.map_append]; exact HPre.out, hJx3⟩⟩

end Go.Proofs.YtnmilfkocheaiaaGreatDoor

namespace Go.Proofs.YtnmilfkocheaiaaGreatDoor
open Go.RowKit

theorem app1_where {w w' : World} {ty : TypeId} {B g n cap : Nat} {xs : List Int} (hn : xs.length = n) (h : Ints B w (.slice (some ⟨g, 0, none⟩) n cap) xs) {H : Nat} {y : Int} (hs : w.cell? ⟨H, 0, none⟩ = some (.int .i64 y)) (hl : n ≤ 1000000) {a' : Option Addr} {cap' : Nat}
    (hr : (Builtin.append_ #[44, 44] ty #[.slice (some ⟨g, 0, none⟩) n cap, .slice (some ⟨H, 0, none⟩) 1 1]).run Tryz.prog w = .ok (.slice a' (n + 1) cap') w') : ∃ g', a' = some ⟨g', 0, none⟩ ∧ (g' = g ∨ w.heap.size ≤ g') := by
  subst hn
  obtain ⟨i, hi, hz0, hz1, hz2⟩ := info_parts info3
  have hnews : ∀ j u, [Value.int .i64 y][j]? = some u → w.cell? ((⟨H, 0, none⟩ : Addr).add j) = some u := fun j u hu => by
    match j, hu with
    | 0, hu => simp at hu; subst hu; rw [Addr.add_lit]; exact hs
    | j + 1, hu => simp at hu
  by_cases hroom : xs.length + 1 ≤ cap
  · obtain ⟨w2, hr2, _⟩ := run_append_fits (P := Tryz.prog) w B 44 ty 3 i 1 Tryz.underlying44 hi hz1 g xs.length cap (xs.map (Value.int .i64)) h ⟨H, 0, none⟩ 1 1 [.int .i64 y] rfl hnews (by simp [Value.oneCell']) hroom
    rw [hr] at hr2
    injection hr2 with h1 h2
    injection h1 with h3
    exact ⟨g, h3, .inl rfl⟩
  · have hr2 := run_append_grow (P := Tryz.prog) w 44 ty 3 i (.int .i64 0) Tryz.underlying44 hi hz0 ⟨g, 0, none⟩ xs.length cap (xs.map (Value.int .i64)) (by rw [hz1]; simp) (World.ownsRow.cells (g := g) h rfl) ⟨H, 0, none⟩ 1 1 [.int .i64 y] (by rw [hz1]; simp) hnews (by omega) (by omega) (by rw [hz2]; exact growslice_fits (by omega) (by omega))
    rw [hr] at hr2
    injection hr2 with h1 h2
    injection h1 with h3
    exact ⟨_, h3, .inr (Nat.le_refl _)⟩

theorem wpList_app1 {w : World} {ops : Array Oper} {rest : List Oper} {o : Oper} {a : Act} {Q : Exit → Act → World → Prop} (hgd : o.guard = none) (s x : Operand)
    (ho : o.op = Op.call { callee := Callee.builtin Builtin.append, args := #[s, x], argTypes := #[44, 44] })
    (B g n cap : Nat) (xs : List Int) (hn : xs.length = n) (hs : a.eval s = .slice (some ⟨g, 0, none⟩) n cap) (h : Ints B w (.slice (some ⟨g, 0, none⟩) n cap) xs) (H : Nat) (y : Int) (hx : a.eval x = .slice (some ⟨H, 0, none⟩) 1 1) (hsrc : w.cell? ⟨H, 0, none⟩ = some (.int .i64 y)) (hl : n ≤ 1000000) (hB : B ≤ w.heap.size)
    (hK : ∀ g' cap' w', (g' = g ∨ w.heap.size ≤ g') → Ints B w' (.slice (some ⟨g', 0, none⟩) (n + 1) cap') (xs ++ [y]) → Below B w w' → w.grownBy w' (some g) → wpList Tryz.prog ops Q rest (a.put o.dst (.slice (some ⟨g', 0, none⟩) (n + 1) cap')) w') : wpList Tryz.prog ops Q (o :: rest) a w := by
  refine wpList_plain hgd fun K hK' => ?_
  obtain ⟨a', cap', w', hrun, r1, r2, r3⟩ := run_app (ty := o.type) h (src_cell hsrc) (by omega) hB
  rw [hn] at hrun r1
  obtain ⟨g', rfl, hg'⟩ := app1_where hn h hsrc hl hrun
  unfold Oper.wp
  simp [execOp, ho, resolve, invoke, builtin, hs, hx, hrun, Result.andThen]
  exact hK' _ _ (hK g' cap' w' hg' r1 r2 r3)
theorem Ints.someAt {B n c : Nat} {w : World} {a : Option Addr} {zs : List Int} (h : Ints B w (.slice a n c) zs) (hn : 0 < n) : ∃ g, a = some ⟨g, 0, none⟩ ∧ B ≤ g ∧ g < w.heap.size := by
  obtain ⟨a', g, cap, e, h1, h2, _, h4, _⟩ := h.shape
  simp only [Value.slice.injEq] at e
  obtain ⟨rfl, e2, rfl⟩ := e
  have hne : a ≠ none := fun k => by
    have := (h2 k).1
    rw [this] at e2
    simp at e2
    omega
  obtain rfl := h1.resolve_right hne
  exact ⟨g, rfl, h4 hne⟩

end Go.Proofs.YtnmilfkocheaiaaGreatDoor

namespace Go.Proofs.YtnmilfkocheaiaaGreatDoor
open Go.RowKit

/-- what easiest answers -/
def Ez (ns : List Nat) (w : World) (e : Ending) (w' : World) : Prop :=
  ∃ g1 c1 g2 c2 : Nat, e = .returned (.tuple #[.slice (some ⟨g1, 0, none⟩) (lay ns).length c1, .slice (some ⟨g2, 0, none⟩) (rst ns).length c2]) ∧ Ints w.heap.size w' (.slice (some ⟨g1, 0, none⟩) (lay ns).length c1) (toI (lay ns)) ∧ Ints w.heap.size w' (.slice (some ⟨g2, 0, none⟩) (rst ns).length c2) (toI (rst ns)) ∧ g1 ≠ g2 ∧ Below w.heap.size w w'
theorem take_flt {ns : List Nat} {k : Nat} (P : Nat → Bool) (hk : k < ns.length) : (ns.take (k + 1)).filter P = if P (ns.getD k 0) = true then (ns.take k).filter P ++ [ns.getD k 0] else (ns.take k).filter P := by
  rw [List.take_succ_eq_append_getElem hk, List.filter_append, List.getD_eq_getElem?_getD, List.getElem?_eq_getElem hk, Option.getD_some]
  by_cases h : P ns[k] = true
  · rw [if_pos h]; simp [h]
  · rw [if_neg h]; simp [h]
theorem lay_self {m : Nat} {ns : List Nat} (hc : Cls m ns) : lay ns = ns.filter (fun t => decide (t ∈ lay ns)) :=
  asc_ext (lay_asc hc.asc) (hc.asc.filter _) (fun t => by rw [List.mem_filter, decide_eq_true_eq]; exact ⟨fun h => ⟨lay_sub h, h⟩, fun h => h.2⟩)

set_option maxRecDepth 100000 in
set_option maxHeartbeats 6400000 in
theorem specEasiest (m : Nat) (v : Value) (ns : List Nat) (w : World) (hc : Cls m ns) (h : Rd w v (toI ns)) :
    Calls Tryz.prog 55 #[v, .int .i64 (m : Int)] w (Ez ns w) := by
  have H := Lib.hid h
  have hl := hc.length
  have HEf := Lib.hid (fun v w0 h0 => specEfforts m v ns w0 hc h0)
  obtain ⟨a, b, off, cap, rfl, h1, h3, h5⟩ := h
  rw [toI_length] at *
  have H1 := Lib.hid h1
  have H5 := Lib.hid h5
  obtain ⟨P, hP⟩ : ∃ P : Nat → Bool, P = fun t => decide (t ∈ lay ns) := ⟨_, rfl⟩
  have HPk := Lib.hid (fun k (hk : k < ns.length) => show ((tns m ns).getD k 0 == sTo (tns m ns) ns.length) = P (ns.getD k 0) by
    rw [hP, Bool.eq_iff_iff, beq_iff_eq, decide_eq_true_eq, mem_lay hc (getD_of_lt hk), tns_getD hk]; rfl)
  have HA := Lib.hid (show lay ns = (ns.take ns.length).filter P by rw [List.take_length, hP]; exact lay_self hc)
  have HB := Lib.hid (show rst ns = (ns.take ns.length).filter (fun t => !P t) by rw [List.take_length, hP]; rfl)
  have HL := Lib.hid (tns_len m ns)
  clear h1 h5 hc hP
  generalize tns m ns = vs at *
  rw [show sTo vs ns.length = sTo vs vs.length by rw [HL.out]] at HPk
  have HFA := Lib.hid (fun (Q : Nat → Bool) k => show ((ns.take k).filter Q).length ≤ 32 by
    have h9 := List.length_filter_le Q (ns.take k)
    rw [List.length_take] at h9
    omega)
  have HTk := Lib.hid (fun (Q : Nat → Bool) k (hk : k < ns.length) => take_flt Q hk)
  have HLt := Lib.hid (fun (l : List Nat) => toI_length l)
  generalize ns.length = L at *
  obtain ⟨z, hz⟩ : ∃ z, z = sTo vs vs.length := ⟨_, rfl⟩
  rw [← hz] at HPk
  have HZ := Lib.hid hz
  clear hz
  go_enter Tryz.func55, Tryz.ntmps55
  go_wp2_with fail
  refine (HEf.out _ _ H.out).mono ?_
  rintro e w1 ⟨a1, c1, rfl, hin, hb⟩
  have I1 := Lib.hid hin
  have B1 := Lib.hid hb
  have hz1 := hb.size
  have HM := Lib.hid (specSmallest _ vs w1 hin.rd)
  rw [← HZ.out] at HM
  clear hin hb
  go_wp2_with fail
  refine HM.out.mono ?_
  rintro e w2 ⟨rfl, rfl⟩
  clear HM
  go_wp2_with fail
  have HW := Lib.hid (((Below.refl w1.heap.size w1).alloc (Nat.le_refl _) (.cells #[] 3)).alloc (by simp) (.cells #[] 3))
  have IA := Lib.hid ((Ints.lit' (B := w1.heap.size) (w := w1) (Nat.le_refl _) rfl).alloc (.cells #[] 3))
  have IB := Lib.hid (Ints.lit' (B := w1.heap.size) (w := w1.alloc (.cells #[] 3)) (H := w1.heap.size + 1) (by simp) (by simp))
  have hzS : w1.heap.size + 1 < ((w1.alloc (.cells #[] 3)).alloc (.cells #[] 3)).heap.size := by simp
  generalize (w1.alloc (.cells #[] 3)).alloc (.cells #[] 3) = W3 at *
  go_loopw [8, 9, 10] (fun o q i wr => ∃ k ga ca gb cb : Nat, k ≤ L ∧ i = .int .i64 k ∧ o = .slice (some ⟨ga, 0, none⟩) ((ns.take k).filter P).length ca ∧ q = .slice (some ⟨gb, 0, none⟩) ((ns.take k).filter (fun t => !P t)).length cb ∧ Ints w1.heap.size wr (.slice (some ⟨ga, 0, none⟩) ((ns.take k).filter P).length ca) (toI ((ns.take k).filter P)) ∧ Ints w1.heap.size wr (.slice (some ⟨gb, 0, none⟩) ((ns.take k).filter (fun t => !P t)).length cb) (toI ((ns.take k).filter (fun t => !P t))) ∧ ga ≠ gb ∧ Below w1.heap.size w1 wr) (fun _ _ i _ => L - (intOf i).toNat)
  case atStart => exact ⟨0, w1.heap.size, 0, w1.heap.size + 1, 0, Nat.zero_le _, rfl, rfl, rfl, IA.out, IB.out, by omega, HW.out⟩
  case round =>
    obtain ⟨k, ga, ca, gb, cb, hk, rfl, rfl, rfl, hia, hib, hne, hbe⟩ := hrel
    have JA := Lib.hid hia
    have JB := Lib.hid hib
    have BE := Lib.hid hbe
    have hzr := hbe.size
    have BW := Lib.hid (B1.out.trans (hbe.mono B1.out.size))
    have hla := HFA.out P k
    have hlb := HFA.out (fun t => !P t) k
    have hga := hia.lt ga rfl
    have hgb := hib.lt gb rfl
    clear hia hib hbe IA IB HW
    by_cases hlt : k < L
    · have hkI : (k : Int) < (L : Int) := by omega
      have hkV : (k : Int) < (vs.length : Int) := by have := HL.out; omega
      obtain ⟨rfl, hbl⟩ := H1.out (by omega)
      have hc := (BW.out.cell (p := ⟨b, off + k, none⟩) hbl).trans (H5.out k hlt)
      rw [toI_getD] at hc
      obtain ⟨g1, rfl, hg1, hg1l⟩ := I1.out.someAt (by omega)
      have hv1 := (BE.out.cell (p := ⟨g1, k, none⟩) hg1l).trans (I1.out.cellAt k (by omega)).1
      have HPu := Lib.hid (HPk.out k hlt)
      have HTA := Lib.hid (HTk.out P k hlt)
      have HTB := Lib.hid (HTk.out (fun t => !P t) k hlt)
      generalize ns.getD k 0 = u at *
      generalize vs.getD k 0 = y at *
      have HLA := Lib.hid (HLt.out ((ns.take k).filter P))
      have HLB := Lib.hid (HLt.out ((ns.take k).filter (fun t => !P t)))
      have hzI : ((y == z) : Bool) = P u := HPu.out
      cases hp : P u with
      | true =>
        rw [hp] at hzI
        have HTA2 := Lib.hid (HTA.out.trans (if_pos hp))
        have HTB2 := Lib.hid (HTB.out.trans (if_neg (by rw [hp]; simp)))
        clear hp HTA HTB HPu
        generalize (ns.take k).filter P = A at *
        generalize (ns.take k).filter (fun t => !P t) = D at *
        go_wp2_with (at_builtin; refine wpList_app1 rfl (.tmp 30) (.tmp 35) rfl w1.heap.size ga A.length ca (toI A) (by rw [HLA.out]) rfl (by exact JA.out.alloc _) wr.heap.size (u : Int) rfl (by rw [World.cell?_alloc_at _ _ _ _ rfl]; rfl) (by omega) (by simp; omega) ?_; intro g' cap' w4 hg' hin4 hb4 hgr4)
        have I4 := Lib.hid hin4
        have D4 := Lib.hid ((JB.out.alloc (.cells #[.int .i64 (u : Int)] 3)).kept hgr4 (.inr (by simp [Value.ownBlock]; omega)))
        have hz4 : g' = ga ∨ wr.heap.size + 1 ≤ g' := by simpa using hg'
        have B4 := Lib.hid ((BE.out.alloc hzr _).trans hb4)
        clear hin4 hb4 hgr4 hg'
        go_roundw
        case rel => exact ⟨k + 1, g', cap', gb, cb, by omega, by go_num, by rw [HTA2.out]; simp, by rw [HTB2.out], by rw [HTA2.out, toI_append, List.length_append]; exact I4.out, by rw [HTB2.out]; exact D4.out, by omega, B4.out⟩
        case measure => simp [intOf]; omega
      | false =>
        rw [hp] at hzI
        have HTA2 := Lib.hid (HTA.out.trans (if_neg (by rw [hp]; simp)))
        have HTB2 := Lib.hid (HTB.out.trans (if_pos (by rw [hp]; rfl)))
        clear hp HTA HTB HPu
        generalize (ns.take k).filter P = A at *
        generalize (ns.take k).filter (fun t => !P t) = D at *
        go_wp2_with (at_builtin; refine wpList_app1 rfl (.tmp 37) (.tmp 42) rfl w1.heap.size gb D.length cb (toI D) (by rw [HLB.out]) rfl (by exact JB.out.alloc _) wr.heap.size (u : Int) rfl (by rw [World.cell?_alloc_at _ _ _ _ rfl]; rfl) (by omega) (by simp; omega) ?_; intro g' cap' w4 hg' hin4 hb4 hgr4)
        have I4 := Lib.hid hin4
        have A4 := Lib.hid ((JA.out.alloc (.cells #[.int .i64 (u : Int)] 3)).kept hgr4 (.inr (by simp [Value.ownBlock]; omega)))
        have hz4 : g' = gb ∨ wr.heap.size + 1 ≤ g' := by simpa using hg'
        have B4 := Lib.hid ((BE.out.alloc hzr _).trans hb4)
        clear hin4 hb4 hgr4 hg'
        go_roundw
        case rel => exact ⟨k + 1, ga, ca, g', cap', by omega, by go_num, by rw [HTA2.out], by rw [HTB2.out]; simp, by rw [HTA2.out]; exact A4.out, by rw [HTB2.out, toI_append, List.length_append]; exact I4.out, by omega, B4.out⟩
        case measure => simp [intOf]; omega
    · have HKL := Lib.hid (show k = L by omega)
      go_wp2_with fail
      refine bodyPost_ret (v := .tuple #[.slice (some ⟨ga, 0, none⟩) ((ns.take k).filter P).length ca, .slice (some ⟨gb, 0, none⟩) ((ns.take k).filter (fun t => !P t)).length cb]) (by simp [results, Tryz.results55, go_sem]) rfl ?_
      refine ⟨ga, ca, gb, cb, ?_, ?_, ?_, hne, BW.out⟩
      · rw [HA.out, HB.out, HKL.out]
      · have h9 := JA.out.mono hz1
        rw [HKL.out] at h9
        rw [HA.out]; exact h9
      · have h9 := JB.out.mono hz1
        rw [HKL.out] at h9
        rw [HB.out]; exact h9

end Go.Proofs.YtnmilfkocheaiaaGreatDoor

namespace Go.Proofs.YtnmilfkocheaiaaGreatDoor
open Go.RowKit

/-- what RecursiveDimension answers -/
def rdB (n : Int) (zs : List Int) : Int := if vldB n zs = true then rdM n.toNat (zs.map Int.toNat) else -1
theorem rdB_in {m : Nat} {ns : List Nat} (hv : vldB (m : Int) (toI ns) = true) : rdB (m : Int) (toI ns) = rdM m ns := by rw [rdB, if_pos hv, Int.toNat_natCast, toNat_toI]
theorem rdB_bad {n : Int} {zs : List Int} (hv : vldB n zs = false) : rdB n zs = -1 := by rw [rdB, hv]; rfl
def slen : Value → Nat
  | .slice _ n _ => n
  | _ => 0

set_option maxRecDepth 100000 in
set_option maxHeartbeats 6400000 in
theorem specRecursive (m : Nat) (v : Value) (ns : List Nat) (w : World) (hc : Cls m ns) (h : Rd w v (toI ns)) :
    Calls Tryz.prog 32 #[v, .int .i64 (m : Int)] w fun e w' => e = .returned (.int .i64 (rdM m ns)) ∧ Below w.heap.size w w' := by
  have H := Lib.hid h
  have HC := Lib.hid hc
  obtain ⟨a, b, off, cap, rfl, _, _, _⟩ := h
  rw [toI_length] at H ⊢
  clear hc
  go_enter Tryz.func32, Tryz.ntmps32
  go_wp2_with fail
  go_loopw [0, 5] (fun s o wr => ∃ (cur : List Nat) (P : List (List Nat × List Nat)) (a' : Option Addr) (c' : Nat), s = .slice a' cur.length c' ∧ o = .int .i64 (rdS m (-1) P) ∧ Rd wr (.slice a' cur.length c') (toI cur) ∧ Cls m cur ∧ lys ns = P ++ lys cur ∧ Below w.heap.size w wr) (fun s _ _ => slen s)
  case atStart => exact ⟨ns, [], a, cap, rfl, rfl, H.out, HC.out, rfl, Below.refl _ _⟩
  case round =>
    obtain ⟨cur, P, a', c', rfl, rfl, hrd, hcc, hl, hbe⟩ := hrel
    have R := Lib.hid hrd
    have HCC := Lib.hid hcc
    have HL := Lib.hid hl
    have BE := Lib.hid hbe
    have hzr := hbe.size
    clear hrd hl hbe
    by_cases hne : cur.length = 0
    · have HE := Lib.hid (show rdM m ns = rdS m (-1) P by
        rw [rdM, HL.out, List.eq_nil_of_length_eq_zero hne, lys_nil, List.append_nil])
      clear hcc
      rw [hne]
      go_wp2_with fail
      go_ret
      exact ⟨by rw [HE.out]; rfl, BE.out⟩
    · have hne2 : cur ≠ [] := fun e => hne (by rw [e]; rfl)
      have hpos : (0 : Int) < (cur.length : Int) := by omega
      have HEf := Lib.hid (fun v w0 h0 => specEfforts m v cur w0 hcc h0)
      have HEz := Lib.hid (fun v w0 h0 => specEasiest m v cur w0 hcc h0)
      have HV := Lib.hid (show sTo (tns m cur) (tns m cur).length = ezL m cur by rw [ezL, tns_len])
      have HSn := Lib.hid (rdS_snoc m (-1) P (lay cur, cur))
      have HLn := Lib.hid (show lys ns = (P ++ [(lay cur, cur)]) ++ lys (rst cur) by rw [HL.out, lys_cons hne2]; simp)
      have HCr := Lib.hid (rst_cls hcc)
      have hml := rst_len hne2
      dsimp only at HSn
      clear hcc hne hne2
      generalize tns m cur = vs at *
      generalize ezL m cur = y at *
      by_cases hlt : rdS m (-1) P < y
      · have HS2 := Lib.hid (HSn.out.trans (if_pos hlt))
        clear HSn
        generalize rdS m (-1) P = x at *
        go_wp2_with fail
        refine (HEf.out _ _ R.out).mono ?_
        rintro e w1 ⟨a1, c1, rfl, hin, hb⟩
        have HM := Lib.hid (specSmallest _ vs w1 hin.rd)
        rw [HV.out] at HM
        have B1 := Lib.hid (BE.out.trans (hb.mono hzr))
        have R1 := Lib.hid (R.out.below hb (Nat.le_refl _))
        clear hin hb
        go_wp2_with fail
        refine HM.out.mono ?_
        rintro e w2 ⟨rfl, rfl⟩
        clear HM
        go_wp2_with fail
        refine (HEz.out _ _ R1.out).mono ?_
        rintro e w3 ⟨g1, k1, g2, k2, rfl, hia, hib, hne, hb3⟩
        have R3 := Lib.hid hib.rd
        have B3 := Lib.hid (B1.out.trans (hb3.mono B1.out.size))
        clear hia hib hne hb3
        go_wp2_with fail
        go_roundw
        case rel => exact ⟨rst cur, P ++ [(lay cur, cur)], _, _, rfl, by rw [HS2.out], R3.out, HCr.out, HLn.out, B3.out⟩
        case measure => exact hml
      · have HS2 := Lib.hid (HSn.out.trans (if_neg hlt))
        clear HSn
        generalize rdS m (-1) P = x at *
        go_wp2_with fail
        refine (HEf.out _ _ R.out).mono ?_
        rintro e w1 ⟨a1, c1, rfl, hin, hb⟩
        have HM := Lib.hid (specSmallest _ vs w1 hin.rd)
        rw [HV.out] at HM
        have B1 := Lib.hid (BE.out.trans (hb.mono hzr))
        have R1 := Lib.hid (R.out.below hb (Nat.le_refl _))
        clear hin hb
        go_wp2_with fail
        refine HM.out.mono ?_
        rintro e w2 ⟨rfl, rfl⟩
        clear HM
        go_wp2_with fail
        refine (HEz.out _ _ R1.out).mono ?_
        rintro e w3 ⟨g1, k1, g2, k2, rfl, hia, hib, hne, hb3⟩
        have R3 := Lib.hid hib.rd
        have B3 := Lib.hid (B1.out.trans (hb3.mono B1.out.size))
        clear hia hib hne hb3
        go_wp2_with fail
        go_roundw
        case rel => exact ⟨rst cur, P ++ [(lay cur, cur)], _, _, rfl, by rw [HS2.out], R3.out, HCr.out, HLn.out, B3.out⟩
        case measure => exact hml


end Go.Proofs.YtnmilfkocheaiaaGreatDoor
