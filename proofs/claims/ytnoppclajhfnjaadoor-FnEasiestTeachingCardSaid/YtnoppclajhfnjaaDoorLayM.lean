/- Layers of a class: mathematics. No conditions. -/
import Derived.Test.YtnoppclajhfnjaaDoorMin
import Derived.Test.YtnoppclajhfnjaaDoorTNums
namespace Go.Proofs.YtnoppclajhfnjaaDoor
open Go.RowKit

/-- the easiest sets, and the others -/
def lay (l : List Nat) : List Nat := (lmn (fun t => tnI t l) l).1
def rst (l : List Nat) : List Nat := l.filter (fun t => !decide (t ∈ lay l))
theorem lay_sub {l : List Nat} {t : Nat} (h : t ∈ lay l) : t ∈ l := lmn_sub h
theorem lay_ne {l : List Nat} (h : l ≠ []) : lay l ≠ [] := lmn_ne h
theorem mem_rst {l : List Nat} {t : Nat} : t ∈ rst l ↔ t ∈ l ∧ t ∉ lay l := by simp [rst]
theorem rst_len {l : List Nat} (h : l ≠ []) : (rst l).length < l.length := by
  obtain ⟨t, ht⟩ := List.exists_mem_of_ne_nil _ (lay_ne h)
  rw [rst]
  exact List.length_filter_lt_length_iff_exists.2 ⟨t, lay_sub ht, by simp [ht]⟩
def lysF : Nat → List Nat → List (List Nat × List Nat)
  | 0, _ => []
  | k + 1, l => if l = [] then [] else (lay l, l) :: lysF k (rst l)
theorem lysF_any : ∀ (k : Nat) (l : List Nat), l.length ≤ k → ∀ j, l.length ≤ j → lysF k l = lysF j l := by
  intro k
  induction k with
  | zero =>
    intro l h j _
    obtain rfl : l = [] := List.eq_nil_of_length_eq_zero (by omega)
    cases j <;> simp [lysF]
  | succ k ih =>
    intro l h j hj
    by_cases e : l = []
    · subst e
      cases j <;> simp [lysF]
    · have hp := List.length_pos_iff.2 e
      obtain ⟨j, rfl⟩ : ∃ i, j = i + 1 := ⟨j - 1, by omega⟩
      have hr := rst_len e
      rw [lysF, lysF, if_neg e, if_neg e, ih (rst l) (by omega) j (by omega)]
/-- the layers of a class, each with what it is taught among -/
def lys (l : List Nat) : List (List Nat × List Nat) := lysF l.length l
theorem lys_nil : lys [] = [] := rfl
theorem lys_cons {l : List Nat} (h : l ≠ []) : lys l = (lay l, l) :: lys (rst l) := by
  have hp := List.length_pos_iff.2 h
  have hr := rst_len h
  rw [lys, lysF_any l.length l (Nat.le_refl _) (l.length - 1 + 1) (by omega), lysF, if_neg h, lysF_any (l.length - 1) (rst l) (by omega) (rst l).length (Nat.le_refl _)]
  rfl
theorem lysF_len : ∀ (k : Nat) (l : List Nat), (lysF k l).length ≤ k := by
  intro k
  induction k with
  | zero => intro l; exact Nat.le_refl _
  | succ k ih =>
    intro l
    rw [lysF]
    split
    · exact Nat.zero_le _
    · have := ih (rst l)
      rw [List.length_cons]; omega
theorem lys_len (l : List Nat) : (lys l).length ≤ l.length := lysF_len _ _
theorem Cls.part {m : Nat} {ns : List Nat} (h : Cls m ns) (p : Nat → Bool) : Cls m (ns.filter p) :=
  ⟨h.pts, h.asc.filter _, fun t ht => h.lt t (List.mem_filter.1 ht).1⟩
theorem rst_cls {m : Nat} {ns : List Nat} (h : Cls m ns) : Cls m (rst ns) := h.part _
theorem lay_asc {l : List Nat} (h : l.Pairwise (· < ·)) : (lay l).Pairwise (· < ·) := by
  rcases lmn_good (fun t => tnI t l) l with ⟨_, e⟩ | ⟨_, e, _⟩
  · rw [lay, e]; exact List.Pairwise.nil
  · rw [lay, e]; exact h.filter _
/-- every layer is one of sets below 32 in order, not empty -/
theorem lys_mem {m : Nat} : ∀ (k : Nat) (l : List Nat), l.length ≤ k → Cls m l → ∀ p ∈ lys l, p.1 = lay p.2 ∧ p.2 ≠ [] ∧ Cls m p.2 ∧ ∀ t ∈ p.2, t ∈ l := by
  intro k
  induction k with
  | zero =>
    intro l h _ p hp
    obtain rfl : l = [] := List.eq_nil_of_length_eq_zero (by omega)
    rw [lys_nil] at hp
    simp at hp
  | succ k ih =>
    intro l h hc p hp
    by_cases e : l = []
    · subst e
      rw [lys_nil] at hp
      simp at hp
    · rw [lys_cons e] at hp
      rcases List.mem_cons.1 hp with rfl | hp
      · exact ⟨rfl, e, hc, fun t ht => ht⟩
      · have hr := rst_len e
        obtain ⟨h1, h2, h3, h4⟩ := ih (rst l) (by omega) (rst_cls hc) p hp
        exact ⟨h1, h2, h3, fun t ht => (mem_rst.1 (h4 t ht)).1⟩
theorem sTo_spec {xs : List Int} (hn : natural xs) : ∀ k, k < xs.length → (∃ i, i ≤ k ∧ sTo xs (k + 1) = xs.getD i 0) ∧ ∀ i, i ≤ k → sTo xs (k + 1) ≤ xs.getD i 0 := by
  intro k
  induction k with
  | zero =>
    intro _
    rw [sTo_one]
    exact ⟨⟨0, Nat.le_refl _, rfl⟩, fun i hi => by rw [show i = 0 by omega]; exact Int.le_refl _⟩
  | succ k ih =>
    intro hk
    obtain ⟨⟨j, hj, h1⟩, h2⟩ := ih (by omega)
    have h0 := sTo_bd hn k (by omega)
    rw [sTo_step]
    by_cases hc : sTo xs (k + 1) < 0 ∨ xs.getD (k + 1) 0 < sTo xs (k + 1)
    · rw [if_pos hc]
      refine ⟨⟨k + 1, Nat.le_refl _, rfl⟩, fun i hi => ?_⟩
      by_cases e : i = k + 1
      · rw [e]; exact Int.le_refl _
      · have := h2 i (by omega); omega
    · rw [if_neg hc]
      refine ⟨⟨j, by omega, h1⟩, fun i hi => ?_⟩
      by_cases e : i = k + 1
      · rw [e]; omega
      · exact h2 i (by omega)
theorem tns_nat (m : Nat) (l : List Nat) : natural (tns m l) := fun k hk => by
  rw [tns_len] at hk
  rw [tns_getD hk]
  exact Int.natCast_nonneg _
/-- the least number of points that teach one -/
def ezL (m : Nat) (l : List Nat) : Int := sTo (tns m l) l.length
theorem ezL_spec {m : Nat} {l : List Nat} (h : l ≠ []) : (∃ u ∈ l, ezL m l = (pc (ftN m u l) : Int)) ∧ ∀ u ∈ l, ezL m l ≤ (pc (ftN m u l) : Int) := by
  have hp := List.length_pos_iff.2 h
  obtain ⟨⟨i, hi, h1⟩, h2⟩ := sTo_spec (tns_nat m l) (l.length - 1) (by rw [tns_len]; omega)
  rw [show l.length - 1 + 1 = l.length by omega] at h1 h2
  refine ⟨⟨l.getD i 0, getD_of_lt (by omega), ?_⟩, fun u hu => ?_⟩
  · rw [ezL, h1, tns_getD (by omega)]
  · obtain ⟨j, hj, rfl⟩ := List.getElem_of_mem hu
    have := h2 j (by omega)
    rw [tns_getD hj, List.getD_eq_getElem?_getD, List.getElem?_eq_getElem hj, Option.getD_some] at this
    exact this
theorem mem_lay {m : Nat} {l : List Nat} (hc : Cls m l) {t : Nat} (ht : t ∈ l) : t ∈ lay l ↔ (pc (ftN m t l) : Int) = ezL m l := by
  have hne := List.ne_nil_of_mem ht
  obtain ⟨⟨u, hu, h1⟩, h2⟩ := ezL_spec (m := m) hne
  rcases lmn_good (fun t => tnI t l) l with ⟨e, _⟩ | ⟨g1, g2, g3⟩
  · exact absurd e hne
  have e : (lmn (fun t => tnI t l) l).2 = ezL m l := by
    have h3 := g3 u hu
    rw [show (fun t => tnI t l) u = tnI u l from rfl, tns_I hc hu] at h3
    obtain ⟨v, hv⟩ := List.exists_mem_of_ne_nil _ g1
    rw [g2] at hv
    obtain ⟨hv1, hv2⟩ := List.mem_filter.1 hv
    have hv3 : tnI v l = (lmn (fun t => tnI t l) l).2 := by simpa using hv2
    rw [tns_I hc hv1] at hv3
    have := h2 v hv1
    omega
  rw [lay, g2, List.mem_filter]
  constructor
  · rintro ⟨_, h⟩
    have h4 : tnI t l = (lmn (fun t => tnI t l) l).2 := by simpa using h
    rw [← e, ← h4, tns_I hc ht]
  · intro h
    refine ⟨ht, ?_⟩
    have h4 : tnI t l = (lmn (fun t => tnI t l) l).2 := by rw [e, ← h, tns_I hc ht]
    simpa using h4
theorem lay_flt {m : Nat} {l : List Nat} (hc : Cls m l) : lay l = l.filter (fun t => decide ((pc (ftN m t l) : Int) = ezL m l)) := by
  refine asc_ext (lay_asc hc.asc) (hc.asc.filter _) (fun t => ?_)
  rw [List.mem_filter, decide_eq_true_eq]
  exact ⟨fun h => ⟨lay_sub h, (mem_lay hc (lay_sub h)).1 h⟩, fun h => (mem_lay hc h.1).2 h.2⟩
theorem rst_flt {m : Nat} {l : List Nat} (hc : Cls m l) : rst l = l.filter (fun t => !decide ((pc (ftN m t l) : Int) = ezL m l)) := by
  refine List.filter_congr (fun t ht => ?_)
  congr 1
  rw [decide_eq_decide]
  exact mem_lay hc ht

end Go.Proofs.YtnoppclajhfnjaaDoor
