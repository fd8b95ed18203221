/- The first one of the least measure, and distances: mathematics. No conditions. -/
import Derived.Test.YtnoppclajhfnjabDoorZA
import Derived.Test.YtnoppclajhfnjabDoorZC
import Derived.Test.YtnoppclajhfnjabDoorZX
namespace Go.Proofs.YtnoppclajhfnjabDoor

/-- the first one of the least measure -/
def fstS (μ : Nat → Int) (ns : List Nat) : Nat := (lmn μ ns).1.getD 0 0
/-- and this -/
def fstM (μ : Nat → Int) (ns : List Nat) : Int := μ (fstS μ ns)

theorem filter_first : ∀ (ns : List Nat) (p : Nat → Bool) (j : Nat), j < ns.length → p (ns.getD j 0) = true → (∀ i, i < j → p (ns.getD i 0) = false) → (ns.filter p).getD 0 0 = ns.getD j 0
  | [], _, j, h, _, _ => by simp at h
  | x :: ns, p, 0, _, h, _ => by
    have h : p x = true := h
    rw [List.filter_cons_of_pos h]; rfl
  | x :: ns, p, j + 1, hj, h, hn => by
    have h0 : ¬ p x = true := by
      have h0 : p x = false := hn 0 (by omega)
      simp [h0]
    rw [List.filter_cons_of_neg h0]
    exact filter_first ns p j (by simpa using hj) h (fun i hi => hn (i + 1) (by omega))

theorem first_at : ∀ (xs : List Int) (n : Int), n ∈ xs → ∃ j, j < xs.length ∧ xs.getD j 0 = n ∧ ∀ i, i < j → xs.getD i 0 ≠ n
  | [], _, h => by cases h
  | x :: xs, n, h => by
    by_cases e : x = n
    · exact ⟨0, by simp, e, fun i hi => by omega⟩
    · rcases List.mem_cons.1 h with h | h
      · exact absurd h.symm e
      · obtain ⟨j, h1, h2, h3⟩ := first_at xs n h
        refine ⟨j + 1, by simpa using h1, h2, fun i hi => ?_⟩
        cases i with
        | zero => exact e
        | succ i => exact h3 i (by omega)

theorem sTo_least {xs : List Int} (h : natural xs) : ∀ k, k < xs.length → (∃ j, j ≤ k ∧ sTo xs (k + 1) = xs.getD j 0) ∧ (∀ j, j ≤ k → sTo xs (k + 1) ≤ xs.getD j 0)
  | 0, _ => by
    rw [sTo_one]
    exact ⟨⟨0, Nat.le_refl _, rfl⟩, fun j hj => by rw [show j = 0 by omega]; exact Int.le_refl _⟩
  | k + 1, hk => by
    obtain ⟨⟨j, hj, he⟩, hle⟩ := sTo_least h k (by omega)
    have h0 := sTo_bd h k (by omega)
    rw [sTo_step]
    by_cases hc : sTo xs (k + 1) < 0 ∨ xs.getD (k + 1) 0 < sTo xs (k + 1)
    · rw [if_pos hc]
      refine ⟨⟨k + 1, Nat.le_refl _, rfl⟩, fun i hi => ?_⟩
      by_cases e : i = k + 1
      · subst e; exact Int.le_refl _
      · have := hle i (by omega)
        omega
    · rw [if_neg hc]
      refine ⟨⟨j, by omega, he⟩, fun i hi => ?_⟩
      by_cases e : i = k + 1
      · subst e; omega
      · exact hle i (by omega)

theorem mapI_getD (μ : Nat → Int) (ns : List Nat) (j : Nat) (hj : j < ns.length) : (ns.map μ).getD j 0 = μ (ns.getD j 0) := by
  simp [List.getD, List.getElem?_map, List.getElem?_eq_getElem hj]
theorem map_natural {μ : Nat → Int} (h : ∀ v, 0 ≤ μ v) (ns : List Nat) : natural (ns.map μ) := fun k hk => by
  rw [mapI_getD μ ns k (by simpa using hk)]
  exact h _

/-- where the first one of the least measure lies, and what the model takes the least for -/
theorem fst_idx {μ : Nat → Int} {ns : List Nat} (hμ : ∀ v, 0 ≤ μ v) (h : ns ≠ []) :
    fstM μ ns = sTo (ns.map μ) ns.length ∧ (∀ v ∈ ns, fstM μ ns ≤ μ v) ∧ fstS μ ns ∈ ns ∧
      ∃ j, j < ns.length ∧ fstS μ ns = ns.getD j 0 ∧ (ns.map μ).getD j 0 = fstM μ ns ∧ ∀ i, i < j → (ns.map μ).getD i 0 ≠ fstM μ ns := by
  have hl : 0 < ns.length := List.length_pos_iff.2 h
  obtain ⟨⟨j0, hj0, he0⟩, hle⟩ := sTo_least (map_natural hμ ns) (ns.length - 1) (by rw [List.length_map]; omega)
  rw [show ns.length - 1 + 1 = ns.length by omega] at he0 hle
  have hin : sTo (ns.map μ) ns.length ∈ ns.map μ := by
    rw [he0, List.getD_eq_getElem?_getD, List.getElem?_eq_getElem (by rw [List.length_map]; omega)]
    exact List.getElem_mem _
  obtain ⟨j, hj, hje, hjn⟩ := first_at _ _ hin
  rw [List.length_map] at hj
  rcases lmn_good μ ns with ⟨e, _⟩ | ⟨hne, hf, hmin⟩
  · exact absurd e h
  · -- both leasts are the same
    obtain ⟨u, hu⟩ := List.exists_mem_of_ne_nil _ hne
    rw [hf] at hu
    obtain ⟨hu1, hu2⟩ := List.mem_filter.1 hu
    have hu2 : μ u = (lmn μ ns).2 := by simpa using hu2
    have hall : ∀ v ∈ ns, sTo (ns.map μ) ns.length ≤ μ v := by
      intro v hv
      obtain ⟨i, hi, e⟩ := List.getElem_of_mem hv
      have := hle i (by omega)
      rw [mapI_getD μ ns i hi, List.getD_eq_getElem?_getD, List.getElem?_eq_getElem hi] at this
      simpa [e] using this
    obtain ⟨v, hv, hve⟩ := List.mem_map.1 hin
    have h1 := hall u hu1
    have h2 := hmin v hv
    have hE : (lmn μ ns).2 = sTo (ns.map μ) ns.length := by omega
    have hS : fstS μ ns = ns.getD j 0 := by
      unfold fstS
      rw [hf, hE]
      refine filter_first ns _ j hj ?_ (fun i hi => ?_)
      · rw [mapI_getD μ ns j hj] at hje
        simpa using hje
      · have := hjn i hi
        rw [mapI_getD μ ns i (by omega)] at this
        simpa using this
    have hM : fstM μ ns = sTo (ns.map μ) ns.length := by
      unfold fstM
      rw [hS, ← mapI_getD μ ns j hj]
      exact hje
    refine ⟨hM, fun v hv => by rw [hM]; exact hall v hv, by rw [hS]; exact getD_of_lt hj, j, hj, hS, by rw [hM]; exact hje, fun i hi => by rw [hM]; exact hjn i hi⟩

/-- at how many points two sets differ -/
def dis (s t : Nat) : Int := ((pc (t ^^^ s) : Nat) : Int)
theorem dis_nat (s t : Nat) : 0 ≤ dis s t := Int.natCast_nonneg _
theorem dis_le {m s t : Nat} (hm : m ≤ 5) (hs : s < 2 ^ m) (ht : t < 2 ^ m) : dis s t ≤ m := by
  have := pc_le m (t ^^^ s) hm (Nat.xor_lt_two_pow ht hs)
  unfold dis
  omega

/-- are there sets, and is s a set of points of the class? -/
def nrK (n : Int) (zs : List Int) (s : Int) : Bool := (vldB n zs && setB n.toNat s) && decide (zs ≠ [])
/-- the nearest set, and how far it is -/
def nrS (n : Int) (zs : List Int) (s : Int) : Int := if nrK n zs s = true then (fstS (dis s.toNat) (zs.map Int.toNat) : Nat) else 0
def nrD (n : Int) (zs : List Int) (s : Int) : Int := if nrK n zs s = true then fstM (dis s.toNat) (zs.map Int.toNat) else 0
theorem nrK_bad {n : Int} {zs : List Int} {s : Int} (h : vldB n zs = false) : nrK n zs s = false := by simp [nrK, h]
theorem nrK_out {n : Nat} {zs : List Int} {s : Int} (h : setB n s = false) : nrK n zs s = false := by simp [nrK, h]
theorem nrK_nil {n : Int} {s : Int} : nrK n [] s = false := by simp [nrK]
theorem nrS_no {n : Int} {zs : List Int} {s : Int} (h : nrK n zs s = false) : nrS n zs s = 0 := by simp [nrS, h]
theorem nrD_no {n : Int} {zs : List Int} {s : Int} (h : nrK n zs s = false) : nrD n zs s = 0 := by simp [nrD, h]
theorem toI_ne {ns : List Nat} (h : ns ≠ []) : toI ns ≠ [] := by
  intro e
  apply h
  exact List.map_eq_nil_iff.1 e
theorem nrK_in {m s : Nat} {ns : List Nat} (h : vldB m (toI ns) = true) (hs : setB m s = true) (hne : ns ≠ []) : nrK m (toI ns) s = true := by
  rw [nrK, h, Int.toNat_natCast, hs, decide_eq_true (toI_ne hne)]; rfl
theorem nrS_in {m s : Nat} {ns : List Nat} (h : nrK m (toI ns) s = true) : nrS m (toI ns) s = ((fstS (dis s) ns : Nat) : Int) := by
  simp [nrS, h, toNat_toI]
theorem nrD_in {m s : Nat} {ns : List Nat} (h : nrK m (toI ns) s = true) : nrD m (toI ns) s = fstM (dis s) ns := by
  simp [nrD, h, toNat_toI]

/-- the greatest distance from the first sets, -1 for none -/
def cvTo (ns : List Nat) : Nat → Int
  | 0 => -1
  | s + 1 => if cvTo ns s < fstM (dis s) ns then fstM (dis s) ns else cvTo ns s
/-- CoverRadius -/
def cvB (n : Int) (zs : List Int) : Int := if vldB n zs = true ∧ zs ≠ [] then cvTo (zs.map Int.toNat) (2 ^ n.toNat) else -1
theorem cvB_bad {n : Int} {zs : List Int} (h : vldB n zs = false) : cvB n zs = -1 := by simp [cvB, h]
theorem cvB_nil {n : Int} : cvB n [] = -1 := by simp [cvB]
theorem cvB_in {m : Nat} {ns : List Nat} (h : vldB m (toI ns) = true) (hne : ns ≠ []) : cvB m (toI ns) = cvTo ns (2 ^ m) := by
  rw [cvB, if_pos ⟨h, toI_ne hne⟩, toNat_toI, Int.toNat_natCast]
theorem fstM_bd {m s : Nat} {ns : List Nat} (hm : m ≤ 5) (hns : ∀ t ∈ ns, t < 2 ^ m) (hs : s < 2 ^ m) (hne : ns ≠ []) : 0 ≤ fstM (dis s) ns ∧ fstM (dis s) ns ≤ m := by
  obtain ⟨_, _, h3, _⟩ := fst_idx (dis_nat s) hne
  exact ⟨dis_nat _ _, dis_le hm hs (hns _ h3)⟩
theorem cvTo_bd {m : Nat} {ns : List Nat} (hm : m ≤ 5) (hns : ∀ t ∈ ns, t < 2 ^ m) (hne : ns ≠ []) : ∀ s, s ≤ 2 ^ m → -1 ≤ cvTo ns s ∧ cvTo ns s ≤ m
  | 0, _ => ⟨Int.le_refl _, by show (-1 : Int) ≤ m; omega⟩
  | s + 1, h => by
    have h1 := cvTo_bd hm hns hne s (by omega)
    have h2 := fstM_bd hm hns (show s < 2 ^ m by omega) hne
    rw [cvTo]
    split <;> omega

/-- how well the first sets are fitted, together -/
def nsTo (m : Nat) (ns : List Nat) : Nat → Int
  | 0 => 0
  | s + 1 => nsTo m ns s + (m - 2 * fstM (dis s) ns)
/-- NoiseSum -/
def nsB (n : Int) (zs : List Int) : Int := if vldB n zs = true ∧ zs ≠ [] then nsTo n.toNat (zs.map Int.toNat) (2 ^ n.toNat) else 0
theorem nsB_bad {n : Int} {zs : List Int} (h : vldB n zs = false) : nsB n zs = 0 := by simp [nsB, h]
theorem nsB_nil {n : Int} : nsB n [] = 0 := by simp [nsB]
theorem nsB_in {m : Nat} {ns : List Nat} (h : vldB m (toI ns) = true) (hne : ns ≠ []) : nsB m (toI ns) = nsTo m ns (2 ^ m) := by
  rw [nsB, if_pos ⟨h, toI_ne hne⟩, toNat_toI, Int.toNat_natCast]
theorem nsTo_bd {m : Nat} {ns : List Nat} (hm : m ≤ 5) (hns : ∀ t ∈ ns, t < 2 ^ m) (hne : ns ≠ []) (s : Nat) (hs : s ≤ 2 ^ m) : -(5 * (s : Int)) ≤ nsTo m ns s ∧ nsTo m ns s ≤ 5 * (s : Int) := by
  induction s with
  | zero => exact ⟨Int.le_refl _, Int.le_refl _⟩
  | succ s ih =>
    have h1 := ih (by omega)
    have h2 := fstM_bd hm hns (show s < 2 ^ m by omega) hne
    rw [nsTo]
    omega

/-- the greatest number of points at which one of the first sets is the same as s, less those at which they differ -/
def bsTo (m : Nat) (s : Nat) (ns : List Nat) : Nat → Int
  | 0 => -(m : Int)
  | k + 1 => if bsTo m s ns k < (m : Int) - 2 * dis s (ns.getD k 0) then (m : Int) - 2 * dis s (ns.getD k 0) else bsTo m s ns k
theorem bsTo_spec (m s : Nat) (ns : List Nat) : ∀ k, -(m : Int) ≤ bsTo m s ns k ∧ (∀ j, j < k → (m : Int) - 2 * dis s (ns.getD j 0) ≤ bsTo m s ns k) ∧ (bsTo m s ns k = -(m : Int) ∨ ∃ j, j < k ∧ bsTo m s ns k = (m : Int) - 2 * dis s (ns.getD j 0))
  | 0 => ⟨Int.le_refl _, fun j hj => by omega, .inl rfl⟩
  | k + 1 => by
    obtain ⟨h1, h2, h3⟩ := bsTo_spec m s ns k
    rw [bsTo]
    split
    · rename_i hc
      refine ⟨by omega, fun j hj => ?_, .inr ⟨k, by omega, rfl⟩⟩
      by_cases e : j = k
      · subst e; exact Int.le_refl _
      · have := h2 j (by omega); omega
    · rename_i hc
      refine ⟨h1, fun j hj => ?_, ?_⟩
      · by_cases e : j = k
        · subst e; omega
        · exact h2 j (by omega)
      · rcases h3 with h3 | ⟨j, hj, h3⟩
        · exact .inl h3
        · exact .inr ⟨j, by omega, h3⟩
theorem bsTo_all {m s : Nat} {ns : List Nat} (hm : m ≤ 5) (hns : ∀ t ∈ ns, t < 2 ^ m) (hs : s < 2 ^ m) (hne : ns ≠ []) : bsTo m s ns ns.length = (m : Int) - 2 * fstM (dis s) ns := by
  obtain ⟨h1, h2, h3⟩ := bsTo_spec m s ns ns.length
  obtain ⟨_, g2, g3, j, g4, g5, g6, _⟩ := fst_idx (dis_nat s) hne
  have hb := fstM_bd hm hns hs hne
  have k1 := h2 j g4
  rw [← mapI_getD (dis s) ns j g4, g6] at k1
  rcases h3 with h3 | ⟨i, hi, h3⟩
  · omega
  · have := g2 _ (getD_of_lt hi)
    omega
theorem bsTo_bd {m s : Nat} {ns : List Nat} (hm : m ≤ 5) (k : Nat) : -5 ≤ bsTo m s ns k ∧ bsTo m s ns k ≤ 5 := by
  obtain ⟨h1, _, h3⟩ := bsTo_spec m s ns k
  rcases h3 with h3 | ⟨i, hi, h3⟩
  · omega
  · have := dis_nat s (ns.getD i 0)
    omega

end Go.Proofs.YtnoppclajhfnjabDoor
