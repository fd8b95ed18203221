/- What the laws of NearestTo, CoverRadius and NoiseSum turn on: mathematics. No conditions. -/
import Derived.Test.YtpcjecahplglfaaNear
import Derived.Test.YtpcjecahplglfaaZD
namespace Go.Proofs.Ytpcjecahplglfaa

/-- the least measure is what is a measure and no greater than any -/
theorem fstM_of {μ : Nat → Int} {ns : List Nat} (hμ : ∀ v, 0 ≤ μ v) (hne : ns ≠ []) {x : Int} (h1 : ∃ v ∈ ns, μ v = x) (h2 : ∀ v ∈ ns, x ≤ μ v) : fstM μ ns = x := by
  obtain ⟨_, g2, g3, _⟩ := fst_idx hμ hne
  obtain ⟨v, hv, e⟩ := h1
  have k1 := g2 v hv
  have k2 := h2 _ g3
  have : fstM μ ns = μ (fstS μ ns) := rfl
  omega
theorem dis_zero {s t : Nat} (hs : s < 32) (ht : t < 32) : dis s t = 0 ↔ t = s := by
  have key : ∀ s t : Fin 32, pc ((t : Nat) ^^^ (s : Nat)) = 0 ↔ (t : Nat) = s := by decide +kernel
  have := key ⟨s, hs⟩ ⟨t, ht⟩
  unfold dis
  simp only at this
  omega
theorem fstM_zero {s : Nat} {ns : List Nat} (hs : s < 32) (h32 : ∀ t ∈ ns, t < 32) (hne : ns ≠ []) : fstM (dis s) ns = 0 ↔ s ∈ ns := by
  obtain ⟨_, g2, g3, _⟩ := fst_idx (dis_nat s) hne
  constructor
  · intro h
    have : dis s (fstS (dis s) ns) = 0 := h
    rw [dis_zero hs (h32 _ g3)] at this
    rw [← this]
    exact g3
  · intro h
    have h1 := g2 s h
    have h2 := (dis_zero hs hs).2 rfl
    have h3 : 0 ≤ fstM (dis s) ns := dis_nat _ _
    omega
theorem cv_ge {ns : List Nat} {k : Nat} : ∀ {s : Nat}, s < k → fstM (dis s) ns ≤ cvTo ns k := by
  induction k with
  | zero => intro s h; omega
  | succ k ih =>
    intro s h
    rw [cvTo]
    by_cases e : s = k
    · subst e
      split <;> omega
    · have := ih (s := s) (by omega)
      split <;> omega
theorem cv_at {ns : List Nat} {k : Nat} (hk : 0 < k) : ∃ s, s < k ∧ cvTo ns k = fstM (dis s) ns := by
  induction k with
  | zero => omega
  | succ k ih =>
    rw [cvTo]
    by_cases hc : cvTo ns k < fstM (dis k) ns
    · rw [if_pos hc]; exact ⟨k, by omega, rfl⟩
    · rw [if_neg hc]
      by_cases h0 : k = 0
      · subst h0
        have h1 : 0 ≤ fstM (dis 0) ns := dis_nat _ _
        have h2 : cvTo ns 0 = -1 := rfl
        omega
      · obtain ⟨s, hs, e⟩ := ih (by omega)
        exact ⟨s, by omega, e⟩
theorem cv_of {ns : List Nat} {k : Nat} {x : Int} (h1 : ∃ s, s < k ∧ fstM (dis s) ns = x) (h2 : ∀ s, s < k → fstM (dis s) ns ≤ x) : cvTo ns k = x := by
  obtain ⟨s, hs, e⟩ := h1
  have k1 := cv_ge (ns := ns) hs
  obtain ⟨u, hu, e2⟩ := cv_at (ns := ns) (k := k) (by omega)
  have := h2 u hu
  omega

/-- all sets alone lie near all -/
theorem cv_zero {m : Nat} {ns : List Nat} (hc : Cls m ns) (hne : ns ≠ []) : cvTo ns (2 ^ m) = 0 ↔ ns.length = 2 ^ m := by
  have h32 := pow_le_32 hc.pts
  have hp := Nat.two_pow_pos m
  constructor
  · intro h
    have hall : ∀ s, s < 2 ^ m → s ∈ ns := fun s hs => by
      have h1 := cv_ge (ns := ns) hs
      have h2 : 0 ≤ fstM (dis s) ns := dis_nat _ _
      exact (fstM_zero (by omega) hc.lt32 hne).1 (by omega)
    have : ns = List.range (2 ^ m) := asc_ext hc.asc (range_asc _) (fun x => ⟨fun hx => List.mem_range.2 (hc.lt x hx), fun hx => hall x (List.mem_range.1 hx)⟩)
    rw [this, List.length_range]
  · intro h
    have hall : ∀ s, s < 2 ^ m → s ∈ ns := fun s hs => by
      have e : (List.range (2 ^ m)).filter (fun x => decide (x ∈ ns)) = ns := asc_ext ((range_asc _).filter _) hc.asc (fun x => by
        rw [List.mem_filter, List.mem_range, decide_eq_true_eq]
        exact ⟨fun h => h.2, fun h => ⟨hc.lt x h, h⟩⟩)
      have h2 : ((List.range (2 ^ m)).filter (fun x => decide (x ∈ ns))).length = (List.range (2 ^ m)).length := by rw [e, List.length_range, h]
      simpa using List.length_filter_eq_length_iff.1 h2 s (List.mem_range.2 hs)
    refine cv_of ⟨0, hp, (fstM_zero (by omega) hc.lt32 hne).2 (hall 0 hp)⟩ (fun s hs => ?_)
    rw [(fstM_zero (by omega) hc.lt32 hne).2 (hall s hs)]
    exact Int.le_refl _

theorem fstM_sub {μ : Nat → Int} {ns ms : List Nat} (hμ : ∀ v, 0 ≤ μ v) (h : ∀ x ∈ ms, x ∈ ns) (hne : ms ≠ []) : fstM μ ns ≤ fstM μ ms := by
  have hne2 : ns ≠ [] := by
    obtain ⟨x, hx⟩ := List.exists_mem_of_ne_nil _ hne
    exact List.ne_nil_of_mem (h x hx)
  obtain ⟨_, g2, _, _⟩ := fst_idx hμ hne2
  obtain ⟨_, _, k3, _⟩ := fst_idx hμ hne
  exact g2 _ (h _ k3)
theorem cv_sub {ns ms : List Nat} (h : ∀ x ∈ ms, x ∈ ns) (hne : ms ≠ []) : ∀ k, cvTo ns k ≤ cvTo ms k
  | 0 => Int.le_refl _
  | k + 1 => by
    have h1 := cv_sub h hne k
    have h2 := fstM_sub (dis_nat k) h hne
    rw [cvTo, cvTo]
    split <;> split <;> omega
theorem ns_sub {m : Nat} {ns ms : List Nat} (h : ∀ x ∈ ms, x ∈ ns) (hne : ms ≠ []) : ∀ k, nsTo m ms k ≤ nsTo m ns k
  | 0 => Int.le_refl _
  | k + 1 => by
    have h1 := ns_sub (m := m) h hne k
    have h2 := fstM_sub (dis_nat k) h hne
    rw [nsTo, nsTo]
    omega

/-- the class turned round at all points -/
def rnd (m : Nat) (ns : List Nat) : List Nat := tidyL (ns.map (fun t => t ^^^ (2 ^ m - 1)))
theorem rnd_mem {m : Nat} {ns : List Nat} (hm : m ≤ 5) (hns : ∀ t ∈ ns, t < 2 ^ m) (x : Nat) : x ∈ rnd m ns ↔ ∃ t ∈ ns, t ^^^ (2 ^ m - 1) = x := by
  have h32 := pow_le_32 hm
  have hp := Nat.two_pow_pos m
  unfold rnd tidyL
  rw [mem_flt]
  simp only [decide_eq_true_eq, List.mem_map]
  constructor
  · rintro ⟨_, h⟩; exact h
  · rintro ⟨t, ht, rfl⟩
    have := Nat.xor_lt_two_pow (hns t ht) (show 2 ^ m - 1 < 2 ^ m by omega)
    exact ⟨by omega, t, ht, rfl⟩
theorem rnd_ne {m : Nat} {ns : List Nat} (hm : m ≤ 5) (hns : ∀ t ∈ ns, t < 2 ^ m) (hne : ns ≠ []) : rnd m ns ≠ [] := by
  obtain ⟨t, ht⟩ := List.exists_mem_of_ne_nil _ hne
  exact List.ne_nil_of_mem ((rnd_mem hm hns _).2 ⟨t, ht, rfl⟩)
theorem xor_full {m s : Nat} (hm : m ≤ 5) (hs : s < 2 ^ m) : s ^^^ (2 ^ m - 1) = 2 ^ m - 1 - s := by
  have key : ∀ m : Fin 6, ∀ s : Fin 32, (s : Nat) < 2 ^ (m : Nat) → (s : Nat) ^^^ (2 ^ (m : Nat) - 1) = 2 ^ (m : Nat) - 1 - s := by decide +kernel
  exact key ⟨m, by omega⟩ ⟨s, by have := pow_le_32 hm; omega⟩ hs
theorem dis_turn (F s t : Nat) : dis s (t ^^^ F) = dis (s ^^^ F) t := by
  unfold dis
  rw [Nat.xor_assoc, Nat.xor_comm F s]
theorem fstM_rnd {m s : Nat} {ns : List Nat} (hm : m ≤ 5) (hns : ∀ t ∈ ns, t < 2 ^ m) (hne : ns ≠ []) (hs : s < 2 ^ m) : fstM (dis s) (rnd m ns) = fstM (dis (2 ^ m - 1 - s)) ns := by
  obtain ⟨_, g2, g3, _⟩ := fst_idx (dis_nat (2 ^ m - 1 - s)) hne
  refine fstM_of (dis_nat s) (rnd_ne hm hns hne) ⟨_, (rnd_mem hm hns _).2 ⟨_, g3, rfl⟩, ?_⟩ (fun v hv => ?_)
  · rw [dis_turn, xor_full hm hs]; rfl
  · obtain ⟨t, ht, rfl⟩ := (rnd_mem hm hns _).1 hv
    rw [dis_turn, xor_full hm hs]
    exact g2 t ht
theorem cv_rnd {m : Nat} {ns : List Nat} (hm : m ≤ 5) (hns : ∀ t ∈ ns, t < 2 ^ m) (hne : ns ≠ []) : cvTo (rnd m ns) (2 ^ m) = cvTo ns (2 ^ m) := by
  have hp := Nat.two_pow_pos m
  obtain ⟨u, hu, e⟩ := cv_at (ns := ns) (k := 2 ^ m) hp
  refine cv_of ⟨2 ^ m - 1 - u, by omega, ?_⟩ (fun s hs => ?_)
  · rw [fstM_rnd hm hns hne (by omega), show 2 ^ m - 1 - (2 ^ m - 1 - u) = u by omega, e]
  · rw [fstM_rnd hm hns hne hs]
    exact cv_ge (by omega)

/-- sums, from the front and from the back -/
def smTo (f : Nat → Int) : Nat → Int
  | 0 => 0
  | k + 1 => smTo f k + f k
theorem smTo_front (f : Nat → Int) (k : Nat) : smTo f (k + 1) = f 0 + smTo (fun i => f (i + 1)) k := by
  induction k with
  | zero => simp [smTo]
  | succ k ih =>
    have e1 : smTo f (k + 1 + 1) = smTo f (k + 1) + f (k + 1) := rfl
    have e2 : smTo (fun i => f (i + 1)) (k + 1) = smTo (fun i => f (i + 1)) k + f (k + 1) := rfl
    omega
theorem smTo_congr {f g : Nat → Int} : ∀ k, (∀ i, i < k → f i = g i) → smTo f k = smTo g k
  | 0, _ => rfl
  | k + 1, h => by
    have h1 := smTo_congr k (fun i hi => h i (by omega))
    have h2 := h k (by omega)
    have e1 : smTo f (k + 1) = smTo f k + f k := rfl
    have e2 : smTo g (k + 1) = smTo g k + g k := rfl
    omega
theorem smTo_back (f : Nat → Int) : ∀ k, smTo (fun i => f (k - 1 - i)) k = smTo f k
  | 0 => rfl
  | k + 1 => by
    rw [smTo_front, smTo]
    have h1 := smTo_congr (f := fun i => f (k + 1 - 1 - (i + 1))) (g := fun i => f (k - 1 - i)) k (fun i hi => by show f _ = f _; congr 1; omega)
    have h2 := smTo_back f k
    simp only [Nat.add_sub_cancel, Nat.sub_zero] at *
    omega
theorem nsTo_sm (m : Nat) (ns : List Nat) : ∀ k, nsTo m ns k = smTo (fun s => (m : Int) - 2 * fstM (dis s) ns) k
  | 0 => rfl
  | k + 1 => by rw [nsTo, smTo, nsTo_sm m ns k]
theorem ns_rnd {m : Nat} {ns : List Nat} (hm : m ≤ 5) (hns : ∀ t ∈ ns, t < 2 ^ m) (hne : ns ≠ []) : nsTo m (rnd m ns) (2 ^ m) = nsTo m ns (2 ^ m) := by
  rw [nsTo_sm, nsTo_sm, ← smTo_back (fun s => (m : Int) - 2 * fstM (dis s) ns)]
  refine smTo_congr _ (fun s hs => ?_)
  show (m : Int) - 2 * fstM (dis s) (rnd m ns) = (m : Int) - 2 * fstM (dis (2 ^ m - 1 - s)) ns
  rw [fstM_rnd hm hns hne hs]
/-- one set alone is met as often as it is missed -/
theorem ns_one {m t : Nat} (hm : m ≤ 5) (ht : t < 2 ^ m) : nsTo m [t] (2 ^ m) = 0 := by
  have key : ∀ m : Fin 6, ∀ t : Fin 32, (t : Nat) < 2 ^ (m : Nat) → nsTo (m : Nat) [(t : Nat)] (2 ^ (m : Nat)) = 0 := by decide +kernel
  exact key ⟨m, by omega⟩ ⟨t, by have := pow_le_32 hm; omega⟩ ht
theorem ns_top {m : Nat} {ns : List Nat} : ∀ k, nsTo m ns k ≤ (m : Int) * k
  | 0 => by simp [nsTo]
  | k + 1 => by
    have h1 := ns_top (m := m) (ns := ns) k
    have h2 : 0 ≤ fstM (dis k) ns := dis_nat _ _
    have h3 : (m : Int) * ((k + 1 : Nat) : Int) = m * k + m := by
      rw [Int.natCast_add, Int.mul_add]; simp
    rw [nsTo]
    omega

end Go.Proofs.Ytpcjecahplglfaa
