/- Paths between sets: no shorter than the points that differ, and as odd or even; in extremal classes as short; parts, edges and flips. No program. -/
import Derived.Test.YtgldckgecoijfaaZS
import Derived.Test.YtgldckgecoijfaaZT
namespace Go.Proofs.Ytgldckgecoijfaa
open Go.RowKit

theorem adj_turn (a b : Nat) : adj a b = adj b a := by rw [adj, adj, Nat.xor_comm]
theorem adj_pc {a b : Nat} (h : adj a b = true) : pc (a ^^^ b) = 1 := by simpa [adj] using h
theorem adj_of {a b : Nat} (h : pc (a ^^^ b) = 1) : adj a b = true := by simp [adj, h]
theorem xor_mid (a v t : Nat) : a ^^^ t = (a ^^^ v) ^^^ (v ^^^ t) := by
  rw [Nat.xor_assoc, ← Nat.xor_assoc v v t, Nat.xor_self, Nat.zero_xor]
theorem xor_same (u v x : Nat) : (u ^^^ x) ^^^ (v ^^^ x) = u ^^^ v := by
  rw [Nat.xor_comm v x, Nat.xor_assoc, ← Nat.xor_assoc x x v, Nat.xor_self, Nat.zero_xor]
theorem pc_step : ∀ x y : Fin 32, pc y.1 = 1 → pc (x.1 ^^^ y.1) ≤ pc x.1 + 1 ∧ (pc (x.1 ^^^ y.1) + pc x.1) % 2 = 1 := by decide +kernel
/-- a path is no shorter than the points that differ, and as odd -/
theorem pth_pc {ns : List Nat} (h32 : ∀ t ∈ ns, t < 32) {i : Nat} (hi : i < ns.length) : ∀ k j, Pth (nR ns) i k j → pc (ns.getD i 0 ^^^ ns.getD j 0) ≤ k ∧ (k + pc (ns.getD i 0 ^^^ ns.getD j 0)) % 2 = 0 := by
  intro k
  induction k with
  | zero =>
    intro j h
    have : j = i := h
    subst this
    rw [Nat.xor_self]
    decide
  | succ k ih =>
    rintro j ⟨v, h1, h2⟩
    obtain ⟨h3, h4⟩ := ih v h1
    have hv := (pth_turn hi k v h1).1
    have a1 := h32 _ (getD_of_lt hi)
    have a2 := h32 _ (getD_of_lt hv)
    have a3 := h32 _ (getD_of_lt h2.1)
    have h5 := pc_step ⟨ns.getD i 0 ^^^ ns.getD v 0, Nat.xor_lt_two_pow (n := 5) a1 a2⟩ ⟨ns.getD v 0 ^^^ ns.getD j 0, Nat.xor_lt_two_pow (n := 5) a2 a3⟩ (adj_pc h2.2)
    dsimp only at h5
    rw [← xor_mid] at h5
    omega
theorem dst_turn {ns : List Nat} {i j : Nat} {d : Int} (hi : i < ns.length) (hj : j < ns.length) (h : Dst (nR ns) i j d) : Dst (nR ns) j i d := by
  rcases h with ⟨h1, h2⟩ | ⟨k, h1, h2, h3⟩
  · exact .inl ⟨h1, fun k hk => h2 k (pth_turn hj k i hk).2⟩
  · exact .inr ⟨k, h1, (pth_turn hi k j h2).2, fun l hl => h3 l (pth_turn hj l i hl).2⟩
/-- what a distance tells of the points that differ -/
theorem dst_facts {ns : List Nat} (h32 : ∀ t ∈ ns, t < 32) {i j : Nat} {d : Int} (hi : i < ns.length) (h : Dst (nR ns) i j d) (hd : ¬ d < 0) : ∃ k : Nat, d = (k : Int) ∧ pc (ns.getD i 0 ^^^ ns.getD j 0) ≤ k ∧ (k - pc (ns.getD i 0 ^^^ ns.getD j 0)) % 2 = 0 ∧ (k = 0 ↔ i = j) := by
  rcases h with ⟨h1, h2⟩ | ⟨k, h1, h2, h3⟩
  · omega
  · obtain ⟨h4, h5⟩ := pth_pc h32 hi k j h2
    refine ⟨k, h1, h4, by omega, fun e => ?_, fun e => ?_⟩
    · subst e
      exact Eq.symm h2
    · subst e
      have := h3 0 rfl
      omega
theorem least_all {R : Nat → Nat → Prop} {s : Nat} : ∀ k t, Pth R s k t → (∀ j, Pth R s j t → k ≤ j) → ∀ l, l ≤ k → ∃ v, Pth R s l v ∧ ∀ j, Pth R s j v → l ≤ j := by
  intro k
  induction k with
  | zero =>
    intro t h1 h2 l hl
    obtain rfl : l = 0 := by omega
    exact ⟨t, h1, h2⟩
  | succ k ih =>
    rintro t ⟨v, h1, h2⟩ h3 l hl
    by_cases e : l = k + 1
    · subst e; exact ⟨t, ⟨v, h1, h2⟩, h3⟩
    · exact ih v h1 (fun j hj => by
        have := h3 (j + 1) ⟨v, hj, h2⟩
        omega) l (by omega)
/-- no more of them than of those, where each one is one of those -/
theorem sub_len {α : Type} [DecidableEq α] : ∀ {l r : List α}, l.Nodup → (∀ x ∈ l, x ∈ r) → l.length ≤ r.length
  | [], _, _, _ => Nat.zero_le _
  | a :: l, r, hd, hs => by
    rw [List.nodup_cons] at hd
    have h1 := sub_len (l := l) (r := r.erase a) hd.2 (fun x hx => by
      have hne : x ≠ a := fun e => hd.1 (by rw [← e]; exact hx)
      exact (List.mem_erase_of_ne hne).2 (hs x (List.mem_cons_of_mem _ hx)))
    rw [List.length_erase_of_mem (hs a List.mem_cons_self)] at h1
    have := List.length_pos_of_mem (hs a List.mem_cons_self)
    rw [List.length_cons]
    omega
theorem idx_at {l : List Nat} {u : Nat} (h : u ∈ l) : ∃ i, i < l.length ∧ l.getD i 0 = u := by
  obtain ⟨i, hi, e⟩ := List.getElem_of_mem h
  exact ⟨i, hi, by rw [List.getD_eq_getElem?_getD, List.getElem?_eq_getElem hi]; exact e⟩
theorem asc_lt {m : Nat} {ns : List Nat} (h : Cls m ns) {i j : Nat} (hj : j < ns.length) (hij : i < j) : ns.getD i 0 < ns.getD j 0 := by
  have hi : i < ns.length := by omega
  rw [List.getD_eq_getElem?_getD, List.getD_eq_getElem?_getD, List.getElem?_eq_getElem hi, List.getElem?_eq_getElem hj, Option.getD_some, Option.getD_some]
  exact List.pairwise_iff_getElem.1 h.asc i j hi hj hij
theorem asc_one {m : Nat} {ns : List Nat} (h : Cls m ns) {i j : Nat} (hi : i < ns.length) (hj : j < ns.length) (e : ns.getD i 0 = ns.getD j 0) : i = j := by
  rcases Nat.lt_trichotomy i j with h2 | h2 | h2
  · have := asc_lt h hj h2; omega
  · exact h2
  · have := asc_lt h hi h2; omega
/-- each place reaches a first one -/
theorem fst_at {ns : List Nat} {F : Nat → Bool} (hF : Fst ns F) : ∀ i, ∃ k, k ≤ i ∧ F k = true ∧ Rch ns i k := by
  intro i
  induction i using Nat.strongRecOn with
  | ind i ih =>
    by_cases h : F i = true
    · exact ⟨i, Nat.le_refl _, h, Rch.self ns i⟩
    · have h2 : ¬ ∀ k, k < i → ¬ Rch ns i k := fun k => h ((hF i).2 k)
      obtain ⟨k, hk⟩ := Classical.not_forall.1 h2
      obtain ⟨hk1, hk2⟩ := Classical.not_imp.1 hk
      have hk3 := Classical.not_not.1 hk2
      obtain ⟨l, l1, l2, l3⟩ := ih k hk1
      exact ⟨l, by omega, l2, hk3.trans l3⟩
/-- two first ones that reach one another are one -/
theorem fst_uniq {ns : List Nat} {F : Nat → Bool} (hF : Fst ns F) {a b : Nat} (ha : F a = true) (hb : F b = true) (h : Rch ns a b) (h2 : Rch ns b a) : a = b := by
  rcases Nat.lt_trichotomy a b with k | k | k
  · exact absurd h2 ((hF b).1 hb a k)
  · exact k
  · exact absurd h ((hF a).1 ha b k)
/-- a distance is less than the number of sets -/
theorem dst_len {ns : List Nat} {i j : Nat} {d : Int} (hi : i < ns.length) (h : Dst (nR ns) i j d) : d < (ns.length : Int) := by
  rcases h with ⟨h1, h2⟩ | ⟨k, h1, h2, h3⟩
  · omega
  · have hex : ∀ l, ∃ v, l ≤ k → Pth (nR ns) i l v ∧ ∀ j, Pth (nR ns) i j v → l ≤ j := fun l => by
      by_cases hl : l ≤ k
      · obtain ⟨v, hv⟩ := least_all k j h2 h3 l hl
        exact ⟨v, fun _ => hv⟩
      · exact ⟨0, fun e => absurd e hl⟩
    obtain ⟨φ, hφ⟩ := Classical.axiomOfChoice hex
    have h4 := sub_len (l := (List.range (k + 1)).map φ) (r := List.range ns.length) (by
      unfold List.Nodup
      rw [List.pairwise_map]
      refine List.Pairwise.imp_of_mem (fun {a b} ha hb hab => ?_) (List.pairwise_lt_range (n := k + 1))
      rw [List.mem_range] at ha hb
      intro e
      have a1 := (hφ a (by omega)).1
      rw [e] at a1
      have := (hφ b (by omega)).2 a a1
      omega) (fun x hx => by
      rw [List.mem_map] at hx
      obtain ⟨l, hl, rfl⟩ := hx
      rw [List.mem_range] at hl ⊢
      exact (pth_turn hi l _ (hφ l (by omega)).1).1)
    rw [List.length_map, List.length_range, List.length_range] at h4
    omega
theorem cmTo_list (F : Nat → Bool) (n : Nat) : cmTo F n = ((List.range n).filter F).length := by rw [cmTo, List.countP_eq_length_filter]
theorem cm_two {ns : List Nat} {F : Nat → Bool} (hF : Fst ns F) {i j : Nat} (hi : i < ns.length) (hj : j < ns.length) (h : ¬ Rch ns i j) : 1 < cmTo F ns.length := by
  obtain ⟨a, a1, a2, a3⟩ := fst_at hF i
  obtain ⟨b, b1, b2, b3⟩ := fst_at hF j
  have hne : a ≠ b := fun e => by
    subst e
    exact h (a3.trans (b3.turn hj))
  rw [cmTo_list]
  have := sub_len (l := [a, b]) (r := (List.range ns.length).filter F) (by simp [hne]) (fun x hx => by
    rw [List.mem_filter, List.mem_range]
    simp at hx
    rcases hx with rfl | rfl
    · exact ⟨by omega, a2⟩
    · exact ⟨by omega, b2⟩)
  simp at this
  omega
theorem cm_one {ns : List Nat} {F : Nat → Bool} (hF : Fst ns F) (h : ∀ i j, i < ns.length → j < ns.length → Rch ns i j) : cmTo F ns.length ≤ 1 := by
  rw [cmTo_list]
  exact sub_len (l := (List.range ns.length).filter F) (r := [0]) (List.Pairwise.filter _ List.nodup_range) (fun x hx => by
    rw [List.mem_filter, List.mem_range] at hx
    rw [List.mem_singleton]
    apply Classical.byContradiction
    intro hn
    exact (hF x).1 hx.2 0 (by omega) (h x 0 hx.1 (by omega)))
theorem cm_zero {ns : List Nat} {F : Nat → Bool} (hF : Fst ns F) : cmTo F ns.length = 0 ↔ ns.length = 0 := by
  constructor
  · intro h
    apply Classical.byContradiction
    intro hn
    have := sub_len (l := [0]) (r := (List.range ns.length).filter F) (by simp) (fun x hx => by
      rw [List.mem_singleton] at hx
      subst hx
      rw [List.mem_filter, List.mem_range]
      exact ⟨by omega, (hF 0).2 (fun k hk => by omega)⟩)
    rw [← cmTo_list, h] at this
    simp at this
  · intro h
    have := cmTo_le F ns.length
    omega
/-- no more parts than where the places go, if none are joined there that are not here -/
theorem cm_le {ns ns' : List Nat} {F F' : Nat → Bool} (hF : Fst ns F) (hF' : Fst ns' F') (φ : Nat → Nat) (h1 : ∀ i, i < ns.length → φ i < ns'.length) (h2 : ∀ i j, i < ns.length → j < ns.length → Rch ns' (φ i) (φ j) → Rch ns i j) : cmTo F ns.length ≤ cmTo F' ns'.length := by
  obtain ⟨ψ, hψ⟩ := Classical.axiomOfChoice (r := fun i k => k ≤ i ∧ F' k = true ∧ Rch ns' i k) (fst_at hF')
  have e1 : (((List.range ns.length).filter F).map (fun i => ψ (φ i))).length = ((List.range ns.length).filter F).length := List.length_map _
  rw [cmTo_list, cmTo_list, ← e1]
  apply sub_len
  · unfold List.Nodup
    rw [List.pairwise_map]
    have h0 : ((List.range ns.length).filter F).Pairwise (· < ·) := List.Pairwise.filter _ List.pairwise_lt_range
    refine List.Pairwise.imp_of_mem (fun {a b} ha hb hab => ?_) h0
    rw [List.mem_filter, List.mem_range] at ha hb
    intro e
    have ka := (hψ (φ a)).2.2
    have kb := (hψ (φ b)).2.2
    rw [← e] at kb
    have := h2 b a hb.1 ha.1 (kb.trans (ka.turn (h1 a ha.1)))
    exact (hF b).1 hb.2 a hab this
  · intro x hx
    rw [List.mem_map] at hx
    obtain ⟨i, hi, rfl⟩ := hx
    rw [List.mem_filter, List.mem_range] at hi ⊢
    obtain ⟨k1, k2, _⟩ := hψ (φ i)
    have := h1 i hi.1
    exact ⟨by omega, k2⟩

/-- one step within the sets of f -/
def sF (n : Nat) (f : Nat → Bool) (u v : Nat) : Prop := u < 2 ^ n ∧ v < 2 ^ n ∧ f v = true ∧ adj u v = true
theorem pth_map {R R' : Nat → Nat → Prop} (φ : Nat → Nat) (h : ∀ u v, R u v → R' (φ u) (φ v)) {s : Nat} : ∀ k t, Pth R s k t → Pth R' (φ s) k (φ t) := by
  intro k
  induction k with
  | zero =>
    intro t e
    have : t = s := e
    subst this
    exact rfl
  | succ k ih =>
    rintro t ⟨v, h1, h2⟩
    exact ⟨φ v, ih v h1, h _ _ h2⟩
theorem ins_pc : ∀ x : Fin 5, ∀ u v : Fin 16, pc (ins x.1 u.1 ^^^ ins x.1 v.1) = pc (u.1 ^^^ v.1) ∧ pc ((ins x.1 u.1 + 2 ^ x.1) ^^^ (ins x.1 v.1 + 2 ^ x.1)) = pc (u.1 ^^^ v.1) := by decide +kernel
theorem top_pc : ∀ n : Fin 5, ∀ u v : Fin 16, u.1 < 2 ^ n.1 → v.1 < 2 ^ n.1 → pc ((u.1 + 2 ^ n.1) ^^^ (v.1 + 2 ^ n.1)) = pc (u.1 ^^^ v.1) ∧ pc (u.1 ^^^ (u.1 + 2 ^ n.1)) = 1 ∧ pc ((u.1 + 2 ^ n.1) ^^^ u.1) = 1 := by decide +kernel
theorem anti_pc : ∀ n : Fin 5, ∀ a b c : Fin 16, a.1 < 2 ^ n.1 → b.1 < 2 ^ n.1 → c.1 < 2 ^ n.1 → (∀ x : Fin 5, x.1 ≤ n.1 → hasX x.1 a.1 ≠ hasX x.1 (b.1 + 2 ^ n.1)) → pc (a.1 ^^^ c.1) + 1 + pc (c.1 ^^^ b.1) = pc (a.1 ^^^ (b.1 + 2 ^ n.1)) := by decide +kernel
theorem cnt_ex {n : Nat} {f : Nat → Bool} (h : cnt n f ≠ 0) : ∃ c, c < 2 ^ n ∧ f c = true := by
  apply Classical.byContradiction
  intro hn
  apply h
  rw [cnt_congr (g := fun _ => false) (fun s hs => by
    cases e : f s with
    | false => rfl
    | true => exact absurd ⟨s, hs, e⟩ hn), cnt_none]
theorem cnt_has {n : Nat} {f : Nat → Bool} {u : Nat} (hu : u < 2 ^ n) (hf : f u = true) : cnt n f ≠ 0 := by
  have h1 : cnt n (fun p => decide (p = u)) ≤ cnt n f := cnt_mono (fun s _ he => by
    have := of_decide_eq_true he
    rw [this]; exact hf)
  rw [cnt_one hu] at h1
  omega
theorem amp_ins {n x : Nat} (hn : n < 5) (hx : x ≤ n) {f : Nat → Bool} (h : ampF (n + 1) f) : ampF n (dnX x f) ∧ ampF n (upX x f) := by
  have hA : ∀ s, s < 2 ^ n → shF n (dnX x f) s = true → shF n (upX x f) s = true → stF n (andF (dnX x f) (upX x f)) s = true := fun s hs k1 k2 => by
    obtain ⟨a1, a2, a3, a4⟩ := sF_ins hn hx f hs
    have h1 := h (ins x s + 2 ^ x) (ins_facts hn hx hs).2.1 (by rw [a2, k1, k2]; rfl)
    rw [a4] at h1
    exact h1
  have hB : ∀ s, s < 2 ^ n → shF n (orF (dnX x f) (upX x f)) s = true → stF n (dnX x f) s = true ∨ stF n (upX x f) s = true := fun s hs k => by
    obtain ⟨a1, a2, a3, a4⟩ := sF_ins hn hx f hs
    have h1 := h (ins x s) (ins_facts hn hx hs).1 (by rw [a1]; exact k)
    rw [a3, Bool.or_eq_true] at h1
    exact h1
  have m1 : ∀ s, andF (dnX x f) (upX x f) s = true → dnX x f s = true := fun s k => by simp only [andF, Bool.and_eq_true] at k; exact k.1
  have m2 : ∀ s, andF (dnX x f) (upX x f) s = true → upX x f s = true := fun s k => by simp only [andF, Bool.and_eq_true] at k; exact k.2
  refine ⟨fun s hs k => ?_, fun s hs k => ?_⟩
  · rcases hB s hs (shF_or n (dnX x f) (upX x f) s (.inl k)) with h1 | h1
    · exact h1
    · exact stF_mono (by omega) m1 hs (hA s hs k (st_sh n _ s h1))
  · rcases hB s hs (shF_or n (dnX x f) (upX x f) s (.inr k)) with h1 | h1
    · exact stF_mono (by omega) m2 hs (hA s hs (st_sh n _ s h1) k)
    · exact h1
theorem pth_eq {R : Nat → Nat → Prop} {s t k l : Nat} (e : k = l) (h : Pth R s k t) : Pth R s l t := e ▸ h
/-- in an extremal class paths are as short as they may be -/
theorem iso_amp {n : Nat} (hn : n ≤ 5) {f : Nat → Bool} (h : ampF n f) : ∀ a b, a < 2 ^ n → b < 2 ^ n → f a = true → f b = true → Pth (sF n f) a (pc (a ^^^ b)) b := by
  induction n generalizing f with
  | zero =>
    intro a b ha hb _ _
    obtain rfl : a = 0 := by simp at ha; omega
    obtain rfl : b = 0 := by simp at hb; omega
    exact rfl
  | succ n ih =>
    intro a b ha hb fa fb
    have hp : 2 ^ (n + 1) = 2 ^ n + 2 ^ n := by rw [Nat.pow_succ]; omega
    have h16 := sixteen (n := n) (by omega)
    by_cases hx : ∃ x, x ≤ n ∧ hasX x a = hasX x b
    · obtain ⟨x, hx, he⟩ := hx
      obtain ⟨p1, p2⟩ := amp_ins (by omega) hx h
      obtain ⟨ra, ra0, ra1⟩ := rmv_facts (n := n) (by omega) hx ha
      obtain ⟨rb, rb0, rb1⟩ := rmv_facts (n := n) (by omega) hx hb
      have hpc := ins_pc ⟨x, by omega⟩ ⟨rmv x a, by omega⟩ ⟨rmv x b, by omega⟩
      dsimp only at hpc
      cases hh : hasX x a with
      | false =>
        have ea := ra0 hh
        have eb := rb0 (he ▸ hh)
        have h1 := ih (by omega) p1 (rmv x a) (rmv x b) ra rb (by show f (ins x (rmv x a)) = true; rw [ea]; exact fa) (by show f (ins x (rmv x b)) = true; rw [eb]; exact fb)
        have h2 := pth_map (R' := sF (n + 1) f) (ins x) (fun u v => fun ⟨k1, k2, k3, k4⟩ => ⟨(ins_facts (by omega) hx k1).1, (ins_facts (by omega) hx k2).1, k3, adj_of (by
          have := (ins_pc ⟨x, by omega⟩ ⟨u, by omega⟩ ⟨v, by omega⟩).1
          dsimp only at this
          rw [this]; exact adj_pc k4)⟩) _ _ h1
        rw [ea, eb] at h2 hpc
        exact pth_eq hpc.1.symm h2
      | true =>
        have ea := ra1 hh
        have eb := rb1 (he ▸ hh)
        have h1 := ih (by omega) p2 (rmv x a) (rmv x b) ra rb (by show f (ins x (rmv x a) + 2 ^ x) = true; rw [ea]; exact fa) (by show f (ins x (rmv x b) + 2 ^ x) = true; rw [eb]; exact fb)
        have h2 := pth_map (R' := sF (n + 1) f) (fun u => ins x u + 2 ^ x) (fun u v => fun ⟨k1, k2, k3, k4⟩ => ⟨(ins_facts (by omega) hx k1).2.1, (ins_facts (by omega) hx k2).2.1, k3, adj_of (by
          have := (ins_pc ⟨x, by omega⟩ ⟨u, by omega⟩ ⟨v, by omega⟩).2
          dsimp only at this
          rw [this]; exact adj_pc k4)⟩) _ _ h1
        rw [ea, eb] at h2 hpc
        exact pth_eq hpc.2.symm h2
    · have hne : ∀ x, x ≤ n → hasX x a ≠ hasX x b := fun x h1 e => hx ⟨x, h1, e⟩
      obtain ⟨h1, h2, h3, h4⟩ := amp_parts (by omega) h
      have hlast := hne n (Nat.le_refl n)
      have low : ∀ k t s, Pth (sF n f) s k t → Pth (sF (n + 1) f) s k t := fun k t s hh => pth_map (R' := sF (n + 1) f) id (fun u v => fun ⟨k1, k2, k3, k4⟩ => ⟨by show u < _; omega, by show v < _; omega, k3, k4⟩) k t hh
      have high : ∀ k t s, Pth (sF n (up n f)) s k t → Pth (sF (n + 1) f) (s + 2 ^ n) k (t + 2 ^ n) := fun k t s hh => pth_map (R' := sF (n + 1) f) (fun u => u + 2 ^ n) (fun u v => fun ⟨k1, k2, k3, k4⟩ => ⟨by omega, by omega, k3, adj_of (by
          have := (top_pc ⟨n, by omega⟩ ⟨u, by omega⟩ ⟨v, by omega⟩ k1 k2).1
          dsimp only at this
          rw [this]; exact adj_pc k4)⟩) k t hh
      by_cases hla : a < 2 ^ n
      · by_cases hlb : b < 2 ^ n
        · exact absurd ((has_last (by omega) hla).1.trans (has_last (by omega) hlb).1.symm) hlast
        · obtain ⟨b', rfl⟩ : ∃ b', b = b' + 2 ^ n := ⟨b - 2 ^ n, by omega⟩
          have hlb' : b' < 2 ^ n := by omega
          obtain ⟨c, hc, hfc⟩ := cnt_ex (h4 (cnt_has hla fa) (cnt_has (f := up n f) hlb' fb))
          simp only [andF, Bool.and_eq_true] at hfc
          have q1 := low _ _ _ (ih (by omega) h1 a c hla hc fa hfc.1)
          have q2 : Pth (sF (n + 1) f) c 1 (c + 2 ^ n) := ⟨c, rfl, by omega, by omega, hfc.2, adj_of (top_pc ⟨n, by omega⟩ ⟨c, by omega⟩ ⟨c, by omega⟩ hc hc).2.1⟩
          have q3 := high _ _ _ (ih (by omega) h2 c b' hc hlb' hfc.2 fb)
          have key := anti_pc ⟨n, by omega⟩ ⟨a, by omega⟩ ⟨b', by omega⟩ ⟨c, by omega⟩ hla hlb' hc (fun x hx => hne x.1 hx)
          exact pth_eq key (pth_app _ _ _ (pth_app _ _ _ q1 q2) q3)
      · obtain ⟨a', rfl⟩ : ∃ a', a = a' + 2 ^ n := ⟨a - 2 ^ n, by omega⟩
        have hla' : a' < 2 ^ n := by omega
        by_cases hlb : b < 2 ^ n
        · obtain ⟨c, hc, hfc⟩ := cnt_ex (h4 (cnt_has hlb fb) (cnt_has (f := up n f) hla' fa))
          simp only [andF, Bool.and_eq_true] at hfc
          have q1 := high _ _ _ (ih (by omega) h2 a' c hla' hc fa hfc.2)
          have q2 : Pth (sF (n + 1) f) (c + 2 ^ n) 1 c := ⟨c + 2 ^ n, rfl, by omega, by omega, hfc.1, adj_of (top_pc ⟨n, by omega⟩ ⟨c, by omega⟩ ⟨c, by omega⟩ hc hc).2.2⟩
          have q3 := low _ _ _ (ih (by omega) h1 c b hc hlb hfc.1 fb)
          have key : pc (b ^^^ c) + 1 + pc (c ^^^ a') = pc (b ^^^ (a' + 2 ^ n)) := anti_pc ⟨n, by omega⟩ ⟨b, by omega⟩ ⟨a', by omega⟩ ⟨c, by omega⟩ hlb hla' hc (fun x hx => (hne x.1 hx).symm)
          refine pth_eq ?_ (pth_app _ _ _ (pth_app _ _ _ q1 q2) q3)
          rw [Nat.xor_comm a' c, Nat.xor_comm c b, Nat.xor_comm (a' + 2 ^ n) b, ← key]
          omega
        · obtain ⟨b', rfl⟩ : ∃ b', b = b' + 2 ^ n := ⟨b - 2 ^ n, by omega⟩
          exact absurd ((has_last (n := n) (s := a') (by omega) hla').2.trans (has_last (n := n) (s := b') (by omega) (by omega)).2.symm) hlast

/-- a path between sets is one between their places -/
theorem pth_idx {m : Nat} {ns : List Nat} {i : Nat} (hi : i < ns.length) : ∀ k t, Pth (sF m (inF ns)) (ns.getD i 0) k t → ∃ j, j < ns.length ∧ ns.getD j 0 = t ∧ Pth (nR ns) i k j := by
  intro k
  induction k with
  | zero =>
    intro t e
    have : t = ns.getD i 0 := e
    exact ⟨i, hi, this.symm, rfl⟩
  | succ k ih =>
    rintro t ⟨v, h1, h2⟩
    obtain ⟨j, j1, j2, j3⟩ := ih v h1
    obtain ⟨l, l1, l2⟩ := idx_at (of_decide_eq_true h2.2.2.1)
    exact ⟨l, l1, l2, j, j3, l1, by rw [l2, j2]; exact h2.2.2.2⟩
theorem pth_sets {m : Nat} {ns : List Nat} (h : Cls m ns) {i : Nat} : ∀ k j, Pth (nR ns) i k j → Pth (sF m (inF ns)) (ns.getD i 0) k (ns.getD j 0) :=
  fun k j hh => pth_map (R' := sF m (inF ns)) (fun u => ns.getD u 0) (fun u v hv => by
    refine ⟨?_, h.lt _ (getD_of_lt hv.1), decide_eq_true (getD_of_lt hv.1), hv.2⟩
    by_cases hu : u < ns.length
    · exact h.lt _ (getD_of_lt hu)
    · rw [List.getD_eq_getElem?_getD, List.getElem?_eq_none (by omega)]
      exact Nat.two_pow_pos m) k j hh
theorem ext_amp {m : Nat} {ns : List Nat} (h : Cls m ns) (he : extL m ns) : ampF m (inF ns) := fun s hs hh => by
  have hb := ext_both h he
  rw [← sht_sh h hs] at hh
  have : s ∈ (List.range (2 ^ m)).filter (strg ns) := by rw [hb, List.mem_filter, List.mem_range]; exact ⟨hs, hh⟩
  rw [List.mem_filter] at this
  rw [← strg_st h hs]
  exact this.2
/-- extremal classes are isometric -/
theorem iso_ext {m : Nat} {ns : List Nat} {R : Bool} (h : Cls m ns) (hR : Iso ns R) (he : extL m ns) : R = true := by
  refine hR.2 (fun a ha b hb => ?_)
  have ma := getD_of_lt ha
  have mb := getD_of_lt hb
  have h1 := iso_amp h.pts (ext_amp h he) _ _ (h.lt _ ma) (h.lt _ mb) (decide_eq_true ma) (decide_eq_true mb)
  obtain ⟨j, j1, j2, j3⟩ := pth_idx ha _ _ h1
  have := asc_one h j1 hb j2
  subst this
  exact .inr ⟨_, rfl, j3, fun l hl => (pth_pc h.lt32 ha l j hl).1⟩
theorem iso_one {ns : List Nat} {F : Nat → Bool} {R : Bool} (hF : Fst ns F) (hR : Iso ns R) (h : R = true) : cmTo F ns.length ≤ 1 :=
  cm_one hF (fun i j hi hj => by
    have h1 := hR.1 h i hi j hj
    exact Classical.not_not.1 (fun hn => by
      have := (dst_rch h1).2 hn
      omega))

theorem cm_flip_le {m x : Nat} {ns : List Nat} {F F' : Nat → Bool} (h : Cls m ns) (hx : x < 2 ^ m) (hF : Fst ns F) (hF' : Fst (flp x ns) F') : cmTo F ns.length ≤ cmTo F' (flp x ns).length := by
  have hG := flp_cls h hx
  have hex : ∀ i, ∃ j, i < ns.length → j < (flp x ns).length ∧ (flp x ns).getD j 0 = ns.getD i 0 ^^^ x := by
    intro i
    by_cases hi : i < ns.length
    · have : ns.getD i 0 ^^^ x ∈ flp x ns := by
        rw [mem_flp h hx, Nat.xor_assoc, Nat.xor_self, Nat.xor_zero]
        exact getD_of_lt hi
      obtain ⟨j, j1, j2⟩ := idx_at this
      exact ⟨j, fun _ => ⟨j1, j2⟩⟩
    · exact ⟨0, fun k => absurd k hi⟩
  obtain ⟨φ, hφ⟩ := Classical.axiomOfChoice hex
  refine cm_le hF hF' φ (fun i hi => (hφ i hi).1) (fun i j hi hj hr => ?_)
  obtain ⟨k, hk⟩ := hr
  have h1 := pth_sets hG k _ hk
  have h2 := pth_map (R' := sF m (inF ns)) (fun u => u ^^^ x) (fun u v => fun ⟨k1, k2, k3, k4⟩ => ⟨xor_lt k1 hx, xor_lt k2 hx, by
    rw [inF_flp h hx] at k3
    exact k3, by rw [adj, xor_same]; exact k4⟩) _ _ h1
  rw [(hφ i hi).2, (hφ j hj).2, Nat.xor_assoc, Nat.xor_self, Nat.xor_zero, Nat.xor_assoc, Nat.xor_self, Nat.xor_zero] at h2
  obtain ⟨l, l1, l2, l3⟩ := pth_idx hi _ _ h2
  have := asc_one h l1 hj l2
  subst this
  exact ⟨k, l3⟩
/-- the flipped class has as many parts -/
theorem cm_flip {m x : Nat} {ns : List Nat} {F F' : Nat → Bool} (h : Cls m ns) (hx : x < 2 ^ m) (hF : Fst ns F) (hF' : Fst (flp x ns) F') : cmTo F' (flp x ns).length = cmTo F ns.length := by
  have h1 := cm_flip_le h hx hF hF'
  have h2 := cm_flip_le (F := F') (F' := F) (flp_cls h hx) hx hF' (by rw [flp_flp h hx]; exact hF)
  rw [flp_flp h hx] at h2
  omega

theorem eg_has {ns : List Nat} {a b : Nat} (hb : b < ns.length) (hab : a < b) (h : adj (ns.getD a 0) (ns.getD b 0) = true) : (((ns.getD a 0 : Nat) : Int), ((ns.getD b 0 : Nat) : Int)) ∈ egTo ns ns.length := by
  rw [egTo, List.mem_flatMap]
  refine ⟨a, List.mem_range.2 (by omega), ?_⟩
  rw [egIn, List.mem_map]
  exact ⟨b, List.mem_filter.2 ⟨List.mem_range.2 hb, by rw [h, decide_eq_true hab]; rfl⟩, rfl⟩
/-- parts and edges together are at least as many as the sets -/
theorem cm_edges {m : Nat} {ns : List Nat} {F : Nat → Bool} (h : Cls m ns) (hF : Fst ns F) : ns.length ≤ cmTo F ns.length + (egTo ns ns.length).length := by
  have hex : ∀ i, ∃ q : Nat × Nat, F q.1 = true ∧ Rch ns i q.1 ∧ (i < ns.length → q.1 < ns.length ∧ Pth (nR ns) q.1 q.2 i ∧ ∀ l, Pth (nR ns) q.1 l i → q.2 ≤ l) := by
    intro i
    obtain ⟨r, r1, r2, r3⟩ := fst_at hF i
    by_cases hi : i < ns.length
    · obtain ⟨k, hk⟩ := r3.turn hi
      obtain ⟨l, l1, l2⟩ := least_of (fun k => Pth (nR ns) r k i) k hk
      exact ⟨(r, l), r2, r3, fun _ => ⟨by show r < _; omega, l1, l2⟩⟩
    · exact ⟨(r, 0), r2, r3, fun k => absurd k hi⟩
  obtain ⟨q, hq⟩ := Classical.axiomOfChoice hex
  have hpar : ∀ i, ∃ v, i < ns.length → F i = false → v < ns.length ∧ adj (ns.getD v 0) (ns.getD i 0) = true ∧ (q v).2 + 1 = (q i).2 := by
    intro i
    by_cases hi : i < ns.length
    · by_cases hf : F i = false
      · obtain ⟨a1, a2, a3⟩ := hq i
        obtain ⟨b0, b1, b2⟩ := a3 hi
        generalize hk : (q i).2 = k at *
        cases k with
        | zero =>
          have : i = (q i).1 := b1
          rw [← this, hf] at a1
          cases a1
        | succ k =>
          obtain ⟨v, v1, v2⟩ := b1
          have hv := (pth_turn b0 k v v1).1
          obtain ⟨c1, c2, c3⟩ := hq v
          obtain ⟨d0, d1, d2⟩ := c3 hv
          have hvi : Rch ns v i := ⟨1, v, rfl, v2⟩
          have hroot : (q v).1 = (q i).1 := fst_uniq hF c1 a1 (((c2.turn hv).trans hvi).trans a2) (((a2.turn hi).trans (hvi.turn hv)).trans c2)
          rw [hroot] at d1 d2
          have e1 := d2 k v1
          have e2 := b2 ((q v).2 + 1) ⟨v, d1, v2⟩
          exact ⟨v, fun _ _ => ⟨hv, v2.2, by omega⟩⟩
      · exact ⟨0, fun _ k => absurd k hf⟩
    · exact ⟨0, fun k => absurd k hi⟩
  obtain ⟨π, hπ⟩ := Classical.axiomOfChoice hpar
  have hcount := List.length_eq_countP_add_countP F (l := List.range ns.length)
  rw [List.length_range] at hcount
  have hsub : ((List.range ns.length).filter (fun a => decide (¬ F a = true))).length ≤ (egTo ns ns.length).length := by
    have e1 : (((List.range ns.length).filter (fun a => decide (¬ F a = true))).map (fun i => if i < π i then (((ns.getD i 0 : Nat) : Int), ((ns.getD (π i) 0 : Nat) : Int)) else (((ns.getD (π i) 0 : Nat) : Int), ((ns.getD i 0 : Nat) : Int)))).length = ((List.range ns.length).filter (fun a => decide (¬ F a = true))).length := List.length_map _
    rw [← e1]
    have hmem : ∀ i, i ∈ (List.range ns.length).filter (fun a => decide (¬ F a = true)) → i < ns.length ∧ F i = false := fun i hi => by
      rw [List.mem_filter, List.mem_range, decide_eq_true_eq, Bool.not_eq_true] at hi
      exact hi
    apply sub_len
    · unfold List.Nodup
      rw [List.pairwise_map]
      have h0 : ((List.range ns.length).filter (fun a => decide (¬ F a = true))).Pairwise (· < ·) := List.Pairwise.filter _ List.pairwise_lt_range
      refine List.Pairwise.imp_of_mem (fun {a b} ha hb hab => ?_) h0
      obtain ⟨ha, fa⟩ := hmem a ha
      obtain ⟨hb, fb⟩ := hmem b hb
      obtain ⟨a1, a2, a3⟩ := hπ a ha fa
      obtain ⟨b1, b2, b3⟩ := hπ b hb fb
      intro e
      have inj : ∀ {i j : Nat}, i < ns.length → j < ns.length → ((ns.getD i 0 : Nat) : Int) = ((ns.getD j 0 : Nat) : Int) → i = j := fun hi hj e => asc_one h hi hj (Int.ofNat_inj.1 e)
      split at e <;> split at e <;> rw [Prod.mk.injEq] at e
      · have := inj ha hb e.1; omega
      · have e1 := inj ha b1 e.1
        have e2 := inj a1 hb e.2
        rw [e2] at a3
        rw [← e1] at b3
        omega
      · have e1 := inj a1 hb e.1
        have e2 := inj ha b1 e.2
        rw [e1] at a3
        rw [← e2] at b3
        omega
      · have := inj ha hb e.2; omega
    · intro x hx
      rw [List.mem_map] at hx
      obtain ⟨i, hi, rfl⟩ := hx
      obtain ⟨hi, fi⟩ := hmem i hi
      obtain ⟨a1, a2, a3⟩ := hπ i hi fi
      split
      · rename_i hlt
        exact eg_has a1 hlt (by rw [adj_turn]; exact a2)
      · rename_i hlt
        have hne : π i ≠ i := fun e => by rw [e] at a3; omega
        exact eg_has hi (by omega) a2
  rw [← List.countP_eq_length_filter] at hsub
  rw [cmTo]
  omega

end Go.Proofs.Ytgldckgecoijfaa
