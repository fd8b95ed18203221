/- The mathematics of FnLittlestoneOf and FnMembershipDepth: trees of mistakes and of questions, and numbers of sets. Conditions: the class is valid. -/
import Derived.Test.YthmipnflbiclbaaDoorDisM
import Derived.Test.YthmipnflbiclbaaDoorFqM
import Derived.Test.YthmipnflbiclbaaDoorMstM
import Derived.Test.YthmipnflbiclbaaDoorPaj4
namespace Go.Proofs.YthmipnflbiclbaaDoor
open Go.RowKit

theorem parts_len (x : Nat) (l : List Nat) : (wth x l).length + (wto x l).length = l.length := by
  induction l with
  | nil => rfl
  | cons t l ih => by_cases e : hasX x t = true <;> simp [wth, wto, e] at ih ⊢ <;> omega
theorem mst_nn {l : List Nat} (h : l ≠ []) : 0 ≤ mst l := by
  rw [mst, if_neg h]
  exact (dep_bdLo 32 l).1
theorem hasX_xor {x s t : Nat} (hx : x < 5) (hs : s < 32) (ht : t < 32) : hasX x (t ^^^ s) = (hasX x t ^^ hasX x s) := by
  have key : ∀ x : Fin 5, ∀ s : Fin 32, ∀ t : Fin 32, hasX (x : Nat) ((t : Nat) ^^^ (s : Nat)) = (hasX (x : Nat) (t : Nat) ^^ hasX (x : Nat) (s : Nat)) := by decide +kernel
  exact key ⟨x, hx⟩ ⟨s, hs⟩ ⟨t, ht⟩
/-- more sets, turned round at the points of s, are no fewer mistakes -/
theorem mst_le_of {s : Nat} (hs : s < 32) : ∀ (N : Nat) (a b : List Nat), a.length ≤ N → a.length ≤ 32 → b.length ≤ 32 → (∀ t ∈ a, t < 32) → (∀ t ∈ a, t ^^^ s ∈ b) → mst a ≤ mst b := by
  intro N
  induction N with
  | zero =>
    intro a b hN _ _ _ _
    have h0 : a = [] := List.length_eq_zero_iff.1 (by omega)
    rw [h0, mst_nil]
    exact (mst_top b).1
  | succ N ih =>
    intro a b hN ha hb h32 hab
    by_cases h0 : a = []
    · rw [h0, mst_nil]
      exact (mst_top b).1
    · obtain ⟨t0, ht0⟩ := List.exists_mem_of_ne_nil _ h0
      have hb0 : b ≠ [] := ne_of_mem (hab t0 ht0)
      by_cases hp : 0 < mst a
      · rw [mst_to h0] at hp ⊢
        obtain ⟨x, hx, h1, h2, h3⟩ := mst_att 5 hp
        rw [h3, ← (mst_part ha h1 h2).1, ← (mst_part ha h1 h2).2]
        have hl := split_len x a h1 h2
        have hfl : (wth x b).length ≤ b.length := List.length_filter_le _ _
        have hfo : (wto x b).length ≤ b.length := List.length_filter_le _ _
        have m1 : ∀ t ∈ wth x a, t < 32 := fun t ht => h32 t (wth_mem.1 ht).1
        have m2 : ∀ t ∈ wto x a, t < 32 := fun t ht => h32 t (wto_mem.1 ht).1
        cases hxs : hasX x s with
        | false =>
          have s1 : ∀ t ∈ wth x a, t ^^^ s ∈ wth x b := fun t ht => wth_mem.2 ⟨hab t (wth_mem.1 ht).1, by rw [hasX_xor hx hs (m1 t ht), (wth_mem.1 ht).2, hxs]; rfl⟩
          have s2 : ∀ t ∈ wto x a, t ^^^ s ∈ wto x b := fun t ht => wto_mem.2 ⟨hab t (wto_mem.1 ht).1, by rw [hasX_xor hx hs (m2 t ht), (wto_mem.1 ht).2, hxs]; rfl⟩
          obtain ⟨u1, hu1⟩ := List.exists_mem_of_ne_nil _ h1
          obtain ⟨u2, hu2⟩ := List.exists_mem_of_ne_nil _ h2
          have i1 := ih (wth x a) (wth x b) (by omega) (by omega) (by omega) m1 s1
          have i2 := ih (wto x a) (wto x b) (by omega) (by omega) (by omega) m2 s2
          have := mst_max hx hb (ne_of_mem (s1 u1 hu1)) (ne_of_mem (s2 u2 hu2))
          omega
        | true =>
          have s1 : ∀ t ∈ wth x a, t ^^^ s ∈ wto x b := fun t ht => wto_mem.2 ⟨hab t (wth_mem.1 ht).1, by rw [hasX_xor hx hs (m1 t ht), (wth_mem.1 ht).2, hxs]; rfl⟩
          have s2 : ∀ t ∈ wto x a, t ^^^ s ∈ wth x b := fun t ht => wth_mem.2 ⟨hab t (wto_mem.1 ht).1, by rw [hasX_xor hx hs (m2 t ht), (wto_mem.1 ht).2, hxs]; rfl⟩
          obtain ⟨u1, hu1⟩ := List.exists_mem_of_ne_nil _ h1
          obtain ⟨u2, hu2⟩ := List.exists_mem_of_ne_nil _ h2
          have i1 := ih (wth x a) (wto x b) (by omega) (by omega) (by omega) m1 s1
          have i2 := ih (wto x a) (wth x b) (by omega) (by omega) (by omega) m2 s2
          have := mst_max hx hb (ne_of_mem (s2 u2 hu2)) (ne_of_mem (s1 u1 hu1))
          omega
      · have := mst_nn hb0
        omega
theorem mst_sub {a b : List Nat} (ha : a.length ≤ 32) (hb : b.length ≤ 32) (h32 : ∀ t ∈ a, t < 32) (hab : ∀ t ∈ a, t ∈ b) : mst a ≤ mst b :=
  mst_le_of (s := 0) (by omega) a.length a b (Nat.le_refl _) ha hb h32 (fun t ht => by rw [Nat.xor_zero]; exact hab t ht)
theorem mst_pow : ∀ (N : Nat) (l : List Nat), l.length ≤ N → l.length ≤ 32 → l ≠ [] → 2 ^ (mst l).toNat ≤ l.length := by
  intro N
  induction N with
  | zero =>
    intro l hN _ h0
    exact absurd (List.length_eq_zero_iff.1 (by omega)) h0
  | succ N ih =>
    intro l hN hl h0
    have hpos := List.length_pos_iff.2 h0
    by_cases hp : 0 < mst l
    · have hp' := hp
      rw [mst_to h0] at hp'
      obtain ⟨x, hx, h1, h2, h3⟩ := mst_att 5 hp'
      rw [← mst_to h0, ← (mst_part hl h1 h2).1, ← (mst_part hl h1 h2).2] at h3
      have hs := split_len x l h1 h2
      have i1 := ih (wth x l) (by omega) (by omega) h1
      have i2 := ih (wto x l) (by omega) (by omega) h2
      have n1 := mst_nn h1
      have n2 := mst_nn h2
      have hlen := parts_len x l
      have e : (mst l).toNat = min (mst (wth x l)).toNat (mst (wto x l)).toNat + 1 := by omega
      rw [e, Nat.pow_succ]
      have j1 : 2 ^ min (mst (wth x l)).toNat (mst (wto x l)).toNat ≤ 2 ^ (mst (wth x l)).toNat := Nat.pow_le_pow_right (by omega) (Nat.min_le_left _ _)
      have j2 : 2 ^ min (mst (wth x l)).toNat (mst (wto x l)).toNat ≤ 2 ^ (mst (wto x l)).toNat := Nat.pow_le_pow_right (by omega) (Nat.min_le_right _ _)
      omega
    · rw [show (mst l).toNat = 0 by omega, Nat.pow_zero]
      exact hpos
theorem lit_pow {l : List Nat} (hl : l.length ≤ 32) (h : l ≠ []) : 2 ^ (mst l).toNat ≤ l.length := mst_pow l.length l (Nat.le_refl _) hl h
theorem lit_one {m : Nat} {ns : List Nat} (h : Cls m ns) (h0 : ns ≠ []) : mst ns = 0 ↔ ns.length = 1 := by
  have hpos := List.length_pos_iff.2 h0
  have hn := mst_nn h0
  have hp := lit_pow h.length h0
  constructor
  · intro e
    rw [← Nat.not_lt_eq] at *
    by_cases h2 : 2 ≤ ns.length
    · exfalso
      obtain ⟨x, hx, h1, h3⟩ := split_ex h.lt32 h.asc h2
      have := mst_max hx h.length h1 h3
      have := mst_nn h1
      have := mst_nn h3
      omega
    · omega
  · intro e
    by_cases h1 : 1 ≤ (mst ns).toNat
    · have : 2 ^ 1 ≤ 2 ^ (mst ns).toNat := Nat.pow_le_pow_right (by omega) h1
      omega
    · omega
theorem lit_last {m : Nat} {ns : List Nat} (h : Cls m ns) (k : Nat) : mst (ns.take k) ≤ mst ns := by
  have hl := h.length
  have : (ns.take k).length ≤ ns.length := by rw [List.length_take]; omega
  exact mst_sub (by omega) hl (fun t ht => h.lt32 t (List.mem_of_mem_take ht)) (fun t ht => List.mem_of_mem_take ht)
theorem bitOut {x s : Nat} (hx : x < 5) (hs : s < 32) (h : hasX x s = true) : s - 2 ^ x < s ∧ pc s = pc (s - 2 ^ x) + 1 ∧ ∀ p, p < 32 → p &&& (s - 2 ^ x) = p → (hasX x p = false ∧ p &&& s = p ∧ (p + 2 ^ x < 32 ∧ (p + 2 ^ x) &&& s = p + 2 ^ x)) := by
  have key : ∀ x : Fin 5, ∀ s : Fin 32, hasX (x : Nat) (s : Nat) = true → (s : Nat) - 2 ^ (x : Nat) < (s : Nat) ∧ pc s = pc ((s : Nat) - 2 ^ (x : Nat)) + 1 ∧ ∀ p : Fin 32, (p : Nat) &&& ((s : Nat) - 2 ^ (x : Nat)) = (p : Nat) → (hasX (x : Nat) (p : Nat) = false ∧ (p : Nat) &&& (s : Nat) = (p : Nat) ∧ ((p : Nat) + 2 ^ (x : Nat) < 32 ∧ ((p : Nat) + 2 ^ (x : Nat)) &&& (s : Nat) = (p : Nat) + 2 ^ (x : Nat))) := by decide +kernel
  have h1 := key ⟨x, hx⟩ ⟨s, hs⟩ h
  exact ⟨h1.1, h1.2.1, fun p hp => h1.2.2 ⟨p, hp⟩⟩
theorem bit_in {x s u p : Nat} (hx : x < 5) (hs : s < 32) (hu : u < 32) (h : hasX x s = true) (hp : u &&& s = p) : hasX x u = hasX x p ∧ u &&& (s - 2 ^ x) = if hasX x p = true then p - 2 ^ x else p := by
  have key : ∀ x : Fin 5, ∀ s : Fin 32, ∀ u : Fin 32, hasX (x : Nat) (s : Nat) = true → hasX (x : Nat) (u : Nat) = hasX (x : Nat) ((u : Nat) &&& (s : Nat)) ∧ (u : Nat) &&& ((s : Nat) - 2 ^ (x : Nat)) = if hasX (x : Nat) ((u : Nat) &&& (s : Nat)) = true then ((u : Nat) &&& (s : Nat)) - 2 ^ (x : Nat) else (u : Nat) &&& (s : Nat) := by decide +kernel
  rw [← hp]
  exact key ⟨x, hx⟩ ⟨s, hs⟩ ⟨u, hu⟩ h
theorem bit_add {x p s : Nat} (hx : x < 5) (hp : p < 32) (hs : s < 32) (h : hasX x s = true) (hps : p &&& (s - 2 ^ x) = p) : hasX x (p + 2 ^ x) = true := by
  have key : ∀ x : Fin 5, ∀ p : Fin 32, ∀ s : Fin 32, hasX (x : Nat) (s : Nat) = true → (p : Nat) &&& ((s : Nat) - 2 ^ (x : Nat)) = (p : Nat) → hasX (x : Nat) ((p : Nat) + 2 ^ (x : Nat)) = true := by decide +kernel
  exact key ⟨x, hx⟩ ⟨p, hp⟩ ⟨s, hs⟩ h hps
theorem bit_ex {s : Nat} (hs : s < 32) (h : s ≠ 0) : ∃ x, x < 5 ∧ hasX x s = true := by
  have key : ∀ s : Fin 32, (s : Nat) ≠ 0 → ∃ x : Fin 5, hasX (x : Nat) (s : Nat) = true := by decide +kernel
  obtain ⟨x, hx⟩ := key ⟨s, hs⟩ h
  exact ⟨x, x.2, hx⟩
/-- a set that is shattered is as many mistakes as it has points -/
theorem sht_mst {m : Nat} (hm : m ≤ 5) : ∀ (N s : Nat) (ns : List Nat), s < N → Cls m ns → s < 2 ^ m → sht ns s = true → (pc s : Int) ≤ mst ns := by
  intro N
  induction N with
  | zero => intro s _ h; omega
  | succ N ih =>
    intro s ns hN hc hs hh
    have h32 := pow_le_32 hm
    have hne : ns ≠ [] := by
      rintro rfl
      rw [sht_none] at hh
      cases hh
    by_cases h0 : s = 0
    · subst h0
      have := mst_nn hne
      simpa [pc] using this
    · obtain ⟨x, hx, hxs⟩ := bit_ex (by omega) h0
      have hb := bitOut hx (by omega) hxs
      have hs' : s - 2 ^ x < 2 ^ m := by omega
      have hcw : Cls m (wth x ns) := cls_filter hc _
      have hco : Cls m (wto x ns) := cls_filter hc _
      rw [sht_sh hc hs, shF_iff hm _ hs] at hh
      have s1 : sht (wth x ns) (s - 2 ^ x) = true := by
        rw [sht_sh hcw hs', shF_iff hm _ hs']
        intro p hp hps
        have hq := hb.2.2 p (by omega) hps
        have hlt : p + 2 ^ x < 2 ^ m := by
          have h9 : (p + 2 ^ x) &&& s ≤ s := Nat.and_le_right
          rw [hq.2.2.2] at h9
          omega
        obtain ⟨u, hu, hf, he⟩ := hh (p + 2 ^ x) hlt hq.2.2.2
        have hbi := bit_in hx (by omega) (by omega) hxs he
        have ht := bit_add hx (by omega) (by omega) hxs hps
        rw [ht] at hbi
        have hu2 : u ∈ ns := by simpa [inF] using hf
        refine ⟨u, hu, by simpa [inF] using wth_mem.2 ⟨hu2, hbi.1⟩, ?_⟩
        rw [hbi.2, if_pos rfl]
        omega
      have s2 : sht (wto x ns) (s - 2 ^ x) = true := by
        rw [sht_sh hco hs', shF_iff hm _ hs']
        intro p hp hps
        have hq := hb.2.2 p (by omega) hps
        obtain ⟨u, hu, hf, he⟩ := hh p hp hq.2.1
        have hbi := bit_in hx (by omega) (by omega) hxs he
        rw [hq.1] at hbi
        have hu2 : u ∈ ns := by simpa [inF] using hf
        refine ⟨u, hu, by simpa [inF] using wto_mem.2 ⟨hu2, hbi.1⟩, ?_⟩
        rw [hbi.2, if_neg (by simp)]
      have i1 := ih _ _ (by omega) hcw hs' s1
      have i2 := ih _ _ (by omega) hco hs' s2
      have n1 : wth x ns ≠ [] := by
        intro e
        rw [e, sht_none] at s1
        cases s1
      have n2 : wto x ns ≠ [] := by
        intro e
        rw [e, sht_none] at s2
        cases s2
      have := mst_max hx hc.length n1 n2
      rw [hb.2.1]
      omega
theorem vc_lit {m : Nat} {ns : List Nat} (h : Cls m ns) : vcL m ns ≤ mst ns := by
  rcases widL_at ((List.range (2 ^ m)).filter (sht ns)) with e | ⟨s, hs, e⟩
  · rw [vcL, e]
    exact (mst_top ns).1
  · rw [vcL, e]
    have := List.mem_filter.1 hs
    exact sht_mst h.pts (s + 1) s ns (by omega) h (List.mem_range.1 this.1) this.2

end Go.Proofs.YthmipnflbiclbaaDoor
