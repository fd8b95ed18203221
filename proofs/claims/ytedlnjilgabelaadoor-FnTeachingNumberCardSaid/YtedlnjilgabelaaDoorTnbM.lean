/- Teaching a set takes a point for each of its neighbours, and no more points than there are others. No program. -/
import Derived.Test.YtedlnjilgabelaaDoorZP
import Derived.Test.YtedlnjilgabelaaDoorZQ
namespace Go.Proofs.YtedlnjilgabelaaDoor
open Go.RowKit

theorem tch_told {t s : Nat} {l : List Nat} (has : l.Pairwise (· < ·)) : tch t s l = true ↔ t ∈ l ∧ ∀ u ∈ l, u &&& s = t &&& s → u = t := by
  rw [tch, beq_iff_eq]
  constructor
  · intro e
    have ht : t ∈ agr t s l := by rw [e]; simp
    refine ⟨agr_sub ht, fun u hu hus => ?_⟩
    have : u ∈ agr t s l := List.mem_filter.2 ⟨hu, by simpa using hus⟩
    rw [e] at this
    simpa using this
  · rintro ⟨ht, hu⟩
    have hp : (agr t s l).Pairwise (· < ·) := has.filter _
    have hall : ∀ u ∈ agr t s l, u = t := fun u h => hu u (agr_sub h) (by simpa using (List.mem_filter.1 h).2)
    have hm : t ∈ agr t s l := mem_agr ht
    generalize agr t s l = g at *
    match g, hp, hall, hm with
    | [], _, _, hm => cases hm
    | [a], _, hall, _ => rw [hall a (by simp)]
    | a :: b :: g, hp, hall, _ =>
      exfalso
      have h1 := hall a (by simp)
      have h2 := hall b (by simp)
      have := List.rel_of_pairwise_cons hp (a' := b) (by simp)
      omega
/-- the edges at u among the first j of es -/
def nTo (es : List (Int × Int)) (u : Int) (j : Nat) : Nat := (es.take j).countP (fun e => (e.1 == u) || (e.2 == u))
theorem nTo_succ {es : List (Int × Int)} {u : Int} {j : Nat} (h : j < es.length) : nTo es u (j + 1) = nTo es u j + if ((es.getD j (0, 0)).1 == u || (es.getD j (0, 0)).2 == u) = true then 1 else 0 := by
  rw [nTo, List.take_succ_eq_append_getElem h, List.countP_append, List.getD_eq_getElem?_getD, List.getElem?_eq_getElem h, Option.getD_some, List.countP_cons, List.countP_nil, Nat.zero_add]
  rfl
theorem sum_one (n a C : Nat) (g h : Nat → Nat) (hg : ∀ i, i < n → i ≠ a → h i ≤ g i) (ha : h a ≤ C) : ((List.range n).map h).sum ≤ (if a < n then C else 0) + ((List.range n).map g).sum := by
  induction n with
  | zero => simp
  | succ n ih =>
    have h1 := ih (fun i hi => hg i (by omega))
    simp only [List.range_succ, List.map_append, List.sum_append, List.map_cons, List.map_nil, List.sum_cons, List.sum_nil]
    by_cases e : n = a
    · subst e
      rw [if_neg (Nat.lt_irrefl n)] at h1
      rw [if_pos (Nat.lt_succ_self n)]
      omega
    · have h2 := hg n (by omega) e
      by_cases h3 : a < n
      · rw [if_pos h3] at h1; rw [if_pos (by omega)]; omega
      · rw [if_neg h3] at h1; rw [if_neg (by omega)]; omega
theorem adj_comm (a b : Nat) : adj a b = adj b a := by rw [adj, adj, Nat.xor_comm]
theorem one_most {l : List Nat} (hd : l.Nodup) (a : Nat) (p : Nat → Bool) (hp : ∀ j ∈ l, p j = true → j = a) : l.countP p ≤ 1 := by
  induction l with
  | nil => simp
  | cons b l ih =>
    have h1 := ih (List.nodup_cons.1 hd).2 (fun j hj => hp j (List.mem_cons_of_mem _ hj))
    rw [List.countP_cons]
    by_cases hb : p b = true
    · rw [if_pos hb]
      have hba := hp b List.mem_cons_self hb
      have : l.countP p = 0 := by
        rw [List.countP_eq_zero]
        intro j hj hpj
        have := hp j (List.mem_cons_of_mem _ hj) hpj
        exact (List.nodup_cons.1 hd).1 (by rw [hba, ← this]; exact hj)
      omega
    · rw [if_neg hb]; omega
theorem idx_of {l : List Nat} {u : Nat} (h : u ∈ l) : ∃ i, i < l.length ∧ l.getD i 0 = u := by
  obtain ⟨i, hi, e⟩ := List.getElem_of_mem h
  exact ⟨i, hi, by rw [List.getD_eq_getElem?_getD, List.getElem?_eq_getElem hi]; exact e⟩
theorem asc_inj {m : Nat} {ns : List Nat} (h : Cls m ns) {i j : Nat} (hi : i < ns.length) (hj : j < ns.length) (e : ns.getD i 0 = ns.getD j 0) : i = j := by
  rw [List.getD_eq_getElem?_getD, List.getD_eq_getElem?_getD, List.getElem?_eq_getElem hi, List.getElem?_eq_getElem hj, Option.getD_some, Option.getD_some] at e
  have h1 := List.pairwise_iff_getElem.1 h.asc
  rcases Nat.lt_trichotomy i j with h2 | h2 | h2
  · have := h1 i j hi hj h2; omega
  · exact h2
  · have := h1 j i hj hi h2; omega
/-- the edges at u are at most its neighbours -/
theorem eg_at {m : Nat} {ns : List Nat} (h : Cls m ns) {u : Nat} (hu : u ∈ ns) : nTo (egTo ns ns.length) (u : Int) (egTo ns ns.length).length ≤ ns.countP (fun v => adj u v) := by
  obtain ⟨a, ha, hau⟩ := idx_of hu
  rw [nTo, List.take_length, egTo, List.countP_flatMap]
  have hcnt : ns.countP (fun v => adj u v) = (List.range ns.length).countP (fun j => adj u (ns.getD j 0)) := by
    have h8 := congrArg (List.countP (fun v => adj u v)) (range_getD ns)
    rw [List.countP_map] at h8
    rw [← h8]
    rfl
  have hle := sum_one ns.length a ((List.range ns.length).countP (fun j => decide (a < j) && adj u (ns.getD j 0))) (fun i => if (decide (i < a) && adj u (ns.getD i 0)) = true then 1 else 0) (fun i => (egIn ns i ns.length).countP (fun e => (e.1 == (u : Int)) || (e.2 == (u : Int)))) (fun i hi hne => by
    rw [egIn, List.countP_map, List.countP_filter]
    have hnu : ns.getD i 0 ≠ u := fun e => hne (asc_inj h hi ha (e.trans hau.symm))
    have hq : ∀ j ∈ List.range ns.length, (((fun e : Int × Int => (e.1 == (u : Int)) || (e.2 == (u : Int))) ∘ fun j => (((ns.getD i 0 : Nat) : Int), ((ns.getD j 0 : Nat) : Int))) j && (decide (i < j) && adj (ns.getD i 0) (ns.getD j 0))) = true → j = a ∧ i < a ∧ adj u (ns.getD i 0) = true := by
      intro j hj hh
      rw [List.mem_range] at hj
      simp only [Function.comp_apply, Bool.and_eq_true, Bool.or_eq_true, beq_iff_eq, decide_eq_true_eq] at hh
      obtain ⟨h1, h2, h3⟩ := hh
      rcases h1 with h1 | h1
      · exact absurd (Int.ofNat_inj.1 h1) hnu
      · have ej : ns.getD j 0 = u := Int.ofNat_inj.1 h1
        have := asc_inj h hj ha (ej.trans hau.symm)
        subst this
        rw [ej] at h3
        exact ⟨rfl, h2, by rw [adj_comm]; exact h3⟩
    by_cases hc : (decide (i < a) && adj u (ns.getD i 0)) = true
    · rw [if_pos hc]
      exact one_most List.nodup_range a _ (fun j hj hh => (hq j hj hh).1)
    · rw [if_neg hc, Nat.le_zero, List.countP_eq_zero]
      intro j hj hh
      obtain ⟨_, h2, h3⟩ := hq j hj hh
      exact hc (by rw [h3, decide_eq_true h2]; rfl)) (by
    rw [egIn, List.countP_map, List.countP_filter, hau]
    apply List.countP_mono_left
    intro j _ hh
    rw [Bool.and_eq_true] at hh
    exact hh.2)
  refine Nat.le_trans hle ?_
  rw [if_pos ha, sum_if, hcnt]
  generalize List.range ns.length = R
  clear hle hcnt
  induction R with
  | nil => simp
  | cons j R ih =>
    simp only [List.countP_cons]
    have h3 : (if (decide (a < j) && adj u (ns.getD j 0)) = true then 1 else 0) + (if (decide (j < a) && adj u (ns.getD j 0)) = true then 1 else 0) ≤ (if adj u (ns.getD j 0) = true then 1 else 0) := by
      cases adj u (ns.getD j 0) with
      | false => simp
      | true =>
        by_cases h2 : a < j
        · simp [h2, show ¬ j < a by omega]
        · simp only [h2, decide_false, Bool.false_eq_true, ↓reduceIte, Bool.and_true]
          split <;> omega
    omega
theorem bits_at : ∀ m : Fin 6, ∀ s : Fin 32, cnt m.1 (fun w => (pc w == 1) && !(w &&& s.1 == 0)) ≤ pc s.1 := by decide +kernel
theorem cnt_turn {n : Nat} (hn : n ≤ 5) (f : Nat → Bool) {x : Nat} (hx : x < 2 ^ n) : cnt n (xorF x f) = cnt n f := by
  induction n generalizing f x with
  | zero =>
    obtain rfl : x = 0 := by simp at hx; omega
    simp [cnt, xorF]
  | succ n ih =>
    obtain ⟨y, hy, ⟨h1, h2⟩ | ⟨h1, h2⟩⟩ := flip_parts (by omega) f hx
    · rw [cnt, cnt, cnt_congr h1, cnt_congr h2, ih (by omega) f hy, ih (by omega) (up n f) hy]
    · rw [cnt, cnt, cnt_congr h1, cnt_congr h2, ih (by omega) f hy, ih (by omega) (up n f) hy]
      omega
theorem tell_and : ∀ a b s : Fin 32, (a.1 ^^^ b.1) &&& s.1 = 0 → a.1 &&& s.1 = b.1 &&& s.1 := by decide +kernel
/-- teaching takes a point for each neighbour -/
theorem tn_edges {m : Nat} {ns : List Nat} (h : Cls m ns) {u : Nat} (hu : u ∈ ns) : ns.countP (fun v => adj u v) ≤ pc (ftN m u ns) := by
  obtain ⟨-, -, hs, ht⟩ := ft_eq h hu
  have hm := h.pts
  have h32 := pow_le_32 hm
  have hu32 := h.lt u hu
  have h1 := ((tch_told h.asc).1 ht).2
  rw [many_cnt h]
  refine Nat.le_trans ?_ (bits_at ⟨m, by omega⟩ ⟨ftN m u ns, by omega⟩)
  refine Nat.le_trans (cnt_mono (g := xorF u (fun w => (pc w == 1) && !(w &&& ftN m u ns == 0))) (fun v hv hh => ?_)) (Nat.le_of_eq (cnt_turn hm _ hu32))
  rw [Bool.and_eq_true, inF, decide_eq_true_eq, adj] at hh
  have hp : pc (v ^^^ u) = 1 := by rw [Nat.xor_comm]; exact of_decide_eq_true (by simpa using hh.2)
  simp only [xorF, hp, beq_self_eq_true, Bool.true_and, Bool.not_eq_true', beq_eq_false_iff_ne]
  intro h0
  have h2 := tell_and ⟨v, by omega⟩ ⟨u, by omega⟩ ⟨ftN m u ns, by omega⟩ h0
  have h3 := h1 v hh.1 h2
  rw [h3, Nat.xor_self] at hp
  exact absurd hp (by decide)
theorem pc_or1 : ∀ s : Fin 32, ∀ y : Fin 5, pc (s.1 ||| 2 ^ y.1) ≤ pc s.1 + 1 := by decide +kernel
theorem tell_or : ∀ v u s : Fin 32, ∀ y : Fin 5, v.1 &&& (s.1 ||| 2 ^ y.1) = u.1 &&& (s.1 ||| 2 ^ y.1) → v.1 &&& s.1 = u.1 &&& s.1 ∧ (v.1 ^^^ u.1) &&& 2 ^ y.1 = 0 := by decide +kernel
theorem tell_bit : ∀ m : Fin 6, ∀ v u : Fin 32, v.1 < 2 ^ m.1 → u.1 < 2 ^ m.1 → v.1 ≠ u.1 → (List.range m.1).any (fun y => !((v.1 ^^^ u.1) &&& 2 ^ y == 0)) = true := by decide +kernel
theorem or_lt {m s y : Nat} (hs : s < 2 ^ m) (hy : y < m) : s ||| 2 ^ y < 2 ^ m := Nat.or_lt_two_pow hs (Nat.pow_lt_pow_right (by omega) hy)
/-- others are told apart by one point each -/
theorem tell_all {m : Nat} (hm : m ≤ 5) {u : Nat} (hu : u < 2 ^ m) : ∀ l : List Nat, (∀ v ∈ l, v < 2 ^ m ∧ v ≠ u) → ∃ s, s < 2 ^ m ∧ pc s ≤ l.length ∧ ∀ v ∈ l, v &&& s ≠ u &&& s := by
  have h32 := pow_le_32 hm
  intro l
  induction l with
  | nil => exact fun _ => ⟨0, Nat.two_pow_pos m, by decide, fun v hv => by cases hv⟩
  | cons v l ih =>
    intro hl
    obtain ⟨s, hs, hp, ht⟩ := ih (fun w hw => hl w (List.mem_cons_of_mem _ hw))
    obtain ⟨hv, hne⟩ := hl v List.mem_cons_self
    have hb := tell_bit ⟨m, by omega⟩ ⟨v, by omega⟩ ⟨u, by omega⟩ hv hu hne
    rw [List.any_eq_true] at hb
    obtain ⟨y, hy, hb⟩ := hb
    rw [List.mem_range] at hy
    dsimp only at hy hb
    refine ⟨s ||| 2 ^ y, or_lt hs hy, ?_, fun w hw e => ?_⟩
    · have := pc_or1 ⟨s, by omega⟩ ⟨y, by omega⟩
      rw [List.length_cons]
      dsimp only at this
      omega
    · have hw32 : w < 32 := by
        rcases List.mem_cons.1 hw with k | k
        · rw [k]; omega
        · have := (hl w (List.mem_cons_of_mem _ k)).1; omega
      have k2 := tell_or ⟨w, hw32⟩ ⟨u, by omega⟩ ⟨s, by omega⟩ ⟨y, by omega⟩ e
      dsimp only at k2
      rcases List.mem_cons.1 hw with k | k
      · rw [k] at k2
        rw [k2.2] at hb
        simp at hb
      · exact ht w k k2.1
theorem tn_few {m : Nat} {ns : List Nat} (h : Cls m ns) {u : Nat} (hu : u ∈ ns) : pc (ftN m u ns) + 1 ≤ ns.length := by
  have hm := h.pts
  have hnd : ns.Nodup := h.asc.imp (fun h => Nat.ne_of_lt h)
  obtain ⟨s, hs, hp, ht⟩ := tell_all hm (h.lt u hu) (ns.erase u) (fun v hv => ⟨h.lt v (List.mem_of_mem_erase hv), fun e => by
    rw [e] at hv
    exact (List.Nodup.not_mem_erase hnd) hv⟩)
  have htc : tch u s ns = true := (tch_told h.asc).2 ⟨hu, fun v hv e => by
    by_cases hvu : v = u
    · exact hvu
    · exact absurd e (ht v ((List.mem_erase_of_ne hvu).2 hv))⟩
  have h1 := (bstN_spec (fun s => tch u s ns) (2 ^ m - 1) (2 ^ m)).2 s hs htc
  have h2 : pc (ftN m u ns) ≤ pc s := h1
  rw [List.length_erase_of_mem hu] at hp
  have := List.length_pos_of_mem hu
  omega

end Go.Proofs.YtedlnjilgabelaaDoor
