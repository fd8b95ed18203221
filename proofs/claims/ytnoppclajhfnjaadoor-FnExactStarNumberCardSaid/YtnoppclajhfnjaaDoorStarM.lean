/- Stars: others differ from one set at each point of a set, and of these at it alone: mathematics. No conditions. -/
import Derived.Test.YtnoppclajhfnjaaDoorIter
import Derived.Test.YtnoppclajhfnjaaDoorLayP
import Derived.Test.YtnoppclajhfnjaaDoorPaj4
import Derived.Test.YtnoppclajhfnjaaDoorZB
namespace Go.Proofs.YtnoppclajhfnjaaDoor
open Go.RowKit

/-- b is the greatest number for which P holds; -1 if there is none -/
def MaxOf (P : Int → Prop) (b : Int) : Prop := (b = -1 ∨ P b) ∧ ∀ z, P z → z ≤ b
theorem mx_iff {P P' : Int → Prop} {b : Int} (h : MaxOf P b) (e : ∀ z, P z ↔ P' z) : MaxOf P' b := ⟨h.1.imp id (fun k => (e b).1 k), fun z k => h.2 z ((e z).2 k)⟩
theorem mx_take {P : Int → Prop} {b c : Int} (h : MaxOf P b) (hc : b < c) : MaxOf (fun z => P z ∨ z = c) c := ⟨.inr (.inr rfl), fun z k => by
  rcases k with k | k
  · have := h.2 z k; omega
  · omega⟩
theorem mx_leave {P : Int → Prop} {b c : Int} (h : MaxOf P b) (hc : c ≤ b) : MaxOf (fun z => P z ∨ z = c) b := ⟨h.1.imp id .inl, fun z k => by
  rcases k with k | k
  · exact h.2 z k
  · omega⟩
theorem mx_one {P : Int → Prop} {b c : Int} (h0 : ∀ z, P z → 0 ≤ z) (h : MaxOf P b) (k : MaxOf P c) : b = c := by
  rcases h.1 with h1 | h1
  · rcases k.1 with k1 | k1
    · omega
    · have := h0 c k1; have := h.2 c k1; omega
  · rcases k.1 with k1 | k1
    · have := h0 b h1; have := k.2 b h1; omega
    · have := h.2 c k1; have := k.2 b h1; omega

theorem xor_shift {a b c : Nat} : a = b ^^^ c ↔ a ^^^ b = c := by
  constructor
  · rintro rfl
    rw [Nat.xor_comm, ← Nat.xor_assoc, Nat.xor_self, Nat.zero_xor]
  · rintro rfl
    rw [Nat.xor_comm a b, ← Nat.xor_assoc, Nat.xor_self, Nat.zero_xor]
theorem pow_in : ∀ s : Fin 32, ∀ y : Fin 5, hasX y.1 s.1 = true → 2 ^ y.1 &&& s.1 = 2 ^ y.1 ∧ pc (s.1 - 2 ^ y.1) < pc s.1 ∧ s.1 - 2 ^ y.1 ≤ s.1 ∧ 2 ^ y.1 ≤ s.1 := by decide +kernel
theorem one_off : ∀ d s : Fin 32, ∀ y : Fin 5, hasX y.1 s.1 = true → d.1 &&& (s.1 - 2 ^ y.1) = 0 → d.1 &&& s.1 = 0 ∨ d.1 &&& s.1 = 2 ^ y.1 := by decide +kernel
theorem and_same {u t s : Nat} : u &&& s = t &&& s ↔ (u ^^^ t) &&& s = 0 := by
  rw [Nat.and_xor_distrib_right]
  constructor
  · intro h; rw [h, Nat.xor_self]
  · intro h
    have h9 : u &&& s = (t &&& s) ^^^ 0 := xor_shift.2 h
    rw [h9, Nat.xor_zero]

/-- t is the centre of a star at the points of s -/
def cen (l : List Nat) (t s : Nat) : Prop := ∀ y, y < 5 → hasX y s = true → ∃ u ∈ l, (u ^^^ t) &&& s = 2 ^ y
/-- the program's test -/
def lacks (l : List Nat) (t s : Nat) (y : Fin 5) : Bool := decide (agr (t ^^^ 2 ^ y.val) s l = [])
def stB (l : List Nat) (t s : Nat) : Bool := !((ptF 5 s).any (lacks l t s))
def hsB (l : List Nat) (s : Nat) : Bool := l.any (fun t => stB l t s)
theorem lacks_iff {l : List Nat} {t s : Nat} {y : Fin 5} (hs : s < 32) (hy : hasX y.val s = true) : lacks l t s y = false ↔ ∃ u ∈ l, (u ^^^ t) &&& s = 2 ^ y.val := by
  have hp := (pow_in ⟨s, hs⟩ y hy).1
  dsimp only at hp
  have key : ∀ u, (u &&& s = (t ^^^ 2 ^ y.val) &&& s) ↔ (u ^^^ t) &&& s = 2 ^ y.val := fun u => by
    rw [Nat.and_xor_distrib_right, hp, xor_shift, ← Nat.and_xor_distrib_right]
  rw [lacks, decide_eq_false_iff_not, agr, List.filter_eq_nil_iff]
  constructor
  · intro h
    have h2 : ∃ u ∈ l, (u &&& s == (t ^^^ 2 ^ y.val) &&& s) = true := by
      apply Classical.byContradiction
      intro hn
      exact h (fun u hu he => hn ⟨u, hu, he⟩)
    obtain ⟨u, hu, he⟩ := h2
    exact ⟨u, hu, (key u).1 (by simpa using he)⟩
  · rintro ⟨u, hu, he⟩ h
    exact h u hu (by simpa using (key u).2 he)
theorem stB_iff {l : List Nat} {t s : Nat} (hs : s < 32) : stB l t s = true ↔ cen l t s := by
  rw [stB, Bool.not_eq_true', List.any_eq_false]
  constructor
  · intro h y hy hx
    have h2 := h ⟨y, hy⟩ (by simp [ptF, hx])
    rw [Bool.not_eq_true] at h2
    exact (lacks_iff hs hx).1 h2
  · intro h y hy
    have hx : hasX y.val s = true := by simpa [ptF] using hy
    rw [Bool.not_eq_true]
    exact (lacks_iff hs hx).2 (h y.val y.isLt hx)
theorem hsB_iff {l : List Nat} {s : Nat} (hs : s < 32) : hsB l s = true ↔ ∃ t ∈ l, cen l t s := by
  rw [hsB, List.any_eq_true]
  constructor
  · rintro ⟨t, ht, h⟩; exact ⟨t, ht, (stB_iff hs).1 h⟩
  · rintro ⟨t, ht, h⟩; exact ⟨t, ht, (stB_iff hs).2 h⟩
/-- the greatest size of a star at one of the first k sets of points -/
def staN (l : List Nat) : Nat → Int
  | 0 => -1
  | k + 1 => if hsB l k = true ∧ staN l k < (pc k : Int) then (pc k : Int) else staN l k
theorem staN_step (l : List Nat) (k : Nat) : staN l (k + 1) = if hsB l k = true ∧ staN l k < (pc k : Int) then (pc k : Int) else staN l k := rfl
theorem staN_max (l : List Nat) : ∀ k, MaxOf (fun z => ∃ s, s < k ∧ hsB l s = true ∧ z = (pc s : Int)) (staN l k) := by
  intro k
  induction k with
  | zero => exact ⟨.inl rfl, fun z ⟨s, hs, _⟩ => by omega⟩
  | succ k ih =>
    rw [staN_step]
    by_cases h : hsB l k = true
    · have e : ∀ z : Int, ((∃ s, s < k ∧ hsB l s = true ∧ z = (pc s : Int)) ∨ z = (pc k : Int)) ↔ ∃ s, s < k + 1 ∧ hsB l s = true ∧ z = (pc s : Int) := fun z => by
        constructor
        · rintro (⟨s, h1, h2, h3⟩ | h1)
          · exact ⟨s, by omega, h2, h3⟩
          · exact ⟨k, by omega, h, h1⟩
        · rintro ⟨s, h1, h2, h3⟩
          by_cases e : s = k
          · subst e; exact .inr h3
          · exact .inl ⟨s, by omega, h2, h3⟩
      by_cases hlt : staN l k < (pc k : Int)
      · rw [if_pos ⟨h, hlt⟩]; exact mx_iff (mx_take ih hlt) e
      · rw [if_neg (fun h2 => hlt h2.2)]; exact mx_iff (mx_leave ih (by omega)) e
    · rw [if_neg (fun h2 => h h2.1)]
      refine mx_iff ih (fun z => ⟨fun ⟨s, h1, h2, h3⟩ => ⟨s, by omega, h2, h3⟩, fun ⟨s, h1, h2, h3⟩ => ?_⟩)
      by_cases e : s = k
      · subst e; exact absurd h2 h
      · exact ⟨s, by omega, h2, h3⟩
/-- what StarNumber answers for a class -/
def starM (m : Nat) (l : List Nat) : Int := staN l (2 ^ m)
theorem starM_max {m : Nat} (hm : m ≤ 5) (l : List Nat) : MaxOf (fun z => ∃ s, s < 2 ^ m ∧ (∃ t ∈ l, cen l t s) ∧ z = (pc s : Int)) (starM m l) := by
  have h32 := pow_le_32 hm
  refine mx_iff (staN_max l (2 ^ m)) (fun z => ⟨fun ⟨s, h1, h2, h3⟩ => ⟨s, h1, (hsB_iff (by omega)).1 h2, h3⟩, fun ⟨s, h1, h2, h3⟩ => ⟨s, h1, (hsB_iff (by omega)).2 h2, h3⟩⟩)
theorem starM_ge {m s t : Nat} {l : List Nat} (hm : m ≤ 5) (hs : s < 2 ^ m) (ht : t ∈ l) (h : cen l t s) : (pc s : Int) ≤ starM m l := (starM_max hm l).2 _ ⟨s, hs, ⟨t, ht, h⟩, rfl⟩
theorem starM_lo {m : Nat} (hm : m ≤ 5) (l : List Nat) : -1 ≤ starM m l := by
  rcases (starM_max hm l).1 with e | ⟨s, _, _, e⟩ <;> rw [e]
  · exact Int.le_refl _
  · omega
theorem starM_nn {m : Nat} {l : List Nat} (hm : m ≤ 5) (h : l ≠ []) : 0 ≤ starM m l := by
  obtain ⟨t, ht⟩ := List.exists_mem_of_ne_nil _ h
  have := starM_ge hm (Nat.two_pow_pos m) ht (fun y _ hy => by simp [hasX] at hy)
  simpa [pc] using this
/-- the points of a set that teaches and no less does are a star -/
theorem cen_of {t s : Nat} {l : List Nat} (h32 : ∀ u ∈ l, u < 32) (hs : s < 32) (has : l.Pairwise (· < ·)) (hc : tch t s l = true) (hno : ∀ y, y < 5 → hasX y s = true → tch t (s - 2 ^ y) l = false) : cen l t s := by
  intro y hy hx
  obtain ⟨ht, h1⟩ := (tch_all has).1 hc
  have h2 := hno y hy hx
  have h3 : ∃ u ∈ l, u &&& (s - 2 ^ y) = t &&& (s - 2 ^ y) ∧ u ≠ t := by
    apply Classical.byContradiction
    intro hn
    rw [Bool.eq_false_iff] at h2
    exact h2 ((tch_all has).2 ⟨ht, fun u hu e => Classical.byContradiction (fun hne => hn ⟨u, hu, e, hne⟩)⟩)
  obtain ⟨u, hu, h4, h5⟩ := h3
  have hd : u ^^^ t < 32 := Nat.xor_lt_two_pow (n := 5) (h32 u hu) (h32 t ht)
  refine ⟨u, hu, ?_⟩
  rcases one_off ⟨u ^^^ t, hd⟩ ⟨s, hs⟩ ⟨y, hy⟩ hx (and_same.1 h4) with h6 | h6
  · exact absurd (h1 u hu (and_same.2 h6)) h5
  · exact h6
/-- teaching is no harder than stars -/
theorem ftN_star {m t : Nat} {l : List Nat} (hc : Cls m l) (ht : t ∈ l) : (pc (ftN m t l) : Int) ≤ starM m l := by
  obtain ⟨h1, h2⟩ := ftN_ok hc ht
  have h32 := pow_le_32 hc.pts
  refine starM_ge hc.pts h1 ht (cen_of hc.lt32 (by omega) hc.asc h2 (fun y hy hx => ?_))
  obtain ⟨_, h3, h4, _⟩ := pow_in ⟨ftN m t l, by omega⟩ ⟨y, hy⟩ hx
  dsimp only at h3 h4
  rw [Bool.eq_false_iff]
  intro h5
  have := ftN_min (m := m) (by omega) h5
  omega
theorem td_star {m : Nat} {l : List Nat} (hc : Cls m l) : gTo (tns m l) l.length ≤ starM m l := by
  rcases gTo_one_of (tns m l) l.length with e | ⟨i, hi, e⟩
  · rw [e]; exact starM_lo hc.pts l
  · rw [e, tns_getD hi]
    exact ftN_star hc (getD_of_lt hi)
/-- what is shattered is a star -/
theorem vc_star {m : Nat} {l : List Nat} (hc : Cls m l) : vcL m l ≤ starM m l := by
  rcases widL_at ((List.range (2 ^ m)).filter (sht l)) with e | ⟨s, hs, e⟩
  · rw [vcL, e]; exact starM_lo hc.pts l
  · rw [vcL, e]
    rw [List.mem_filter, List.mem_range] at hs
    have h32 := pow_le_32 hc.pts
    have hsh := hs.2
    rw [← sht_marks l s (by omega), List.all_eq_true] at hsh
    have hall : ∀ i, i < 32 → i &&& s = i → ∃ u ∈ l, u &&& s = i := fun i hi he => by
      have h1 := hsh i (List.mem_range.2 hi)
      rw [show (i &&& s == i) = true by simpa using he] at h1
      have h2 : (l.any fun t => t &&& s == i) = true := by simpa using h1
      obtain ⟨u, hu, h3⟩ := List.any_eq_true.1 h2
      exact ⟨u, hu, by simpa using h3⟩
    obtain ⟨t, ht, _⟩ := hall 0 (by omega) (by simp)
    refine starM_ge hc.pts hs.1 ht (fun y hy hx => ?_)
    have hp := (pow_in ⟨s, by omega⟩ ⟨y, hy⟩ hx).1
    dsimp only at hp
    have hb : (t &&& s) ^^^ 2 ^ y < 32 := Nat.xor_lt_two_pow (n := 5) (Nat.lt_of_le_of_lt Nat.and_le_left (hc.lt32 t ht)) (Nat.pow_lt_pow_right (by omega) hy)
    obtain ⟨u, hu, h3⟩ := hall ((t &&& s) ^^^ 2 ^ y) hb (by rw [Nat.and_xor_distrib_right, hp, Nat.and_assoc, Nat.and_self])
    exact ⟨u, hu, by rw [Nat.and_xor_distrib_right]; exact xor_shift.1 h3⟩
theorem pc_top : ∀ m : Fin 6, ∀ s : Fin 32, s.1 < 2 ^ m.1 → pc s.1 ≤ m.1 := by decide +kernel
theorem starM_pts {m : Nat} (hm : m ≤ 5) (l : List Nat) : starM m l ≤ m := by
  rcases (starM_max hm l).1 with e | ⟨s, hs, _, e⟩
  · rw [e]; omega
  · rw [e]
    have h32 := pow_le_32 hm
    have := pc_top ⟨m, by omega⟩ ⟨s, by omega⟩ hs
    dsimp only at this
    omega
/-- the parts of the others, off that of the centre -/
def offs (s : Nat) : List Nat := 0 :: (ptl s).map (fun y => 2 ^ y)
theorem offs_ok : ∀ s : Fin 32, (offs s.1).length = pc s.1 + 1 ∧ (offs s.1).Nodup ∧ ∀ d ∈ offs s.1, d < 32 := by decide +kernel
/-- stars are of one set more than points -/
theorem star_few {m : Nat} {l : List Nat} (hc : Cls m l) : starM m l ≤ (l.length : Int) - 1 := by
  rcases (starM_max hc.pts l).1 with e | ⟨s, hs, ⟨t, ht, h⟩, e⟩
  · rw [e]; omega
  · have h32 := pow_le_32 hc.pts
    obtain ⟨h1, h2, h3⟩ := offs_ok ⟨s, by omega⟩
    dsimp only at h1 h2 h3
    have hsub : ∀ d ∈ offs s, d ∈ tr (l.map (fun u => u ^^^ t)) s := fun d hd => by
      rw [tr, mem_flt]
      refine ⟨h3 d hd, ?_⟩
      rw [List.any_map, List.any_eq_true]
      rcases List.mem_cons.1 hd with rfl | hd
      · exact ⟨t, ht, by simp⟩
      · obtain ⟨y, hy, rfl⟩ := List.mem_map.1 hd
        rw [ptl, List.mem_filter, List.mem_range] at hy
        obtain ⟨u, hu, h4⟩ := h y hy.1 hy.2
        exact ⟨u, hu, by simpa using h4⟩
    have h4 : cnt 5 (inF (offs s)) ≤ cnt 5 (inF (tr (l.map (fun u => u ^^^ t)) s)) := cnt_mono (fun d _ hd => by
      simp only [inF, decide_eq_true_eq] at hd ⊢
      exact hsub d hd)
    have h6 := cnt_nodup (n := 5) (l := tr (l.map (fun u => u ^^^ t)) s) (fun d hd => by rw [tr] at hd; exact (mem_flt.1 hd).1) (by rw [tr]; exact (flt_asc _).imp (fun h => Nat.ne_of_lt h))
    rw [cnt_nodup (n := 5) h3 h2, h6] at h4
    have h5 := tr_le (l.map (fun u => u ^^^ t)) s
    rw [List.length_map] at h5
    rw [e]; omega

/-- a set with a point put in -/
def insP (x s : Nat) : Nat := s % 2 ^ x + s / 2 ^ x * 2 ^ (x + 1)
def outP (x y : Nat) : Nat := if y < x then y else y - 1
theorem ins_ok : ∀ m : Fin 6, ∀ x : Fin 5, ∀ s : Fin 32, x.1 < m.1 → s.1 < 2 ^ (m.1 - 1) → insP x.1 s.1 < 2 ^ m.1 ∧ pc (insP x.1 s.1) = pc s.1 := by decide +kernel
theorem rmv_xor : ∀ x : Fin 5, ∀ a b : Fin 32, rmv x.1 (a.1 ^^^ b.1) = rmv x.1 a.1 ^^^ rmv x.1 b.1 := by decide +kernel
theorem ins_bit : ∀ x y : Fin 5, ∀ s : Fin 16, hasX y.1 (insP x.1 s.1) = true → outP x.1 y.1 < 5 ∧ hasX (outP x.1 y.1) s.1 = true ∧ ∀ d : Fin 32, rmv x.1 d.1 &&& s.1 = 2 ^ outP x.1 y.1 → d.1 &&& insP x.1 s.1 = 2 ^ y.1 := by decide +kernel
theorem star_rmv {m x : Nat} {l l' : List Nat} (hc : Cls m l) (hx : x < m) (hl : ∀ u, u ∈ l' ↔ ∃ v ∈ l, u = rmv x v) : starM (m - 1) l' ≤ starM m l := by
  have hm := hc.pts
  rcases (starM_max (show m - 1 ≤ 5 by omega) l').1 with e | ⟨s, hs, ⟨t, ht, h⟩, e⟩
  · rw [e]; exact starM_lo hm l
  · rw [e]
    have h16 : s < 16 := Nat.lt_of_lt_of_le hs (Nat.pow_le_pow_right (by omega) (show m - 1 ≤ 4 by omega))
    obtain ⟨h1, h2⟩ := ins_ok ⟨m, by omega⟩ ⟨x, by omega⟩ ⟨s, by omega⟩ hx hs
    dsimp only at h1 h2
    obtain ⟨t', ht', rfl⟩ := (hl t).1 ht
    rw [← h2]
    refine starM_ge hm h1 ht' (fun y hy hyx => ?_)
    obtain ⟨h3, h4, h5⟩ := ins_bit ⟨x, by omega⟩ ⟨y, hy⟩ ⟨s, h16⟩ hyx
    obtain ⟨u, hu, h6⟩ := h _ h3 h4
    obtain ⟨u', hu', rfl⟩ := (hl u).1 hu
    have h7 := rmv_xor ⟨x, by omega⟩ ⟨u', hc.lt32 u' hu'⟩ ⟨t', hc.lt32 t' ht'⟩
    dsimp only at h7 h6
    rw [← h7] at h6
    exact ⟨u', hu', h5 ⟨u' ^^^ t', Nat.xor_lt_two_pow (n := 5) (hc.lt32 u' hu') (hc.lt32 t' ht')⟩ h6⟩

end Go.Proofs.YtnoppclajhfnjaaDoor
