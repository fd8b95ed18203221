/- Stars: others differ from one set at each point of a set, and of these at it alone: mathematics. No conditions. hasStar and StarNumber, the program's. Conditions: Sets is a slice of ints; the table setsWith is laid. StarNumber, the program's. Conditions: Sets is a slice of ints; the table setsWith is laid. -/
import Derived.Test.YtnmilfkocheaiaaGreatDoorPaj4
import Derived.Test.YtnmilfkocheaiaaGreatDoorZB
import Derived.Test.YtnmilfkocheaiaaGreatDoorZW
import Derived.Test.YtnmilfkocheaiaaGreatDoorZX
import Derived.Test.YtnmilfkocheaiaaGreatDoorZY
namespace Go.Proofs.YtnmilfkocheaiaaGreatDoor
open Go.RowKit

/-- b is the greatest number for which P holds; -1 if there is none -/
def MaxOf (P : Int → Prop) (b : Int) : Prop := (b = -1 ∨ P b) ∧ ∀ z, P z → z ≤ b
theorem mx_iff {P P' : Int → Prop} {b : Int} (h : MaxOf P b) (e : ∀ z, P z ↔ P' z) : MaxOf P' b := ⟨h.1.imp id (fun k => (e b).1 k), fun z k => h.2 z ((e z).2 k)⟩
theorem mx_take {P : Int → Prop} {b c : Int} (h : MaxOf P b) (hc : b < c) : MaxOf (fun z => P z ∨ z = c) c := ⟨.inr (.inr rfl), fun z k => by
  rcases k with k | k
  · have := h.2 z k; omega
  · omega⟩
theorem mx_leave {P : Int → Prop} {b c : Int} (h : MaxOf P b) (hc : c ≤ b) : MaxOf (fun z => P z ∨ z = c) b := ⟨h.1.imp id .inl, fun z k => by
  rcases k with k | k
  · exact h.2 z k
  · omega⟩
theorem mx_one {P : Int → Prop} {b c : Int} (h0 : ∀ z, P z → 0 ≤ z) (h : MaxOf P b) (k : MaxOf P c) : b = c := by
  rcases h.1 with h1 | h1
  · rcases k.1 with k1 | k1
    · omega
    · have := h0 c k1; have := h.2 c k1; omega
  · rcases k.1 with k1 | k1
    · have := h0 b h1; have := k.2 b h1; omega
    · have := h.2 c k1; have := k.2 b h1; omega

theorem xor_shift {a b c : Nat} : a = b ^^^ c ↔ a ^^^ b = c := by
  constructor
  · rintro rfl
    rw [Nat.xor_comm, ← Nat.xor_assoc, Nat.xor_self, Nat.zero_xor]
  · rintro rfl
    rw [Nat.xor_comm a b, ← Nat.xor_assoc, Nat.xor_self, Nat.zero_xor]
theorem pow_in : ∀ s : Fin 32, ∀ y : Fin 5, hasX y.1 s.1 = true → 2 ^ y.1 &&& s.1 = 2 ^ y.1 ∧ pc (s.1 - 2 ^ y.1) < pc s.1 ∧ s.1 - 2 ^ y.1 ≤ s.1 ∧ 2 ^ y.1 ≤ s.1 := by decide +kernel
theorem one_off : ∀ d s : Fin 32, ∀ y : Fin 5, hasX y.1 s.1 = true → d.1 &&& (s.1 - 2 ^ y.1) = 0 → d.1 &&& s.1 = 0 ∨ d.1 &&& s.1 = 2 ^ y.1 := by decide +kernel
theorem and_same {u t s : Nat} : u &&& s = t &&& s ↔ (u ^^^ t) &&& s = 0 := by
  rw [Nat.and_xor_distrib_right]
  constructor
  · intro h; rw [h, Nat.xor_self]
  · intro h
    have h9 : u &&& s = (t &&& s) ^^^ 0 := xor_shift.2 h
    rw [h9, Nat.xor_zero]

/-- t is the centre of a star at the points of s -/
def cen (l : List Nat) (t s : Nat) : Prop := ∀ y, y < 5 → hasX y s = true → ∃ u ∈ l, (u ^^^ t) &&& s = 2 ^ y
/-- the program's test -/
def lacks (l : List Nat) (t s : Nat) (y : Fin 5) : Bool := decide (agr (t ^^^ 2 ^ y.val) s l = [])
def stB (l : List Nat) (t s : Nat) : Bool := !((ptF 5 s).any (lacks l t s))
def hsB (l : List Nat) (s : Nat) : Bool := l.any (fun t => stB l t s)
theorem lacks_iff {l : List Nat} {t s : Nat} {y : Fin 5} (hs : s < 32) (hy : hasX y.val s = true) : lacks l t s y = false ↔ ∃ u ∈ l, (u ^^^ t) &&& s = 2 ^ y.val := by
  have hp := (pow_in ⟨s, hs⟩ y hy).1
  dsimp only at hp
  have key : ∀ u, (u &&& s = (t ^^^ 2 ^ y.val) &&& s) ↔ (u ^^^ t) &&& s = 2 ^ y.val := fun u => by
    rw [Nat.and_xor_distrib_right, hp, xor_shift, ← Nat.and_xor_distrib_right]
  rw [lacks, decide_eq_false_iff_not, agr, List.filter_eq_nil_iff]
  constructor
  · intro h
    have h2 : ∃ u ∈ l, (u &&& s == (t ^^^ 2 ^ y.val) &&& s) = true := by
      apply Classical.byContradiction
      intro hn
      exact h (fun u hu he => hn ⟨u, hu, he⟩)
    obtain ⟨u, hu, he⟩ := h2
    exact ⟨u, hu, (key u).1 (by simpa using he)⟩
  · rintro ⟨u, hu, he⟩ h
    exact h u hu (by simpa using (key u).2 he)
theorem stB_iff {l : List Nat} {t s : Nat} (hs : s < 32) : stB l t s = true ↔ cen l t s := by
  rw [stB, Bool.not_eq_true', List.any_eq_false]
  constructor
  · intro h y hy hx
    have h2 := h ⟨y, hy⟩ (by simp [ptF, hx])
    rw [Bool.not_eq_true] at h2
    exact (lacks_iff hs hx).1 h2
  · intro h y hy
    have hx : hasX y.val s = true := by simpa [ptF] using hy
    rw [Bool.not_eq_true]
    exact (lacks_iff hs hx).2 (h y.val y.isLt hx)
theorem hsB_iff {l : List Nat} {s : Nat} (hs : s < 32) : hsB l s = true ↔ ∃ t ∈ l, cen l t s := by
  rw [hsB, List.any_eq_true]
  constructor
  · rintro ⟨t, ht, h⟩; exact ⟨t, ht, (stB_iff hs).1 h⟩
  · rintro ⟨t, ht, h⟩; exact ⟨t, ht, (stB_iff hs).2 h⟩
/-- the greatest size of a star at one of the first k sets of points -/
def staN (l : List Nat) : Nat → Int
  | 0 => -1
  | k + 1 => if hsB l k = true ∧ staN l k < (pc k : Int) then (pc k : Int) else staN l k
theorem staN_step (l : List Nat) (k : Nat) : staN l (k + 1) = if hsB l k = true ∧ staN l k < (pc k : Int) then (pc k : Int) else staN l k := rfl
theorem staN_max (l : List Nat) : ∀ k, MaxOf (fun z => ∃ s, s < k ∧ hsB l s = true ∧ z = (pc s : Int)) (staN l k) := by
  intro k
  induction k with
  | zero => exact ⟨.inl rfl, fun z ⟨s, hs, _⟩ => by omega⟩
  | succ k ih =>
    rw [staN_step]
    by_cases h : hsB l k = true
    · have e : ∀ z : Int, ((∃ s, s < k ∧ hsB l s = true ∧ z = (pc s : Int)) ∨ z = (pc k : Int)) ↔ ∃ s, s < k + 1 ∧ hsB l s = true ∧ z = (pc s : Int) := fun z => by
        constructor
        · rintro (⟨s, h1, h2, h3⟩ | h1)
          · exact ⟨s, by omega, h2, h3⟩
          · exact ⟨k, by omega, h, h1⟩
        · rintro ⟨s, h1, h2, h3⟩
          by_cases e : s = k
          · subst e; exact .inr h3
          · exact .inl ⟨s, by omega, h2, h3⟩
      by_cases hlt : staN l k < (pc k : Int)
      · rw [if_pos ⟨h, hlt⟩]; exact mx_iff (mx_take ih hlt) e
      · rw [if_neg (fun h2 => hlt h2.2)]; exact mx_iff (mx_leave ih (by omega)) e
    · rw [if_neg (fun h2 => h h2.1)]
      refine mx_iff ih (fun z => ⟨fun ⟨s, h1, h2, h3⟩ => ⟨s, by omega, h2, h3⟩, fun ⟨s, h1, h2, h3⟩ => ?_⟩)
      by_cases e : s = k
      · subst e; exact absurd h2 h
      · exact ⟨s, by omega, h2, h3⟩
/-- what StarNumber answers for a class -/
def starM (m : Nat) (l : List Nat) : Int := staN l (2 ^ m)
theorem starM_max {m : Nat} (hm : m ≤ 5) (l : List Nat) : MaxOf (fun z => ∃ s, s < 2 ^ m ∧ (∃ t ∈ l, cen l t s) ∧ z = (pc s : Int)) (starM m l) := by
  have h32 := pow_le_32 hm
  refine mx_iff (staN_max l (2 ^ m)) (fun z => ⟨fun ⟨s, h1, h2, h3⟩ => ⟨s, h1, (hsB_iff (by omega)).1 h2, h3⟩, fun ⟨s, h1, h2, h3⟩ => ⟨s, h1, (hsB_iff (by omega)).2 h2, h3⟩⟩)
theorem starM_ge {m s t : Nat} {l : List Nat} (hm : m ≤ 5) (hs : s < 2 ^ m) (ht : t ∈ l) (h : cen l t s) : (pc s : Int) ≤ starM m l := (starM_max hm l).2 _ ⟨s, hs, ⟨t, ht, h⟩, rfl⟩
theorem starM_lo {m : Nat} (hm : m ≤ 5) (l : List Nat) : -1 ≤ starM m l := by
  rcases (starM_max hm l).1 with e | ⟨s, _, _, e⟩ <;> rw [e]
  · exact Int.le_refl _
  · omega
theorem starM_nn {m : Nat} {l : List Nat} (hm : m ≤ 5) (h : l ≠ []) : 0 ≤ starM m l := by
  obtain ⟨t, ht⟩ := List.exists_mem_of_ne_nil _ h
  have := starM_ge hm (Nat.two_pow_pos m) ht (fun y _ hy => by simp [hasX] at hy)
  simpa [pc] using this
/-- the points of a set that teaches and no less does are a star -/
theorem cen_of {t s : Nat} {l : List Nat} (h32 : ∀ u ∈ l, u < 32) (hs : s < 32) (has : l.Pairwise (· < ·)) (hc : tch t s l = true) (hno : ∀ y, y < 5 → hasX y s = true → tch t (s - 2 ^ y) l = false) : cen l t s := by
  intro y hy hx
  obtain ⟨ht, h1⟩ := (tch_all has).1 hc
  have h2 := hno y hy hx
  have h3 : ∃ u ∈ l, u &&& (s - 2 ^ y) = t &&& (s - 2 ^ y) ∧ u ≠ t := by
    apply Classical.byContradiction
    intro hn
    rw [Bool.eq_false_iff] at h2
    exact h2 ((tch_all has).2 ⟨ht, fun u hu e => Classical.byContradiction (fun hne => hn ⟨u, hu, e, hne⟩)⟩)
  obtain ⟨u, hu, h4, h5⟩ := h3
  have hd : u ^^^ t < 32 := Nat.xor_lt_two_pow (n := 5) (h32 u hu) (h32 t ht)
  refine ⟨u, hu, ?_⟩
  rcases one_off ⟨u ^^^ t, hd⟩ ⟨s, hs⟩ ⟨y, hy⟩ hx (and_same.1 h4) with h6 | h6
  · exact absurd (h1 u hu (and_same.2 h6)) h5
  · exact h6
/-- teaching is no harder than stars -/
theorem ftN_star {m t : Nat} {l : List Nat} (hc : Cls m l) (ht : t ∈ l) : (pc (ftN m t l) : Int) ≤ starM m l := by
  obtain ⟨h1, h2⟩ := ftN_ok hc ht
  have h32 := pow_le_32 hc.pts
  refine starM_ge hc.pts h1 ht (cen_of hc.lt32 (by omega) hc.asc h2 (fun y hy hx => ?_))
  obtain ⟨_, h3, h4, _⟩ := pow_in ⟨ftN m t l, by omega⟩ ⟨y, hy⟩ hx
  dsimp only at h3 h4
  rw [Bool.eq_false_iff]
  intro h5
  have := ftN_min (m := m) (by omega) h5
  omega
theorem td_star {m : Nat} {l : List Nat} (hc : Cls m l) : gTo (tns m l) l.length ≤ starM m l := by
  rcases gTo_one_of (tns m l) l.length with e | ⟨i, hi, e⟩
  · rw [e]; exact starM_lo hc.pts l
  · rw [e, tns_getD hi]
    exact ftN_star hc (getD_of_lt hi)
/-- what is shattered is a star -/
theorem vc_star {m : Nat} {l : List Nat} (hc : Cls m l) : vcL m l ≤ starM m l := by
  rcases widL_at ((List.range (2 ^ m)).filter (sht l)) with e | ⟨s, hs, e⟩
  · rw [vcL, e]; exact starM_lo hc.pts l
  · rw [vcL, e]
    rw [List.mem_filter, List.mem_range] at hs
    have h32 := pow_le_32 hc.pts
    have hsh := hs.2
    rw [← sht_marks l s (by omega), List.all_eq_true] at hsh
    have hall : ∀ i, i < 32 → i &&& s = i → ∃ u ∈ l, u &&& s = i := fun i hi he => by
      have h1 := hsh i (List.mem_range.2 hi)
      rw [show (i &&& s == i) = true by simpa using he] at h1
      have h2 : (l.any fun t => t &&& s == i) = true := by simpa using h1
      obtain ⟨u, hu, h3⟩ := List.any_eq_true.1 h2
      exact ⟨u, hu, by simpa using h3⟩
    obtain ⟨t, ht, _⟩ := hall 0 (by omega) (by simp)
    refine starM_ge hc.pts hs.1 ht (fun y hy hx => ?_)
    have hp := (pow_in ⟨s, by omega⟩ ⟨y, hy⟩ hx).1
    dsimp only at hp
    have hb : (t &&& s) ^^^ 2 ^ y < 32 := Nat.xor_lt_two_pow (n := 5) (Nat.lt_of_le_of_lt Nat.and_le_left (hc.lt32 t ht)) (Nat.pow_lt_pow_right (by omega) hy)
    obtain ⟨u, hu, h3⟩ := hall ((t &&& s) ^^^ 2 ^ y) hb (by rw [Nat.and_xor_distrib_right, hp, Nat.and_assoc, Nat.and_self])
    exact ⟨u, hu, by rw [Nat.and_xor_distrib_right]; exact xor_shift.1 h3⟩
theorem pc_top : ∀ m : Fin 6, ∀ s : Fin 32, s.1 < 2 ^ m.1 → pc s.1 ≤ m.1 := by decide +kernel
theorem starM_pts {m : Nat} (hm : m ≤ 5) (l : List Nat) : starM m l ≤ m := by
  rcases (starM_max hm l).1 with e | ⟨s, hs, _, e⟩
  · rw [e]; omega
  · rw [e]
    have h32 := pow_le_32 hm
    have := pc_top ⟨m, by omega⟩ ⟨s, by omega⟩ hs
    dsimp only at this
    omega
/-- the parts of the others, off that of the centre -/
def offs (s : Nat) : List Nat := 0 :: (ptl s).map (fun y => 2 ^ y)
theorem offs_ok : ∀ s : Fin 32, (offs s.1).length = pc s.1 + 1 ∧ (offs s.1).Nodup ∧ ∀ d ∈ offs s.1, d < 32 := by decide +kernel
/-- stars are of one set more than points -/
theorem star_few {m : Nat} {l : List Nat} (hc : Cls m l) : starM m l ≤ (l.length : Int) - 1 := by
  rcases (starM_max hc.pts l).1 with e | ⟨s, hs, ⟨t, ht, h⟩, e⟩
  · rw [e]; omega
  · have h32 := pow_le_32 hc.pts
    obtain ⟨h1, h2, h3⟩ := offs_ok ⟨s, by omega⟩
    dsimp only at h1 h2 h3
    have hsub : ∀ d ∈ offs s, d ∈ tr (l.map (fun u => u ^^^ t)) s := fun d hd => by
      rw [tr, mem_flt]
      refine ⟨h3 d hd, ?_⟩
      rw [List.any_map, List.any_eq_true]
      rcases List.mem_cons.1 hd with rfl | hd
      · exact ⟨t, ht, by simp⟩
      · obtain ⟨y, hy, rfl⟩ := List.mem_map.1 hd
        rw [ptl, List.mem_filter, List.mem_range] at hy
        obtain ⟨u, hu, h4⟩ := h y hy.1 hy.2
        exact ⟨u, hu, by simpa using h4⟩
    have h4 : cnt 5 (inF (offs s)) ≤ cnt 5 (inF (tr (l.map (fun u => u ^^^ t)) s)) := cnt_mono (fun d _ hd => by
      simp only [inF, decide_eq_true_eq] at hd ⊢
      exact hsub d hd)
    have h6 := cnt_nodup (n := 5) (l := tr (l.map (fun u => u ^^^ t)) s) (fun d hd => by rw [tr] at hd; exact (mem_flt.1 hd).1) (by rw [tr]; exact (flt_asc _).imp (fun h => Nat.ne_of_lt h))
    rw [cnt_nodup (n := 5) h3 h2, h6] at h4
    have h5 := tr_le (l.map (fun u => u ^^^ t)) s
    rw [List.length_map] at h5
    rw [e]; omega

/-- a set with a point put in -/
def insP (x s : Nat) : Nat := s % 2 ^ x + s / 2 ^ x * 2 ^ (x + 1)
def outP (x y : Nat) : Nat := if y < x then y else y - 1
theorem ins_ok : ∀ m : Fin 6, ∀ x : Fin 5, ∀ s : Fin 32, x.1 < m.1 → s.1 < 2 ^ (m.1 - 1) → insP x.1 s.1 < 2 ^ m.1 ∧ pc (insP x.1 s.1) = pc s.1 := by decide +kernel
theorem rmv_xor : ∀ x : Fin 5, ∀ a b : Fin 32, rmv x.1 (a.1 ^^^ b.1) = rmv x.1 a.1 ^^^ rmv x.1 b.1 := by decide +kernel
theorem ins_bit : ∀ x y : Fin 5, ∀ s : Fin 16, hasX y.1 (insP x.1 s.1) = true → outP x.1 y.1 < 5 ∧ hasX (outP x.1 y.1) s.1 = true ∧ ∀ d : Fin 32, rmv x.1 d.1 &&& s.1 = 2 ^ outP x.1 y.1 → d.1 &&& insP x.1 s.1 = 2 ^ y.1 := by decide +kernel
theorem star_rmv {m x : Nat} {l l' : List Nat} (hc : Cls m l) (hx : x < m) (hl : ∀ u, u ∈ l' ↔ ∃ v ∈ l, u = rmv x v) : starM (m - 1) l' ≤ starM m l := by
  have hm := hc.pts
  rcases (starM_max (show m - 1 ≤ 5 by omega) l').1 with e | ⟨s, hs, ⟨t, ht, h⟩, e⟩
  · rw [e]; exact starM_lo hm l
  · rw [e]
    have h16 : s < 16 := Nat.lt_of_lt_of_le hs (Nat.pow_le_pow_right (by omega) (show m - 1 ≤ 4 by omega))
    obtain ⟨h1, h2⟩ := ins_ok ⟨m, by omega⟩ ⟨x, by omega⟩ ⟨s, by omega⟩ hx hs
    dsimp only at h1 h2
    obtain ⟨t', ht', rfl⟩ := (hl t).1 ht
    rw [← h2]
    refine starM_ge hm h1 ht' (fun y hy hyx => ?_)
    obtain ⟨h3, h4, h5⟩ := ins_bit ⟨x, by omega⟩ ⟨y, hy⟩ ⟨s, h16⟩ hyx
    obtain ⟨u, hu, h6⟩ := h _ h3 h4
    obtain ⟨u', hu', rfl⟩ := (hl u).1 hu
    have h7 := rmv_xor ⟨x, by omega⟩ ⟨u', hc.lt32 u' hu'⟩ ⟨t', hc.lt32 t' ht'⟩
    dsimp only at h7 h6
    rw [← h7] at h6
    exact ⟨u', hu', h5 ⟨u' ^^^ t', Nat.xor_lt_two_pow (n := 5) (hc.lt32 u' hu') (hc.lt32 t' ht')⟩ h6⟩

end Go.Proofs.YtnmilfkocheaiaaGreatDoor

namespace Go.Proofs.YtnmilfkocheaiaaGreatDoor
open Go.RowKit Go.Shelf
attribute [local go_sem] Oper.semAt_some

theorem pre_any {l : List Nat} {t s : Nat} {pre : List (Fin 5)} (hp : pre <+: ptF 5 s) (h : pre.any (lacks l t s) = true) : stB l t s = false := by
  obtain ⟨r, e⟩ := hp
  rw [stB, ← e, List.any_append, h]; rfl
theorem mem_any {l : List Nat} (h32 : ∀ u ∈ l, u < 32) (hp : l.Pairwise (· < ·)) (p : Nat → Bool) : (memF l).any (fun x => p x.val) = l.any p := by
  have h := memF_val h32 hp
  rw [← h, List.any_map, h]; rfl
theorem mem_some {l : List Nat} (h32 : ∀ u ∈ l, u < 32) (hp : l.Pairwise (· < ·)) {p : Nat → Bool} {pre : List (Fin 32)} (hpre : pre <+: memF l) (h : pre.any (fun x => p x.val) = true) : l.any p = true := by
  rw [← mem_any h32 hp p]
  obtain ⟨r, e⟩ := hpre
  rw [← e, List.any_append, h]; rfl
theorem xor_in : ∀ t : Fin 32, ∀ y : Fin 5, t.1 ^^^ 2 ^ y.1 < 32 ∧ bits .xor .i64 ((t.1 : Nat) : Int) (IntKind.i64.wrap ((2 : Int) ^ y.1)) = ((t.1 ^^^ 2 ^ y.1 : Nat) : Int) := by decide +kernel

set_option maxRecDepth 100000 in
set_option maxHeartbeats 3200000 in
theorem implHasStar (l : List Nat) (s : Nat) (h32 : ∀ u ∈ l, u < 32) (hp : l.Pairwise (· < ·)) (hs : s < 32) (w : World) (hsw : SW w) :
    Calls Tryz.prog 108 #[.int .u32 (fm l), .int .i64 (s : Int)] w fun e w' => e = .returned (.bool (hsB l s)) ∧ Below w.heap.size w w' := by
  refine (callsIn_wide (n := 8)).1 ?_
  refine callsIn_of_wp_marks Tryz.func108 rfl trivial ?_ rfl
  simp only [Tryz.ntmps108, List.size_toArray, List.length_cons, List.length_nil, Nat.reduceAdd, Nat.reduceSub, Array.replicate_succ, Array.replicate_zero, List.push_toArray, List.append_toArray, List.nil_append, List.cons_append]
  gi_wp2_with fail
  refine wpIn_wide.2 ?_
  apply wp_scope_straight
  refine (wpIn_wide (n := 8)).1 ?_
  gi_wp2_with fail
  refine wpIn_wide.2 ?_
  apply wp_label
  have bF := ((Boxed.new w 116 (.int .u32 (fm l))).alloc (.cells #[.int .i64 (s : Int)] 3)).alloc (.cells #[.bool false] 4)
  have bS := (Boxed.new (w.alloc (.cells #[.int .u32 (fm l)] 116)) 3 (.int .i64 (s : Int))).alloc (.cells #[.bool false] 4)
  have bR := Boxed.new ((w.alloc (.cells #[.int .u32 (fm l)] 116)).alloc (.cells #[.int .i64 (s : Int)] 3)) 4 (.bool false)
  simp only [World.size_alloc] at bS bR
  have hB0 : Below w.heap.size w (((w.alloc (.cells #[.int .u32 (fm l)] 116)).alloc (.cells #[.int .i64 (s : Int)] 3)).alloc (.cells #[.bool false] 4)) := (((Below.refl _ w).alloc (Nat.le_refl _) _).alloc (by simp) _).alloc (by simp; omega) _
  have hsz : (((w.alloc (.cells #[.int .u32 (fm l)] 116)).alloc (.cells #[.int .i64 (s : Int)] 3)).alloc (.cells #[.bool false] 4)).heap.size = w.heap.size + 3 := by simp
  have hc0 : CS swc (((w.alloc (.cells #[.int .u32 (fm l)] 116)).alloc (.cells #[.int .i64 (s : Int)] 3)).alloc (.cells #[.bool false] 4)) := (sw_cs (hsw.next hB0))
  obtain ⟨W0, hW0⟩ : ∃ W0, ((w.alloc (.cells #[.int .u32 (fm l)] 116)).alloc (.cells #[.int .i64 (s : Int)] 3)).alloc (.cells #[.bool false] 4) = W0 := ⟨_, rfl⟩
  rw [hW0] at bF bS bR hB0 hsz hc0 ⊢
  clear hW0
  have cF := bF.cell
  gi_wp2
  have hw3 : 0 < w.heap.size := Nat.lt_of_le_of_lt (Nat.zero_le _) hsw.1
  refine wpIn_rangeV rfl (by omega) (gf := 129) (fs := #[.int .u32 (fm l)]) (lb := #[]) rfl trivial (enters_of Tryz.func129 (by kernel_rfl) rfl)
    (memStops (fun _ => Kcs swc) _ (by omega) l W0) (fun _ => kcs_t) (fun _ => kcs_b) (Below.refl _ _) (fun _ => rfl)
    (fun pre W => (pre.any (fun x => stB l x.val s) = false ∧ (Boxed W w.heap.size 116 (.int .u32 (fm l)) ∧ Boxed W (w.heap.size + 1) 3 (.int .i64 (s : Int)) ∧ Boxed W (w.heap.size + 1 + 1) 4 (.bool false) ∧ CS swc W)) ∧ (Below w.heap.size w W ∧ w.heap.size + 3 ≤ W.heap.size))
    (fun c pre W => ((c = .ret ∧ pre.any (fun x => stB l x.val s) = true) ∧ Boxed W (w.heap.size + 1 + 1) 4 (.bool true)) ∧ Below w.heap.size w W)
    (OwnFrom.and (OwnFrom.and (ownFrom_pure _ _) (Own.from (fun s A B row hs hg hr => ⟨boxed_keeps hs.1 hg hr, boxed_keeps hs.2.1 hg hr, boxed_keeps hs.2.2.1 hg hr, cs_own _ s A B row hs.2.2.2 hg hr⟩) _)) (OwnFrom.and (ownFrom_below (Nat.le_refl _) (by omega)) (fun s A B row hs hg hr => Nat.le_trans hs hg.size)))
    (fun c => OwnFrom.and (OwnFrom.and (ownFrom_pure _ _) (Own.from (boxed_own _ _ _) _)) (ownFrom_below (Nat.le_refl _) (by omega)))
    ⟨⟨rfl, bF, bS, bR, hc0⟩, hB0, by omega⟩
    (fun x a' W => ∃ Bx, w.heap.size + 3 ≤ Bx ∧ Boxed W Bx 3 (.int .i64 ((x.val : Nat) : Int)) ∧ a' = { tmps := #[.int .u32 (fm l), .int .i64 (s : Int), .pointer (some ⟨w.heap.size, 0, none⟩), .pointer (some ⟨w.heap.size + 1, 0, none⟩), .pointer (some ⟨w.heap.size + 1 + 1, 0, none⟩), .pointer (some ⟨Bx, 0, none⟩), undef, .int .u32 (fm l), (.func (.func 129) #[.int .u32 (fm l)] #[]), .int .i64 ((x.val : Nat) : Int), undef, undef, undef, undef, undef, undef, undef, undef, undef, undef, undef], defers := [] })
    (fun x a' _ X Y row hs hg hr => by obtain ⟨Bx, h1, h2, h3⟩ := hs; exact ⟨Bx, h1, boxed_own Bx 3 (fun (_ : Unit) => Value.int .i64 ((x.val : Nat) : Int)) () X Y row h2 hg (fun r e => (hr r e).2), h3⟩)
    ?assign ?body ?done ?stop
  case assign =>
    rintro l0 pre x _ W K _ _ ⟨⟨hn, hF, hS, hR, hc⟩, hB, hN⟩ _ hK
    gi_wp2
    exact hK _ _ ((KeepsOthers.alloc _ _).from _) (fun hh => hh.next ((Below.refl _ W).alloc (Nat.le_refl _) _)) ⟨⟨hn, hF.alloc _, hS.alloc _, hR.alloc _, hc.next ((Below.refl _ W).alloc (Nat.le_refl _) _)⟩, hB.alloc hB.size _, by simp; omega⟩ ⟨W.heap.size, hN, Boxed.new W _ _, rfl⟩
  case body =>
    rintro l0 pre x a' W hl ⟨r, hr⟩ ⟨⟨hn, hF, hS, hR, hc⟩, hB, hN⟩ ⟨Bx, hBx, bX, rfl⟩ hlt
    have cS := hS.cell
    gi_wp2_with (refine ⟨trivial, ?_⟩; gi_at_call 131; refine (CallsIn.inRound l0 (callsIn_wide.2 (implPointsOf s _))).mono ?_; rintro e w' ⟨rfl, rfl⟩)
    have bN := Boxed.new W 3 (.int .i64 (s : Int))
    have hr' : (W.alloc (.cells #[.int .i64 (s : Int)] 3)).heap[l0]? = some (.loop r) := (Below.heap_alloc W _ l0 (Array.getElem?_eq_some_iff.1 hr).1).trans hr
    refine wpIn_rangeFunc_ownN (l₀ := l0) (r₀ := r) rfl hr' (by omega) (gf := 156) (lb := #[.pointer (some ⟨W.heap.size, 0, none⟩)]) rfl trivial (enters_of Tryz.func156 (by kernel_rfl) rfl)
      ((ptsStops Fence.wide _ trivial rfl (by omega) W.heap.size s hs _ bN.cell).inRound l0) kc_t kc_b (Below.refl _ _) (fun _ => rfl)
      (fun (pre' : List (Fin 5)) W' => pre'.any (lacks l x.val s) = false ∧ (Below W.heap.size W W' ∧ KeepsFrom W0.heap.size W W' ∧ W.heap.size + 1 ≤ W'.heap.size))
      (fun c (pre' : List (Fin 5)) W' => (c = Code.exit 1 ∧ pre'.any (lacks l x.val s) = true) ∧ (Below W.heap.size W W' ∧ KeepsFrom W0.heap.size W W' ∧ W.heap.size + 1 ≤ W'.heap.size))
      (OwnFrom.and (ownFrom_pure _ (fun (pre' : List (Fin 5)) => pre'.any (lacks l x.val s) = false)) (OwnFrom.and (ownFrom_below (Nat.le_refl _) (by simp)) (OwnFrom.and (ownFrom_keepsFrom (by first | omega | (simp; omega) | simp)) (fun s A B row hs hg hr => Nat.le_trans hs hg.size))))
      (fun c => OwnFrom.and (ownFrom_pure _ (fun (pre' : List (Fin 5)) => c = Code.exit 1 ∧ pre'.any (lacks l x.val s) = true)) (OwnFrom.and (ownFrom_below (Nat.le_refl _) (by simp)) (OwnFrom.and (ownFrom_keepsFrom (by first | omega | (simp; omega) | simp)) (fun s A B row hs hg hr => Nat.le_trans hs hg.size))))
      ⟨rfl, (Below.refl _ W).alloc (Nat.le_refl _) _, (KeepsOthers.alloc _ _).from _, by simp⟩
      (fun y a'' _ => a'' = { tmps := #[.int .u32 (fm l), .int .i64 (s : Int), .pointer (some ⟨w.heap.size, 0, none⟩), .pointer (some ⟨w.heap.size + 1, 0, none⟩), .pointer (some ⟨w.heap.size + 1 + 1, 0, none⟩), .pointer (some ⟨Bx, 0, none⟩), .int .i64 ((y.val : Nat) : Int), .int .u32 (fm l), (.func (.func 129) #[.int .u32 (fm l)] #[]), .int .i64 ((x.val : Nat) : Int), .int .i64 (s : Int), (.func (.func 156) #[] #[.pointer (some ⟨W.heap.size, 0, none⟩)]), .int .i64 ((y.val : Nat) : Int), undef, undef, undef, undef, undef, undef, undef, undef], defers := [] })
      (fun _ _ _ _ _ _ hs _ _ => hs)
      ?assign2 ?body2 ?done2 ?stop2
    case assign2 =>
      rintro l2 pre' y W' K hi hK
      gi_wp2
      exact hK _ _ (KeepsFrom.refl _ _) (fun _ e => e) hi rfl
    case body2 =>
      rintro l2 pre' y a'' W' _ _ ⟨hh, hBW, hKF, hsz'⟩ rfl _
      have a2 := (show Boxed W' w.heap.size 116 (.int .u32 (fm l)) from (hBW.block _ hF.lt).trans hF).cell
      have s2 := (show Boxed W' (w.heap.size + 1) 3 (.int .i64 (s : Int)) from (hBW.block _ hS.lt).trans hS).cell
      have x2 := (show Boxed W' Bx 3 (.int .i64 ((x.val : Nat) : Int)) from (hBW.block _ bX.lt).trans bX).cell
      have sw2 : SW W' := cs_sw (fun p hp => (hc.next hBW) p hp)
      have sw3 : SW W'.drew := sw2
      obtain ⟨hx32, hxs⟩ := xor_in x y
      have HAg := Lib.hid (fun w0 h0 => implAgreeing l (x.val ^^^ 2 ^ y.val) s h32 hx32 hs w0 h0)
      have hq0 : lacks l x.val s y = decide (agr (x.val ^^^ 2 ^ y.val) s l = []) := rfl
      have hfz : (fm (agr (x.val ^^^ 2 ^ y.val) s l) == 0) = lacks l x.val s y := by
        rw [hq0, Bool.eq_iff_iff, beq_iff_eq, decide_eq_true_eq]
        have h9 := fm_ne (l := agr (x.val ^^^ 2 ^ y.val) s l) (fun u hu => h32 u (agr_sub hu))
        exact ⟨fun e => Classical.byContradiction (fun hne => h9.2 hne e), fun e => by rw [e]; exact fm_nil⟩
      clear hq0
      have hsn : (pre' ++ [y]).any (lacks l x.val s) = lacks l x.val s y := by rw [List.any_append, hh]; simp
      generalize lacks l x.val s y = q at *
      generalize fm (agr (x.val ^^^ 2 ^ y.val) s l) = A at *
      generalize x.val ^^^ 2 ^ y.val = z at *
      have hy5 := y.isLt
      have hmx : Tryz.prog.follows .mixedOrders = true := by kernel_rfl
      cases q with
      | false =>
        gi_wp2
        gi_region_with_o (first | (refine ⟨trivial, ?_⟩; gi_at_call 132; (try rw [hxs]); refine (CallsIn.inRound l2 (CallsIn.inRound l0 (callsIn_wide.2 (HAg.out _ (by first | exact sw3 | exact sw2))))).mono ?_; rintro e w1 ⟨rfl, hb1⟩; have hB1 : Below W'.heap.size W' w1 := (by first | exact hb1 | exact ⟨hb1.os, hb1.tape, hb1.output, hb1.size, hb1.block⟩); clear hb1))
        all_goals gi_wp2
        all_goals exact ⟨(keeps_below hB1).from _, kc_below (by omega) hB1, hsn, hBW.trans (hB1.mono hBW.size), hKF.trans ((keeps_below hB1).from _), Nat.le_trans hsz' hB1.size⟩
      | true =>
        gi_wp2
        gi_region_with_o (first | (refine ⟨trivial, ?_⟩; gi_at_call 132; (try rw [hxs]); refine (CallsIn.inRound l2 (CallsIn.inRound l0 (callsIn_wide.2 (HAg.out _ (by first | exact sw3 | exact sw2))))).mono ?_; rintro e w1 ⟨rfl, hb1⟩; have hB1 : Below W'.heap.size W' w1 := (by first | exact hb1 | exact ⟨hb1.os, hb1.tape, hb1.output, hb1.size, hb1.block⟩); clear hb1))
        all_goals gi_wp2
        all_goals exact ⟨(keeps_below hB1).from _, ⟨rfl, hsn⟩, hBW.trans (hB1.mono hBW.size), hKF.trans ((keeps_below hB1).from _), Nat.le_trans hsz' hB1.size⟩
    case done2 =>
      rintro ys' W' rfl ⟨hh, hBW, hKF, hsz'⟩
      have kR : Boxed W' (w.heap.size + 1 + 1) 4 (.bool false) := (hBW.block _ hR.lt).trans hR
      have r2 := kR.cell
      have f2 := kR.frozen
      have hst : stB l x.val s = true := by rw [stB, hh]; rfl
      gi_wp2
      exact ⟨hKF.trans ((KeepsOthers.setCell _ _ _).from _), ⟨⟨rfl, by rw [List.any_append, hn]; simp [hst]⟩, kR.set _⟩, (hB.trans (hBW.mono hB.size)).setCell (p := ⟨w.heap.size + 1 + 1, 0, none⟩) (by show w.heap.size ≤ w.heap.size + 1 + 1; omega) _⟩
    case stop2 =>
      rintro c pre' W' hpre ⟨⟨rfl, hh⟩, hBW, hKF, hsz'⟩
      have hst := pre_any hpre hh
      have kF : Boxed W' w.heap.size 116 (.int .u32 (fm l)) := (hBW.block _ hF.lt).trans hF
      have kS : Boxed W' (w.heap.size + 1) 3 (.int .i64 (s : Int)) := (hBW.block _ hS.lt).trans hS
      have kR : Boxed W' (w.heap.size + 1 + 1) 4 (.bool false) := (hBW.block _ hR.lt).trans hR
      have hc2 := hc.next hBW
      gi_wp2
      exact ⟨hKF, fun _ => hc2, ⟨⟨by rw [List.any_append, hn]; simp [hst], kF, kS, kR, hc2⟩, hB.trans (hBW.mono hB.size), Nat.le_trans hN hBW.size⟩⟩
  case done =>
    rintro D zs W hD rfl ⟨⟨hn, hF, hS, hR, hc⟩, hB, hN⟩ hK
    have cR := hR.cell
    have fR := hR.frozen
    have hq : hsB l s = false := by rw [hsB, ← mem_any h32 hp (fun t => stB l t s)]; exact hn
    gi_wp2
    rw [Exit.noGoto_ret]
    have hK' := (KeepsOthers.setCell W ⟨w.heap.size + 1 + 1, 0, none⟩ (.bool false)).same D _ hK rfl
    refine ⟨by simp, .inl ⟨_, _, rfl, run_takeDeferred hK', ?_⟩⟩
    have hc5 := cell_kept (hR.set (.bool false)).cell (grownBy_putObj' _ D (.deferred none)) (fun r e => by cases e; exact ⟨_, hK', rfl⟩)
    refine ⟨.bool false, ?_, by rw [hq], (hB.setCell (p := ⟨w.heap.size + 1 + 1, 0, none⟩) (by show w.heap.size ≤ w.heap.size + 1 + 1; omega) _).trans (belowK_b (w := w) (Nat.le_refl _) _ D _ _ (by omega) hK' rfl rfl)⟩
    simp [results, Tryz.f108, go_sem, hc5]
  case stop =>
    rintro D c pre W hD hpre ⟨⟨⟨rfl, hh⟩, hR⟩, hB⟩ hK
    have hq : hsB l s = true := by rw [hsB]; exact mem_some h32 hp hpre hh
    gi_wp2
    rw [Exit.noGoto_ret]
    refine ⟨by simp, .inl ⟨_, _, rfl, run_takeDeferred hK, ?_⟩⟩
    have hc5 := cell_kept hR.cell (grownBy_putObj' _ D (.deferred none)) (fun r e => by cases e; exact ⟨_, hK, rfl⟩)
    refine ⟨.bool true, ?_, by rw [hq], hB.trans (belowK_b (w := w) (Nat.le_refl _) _ D _ _ (by omega) hK rfl rfl)⟩
    simp [results, Tryz.f108, go_sem, hc5]

end Go.Proofs.YtnmilfkocheaiaaGreatDoor

namespace Go.Proofs.YtnmilfkocheaiaaGreatDoor
open Go.RowKit

/-- what StarNumber answers -/
def snB (n : Int) (zs : List Int) : Int := if vldB n zs = true then starM n.toNat (zs.map Int.toNat) else -1
theorem snB_in {m : Nat} {ns : List Nat} (hv : vldB (m : Int) (toI ns) = true) : snB (m : Int) (toI ns) = starM m ns := by rw [snB, if_pos hv, Int.toNat_natCast, toNat_toI]
theorem snB_bad {n : Int} {zs : List Int} (hv : vldB n zs = false) : snB n zs = -1 := by rw [snB, hv]; rfl

set_option maxRecDepth 100000 in
set_option maxHeartbeats 3200000 in
theorem implStarNumber (n : Int) (v : Value) (zs : List Int) (w : World) (h : Rd w v zs) (hsw : SW w) :
    Calls Tryz.prog 74 #[.agg #[.int .i64 n, v]] w fun e w' => e = .returned (.int .i64 (snB n zs)) ∧ Below w.heap.size w w' := by
  have H := Lib.hid h
  have HSW := Lib.hid hsw
  clear hsw
  have HV := Lib.hid (fun w0 h0 => implValid n v zs w0 h0)
  obtain ⟨a, b, off, cap, rfl, _, _, _⟩ := h
  by_cases hv : vldB n zs = true
  · obtain ⟨m, ns, rfl, rfl, hc⟩ := vldB_cls hv
    have hm := hc.pts
    have hw := wrap_pow m hm
    have HW := Lib.hid hw.1
    have hw2 := hw.2
    have HP := Lib.hid (show ((2 ^ m : Nat) : Int) = (2 : Int) ^ m by simp)
    have HE := Lib.hid (show snB (m : Int) (toI ns) = staN ns (2 ^ m) from snB_in hv)
    have HF := Lib.hid (fun w0 h0 => implFamilyOf (m : Int) (.slice a (toI ns).length cap) ns hc.lt32 w0 h0)
    have HX := Lib.hid (fun s (hs : s < 32) w0 h0 => implHasStar ns s hc.lt32 hc.asc hs w0 h0)
    have HST := Lib.hid (fun k => staN_step ns k)
    have H0 := Lib.hid (show staN ns 0 = -1 from rfl)
    rw [HE.out]
    rw [hv] at HV
    clear hw hv hc HE
    generalize staN ns = S at *
    generalize hsB ns = T at *
    generalize fm ns = F at *
    go_enter Tryz.func74, Tryz.ntmps74
    go_wp2_with fail
    refine (HV.out _ (H.out.below (by go_grown) (Nat.le_refl _))).mono ?_
    rintro e w1 ⟨rfl, hb⟩
    have B1 := Lib.hid ((Box.made (m : Int) (.slice a (toI ns).length cap) w _).next (by simp) hb)
    have hs1 : w.heap.size < w1.heap.size := by have := hb.size; simp at this; omega
    clear hb
    have c0 := B1.out.at0
    have c1 := B1.out.at1
    go_wp2_with fail
    refine (HF.out _ (H.out.below B1.out.below (Nat.le_refl _))).mono ?_
    rintro e w3 ⟨rfl, hb⟩
    have B3 := Lib.hid (B1.out.next hs1 hb)
    have hs3 : w.heap.size < w3.heap.size := by have := hb.size; omega
    clear hb c0 c1 B1
    have c0 := B3.out.at0
    go_wp2_with fail
    clear c0
    go_loopw [3, 15] (fun b i wr => ∃ j : Nat, (j : Int) ≤ wrap64 (2 ^ m) ∧ i = .int .i64 j ∧ b = .int .i64 (S j) ∧ Box m (.slice a (toI ns).length cap) w wr ∧ w.heap.size < wr.heap.size) (fun _ i _ => 40 - (intOf i).toNat)
    case atStart => exact ⟨0, by omega, rfl, by rw [H0.out], B3.out, hs3⟩
    case round =>
      obtain ⟨j, hj, rfl, rfl, hbx, hsz⟩ := hrel
      have BR := Lib.hid hbx
      clear hbx
      by_cases hlt : (j : Int) < wrap64 (2 ^ m)
      · have hj32 : j < 32 := by omega
        have HXj := Lib.hid (HX.out j hj32)
        have HSj := Lib.hid (fun w0 => implSizeOf j hj32 w0)
        have HN := Lib.hid (HST.out j)
        cases hT : T j with
        | false =>
          rw [hT] at HXj HN
          have HN2 := Lib.hid (show S (j + 1) = S j by rw [HN.out, if_neg (by simp)])
          clear hT HN HSj
          generalize S j = y at *
          go_wp2_with fail
          refine (HXj.out _ (HSW.out.next BR.out.below)).mono ?_
          rintro e w5 ⟨rfl, hb5⟩
          have B5 := Lib.hid (BR.out.next hsz hb5)
          have hz5 := hb5.size
          clear hb5
          go_wp2_with fail
          go_roundw
          case rel => exact ⟨j + 1, by omega, by go_num, by rw [HN2.out], B5.out, by omega⟩
          case measure => simp [intOf]; omega
        | true =>
          rw [hT] at HXj HN
          clear hT
          by_cases hlt2 : S j < (pc j : Int)
          · have HN2 := Lib.hid (show S (j + 1) = (pc j : Int) by rw [HN.out, if_pos ⟨rfl, hlt2⟩])
            clear HN
            generalize S j = y at *
            generalize pc j = c at *
            go_wp2_with fail
            refine (HXj.out _ (HSW.out.next BR.out.below)).mono ?_
            rintro e w5 ⟨rfl, hb5⟩
            have B5 := Lib.hid (BR.out.next hsz hb5)
            have hz5 := hb5.size
            clear hb5
            go_wp2_with fail
            refine (HSj.out _).mono ?_
            rintro e w6 ⟨rfl, rfl⟩
            go_wp2_with fail
            go_roundw
            case rel => exact ⟨j + 1, by omega, by go_num, by rw [HN2.out], B5.out, by omega⟩
            case measure => simp [intOf]; omega
          · have HN2 := Lib.hid (show S (j + 1) = S j by rw [HN.out, if_neg (fun h => hlt2 h.2)])
            clear HN
            generalize S j = y at *
            generalize pc j = c at *
            go_wp2_with fail
            refine (HXj.out _ (HSW.out.next BR.out.below)).mono ?_
            rintro e w5 ⟨rfl, hb5⟩
            have B5 := Lib.hid (BR.out.next hsz hb5)
            have hz5 := hb5.size
            clear hb5
            go_wp2_with fail
            refine (HSj.out _).mono ?_
            rintro e w6 ⟨rfl, rfl⟩
            go_wp2_with fail
            go_roundw
            case rel => exact ⟨j + 1, by omega, by go_num, by rw [HN2.out], B5.out, by omega⟩
            case measure => simp [intOf]; omega
      · have HJ := Lib.hid (show j = 2 ^ m by have := HW.out; have := HP.out; omega)
        go_wp2_with fail
        skip
        go_ret
        exact ⟨by rw [HJ.out]; rfl, BR.out.below⟩
  · rw [Bool.not_eq_true] at hv
    have HE := Lib.hid (snB_bad hv)
    rw [HE.out]
    rw [hv] at HV
    clear hv HE
    go_enter Tryz.func74, Tryz.ntmps74
    go_wp2_with fail
    refine (HV.out _ (H.out.below (by go_grown) (Nat.le_refl _))).mono ?_
    rintro e w1 ⟨rfl, hb⟩
    have B1 := Lib.hid ((Box.made n (.slice a zs.length cap) w _).next (by simp) hb)
    clear hb
    go_wp2_with fail
    go_ret
    exact ⟨rfl, B1.out.below⟩

end Go.Proofs.YtnmilfkocheaiaaGreatDoor
