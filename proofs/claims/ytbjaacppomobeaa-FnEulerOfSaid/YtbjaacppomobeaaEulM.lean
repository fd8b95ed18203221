/- Euler's number of a class: by the last point, of extremal classes 1, of flipped ones the same. No program. -/
import Derived.Test.YtbjaacppomobeaaCcM
import Derived.Test.YtbjaacppomobeaaShfM
namespace Go.Proofs.Ytbjaacppomobeaa
open Go.RowKit

/-- Euler's number -/
def chF : Nat → (Nat → Bool) → Int
  | 0, f => if f 0 then 1 else 0
  | n + 1, f => chF n f + chF n (up n f) - chF n (andF f (up n f))
theorem chF_congr {n : Nat} {f g : Nat → Bool} (h : ∀ s, s < 2 ^ n → f s = g s) : chF n f = chF n g := by
  induction n generalizing f g with
  | zero => simp [chF, h 0 (by simp)]
  | succ n ih =>
    have h1 : ∀ s, s < 2 ^ n → f s = g s := fun s hs => h s (by rw [Nat.pow_succ]; omega)
    have h2 : ∀ s, s < 2 ^ n → up n f s = up n g s := fun s hs => h (s + 2 ^ n) (by rw [Nat.pow_succ]; omega)
    rw [chF, chF, ih h1, ih h2, ih (f := andF f (up n f)) (g := andF g (up n g)) (fun s hs => by simp only [andF]; rw [h1 s hs, h2 s hs])]
theorem chF_flip {n : Nat} (hn : n ≤ 5) (f : Nat → Bool) {x : Nat} (hx : x < 2 ^ n) : chF n (xorF x f) = chF n f := by
  induction n generalizing f x with
  | zero =>
    obtain rfl : x = 0 := by simp at hx; omega
    simp [chF, xorF]
  | succ n ih =>
    obtain ⟨y, hy, ⟨h1, h2⟩ | ⟨h1, h2⟩⟩ := flip_parts (by omega) f hx
    · rw [chF, chF, chF_congr h1, chF_congr h2, ih (by omega) f hy, ih (by omega) (up n f) hy, chF_congr (f := andF (xorF x f) (up n (xorF x f))) (g := xorF y (andF f (up n f))) (fun t ht => by simp only [andF]; rw [h1 t ht, h2 t ht]; rfl), ih (by omega) _ hy]
    · rw [chF, chF, chF_congr h1, chF_congr h2, ih (by omega) f hy, ih (by omega) (up n f) hy, chF_congr (f := andF (xorF x f) (up n (xorF x f))) (g := xorF y (andF f (up n f))) (fun t ht => by simp only [andF]; rw [h1 t ht, h2 t ht, Bool.and_comm]; rfl), ih (by omega) _ hy]
      omega

/-- what is shattered is strong -/
def ampF (n : Nat) (f : Nat → Bool) : Prop := ∀ s, s < 2 ^ n → shF n f s = true → stF n f s = true
theorem stF_mono {n : Nat} (hn : n ≤ 5) {f g : Nat → Bool} (h : ∀ s, f s = true → g s = true) {s : Nat} (hs : s < 2 ^ n) (k : stF n f s = true) : stF n g s = true := by
  obtain ⟨c, c1, c2, c3⟩ := (stF_iff hn f hs).1 k
  exact (stF_iff hn g hs).2 ⟨c, c1, c2, fun t ht he => h _ (c3 t ht he)⟩
theorem cnt_pos {n : Nat} (hn : n ≤ 5) {f : Nat → Bool} {s : Nat} (hs : s < 2 ^ n) (k : shF n f s = true) : cnt n f ≠ 0 := by
  obtain ⟨u, hu, hf, _⟩ := (shF_iff hn f hs).1 k 0 (Nat.two_pow_pos n) (Nat.zero_and s)
  have h1 : cnt n (fun p => decide (p = u)) ≤ cnt n f := cnt_mono (fun s _ he => by
    have := of_decide_eq_true he
    rw [this]; exact hf)
  rw [cnt_one hu] at h1
  omega
theorem amp_parts {n : Nat} (hn : n < 5) {f : Nat → Bool} (h : ampF (n + 1) f) : ampF n f ∧ ampF n (up n f) ∧ ampF n (andF f (up n f)) ∧ (cnt n f ≠ 0 → cnt n (up n f) ≠ 0 → cnt n (andF f (up n f)) ≠ 0) := by
  have hp : 2 ^ (n + 1) = 2 ^ n + 2 ^ n := by rw [Nat.pow_succ]; omega
  have hA : ∀ s, s < 2 ^ n → shF n f s = true → shF n (up n f) s = true → stF n (andF f (up n f)) s = true := fun s hs k1 k2 => by
    have h1 := h (s + 2 ^ n) (by omega) (by rw [shF, if_neg (by omega), Nat.add_sub_cancel, k1, k2]; rfl)
    rw [stF, if_neg (by omega), Nat.add_sub_cancel] at h1
    exact h1
  have hB : ∀ s, s < 2 ^ n → shF n (orF f (up n f)) s = true → stF n f s = true ∨ stF n (up n f) s = true := fun s hs k => by
    have h1 := h s (by omega) (by rw [shF, if_pos hs]; exact k)
    rw [stF, if_pos hs, Bool.or_eq_true] at h1
    exact h1
  have m1 : ∀ s, andF f (up n f) s = true → f s = true := fun s k => by simp only [andF, Bool.and_eq_true] at k; exact k.1
  have m2 : ∀ s, andF f (up n f) s = true → up n f s = true := fun s k => by simp only [andF, Bool.and_eq_true] at k; exact k.2
  refine ⟨fun s hs k => ?_, fun s hs k => ?_, fun s hs k => ?_, fun k1 k2 => ?_⟩
  · rcases hB s hs (shF_or n f (up n f) s (.inl k)) with h1 | h1
    · exact h1
    · exact stF_mono (by omega) m1 hs (hA s hs k (st_sh n _ s h1))
  · rcases hB s hs (shF_or n f (up n f) s (.inr k)) with h1 | h1
    · exact stF_mono (by omega) m2 hs (hA s hs (st_sh n _ s h1) k)
    · exact h1
  · have := shF_and n f (up n f) s k
    exact hA s hs this.1 this.2
  · exact cnt_pos (by omega) (Nat.two_pow_pos n) (st_sh n _ 0 (hA 0 (Nat.two_pow_pos n) (shF_zero k1) (shF_zero k2)))
theorem chF_amp {n : Nat} (hn : n ≤ 5) {f : Nat → Bool} (h : ampF n f) : chF n f = if cnt n f = 0 then 0 else 1 := by
  induction n generalizing f with
  | zero => rw [chF, cnt]; cases f 0 <;> rfl
  | succ n ih =>
    obtain ⟨h1, h2, h3, h4⟩ := amp_parts (by omega) h
    rw [chF, ih (by omega) h1, ih (by omega) h2, ih (by omega) h3, cnt]
    have l1 : cnt n (andF f (up n f)) ≤ cnt n f := cnt_mono (fun s _ k => by simp only [andF, Bool.and_eq_true] at k; exact k.1)
    have l2 : cnt n (andF f (up n f)) ≤ cnt n (up n f) := cnt_mono (fun s _ k => by simp only [andF, Bool.and_eq_true] at k; exact k.2)
    by_cases a : cnt n f = 0
    · rw [if_pos a, if_pos (show cnt n (andF f (up n f)) = 0 by omega)]
      by_cases b : cnt n (up n f) = 0
      · rw [if_pos b, if_pos (by omega)]; rfl
      · rw [if_neg b, if_neg (by omega)]; rfl
    · by_cases b : cnt n (up n f) = 0
      · rw [if_neg a, if_pos b, if_pos (show cnt n (andF f (up n f)) = 0 by omega), if_neg (by omega)]; rfl
      · rw [if_neg a, if_neg b, if_neg (h4 a b), if_neg (by omega)]; rfl

/-- the sum over the sets of n points -/
def smF : Nat → (Nat → Int) → Int
  | 0, g => g 0
  | n + 1, g => smF n g + smF n (fun s => g (s + 2 ^ n))
theorem smF_congr {n : Nat} {f g : Nat → Int} (h : ∀ s, s < 2 ^ n → f s = g s) : smF n f = smF n g := by
  induction n generalizing f g with
  | zero => exact h 0 (by simp)
  | succ n ih =>
    rw [smF, smF, ih (fun s hs => h s (by rw [Nat.pow_succ]; omega)), ih (f := fun s => f (s + 2 ^ n)) (g := fun s => g (s + 2 ^ n)) (fun s hs => h (s + 2 ^ n) (by rw [Nat.pow_succ]; omega))]
theorem smF_add (n : Nat) (f g : Nat → Int) : smF n (fun s => f s + g s) = smF n f + smF n g := by
  induction n generalizing f g with
  | zero => rfl
  | succ n ih =>
    rw [smF, smF, smF, ih, ih (fun s => f (s + 2 ^ n)) (fun s => g (s + 2 ^ n))]
    omega
theorem smF_neg (n : Nat) (f : Nat → Int) : smF n (fun s => - f s) = - smF n f := by
  induction n generalizing f with
  | zero => rfl
  | succ n ih =>
    rw [smF, smF, ih, ih (fun s => f (s + 2 ^ n))]
    omega
theorem smF_zero (n : Nat) : smF n (fun _ => 0) = 0 := by
  induction n with
  | zero => rfl
  | succ n ih => rw [smF, ih]; rfl
theorem sum_range (n : Nat) (g : Nat → Int) : ((List.range (2 ^ n)).map g).sum = smF n g := by
  induction n generalizing g with
  | zero => show ((List.range 1).map g).sum = _; simp [smF]
  | succ n ih =>
    have e : List.range (2 ^ (n + 1)) = List.range (2 ^ n) ++ (List.range (2 ^ n)).map (fun x => 2 ^ n + x) := by
      rw [Nat.pow_succ, show 2 ^ n * 2 = 2 ^ n + 2 ^ n by omega]
      exact List.range_add
    rw [e, List.map_append, List.sum_append, ih, List.map_map, smF, ← ih (fun s => g (s + 2 ^ n))]
    congr 2
    apply List.map_congr_left
    intro x _
    show g (2 ^ n + x) = _
    rw [Nat.add_comm]
/-- a cube at a along b -/
def crB (f : Nat → Bool) (b a : Nat) : Bool := (a &&& b == 0) && cubTo f a b (b + 1)
theorem crB_iff {n : Nat} {f : Nat → Bool} {b a : Nat} (hb : b < 2 ^ n) : crB f b a = true ↔ a &&& b = 0 ∧ ∀ t, t < 2 ^ n → t &&& b = t → f (a ||| t) = true := by
  simp only [crB, Bool.and_eq_true, cubTo, List.all_eq_true, List.mem_range, beq_iff_eq]
  constructor
  · rintro ⟨h1, h2⟩
    refine ⟨h1, fun t _ he => ?_⟩
    have hle : t ≤ b := by rw [← he]; exact Nat.and_le_right
    have := h2 t (by omega)
    simpa [he] using this
  · rintro ⟨h1, h2⟩
    refine ⟨h1, fun t ht => ?_⟩
    by_cases he : t &&& b = t
    · simp [he, h2 t (by omega) he]
    · simp [he]
theorem or_high {n a b : Nat} (hn : n < 5) (ha : a < 2 ^ n) (hb : b < 2 ^ n) : (a + 2 ^ n) ||| b = (a ||| b) + 2 ^ n ∧ a ||| (b + 2 ^ n) = (a ||| b) + 2 ^ n := by
  have key : ∀ n : Fin 5, ∀ a : Fin 16, ∀ b : Fin 16, (a : Nat) < 2 ^ (n : Nat) → (b : Nat) < 2 ^ (n : Nat) → ((a : Nat) + 2 ^ (n : Nat)) ||| (b : Nat) = ((a : Nat) ||| (b : Nat)) + 2 ^ (n : Nat) ∧ (a : Nat) ||| ((b : Nat) + 2 ^ (n : Nat)) = ((a : Nat) ||| (b : Nat)) + 2 ^ (n : Nat) := by decide +kernel
  have h16 := sixteen hn
  exact key ⟨n, hn⟩ ⟨a, by omega⟩ ⟨b, by omega⟩ ha hb
theorem cr_parts {n : Nat} (hn : n < 5) (f : Nat → Bool) {a b : Nat} (ha : a < 2 ^ n) (hb : b < 2 ^ n) :
    crB f b (a + 2 ^ n) = crB (up n f) b a ∧ crB f (b + 2 ^ n) a = crB (andF f (up n f)) b a ∧ crB f (b + 2 ^ n) (a + 2 ^ n) = false := by
  have hp : 2 ^ (n + 1) = 2 ^ n + 2 ^ n := by rw [Nat.pow_succ]; omega
  obtain ⟨a1, a2, a3, _⟩ := and_high hn ha hb
  refine ⟨?_, ?_, ?_⟩
  · rw [Bool.eq_iff_iff, crB_iff hb, crB_iff hb, a1]
    constructor
    · rintro ⟨h1, h2⟩
      refine ⟨h1, fun t ht he => ?_⟩
      have := h2 t ht he
      rw [(or_high hn ha ht).1] at this
      exact this
    · rintro ⟨h1, h2⟩
      refine ⟨h1, fun t ht he => ?_⟩
      rw [(or_high hn ha ht).1]
      exact h2 t ht he
  · rw [Bool.eq_iff_iff, crB_iff (n := n + 1) (by omega), crB_iff hb, a2]
    constructor
    · rintro ⟨h1, h2⟩
      refine ⟨h1, fun t ht he => ?_⟩
      have k1 := h2 t (by omega) (by rw [(and_high hn ht hb).2.1]; exact he)
      have k2 := h2 (t + 2 ^ n) (by omega) (by rw [(and_high hn ht hb).2.2.1, he])
      rw [(or_high hn ha ht).2] at k2
      simp only [andF, up, k1, k2]; rfl
    · rintro ⟨h1, h2⟩
      refine ⟨h1, fun t ht he => ?_⟩
      by_cases hlt : t < 2 ^ n
      · rw [(and_high hn hlt hb).2.1] at he
        have := h2 t hlt he
        simp only [andF, Bool.and_eq_true] at this
        exact this.1
      · obtain ⟨r, rfl⟩ : ∃ r, t = r + 2 ^ n := ⟨t - 2 ^ n, by omega⟩
        have hr : r < 2 ^ n := by omega
        rw [(and_high hn hr hb).2.2.1] at he
        have := h2 r hr (by omega)
        simp only [andF, Bool.and_eq_true] at this
        rw [(or_high hn ha hr).2]
        exact this.2
  · rw [Bool.eq_false_iff]
    intro h
    have := (crB_iff (n := n + 1) (by omega)).1 h
    have h1 := this.1
    rw [a3] at h1
    have := Nat.two_pow_pos n
    omega
/-- even ones count, odd ones count against -/
def sgn (b : Nat) : Int := if pc b % 2 = 0 then 1 else -1
theorem sgn_up {n b : Nat} (hn : n < 5) (hb : b < 2 ^ n) : sgn (b + 2 ^ n) = - sgn b := by
  rw [sgn, sgn, pc_up hn hb]
  by_cases h : pc b % 2 = 0
  · rw [if_pos h, if_neg (by omega)]
  · rw [if_neg h, if_pos (by omega)]; rfl
def euF (n : Nat) (f : Nat → Bool) : Int := smF n (fun a => smF n (fun b => if crB f b a = true then sgn b else 0))
theorem eu_ch {n : Nat} (hn : n ≤ 5) (f : Nat → Bool) : euF n f = chF n f := by
  induction n generalizing f with
  | zero =>
    show (if crB f 0 0 = true then sgn 0 else 0) = _
    rw [chF, show sgn 0 = 1 by decide]
    have : crB f 0 0 = f 0 := by simp [crB, cubTo]
    rw [this]
  | succ n ih =>
    rw [chF, ← ih (by omega) f, ← ih (by omega) (up n f), ← ih (by omega) (andF f (up n f))]
    rw [euF, smF]
    have e1 : smF n (fun a => smF (n + 1) (fun b => if crB f b a = true then sgn b else 0)) = euF n f + - euF n (andF f (up n f)) := by
      rw [euF, euF, ← smF_neg, ← smF_add]
      apply smF_congr
      intro a ha
      rw [smF, ← smF_neg]
      congr 1
      apply smF_congr
      intro b hb
      rw [(cr_parts (by omega) f ha hb).2.1, sgn_up (by omega) hb]
      split <;> rfl
    have e2 : smF n (fun a => smF (n + 1) (fun b => if crB f b (a + 2 ^ n) = true then sgn b else 0)) = euF n (up n f) := by
      rw [euF]
      apply smF_congr
      intro a ha
      rw [smF, smF_congr (f := fun b => if crB f (b + 2 ^ n) (a + 2 ^ n) = true then sgn (b + 2 ^ n) else 0) (g := fun _ => 0) (fun b hb => by rw [(cr_parts (by omega) f ha hb).2.2]; rfl), smF_zero, Int.add_zero]
      apply smF_congr
      intro b hb
      rw [(cr_parts (by omega) f ha hb).1]
    rw [e1, e2]
    omega
theorem eul_sum (es : List (Int × Int)) : eulTo es es.length = (es.map (fun e => sgn e.2.toNat)).sum := by
  have h : ∀ k, k ≤ es.length → eulTo es k = ((es.take k).map (fun e => sgn e.2.toNat)).sum := by
    intro k
    induction k with
    | zero => intro _; rfl
    | succ k ih =>
      intro hk
      rw [eulTo_succ, ih (by omega), List.take_succ_eq_append_getElem (by omega), List.map_append, List.sum_append, List.getD_eq_getElem?_getD, List.getElem?_eq_getElem (show k < es.length by omega)]
      simp [sgn]
  have := h es.length (Nat.le_refl _)
  rw [List.take_length] at this
  exact this
theorem sum_flat {α : Type} (l : List α) (g : α → List Int) : (l.flatMap g).sum = (l.map (fun a => (g a).sum)).sum := by
  induction l with
  | nil => rfl
  | cons a l ih => rw [List.flatMap_cons, List.sum_append, ih, List.map_cons, List.sum_cons]
theorem sum_filt {α : Type} (l : List α) (p : α → Bool) (g : α → Int) : ((l.filter p).map g).sum = (l.map (fun a => if p a = true then g a else 0)).sum := by
  induction l with
  | nil => rfl
  | cons a l ih =>
    rw [List.filter_cons]
    cases h : p a with
    | true => rw [if_pos rfl, List.map_cons, List.map_cons, List.sum_cons, List.sum_cons, ih, if_pos h]
    | false => rw [if_neg (by decide), List.map_cons, List.sum_cons, ih, if_neg (by rw [h]; decide), Int.zero_add]
/-- what EulerOf answers is Euler's number -/
theorem eul_ch {m : Nat} {ns : List Nat} (h : Cls m ns) : eulTo (cbTo ns m ns.length) (cbTo ns m ns.length).length = chF m (inF ns) := by
  rw [eul_sum, ← cs_cb h, ← eu_ch h.pts, csTo, List.map_flatMap, sum_flat, sum_range, euF]
  apply smF_congr
  intro a _
  rw [cbIn, List.map_map]
  rw [← sum_range, ← sum_filt]
  rfl
/-- of an extremal class, and a set, it is 1 -/
theorem eul_ext {m : Nat} {ns : List Nat} (h : Cls m ns) (he : extL m ns) (hne : ns ≠ []) : eulTo (cbTo ns m ns.length) (cbTo ns m ns.length).length = 1 := by
  have hb := ext_both h he
  have ha : ampF m (inF ns) := fun s hs hh => by
    rw [← sht_sh h hs] at hh
    have : s ∈ (List.range (2 ^ m)).filter (strg ns) := by rw [hb, List.mem_filter, List.mem_range]; exact ⟨hs, hh⟩
    rw [List.mem_filter] at this
    rw [← strg_st h hs]
    exact this.2
  rw [eul_ch h, chF_amp h.pts ha, h.cnt, if_neg (fun e => hne (List.eq_nil_of_length_eq_zero e))]
theorem eul_flip {m x : Nat} {ns : List Nat} (h : Cls m ns) (hx : x < 2 ^ m) : eulTo (cbTo (flp x ns) m (flp x ns).length) (cbTo (flp x ns) m (flp x ns).length).length = eulTo (cbTo ns m ns.length) (cbTo ns m ns.length).length := by
  rw [eul_ch h, eul_ch (flp_cls h hx), chF_congr (fun s _ => inF_flp h hx s), chF_flip h.pts _ hx]

end Go.Proofs.Ytbjaacppomobeaa
