/- Counting what is shattered and what is strong: Pajor's inequality, its dual, the extremal ones. Families of n points as predicates on the numbers below 2 to n. No conditions. What is shattered, strong, and how many sets there are, of a class: counted. Conditions: the class is valid. -/
import Derived.Test.YtpkilacappjkhaaZC
import Derived.Test.YtpkilacappjkhaaZD
namespace Go.Proofs.Ytpkilacappjkhaa
open Go.RowKit

/-- the half with the last point -/
def up (n : Nat) (f : Nat → Bool) : Nat → Bool := fun s => f (s + 2 ^ n)
def orF (f g : Nat → Bool) : Nat → Bool := fun s => f s || g s
def andF (f g : Nat → Bool) : Nat → Bool := fun s => f s && g s
def notF (f : Nat → Bool) : Nat → Bool := fun s => !f s
/-- how many there are -/
def cnt : Nat → (Nat → Bool) → Nat
  | 0, f => if f 0 then 1 else 0
  | n + 1, f => cnt n f + cnt n (up n f)
/-- what is shattered -/
def shF : Nat → (Nat → Bool) → Nat → Bool
  | 0, f, _ => f 0
  | n + 1, f, s => if s < 2 ^ n then shF n (orF f (up n f)) s else shF n f (s - 2 ^ n) && shF n (up n f) (s - 2 ^ n)
/-- along what there are cubes -/
def stF : Nat → (Nat → Bool) → Nat → Bool
  | 0, f, _ => f 0
  | n + 1, f, s => if s < 2 ^ n then stF n f s || stF n (up n f) s else stF n (andF f (up n f)) (s - 2 ^ n)

theorem cnt_congr {n : Nat} {f g : Nat → Bool} (h : ∀ s, s < 2 ^ n → f s = g s) : cnt n f = cnt n g := by
  induction n generalizing f g with
  | zero => simp [cnt, h 0 (by simp)]
  | succ n ih =>
    rw [cnt, cnt, ih (fun s hs => h s (by rw [Nat.pow_succ]; omega)), ih (f := up n f) (g := up n g) (fun s hs => h (s + 2 ^ n) (by rw [Nat.pow_succ]; omega))]
theorem cnt_mono {n : Nat} {f g : Nat → Bool} (h : ∀ s, s < 2 ^ n → f s = true → g s = true) : cnt n f ≤ cnt n g := by
  induction n generalizing f g with
  | zero =>
    have h0 := h 0 (by simp)
    unfold cnt
    cases hf : f 0 <;> cases hg : g 0 <;> simp_all
  | succ n ih =>
    have h1 := ih (f := f) (g := g) (fun s hs => h s (by rw [Nat.pow_succ]; omega))
    have h2 := ih (f := up n f) (g := up n g) (fun s hs => h (s + 2 ^ n) (by rw [Nat.pow_succ]; omega))
    rw [cnt, cnt]
    omega
/-- of two, one in the other, of one number, are one -/
theorem cnt_same {n : Nat} {f g : Nat → Bool} (h : ∀ s, s < 2 ^ n → f s = true → g s = true) (he : cnt n g ≤ cnt n f) : ∀ s, s < 2 ^ n → f s = g s := by
  induction n generalizing f g with
  | zero =>
    intro s hs
    obtain rfl : s = 0 := by simp at hs; omega
    have h0 := h 0 (by simp)
    unfold cnt at he
    cases hf : f 0 <;> cases hg : g 0 <;> simp_all
  | succ n ih =>
    have a1 : ∀ s, s < 2 ^ n → f s = true → g s = true := fun s hs => h s (by rw [Nat.pow_succ]; omega)
    have a2 : ∀ s, s < 2 ^ n → up n f s = true → up n g s = true := fun s hs => h (s + 2 ^ n) (by rw [Nat.pow_succ]; omega)
    have h1 := cnt_mono a1
    have h2 := cnt_mono a2
    rw [cnt, cnt] at he
    intro s hs
    rw [Nat.pow_succ] at hs
    by_cases hlt : s < 2 ^ n
    · exact ih a1 (by omega) s hlt
    · have := ih a2 (by omega) (s - 2 ^ n) (by omega)
      unfold up at this
      rw [show s - 2 ^ n + 2 ^ n = s by omega] at this
      exact this
theorem cnt_or_and (n : Nat) (f g : Nat → Bool) : cnt n (orF f g) + cnt n (andF f g) = cnt n f + cnt n g := by
  induction n generalizing f g with
  | zero => unfold cnt orF andF; cases f 0 <;> cases g 0 <;> simp
  | succ n ih =>
    have h1 := ih f g
    have h2 := ih (up n f) (up n g)
    simp only [cnt]
    have e1 : up n (orF f g) = orF (up n f) (up n g) := rfl
    have e2 : up n (andF f g) = andF (up n f) (up n g) := rfl
    rw [e1, e2]
    omega
theorem cnt_not (n : Nat) (f : Nat → Bool) : cnt n f + cnt n (notF f) = 2 ^ n := by
  induction n generalizing f with
  | zero => unfold cnt notF; cases f 0 <;> simp
  | succ n ih =>
    have h1 := ih f
    have h2 := ih (up n f)
    simp only [cnt]
    have e1 : up n (notF f) = notF (up n f) := rfl
    rw [e1, Nat.pow_succ]
    omega
theorem cnt_filter (n : Nat) (f : Nat → Bool) : ((List.range (2 ^ n)).filter f).length = cnt n f := by
  induction n generalizing f with
  | zero =>
    show ((List.range 1).filter f).length = _
    rw [show List.range 1 = [0] from rfl]
    cases h : f 0 <;> simp [cnt, h]
  | succ n ih =>
    have e : List.range (2 ^ (n + 1)) = List.range (2 ^ n) ++ (List.range (2 ^ n)).map (fun x => 2 ^ n + x) := by
      rw [Nat.pow_succ, show 2 ^ n * 2 = 2 ^ n + 2 ^ n by omega]
      exact List.range_add
    rw [e, List.filter_append, List.length_append, ih, cnt, List.filter_map, List.length_map]
    congr 1
    rw [← ih]
    congr 1
    apply List.filter_congr
    intro x _
    simp [up, Nat.add_comm]

theorem shF_congr {n : Nat} {f g : Nat → Bool} (h : ∀ s, s < 2 ^ n → f s = g s) (s : Nat) : shF n f s = shF n g s := by
  induction n generalizing f g s with
  | zero => simp [shF, h 0 (by simp)]
  | succ n ih =>
    have a1 : ∀ s, s < 2 ^ n → f s = g s := fun s hs => h s (by rw [Nat.pow_succ]; omega)
    have a2 : ∀ s, s < 2 ^ n → up n f s = up n g s := fun s hs => h (s + 2 ^ n) (by rw [Nat.pow_succ]; omega)
    simp only [shF]
    rw [ih a1, ih a2, ih (f := orF f (up n f)) (g := orF g (up n g)) (fun s hs => by unfold orF; rw [a1 s hs, a2 s hs])]
theorem stF_congr {n : Nat} {f g : Nat → Bool} (h : ∀ s, s < 2 ^ n → f s = g s) (s : Nat) : stF n f s = stF n g s := by
  induction n generalizing f g s with
  | zero => simp [stF, h 0 (by simp)]
  | succ n ih =>
    have a1 : ∀ s, s < 2 ^ n → f s = g s := fun s hs => h s (by rw [Nat.pow_succ]; omega)
    have a2 : ∀ s, s < 2 ^ n → up n f s = up n g s := fun s hs => h (s + 2 ^ n) (by rw [Nat.pow_succ]; omega)
    simp only [stF]
    rw [ih a1, ih a2, ih (f := andF f (up n f)) (g := andF g (up n g)) (fun s hs => by unfold andF; rw [a1 s hs, a2 s hs])]
theorem shF_mono {n : Nat} {f g : Nat → Bool} (h : ∀ s, s < 2 ^ n → f s = true → g s = true) (s : Nat) (hs : shF n f s = true) : shF n g s = true := by
  induction n generalizing f g s with
  | zero => exact h 0 (by simp) hs
  | succ n ih =>
    have a1 : ∀ s, s < 2 ^ n → f s = true → g s = true := fun s hs => h s (by rw [Nat.pow_succ]; omega)
    have a2 : ∀ s, s < 2 ^ n → up n f s = true → up n g s = true := fun s hs => h (s + 2 ^ n) (by rw [Nat.pow_succ]; omega)
    simp only [shF] at hs ⊢
    split at hs
    · rename_i hlt
      rw [if_pos hlt]
      refine ih (f := orF f (up n f)) (fun t ht hh => ?_) _ hs
      simp only [orF, Bool.or_eq_true] at hh ⊢
      rcases hh with hh | hh
      · exact .inl (a1 t ht hh)
      · exact .inr (a2 t ht hh)
    · rename_i hlt
      rw [if_neg hlt]
      rw [Bool.and_eq_true] at hs ⊢
      exact ⟨ih a1 _ hs.1, ih a2 _ hs.2⟩
theorem shF_or (n : Nat) (f g : Nat → Bool) (s : Nat) (h : shF n f s = true ∨ shF n g s = true) : shF n (orF f g) s = true := by
  rcases h with h | h
  · exact shF_mono (fun t _ ht => by simp [orF, ht]) s h
  · exact shF_mono (fun t _ ht => by simp [orF, ht]) s h
theorem shF_and (n : Nat) (f g : Nat → Bool) (s : Nat) (h : shF n (andF f g) s = true) : shF n f s = true ∧ shF n g s = true :=
  ⟨shF_mono (fun t _ ht => by simp only [andF, Bool.and_eq_true] at ht; exact ht.1) s h, shF_mono (fun t _ ht => by simp only [andF, Bool.and_eq_true] at ht; exact ht.2) s h⟩
theorem cnt_sh_succ (n : Nat) (f : Nat → Bool) : cnt (n + 1) (shF (n + 1) f) = cnt n (shF n (orF f (up n f))) + cnt n (andF (shF n f) (shF n (up n f))) := by
  rw [cnt]
  congr 1
  · exact cnt_congr (fun s hs => by simp only [shF]; rw [if_pos hs])
  · exact cnt_congr (fun s hs => by simp only [up, shF, andF]; rw [if_neg (by omega), Nat.add_sub_cancel])
theorem cnt_st_succ (n : Nat) (f : Nat → Bool) : cnt (n + 1) (stF (n + 1) f) = cnt n (orF (stF n f) (stF n (up n f))) + cnt n (stF n (andF f (up n f))) := by
  rw [cnt]
  congr 1
  · exact cnt_congr (fun s hs => by simp only [stF, orF]; rw [if_pos hs])
  · exact cnt_congr (fun s hs => by simp only [up, stF]; rw [if_neg (by omega), Nat.add_sub_cancel])
theorem sh_below (n : Nat) (f : Nat → Bool) : cnt n (orF (shF n f) (shF n (up n f))) ≤ cnt n (shF n (orF f (up n f))) :=
  cnt_mono (fun s _ hs => by
    simp only [orF, Bool.or_eq_true] at hs
    exact shF_or n _ _ s hs)
/-- at least as many are shattered as there are -/
theorem pajor (n : Nat) (f : Nat → Bool) : cnt n f ≤ cnt n (shF n f) := by
  induction n generalizing f with
  | zero => exact Nat.le_refl _
  | succ n ih =>
    have h1 := ih f
    have h2 := ih (up n f)
    have h3 := cnt_or_and n (shF n f) (shF n (up n f))
    have h4 := sh_below n f
    rw [cnt_sh_succ, cnt]
    omega
theorem st_sh (n : Nat) (f : Nat → Bool) (s : Nat) (h : stF n f s = true) : shF n f s = true := by
  induction n generalizing f s with
  | zero => exact h
  | succ n ih =>
    simp only [shF, stF] at h ⊢
    split at h
    · rename_i hlt
      rw [if_pos hlt]
      rw [Bool.or_eq_true] at h
      exact shF_or n _ _ s (h.imp (ih _ _) (ih _ _))
    · rename_i hlt
      rw [if_neg hlt, Bool.and_eq_true]
      exact shF_and n _ _ _ (ih _ _ h)
/-- the complement -/
theorem st_not (n : Nat) (f : Nat → Bool) (s : Nat) (hs : s < 2 ^ n) : stF n f s = !shF n (notF f) (2 ^ n - 1 - s) := by
  induction n generalizing f s with
  | zero => simp [stF, shF, notF]
  | succ n ih =>
    rw [Nat.pow_succ] at hs ⊢
    simp only [shF, stF]
    by_cases hlt : s < 2 ^ n
    · rw [if_pos hlt, if_neg (by omega), ih f s hlt, ih (up n f) s hlt, Bool.not_and, show 2 ^ n * 2 - 1 - s - 2 ^ n = 2 ^ n - 1 - s by omega]
      rfl
    · rw [if_neg hlt, if_pos (by omega), ih _ _ (by omega), show 2 ^ n - 1 - (s - 2 ^ n) = 2 ^ n * 2 - 1 - s by omega]
      congr 1
      exact shF_congr (fun t _ => by simp [notF, andF, orF, up]) _
theorem cnt_rev (n : Nat) (f : Nat → Bool) : cnt n (fun s => f (2 ^ n - 1 - s)) = cnt n f := by
  induction n generalizing f with
  | zero => simp [cnt]
  | succ n ih =>
    rw [cnt, cnt, Nat.add_comm (cnt n f)]
    congr 1
    · rw [← ih (up n f)]
      exact cnt_congr (fun s hs => by simp only [up]; congr 1; rw [Nat.pow_succ]; omega)
    · rw [← ih f]
      exact cnt_congr (fun s hs => by simp only [up]; congr 1; rw [Nat.pow_succ]; omega)
theorem cnt_st_not (n : Nat) (f : Nat → Bool) : cnt n (stF n f) + cnt n (shF n (notF f)) = 2 ^ n := by
  rw [← cnt_not n (shF n (notF f)), Nat.add_comm]
  congr 1
  rw [← cnt_rev n (notF (shF n (notF f)))]
  exact cnt_congr (fun s hs => st_not n f s hs)
theorem not_not (f : Nat → Bool) : notF (notF f) = f := by funext s; simp [notF]
theorem cnt_sh_not (n : Nat) (f : Nat → Bool) : cnt n (stF n (notF f)) + cnt n (shF n f) = 2 ^ n := by
  have := cnt_st_not n (notF f)
  rw [not_not] at this
  exact this
/-- at most as many are strong as there are -/
theorem strong_le (n : Nat) (f : Nat → Bool) : cnt n (stF n f) ≤ cnt n f := by
  have h1 := cnt_st_not n f
  have h2 := pajor n (notF f)
  have h3 := cnt_not n f
  omega
/-- those that shatter as many as they are have as many cubes -/
theorem ext_st (n : Nat) (f : Nat → Bool) (h : cnt n (shF n f) = cnt n f) : cnt n (stF n f) = cnt n f := by
  induction n generalizing f with
  | zero => rfl
  | succ n ih =>
    have h1 := pajor n f
    have h2 := pajor n (up n f)
    have h3 := cnt_or_and n (shF n f) (shF n (up n f))
    have h4 := sh_below n f
    have h5 := pajor n (andF f (up n f))
    have h6 := cnt_or_and n f (up n f)
    have h7 := pajor n (orF f (up n f))
    have h8 : cnt n (shF n (andF f (up n f))) ≤ cnt n (andF (shF n f) (shF n (up n f))) := cnt_mono (fun s _ hs => by
      simp only [andF, Bool.and_eq_true]
      exact shF_and n _ _ s hs)
    rw [cnt_sh_succ, cnt] at h
    have e1 : cnt n (shF n f) = cnt n f := by omega
    have e2 : cnt n (shF n (up n f)) = cnt n (up n f) := by omega
    have e3 : cnt n (shF n (andF f (up n f))) = cnt n (andF f (up n f)) := by omega
    have s1 := ih f e1
    have s2 := ih (up n f) e2
    have s3 := ih (andF f (up n f)) e3
    have k1 := cnt_same (n := n) (fun s _ => st_sh n f s) (by omega)
    have k2 := cnt_same (n := n) (fun s _ => st_sh n (up n f) s) (by omega)
    have k3 : cnt n (orF (stF n f) (stF n (up n f))) = cnt n (orF (shF n f) (shF n (up n f))) := cnt_congr (fun s hs => by simp only [orF]; rw [k1 s hs, k2 s hs])
    rw [cnt_st_succ, cnt]
    omega
theorem st_ext (n : Nat) (f : Nat → Bool) (h : cnt n (stF n f) = cnt n f) : cnt n (shF n f) = cnt n f := by
  have h1 := cnt_st_not n f
  have h2 := cnt_not n f
  have h3 := cnt_sh_not n f
  have h4 := ext_st n (notF f) (by omega)
  omega
theorem ext_not (n : Nat) (f : Nat → Bool) (h : cnt n (shF n f) = cnt n f) : cnt n (shF n (notF f)) = cnt n (notF f) := by
  have h1 := cnt_st_not n f
  have h2 := cnt_not n f
  have h4 := ext_st n f h
  omega

/-- the numbers below 2 to n with the point n -/
theorem and_high {n a b : Nat} (hn : n < 5) (ha : a < 2 ^ n) (hb : b < 2 ^ n) : (a + 2 ^ n) &&& b = a &&& b ∧ a &&& (b + 2 ^ n) = a &&& b ∧ (a + 2 ^ n) &&& (b + 2 ^ n) = (a &&& b) + 2 ^ n ∧ a &&& b < 2 ^ n := by
  have key : ∀ n : Fin 5, ∀ a : Fin 16, ∀ b : Fin 16, (a : Nat) < 2 ^ (n : Nat) → (b : Nat) < 2 ^ (n : Nat) → ((a : Nat) + 2 ^ (n : Nat)) &&& (b : Nat) = (a : Nat) &&& (b : Nat) ∧ (a : Nat) &&& ((b : Nat) + 2 ^ (n : Nat)) = (a : Nat) &&& (b : Nat) ∧ ((a : Nat) + 2 ^ (n : Nat)) &&& ((b : Nat) + 2 ^ (n : Nat)) = ((a : Nat) &&& (b : Nat)) + 2 ^ (n : Nat) ∧ (a : Nat) &&& (b : Nat) < 2 ^ (n : Nat) := by decide +kernel
  have h16 : 2 ^ n ≤ 16 := by
    have : n = 0 ∨ n = 1 ∨ n = 2 ∨ n = 3 ∨ n = 4 := by omega
    rcases this with rfl | rfl | rfl | rfl | rfl <;> decide
  exact key ⟨n, hn⟩ ⟨a, by omega⟩ ⟨b, by omega⟩ ha hb

/-- shattered: each part is met -/
theorem shF_iff {n : Nat} (hn : n ≤ 5) (f : Nat → Bool) {s : Nat} (hs : s < 2 ^ n) : shF n f s = true ↔ ∀ t, t < 2 ^ n → t &&& s = t → ∃ u, u < 2 ^ n ∧ f u = true ∧ u &&& s = t := by
  induction n generalizing f s with
  | zero =>
    obtain rfl : s = 0 := by simp at hs; omega
    simp only [shF]
    constructor
    · intro h t ht _
      exact ⟨0, by simp, h, by simp at ht; subst ht; rfl⟩
    · intro h
      obtain ⟨u, hu, hf, _⟩ := h 0 (by simp) (by simp)
      obtain rfl : u = 0 := by simp at hu; omega
      exact hf
  | succ n ih =>
    simp only [shF]
    have hn5 : n < 5 := by omega
    have hp : 2 ^ (n + 1) = 2 ^ n + 2 ^ n := by rw [Nat.pow_succ]; omega
    by_cases hlt : s < 2 ^ n
    · rw [if_pos hlt, ih (by omega) _ hlt]
      constructor
      · intro h t ht hts
        have htl : t < 2 ^ n := by
          have := (and_high hn5 (a := s) (b := s) hlt hlt).2.2.2
          have h3 : t ≤ s := by rw [← hts]; exact Nat.and_le_right
          omega
        obtain ⟨u, hu, hf, he⟩ := h t htl hts
        simp only [orF, Bool.or_eq_true] at hf
        rcases hf with hf | hf
        · exact ⟨u, by omega, hf, he⟩
        · exact ⟨u + 2 ^ n, by omega, hf, by rw [(and_high hn5 hu hlt).1]; exact he⟩
      · intro h t ht hts
        obtain ⟨u, hu, hf, he⟩ := h t (by omega) hts
        by_cases hul : u < 2 ^ n
        · exact ⟨u, hul, by simp [orF, hf], he⟩
        · refine ⟨u - 2 ^ n, by omega, ?_, ?_⟩
          · simp only [orF, up]
            rw [show u - 2 ^ n + 2 ^ n = u by omega, hf, Bool.or_true]
          · rw [← (and_high hn5 (a := u - 2 ^ n) (b := s) (by omega) hlt).1, show u - 2 ^ n + 2 ^ n = u by omega]
            exact he
    · rw [if_neg hlt, Bool.and_eq_true, ih (by omega) f (by omega), ih (by omega) (up n f) (by omega)]
      obtain ⟨r, rfl⟩ : ∃ r, s = r + 2 ^ n := ⟨s - 2 ^ n, by omega⟩
      have hr : r < 2 ^ n := by omega
      rw [Nat.add_sub_cancel]
      constructor
      · rintro ⟨h0, h1⟩ t ht hts
        by_cases htl : t < 2 ^ n
        · rw [(and_high hn5 htl hr).2.1] at hts
          obtain ⟨u, hu, hf, he⟩ := h0 t htl hts
          exact ⟨u, by omega, hf, by rw [(and_high hn5 hu hr).2.1]; exact he⟩
        · obtain ⟨q, rfl⟩ : ∃ q, t = q + 2 ^ n := ⟨t - 2 ^ n, by omega⟩
          rw [(and_high hn5 (a := q) (by omega) hr).2.2.1] at hts
          obtain ⟨u, hu, hf, he⟩ := h1 q (by omega) (by omega)
          exact ⟨u + 2 ^ n, by omega, hf, by rw [(and_high hn5 hu hr).2.2.1, he]⟩
      · intro h
        constructor
        · intro t ht hts
          obtain ⟨u, hu, hf, he⟩ := h t (by omega) (by rw [(and_high hn5 ht hr).2.1]; exact hts)
          by_cases hul : u < 2 ^ n
          · exact ⟨u, hul, hf, by rw [← (and_high hn5 hul hr).2.1]; exact he⟩
          · exfalso
            obtain ⟨q, rfl⟩ : ∃ q, u = q + 2 ^ n := ⟨u - 2 ^ n, by omega⟩
            rw [(and_high hn5 (a := q) (by omega) hr).2.2.1] at he
            omega
        · intro t ht hts
          obtain ⟨u, hu, hf, he⟩ := h (t + 2 ^ n) (by omega) (by rw [(and_high hn5 ht hr).2.2.1, hts])
          by_cases hul : u < 2 ^ n
          · exfalso
            rw [(and_high hn5 hul hr).2.1] at he
            have := (and_high hn5 hul hr).2.2.2
            omega
          · obtain ⟨q, rfl⟩ : ∃ q, u = q + 2 ^ n := ⟨u - 2 ^ n, by omega⟩
            rw [(and_high hn5 (a := q) (by omega) hr).2.2.1] at he
            exact ⟨q, by omega, hf, by omega⟩

end Go.Proofs.Ytpkilacappjkhaa

namespace Go.Proofs.Ytpkilacappjkhaa
open Go.RowKit

theorem compl_bit {n s : Nat} (hs : s < 2 ^ n) (i : Nat) : (2 ^ n - 1 - s).testBit i = (decide (i < n) && !s.testBit i) := by
  rw [show 2 ^ n - 1 - s = 2 ^ n - (s + 1) by omega]
  exact Nat.testBit_two_pow_sub_succ hs i
theorem bit_out {n u i : Nat} (hu : u < 2 ^ n) (hi : ¬ i < n) : u.testBit i = false :=
  Nat.testBit_lt_two_pow (Nat.lt_of_lt_of_le hu (Nat.pow_le_pow_right (by omega) (by omega)))
/-- strong: there is a cube -/
theorem stF_iff {n : Nat} (hn : n ≤ 5) (f : Nat → Bool) {s : Nat} (hs : s < 2 ^ n) : stF n f s = true ↔ ∃ c, c < 2 ^ n ∧ c &&& s = 0 ∧ ∀ t, t < 2 ^ n → t &&& s = t → f (c ||| t) = true := by
  have h2 : 2 ^ n - 1 - s < 2 ^ n := by have := Nat.two_pow_pos n; omega
  rw [st_not n f s hs]
  constructor
  · intro h
    have h3 : ¬ shF n (notF f) (2 ^ n - 1 - s) = true := by simpa using h
    rw [shF_iff hn _ h2] at h3
    apply Classical.byContradiction
    intro hno
    apply h3
    intro t ht hts
    apply Classical.byContradiction
    intro hno2
    apply hno
    have hb : ∀ i, t.testBit i = (t.testBit i && (decide (i < n) && !s.testBit i)) := fun i => by
      have := congrArg (fun x => x.testBit i) hts
      simp only [Nat.testBit_and] at this
      rw [compl_bit hs] at this
      exact this.symm
    refine ⟨t, ht, ?_, ?_⟩
    · apply Nat.eq_of_testBit_eq
      intro i
      have := hb i
      simp only [Nat.testBit_and, Nat.zero_testBit]
      cases h1 : t.testBit i <;> cases h4 : s.testBit i <;> simp_all
    · intro x hx hxs
      cases hf : f (t ||| x) with
      | true => rfl
      | false =>
        exfalso
        apply hno2
        refine ⟨t ||| x, Nat.or_lt_two_pow ht hx, by simp [notF, hf], ?_⟩
        apply Nat.eq_of_testBit_eq
        intro i
        have h5 := hb i
        have h6 := congrArg (fun x => x.testBit i) hxs
        simp only [Nat.testBit_and] at h6
        rw [Nat.testBit_and, Nat.testBit_or, compl_bit hs]
        cases h1 : t.testBit i <;> cases h4 : s.testBit i <;> cases h7 : x.testBit i <;> simp_all
  · rintro ⟨c, hc, hcs, hf⟩
    have h3 : ¬ shF n (notF f) (2 ^ n - 1 - s) = true := by
      rw [shF_iff hn _ h2]
      intro h
      have hcb : ∀ i, (c.testBit i && s.testBit i) = false := fun i => by
        have := congrArg (fun x => x.testBit i) hcs
        simpa using this
      obtain ⟨u, hu, hfu, he⟩ := h c hc (by
        apply Nat.eq_of_testBit_eq
        intro i
        rw [Nat.testBit_and, compl_bit hs]
        have h5 := hcb i
        by_cases hi : i < n
        · cases h1 : c.testBit i <;> cases h4 : s.testBit i <;> simp_all
        · simp [bit_out hc hi])
      have h6 := hf (u &&& s) (Nat.lt_of_le_of_lt Nat.and_le_right hs) (by rw [Nat.and_assoc, Nat.and_self])
      have h7 : c ||| (u &&& s) = u := by
        apply Nat.eq_of_testBit_eq
        intro i
        have h8 := congrArg (fun x => x.testBit i) he
        simp only [Nat.testBit_and] at h8
        rw [compl_bit hs] at h8
        rw [Nat.testBit_or, Nat.testBit_and, ← h8]
        by_cases hi : i < n
        · cases h1 : u.testBit i <;> cases h4 : s.testBit i <;> simp_all
        · simp [bit_out hu hi]
      rw [h7] at h6
      simp [notF, h6] at hfu
    simpa using h3

/-- is it one of them? -/
def inF (ns : List Nat) : Nat → Bool := fun s => decide (s ∈ ns)
theorem cnt_eq_one (n a : Nat) : cnt n (fun p => decide (p = a)) ≤ 1 := by
  induction n generalizing a with
  | zero => unfold cnt; split <;> omega
  | succ n ih =>
    rw [cnt]
    by_cases h : a < 2 ^ n
    · have h1 := ih a
      have h2 : cnt n (up n (fun p => decide (p = a))) = cnt n (fun _ => false) := cnt_congr (fun s _ => by simp [up]; omega)
      have h3 : ∀ n, cnt n (fun _ => false) = 0 := fun n => by
        induction n with
        | zero => rfl
        | succ n ih => rw [cnt, ih, Nat.zero_add]; exact ih
      rw [h2, h3]
      omega
    · have h1 := ih (a - 2 ^ n)
      have h2 : cnt n (fun p => decide (p = a)) = cnt n (fun _ => false) := cnt_congr (fun s hs => by simp; omega)
      have h3 : ∀ n, cnt n (fun _ => false) = 0 := fun n => by
        induction n with
        | zero => rfl
        | succ n ih => rw [cnt, ih, Nat.zero_add]; exact ih
      have h4 : cnt n (up n (fun p => decide (p = a))) = cnt n (fun p => decide (p = a - 2 ^ n)) := cnt_congr (fun s _ => by simp only [up]; rw [decide_eq_decide]; omega)
      rw [h2, h3, h4]
      omega
theorem cnt_none (n : Nat) : cnt n (fun _ => false) = 0 := by
  induction n with
  | zero => rfl
  | succ n ih => rw [cnt, ih, Nat.zero_add]; exact ih
theorem cnt_in_le (n : Nat) (l : List Nat) : cnt n (inF l) ≤ l.length := by
  induction l with
  | nil => rw [cnt_congr (g := fun _ => false) (fun s _ => by simp [inF]), cnt_none]; exact Nat.zero_le _
  | cons a l ih =>
    have h1 : cnt n (inF (a :: l)) = cnt n (orF (fun p => decide (p = a)) (inF l)) := cnt_congr (fun s _ => by simp [inF, orF])
    have h2 := cnt_or_and n (fun p => decide (p = a)) (inF l)
    have h3 := cnt_eq_one n a
    rw [h1, List.length_cons]
    omega
theorem Cls.self {m : Nat} {ns : List Nat} (h : Cls m ns) : (List.range (2 ^ m)).filter (inF ns) = ns :=
  asc_ext ((range_asc _).filter _) h.asc (fun x => by simp [inF]; exact fun hx => h.lt x hx)
theorem Cls.cnt {m : Nat} {ns : List Nat} (h : Cls m ns) : cnt m (inF ns) = ns.length := by
  rw [← cnt_filter, h.self]
theorem inF_filter (m : Nat) (p : Nat → Bool) (s : Nat) (hs : s < 2 ^ m) : inF ((List.range (2 ^ m)).filter p) s = p s := by
  rw [inF, Bool.eq_iff_iff]
  simp [hs]

theorem sub_count {s : Nat} (hs : s < 32) : cnt 5 (fun p => p &&& s == p) = 2 ^ pc s := by
  have key : ∀ s : Fin 32, cnt 5 (fun p => p &&& (s : Nat) == p) = 2 ^ pc (s : Nat) := by decide +kernel
  exact key ⟨s, hs⟩
theorem tr_count (ns : List Nat) (s : Nat) : (tr ns s).length = cnt 5 (fun p => ns.any (fun t => t &&& s == p)) := by
  rw [tr, flt, ← cnt_filter]
theorem tr_le (ns : List Nat) (s : Nat) : (tr ns s).length ≤ ns.length := by
  rw [tr_count, cnt_congr (g := inF (ns.map (fun t => t &&& s))) (fun p _ => by
    rw [Bool.eq_iff_iff]
    simp [inF])]
  have := cnt_in_le 5 (ns.map (fun t => t &&& s))
  simpa using this
/-- shattered, in two spellings -/
theorem sht_sh {m : Nat} {ns : List Nat} (h : Cls m ns) {s : Nat} (hs : s < 2 ^ m) : sht ns s = shF m (inF ns) s := by
  have h32 : s < 32 := Nat.lt_of_lt_of_le hs (pow_le_32 h.pts)
  rw [Bool.eq_iff_iff, shF_iff h.pts _ hs, sht, decide_eq_true_eq, tr_count, ← sub_count h32]
  have hsub : ∀ p, p < 2 ^ 5 → ns.any (fun t => t &&& s == p) = true → (p &&& s == p) = true := by
    intro p _ hp
    rw [List.any_eq_true] at hp
    obtain ⟨t, _, ht⟩ := hp
    rw [beq_iff_eq] at ht
    rw [beq_iff_eq, ← ht, Nat.and_assoc, Nat.and_self]
  constructor
  · intro he t ht hts
    have h1 := cnt_same hsub (by omega) t (Nat.lt_of_lt_of_le ht (pow_le_32 h.pts))
    have h2 : (t &&& s == t) = true := by rw [hts]; simp
    rw [h2, List.any_eq_true] at h1
    obtain ⟨u, hu, he⟩ := h1
    rw [beq_iff_eq] at he
    exact ⟨u, h.lt u hu, by simp [inF, hu], he⟩
  · intro hall
    refine cnt_congr (fun p hp => ?_)
    rw [Bool.eq_iff_iff]
    refine ⟨hsub p hp, fun hps => ?_⟩
    rw [beq_iff_eq] at hps
    have hps2 : p ≤ s := by rw [← hps]; exact Nat.and_le_right
    obtain ⟨u, _, hf, he⟩ := hall p (by omega) hps
    rw [List.any_eq_true]
    exact ⟨u, by simpa [inF] using hf, by rw [he]; simp⟩
theorem strg_st {m : Nat} {ns : List Nat} (h : Cls m ns) {s : Nat} (hs : s < 2 ^ m) : strg ns s = stF m (inF ns) s := by
  rw [Bool.eq_iff_iff, strg_iff, stF_iff h.pts _ hs]
  have hsub : ∀ t, t &&& s = t → t < s + 1 := fun t ht => by
    have : t ≤ s := by rw [← ht]; exact Nat.and_le_right
    omega
  constructor
  · rintro ⟨c, hm, hc⟩
    simp only [crn, Bool.and_eq_true, cubTo, List.all_eq_true, List.mem_range, beq_iff_eq] at hc
    refine ⟨c, h.lt c hm, hc.1, fun t ht hts => ?_⟩
    have := hc.2 t (hsub t hts)
    simpa [inF, hts] using this
  · rintro ⟨c, hc, hcs, hf⟩
    have h0 := hf 0 (Nat.two_pow_pos m) (by simp)
    simp only [inF, Nat.or_zero, decide_eq_true_eq] at h0
    refine ⟨c, h0, ?_⟩
    simp only [crn, Bool.and_eq_true, cubTo, List.all_eq_true, List.mem_range, beq_iff_eq]
    refine ⟨hcs, fun t ht => ?_⟩
    by_cases hts : t &&& s = t
    · have := hf t (by omega) hts
      simp only [inF] at this
      simp [this]
    · simp [hts]
theorem sht_count {m : Nat} {ns : List Nat} (h : Cls m ns) : ((List.range (2 ^ m)).filter (sht ns)).length = cnt m (shF m (inF ns)) := by
  rw [cnt_filter]
  exact cnt_congr (fun s hs => sht_sh h hs)
theorem strg_count {m : Nat} {ns : List Nat} (h : Cls m ns) : ((List.range (2 ^ m)).filter (strg ns)).length = cnt m (stF m (inF ns)) := by
  rw [cnt_filter]
  exact cnt_congr (fun s hs => strg_st h hs)
theorem cmpl_cls {m : Nat} {ns : List Nat} (h : Cls m ns) : Cls m (cmpl m ns) := by
  refine ⟨h.pts, ?_, ?_⟩
  all_goals first | exact (range_asc _).filter _ | exact fun t ht => List.mem_range.1 (List.mem_filter.1 ht).1
theorem cmpl_in {m : Nat} {ns : List Nat} {s : Nat} (hs : s < 2 ^ m) : inF (cmpl m ns) s = notF (inF ns) s := inF_filter m _ s hs

theorem widTo_ge (ns : List Nat) {j k : Nat} (h : j < k) : (pc (ns.getD j 0) : Int) ≤ widTo ns k := by
  induction k with
  | zero => omega
  | succ k ih =>
    simp only [widTo]
    by_cases e : j = k
    · subst e; omega
    · have := ih (by omega); omega
theorem widTo_at (ns : List Nat) (k : Nat) : widTo ns k = -1 ∨ ∃ j, j < k ∧ widTo ns k = (pc (ns.getD j 0) : Int) := by
  induction k with
  | zero => exact .inl rfl
  | succ k ih =>
    simp only [widTo]
    by_cases e : widTo ns k ≤ pc (ns.getD k 0)
    · exact .inr ⟨k, by omega, by omega⟩
    · rcases ih with h | ⟨j, hj, h⟩
      · have := (widTo_bd ns k).1; omega
      · exact .inr ⟨j, by omega, by omega⟩
theorem widL_ge {ns : List Nat} {s : Nat} (h : s ∈ ns) : (pc s : Int) ≤ widL ns := by
  obtain ⟨j, hj, e⟩ := List.getElem_of_mem h
  have := widTo_ge ns hj
  rw [List.getD_eq_getElem?_getD, List.getElem?_eq_getElem hj] at this
  rw [← e]
  exact this
theorem widL_at (ns : List Nat) : widL ns = -1 ∨ ∃ s ∈ ns, widL ns = (pc s : Int) := by
  rcases widTo_at ns ns.length with h | ⟨j, hj, h⟩
  · exact .inl h
  · exact .inr ⟨_, getD_of_lt hj, h⟩
/-- the dimension of a class of n points -/
def vcL (m : Nat) (ns : List Nat) : Int := widL ((List.range (2 ^ m)).filter (sht ns))
theorem vcB_in {m : Nat} {ns : List Nat} (h : vldB m (toI ns) = true) : vcB m (toI ns) = vcL m ns := by rw [vcB, shatN_in h, vcL]
theorem cntTo_cnt (m : Nat) (d : Int) : cntTo d (2 ^ m) = cnt m (fun s => decide ((pc s : Int) ≤ d)) := by rw [cntTo, cnt_filter]
/-- no more sets than small ones -/
theorem sauer {m : Nat} {ns : List Nat} (h : Cls m ns) : (ns.length : Int) ≤ sauerB m (vcL m ns) := by
  have h1 := pajor m (inF ns)
  rw [h.cnt, ← sht_count h] at h1
  have h2 : ((List.range (2 ^ m)).filter (sht ns)).length ≤ cntTo (vcL m ns) (2 ^ m) := by
    rw [cnt_filter, cntTo_cnt]
    refine cnt_mono (fun s hs hh => decide_eq_true ?_)
    exact widL_ge (List.mem_filter.2 ⟨List.mem_range.2 hs, hh⟩)
  have hp := h.pts
  rw [sauerB, if_neg (by omega), Int.toNat_natCast]
  omega
theorem sht_none (s : Nat) : sht [] s = false := by
  have : (tr [] s).length = 0 := by have := tr_le [] s; simpa using this
  rw [sht, this, decide_eq_false_iff_not]
  have := Nat.two_pow_pos (pc s)
  omega
theorem vcL_neg {m : Nat} {ns : List Nat} (h : Cls m ns) : vcL m ns < 0 ↔ ns = [] := by
  constructor
  · intro hv
    have h1 := pajor m (inF ns)
    rw [h.cnt, ← sht_count h] at h1
    cases e : (List.range (2 ^ m)).filter (sht ns) with
    | nil => rw [e] at h1; exact List.length_eq_zero_iff.1 (by simpa using h1)
    | cons a l =>
      have := widL_ge (ns := (List.range (2 ^ m)).filter (sht ns)) (s := a) (by rw [e]; simp)
      unfold vcL at hv
      omega
  · rintro rfl
    have : (List.range (2 ^ m)).filter (sht []) = [] := List.filter_eq_nil_iff.2 (fun s _ => by rw [sht_none]; simp)
    rw [vcL, this]
    decide
theorem vcL_pow {m : Nat} {ns : List Nat} (hv : 0 ≤ vcL m ns) : 2 ^ (vcL m ns).toNat ≤ ns.length := by
  rcases widL_at ((List.range (2 ^ m)).filter (sht ns)) with h | ⟨s, hs, h⟩
  · unfold vcL at hv; omega
  · have h1 := (List.mem_filter.1 hs).2
    rw [sht, decide_eq_true_eq] at h1
    have h2 := tr_le ns s
    rw [show (vcL m ns).toNat = pc s by unfold vcL; rw [h]; simp]
    omega
theorem vcL_bd (m : Nat) (ns : List Nat) : -1 ≤ vcL m ns ∧ vcL m ns ≤ 5 := widTo_bd _ _

end Go.Proofs.Ytpkilacappjkhaa
