/- A shift shatters no more, has no fewer strong sets and no fewer edges. No program. -/
import Derived.Test.YtbjaacppomobeaaEdC
namespace Go.Proofs.Ytbjaacppomobeaa
open Go.RowKit

theorem sF_ins {n x : Nat} (hn : n < 5) (hx : x ≤ n) (f : Nat → Bool) {s : Nat} (hs : s < 2 ^ n) :
    shF (n + 1) f (ins x s) = shF n (orF (dnX x f) (upX x f)) s ∧ shF (n + 1) f (ins x s + 2 ^ x) = (shF n (dnX x f) s && shF n (upX x f) s) ∧
    stF (n + 1) f (ins x s) = (stF n (dnX x f) s || stF n (upX x f) s) ∧ stF (n + 1) f (ins x s + 2 ^ x) = stF n (andF (dnX x f) (upX x f)) s := by
  induction n generalizing x f s with
  | zero =>
    obtain rfl : x = 0 := by omega
    obtain rfl : s = 0 := by simp at hs; omega
    exact ⟨rfl, rfl, rfl, rfl⟩
  | succ n ih =>
    have hp : 2 ^ (n + 1) = 2 ^ n + 2 ^ n := by rw [Nat.pow_succ]; omega
    by_cases e : x = n + 1
    · subst e
      have h1 := dn_top (n := n + 1) f
      rw [ins_top hs, show shF (n + 1 + 1) f s = shF (n + 1) (orF f (up (n + 1) f)) s by rw [shF, if_pos hs], show shF (n + 1 + 1) f (s + 2 ^ (n + 1)) = (shF (n + 1) f s && shF (n + 1) (up (n + 1) f) s) by rw [shF, if_neg (by omega), Nat.add_sub_cancel], show stF (n + 1 + 1) f s = (stF (n + 1) f s || stF (n + 1) (up (n + 1) f) s) by rw [stF, if_pos hs], show stF (n + 1 + 1) f (s + 2 ^ (n + 1)) = stF (n + 1) (andF f (up (n + 1) f)) s by rw [stF, if_neg (by omega), Nat.add_sub_cancel]]
      rw [shF_congr (f := orF (dnX (n + 1) f) (upX (n + 1) f)) (g := orF f (up (n + 1) f)) (fun t ht => by simp only [orF]; rw [(h1 t ht).1, (h1 t ht).2]), shF_congr (f := dnX (n + 1) f) (fun t ht => (h1 t ht).1), shF_congr (f := upX (n + 1) f) (fun t ht => (h1 t ht).2), stF_congr (f := dnX (n + 1) f) (fun t ht => (h1 t ht).1), stF_congr (f := upX (n + 1) f) (fun t ht => (h1 t ht).2), stF_congr (f := andF (dnX (n + 1) f) (upX (n + 1) f)) (g := andF f (up (n + 1) f)) (fun t ht => by simp only [andF]; rw [(h1 t ht).1, (h1 t ht).2])]
      exact ⟨rfl, rfl, rfl, rfl⟩
    · have hx2 : x ≤ n := by omega
      have hd := dn_up (n := n) (x := x) (by omega) hx2 f
      by_cases hlt : s < 2 ^ n
      · obtain ⟨i1, i2, _⟩ := ins_facts (n := n) (x := x) (t := s) (by omega) hx2 hlt
        obtain ⟨a1, a2, -, -⟩ := ih (by omega) hx2 (orF f (up (n + 1) f)) hlt
        obtain ⟨-, -, b3, b4⟩ := ih (by omega) hx2 f hlt
        obtain ⟨-, -, c3, c4⟩ := ih (by omega) hx2 (up (n + 1) f) hlt
        refine ⟨?_, ?_, ?_, ?_⟩
        · rw [shF, if_pos i1, a1, shF, if_pos hlt]
          apply shF_congr
          intro t ht
          obtain ⟨h1, h2⟩ := hd t ht
          simp only [orF, up, dnX, upX] at h1 h2 ⊢
          rw [h1, h2]
          ac_rfl
        · rw [shF, if_pos i2, a2, shF, if_pos hlt, shF, if_pos hlt]
          congr 1
          · apply shF_congr
            intro t ht
            obtain ⟨h1, h2⟩ := hd t ht
            simp only [orF, up, dnX] at h1 ⊢
            rw [h1]
          · apply shF_congr
            intro t ht
            obtain ⟨h1, h2⟩ := hd t ht
            simp only [orF, up, upX] at h2 ⊢
            rw [h2]
        · rw [stF, if_pos i1, b3, c3, stF, if_pos hlt, stF, if_pos hlt, stF_congr (f := up n (dnX x f)) (fun t ht => (hd t ht).1), stF_congr (f := up n (upX x f)) (fun t ht => (hd t ht).2)]
          ac_rfl
        · rw [stF, if_pos i2, b4, c4, stF, if_pos hlt]
          congr 1
          apply stF_congr
          intro t ht
          obtain ⟨h1, h2⟩ := hd t ht
          simp only [andF, up] at h1 h2 ⊢
          rw [h1, h2]
      · obtain ⟨r, rfl⟩ : ∃ r, s = r + 2 ^ n := ⟨s - 2 ^ n, by omega⟩
        have hr : r < 2 ^ n := by omega
        obtain ⟨a1, a2, -, -⟩ := ih (by omega) hx2 f hr
        obtain ⟨b1, b2, -, -⟩ := ih (by omega) hx2 (up (n + 1) f) hr
        obtain ⟨-, -, c3, c4⟩ := ih (by omega) hx2 (andF f (up (n + 1) f)) hr
        have hpx := Nat.two_pow_pos x
        have e1 := ins_up (n := n) (x := x) (t := r) (by omega) hx2 hr
        have e2 : ins x (r + 2 ^ n) + 2 ^ x = ins x r + 2 ^ x + 2 ^ (n + 1) := by rw [e1]; omega
        obtain ⟨i1, i2, _⟩ := ins_facts (n := n) (x := x) (t := r) (by omega) hx2 hr
        refine ⟨?_, ?_, ?_, ?_⟩
        · rw [e1, shF, if_neg (by omega), Nat.add_sub_cancel, a1, b1, shF, if_neg (by omega), Nat.add_sub_cancel]
          congr 1
          apply shF_congr
          intro t ht
          obtain ⟨h1, h2⟩ := hd t ht
          simp only [orF, up] at h1 h2 ⊢
          rw [h1, h2]
        · rw [e2, shF, if_neg (by omega), Nat.add_sub_cancel, a2, b2, shF, if_neg (by omega), Nat.add_sub_cancel, shF, if_neg (by omega), Nat.add_sub_cancel, shF_congr (f := up n (dnX x f)) (fun t ht => (hd t ht).1), shF_congr (f := up n (upX x f)) (fun t ht => (hd t ht).2)]
          ac_rfl
        · rw [e1, stF, if_neg (by omega), Nat.add_sub_cancel, c3, stF, if_neg (by omega), Nat.add_sub_cancel, stF, if_neg (by omega), Nat.add_sub_cancel]
          congr 1
          · apply stF_congr
            intro t ht
            obtain ⟨h1, h2⟩ := hd t ht
            simp only [andF, up, dnX] at h1 ⊢
            rw [h1]
          · apply stF_congr
            intro t ht
            obtain ⟨h1, h2⟩ := hd t ht
            simp only [andF, up, upX] at h2 ⊢
            rw [h2]
        · rw [e2, stF, if_neg (by omega), Nat.add_sub_cancel, c4, stF, if_neg (by omega), Nat.add_sub_cancel]
          apply stF_congr
          intro t ht
          obtain ⟨h1, h2⟩ := hd t ht
          simp only [andF, up, dnX, upX] at h1 h2 ⊢
          rw [h1, h2]
          ac_rfl

theorem low_ins {n x t : Nat} (hn : n < 5) (hx : x ≤ n) (ht : t < 2 ^ n) : low x (ins x t) = ins x t ∧ low x (ins x t + 2 ^ x) = ins x t := by
  obtain ⟨_, _, _, _, h1, h2, _⟩ := ins_facts hn hx ht
  exact ⟨low_of h1, by rw [low, if_pos h2]; omega⟩
theorem sh_parts {n x : Nat} {ns : List Nat} (h : Cls (n + 1) ns) (hx : x ≤ n) {t : Nat} (ht : t < 2 ^ n) :
    dnX x (inF (sh1 x ns)) t = orF (dnX x (inF ns)) (upX x (inF ns)) t ∧ upX x (inF (sh1 x ns)) t = andF (dnX x (inF ns)) (upX x (inF ns)) t := by
  have hn : n < 5 := by have := h.pts; omega
  obtain ⟨_, _, _, _, h1, h2, _⟩ := ins_facts hn hx ht
  obtain ⟨l1, l2⟩ := low_ins hn hx ht
  have k1 : (ins x t ∈ sh1 x ns) ↔ (ins x t ∈ ns ∨ ins x t + 2 ^ x ∈ ns) := by
    rw [mem_sh1 h.lt32]
    constructor
    · rintro ⟨s, hs, he⟩
      by_cases hl : low x s ∈ ns
      · rw [shs_of_in hl] at he; exact .inl (he ▸ hs)
      · rw [shs_of_out hl] at he
        cases hh : hasX x s with
        | false => rw [low_of hh] at he; exact .inl (he ▸ hs)
        | true =>
          have h3 := low_ge hh
          rw [low, if_pos hh] at he
          exact .inr (by rw [← he, Nat.sub_add_cancel h3]; exact hs)
    · intro hh
      by_cases hi : ins x t ∈ ns
      · exact ⟨_, hi, by rw [shs_of_in (by rw [l1]; exact hi)]⟩
      · rcases hh with hh | hh
        · exact absurd hh hi
        · exact ⟨_, hh, by rw [shs_of_out (by rw [l2]; exact hi), l2]⟩
  have k2 : (ins x t + 2 ^ x ∈ sh1 x ns) ↔ (ins x t ∈ ns ∧ ins x t + 2 ^ x ∈ ns) := by
    rw [mem_sh1 h.lt32]
    constructor
    · rintro ⟨s, hs, he⟩
      by_cases hl : low x s ∈ ns
      · rw [shs_of_in hl] at he
        subst he
        rw [l2] at hl
        exact ⟨hl, hs⟩
      · rw [shs_of_out hl] at he
        have h3 := low_has x s
        rw [he, h2] at h3
        cases h3
    · rintro ⟨ha, hb⟩
      exact ⟨_, hb, shs_of_in (by rw [l2]; exact ha)⟩
  constructor
  · simp only [dnX, upX, orF, inF]
    rw [← Bool.decide_or]
    exact decide_eq_decide.2 k1
  · simp only [dnX, upX, andF, inF]
    rw [← Bool.decide_and]
    exact decide_eq_decide.2 k2
theorem sh_edges {n x : Nat} {ns : List Nat} (h : Cls (n + 1) ns) (hx : x ≤ n) : (egTo ns ns.length).length ≤ (egTo (sh1 x ns) (sh1 x ns).length).length := by
  have hn : n < 5 := by have := h.pts; omega
  rw [eg_count h, eg_count (h.sh1 x), eF_ins hn hx, eF_ins hn hx]
  have h1 := fun t ht => (sh_parts h hx (t := t) ht).1
  have h2 := fun t ht => (sh_parts h hx (t := t) ht).2
  rw [eF_congr h1, eF_congr h2, cnt_congr (f := andF (dnX x (inF (sh1 x ns))) (upX x (inF (sh1 x ns)))) (g := andF (dnX x (inF ns)) (upX x (inF ns))) (fun t ht => by
    show (dnX x (inF (sh1 x ns)) t && upX x (inF (sh1 x ns)) t) = _
    rw [h1 t ht, h2 t ht]
    simp only [orF, andF]
    cases dnX x (inF ns) t <;> cases upX x (inF ns) t <;> rfl)]
  have := eF_sup n (dnX x (inF ns)) (upX x (inF ns))
  omega
theorem sh_both {n x : Nat} {ns : List Nat} (h : Cls (n + 1) ns) (hx : x ≤ n) {s : Nat} (hs : s < 2 ^ (n + 1)) : (sht (sh1 x ns) s = true → sht ns s = true) ∧ (strg ns s = true → strg (sh1 x ns) s = true) := by
  have hn : n < 5 := by have := h.pts; omega
  rw [sht_sh h hs, sht_sh (h.sh1 x) hs, strg_st h hs, strg_st (h.sh1 x) hs]
  obtain ⟨r1, r2, r3⟩ := rmv_facts hn hx hs
  have h1 := fun t ht => (sh_parts h hx (t := t) ht).1
  have h2 := fun t ht => (sh_parts h hx (t := t) ht).2
  obtain ⟨a1, a2, a3, a4⟩ := sF_ins hn hx (inF ns) r1
  obtain ⟨b1, b2, b3, b4⟩ := sF_ins hn hx (inF (sh1 x ns)) r1
  have eor : shF n (orF (dnX x (inF (sh1 x ns))) (upX x (inF (sh1 x ns)))) (rmv x s) = shF n (orF (dnX x (inF ns)) (upX x (inF ns))) (rmv x s) := shF_congr (fun t ht => by
    show (dnX x (inF (sh1 x ns)) t || upX x (inF (sh1 x ns)) t) = _
    rw [h1 t ht, h2 t ht]
    simp only [orF, andF]
    cases dnX x (inF ns) t <;> cases upX x (inF ns) t <;> rfl) _
  have eand : stF n (andF (dnX x (inF (sh1 x ns))) (upX x (inF (sh1 x ns)))) (rmv x s) = stF n (andF (dnX x (inF ns)) (upX x (inF ns))) (rmv x s) := stF_congr (fun t ht => by
    show (dnX x (inF (sh1 x ns)) t && upX x (inF (sh1 x ns)) t) = _
    rw [h1 t ht, h2 t ht]
    simp only [orF, andF]
    cases dnX x (inF ns) t <;> cases upX x (inF ns) t <;> rfl) _
  cases hh : hasX x s with
  | false =>
    have e := r2 hh
    rw [e] at a1 a3 b1 b3
    rw [a1, a3, b1, b3, eor, stF_congr h1]
    refine ⟨id, fun k => ?_⟩
    rw [Bool.or_eq_true] at k ⊢
    refine .inl ?_
    rw [stF_iff (by omega) _ r1]
    rcases k with k | k
    · obtain ⟨c, c1, c2, c3⟩ := (stF_iff (by omega) _ r1).1 k
      exact ⟨c, c1, c2, fun t ht h9 => by simp only [orF, c3 t ht h9, Bool.true_or]⟩
    · obtain ⟨c, c1, c2, c3⟩ := (stF_iff (by omega) _ r1).1 k
      exact ⟨c, c1, c2, fun t ht h9 => by simp only [orF, c3 t ht h9, Bool.or_true]⟩
  | true =>
    have e := r3 hh
    rw [e] at a2 a4 b2 b4
    rw [a2, a4, b2, b4, eand, shF_congr h1, shF_congr h2]
    refine ⟨fun k => ?_, id⟩
    rw [Bool.and_eq_true] at k
    have := shF_and n _ _ _ k.2
    rw [this.1, this.2]; rfl

end Go.Proofs.Ytbjaacppomobeaa
