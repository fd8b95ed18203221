/- The counts of cubes: how many sets, how many edges, how many in all, and in turns. No program. -/
import Derived.Test.YtbjaacppomobeaaCC
import Derived.Test.YtbjaacppomobeaaEdC
namespace Go.Proofs.Ytbjaacppomobeaa
open Go.RowKit

/-- the sum of the first k numbers, each as often as c says -/
def wTo (c : Nat → Int) (l : List Int) : Nat → Int
  | 0 => 0
  | k + 1 => wTo c l k + l.getD k 0 * c k
theorem set_getD (l : List Int) (i k : Nat) (v : Int) (hi : i < l.length) : (l.set i v).getD k 0 = if i = k then v else l.getD k 0 := by
  rw [List.getD_eq_getElem?_getD, List.getElem?_set]
  by_cases e : i = k
  · rw [if_pos e, if_pos e, if_pos hi, Option.getD_some]
  · rw [if_neg e, if_neg e, List.getD_eq_getElem?_getD]
theorem wTo_set (c : Nat → Int) (l : List Int) (i : Nat) (v : Int) (hi : i < l.length) (k : Nat) : wTo c (l.set i v) k = wTo c l k + if i < k then (v - l.getD i 0) * c i else 0 := by
  induction k with
  | zero => simp [wTo]
  | succ k ih =>
    rw [wTo, wTo, ih, set_getD l i k v hi]
    by_cases e : i = k
    · subst e
      rw [if_pos rfl, if_neg (Nat.lt_irrefl i), if_pos (Nat.lt_succ_self i), Int.sub_mul]
      omega
    · rw [if_neg e]
      by_cases h2 : i < k
      · rw [if_pos h2, if_pos (by omega)]; omega
      · rw [if_neg h2, if_neg (by omega)]; omega
theorem wTo_zero (c : Nat → Int) (n k : Nat) : wTo c (List.replicate n 0) k = 0 := by
  induction k with
  | zero => rfl
  | succ k ih =>
    rw [wTo, ih, List.getD_eq_getElem?_getD, List.getElem?_replicate]
    split <;> simp
theorem wTo_cc {m : Nat} {es : List (Int × Int)} (c : Nat → Int) (h : ∀ j, j < es.length → pc (es.getD j (0, 0)).2.toNat ≤ m) (k : Nat) (hk : k ≤ es.length) :
    wTo c (ccTo m es (k + 0)) (m + 1) = ((List.range k).map (fun j => c (pc (es.getD j (0, 0)).2.toNat))).sum := by
  induction k with
  | zero => rw [show ccTo m es (0 + 0) = List.replicate (m + 1) 0 from rfl, wTo_zero]; rfl
  | succ k ih =>
    have h1 := h k (by omega)
    rw [Nat.add_zero, ccTo_succ, wTo_set _ _ _ _ (by rw [ccTo_length]; omega), if_pos (by omega), List.range_succ, List.map_append, List.sum_append, ← ih (by omega)]
    simp only [List.map_cons, List.map_nil, List.sum_cons, List.sum_nil, Nat.add_zero]
    rw [show (ccTo m es k).getD (pc (es.getD k (0, 0)).2.toNat) 0 + 1 - (ccTo m es k).getD (pc (es.getD k (0, 0)).2.toNat) 0 = 1 by omega]
    omega
/-- all counts together are the cubes -/
theorem cc_total {m : Nat} {es : List (Int × Int)} (h : ∀ j, j < es.length → pc (es.getD j (0, 0)).2.toNat ≤ m) : wTo (fun _ => 1) (ccTo m es es.length) (m + 1) = (es.length : Int) := by
  have h1 := wTo_cc (fun _ => 1) h es.length (Nat.le_refl _)
  rw [Nat.add_zero] at h1
  rw [h1]
  generalize es.length = n
  induction n with
  | zero => rfl
  | succ n ih =>
    rw [List.range_succ, List.map_append, List.sum_append, ih]
    simp
/-- in turns they are the Euler number -/
theorem cc_turns {m : Nat} {es : List (Int × Int)} (h : ∀ j, j < es.length → pc (es.getD j (0, 0)).2.toNat ≤ m) : wTo (fun j => 1 - 2 * ((j % 2 : Nat) : Int)) (ccTo m es es.length) (m + 1) = eulTo es es.length := by
  have h1 := wTo_cc (fun j => 1 - 2 * ((j % 2 : Nat) : Int)) h es.length (Nat.le_refl _)
  rw [Nat.add_zero] at h1
  rw [h1]
  generalize es.length = n
  induction n with
  | zero => rfl
  | succ n ih =>
    rw [List.range_succ, List.map_append, List.sum_append, ih, eulTo_succ]
    simp only [List.map_cons, List.map_nil, List.sum_cons, List.sum_nil]
    congr 1
    have := Nat.mod_two_eq_zero_or_one (pc (es.getD n (0, 0)).2.toNat)
    rcases this with e | e <;> rw [e] <;> simp
theorem cc_at {m : Nat} {es : List (Int × Int)} (d : Nat) (k : Nat) (hd : d ≤ m) (hk : k ≤ es.length) : (ccTo m es k).getD d 0 = (((es.take k).countP (fun e => pc e.2.toNat == d) : Nat) : Int) := by
  induction k with
  | zero =>
    rw [show ccTo m es 0 = List.replicate (m + 1) 0 from rfl, List.getD_eq_getElem?_getD, List.getElem?_replicate, if_pos (by omega)]
    simp
  | succ k ih =>
    have h0 := ih (by omega)
    rw [ccTo_succ, List.take_succ_eq_append_getElem (by omega), List.countP_append, List.getD_eq_getElem?_getD, List.getElem?_set]
    have e1 : es.getD k (0, 0) = es[k] := by rw [List.getD_eq_getElem?_getD, List.getElem?_eq_getElem (by omega), Option.getD_some]
    rw [e1]
    by_cases e : pc es[k].2.toNat = d
    · rw [if_pos e, if_pos (by rw [ccTo_length]; omega), Option.getD_some, e, h0]
      simp [e]
    · rw [if_neg e, ← List.getD_eq_getElem?_getD, h0]
      simp [e]
theorem crn_iff {ns : List Nat} {s c : Nat} : crn ns s c = true ↔ c &&& s = 0 ∧ ∀ t, t ≤ s → t &&& s = t → c ||| t ∈ ns := by
  simp only [crn, Bool.and_eq_true, cubTo, List.all_eq_true, List.mem_range, beq_iff_eq]
  constructor
  · rintro ⟨h1, h2⟩
    refine ⟨h1, fun t ht he => ?_⟩
    have := h2 t (by omega)
    simpa [he] using this
  · rintro ⟨h1, h2⟩
    refine ⟨h1, fun t ht => ?_⟩
    by_cases he : t &&& s = t
    · simp [he, h2 t (by omega) he]
    · simp [he]
theorem cb_count {ns : List Nat} {m : Nat} (d : Nat) : (cbTo ns m ns.length).countP (fun e => pc e.2.toNat == d) = (ns.map (fun a => (List.range (2 ^ m)).countP (fun b => (pc b == d) && crn ns b a))).sum := by
  rw [cbTo, List.take_length, List.countP_flatMap]
  congr 1
  apply List.map_congr_left
  intro a _
  show (cbIn ns a (2 ^ m)).countP _ = _
  rw [cbIn, List.countP_map, List.countP_filter]
  apply List.countP_congr
  intro b _
  simp
theorem dim_zero : ∀ m : Fin 6, (List.range (2 ^ m.1)).filter (fun b => pc b == 0) = [0] := by decide +kernel
theorem dim_one : ∀ m : Fin 6, (List.range (2 ^ m.1)).filter (fun b => pc b == 1) = (List.range m.1).map (fun y => 2 ^ y) := by decide +kernel
theorem sub_one : ∀ y : Fin 5, ∀ t : Fin 32, t.1 ≤ 2 ^ y.1 → t.1 &&& 2 ^ y.1 = t.1 → t.1 = 0 ∨ t.1 = 2 ^ y.1 := by decide +kernel
theorem up_one : ∀ y : Fin 5, ∀ a : Fin 32, (a.1 &&& 2 ^ y.1 = 0 ↔ a.1 < a.1 ^^^ 2 ^ y.1) ∧ (a.1 &&& 2 ^ y.1 = 0 → a.1 ||| 2 ^ y.1 = a.1 ^^^ 2 ^ y.1) := by decide +kernel
theorem crn_one {ns : List Nat} {y a : Nat} (hy : y < 5) (ha : a < 32) (hm : a ∈ ns) : crn ns (2 ^ y) a = (decide (a ^^^ 2 ^ y ∈ ns) && decide (a < a ^^^ 2 ^ y)) := by
  rw [Bool.eq_iff_iff, crn_iff, Bool.and_eq_true, decide_eq_true_eq, decide_eq_true_eq]
  obtain ⟨u1, u2⟩ := up_one ⟨y, hy⟩ ⟨a, ha⟩
  dsimp only at u1 u2
  have hp : 2 ^ y < 32 := Nat.pow_lt_pow_right (by omega) (show y < 5 from hy)
  constructor
  · rintro ⟨h1, h2⟩
    have h3 := h2 (2 ^ y) (Nat.le_refl _) (Nat.and_self _)
    rw [u2 h1] at h3
    exact ⟨h3, u1.1 h1⟩
  · rintro ⟨h1, h2⟩
    have h0 := u1.2 h2
    refine ⟨h0, fun t ht he => ?_⟩
    rcases sub_one ⟨y, hy⟩ ⟨t, by omega⟩ ht he with e | e <;> dsimp only at e
    · subst e; rw [Nat.or_zero]; exact hm
    · subst e; rw [u2 h0]; exact h1
theorem crn_nil {ns : List Nat} {a : Nat} (hm : a ∈ ns) : crn ns 0 a = true := by
  rw [crn_iff]
  refine ⟨Nat.and_zero a, fun t ht _ => ?_⟩
  obtain rfl : t = 0 := by omega
  rw [Nat.or_zero]; exact hm
theorem cb_sets {m : Nat} {ns : List Nat} (h : Cls m ns) : (cbTo ns m ns.length).countP (fun e => pc e.2.toNat == 0) = ns.length := by
  rw [cb_count]
  have e1 : ns.map (fun a => (List.range (2 ^ m)).countP (fun b => (pc b == 0) && crn ns b a)) = ns.map (fun _ => 1) := List.map_congr_left (fun a ha => by
    have h1 := dim_zero ⟨m, by have := h.pts; omega⟩
    dsimp only at h1
    have h2 := congrArg (List.countP (fun b => crn ns b a)) h1
    rw [List.countP_filter] at h2
    rw [show (List.range (2 ^ m)).countP (fun b => (pc b == 0) && crn ns b a) = (List.range (2 ^ m)).countP (fun b => crn ns b a && (pc b == 0)) from List.countP_congr (fun b _ => by rw [Bool.and_comm]), h2]
    simp [crn_nil ha])
  rw [e1]
  have h3 : ∀ l : List Nat, (l.map (fun _ => 1)).sum = l.length := fun l => by
    induction l with
    | nil => rfl
    | cons a l ih => rw [List.map_cons, List.sum_cons, ih, List.length_cons]; omega
  exact h3 ns
theorem cb_edges {m : Nat} {ns : List Nat} (h : Cls m ns) : (cbTo ns m ns.length).countP (fun e => pc e.2.toNat == 1) = (egTo ns ns.length).length := by
  have hm := h.pts
  have e1 : ns.map (fun a => (List.range (2 ^ m)).countP (fun b => (pc b == 1) && crn ns b a)) = ns.map (fun a => (List.range m).countP (fun y => crn ns (2 ^ y) a)) := List.map_congr_left (fun a _ => by
    have h1 := dim_one ⟨m, by omega⟩
    dsimp only at h1
    have h2 := congrArg (List.countP (fun b => crn ns b a)) h1
    rw [List.countP_filter, List.countP_map] at h2
    rw [show (List.range (2 ^ m)).countP (fun b => (pc b == 1) && crn ns b a) = (List.range (2 ^ m)).countP (fun b => crn ns b a && (pc b == 1)) from List.countP_congr (fun b _ => by rw [Bool.and_comm]), h2]
    rfl)
  rw [cb_count, e1, eg_count h, eF_sum hm, sum_swap]
  congr 1
  apply List.map_congr_left
  intro y hy
  rw [List.mem_range] at hy
  rw [many_cnt h]
  apply cnt_congr
  intro s hs
  have h32 := pow_le_32 hm
  obtain ⟨x1, x2⟩ := xor_has (y := y) (s := s) (by omega) (by omega)
  show (inF ns s && crn ns (2 ^ y) s) = (inF ns s && (!hasX y s && inF ns (s + 2 ^ y)))
  by_cases hin : s ∈ ns
  · rw [crn_one (by omega) (by omega) hin]
    congr 1
    have hp := Nat.two_pow_pos y
    cases hh : hasX y s with
    | false =>
      rw [x1 hh, show decide (s < s + 2 ^ y) = true from decide_eq_true (by omega)]
      simp [inF]
    | true =>
      rw [show decide (s < s ^^^ 2 ^ y) = false from decide_eq_false (x2 hh)]
      simp
  · rw [show inF ns s = false from decide_eq_false hin]
    rfl

end Go.Proofs.Ytbjaacppomobeaa
