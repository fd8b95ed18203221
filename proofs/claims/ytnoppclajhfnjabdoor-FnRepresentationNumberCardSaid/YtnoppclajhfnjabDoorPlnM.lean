/- The search for a plan: the first one, set by set; the search that goes back; a measure of it. No program. -/
import Derived.ScopeJumps
import Derived.Test.YtnoppclajhfnjabDoorRepM
namespace Go.Proofs.YtnoppclajhfnjabDoor
open Go.RowKit

/-- may s stand for the set behind those of pl? -/
def okP (ns : List Nat) (most : Int) (pl : List Nat) (s : Nat) : Bool := decide (((pc s : Nat) : Int) ≤ most) && !clTo ns (pl ++ [s]) pl.length pl.length
/-- the first plan of k more sets of numbers below q -/
def fndP (ns : List Nat) (most : Int) (q : Nat) : Nat → List Nat → Option (List Nat)
  | 0, pl => some pl
  | k + 1, pl => (List.range q).findSome? (fun s => if okP ns most pl s = true then fndP ns most q k (pl ++ [s]) else none)
/-- the same, from p on -/
def frmP (ns : List Nat) (most : Int) (q k : Nat) (pl : List Nat) (p : Nat) : Option (List Nat) := (List.range' p (q - p)).findSome? (fun s => if okP ns most pl s = true then fndP ns most q k (pl ++ [s]) else none)
section
variable {ns : List Nat} {most : Int} {q : Nat}
theorem fndP_frm (k : Nat) (pl : List Nat) : fndP ns most q (k + 1) pl = frmP ns most q k pl 0 := by rw [fndP, frmP, List.range_eq_range', Nat.sub_zero]
theorem frmP_lt {k p : Nat} {pl : List Nat} (h : p < q) : frmP ns most q k pl p = (if okP ns most pl p = true then fndP ns most q k (pl ++ [p]) else none).or (frmP ns most q k pl (p + 1)) := by
  rw [frmP, frmP, show q - p = (q - (p + 1)) + 1 by omega, List.range'_succ, List.findSome?_cons]
  cases (if okP ns most pl p = true then fndP ns most q k (pl ++ [p]) else none) <;> rfl
theorem frmP_end {k p : Nat} {pl : List Nat} (h : q ≤ p) : frmP ns most q k pl p = none := by rw [frmP, show q - p = 0 by omega]; rfl
/-- what the search finds that has rl (the last one first) and is at p -/
def rsmP (ns : List Nat) (most : Int) (q L : Nat) : List Nat → Nat → Option (List Nat)
  | [], p => frmP ns most q (L - 1) [] p
  | x :: rl, p => (frmP ns most q (L - (rl.length + 1) - 1) (x :: rl).reverse p).or (rsmP ns most q L rl (x + 1))
def stP (ns : List Nat) (most : Int) (q L : Nat) (rl : List Nat) : Option (List Nat) := if rl.length = L then some rl.reverse else rsmP ns most q L rl 0
theorem rsm_skip {L p : Nat} {rl : List Nat} (h : p < q) (ho : okP ns most rl.reverse p = false) : rsmP ns most q L rl p = rsmP ns most q L rl (p + 1) := by
  cases rl with
  | nil =>
    rw [List.reverse_nil] at ho
    rw [rsmP, rsmP, frmP_lt h, ho, if_neg (by decide), Option.none_or]
  | cons x rl => rw [rsmP, rsmP, frmP_lt h, ho, if_neg (by decide), Option.none_or]
theorem rsm_back {L p x : Nat} {rl : List Nat} (h : q ≤ p) : rsmP ns most q L (x :: rl) p = rsmP ns most q L rl (x + 1) := by
  rw [rsmP, frmP_end h, Option.none_or]
theorem rsm_none {L p : Nat} (h : q ≤ p) : rsmP ns most q L [] p = none := by rw [rsmP, frmP_end h]
theorem rsm_push {L p : Nat} {rl : List Nat} (h : p < q) (ho : okP ns most rl.reverse p = true) (hl : rl.length < L) : rsmP ns most q L rl p = stP ns most q L (p :: rl) := by
  have e : ∀ k, rsmP ns most q L rl p = (frmP ns most q (L - rl.length - 1) rl.reverse p).or k → rsmP ns most q L rl (p + 1) = (frmP ns most q (L - rl.length - 1) rl.reverse (p + 1)).or k → rsmP ns most q L rl p = stP ns most q L (p :: rl) := by
    intro k e1 e2
    rw [e1, frmP_lt h, ho, if_pos rfl, stP, List.length_cons]
    by_cases hk : rl.length + 1 = L
    · rw [if_pos hk, show L - rl.length - 1 = 0 by omega, fndP, List.reverse_cons]
      rfl
    · rw [if_neg hk, rsmP, List.reverse_cons, e2, Option.or_assoc, show L - rl.length - 1 = (L - (rl.length + 1) - 1) + 1 by omega, fndP_frm]
  cases rl with
  | nil => exact e none (by rw [rsmP, Option.or_none]; rfl) (by rw [rsmP, Option.or_none]; rfl)
  | cons x rl => exact e (rsmP ns most q L rl (x + 1)) (by rw [rsmP]; rfl) (by rw [rsmP]; rfl)
theorem st_start (L : Nat) : stP ns most q L [] = fndP ns most q L [] := by
  cases L with
  | zero => rfl
  | succ L => rw [stP, if_neg (by simp), rsmP, fndP_frm]; rfl
/-- what is found has been tried -/
theorem fnd_ok : ∀ k pl r, fndP ns most q k pl = some r → ∃ t : List Nat, r = pl ++ t ∧ t.length = k ∧ ∀ j, j < k → t.getD j 0 < q ∧ okP ns most (pl ++ t.take j) (t.getD j 0) = true := by
  intro k
  induction k with
  | zero =>
    intro pl r h
    rw [fndP, Option.some.injEq] at h
    exact ⟨[], by simp [h], rfl, fun j hj => by omega⟩
  | succ k ih =>
    intro pl r h
    rw [fndP] at h
    obtain ⟨s, hs, h2⟩ := List.exists_of_findSome?_eq_some h
    rw [List.mem_range] at hs
    by_cases ho : okP ns most pl s = true
    · rw [if_pos ho] at h2
      obtain ⟨t, h3, h4, h5⟩ := ih _ _ h2
      refine ⟨s :: t, by rw [h3, List.append_assoc]; rfl, by rw [List.length_cons, h4], fun j hj => ?_⟩
      cases j with
      | zero => exact ⟨hs, by simpa using ho⟩
      | succ j =>
        have := h5 j (by omega)
        rw [List.append_assoc] at this
        exact this
    · rw [if_neg ho] at h2
      cases h2
end

/-- the numbers of a search so far, as one number -/
def vlP : List Nat → Nat
  | [] => 0
  | x :: rl => vlP rl * 33 + x
def ttP (L : Nat) (rl : List Nat) (p : Nat) : Nat := (vlP rl * 33 + p) * 33 ^ (L - rl.length)
def msP (L : Nat) (rl : List Nat) (p : Nat) : Nat := (33 ^ (L + 1) - ttP L rl p) * (L + 2) + (L - rl.length)
theorem vl_lt : ∀ {rl : List Nat}, (∀ x ∈ rl, x < 33) → vlP rl < 33 ^ rl.length
  | [], _ => by decide
  | x :: rl, h => by
    have h1 := vl_lt (rl := rl) (fun y hy => h y (List.mem_cons_of_mem _ hy))
    have h2 := h x List.mem_cons_self
    rw [vlP, List.length_cons, Nat.pow_succ]
    omega
theorem tt_lt {L p : Nat} {rl : List Nat} (h : ∀ x ∈ rl, x < 33) (hp : p < 33) (hl : rl.length ≤ L) : ttP L rl p < 33 ^ (L + 1) := by
  have h1 := vl_lt h
  have h2 : vlP rl * 33 + p < 33 ^ rl.length * 33 := by omega
  have h3 : (vlP rl * 33 + p) * 33 ^ (L - rl.length) < 33 ^ rl.length * 33 * 33 ^ (L - rl.length) := Nat.mul_lt_mul_of_pos_right h2 (Nat.pow_pos (by omega))
  have h4 : 33 ^ rl.length * 33 * 33 ^ (L - rl.length) = 33 ^ (L + 1) := by
    rw [← Nat.pow_succ, ← Nat.pow_add]
    congr 1
    omega
  rw [ttP]
  omega
theorem tt_push {L p : Nat} {rl : List Nat} (hl : rl.length < L) : ttP L (p :: rl) 0 = ttP L rl p := by
  rw [ttP, ttP, vlP, List.length_cons, Nat.add_zero, Nat.mul_assoc, ← Nat.pow_succ']
  congr 2
  omega
theorem ms_le {L p p' : Nat} {rl : List Nat} (h : p ≤ p') : msP L rl p' ≤ msP L rl p := by
  have h1 : ttP L rl p ≤ ttP L rl p' := Nat.mul_le_mul_right _ (by omega)
  have h2 : (33 ^ (L + 1) - ttP L rl p') * (L + 2) ≤ (33 ^ (L + 1) - ttP L rl p) * (L + 2) := Nat.mul_le_mul_right _ (by omega)
  rw [msP, msP]
  omega
theorem ms_push {L p : Nat} {rl : List Nat} (hl : rl.length < L) : msP L (p :: rl) 0 < msP L rl p := by
  rw [msP, msP, tt_push hl, List.length_cons]
  omega
theorem ms_back {L p x : Nat} {rl : List Nat} (h : ∀ y ∈ x :: rl, y < 33) (hp : p < 33) (hl : (x :: rl).length ≤ L) : msP L rl (x + 1) < msP L (x :: rl) p := by
  have h1 := tt_lt h hp hl
  rw [List.length_cons] at hl
  have h2 : ttP L (x :: rl) p < ttP L rl (x + 1) := by
    have e : 33 ^ (L - rl.length) = 33 * 33 ^ (L - (rl.length + 1)) := by
      rw [← Nat.pow_succ']
      congr 1
      omega
    rw [ttP, ttP, vlP, List.length_cons, e, ← Nat.mul_assoc]
    exact Nat.mul_lt_mul_of_pos_right (by omega) (Nat.pow_pos (by omega))
  have h3 : (33 ^ (L + 1) - ttP L rl (x + 1) + 1) * (L + 2) ≤ (33 ^ (L + 1) - ttP L (x :: rl) p) * (L + 2) := Nat.mul_le_mul_right _ (by omega)
  rw [Nat.add_mul, Nat.one_mul] at h3
  rw [msP, msP, List.length_cons]
  omega

/-- the numbers that the first i cells of block b hold, the last one first -/
def natC : Option Value → Nat
  | some (.int _ z) => z.toNat
  | _ => 0
def rdP (b : Nat) (w : World) : Nat → List Nat
  | 0 => []
  | i + 1 => natC (w.cell? ⟨b, i, none⟩) :: rdP b w i
theorem rdP_of {b : Nat} {w : World} : ∀ {rl : List Nat}, (∀ j, j < rl.length → w.cell? ⟨b, j, none⟩ = some (.int .i64 ((rl.reverse.getD j 0 : Nat) : Int))) → rdP b w rl.length = rl
  | [], _ => rfl
  | x :: rl, h => by
    rw [List.length_cons, rdP, rdP_of (rl := rl) (fun j hj => by
      rw [h j (by rw [List.length_cons]; omega), List.reverse_cons]
      rw [List.getD_eq_getElem?_getD, List.getElem?_append_left (by rw [List.length_reverse]; exact hj), ← List.getD_eq_getElem?_getD])]
    congr 1
    rw [h rl.length (by rw [List.length_cons]; omega), List.reverse_cons, List.getD_eq_getElem?_getD, List.getElem?_append_right (by rw [List.length_reverse]; exact Nat.le_refl _), List.length_reverse, Nat.sub_self]
    rfl

end Go.Proofs.YtnoppclajhfnjabDoor
namespace Go
/-- as wp_scope_jumps, the way to the label given what is behind it -/
theorem wp_scope_jumps2 {P : Program} {a : Act} {w : World} {Q : Exit → Act → World → Prop} {c rest : Code} (l : Nat) (J : Act → World → Prop) (μ : Act → World → Nat) (hf : findLabel c l = some (Code.skip.seq rest))
    (pass : ∀ a w, J a w → rest.wp P (Exit.jump l (fun a' w' => J a' w' ∧ μ a' w' < μ a w) Q) a w)
    (first : (∀ a w, J a w → rest.wp P (Exit.jump l J Q) a w) → c.wp P (Exit.jump l J Q) a w) : (Code.scope c).wp P Q a w :=
  wp_scope_jumps l J μ hf (first (fun a w h => wp_mono (pass a w h) (fun e a' w' hh => by
    cases e with
    | goto l' => exact ⟨hh.1, hh.2.1⟩
    | normal => exact hh
    | exit id => exact hh
    | ret => exact hh
    | panic ch => exact hh
    | outgrown => exact hh))) (fun a w h => wp_seq (wp_skip (pass a w h)))
end Go
