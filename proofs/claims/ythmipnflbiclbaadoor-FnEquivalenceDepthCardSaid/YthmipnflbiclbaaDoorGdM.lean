/- How many guesses find each of the sets that are left: mathematics. No conditions. -/
import Derived.Test.YthmipnflbiclbaaDoorZU
namespace Go.Proofs.YthmipnflbiclbaaDoor
open Go.RowKit

/-- what is left of L when x is told against the guess g -/
def rs (g x : Nat) (L : List Nat) : List Nat := L.filter (fun t => hasX x t == !hasX x g)
theorem rs_kp (g x : Nat) (L : List Nat) : kp L ((x : Int), !hasX x g) = rs g x L := by rw [kp, rs, Int.toNat_natCast]
theorem rs_sub {g x t : Nat} {L : List Nat} (h : t ∈ rs g x L) : t ∈ L := (List.mem_filter.1 h).1
theorem rs_len {g x : Nat} {L : List Nat} (h : rs g x L ≠ L) : (rs g x L).length < L.length := by
  rw [rs, List.length_filter_lt_length_iff_exists]
  apply Classical.byContradiction
  intro hn
  exact h (List.filter_eq_self.2 (fun t ht => Classical.byContradiction (fun h9 => hn ⟨t, ht, h9⟩)))
theorem rs_asc {g x : Nat} {L : List Nat} (h : L.Pairwise (· < ·)) : (rs g x L).Pairwise (· < ·) := h.filter _
/-- the greatest of what is due at the first points -/
def aftTo (d : List Nat → Int) (L : List Nat) (g : Nat) : Nat → Int
  | 0 => 0
  | x + 1 => if aftTo d L g x < d (rs g x L) then d (rs g x L) else aftTo d L g x
theorem aftTo_succ (d : List Nat → Int) (L : List Nat) (g x : Nat) : aftTo d L g (x + 1) = if aftTo d L g x < d (rs g x L) then d (rs g x L) else aftTo d L g x := rfl
/-- is there a point that tells nothing? -/
def stuck (n : Nat) (L : List Nat) (g : Nat) : Bool := (List.range n).any (fun x => decide (rs g x L = L))
def aft (n : Nat) (d : List Nat → Int) (L : List Nat) (g : Nat) : Int := if stuck n L g = true then 100 else aftTo d L g n
theorem stuck_no {n : Nat} {L : List Nat} {g : Nat} : stuck n L g = false ↔ ∀ x, x < n → rs g x L ≠ L := by
  rw [stuck, List.any_eq_false]
  constructor
  · intro h x hx
    have := h x (List.mem_range.2 hx)
    simpa using this
  · intro h x hx
    have := h x (List.mem_range.1 hx)
    simpa using this
theorem stuck_at {n x : Nat} {L : List Nat} {g : Nat} (hx : x < n) (h : rs g x L = L) : stuck n L g = true := by
  rw [stuck, List.any_eq_true]
  exact ⟨x, List.mem_range.2 hx, by simpa using h⟩
/-- the least of the first guesses' numbers -/
def lsTo (n : Nat) (G : List Nat) (d : List Nat → Int) (L : List Nat) : Nat → Int
  | 0 => 100
  | j + 1 => if 1 + aft n d L (G.getD j 0) < lsTo n G d L j then 1 + aft n d L (G.getD j 0) else lsTo n G d L j
theorem lsTo_succ (n : Nat) (G : List Nat) (d : List Nat → Int) (L : List Nat) (j : Nat) : lsTo n G d L (j + 1) = if 1 + aft n d L (G.getD j 0) < lsTo n G d L j then 1 + aft n d L (G.getD j 0) else lsTo n G d L j := rfl
def gdF (n : Nat) (G : List Nat) : Nat → List Nat → Int
  | 0, _ => 0
  | k + 1, L => if L = [] then 0 else lsTo n G (gdF n G k) L G.length
theorem aftTo_congr {d e : List Nat → Int} {L : List Nat} {g : Nat} : ∀ k, (∀ x, x < k → d (rs g x L) = e (rs g x L)) → aftTo d L g k = aftTo e L g k
  | 0, _ => rfl
  | k + 1, h => by rw [aftTo_succ, aftTo_succ, aftTo_congr k (fun x hx => h x (by omega)), h k (by omega)]
theorem aft_congr {n : Nat} {d e : List Nat → Int} {L : List Nat} {g : Nat} (h : ∀ x, x < n → rs g x L ≠ L → d (rs g x L) = e (rs g x L)) : aft n d L g = aft n e L g := by
  rw [aft, aft]
  cases hs : stuck n L g with
  | true => rfl
  | false =>
    rw [stuck_no] at hs
    show aftTo d L g n = aftTo e L g n
    exact aftTo_congr n (fun x hx => h x hx (hs x hx))
theorem lsTo_congr {n : Nat} {G : List Nat} {d e : List Nat → Int} {L : List Nat} (h : ∀ g x, x < n → rs g x L ≠ L → d (rs g x L) = e (rs g x L)) : ∀ j, lsTo n G d L j = lsTo n G e L j
  | 0 => rfl
  | j + 1 => by rw [lsTo_succ, lsTo_succ, lsTo_congr h j, aft_congr (h (G.getD j 0))]
theorem gdF_any (n : Nat) (G : List Nat) : ∀ (k : Nat) (L : List Nat), L.length ≤ k → ∀ j, L.length ≤ j → gdF n G k L = gdF n G j L := by
  intro k
  induction k with
  | zero =>
    intro L h j _
    obtain rfl : L = [] := List.eq_nil_of_length_eq_zero (by omega)
    cases j <;> simp [gdF]
  | succ k ih =>
    intro L h j hj
    by_cases e : L = []
    · subst e
      cases j <;> simp [gdF]
    · have hp := List.length_pos_iff.2 e
      obtain ⟨j, rfl⟩ : ∃ i, j = i + 1 := ⟨j - 1, by omega⟩
      rw [gdF, gdF, if_neg e, if_neg e]
      exact lsTo_congr (fun g x _ hx => by have := rs_len hx; exact ih _ (by omega) j (by omega)) _
/-- how many guesses of G find each of the sets L -/
def gd (n : Nat) (G L : List Nat) : Int := gdF n G L.length L
theorem gd_nil (n : Nat) (G : List Nat) : gd n G [] = 0 := rfl
theorem gd_step {n : Nat} {G L : List Nat} (h : L ≠ []) : gd n G L = lsTo n G (gd n G) L G.length := by
  have hp := List.length_pos_iff.2 h
  rw [gd, gdF_any n G L.length L (Nat.le_refl _) (L.length - 1 + 1) (by omega), gdF, if_neg h]
  exact lsTo_congr (fun g x _ hx => by have := rs_len hx; exact gdF_any n G _ _ (by omega) _ (Nat.le_refl _)) _
theorem aftTo_bd {d : List Nat → Int} (hd : ∀ L, 0 ≤ d L ∧ d L ≤ 100) (L : List Nat) (g : Nat) : ∀ k, 0 ≤ aftTo d L g k ∧ aftTo d L g k ≤ 100
  | 0 => by simp [aftTo]
  | k + 1 => by
    have h1 := aftTo_bd hd L g k
    have h2 := hd (rs g k L)
    rw [aftTo_succ]
    split <;> omega
theorem aft_bd {d : List Nat → Int} (hd : ∀ L, 0 ≤ d L ∧ d L ≤ 100) (n : Nat) (L : List Nat) (g : Nat) : 0 ≤ aft n d L g ∧ aft n d L g ≤ 100 := by
  rw [aft]
  split
  · omega
  · exact aftTo_bd hd L g n
theorem lsTo_bd {d : List Nat → Int} (hd : ∀ L, 0 ≤ d L ∧ d L ≤ 100) (n : Nat) (G L : List Nat) : ∀ k, 1 ≤ lsTo n G d L k ∧ lsTo n G d L k ≤ 100
  | 0 => by simp [lsTo]
  | k + 1 => by
    have h1 := lsTo_bd hd n G L k
    have h2 := aft_bd hd n L (G.getD k 0)
    rw [lsTo_succ]
    split <;> omega
theorem gdF_bd (n : Nat) (G : List Nat) : ∀ (k : Nat) (L : List Nat), 0 ≤ gdF n G k L ∧ gdF n G k L ≤ 100
  | 0, _ => by simp [gdF]
  | k + 1, L => by
    rw [gdF]
    split
    · omega
    · have := lsTo_bd (gdF_bd n G k) n G L G.length
      omega
theorem gd_bd (n : Nat) (G : List Nat) (L : List Nat) : 0 ≤ gd n G L ∧ gd n G L ≤ 100 := gdF_bd n G L.length L
/-- families tell lists of sets apart -/
theorem fm_one {l k : List Nat} (hl : ∀ u ∈ l, u < 32) (hk : ∀ u ∈ k, u < 32) (al : l.Pairwise (· < ·)) (ak : k.Pairwise (· < ·)) : fm l = fm k ↔ l = k := by
  constructor
  · intro h
    have hb : famB l = famB k := by
      apply BitVec.eq_of_toNat_eq
      rw [fm, fm] at h
      omega
    refine asc_ext al ak (fun x => ?_)
    have hbit : ∀ x, x < 32 → (decide (x ∈ l) = decide (x ∈ k)) := fun x hx => by rw [← famB_bit l hx, ← famB_bit k hx, hb]
    constructor
    · intro hx
      have := hbit x (hl x hx)
      simpa [hx] using this.symm
    · intro hx
      have := hbit x (hk x hx)
      simpa [hx] using this
  · rintro rfl; rfl

end Go.Proofs.YthmipnflbiclbaaDoor
