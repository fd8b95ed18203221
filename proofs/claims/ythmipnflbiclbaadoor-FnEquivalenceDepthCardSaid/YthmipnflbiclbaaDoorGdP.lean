/- Parts of a class by the bits of a number, and what is due for them: mathematics. No conditions. -/
import Derived.Test.YthmipnflbiclbaaDoorGdM
namespace Go.Proofs.YthmipnflbiclbaaDoor
open Go.RowKit

/-- the sets whose indices are in a number -/
def prt (ns : List Nat) (mask : Nat) : List Nat := ((List.range ns.length).filter (fun i => hasX i mask)).map (fun i => ns.getD i 0)
/-- does the set at i differ from g at x, and is its index in the number? -/
def cnd (ns : List Nat) (mask g x i : Nat) : Bool := hasX i mask && (hasX x (ns.getD i 0) != hasX x g)
def cTo (ns : List Nat) (mask g x : Nat) : Nat → Nat
  | 0 => 0
  | k + 1 => if cnd ns mask g x k = true then cTo ns mask g x k + 2 ^ k else cTo ns mask g x k
theorem cTo_succ (ns : List Nat) (mask g x k : Nat) : cTo ns mask g x (k + 1) = if cnd ns mask g x k = true then cTo ns mask g x k + 2 ^ k else cTo ns mask g x k := rfl
theorem add_bit : ∀ c : Fin 128, ∀ k : Fin 7, c.1 < 2 ^ k.1 → c.1 + 2 ^ k.1 < 2 ^ (k.1 + 1) ∧ hasX k.1 (c.1 + 2 ^ k.1) = true ∧ hasX k.1 c.1 = false ∧ ∀ i : Fin 7, i.1 < k.1 → hasX i.1 (c.1 + 2 ^ k.1) = hasX i.1 c.1 := by decide +kernel
theorem no_bit : ∀ c : Fin 128, ∀ k i : Fin 7, c.1 < 2 ^ k.1 → k.1 ≤ i.1 → hasX i.1 c.1 = false := by decide +kernel
theorem le_bits : ∀ a b : Fin 128, (∀ i : Fin 7, hasX i.1 a.1 = true → hasX i.1 b.1 = true) → a.1 ≤ b.1 := by decide +kernel
theorem one_bit : ∀ k : Fin 8, ∀ a : Fin 128, 0 < a.1 → a.1 < 2 ^ k.1 → ∃ i : Fin 7, i.1 < k.1 ∧ hasX i.1 a.1 = true := by decide +kernel
theorem all_bits : ∀ k : Fin 8, ∀ i : Fin 7, i.1 < k.1 → hasX i.1 (2 ^ k.1 - 1) = true := by decide +kernel
theorem pow_le_128 {k : Nat} (h : k ≤ 7) : 2 ^ k ≤ 128 := Nat.pow_le_pow_right (n := 2) (by omega) h
theorem cTo_lt {ns : List Nat} {mask g x : Nat} : ∀ k, k ≤ 7 → cTo ns mask g x k < 2 ^ k
  | 0, _ => by simp [cTo]
  | k + 1, hk => by
    have h := cTo_lt (ns := ns) (mask := mask) (g := g) (x := x) k (by omega)
    have h9 : 2 ^ (k + 1) = 2 ^ k + 2 ^ k := by rw [Nat.pow_succ]; omega
    rw [cTo_succ]
    split <;> omega
theorem cTo_bit {ns : List Nat} {mask g x : Nat} : ∀ k, k ≤ 7 → ∀ i, i < k → hasX i (cTo ns mask g x k) = cnd ns mask g x i
  | 0, _, i, hi => by omega
  | k + 1, hk, i, hi => by
    have h := cTo_lt (ns := ns) (mask := mask) (g := g) (x := x) k (by omega)
    have h128 := pow_le_128 (show k ≤ 7 by omega)
    have ih := cTo_bit (ns := ns) (mask := mask) (g := g) (x := x) k (by omega)
    obtain ⟨_, h2, h3, h4⟩ := add_bit ⟨cTo ns mask g x k, by omega⟩ ⟨k, by omega⟩ h
    dsimp only at h2 h3 h4
    rw [cTo_succ]
    by_cases e : i = k
    · subst e
      by_cases hc : cnd ns mask g x i = true
      · rw [if_pos hc, h2, hc]
      · rw [if_neg hc, h3]
        rw [Bool.not_eq_true] at hc
        rw [hc]
    · split
      · rw [h4 ⟨i, by omega⟩ (by show i < k; omega), ih i (by omega)]
      · exact ih i (by omega)
/-- which indices are left -/
def cnt' (ns : List Nat) (mask g x : Nat) : Nat := cTo ns mask g x ns.length
theorem ctr_bit {ns : List Nat} {mask g x : Nat} (hl : ns.length ≤ 7) {i : Nat} (hi : i < ns.length) : hasX i (cnt' ns mask g x) = cnd ns mask g x i := cTo_bit _ hl i hi
theorem ctr_lt {ns : List Nat} {mask g x : Nat} (hl : ns.length ≤ 7) : cnt' ns mask g x < 2 ^ ns.length := cTo_lt _ hl
theorem ctr_prt {ns : List Nat} {mask g x : Nat} (hl : ns.length ≤ 7) : prt ns (cnt' ns mask g x) = rs g x (prt ns mask) := by
  rw [prt, rs, prt, List.filter_map, List.filter_filter]
  congr 1
  apply List.filter_congr
  intro i hi
  rw [List.mem_range] at hi
  rw [ctr_bit hl hi, cnd]
  show (hasX i mask && (hasX x (ns.getD i 0) != hasX x g)) = ((hasX x (ns.getD i 0) == !hasX x g) && hasX i mask)
  cases hasX i mask <;> cases hasX x (ns.getD i 0) <;> cases hasX x g <;> rfl
theorem ctr_le {ns : List Nat} {mask g x : Nat} (hl : ns.length ≤ 7) (hm : mask < 2 ^ ns.length) : cnt' ns mask g x ≤ mask := by
  have h128 := pow_le_128 hl
  have h1 := ctr_lt (mask := mask) (g := g) (x := x) hl
  refine le_bits ⟨cnt' ns mask g x, by omega⟩ ⟨mask, by omega⟩ (fun i hi => ?_)
  dsimp only at hi ⊢
  by_cases h : i.1 < ns.length
  · rw [ctr_bit hl h, cnd, Bool.and_eq_true] at hi
    exact hi.1
  · rw [no_bit ⟨cnt' ns mask g x, by omega⟩ ⟨ns.length, by have := i.isLt; omega⟩ i h1 (by show ns.length ≤ i.1; omega)] at hi
    cases hi
theorem ctr_same {ns : List Nat} {mask g x : Nat} (hl : ns.length ≤ 7) (hm : mask < 2 ^ ns.length) : cnt' ns mask g x = mask ↔ rs g x (prt ns mask) = prt ns mask := by
  have h128 := pow_le_128 hl
  constructor
  · intro h
    rw [← ctr_prt hl, h]
  · intro h
    apply Nat.le_antisymm (ctr_le hl hm)
    have h1 := ctr_lt (mask := mask) (g := g) (x := x) hl
    refine le_bits ⟨mask, by omega⟩ ⟨cnt' ns mask g x, by omega⟩ (fun i hi => ?_)
    dsimp only at hi ⊢
    by_cases hlt : i.1 < ns.length
    · rw [ctr_bit hl hlt, cnd, hi, Bool.true_and]
      have hmem : ns.getD i.1 0 ∈ prt ns mask := List.mem_map.2 ⟨i.1, List.mem_filter.2 ⟨List.mem_range.2 hlt, hi⟩, rfl⟩
      rw [← h, rs, List.mem_filter] at hmem
      have h2 := hmem.2
      revert h2
      cases hasX x (ns.getD i.1 0) <;> cases hasX x g <;> decide
    · rw [no_bit ⟨mask, by omega⟩ ⟨ns.length, by have := i.isLt; omega⟩ i hm (by show ns.length ≤ i.1; omega)] at hi
      cases hi
theorem prt_zero (ns : List Nat) : prt ns 0 = [] := by
  rw [prt, List.map_eq_nil_iff, List.filter_eq_nil_iff]
  intro i _
  simp [hasX]
theorem prt_some {ns : List Nat} {mask : Nat} (hl : ns.length ≤ 7) (h0 : 0 < mask) (hm : mask < 2 ^ ns.length) : prt ns mask ≠ [] := by
  have h128 := pow_le_128 hl
  obtain ⟨i, h1, h2⟩ := one_bit ⟨ns.length, by omega⟩ ⟨mask, by omega⟩ h0 hm
  exact List.ne_nil_of_mem (List.mem_map.2 ⟨i.1, List.mem_filter.2 ⟨List.mem_range.2 h1, h2⟩, rfl⟩)
theorem prt_all {ns : List Nat} (hl : ns.length ≤ 7) : prt ns (2 ^ ns.length - 1) = ns := by
  have h : (List.range ns.length).filter (fun i => hasX i (2 ^ ns.length - 1)) = List.range ns.length := by
    rw [List.filter_eq_self]
    intro i hi
    rw [List.mem_range] at hi
    exact all_bits ⟨ns.length, by omega⟩ ⟨i, by omega⟩ hi
  rw [prt, h]
  apply List.ext_getElem (by simp)
  intro i h1 h2
  simp [List.getD_eq_getElem?_getD, h2]
/-- the model's worst for the first points -/
def wsTo (d : List Nat → Int) (L : List Nat) (g : Nat) : Nat → Int
  | 0 => 0
  | x + 1 => if rs g x L = L then 100 else if wsTo d L g x < d (rs g x L) then d (rs g x L) else wsTo d L g x
theorem wsTo_succ (d : List Nat → Int) (L : List Nat) (g x : Nat) : wsTo d L g (x + 1) = if rs g x L = L then 100 else if wsTo d L g x < d (rs g x L) then d (rs g x L) else wsTo d L g x := rfl
theorem stuck_succ (x : Nat) (L : List Nat) (g : Nat) : stuck (x + 1) L g = (stuck x L g || decide (rs g x L = L)) := by simp [stuck, List.range_succ]
theorem wsTo_aft {d : List Nat → Int} (hd : ∀ L, 0 ≤ d L ∧ d L ≤ 100) (L : List Nat) (g : Nat) : ∀ x, wsTo d L g x = aft x d L g
  | 0 => rfl
  | x + 1 => by
    have ih := wsTo_aft hd L g x
    rw [wsTo_succ, ih, aft, aft, stuck_succ]
    have h := hd (rs g x L)
    by_cases e : rs g x L = L
    · rw [if_pos e, decide_eq_true e, Bool.or_true, if_pos rfl]
    · rw [if_neg e, decide_eq_false e, Bool.or_false]
      by_cases hs : stuck x L g = true
      · rw [if_pos hs, if_pos hs, if_neg (by omega)]
      · rw [if_neg hs, if_neg hs, aftTo_succ]
/-- the model's table of the first parts -/
def gTab (n : Nat) (G ns : List Nat) (k : Nat) : List Int := (List.range k).map (fun mask => gd n G (prt ns mask))
theorem gTab_len (n : Nat) (G ns : List Nat) (k : Nat) : (gTab n G ns k).length = k := by simp [gTab]
theorem gTab_at {n : Nat} {G ns : List Nat} {k i : Nat} (hi : i < k) : (gTab n G ns k).getD i 0 = gd n G (prt ns i) := by simp [gTab, List.getD_eq_getElem?_getD, hi]
theorem gTab_succ (n : Nat) (G ns : List Nat) (k : Nat) : gTab n G ns (k + 1) = gTab n G ns k ++ [gd n G (prt ns k)] := by simp [gTab, List.range_succ]
theorem gTab_one (n : Nat) (G ns : List Nat) : gTab n G ns 1 = [0] := by
  rw [gTab_succ, prt_zero]; rfl

end Go.Proofs.YthmipnflbiclbaaDoor
