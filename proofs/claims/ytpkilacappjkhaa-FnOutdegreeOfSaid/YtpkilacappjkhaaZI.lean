/- Shifts, again and again: what they come to. slices.Equal of two slices of ints. No conditions. The program's LinkOf. Conditions: Sets is a slice of ints. The program's indicesWith and DualClass. Conditions: Sets is a slice of ints. The mathematics of the promises of chapter 1: flips, settled classes, classes without a point, duals. Conditions: the class is valid. -/
import Derived.Test.YtpkilacappjkhaaShiftS
import Derived.Test.YtpkilacappjkhaaZD
import Derived.Test.YtpkilacappjkhaaZG
import Derived.Test.YtpkilacappjkhaaZH
namespace Go.Proofs.Ytpkilacappjkhaa
open Go.RowKit

/-- one shift -/
def sh1 (x : Nat) (ns : List Nat) : List Nat := tidyL (ns.map (shs x ns))
/-- the shifts of the first k points -/
def swTo (ns : List Nat) : Nat → List Nat
  | 0 => ns
  | k + 1 => sh1 k (swTo ns k)
def swp (m : Nat) (ns : List Nat) : List Nat := swTo ns m
/-- without x nothing new comes -/
def xdn (x : Nat) (ns : List Nat) : Prop := ∀ s ∈ ns, low x s ∈ ns

theorem mem_sh1 {x : Nat} {ns : List Nat} (h32 : ∀ t ∈ ns, t < 32) (y : Nat) : y ∈ sh1 x ns ↔ ∃ t ∈ ns, shs x ns t = y := by
  simp only [sh1, tidyL, mem_flt, decide_eq_true_eq, List.mem_map]
  constructor
  · rintro ⟨_, h⟩
    exact h
  · rintro ⟨t, ht, rfl⟩
    exact ⟨Nat.lt_of_le_of_lt (shs_le x ns t) (h32 t ht), t, ht, rfl⟩
theorem sh1_asc (x : Nat) (ns : List Nat) : (sh1 x ns).Pairwise (· < ·) := by
  unfold sh1 tidyL
  exact flt_asc _
theorem Cls.sh1 {m : Nat} {ns : List Nat} (h : Cls m ns) (x : Nat) : Cls m (sh1 x ns) :=
  ⟨h.pts, sh1_asc x ns, fun y hy => by
    obtain ⟨t, ht, rfl⟩ := (mem_sh1 h.lt32 y).1 hy
    exact Nat.lt_of_le_of_lt (shs_le x ns t) (h.lt t ht)⟩
theorem Cls.swTo {m : Nat} {ns : List Nat} (h : Cls m ns) (k : Nat) : Cls m (swTo ns k) := by
  induction k with
  | zero => exact h
  | succ k ih => exact ih.sh1 k
theorem low_comm {x y s : Nat} (hx : x < 5) (hy : y < 5) (hs : s < 32) : low x (low y s) = low y (low x s) := by
  have key : ∀ x y : Fin 5, ∀ s : Fin 32, low x (low y s) = low y (low x s) := by decide +kernel
  exact key ⟨x, hx⟩ ⟨y, hy⟩ ⟨s, hs⟩
theorem low_low (x s : Nat) : low x (low x s) = low x s := low_of (low_has x s)
theorem shs_of_in {x s : Nat} {ns : List Nat} (h : low x s ∈ ns) : shs x ns s = s := by rw [shs, if_pos h]
theorem shs_of_out {x s : Nat} {ns : List Nat} (h : ¬ low x s ∈ ns) : shs x ns s = low x s := by rw [shs, if_neg h]
theorem xdn_self {m x : Nat} {ns : List Nat} (h : Cls m ns) : xdn x (sh1 x ns) := by
  intro s hs
  obtain ⟨t, ht, rfl⟩ := (mem_sh1 h.lt32 _).1 hs
  by_cases hl : low x t ∈ ns
  · rw [shs_of_in hl]
    exact (mem_sh1 h.lt32 _).2 ⟨low x t, hl, shs_of_in (by rw [low_low]; exact hl)⟩
  · rw [shs_of_out hl, low_low]
    exact (mem_sh1 h.lt32 _).2 ⟨t, ht, shs_of_out hl⟩
theorem xdn_other {m x y : Nat} {ns : List Nat} (h : Cls m ns) (hx : x < 5) (hy : y < 5) (hd : xdn x ns) : xdn x (sh1 y ns) := by
  intro s hs
  obtain ⟨t, ht, rfl⟩ := (mem_sh1 h.lt32 _).1 hs
  have hc := low_comm hx hy (h.lt32 t ht)
  by_cases hl : low y t ∈ ns
  · rw [shs_of_in hl]
    exact (mem_sh1 h.lt32 _).2 ⟨low x t, hd t ht, shs_of_in (by rw [← hc]; exact hd _ hl)⟩
  · rw [shs_of_out hl]
    by_cases hu : low y (low x t) ∈ ns
    · rw [hc]
      exact (mem_sh1 h.lt32 _).2 ⟨low y (low x t), hu, shs_of_in (by rw [low_low]; exact hu)⟩
    · exact (mem_sh1 h.lt32 _).2 ⟨low x t, hd t ht, by rw [shs_of_out hu, hc]⟩
theorem xdn_swTo {m : Nat} {ns : List Nat} (h : Cls m ns) (k : Nat) (hk : k ≤ 5) (x : Nat) (hx : x < k) : xdn x (swTo ns k) := by
  induction k with
  | zero => omega
  | succ k ih =>
    by_cases e : x = k
    · subst e
      exact xdn_self (h.swTo x)
    · exact xdn_other (h.swTo k) (by omega) (by omega) (ih (by omega) (by omega))
theorem sh1_fix {m x : Nat} {ns : List Nat} (h : Cls m ns) (hd : xdn x ns) : sh1 x ns = ns := by
  apply asc_ext (sh1_asc x ns) h.asc
  intro y
  rw [mem_sh1 h.lt32]
  constructor
  · rintro ⟨t, ht, rfl⟩
    rw [shs_of_in (hd t ht)]
    exact ht
  · intro hy
    exact ⟨y, hy, shs_of_in (hd y hy)⟩
theorem swp_fix {m : Nat} {ns : List Nat} (h : Cls m ns) (k : Nat) (hk : k ≤ m) : swTo (swp m ns) k = swp m ns := by
  induction k with
  | zero => rfl
  | succ k ih =>
    rw [swTo, ih (by omega)]
    exact sh1_fix (h.swTo m) (xdn_swTo h m h.pts k (by omega))
theorem cls_vldB {m : Nat} {ns : List Nat} (h : Cls m ns) : vldB m (toI ns) = true := by
  apply vldB_all h.pts
  intro j hj
  rw [toI_length] at hj
  rw [toI_getD]
  have h1 := h.lt _ (getD_of_lt hj)
  have h2 : ((2 ^ m : Nat) : Int) = (2 : Int) ^ m := by simp
  refine ⟨by omega, by omega, fun hp => ?_⟩
  rw [toI_getD]
  have h3 := List.pairwise_iff_getElem.1 h.asc (j - 1) j (by omega) hj (by omega)
  simp only [List.getD_eq_getElem?_getD, List.getElem?_eq_getElem hj, List.getElem?_eq_getElem (show j - 1 < ns.length by omega), Option.getD_some]
  omega
theorem shN_in {m x : Nat} {ns : List Nat} (h : Cls m ns) (hx : x < m) : shN m (toI ns) x = m ∧ shL m (toI ns) x = toI (sh1 x ns) := by
  have hv : ptB m (toI ns) x = true := by
    simp only [ptB, cls_vldB h, Bool.true_and, Bool.and_eq_true, decide_eq_true_eq]
    omega
  refine ⟨by rw [shN, if_pos hv], by rw [shL, if_pos hv, toNat_toI, Int.toNat_natCast]; rfl⟩
def stN (n : Int) (zs : List Int) : Int := if vldB n zs = true then n else 0
def stL (n : Int) (zs : List Int) : List Int := if vldB n zs = true then toI (swp n.toNat (zs.map Int.toNat)) else []
theorem stL_len (n : Int) (zs : List Int) : (stL n zs).length ≤ 1048576 := by
  unfold stL
  split
  · rename_i hv
    obtain ⟨m, ns, rfl, rfl, hc⟩ := vldB_cls hv
    rw [toI_length, Int.toNat_natCast, toNat_toI]
    have := (hc.swTo m).length
    unfold swp
    omega
  · simp


end Go.Proofs.Ytpkilacappjkhaa

namespace Go.Proofs.Ytpkilacappjkhaa
open Go.RowKit

/-- is s a set without x that is there with x, too? -/
def lnkP (x : Nat) (ns : List Nat) (s : Nat) : Bool := !(hasX x s) && decide (s + 2 ^ x ∈ ns)
theorem or_add {x s : Nat} (hx : x < 5) (hs : s < 32) (h : ¬ hasX x s = true) : s ||| 2 ^ x = s + 2 ^ x := by
  have key : ∀ x : Fin 5, ∀ s : Fin 32, ¬ hasX x s = true → (s : Nat) ||| 2 ^ (x : Nat) = s + 2 ^ (x : Nat) := by decide +kernel
  exact key ⟨x, hx⟩ ⟨s, hs⟩ h
theorem shr_and1 (s x : Nat) (hs : s < 32) (_hx : x < 5) : bits .and .i64 ((s : Int) / 2 ^ x) 1 = ((s / 2 ^ x % 2 : Nat) : Int) := by
  have h1 : ((s : Int) / 2 ^ x) = ((s / 2 ^ x : Nat) : Int) := by simp
  have h2 : s / 2 ^ x < 4096 := Nat.lt_of_le_of_lt (Nat.div_le_self _ _) (by omega)
  have h3 := i64_and (s / 2 ^ x) 1 h2 (by omega)
  rw [h1]
  rw [Nat.and_one_is_mod] at h3
  exact h3
def lnkL (n : Int) (zs : List Int) (x : Int) : List Int := if ptB n zs x = true then toI (tidyL (((zs.map Int.toNat).filter (lnkP x.toNat (zs.map Int.toNat))).map (rmv x.toNat))) else []
theorem lnkL_len (n : Int) (zs : List Int) (x : Int) : (lnkL n zs x).length ≤ 1048576 := by
  unfold lnkL
  split
  · rw [toI_length]
    have := flt_length (fun p => decide (p ∈ ((zs.map Int.toNat).filter (lnkP x.toNat (zs.map Int.toNat))).map (rmv x.toNat)))
    unfold tidyL
    omega
  · simp


end Go.Proofs.Ytpkilacappjkhaa

namespace Go.Proofs.Ytpkilacappjkhaa
open Go.RowKit

/-- the indices, as a number, of those of the first k of ns that have x -/
def indTo (ns : List Nat) (x : Nat) : Nat → Nat
  | 0 => 0
  | k + 1 => indTo ns x k + ns.getD k 0 / 2 ^ x % 2 * 2 ^ k
theorem indTo_lt (ns : List Nat) (x k : Nat) : indTo ns x k < 2 ^ k := by
  induction k with
  | zero => simp [indTo]
  | succ k ih =>
    rw [indTo, Nat.pow_succ]
    have : ns.getD k 0 / 2 ^ x % 2 < 2 := Nat.mod_lt _ (by omega)
    generalize ns.getD k 0 / 2 ^ x % 2 = b at *
    generalize 2 ^ k = p at *
    rcases (show b = 0 ∨ b = 1 by omega) with rfl | rfl <;> omega
theorem or_pow {o k : Nat} (hk : k < 5) (ho : o < 2 ^ k) : o ||| 2 ^ k = o + 2 ^ k := by
  have key : ∀ k : Fin 5, ∀ o : Fin 32, (o : Nat) < 2 ^ (k : Nat) → (o : Nat) ||| 2 ^ (k : Nat) = o + 2 ^ (k : Nat) := by decide +kernel
  exact key ⟨k, hk⟩ ⟨o, Nat.lt_of_lt_of_le ho (pow_le_32 (by omega))⟩ ho


def duN (n : Int) (zs : List Int) : Int := if vldB n zs = true ∧ zs.length ≤ 5 then zs.length else 0
/-- the sets of indices of the points -/
def dul (m : Nat) (ns : List Nat) : List Nat := (List.range m).map (fun x => indTo ns x ns.length)
def duL (n : Int) (zs : List Int) : List Int := if vldB n zs = true ∧ zs.length ≤ 5 then toI (tidyL (dul n.toNat (zs.map Int.toNat))) else []
theorem duL_len (n : Int) (zs : List Int) : (duL n zs).length ≤ 1048576 := by
  unfold duL
  split
  · rw [toI_length]
    have := flt_length (fun p => decide (p ∈ dul n.toNat (zs.map Int.toNat)))
    unfold tidyL
    omega
  · simp
theorem dul_lt {m : Nat} {ns : List Nat} {y : Nat} (h : y ∈ dul m ns) : y < 2 ^ ns.length := by
  obtain ⟨x, _, rfl⟩ := List.mem_map.1 h
  exact indTo_lt _ _ _

/-- is y the indices of one of the first k points? -/
def hasD (ns : List Nat) (k y : Nat) : Bool := decide (y ∈ dul k ns)
theorem hasD_succ (ns : List Nat) (k y : Nat) : hasD ns (k + 1) y = (decide (y = indTo ns k ns.length) || hasD ns k y) := by
  rw [Bool.eq_iff_iff]
  simp only [hasD, dul, List.range_succ, List.map_append, List.map_cons, List.map_nil, List.mem_append, List.mem_singleton, Bool.or_eq_true, decide_eq_true_eq]
  exact ⟨fun h => h.elim (fun h => .inr (decide_eq_true h)) .inl, fun h => h.elim .inr (fun h => .inl (of_decide_eq_true h))⟩


end Go.Proofs.Ytpkilacappjkhaa

namespace Go.Proofs.Ytpkilacappjkhaa
open Go.RowKit

theorem tidy_asc (l : List Nat) : (tidyL l).Pairwise (· < ·) := by
  rw [tidyL]
  exact flt_asc _
theorem sixteen {n : Nat} (hn : n < 5) : 2 ^ n ≤ 16 := by
  have : n = 0 ∨ n = 1 ∨ n = 2 ∨ n = 3 ∨ n = 4 := by omega
  rcases this with rfl | rfl | rfl | rfl | rfl <;> decide
theorem xor_high {n a b : Nat} (hn : n < 5) (ha : a < 2 ^ n) (hb : b < 2 ^ n) : (a + 2 ^ n) ^^^ b = (a ^^^ b) + 2 ^ n ∧ a ^^^ (b + 2 ^ n) = (a ^^^ b) + 2 ^ n ∧ (a + 2 ^ n) ^^^ (b + 2 ^ n) = a ^^^ b ∧ a ^^^ b < 2 ^ n := by
  have key : ∀ n : Fin 5, ∀ a : Fin 16, ∀ b : Fin 16, (a : Nat) < 2 ^ (n : Nat) → (b : Nat) < 2 ^ (n : Nat) → ((a : Nat) + 2 ^ (n : Nat)) ^^^ (b : Nat) = ((a : Nat) ^^^ (b : Nat)) + 2 ^ (n : Nat) ∧ (a : Nat) ^^^ ((b : Nat) + 2 ^ (n : Nat)) = ((a : Nat) ^^^ (b : Nat)) + 2 ^ (n : Nat) ∧ ((a : Nat) + 2 ^ (n : Nat)) ^^^ ((b : Nat) + 2 ^ (n : Nat)) = (a : Nat) ^^^ (b : Nat) ∧ (a : Nat) ^^^ (b : Nat) < 2 ^ (n : Nat) := by decide +kernel
  have h16 := sixteen hn
  exact key ⟨n, hn⟩ ⟨a, by omega⟩ ⟨b, by omega⟩ ha hb
def xorF (x : Nat) (f : Nat → Bool) : Nat → Bool := fun t => f (t ^^^ x)
theorem flip_parts {n x : Nat} (hn : n < 5) (f : Nat → Bool) (hx : x < 2 ^ (n + 1)) :
    ∃ y, y < 2 ^ n ∧ (((∀ t, t < 2 ^ n → xorF x f t = xorF y f t) ∧ (∀ t, t < 2 ^ n → up n (xorF x f) t = xorF y (up n f) t)) ∨ ((∀ t, t < 2 ^ n → xorF x f t = xorF y (up n f) t) ∧ (∀ t, t < 2 ^ n → up n (xorF x f) t = xorF y f t))) := by
  by_cases h : x < 2 ^ n
  · exact ⟨x, h, .inl ⟨fun t _ => rfl, fun t ht => by simp only [up, xorF]; rw [(xor_high hn ht h).1]⟩⟩
  · obtain ⟨y, rfl⟩ : ∃ y, x = y + 2 ^ n := ⟨x - 2 ^ n, by omega⟩
    have hy : y < 2 ^ n := by rw [Nat.pow_succ] at hx; omega
    exact ⟨y, hy, .inr ⟨fun t ht => by simp only [up, xorF]; rw [(xor_high hn ht hy).2.1], fun t ht => by simp only [up, xorF]; rw [(xor_high hn ht hy).2.2.1]⟩⟩
theorem shF_flip {n : Nat} (hn : n ≤ 5) (f : Nat → Bool) {x : Nat} (hx : x < 2 ^ n) (s : Nat) : shF n (xorF x f) s = shF n f s := by
  induction n generalizing f x s with
  | zero =>
    obtain rfl : x = 0 := by simp at hx; omega
    simp [shF, xorF]
  | succ n ih =>
    obtain ⟨y, hy, ⟨h1, h2⟩ | ⟨h1, h2⟩⟩ := flip_parts (by omega) f hx
    · simp only [shF]
      rw [shF_congr h1, shF_congr h2, ih (by omega) f hy, ih (by omega) (up n f) hy, shF_congr (f := orF (xorF x f) (up n (xorF x f))) (g := xorF y (orF f (up n f))) (fun t ht => by simp only [orF]; rw [h1 t ht, h2 t ht]; rfl), ih (by omega) _ hy]
    · simp only [shF]
      rw [shF_congr h1, shF_congr h2, ih (by omega) f hy, ih (by omega) (up n f) hy, shF_congr (f := orF (xorF x f) (up n (xorF x f))) (g := xorF y (orF f (up n f))) (fun t ht => by simp only [orF]; rw [h1 t ht, h2 t ht, Bool.or_comm]; rfl), ih (by omega) _ hy, Bool.and_comm]
theorem stF_flip {n : Nat} (hn : n ≤ 5) (f : Nat → Bool) {x : Nat} (hx : x < 2 ^ n) (s : Nat) : stF n (xorF x f) s = stF n f s := by
  induction n generalizing f x s with
  | zero =>
    obtain rfl : x = 0 := by simp at hx; omega
    simp [stF, xorF]
  | succ n ih =>
    obtain ⟨y, hy, ⟨h1, h2⟩ | ⟨h1, h2⟩⟩ := flip_parts (by omega) f hx
    · simp only [stF]
      rw [stF_congr h1, stF_congr h2, ih (by omega) f hy, ih (by omega) (up n f) hy, stF_congr (f := andF (xorF x f) (up n (xorF x f))) (g := xorF y (andF f (up n f))) (fun t ht => by simp only [andF]; rw [h1 t ht, h2 t ht]; rfl), ih (by omega) _ hy]
    · simp only [stF]
      rw [stF_congr h1, stF_congr h2, ih (by omega) f hy, ih (by omega) (up n f) hy, stF_congr (f := andF (xorF x f) (up n (xorF x f))) (g := xorF y (andF f (up n f))) (fun t ht => by simp only [andF]; rw [h1 t ht, h2 t ht, Bool.and_comm]; rfl), ih (by omega) _ hy, Bool.or_comm]
/-- the flipped class -/
def flp (x : Nat) (ns : List Nat) : List Nat := tidyL (ns.map (fun t => t ^^^ x))
theorem xor_lt {m a b : Nat} (ha : a < 2 ^ m) (hb : b < 2 ^ m) : a ^^^ b < 2 ^ m := Nat.xor_lt_two_pow ha hb
theorem mem_flp {m x y : Nat} {ns : List Nat} (h : Cls m ns) (hx : x < 2 ^ m) : y ∈ flp x ns ↔ y ^^^ x ∈ ns := by
  rw [flp, tidyL, mem_flt]
  simp only [decide_eq_true_eq, List.mem_map]
  constructor
  · rintro ⟨_, t, ht, rfl⟩
    rw [Nat.xor_assoc, Nat.xor_self, Nat.xor_zero]
    exact ht
  · intro hy
    have h1 := h.lt _ hy
    have h2 : y = (y ^^^ x) ^^^ x := by rw [Nat.xor_assoc, Nat.xor_self, Nat.xor_zero]
    refine ⟨?_, y ^^^ x, hy, h2.symm⟩
    rw [h2]
    exact Nat.lt_of_lt_of_le (xor_lt h1 hx) (pow_le_32 h.pts)
theorem flp_cls {m x : Nat} {ns : List Nat} (h : Cls m ns) (hx : x < 2 ^ m) : Cls m (flp x ns) := by
  refine ⟨h.pts, by unfold flp; exact tidy_asc _, fun t ht => ?_⟩
  have h1 := h.lt _ ((mem_flp h hx).1 ht)
  have h2 : t = (t ^^^ x) ^^^ x := by rw [Nat.xor_assoc, Nat.xor_self, Nat.xor_zero]
  rw [h2]
  exact xor_lt h1 hx
theorem inF_flp {m x : Nat} {ns : List Nat} (h : Cls m ns) (hx : x < 2 ^ m) (s : Nat) : inF (flp x ns) s = xorF x (inF ns) s := by
  rw [inF, xorF, inF, decide_eq_decide]
  exact mem_flp h hx
theorem flp_flp {m x : Nat} {ns : List Nat} (h : Cls m ns) (hx : x < 2 ^ m) : flp x (flp x ns) = ns := by
  refine asc_ext (by unfold flp; exact tidy_asc _) h.asc (fun y => ?_)
  have h1 := mem_flp (y := y) (flp_cls h hx) hx
  rw [mem_flp h hx, Nat.xor_assoc, Nat.xor_self, Nat.xor_zero] at h1
  exact h1
theorem sht_flp {m x : Nat} {ns : List Nat} (h : Cls m ns) (hx : x < 2 ^ m) {s : Nat} (hs : s < 2 ^ m) : sht (flp x ns) s = sht ns s := by
  rw [sht_sh (flp_cls h hx) hs, sht_sh h hs, shF_congr (fun t _ => inF_flp h hx t), shF_flip h.pts _ hx]
theorem strg_flp {m x : Nat} {ns : List Nat} (h : Cls m ns) (hx : x < 2 ^ m) {s : Nat} (hs : s < 2 ^ m) : strg (flp x ns) s = strg ns s := by
  rw [strg_st (flp_cls h hx) hs, strg_st h hs, stF_congr (fun t _ => inF_flp h hx t), stF_flip h.pts _ hx]

/-- a list without repeats has as many as there are -/
theorem cnt_one {n a : Nat} (ha : a < 2 ^ n) : cnt n (fun p => decide (p = a)) = 1 := by
  induction n generalizing a with
  | zero =>
    obtain rfl : a = 0 := by simp at ha; omega
    simp [cnt]
  | succ n ih =>
    rw [cnt]
    by_cases h : a < 2 ^ n
    · rw [ih h, cnt_congr (f := up n (fun p => decide (p = a))) (g := fun _ => false) (fun s _ => by simp [up]; omega), cnt_none]
    · rw [cnt_congr (f := fun p => decide (p = a)) (g := fun _ => false) (fun s hs => by simp; omega), cnt_none, cnt_congr (f := up n (fun p => decide (p = a))) (g := fun p => decide (p = a - 2 ^ n)) (fun s _ => by simp only [up]; rw [decide_eq_decide]; omega), ih (by rw [Nat.pow_succ] at ha; omega)]
theorem cnt_nodup {n : Nat} {l : List Nat} (hl : ∀ t ∈ l, t < 2 ^ n) (hd : l.Nodup) : cnt n (inF l) = l.length := by
  induction l with
  | nil => rw [cnt_congr (g := fun _ => false) (fun s _ => by simp [inF]), cnt_none]; rfl
  | cons a l ih =>
    have h1 : cnt n (inF (a :: l)) = cnt n (orF (fun p => decide (p = a)) (inF l)) := cnt_congr (fun s _ => by simp [inF, orF])
    have h2 := cnt_or_and n (fun p => decide (p = a)) (inF l)
    have h3 := cnt_one (hl a (by simp))
    have h4 := ih (fun t ht => hl t (by simp [ht])) (List.nodup_cons.1 hd).2
    have h5 : cnt n (andF (fun p => decide (p = a)) (inF l)) = 0 := by
      rw [cnt_congr (g := fun _ => false) (fun s _ => by
        simp only [andF, inF]
        by_cases e : s = a
        · subst e; simp [(List.nodup_cons.1 hd).1]
        · simp [e]), cnt_none]
    rw [h1, List.length_cons]
    omega
theorem tidy_len {l : List Nat} (hl : ∀ t ∈ l, t < 32) (hd : l.Nodup) : (tidyL l).length = l.length := by
  rw [tidyL, flt, ← cnt_nodup (n := 5) hl hd, ← cnt_filter]
  rfl
theorem sh1_len {m x : Nat} {ns : List Nat} (h : Cls m ns) : (sh1 x ns).length = ns.length := by
  rw [Go.Proofs.Ytpkilacappjkhaa.sh1, tidy_len, List.length_map]
  · intro t ht
    obtain ⟨s, hs, rfl⟩ := List.mem_map.1 ht
    exact Nat.lt_of_le_of_lt (shs_le x ns s) (h.lt32 s hs)
  · have hnd : ns.Nodup := h.asc.imp (fun h => Nat.ne_of_lt h)
    rw [List.Nodup, List.pairwise_map]
    refine hnd.imp_of_mem (fun {a b} ha hb hne e => hne ?_)
    by_cases h1 : low x a ∈ ns
    · by_cases h2 : low x b ∈ ns
      · rw [shs_of_in h1, shs_of_in h2] at e; exact e
      · rw [shs_of_in h1, shs_of_out h2] at e
        exact absurd (e ▸ ha) h2
    · by_cases h2 : low x b ∈ ns
      · rw [shs_of_out h1, shs_of_in h2] at e
        exact absurd (e ▸ hb) h1
      · rw [shs_of_out h1, shs_of_out h2] at e
        have k1 : hasX x a = true := by
          cases hh : hasX x a with
          | true => rfl
          | false => rw [low_of hh] at h1; exact absurd ha h1
        have k2 : hasX x b = true := by
          cases hh : hasX x b with
          | true => rfl
          | false => rw [low_of hh] at h2; exact absurd hb h2
        exact low_inj k1 k2 e
theorem swTo_len {m : Nat} {ns : List Nat} (h : Cls m ns) (k : Nat) : (swTo ns k).length = ns.length := by
  induction k with
  | zero => rfl
  | succ k ih => exact (sh1_len (h.swTo k)).trans ih
theorem low_high {n x s : Nat} (hn : n < 5) (hx : x < n) (hs : s < 2 ^ n) : low x (s + 2 ^ n) = low x s + 2 ^ n ∧ low x s < 2 ^ n := by
  have key : ∀ n : Fin 5, ∀ x : Fin 5, ∀ s : Fin 16, (x : Nat) < (n : Nat) → (s : Nat) < 2 ^ (n : Nat) → low (x : Nat) ((s : Nat) + 2 ^ (n : Nat)) = low (x : Nat) (s : Nat) + 2 ^ (n : Nat) ∧ low (x : Nat) (s : Nat) < 2 ^ (n : Nat) := by decide +kernel
  have h16 := sixteen hn
  exact key ⟨n, hn⟩ ⟨x, by omega⟩ ⟨s, by omega⟩ hx hs
theorem low_top {n s : Nat} (hn : n < 5) (hs : s < 2 ^ n) : low n (s + 2 ^ n) = s := by
  have key : ∀ n : Fin 5, ∀ s : Fin 16, (s : Nat) < 2 ^ (n : Nat) → low (n : Nat) ((s : Nat) + 2 ^ (n : Nat)) = (s : Nat) := by decide +kernel
  have h16 := sixteen hn
  exact key ⟨n, hn⟩ ⟨s, by omega⟩ hs
/-- a class that has all parts of its sets shatters just these -/
theorem down_self {n : Nat} (hn : n ≤ 5) (f : Nat → Bool) (hd : ∀ x, x < n → ∀ s, s < 2 ^ n → f s = true → f (low x s) = true) : ∀ s, s < 2 ^ n → shF n f s = f s ∧ stF n f s = f s := by
  induction n generalizing f with
  | zero =>
    intro s hs
    obtain rfl : s = 0 := by simp at hs; omega
    exact ⟨rfl, rfl⟩
  | succ n ih =>
    have hp : 2 ^ (n + 1) = 2 ^ n + 2 ^ n := by rw [Nat.pow_succ]; omega
    have d1 := ih (by omega) f (fun x hx s hs hf => hd x (by omega) s (by omega) hf)
    have d2 := ih (by omega) (up n f) (fun x hx s hs hf => by
      have := hd x (by omega) (s + 2 ^ n) (by omega) hf
      rw [(low_high (by omega) hx hs).1] at this
      exact this)
    have hup : ∀ t, t < 2 ^ n → up n f t = true → f t = true := fun t ht hf => by
      have := hd n (by omega) (t + 2 ^ n) (by omega) hf
      rw [low_top (by omega) ht] at this
      exact this
    have e1 : ∀ t, t < 2 ^ n → orF f (up n f) t = f t := fun t ht => by
      have := hup t ht
      simp only [orF]
      cases h1 : f t <;> cases h2 : up n f t <;> simp_all
    have e2 : ∀ t, t < 2 ^ n → andF f (up n f) t = up n f t := fun t ht => by
      have := hup t ht
      simp only [andF]
      cases h1 : f t <;> cases h2 : up n f t <;> simp_all
    intro s hs
    simp only [shF, stF]
    by_cases hlt : s < 2 ^ n
    · rw [if_pos hlt, if_pos hlt, shF_congr e1, (d1 s hlt).1, (d1 s hlt).2, (d2 s hlt).2]
      exact ⟨rfl, e1 s hlt⟩
    · obtain ⟨r, rfl⟩ : ∃ r, s = r + 2 ^ n := ⟨s - 2 ^ n, by omega⟩
      have hr : r < 2 ^ n := by omega
      rw [if_neg hlt, if_neg hlt, Nat.add_sub_cancel, stF_congr e2, (d1 r hr).1, (d2 r hr).1, (d2 r hr).2]
      exact ⟨e2 r hr, rfl⟩
theorem swp_down {m : Nat} {ns : List Nat} (h : Cls m ns) : ∀ s, s < 2 ^ m → sht (swp m ns) s = inF (swp m ns) s ∧ strg (swp m ns) s = inF (swp m ns) s := by
  have hc : Cls m (swp m ns) := h.swTo m
  have hd := down_self h.pts (inF (swp m ns)) (fun x hx s _ hf => by
    have hf2 : s ∈ swp m ns := by simpa [inF] using hf
    have := xdn_swTo h m h.pts x hx s hf2
    simp [inF]
    exact this)
  intro s hs
  rw [sht_sh hc hs, strg_st hc hs]
  exact hd s hs
theorem swp_shat {m : Nat} {ns : List Nat} (h : Cls m ns) : (List.range (2 ^ m)).filter (sht (swp m ns)) = swp m ns ∧ (List.range (2 ^ m)).filter (strg (swp m ns)) = swp m ns := by
  have hc : Cls m (swp m ns) := h.swTo m
  have hd := swp_down h
  constructor
  · rw [List.filter_congr (q := inF (swp m ns)) (fun s hs => (hd s (List.mem_range.1 hs)).1), hc.self]
  · rw [List.filter_congr (q := inF (swp m ns)) (fun s hs => (hd s (List.mem_range.1 hs)).2), hc.self]

/-- a set of the points without x, with the points behind moved up -/
def ins (x t : Nat) : Nat := t % 2 ^ x + t / 2 ^ x * 2 ^ (x + 1)
theorem ins_facts {n x t : Nat} (hn : n < 5) (hx : x ≤ n) (ht : t < 2 ^ n) : ins x t < 2 ^ (n + 1) ∧ ins x t + 2 ^ x < 2 ^ (n + 1) ∧ rmv x (ins x t) = t ∧ rmv x (ins x t + 2 ^ x) = t ∧ hasX x (ins x t) = false ∧ hasX x (ins x t + 2 ^ x) = true ∧ pc (ins x t) = pc t := by
  have key : ∀ n : Fin 5, ∀ x : Fin 5, ∀ t : Fin 16, (x : Nat) ≤ (n : Nat) → (t : Nat) < 2 ^ (n : Nat) → ins (x : Nat) (t : Nat) < 2 ^ ((n : Nat) + 1) ∧ ins (x : Nat) (t : Nat) + 2 ^ (x : Nat) < 2 ^ ((n : Nat) + 1) ∧ rmv (x : Nat) (ins (x : Nat) (t : Nat)) = (t : Nat) ∧ rmv (x : Nat) (ins (x : Nat) (t : Nat) + 2 ^ (x : Nat)) = (t : Nat) ∧ hasX (x : Nat) (ins (x : Nat) (t : Nat)) = false ∧ hasX (x : Nat) (ins (x : Nat) (t : Nat) + 2 ^ (x : Nat)) = true ∧ pc (ins (x : Nat) (t : Nat)) = pc (t : Nat) := by decide +kernel
  have h16 := sixteen hn
  exact key ⟨n, hn⟩ ⟨x, by omega⟩ ⟨t, by omega⟩ hx ht
theorem rmv_facts {n x s : Nat} (hn : n < 5) (hx : x ≤ n) (hs : s < 2 ^ (n + 1)) : rmv x s < 2 ^ n ∧ (hasX x s = false → ins x (rmv x s) = s) ∧ (hasX x s = true → ins x (rmv x s) + 2 ^ x = s) := by
  have key : ∀ n : Fin 5, ∀ x : Fin 5, ∀ s : Fin 32, (x : Nat) ≤ (n : Nat) → (s : Nat) < 2 ^ ((n : Nat) + 1) → rmv (x : Nat) (s : Nat) < 2 ^ (n : Nat) ∧ (hasX (x : Nat) (s : Nat) = false → ins (x : Nat) (rmv (x : Nat) (s : Nat)) = (s : Nat)) ∧ (hasX (x : Nat) (s : Nat) = true → ins (x : Nat) (rmv (x : Nat) (s : Nat)) + 2 ^ (x : Nat) = (s : Nat)) := by decide +kernel
  have h32 := pow_le_32 (n := n + 1) (by omega)
  exact key ⟨n, hn⟩ ⟨x, by omega⟩ ⟨s, by omega⟩ hx hs
theorem ins_and {n x u s : Nat} (hn : n < 5) (hx : x ≤ n) (hu : u < 2 ^ n) (hs : s < 2 ^ n) : ins x u &&& ins x s = ins x (u &&& s) ∧ (ins x u + 2 ^ x) &&& ins x s = ins x (u &&& s) := by
  have key : ∀ x : Fin 5, ∀ u : Fin 16, ∀ s : Fin 16, ins (x : Nat) (u : Nat) &&& ins (x : Nat) (s : Nat) = ins (x : Nat) ((u : Nat) &&& (s : Nat)) ∧ (ins (x : Nat) (u : Nat) + 2 ^ (x : Nat)) &&& ins (x : Nat) (s : Nat) = ins (x : Nat) ((u : Nat) &&& (s : Nat)) := by decide +kernel
  have h16 := sixteen hn
  exact key ⟨x, by omega⟩ ⟨u, by omega⟩ ⟨s, by omega⟩
theorem ins_top {n t : Nat} (ht : t < 2 ^ n) : ins n t = t := by rw [ins, Nat.mod_eq_of_lt ht, Nat.div_eq_of_lt ht]; omega
theorem ins_up {n x t : Nat} (hn : n < 4) (hx : x ≤ n) (ht : t < 2 ^ n) : ins x (t + 2 ^ n) = ins x t + 2 ^ (n + 1) := by
  have key : ∀ n : Fin 4, ∀ x : Fin 5, ∀ t : Fin 16, (x : Nat) ≤ (n : Nat) → (t : Nat) < 2 ^ (n : Nat) → ins (x : Nat) ((t : Nat) + 2 ^ (n : Nat)) = ins (x : Nat) (t : Nat) + 2 ^ ((n : Nat) + 1) := by decide +kernel
  have h16 := sixteen (n := n) (by omega)
  exact key ⟨n, hn⟩ ⟨x, by omega⟩ ⟨t, by omega⟩ hx ht
theorem cnt_ins {n x : Nat} (hn : n < 5) (hx : x ≤ n) (f : Nat → Bool) : cnt (n + 1) f = cnt n (fun t => f (ins x t)) + cnt n (fun t => f (ins x t + 2 ^ x)) := by
  induction n generalizing f with
  | zero =>
    obtain rfl : x = 0 := by omega
    simp [cnt, up, ins]
  | succ n ih =>
    by_cases e : x = n + 1
    · subst e
      rw [cnt]
      congr 1
      · exact cnt_congr (fun t ht => by rw [ins_top ht])
      · exact cnt_congr (fun t ht => by simp only [up]; rw [ins_top ht])
    · have hx2 : x ≤ n := by omega
      have h1 := ih (by omega) hx2 f
      have h2 := ih (by omega) hx2 (up (n + 1) f)
      rw [cnt, h1, h2, show cnt (n + 1) (fun t => f (ins x t)) = cnt n (fun t => f (ins x t)) + cnt n (up n (fun t => f (ins x t))) from rfl, show cnt (n + 1) (fun t => f (ins x t + 2 ^ x)) = cnt n (fun t => f (ins x t + 2 ^ x)) + cnt n (up n (fun t => f (ins x t + 2 ^ x))) from rfl]
      have e1 : cnt n (up n (fun t => f (ins x t))) = cnt n (fun t => up (n + 1) f (ins x t)) := cnt_congr (fun t ht => by simp only [up]; rw [ins_up (by omega) hx2 ht])
      have e2 : cnt n (up n (fun t => f (ins x t + 2 ^ x))) = cnt n (fun t => up (n + 1) f (ins x t + 2 ^ x)) := cnt_congr (fun t ht => by simp only [up]; rw [ins_up (by omega) hx2 ht]; congr 1; omega)
      rw [e1, e2]
      omega
/-- the class without x, and what is there with it and without it -/
def rmvL (x : Nat) (ns : List Nat) : List Nat := tidyL (ns.map (rmv x))
def lnkN (x : Nat) (ns : List Nat) : List Nat := tidyL ((ns.filter (lnkP x ns)).map (rmv x))
theorem mem_rmvL {n x : Nat} {ns : List Nat} (h : Cls (n + 1) ns) (hx : x ≤ n) {t : Nat} (ht : t < 2 ^ n) : t ∈ rmvL x ns ↔ ins x t ∈ ns ∨ ins x t + 2 ^ x ∈ ns := by
  have hn : n < 5 := by have := h.pts; omega
  have hf := ins_facts hn hx ht
  have h32 := pow_le_32 (n := n) (by omega)
  rw [rmvL, tidyL, mem_flt]
  simp only [decide_eq_true_eq, List.mem_map]
  constructor
  · rintro ⟨_, s, hs, rfl⟩
    have hr := rmv_facts hn hx (h.lt s hs)
    cases hh : hasX x s with
    | false => exact .inl (by rw [hr.2.1 hh]; exact hs)
    | true => exact .inr (by rw [hr.2.2 hh]; exact hs)
  · rintro (hs | hs)
    · exact ⟨by omega, _, hs, hf.2.2.1⟩
    · exact ⟨by omega, _, hs, hf.2.2.2.1⟩
theorem mem_lnkN {n x : Nat} {ns : List Nat} (h : Cls (n + 1) ns) (hx : x ≤ n) {t : Nat} (ht : t < 2 ^ n) : t ∈ lnkN x ns ↔ ins x t ∈ ns ∧ ins x t + 2 ^ x ∈ ns := by
  have hn : n < 5 := by have := h.pts; omega
  have hf := ins_facts hn hx ht
  have h32 := pow_le_32 (n := n) (by omega)
  rw [lnkN, tidyL, mem_flt]
  simp only [decide_eq_true_eq, List.mem_map, List.mem_filter, lnkP, Bool.and_eq_true, Bool.not_eq_true']
  constructor
  · rintro ⟨_, s, ⟨hs, h1, h2⟩, rfl⟩
    have hr := rmv_facts hn hx (h.lt s hs)
    rw [hr.2.1 h1]
    exact ⟨hs, h2⟩
  · rintro ⟨h1, h2⟩
    exact ⟨by omega, _, ⟨h1, hf.2.2.2.2.1, h2⟩, hf.2.2.1⟩
theorem rmvL_cls {n x : Nat} {ns : List Nat} (h : Cls (n + 1) ns) (hx : x ≤ n) : Cls n (rmvL x ns) := by
  have hn : n < 5 := by have := h.pts; omega
  refine ⟨by omega, by unfold rmvL; exact tidy_asc _, fun t ht => ?_⟩
  rw [rmvL, tidyL, mem_flt] at ht
  simp only [decide_eq_true_eq, List.mem_map] at ht
  obtain ⟨_, s, hs, rfl⟩ := ht
  exact (rmv_facts hn hx (h.lt s hs)).1
theorem lnkN_cls {n x : Nat} {ns : List Nat} (h : Cls (n + 1) ns) (hx : x ≤ n) : Cls n (lnkN x ns) := by
  have hn : n < 5 := by have := h.pts; omega
  refine ⟨by omega, by unfold lnkN; exact tidy_asc _, fun t ht => ?_⟩
  rw [lnkN, tidyL, mem_flt] at ht
  simp only [decide_eq_true_eq, List.mem_map] at ht
  obtain ⟨_, s, hs, rfl⟩ := ht
  exact (rmv_facts hn hx (h.lt s (List.mem_filter.1 hs).1)).1
/-- together as many -/
theorem rmv_lnk {n x : Nat} {ns : List Nat} (h : Cls (n + 1) ns) (hx : x ≤ n) : (rmvL x ns).length + (lnkN x ns).length = ns.length := by
  have hn : n < 5 := by have := h.pts; omega
  have h1 := cnt_or_and n (fun t => inF ns (ins x t)) (fun t => inF ns (ins x t + 2 ^ x))
  have h2 := cnt_ins hn hx (inF ns)
  rw [← (rmvL_cls h hx).cnt, ← (lnkN_cls h hx).cnt, ← h.cnt, h2, ← h1]
  congr 1
  · exact cnt_congr (fun t ht => by rw [Bool.eq_iff_iff]; simp only [inF, orF, decide_eq_true_eq, Bool.or_eq_true]; exact mem_rmvL h hx ht)
  · exact cnt_congr (fun t ht => by rw [Bool.eq_iff_iff]; simp only [inF, andF, decide_eq_true_eq, Bool.and_eq_true]; exact mem_lnkN h hx ht)
theorem rmv_sht {n x : Nat} {ns : List Nat} (h : Cls (n + 1) ns) (hx : x ≤ n) {s : Nat} (hs : s < 2 ^ n) (hh : sht (rmvL x ns) s = true) : sht ns (ins x s) = true := by
  have hn : n < 5 := by have := h.pts; omega
  have hi := ins_facts hn hx hs
  rw [sht_sh (rmvL_cls h hx) hs, shF_iff (by omega) _ hs] at hh
  rw [sht_sh h hi.1, shF_iff h.pts _ hi.1]
  intro p hp hps
  have hpx : hasX x p = false := by
    have key : ∀ x : Fin 5, ∀ p : Fin 32, ∀ q : Fin 32, hasX (x : Nat) (q : Nat) = false → (p : Nat) &&& (q : Nat) = (p : Nat) → hasX (x : Nat) (p : Nat) = false := by decide +kernel
    have h32 := pow_le_32 (n := n + 1) (by omega)
    exact key ⟨x, by omega⟩ ⟨p, by omega⟩ ⟨ins x s, by omega⟩ hi.2.2.2.2.1 hps
  have hr := rmv_facts hn hx hp
  have hrp := hr.2.1 hpx
  obtain ⟨u, hu, hf, he⟩ := hh (rmv x p) hr.1 (by
    have h1 := (ins_and hn hx hr.1 hs).1
    rw [hrp, hps] at h1
    have h2 := (ins_facts hn hx (t := rmv x p &&& s) (Nat.lt_of_le_of_lt Nat.and_le_left hr.1)).2.2.1
    rw [← h1] at h2
    exact h2.symm)
  have hu2 : u ∈ rmvL x ns := by simpa [inF] using hf
  have hiu := ins_facts hn hx hu
  have ha := ins_and hn hx hu hs
  rcases (mem_rmvL h hx hu).1 hu2 with h5 | h5
  · exact ⟨_, hiu.1, by simp [inF, h5], by rw [ha.1, he, hrp]⟩
  · exact ⟨_, hiu.2.1, by simp [inF, h5], by rw [ha.2, he, hrp]⟩
theorem rmv_vc {n x : Nat} {ns : List Nat} (h : Cls (n + 1) ns) (hx : x ≤ n) : vcL n (rmvL x ns) ≤ vcL (n + 1) ns := by
  have hn : n < 5 := by have := h.pts; omega
  rcases widL_at ((List.range (2 ^ n)).filter (sht (rmvL x ns))) with e | ⟨s, hs, e⟩
  · have := (vcL_bd (n + 1) ns).1
    unfold vcL at *
    omega
  · have hs2 := List.mem_range.1 (List.mem_filter.1 hs).1
    have h1 := rmv_sht h hx hs2 (List.mem_filter.1 hs).2
    have hi := ins_facts hn hx hs2
    have h2 := widL_ge (ns := (List.range (2 ^ (n + 1))).filter (sht ns)) (List.mem_filter.2 ⟨List.mem_range.2 hi.1, h1⟩)
    rw [hi.2.2.2.2.2.2] at h2
    unfold vcL
    omega

/-- the dual class -/
def duaL (m : Nat) (ns : List Nat) : List Nat := tidyL (dul m ns)
theorem duaL_cls {m : Nat} {ns : List Nat} (hl : ns.length ≤ 5) : Cls ns.length (duaL m ns) := by
  refine ⟨hl, by unfold duaL; exact tidy_asc _, fun t ht => ?_⟩
  rw [duaL, tidyL, mem_flt] at ht
  have := ht.2
  simp only [decide_eq_true_eq] at this
  exact dul_lt this
theorem duaL_len {m : Nat} {ns : List Nat} : (duaL m ns).length ≤ m := by
  have h1 := cnt_in_le 5 (dul m ns)
  rw [duaL, tidyL, flt]
  have h2 := cnt_filter 5 (inF (dul m ns))
  have h3 : (dul m ns).length = m := by simp [dul]
  have h4 : (List.filter (fun p => decide (p ∈ dul m ns)) (List.range 32)).length = cnt 5 (inF (dul m ns)) := h2
  omega
theorem vcL_pts {m : Nat} {ns : List Nat} (hm : m ≤ 5) : vcL m ns ≤ m := by
  rcases widL_at ((List.range (2 ^ m)).filter (sht ns)) with e | ⟨s, hs, e⟩
  · unfold vcL; omega
  · have := pc_le m s hm (List.mem_range.1 (List.mem_filter.1 hs).1)
    unfold vcL
    omega
theorem dual_vc {m : Nat} {ns : List Nat} (h : Cls m ns) (hl : ns.length ≤ 5) : vcL ns.length (duaL m ns) < (2 : Int) ^ (vcL m ns + 1).toNat := by
  have hD := duaL_cls (m := m) hl
  have h1 := vcL_pts (ns := duaL m ns) hl
  have h2 := duaL_len (m := m) (ns := ns)
  have hb := vcL_bd m ns
  have hbD := vcL_bd ns.length (duaL m ns)
  have hm := h.pts
  have h3 : vcL ns.length (duaL m ns) ≤ 2 := by
    apply Classical.byContradiction
    intro hc
    have h4 := vcL_pow (m := ns.length) (ns := duaL m ns) (by omega)
    have h5 : 2 ^ 3 ≤ 2 ^ (vcL ns.length (duaL m ns)).toNat := Nat.pow_le_pow_right (by omega) (by omega)
    omega
  have hs := sauer h
  have key : ∀ m : Fin 6, sauerB (m : Nat) 0 ≤ 1 := by decide +kernel
  have h0 := key ⟨m, by omega⟩
  by_cases e1 : vcL m ns = -1
  · have := (vcL_neg h).1 (by omega)
    rw [e1]
    subst this
    have h6 : (([] : List Nat).length : Int) = 0 := rfl
    show _ < (2 : Int) ^ 0
    simp only [List.length_nil] at *
    omega
  · by_cases e2 : vcL m ns = 0
    · rw [e2] at hs ⊢
      show _ < (2 : Int) ^ 1
      have h7 : sauerB (m : Int) 0 ≤ 1 := h0
      omega
    · obtain ⟨k, hk⟩ := Int.eq_ofNat_of_zero_le (show 0 ≤ vcL m ns - 1 by omega)
      rw [show (vcL m ns + 1).toNat = 2 + k by omega, Int.pow_add]
      have h8 : (1 : Int) ≤ 2 ^ k := by
        have := Nat.two_pow_pos k
        have hp : ((2 ^ k : Nat) : Int) = (2 : Int) ^ k := by simp
        omega
      have h9 : (2 : Int) ^ 2 = 4 := rfl
      rw [h9]
      omega

end Go.Proofs.Ytpkilacappjkhaa
