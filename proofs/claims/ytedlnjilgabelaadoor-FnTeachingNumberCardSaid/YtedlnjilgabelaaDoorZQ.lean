/- Sets of sets as the bits of a number: familyOf, split. Conditions: the table setsWith reads as its initialiser lays it. The model's fits. Conditions: the set is small, the point is below 5. The first ones of a list that meet a test. No conditions. The model's fits, keep, yes, no. Conditions: sets is a slice of small sets, the point is below 5. The sets that fit an example: fitting. Conditions: the point is one of five; the table setsWith is laid. Sets that agree with one at some points, and those that teach: mathematics. No conditions. The least ones of a list: mathematics. No conditions. The least ones of a list, and the first smallest set that teaches: mathematics. No conditions. The program's familyOf. Conditions: Sets is a slice of small sets. Cells that are known and kept, for the loops over iterators. No conditions. -/
import Derived.Deep.RegionHeld3
import Derived.LoopIn
import Derived.LoopNIn
import Derived.OwnWalkIn
import Derived.RangeFuncBound
import Derived.RangeFuncCalls
import Derived.RangeFuncLeaves
import Derived.RangeFuncNested
import Derived.Shelf.Abstract
import Derived.Shelf.RegionOpen
import Derived.TacticsInMore
import Derived.Test.YtedlnjilgabelaaDoorZA
import Derived.Test.YtedlnjilgabelaaDoorZH
import Derived.WalkKit
namespace Go.Proofs.YtedlnjilgabelaaDoor
open Go.RowKit

/-- the sets below 32 that have the point x, as bits -/
def swZ : List Int := [2863311530, 3435973836, 4042322160, 4278255360, 4294901760]
def sw (x : Nat) : BitVec 32 := BitVec.ofInt 32 (swZ.getD x 0)
/-- the table -/
def SW (w : World) : Prop := 0 < w.heap.size ∧ ∀ x, x < 5 → w.cell? ⟨0, x, none⟩ = some (.int .u32 (swZ.getD x 0))
theorem SW.below {w w' : World} {B : Nat} (h : SW w) (hb : Below B w w') (hB : 0 < B) : SW w' :=
  ⟨Nat.lt_of_lt_of_le h.1 hb.size, fun x hx => by rw [hb.cell (p := ⟨0, x, none⟩) hB]; exact h.2 x hx⟩
theorem SW.next {w w' : World} (h : SW w) (hb : Below w.heap.size w w') : SW w' := h.below hb h.1

theorem sw_bit {x s : Nat} (hx : x < 5) (hs : s < 32) : (sw x).getLsbD s = hasX x s := by
  have key : ∀ x : Fin 5, ∀ s : Fin 32, (sw x).getLsbD s = hasX x s := by decide +kernel
  exact key ⟨x, hx⟩ ⟨s, hs⟩
theorem sw_int {x : Nat} (hx : x < 5) : swZ.getD x 0 = ((sw x).toNat : Int) := by
  have key : ∀ x : Fin 5, swZ.getD x 0 = ((sw x).toNat : Int) := by decide +kernel
  exact key ⟨x, hx⟩

/-- the sets of a list, as bits -/
def famB : List Nat → BitVec 32
  | [] => 0
  | s :: l => famB l ||| (1#32 <<< s)
def fm (l : List Nat) : Int := ((famB l).toNat : Int)
theorem famB_bit (l : List Nat) {s : Nat} (hs : s < 32) : (famB l).getLsbD s = decide (s ∈ l) := by
  induction l with
  | nil => simp [famB]
  | cons t l ih =>
    rw [famB, BitVec.getLsbD_or, ih, Bool.eq_iff_iff]
    simp [hs]
    constructor
    · rintro (h | ⟨h1, h2⟩)
      · exact .inr h
      · exact .inl (by omega)
    · rintro (rfl | h)
      · exact .inr ⟨Nat.le_refl _, by omega⟩
      · exact .inl h
theorem famB_ext {a : BitVec 32} {l : List Nat} (h : ∀ s, s < 32 → a.getLsbD s = decide (s ∈ l)) : a = famB l := by
  apply BitVec.eq_of_getLsbD_eq
  intro s hs
  rw [h s hs, famB_bit l hs]
theorem fm_nil : fm [] = 0 := by simp [fm, famB]
theorem fm_ne {l : List Nat} (h32 : ∀ s ∈ l, s < 32) : fm l ≠ 0 ↔ l ≠ [] := by
  constructor
  · rintro h rfl
    exact h fm_nil
  · intro h h0
    cases l with
    | nil => exact h rfl
    | cons t l =>
      have h1 : famB (t :: l) = 0 := by
        apply BitVec.eq_of_toNat_eq
        unfold fm at h0
        simp
        omega
      have h2 := famB_bit (t :: l) (h32 t (by simp))
      rw [h1] at h2
      simp at h2
theorem ofInt_toNat (b : BitVec 32) : BitVec.ofInt 32 (b.toNat : Int) = b := by simp
theorem wrap_u32 (c : BitVec 32) : IntKind.u32.wrap (c.toNat : Int) = (c.toNat : Int) := by
  have := c.isLt
  simp [IntKind.wrap, IntKind.bits, IntKind.signed]
  omega
theorem u32_and (a b : BitVec 32) : bits .and .u32 (a.toNat : Int) (b.toNat : Int) = ((a &&& b).toNat : Int) := by
  show IntKind.u32.wrap ((BitVec.ofInt 32 (a.toNat : Int) &&& BitVec.ofInt 32 (b.toNat : Int)).toNat : Int) = _
  rw [ofInt_toNat, ofInt_toNat]
  exact wrap_u32 _
theorem u32_andNot (a b : BitVec 32) : bits .andNot .u32 (a.toNat : Int) (b.toNat : Int) = ((a &&& ~~~ b).toNat : Int) := by
  show IntKind.u32.wrap ((BitVec.ofInt 32 (a.toNat : Int) &&& ~~~ BitVec.ofInt 32 (b.toNat : Int)).toNat : Int) = _
  rw [ofInt_toNat, ofInt_toNat]
  exact wrap_u32 _
theorem u32_or (a b : BitVec 32) : bits .or .u32 (a.toNat : Int) (b.toNat : Int) = ((a ||| b).toNat : Int) := by
  show IntKind.u32.wrap ((BitVec.ofInt 32 (a.toNat : Int) ||| BitVec.ofInt 32 (b.toNat : Int)).toNat : Int) = _
  rw [ofInt_toNat, ofInt_toNat]
  exact wrap_u32 _
/-- those that have x, and those that do not -/
def wth (x : Nat) (l : List Nat) : List Nat := l.filter (fun s => hasX x s)
def wto (x : Nat) (l : List Nat) : List Nat := l.filter (fun s => !hasX x s)
theorem fm_wth {x : Nat} (hx : x < 5) (l : List Nat) : bits .and .u32 (fm l) (swZ.getD x 0) = fm (wth x l) := by
  rw [sw_int hx, fm, u32_and, fm]
  congr 2
  apply famB_ext
  intro s hs
  rw [BitVec.getLsbD_and, famB_bit l hs, sw_bit hx hs, Bool.eq_iff_iff]
  simp [wth]
theorem fm_wto {x : Nat} (hx : x < 5) (l : List Nat) : bits .andNot .u32 (fm l) (swZ.getD x 0) = fm (wto x l) := by
  rw [sw_int hx, fm, u32_andNot, fm]
  congr 2
  apply famB_ext
  intro s hs
  rw [BitVec.getLsbD_and, BitVec.getLsbD_not, famB_bit l hs, sw_bit hx hs, Bool.eq_iff_iff]
  simp [wto, hs]

set_option maxHeartbeats 800000 in
theorem implSplit (l : List Nat) (x : Nat) (hx : x < 5) (w : World) (h : SW w) :
    Calls Tryd.prog 53 #[.int .u32 (fm l), .int .i64 (x : Int)] w fun e w' => e = .returned (.tuple #[.int .u32 (fm (wth x l)), .int .u32 (fm (wto x l))]) ∧ ∃ d, w' = w.drewN d := by
  have hc := h.2 x hx
  have h1 := fm_wth hx l
  have h2 := fm_wto hx l
  generalize swZ.getD x 0 = z at *
  generalize fm l = F at *
  generalize fm (wth x l) = F1 at *
  generalize fm (wto x l) = F2 at *
  have hx5 : (x : Int) < 5 := by omega
  go_enter Tryd.func53, Tryd.ntmps53
  go_wp2_with fail
  go_quiet (fail)
  go_wp2_with fail
  refine bodyPost_ret (v := .tuple #[.int .u32 F1, .int .u32 F2]) (by simp [results, Tryd.results53, go_sem]) rfl ?_
  exact ⟨rfl, nq, rfl⟩

end Go.Proofs.YtedlnjilgabelaaDoor

namespace Go.Proofs.YtedlnjilgabelaaDoor
open Go.RowKit


end Go.Proofs.YtedlnjilgabelaaDoor

namespace Go.Proofs.YtedlnjilgabelaaDoor

theorem take_succ' {ns : List Nat} {k : Nat} (hk : k < ns.length) : ns.take (k + 1) = ns.take k ++ [ns.getD k 0] := by
  rw [List.take_add_one, List.getElem?_eq_getElem hk, List.getD_eq_getElem?_getD, List.getElem?_eq_getElem hk]; rfl
def keepTo (p : Nat → Bool) (ns : List Nat) (k : Nat) : List Nat := (ns.take k).filter p
theorem keepTo_yes {p : Nat → Bool} {ns : List Nat} {k : Nat} (hk : k < ns.length) (h : p (ns.getD k 0) = true) : keepTo p ns (k + 1) = keepTo p ns k ++ [ns.getD k 0] := by
  rw [keepTo, take_succ' hk, List.filter_append, List.filter_cons_of_pos h]; rfl
theorem keepTo_no {p : Nat → Bool} {ns : List Nat} {k : Nat} (hk : k < ns.length) (h : p (ns.getD k 0) = false) : keepTo p ns (k + 1) = keepTo p ns k := by
  rw [keepTo, take_succ' hk, List.filter_append, List.filter_cons_of_neg (fun e => by rw [h] at e; cases e)]; simp [keepTo]
theorem keepTo_le (p : Nat → Bool) (ns : List Nat) (k : Nat) : (keepTo p ns k).length ≤ ns.length := by
  have h1 := List.length_filter_le p (ns.take k)
  have h2 := List.length_take_le k ns
  have h3 : (ns.take k).length ≤ ns.length := by simp; omega
  unfold keepTo
  omega
theorem keepTo_all (p : Nat → Bool) (ns : List Nat) : keepTo p ns ns.length = ns.filter p := by rw [keepTo, List.take_length]

end Go.Proofs.YtedlnjilgabelaaDoor

namespace Go.Proofs.YtedlnjilgabelaaDoor
open Go.RowKit




end Go.Proofs.YtedlnjilgabelaaDoor

namespace Go.Proofs.YtedlnjilgabelaaDoor
open Go.RowKit

/-- those that fit an example -/
def kp (l : List Nat) (e : Int × Bool) : List Nat := l.filter (fun s => hasX e.1.toNat s == e.2)
theorem kp_true (l : List Nat) (x : Nat) : kp l ((x : Int), true) = wth x l := by unfold kp wth; congr 1; funext s; simp
theorem kp_false (l : List Nat) (x : Nat) : kp l ((x : Int), false) = wto x l := by unfold kp wto; congr 1; funext s; simp

set_option maxHeartbeats 1600000 in
set_option maxRecDepth 100000 in
theorem implFitting (l : List Nat) (x : Nat) (b : Bool) (hx : x < 5) (w : World) (hsw : SW w) :
    Calls Tryd.prog 49 #[.int .u32 (fm l), .agg #[.int .i64 (x : Int), .bool b]] w fun e w' => e = .returned (.int .u32 (fm (kp l ((x : Int), b)))) ∧ Below w.heap.size w w' := by
  have HSW := Lib.hid hsw
  have HS := Lib.hid (fun w h => implSplit l x hx w h)
  cases b with
  | true =>
    rw [kp_true]
    clear hsw
    generalize fm l = F at *
    generalize fm (wth x l) = F1 at *
    generalize fm (wto x l) = F2 at *
    go_enter Tryd.func49, Tryd.ntmps49
    go_wp2_with fail
    refine (HS.out _ (HSW.out.next (by go_grown))).mono ?_
    rintro e w2 ⟨rfl, d, rfl⟩
    go_wp2_with fail
    go_ret
    exact ⟨rfl, below_drewN (by go_grown) d⟩
  | false =>
    rw [kp_false]
    clear hsw
    generalize fm l = F at *
    generalize fm (wth x l) = F1 at *
    generalize fm (wto x l) = F2 at *
    go_enter Tryd.func49, Tryd.ntmps49
    go_wp2_with fail
    refine (HS.out _ (HSW.out.next (by go_grown))).mono ?_
    rintro e w2 ⟨rfl, d, rfl⟩
    go_wp2_with fail
    go_ret
    exact ⟨rfl, below_drewN (by go_grown) d⟩


end Go.Proofs.YtedlnjilgabelaaDoor

namespace Go.Proofs.YtedlnjilgabelaaDoor
open Go.RowKit

/-- those that have just the points of s that t has -/
def agr (t s : Nat) (l : List Nat) : List Nat := l.filter (fun u => u &&& s == t &&& s)
/-- the points of a set -/
def ptl (s : Nat) : List Nat := (List.range 5).filter (fun x => hasX x s)
/-- what is left behind the examples that t gives at the points xs -/
def lft (t : Nat) (xs : List Nat) (l : List Nat) : List Nat := xs.foldl (fun (l : List Nat) (x : Nat) => kp l ((x : Int), hasX x t)) l
theorem lft_nil (t : Nat) (l : List Nat) : lft t [] l = l := rfl
theorem lft_snoc (t : Nat) (xs : List Nat) (x : Nat) (l : List Nat) : lft t (xs ++ [x]) l = kp (lft t xs l) ((x : Int), hasX x t) := by simp [lft]
theorem lft_filter (t : Nat) (xs : List Nat) (l : List Nat) : lft t xs l = l.filter (fun u => xs.all (fun x => hasX x u == hasX x t)) := by
  induction xs generalizing l with
  | nil => rw [lft_nil]; exact (List.filter_eq_self.2 (fun _ _ => rfl)).symm
  | cons x xs ih =>
    show lft t xs (kp l ((x : Int), hasX x t)) = _
    rw [ih, kp, List.filter_filter]
    congr 1
    funext u
    simp only [List.all_cons, Int.toNat_natCast]
    exact Bool.and_comm _ _
theorem agr_all {t s : Nat} (ht : t < 32) (hs : s < 32) {l : List Nat} (hl : ∀ u ∈ l, u < 32) : lft t (ptl s) l = agr t s l := by
  rw [lft_filter, agr]
  refine List.filter_congr (fun u hu => ?_)
  have key : ∀ x : Fin 32, ∀ s : Fin 32, (ptl (s : Nat)).all (fun i => hasX i (x : Nat) == hasX i 0) = ((x : Nat) &&& (s : Nat) == 0) := by decide +kernel
  have key2 : ∀ i : Fin 5, ∀ u t : Fin 32, (hasX (i : Nat) (u : Nat) == hasX i (t : Nat)) = (hasX i ((u : Nat) ^^^ (t : Nat)) == hasX i 0) := by decide +kernel
  have hx : u ^^^ t < 32 := Nat.xor_lt_two_pow (n := 5) (hl u hu) ht
  have h1 := key ⟨u ^^^ t, hx⟩ ⟨s, hs⟩
  have h2 : (ptl s).all (fun x => hasX x u == hasX x t) = (ptl s).all (fun i => hasX i (u ^^^ t) == hasX i 0) := by
    rw [Bool.eq_iff_iff]
    simp only [List.all_eq_true]
    constructor
    · intro h i hi
      have h5 : i < 5 := List.mem_range.1 (List.mem_filter.1 hi).1
      exact (key2 ⟨i, h5⟩ ⟨u, hl u hu⟩ ⟨t, ht⟩) ▸ h i hi
    · intro h i hi
      have h5 : i < 5 := List.mem_range.1 (List.mem_filter.1 hi).1
      exact (key2 ⟨i, h5⟩ ⟨u, hl u hu⟩ ⟨t, ht⟩).symm ▸ h i hi
  rw [h2, h1, Bool.eq_iff_iff]
  simp only [beq_iff_eq]
  rw [Nat.and_xor_distrib_right]
  constructor
  · intro h
    have h9 := congrArg (· ^^^ (t &&& s)) h
    simpa [Nat.xor_assoc] using h9
  · intro h
    rw [h]; exact Nat.xor_self _

/-- t alone agrees with itself at the points of s -/
def tch (t s : Nat) (l : List Nat) : Bool := agr t s l == [t]
theorem agr_sub {t s u : Nat} {l : List Nat} (h : u ∈ agr t s l) : u ∈ l := (List.mem_filter.1 h).1
theorem mem_agr {t s : Nat} {l : List Nat} (h : t ∈ l) : t ∈ agr t s l := List.mem_filter.2 ⟨h, by simp⟩
theorem fm_inj {l : List Nat} {t : Nat} (hl : ∀ u ∈ l, u < 32) (hp : l.Pairwise (· < ·)) (ht : t < 32) : fm l = (2 : Int) ^ t ↔ l = [t] := by
  constructor
  · intro h
    have e : famB l = famB [t] := by
      apply BitVec.eq_of_toNat_eq
      have h2 : fm [t] = (2 : Int) ^ t := by
        have key : ∀ t : Fin 32, fm [(t : Nat)] = (2 : Int) ^ (t : Nat) := by decide +kernel
        exact key ⟨t, ht⟩
      have h3 : fm l = fm [t] := h.trans h2.symm
      unfold fm at h3
      omega
    refine asc_ext hp (List.pairwise_singleton _ _) (fun x => ?_)
    by_cases hx : x < 32
    · have h1 := famB_bit l hx
      have h2 := famB_bit [t] hx
      rw [e, h2] at h1
      simpa using h1.symm
    · constructor
      · intro h; exact absurd (hl x h) hx
      · intro h; simp only [List.mem_singleton] at h; omega
  · rintro rfl
    have key : ∀ t : Fin 32, fm [(t : Nat)] = (2 : Int) ^ (t : Nat) := by decide +kernel
    exact key ⟨t, ht⟩
theorem tch_count {t s : Nat} {l : List Nat} : tch t s l = (decide ((agr t s l).length = 1) && decide (t ∈ l)) := by
  rw [Bool.eq_iff_iff]
  simp only [tch, beq_iff_eq, Bool.and_eq_true, decide_eq_true_eq]
  constructor
  · intro h
    exact ⟨by rw [h]; rfl, agr_sub (t := t) (s := s) (by rw [h]; simp)⟩
  · rintro ⟨h, ht⟩
    obtain ⟨a, ha⟩ := List.length_eq_one_iff.1 h
    have := mem_agr (s := s) ht
    rw [ha] at this ⊢
    simp only [List.mem_singleton] at this
    rw [this]
/-- those that have been counted -/
def agrTo (t s : Nat) (l : List Nat) (k : Nat) : Nat := (agr t s (l.take k)).length
theorem agrTo_succ {t s k : Nat} {l : List Nat} (hk : k < l.length) : agrTo t s l (k + 1) = agrTo t s l k + (if l.getD k 0 &&& s = t &&& s then 1 else 0) := by
  unfold agrTo agr
  rw [take_succ' hk, List.filter_append, List.length_append]
  congr 1
  generalize l.getD k 0 = x
  by_cases h : x &&& s = t &&& s
  · rw [if_pos h]; simp [h]
  · rw [if_neg h]; simp [h]
theorem agrTo_all (t s : Nat) (l : List Nat) : agrTo t s l l.length = (agr t s l).length := by rw [agrTo, List.take_length]
theorem agrTo_le (t s : Nat) (l : List Nat) (k : Nat) : agrTo t s l k ≤ k := by
  unfold agrTo agr
  have := List.length_filter_le (fun u => u &&& s == t &&& s) (l.take k)
  rw [List.length_take] at this
  omega

end Go.Proofs.YtedlnjilgabelaaDoor

namespace Go.Proofs.YtedlnjilgabelaaDoor

/-- one more value: the list of the least so far, and their measure -/
def lstep (μ : Nat → Int) (a : List Nat × Int) (v : Nat) : List Nat × Int :=
  if a.1 = [] ∨ μ v < a.2 then ([v], μ v) else if μ v = a.2 then (a.1 ++ [v], a.2) else a
def lmn (μ : Nat → Int) (xs : List Nat) : List Nat × Int := xs.foldl (lstep μ) ([], 0)
theorem lmn_nil (μ : Nat → Int) : lmn μ [] = ([], 0) := rfl
theorem lmn_snoc (μ : Nat → Int) (xs : List Nat) (v : Nat) : lmn μ (xs ++ [v]) = lstep μ (lmn μ xs) v := by simp [lmn]
def LGood (μ : Nat → Int) (pre : List Nat) (a : List Nat × Int) : Prop :=
  (pre = [] ∧ a = ([], 0)) ∨ (a.1 ≠ [] ∧ a.1 = pre.filter (fun v => decide (μ v = a.2)) ∧ ∀ v ∈ pre, a.2 ≤ μ v)
theorem lgood_step {μ : Nat → Int} {pre : List Nat} {a : List Nat × Int} (h : LGood μ pre a) (v : Nat) : LGood μ (pre ++ [v]) (lstep μ a v) := by
  right
  rcases h with ⟨rfl, rfl⟩ | ⟨h1, h2, h3⟩
  · simp [lstep]
  · by_cases hl : μ v < a.2
    · rw [lstep, if_pos (.inr hl)]
      refine ⟨by simp, ?_, fun u hu => ?_⟩
      · show [v] = _
        rw [List.filter_append, List.filter_eq_nil_iff.2 (fun u hu => by have := h3 u hu; simp; omega)]
        simp
      · rcases List.mem_append.1 hu with hu | hu
        · have := h3 u hu
          show μ v ≤ μ u
          omega
        · rw [List.mem_singleton.1 hu]; exact Int.le_refl _
    · by_cases he : μ v = a.2
      · rw [lstep, if_neg (by rintro (e | e); exact h1 e; exact hl e), if_pos he]
        refine ⟨by simp, ?_, fun u hu => ?_⟩
        · show a.1 ++ [v] = _
          rw [List.filter_append, ← h2]
          simp [he]
        · rcases List.mem_append.1 hu with hu | hu
          · exact h3 u hu
          · rw [List.mem_singleton.1 hu]; show a.2 ≤ μ v; omega
      · rw [lstep, if_neg (by rintro (e | e); exact h1 e; exact hl e), if_neg he]
        refine ⟨h1, ?_, fun u hu => ?_⟩
        · rw [List.filter_append, ← h2]
          simp [he]
        · rcases List.mem_append.1 hu with hu | hu
          · exact h3 u hu
          · rw [List.mem_singleton.1 hu]; omega
theorem lgood_fold {μ : Nat → Int} : ∀ (xs : List Nat) (pre : List Nat) (a : List Nat × Int), LGood μ pre a → LGood μ (pre ++ xs) (xs.foldl (lstep μ) a)
  | [], pre, a, h => by simpa using h
  | x :: xs, pre, a, h => by
    have := lgood_fold xs (pre ++ [x]) (lstep μ a x) (lgood_step h x)
    simpa using this
theorem lmn_good (μ : Nat → Int) (xs : List Nat) : LGood μ xs (lmn μ xs) := by
  have := lgood_fold (μ := μ) xs [] ([], 0) (.inl ⟨rfl, rfl⟩)
  simpa [lmn] using this
theorem lmn_len (μ : Nat → Int) (xs : List Nat) : (lmn μ xs).1.length ≤ xs.length := by
  rcases lmn_good μ xs with ⟨_, h⟩ | ⟨_, h, _⟩
  · rw [h]; simp
  · rw [h]; exact List.length_filter_le _ _
theorem lmn_ne {μ : Nat → Int} {xs : List Nat} (h : xs ≠ []) : (lmn μ xs).1 ≠ [] := by
  rcases lmn_good μ xs with ⟨e, _⟩ | ⟨h, _⟩
  · exact absurd e h
  · exact h
theorem lmn_sub {μ : Nat → Int} {xs : List Nat} {v : Nat} (h : v ∈ (lmn μ xs).1) : v ∈ xs := by
  rcases lmn_good μ xs with ⟨_, e⟩ | ⟨_, e, _⟩
  · rw [e] at h; simp at h
  · rw [e] at h; exact (List.mem_filter.1 h).1

end Go.Proofs.YtedlnjilgabelaaDoor

namespace Go.Proofs.YtedlnjilgabelaaDoor
open Go.RowKit

/-- the best one so far, from b0 on -/
def bstN (p : Nat → Bool) (b0 k : Nat) : Nat := (List.range k).foldl (fun b s => if p s = true ∧ pc s < pc b then s else b) b0
theorem bstN_succ (p : Nat → Bool) (b0 k : Nat) : bstN p b0 (k + 1) = if p k = true ∧ pc k < pc (bstN p b0 k) then k else bstN p b0 k := by
  unfold bstN
  rw [List.range_succ, List.foldl_append]
  rfl
theorem bstN_spec (p : Nat → Bool) (b0 k : Nat) : (bstN p b0 k = b0 ∨ (bstN p b0 k < k ∧ p (bstN p b0 k) = true ∧ ∀ s, s < bstN p b0 k → p s = true → pc (bstN p b0 k) < pc s)) ∧ (∀ s, s < k → p s = true → pc (bstN p b0 k) ≤ pc s) := by
  induction k with
  | zero => exact ⟨.inl rfl, fun s hs => by omega⟩
  | succ k ih =>
    rw [bstN_succ]
    by_cases h : p k = true ∧ pc k < pc (bstN p b0 k)
    · rw [if_pos h]
      refine ⟨.inr ⟨by omega, h.1, fun s hs hp => ?_⟩, fun s hs hp => ?_⟩
      · have := ih.2 s hs hp
        omega
      · by_cases e : s = k
        · rw [e]; exact Nat.le_refl _
        · have := ih.2 s (by omega) hp
          omega
    · rw [if_neg h]
      refine ⟨?_, fun s hs hp => ?_⟩
      · rcases ih.1 with e | ⟨h1, h2, h3⟩
        · exact .inl e
        · exact .inr ⟨by omega, h2, h3⟩
      · by_cases e : s = k
        · subst e
          apply Classical.byContradiction
          intro hc
          exact h ⟨hp, by omega⟩
        · exact ih.2 s (by omega) hp
theorem full_and {m u : Nat} (hm : m ≤ 5) (hu : u < 2 ^ m) : u &&& (2 ^ m - 1) = u := by
  have key : ∀ m : Fin 6, ∀ u : Fin 32, (u : Nat) < 2 ^ (m : Nat) → (u : Nat) &&& (2 ^ (m : Nat) - 1) = u := by decide +kernel
  exact key ⟨m, by omega⟩ ⟨u, Nat.lt_of_lt_of_le hu (pow_le_32 hm)⟩ hu
theorem cut_pc {m s : Nat} (hm : m ≤ 5) (hs : s < 32) : s &&& (2 ^ m - 1) < 2 ^ m ∧ pc (s &&& (2 ^ m - 1)) ≤ pc s ∧ (pc (s &&& (2 ^ m - 1)) = pc s → s &&& (2 ^ m - 1) = s) := by
  have key : ∀ m : Fin 6, ∀ s : Fin 32, (s : Nat) &&& (2 ^ (m : Nat) - 1) < 2 ^ (m : Nat) ∧ pc ((s : Nat) &&& (2 ^ (m : Nat) - 1)) ≤ pc (s : Nat) ∧ (pc ((s : Nat) &&& (2 ^ (m : Nat) - 1)) = pc (s : Nat) → (s : Nat) &&& (2 ^ (m : Nat) - 1) = s) := by decide +kernel
  exact key ⟨m, by omega⟩ ⟨s, hs⟩
theorem full_pc {m s : Nat} (hm : m ≤ 5) (hs : s < 2 ^ m) (h : s ≠ 2 ^ m - 1) : pc s < pc (2 ^ m - 1) := by
  have key : ∀ m : Fin 6, ∀ s : Fin 32, (s : Nat) < 2 ^ (m : Nat) → (s : Nat) ≠ 2 ^ (m : Nat) - 1 → pc (s : Nat) < pc (2 ^ (m : Nat) - 1) := by decide +kernel
  exact key ⟨m, by omega⟩ ⟨s, Nat.lt_of_lt_of_le hs (pow_le_32 hm)⟩ hs h
theorem agr_cut {m t s : Nat} {l : List Nat} (h : Cls m l) (ht : t ∈ l) : agr t (s &&& (2 ^ m - 1)) l = agr t s l := by
  refine List.filter_congr (fun u hu => ?_)
  have e : ∀ u, u ∈ l → u &&& (s &&& (2 ^ m - 1)) = u &&& s := fun u hu => by
    rw [← Nat.and_assoc, Nat.and_comm (u &&& s), ← Nat.and_assoc, Nat.and_comm (2 ^ m - 1), full_and h.pts (h.lt u hu)]
  rw [e u hu, e t ht]
theorem tch_full {m t : Nat} {l : List Nat} (h : Cls m l) (ht : t ∈ l) : tch t (2 ^ m - 1) l = true := by
  have e : agr t (2 ^ m - 1) l = l.filter (fun u => u == t) := by
    refine List.filter_congr (fun u hu => ?_)
    rw [full_and h.pts (h.lt u hu), full_and h.pts (h.lt t ht)]
  rw [tch, e, beq_iff_eq]
  refine asc_ext (h.asc.filter _) (List.pairwise_singleton _ _) (fun x => ?_)
  simp only [List.mem_filter, beq_iff_eq, List.mem_singleton]
  exact ⟨fun hx => hx.2, fun hx => ⟨hx ▸ ht, hx⟩⟩
/-- the sets of points that teach t -/
def tcs (t : Nat) (l : List Nat) : List Nat := flt (fun s => tch t s l)
theorem tcs_none {t : Nat} {l : List Nat} (h : ¬ t ∈ l) : tcs t l = [] := by
  rw [tcs, flt, List.filter_eq_nil_iff]
  intro s _ hs
  rw [tch_count] at hs
  simp [h] at hs
/-- the fewest points that teach t -/
def ftN (m t : Nat) (l : List Nat) : Nat := bstN (fun s => tch t s l) (2 ^ m - 1) (2 ^ m)
theorem ft_eq {m t : Nat} {l : List Nat} (h : Cls m l) (ht : t ∈ l) : (lmn (fun s => (pc s : Int)) (tcs t l)).1.getD 0 0 = ftN m t l ∧ tcs t l ≠ [] ∧ ftN m t l < 2 ^ m ∧ tch t (ftN m t l) l = true := by
  have hm := h.pts
  have hp := Nat.two_pow_pos m
  have h32 := pow_le_32 hm
  have hf := tch_full h ht
  obtain ⟨hb, hmin⟩ := bstN_spec (fun s => tch t s l) (2 ^ m - 1) (2 ^ m)
  have hbT : ftN m t l < 2 ^ m ∧ tch t (ftN m t l) l = true := by
    rcases hb with e | ⟨e1, e2, _⟩
    · rw [ftN, e]; exact ⟨by omega, hf⟩
    · exact ⟨e1, e2⟩
  have hmem : ∀ s, s ∈ tcs t l ↔ s < 32 ∧ tch t s l = true := fun s => by rw [tcs, mem_flt]
  have hne : tcs t l ≠ [] := List.ne_nil_of_mem ((hmem (2 ^ m - 1)).2 ⟨by omega, hf⟩)
  refine ⟨?_, hne, hbT⟩
  rcases lmn_good (fun s => (pc s : Int)) (tcs t l) with ⟨e, _⟩ | ⟨g1, g2, g3⟩
  · exact absurd e hne
  obtain ⟨s1, rest, es⟩ := List.exists_cons_of_ne_nil g1
  have hs1 : s1 ∈ (tcs t l).filter (fun v => decide ((pc v : Int) = (lmn (fun s => (pc s : Int)) (tcs t l)).2)) := by rw [← g2, es]; simp
  have hs1a := (hmem s1).1 (List.mem_filter.1 hs1).1
  have hs1b : (pc s1 : Int) = (lmn (fun s => (pc s : Int)) (tcs t l)).2 := by simpa using (List.mem_filter.1 hs1).2
  rw [es]
  show s1 = ftN m t l
  -- the first one lies within the points of the class
  have hc := cut_pc hm hs1a.1
  have hcT : tch t (s1 &&& (2 ^ m - 1)) l = true := by rw [tch, agr_cut h ht]; exact hs1a.2
  have hle : (lmn (fun s => (pc s : Int)) (tcs t l)).2 ≤ (pc (s1 &&& (2 ^ m - 1)) : Int) := g3 _ ((hmem (s1 &&& (2 ^ m - 1))).2 ⟨by omega, hcT⟩)
  have hs1m : s1 < 2 ^ m := by
    have := hc.2.2 (by omega)
    omega
  have hle2 : (lmn (fun s => (pc s : Int)) (tcs t l)).2 ≤ (pc (ftN m t l) : Int) := g3 _ ((hmem (ftN m t l)).2 ⟨by omega, hbT.2⟩)
  have hle3 : pc (ftN m t l) ≤ pc s1 := hmin s1 hs1m hs1a.2
  have hpe : pc s1 = pc (ftN m t l) := by omega
  -- it is the least number of its size
  have hasc : ((lmn (fun s => (pc s : Int)) (tcs t l)).1).Pairwise (· < ·) := by rw [g2]; exact (flt_asc _).filter _
  have hfm : ftN m t l ∈ (lmn (fun s => (pc s : Int)) (tcs t l)).1 := by
    rw [g2]
    exact List.mem_filter.2 ⟨(hmem _).2 ⟨by omega, hbT.2⟩, by simp; omega⟩
  rw [es] at hasc hfm
  rcases List.mem_cons.1 hfm with e | e
  · exact e.symm
  · have hlt := (List.pairwise_cons.1 hasc).1 _ e
    rcases hb with e2 | ⟨_, _, e3⟩
    · have := full_pc hm hs1m (by rw [← show ftN m t l = 2 ^ m - 1 from e2]; omega)
      rw [← show ftN m t l = 2 ^ m - 1 from e2] at this
      omega
    · have := e3 s1 hlt hs1a.2
      have h8 : pc (ftN m t l) < pc s1 := this
      omega

end Go.Proofs.YtedlnjilgabelaaDoor

namespace Go.Proofs.YtedlnjilgabelaaDoor
open Go.RowKit

theorem fm_succ {ns : List Nat} {k : Nat} (hk : k < ns.length) (h32 : ∀ t ∈ ns, t < 32) : bits .or .u32 (fm (ns.take k)) ((2 : Int) ^ ns.getD k 0) = fm (ns.take (k + 1)) := by
  have h1 := h32 _ (getD_of_lt hk)
  have e1 : ns.take (k + 1) = ns.take k ++ [ns.getD k 0] := by
    rw [List.take_add_one, List.getElem?_eq_getElem hk, List.getD_eq_getElem?_getD, List.getElem?_eq_getElem hk]; rfl
  rw [e1]
  generalize ns.getD k 0 = s at *
  have h2 : (2 : Int) ^ s = ((1#32 <<< s).toNat : Int) := by
    have key : ∀ s : Fin 32, (2 : Int) ^ (s : Nat) = ((1#32 <<< (s : Nat)).toNat : Int) := by decide +kernel
    exact key ⟨s, h1⟩
  rw [h2, fm, u32_or, fm]
  congr 2
  apply famB_ext
  intro t ht
  have h3 : (1#32 <<< s).getLsbD t = decide (t = s) := by
    have := famB_bit [s] ht
    simpa [famB] using this
  rw [BitVec.getLsbD_or, famB_bit _ ht, h3, Bool.eq_iff_iff]
  simp

set_option maxHeartbeats 800000 in
theorem implFamilyOf (n : Int) (v : Value) (ns : List Nat) (h32 : ∀ t ∈ ns, t < 32) (w : World) (h : Rd w v (toI ns)) :
    Calls Tryd.prog 10 #[.agg #[.int .i64 n, v]] w fun e w' => e = .returned (.int .u32 (fm ns)) ∧ Below w.heap.size w w' := by
  obtain ⟨a, b, off, cap, rfl, h1, h3, h5⟩ := h
  rw [toI_length] at *
  have H5 := Lib.hid h5
  have H1 := Lib.hid h1
  clear h5 h1
  go_enter Tryd.func10, Tryd.ntmps10
  go_wp2_with fail
  go_loopw [3, 9] (fun f i wr => ∃ k : Nat, k ≤ ns.length ∧ i = .int .i64 k ∧ f = .int .u32 (fm (ns.take k)) ∧ wr = w.alloc (Obj.cells #[.int .i64 n, .slice a ns.length cap] 25)) (fun _ i _ => ns.length - (intOf i).toNat)
  case atStart => exact ⟨0, Nat.zero_le _, rfl, by rw [List.take_zero, fm_nil], rfl⟩
  case round =>
    obtain ⟨k, hk, rfl, rfl, rfl⟩ := hrel
    by_cases hlt : k < ns.length
    · obtain ⟨rfl, hbl⟩ := H1.out (by omega)
      have hc := H5.out k hlt
      rw [toI_getD] at hc
      have hx := h32 _ (getD_of_lt hlt)
      have HS := Lib.hid (fm_succ hlt h32)
      have HM := Lib.hid (show (2 : Int) ^ ns.getD k 0 % 4294967296 = 2 ^ ns.getD k 0 by
        have key : ∀ s : Fin 32, (2 : Int) ^ (s : Nat) % 4294967296 = 2 ^ (s : Nat) := by decide +kernel
        exact key ⟨_, hx⟩)
      generalize ns.getD k 0 = x at *
      have hc2 := (show Below w.heap.size w (w.alloc (Obj.cells #[.int .i64 n, .slice (some ⟨b, off, none⟩) ns.length cap] 25)) from (Below.refl _ _).alloc (Nat.le_refl _) _).cell (p := ⟨b, off + k, none⟩) hbl
      rw [hc] at hc2
      go_wp2_with fail
      go_roundw
      case rel => exact ⟨k + 1, by omega, by go_num, by rw [← HS.out, HM.out], trivial⟩
      case measure => simp [intOf]; omega
    · obtain rfl : k = ns.length := by omega
      go_wp2_with fail
      go_ret
      exact ⟨ret_int (by rw [List.take_length]), by go_grown⟩

end Go.Proofs.YtedlnjilgabelaaDoor

namespace Go.Proofs.YtedlnjilgabelaaDoor
open Go.RowKit Go.Shelf

theorem cell_new_l (W : World) (v : Value) (t : TypeId) : (W.alloc (.cells #[v] t)).cell? ⟨W.heap.size, 0, none⟩ = some v ∧ (W.alloc (.cells #[v] t)).frozen? ⟨W.heap.size, 0, none⟩ = false := ⟨by simp, by simp⟩
theorem cell_alloc_l {W : World} {a : Addr} {v : Value} (o : Obj) (h : W.cell? a = some v) : (W.alloc o).cell? a = some v := cell_kept h (World.grownBy_alloc W o none) (fun r e => by cases e)
theorem frozen_alloc_l {W : World} {a : Addr} {v : Value} (o : Obj) (h : W.cell? a = some v) (hf : W.frozen? a = false) : (W.alloc o).frozen? a = false := (frozen_kept h (World.grownBy_alloc W o none) (fun r e => by cases e)).trans hf
/-- the cell of block b is kept -/
def Kc (b : Nat) (A B : World) : Prop := ∀ v, A.cell? ⟨b, 0, none⟩ = some v → B.cell? ⟨b, 0, none⟩ = some v
theorem kc_t {b : Nat} {A B C : World} (h : Kc b A B) (k : Kc b B C) : Kc b A C := fun v e => k v (h v e)
theorem kc_b {b n0 : Nat} (W : World) (l : Nat) (o o' : Obj) (_ : n0 ≤ l) (h : W.heap[l]? = some o) (hc : o.isCells = false) (_ : o.isWalk = false) : Kc b W (W.putObj l o') :=
  fun _ e => cell_kept e (grownBy_putObj' W l o') (fun r er => by cases er; exact ⟨o, h, hc⟩)
theorem kc_below {b n0 : Nat} (hb : b < n0) {A B : World} (h : Below n0 A B) : Kc b A B := fun _ e => (h.cell (p := ⟨b, 0, none⟩) hb).trans e
theorem keeps_below {A B : World} (h : Below A.heap.size A B) : KeepsOthers A B := ⟨h.size, fun k _ hk _ => (h.block k (Array.getElem?_eq_some_iff.1 hk).1).trans hk⟩

/-- cells that are known -/
def CS (cs : List (Addr × Value)) (W : World) : Prop := ∀ p ∈ cs, W.cell? p.1 = some p.2
def Kcs (cs : List (Addr × Value)) (A B : World) : Prop := CS cs A → CS cs B
theorem kcs_t {cs : List (Addr × Value)} {A B C : World} (h : Kcs cs A B) (k : Kcs cs B C) : Kcs cs A C := fun e => k (h e)
theorem kcs_b {cs : List (Addr × Value)} {n0 : Nat} (W : World) (l : Nat) (o o' : Obj) (_ : n0 ≤ l) (h : W.heap[l]? = some o) (hc : o.isCells = false) (_ : o.isWalk = false) : Kcs cs W (W.putObj l o') :=
  fun e p hp => cell_kept (e p hp) (grownBy_putObj' W l o') (fun r er => by cases er; exact ⟨o, h, hc⟩)
theorem cs_own {β : Type} (cs : List (Addr × Value)) : Own (fun (_ : β) W => CS cs W) := fun _ _ _ _ hs hg hr p hp => cell_kept (hs p hp) hg hr
theorem CS.lt {cs : List (Addr × Value)} {W : World} (h : CS cs W) (p : Addr × Value) (hp : p ∈ cs) : p.1.block < W.heap.size := World.block_lt_of_cell? W _ (h p hp)
theorem CS.next {cs : List (Addr × Value)} {W W' : World} (h : CS cs W) (hb : Below W.heap.size W W') : CS cs W' := fun p hp => (hb.cell (h.lt p hp)).trans (h p hp)
theorem CS.below {cs : List (Addr × Value)} {N : Nat} {W W' : World} (h : CS cs W) (hb : Below N W W') (hN : ∀ p ∈ cs, p.1.block < N) : CS cs W' := fun p hp => (hb.cell (hN p hp)).trans (h p hp)
theorem grown_none {A B : World} (h : Below A.heap.size A B) : A.grownBy B none := ⟨h.os, h.tape, h.output, h.size, fun k hk _ => h.block k hk⟩
abbrev encG (x : Fin 32) : Array Value := #[.int .i64 ((x.val : Nat) : Int)]

end Go.Proofs.YtedlnjilgabelaaDoor
