/- The program's isPointOf. Conditions: Sets is a slice of ints. The program's withoutPoint and RemovePoint. Conditions: Sets is a slice of ints. The model's FlipClass. Conditions: Sets is a slice of ints. The model's drop and RemovePoint. Conditions: Sets is a slice of ints. The model's has. No conditions. Lists of what f makes of those of ns for which P holds. No conditions. Is a number among others? No conditions. A class in a block of its own: read, written, and never a row of ints. No conditions. -/
import Derived.Deep.RegionWith
import Derived.OneCell
import Derived.Test.YtpkilacappjkhaaZA
import Derived.Test.YtpkilacappjkhaaZB
import Derived.Test.YtpkilacappjkhaaZD
namespace Go.Proofs.Ytpkilacappjkhaa
open Go.RowKit

/-- isPointOf's answer -/
def ptB (n : Int) (zs : List Int) (x : Int) : Bool := vldB n zs && (decide (0 ≤ x) && decide (x < n))
theorem ptB_nat {n : Int} {zs : List Int} {x : Int} (h : ptB n zs x = true) : ∃ (m y : Nat) (ns : List Nat), n = m ∧ x = y ∧ zs = toI ns ∧ Cls m ns ∧ y < m ∧ m ≤ 5 ∧ vldB m (toI ns) = true := by
  simp only [ptB, Bool.and_eq_true, decide_eq_true_eq] at h
  obtain ⟨h0, h1, h2⟩ := h
  obtain ⟨m, ns, rfl, rfl, hc⟩ := vldB_cls h0
  obtain ⟨y, rfl⟩ := Int.eq_ofNat_of_zero_le h1
  exact ⟨m, y, ns, rfl, rfl, rfl, hc, by omega, hc.pts, h0⟩


end Go.Proofs.Ytpkilacappjkhaa

namespace Go.Proofs.Ytpkilacappjkhaa
open Go.RowKit

/-- a set without a point, with the points behind it one less -/
def rmv (x s : Nat) : Nat := s % 2 ^ x + s / 2 ^ (x + 1) * 2 ^ x
theorem rmv_lt {m x s : Nat} (hx : x < m) (hm : m ≤ 5) (hs : s < 2 ^ m) : rmv x s < 2 ^ (m - 1) := by
  have key : ∀ m : Fin 6, ∀ x : Fin 5, ∀ s : Fin 32, (x : Nat) < m → (s : Nat) < 2 ^ (m : Nat) → rmv x s < 2 ^ ((m : Nat) - 1) := by decide +kernel
  exact key ⟨m, by omega⟩ ⟨x, by omega⟩ ⟨s, Nat.lt_of_lt_of_le hs (pow_le_32 hm)⟩ hx hs
theorem rmv_and {x s : Nat} (hx : x < 5) (hs : s < 32) : (s &&& (2 ^ x - 1)) ||| (s / 2 ^ (x + 1) * 2 ^ x) = rmv x s ∧ s / 2 ^ (x + 1) * 2 ^ x < 32 ∧ rmv x s < 32 := by
  have key : ∀ x : Fin 5, ∀ s : Fin 32, ((s : Nat) &&& (2 ^ (x : Nat) - 1)) ||| ((s : Nat) / 2 ^ ((x : Nat) + 1) * 2 ^ (x : Nat)) = rmv x s ∧ (s : Nat) / 2 ^ ((x : Nat) + 1) * 2 ^ (x : Nat) < 32 ∧ rmv x s < 32 := by decide +kernel
  exact key ⟨x, hx⟩ ⟨s, hs⟩

theorem rmv_bits {x s : Nat} (hx : x < 5) (hs : s < 32) : bits .or .i64 (bits .and .i64 (s : Int) (((2 ^ x - 1 : Nat) : Int))) (((s / 2 ^ (x + 1) * 2 ^ x : Nat) : Int)) = ((rmv x s : Nat) : Int) := by
  obtain ⟨h1, h2, _⟩ := rmv_and hx hs
  have h3 := pow_le_32 (n := x) (by omega)
  rw [i64_and s (2 ^ x - 1) (by omega) (by omega), i64_or _ _ (by have := @Nat.and_le_left s (2 ^ x - 1); omega) (by omega), h1]


def rmN (n : Int) (zs : List Int) (x : Int) : Int := if ptB n zs x = true then n - 1 else 0
def rmL (n : Int) (zs : List Int) (x : Int) : List Int := if ptB n zs x = true then toI (tidyL ((zs.map Int.toNat).map (rmv x.toNat))) else []
theorem rmL_len (n : Int) (zs : List Int) (x : Int) : (rmL n zs x).length ≤ 1048576 := by
  unfold rmL
  split
  · rw [toI_length]
    have := flt_length (fun p => decide (p ∈ (zs.map Int.toNat).map (rmv x.toNat)))
    unfold tidyL
    omega
  · simp


end Go.Proofs.Ytpkilacappjkhaa

namespace Go.Proofs.Ytpkilacappjkhaa
open Go.RowKit

theorem specFlip (a b : Nat) (ha : a < 4096) (hb : b < 4096) (w : World) :
    Calls Try.prog 31 #[.int .i64 a, .int .i64 b] w fun e w' => e = .returned (.int .i64 ((a ^^^ b : Nat) : Int)) ∧ w' = w := by
  have h := i64_xor a b ha hb
  go_enter Try.func31, Try.ntmps31
  go_wp2
  go_ret
  exact ⟨rfl, rfl⟩

/-- what f makes of the first k of ns -/
def mapTo (f : Nat → Nat) (ns : List Nat) (k : Nat) : List Nat := (List.range k).map (fun j => f (ns.getD j 0))
theorem mapTo_succ (f : Nat → Nat) (ns : List Nat) (k : Nat) : mapTo f ns (k + 1) = mapTo f ns k ++ [f (ns.getD k 0)] := by simp [mapTo, List.range_succ]
theorem mapTo_length (f : Nat → Nat) (ns : List Nat) (k : Nat) : (mapTo f ns k).length = k := by simp [mapTo]
theorem mapTo_all (f : Nat → Nat) (ns : List Nat) : mapTo f ns ns.length = ns.map f := by
  apply List.ext_getElem
  · simp [mapTo]
  · intro i h1 h2
    have h3 : i < ns.length := by simpa using h2
    simp [mapTo, List.getElem?_eq_getElem h3]


end Go.Proofs.Ytpkilacappjkhaa

namespace Go.Proofs.Ytpkilacappjkhaa
open Go.RowKit

theorem power_g (n : Int) (h0 : 0 ≤ n) (h1 : n ≤ 12) (w : World) :
    Calls Try.prog 29 #[.int .i64 n] w fun e w' => e = .returned (.int .i64 (2 ^ n.toNat)) ∧ w' = w :=
  (specPower _ _ h0 h1).mono fun _ _ ⟨he, hw⟩ => ⟨he, hw.symm⟩




end Go.Proofs.Ytpkilacappjkhaa

namespace Go.Proofs.Ytpkilacappjkhaa
open Go.RowKit

/-- is the point x in the set s? -/
def hasX (x s : Nat) : Bool := decide (s / 2 ^ x % 2 = 1)

set_option maxHeartbeats 800000 in
theorem specHas (s x : Nat) (hs : s < 4096) (hx : x < 5) (w : World) :
    Calls Try.prog 52 #[.int .i64 (s : Int), .int .i64 (x : Int)] w fun e w' => e = .returned (.bool (hasX x s)) ∧ w' = w := by
  have HQ := Lib.hid (show (s : Int) / (2 : Int) ^ x = ((s / 2 ^ x : Nat) : Int) by simp)
  have hr : s / 2 ^ x < 4096 := Nat.lt_of_le_of_lt (Nat.div_le_self _ _) hs
  have HE := Lib.hid (show hasX x s = decide (s / 2 ^ x % 2 = 1) from rfl)
  have hp := two_pow_le x (by omega)
  go_enter Try.func52, Try.ntmps52
  go_wp2_with fail
  refine (power_q x (by omega) _).mono ?_
  rintro e w1 ⟨rfl, rfl⟩
  generalize (2 : Int) ^ x = q at *
  generalize s / 2 ^ x = r at *
  have hne : q ≠ 0 := by omega
  go_wp2_with fail
  go_ret
  exact ⟨ret_bool (by
    rw [HE.out, HQ.out, show wrap64 (r : Int) = r by simp only [wrap64]; omega, Int.tmod_eq_emod_of_nonneg (by omega), Bool.eq_iff_iff]
    simp
    omega), rfl⟩

end Go.Proofs.Ytpkilacappjkhaa

namespace Go.Proofs.Ytpkilacappjkhaa
open Go.RowKit

/-- what f makes of those of the first k of ns for which P holds -/
def fmTo (P : Nat → Bool) (f : Nat → Nat) (ns : List Nat) (k : Nat) : List Nat := ((List.range k).filter (fun j => P (ns.getD j 0))).map (fun j => f (ns.getD j 0))
theorem fmTo_yes {P : Nat → Bool} {f : Nat → Nat} {ns : List Nat} {k : Nat} (h : P (ns.getD k 0) = true) : fmTo P f ns (k + 1) = fmTo P f ns k ++ [f (ns.getD k 0)] := by
  simp only [fmTo, List.range_succ, List.filter_append, List.map_append]
  rw [List.filter_cons_of_pos (by simpa using h)]
  rfl
theorem fmTo_no {P : Nat → Bool} {f : Nat → Nat} {ns : List Nat} {k : Nat} (h : P (ns.getD k 0) = false) : fmTo P f ns (k + 1) = fmTo P f ns k := by
  simp only [fmTo, List.range_succ, List.filter_append, List.map_append]
  rw [List.filter_cons_of_neg (by simpa using h)]
  simp
theorem fmTo_le (P : Nat → Bool) (f : Nat → Nat) (ns : List Nat) (k : Nat) : (fmTo P f ns k).length ≤ k := by
  rw [fmTo, List.length_map]
  have := List.length_filter_le (fun j => P (ns.getD j 0)) (List.range k)
  simpa using this
theorem map_getD (ns : List Nat) : (List.range ns.length).map (fun j => ns.getD j 0) = ns := by
  apply List.ext_getElem
  · simp
  · intro i h1 h2
    simp [List.getElem?_eq_getElem h2]
theorem fmTo_all (P : Nat → Bool) (f : Nat → Nat) (ns : List Nat) : fmTo P f ns ns.length = (ns.filter P).map f := by
  have h := map_getD ns
  conv => rhs; rw [← h]
  rw [List.filter_map, List.map_map]
  rfl

/-- is x what f makes of one of the first k of ns for which P holds? -/
def hasPF (P : Nat → Bool) (f : Nat → Nat) (ns : List Nat) (k x : Nat) : Bool := decide (x ∈ fmTo P f ns k)
theorem hasPF_yes {P : Nat → Bool} {f : Nat → Nat} {ns : List Nat} {k : Nat} (h : P (ns.getD k 0) = true) (x : Nat) : hasPF P f ns (k + 1) x = (decide (x = f (ns.getD k 0)) || hasPF P f ns k x) := by
  rw [hasPF, fmTo_yes h, hasPF, Bool.or_comm]
  simp [Bool.decide_or]
theorem hasPF_no {P : Nat → Bool} {f : Nat → Nat} {ns : List Nat} {k : Nat} (h : P (ns.getD k 0) = false) : hasPF P f ns (k + 1) = hasPF P f ns k := by
  funext x
  rw [hasPF, fmTo_no h, hasPF]
theorem hasPF_all (P : Nat → Bool) (f : Nat → Nat) (ns : List Nat) (x : Nat) : hasPF P f ns ns.length x = decide (x ∈ (ns.filter P).map f) := by
  rw [hasPF, fmTo_all]

end Go.Proofs.Ytpkilacappjkhaa

namespace Go.Proofs.Ytpkilacappjkhaa
open Go.RowKit

theorem hasB_nat (ns : List Nat) (z : Nat) : hasB (toI ns) (z : Int) = decide (z ∈ ns) := by
  rw [Bool.eq_iff_iff]
  simp only [hasB, toI, decide_eq_true_eq, List.mem_map]
  constructor
  · rintro ⟨a, ha, e⟩
    have : a = z := by omega
    exact this ▸ ha
  · intro h
    exact ⟨z, h, rfl⟩

end Go.Proofs.Ytpkilacappjkhaa

namespace Go.Proofs.Ytpkilacappjkhaa
open Go.RowKit

theorem heap_alloc_at {w : World} {o : Obj} {k : Nat} (h : w.heap.size = k) : (w.alloc o).heap[k]? = some o := h ▸ heap_alloc_new w o
/-- block o holds a class of two cells -/
def Bx (n : Int) (v : Value) (o : Nat) (w : World) : Prop := w.heap[o]? = some (.cells #[.int .i64 n, v] 25 (0, 0))

theorem Bx.lt {n : Int} {v : Value} {o : Nat} {w : World} (h : Bx n v o w) : o < w.heap.size := (Array.getElem?_eq_some_iff.1 h).1
theorem Bx.out {n : Int} {v : Value} {o : Nat} {w : World} (h : Bx n v o w) : Out n v o w :=
  ⟨by simp [World.cell?, show w.heap[o]? = _ from h], by simp [World.cell?, show w.heap[o]? = _ from h], by simp [World.frozen?, show w.heap[o]? = _ from h], by simp [World.frozen?, show w.heap[o]? = _ from h]⟩
theorem Bx.new (n : Int) (v : Value) (w : World) : Bx n v w.heap.size (w.alloc (.cells #[.int .i64 n, v] 25)) := heap_alloc_new w _
theorem Bx.kept {n : Int} {v : Value} {o : Nat} {r : Option Nat} {w w' : World} (h : Bx n v o w) (hg : w.grownBy w' r) (hne : some o ≠ r) : Bx n v o w' := (hg.block o h.lt hne).trans h
theorem Bx.alloc {n : Int} {v : Value} {o : Nat} {w : World} (h : Bx n v o w) (x : Obj) : Bx n v o (w.alloc x) := h.kept (World.grownBy_alloc w x none) (by simp)
theorem Bx.next {n : Int} {v : Value} {o B : Nat} {w w' : World} (h : Bx n v o w) (hb : Below B w w') (ho : o < B) : Bx n v o w' := (hb.block o ho).trans h
theorem Bx.drewN {n : Int} {v : Value} {o : Nat} {w : World} (h : Bx n v o w) (q : Nat) : Bx n v o (w.drewN q) := h
theorem Bx.set {n : Int} {v : Value} {o : Nat} {w : World} (h : Bx n v o w) (u : Value) : Bx n u o (w.setCell ⟨o, 1, none⟩ u) := by
  obtain ⟨hlt, hk⟩ := Array.getElem?_eq_some_iff.1 h
  show (w.heap.modify o _)[o]? = _
  rw [Array.getElem?_eq_getElem (by rw [Array.size_modify]; exact hlt), Array.getElem_modify_self, hk]
  rfl
theorem Bx.setN {n : Int} {v : Value} {o : Nat} {w : World} (h : Bx n v o w) (m : Int) : Bx m v o (w.setCell ⟨o, 0, none⟩ (.int .i64 m)) := by
  obtain ⟨hlt, hk⟩ := Array.getElem?_eq_some_iff.1 h
  show (w.heap.modify o _)[o]? = _
  rw [Array.getElem?_eq_getElem (by rw [Array.size_modify]; exact hlt), Array.getElem_modify_self, hk]
  rfl
theorem Bx.other {n : Int} {v : Value} {o p j : Nat} {w : World} (h : Bx n v o w) (hne : o ≠ p) (u : Value) : Bx n v o (w.setCell ⟨p, j, none⟩ u) := by
  show (w.setCell ⟨p, j, none⟩ u).heap[o]? = _
  rw [Below.heap_setCell _ _ _ _ hne]
  exact h
theorem Bx.not_row {n : Int} {u : Value} {o B : Nat} {w : World} (h : Bx n u o w) {v : Value} {xs : List Int} (hr : Ints B w v xs) : some o ≠ v.ownBlock := by
  rcases hr.2 with ⟨rfl, _⟩ | ⟨g, cap, cur, rfl, _, hgb, _⟩
  · simp [Value.ownBlock]
  · intro e'
    obtain rfl : o = g := by simpa [Value.ownBlock] using e'
    have := (show w.heap[o]? = _ from h).symm.trans hgb
    simp at this
theorem Ints.bx {B : Nat} {w : World} {v : Value} {xs : List Int} (h : Ints B w v xs) {n : Int} {u : Value} {o : Nat} (hb : Bx n u o w) (j : Nat) (x : Value) : Ints B (w.setCell ⟨o, j, none⟩ x) v xs :=
  ownsRow_setCell_other h (fun e => hb.not_row h e.symm) x

end Go.Proofs.Ytpkilacappjkhaa
