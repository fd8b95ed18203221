/- Sets that agree with one at some points, and those that teach: mathematics. No conditions. Cells that are known and kept, for the loops over iterators. No conditions. The points of a set, one after the other: pointsOf and its iterator. No conditions. IsTeaching, the program's. Conditions: Sets is a slice of ints; the table setsWith is laid. IsTeaching, the model's. Conditions: Sets is a slice of ints. IsTeaching, the program's. Conditions: Sets is a slice of ints; the table setsWith is laid. -/
import Derived.Deep.RegionHeld3
import Derived.Deep.RegionWith
import Derived.LoopIn
import Derived.LoopNIn
import Derived.OwnWalkIn
import Derived.RangeFuncBound
import Derived.RangeFuncCalls
import Derived.RangeFuncLeaves
import Derived.RangeFuncNested
import Derived.Shelf.Abstract
import Derived.Shelf.RegionOpen
import Derived.TacticsInMore
import Derived.Test.YtnmilfkocheaiaaGreatDoorLab
import Derived.Test.YtnmilfkocheaiaaGreatDoorZA
import Derived.Test.YtnmilfkocheaiaaGreatDoorZB
import Derived.Test.YtnmilfkocheaiaaGreatDoorZU
import Derived.WalkKit
namespace Go.Proofs.YtnmilfkocheaiaaGreatDoor
open Go.RowKit

/-- those that have just the points of s that t has -/
def agr (t s : Nat) (l : List Nat) : List Nat := l.filter (fun u => u &&& s == t &&& s)
/-- the points of a set -/
def ptl (s : Nat) : List Nat := (List.range 5).filter (fun x => hasX x s)
/-- what is left behind the examples that t gives at the points xs -/
def lft (t : Nat) (xs : List Nat) (l : List Nat) : List Nat := xs.foldl (fun (l : List Nat) (x : Nat) => kp l ((x : Int), hasX x t)) l
theorem lft_nil (t : Nat) (l : List Nat) : lft t [] l = l := rfl
theorem lft_snoc (t : Nat) (xs : List Nat) (x : Nat) (l : List Nat) : lft t (xs ++ [x]) l = kp (lft t xs l) ((x : Int), hasX x t) := by simp [lft]
theorem lft_filter (t : Nat) (xs : List Nat) (l : List Nat) : lft t xs l = l.filter (fun u => xs.all (fun x => hasX x u == hasX x t)) := by
  induction xs generalizing l with
  | nil => rw [lft_nil]; exact (List.filter_eq_self.2 (fun _ _ => rfl)).symm
  | cons x xs ih =>
    show lft t xs (kp l ((x : Int), hasX x t)) = _
    rw [ih, kp, List.filter_filter]
    congr 1
    funext u
    simp only [List.all_cons, Int.toNat_natCast]
    exact Bool.and_comm _ _
theorem agr_all {t s : Nat} (ht : t < 32) (hs : s < 32) {l : List Nat} (hl : ∀ u ∈ l, u < 32) : lft t (ptl s) l = agr t s l := by
  rw [lft_filter, agr]
  refine List.filter_congr (fun u hu => ?_)
  have key : ∀ x : Fin 32, ∀ s : Fin 32, (ptl (s : Nat)).all (fun i => hasX i (x : Nat) == hasX i 0) = ((x : Nat) &&& (s : Nat) == 0) := by decide +kernel
  have key2 : ∀ i : Fin 5, ∀ u t : Fin 32, (hasX (i : Nat) (u : Nat) == hasX i (t : Nat)) = (hasX i ((u : Nat) ^^^ (t : Nat)) == hasX i 0) := by decide +kernel
  have hx : u ^^^ t < 32 := Nat.xor_lt_two_pow (n := 5) (hl u hu) ht
  have h1 := key ⟨u ^^^ t, hx⟩ ⟨s, hs⟩
  have h2 : (ptl s).all (fun x => hasX x u == hasX x t) = (ptl s).all (fun i => hasX i (u ^^^ t) == hasX i 0) := by
    rw [Bool.eq_iff_iff]
    simp only [List.all_eq_true]
    constructor
    · intro h i hi
      have h5 : i < 5 := List.mem_range.1 (List.mem_filter.1 hi).1
      exact (key2 ⟨i, h5⟩ ⟨u, hl u hu⟩ ⟨t, ht⟩) ▸ h i hi
    · intro h i hi
      have h5 : i < 5 := List.mem_range.1 (List.mem_filter.1 hi).1
      exact (key2 ⟨i, h5⟩ ⟨u, hl u hu⟩ ⟨t, ht⟩).symm ▸ h i hi
  rw [h2, h1, Bool.eq_iff_iff]
  simp only [beq_iff_eq]
  rw [Nat.and_xor_distrib_right]
  constructor
  · intro h
    have h9 := congrArg (· ^^^ (t &&& s)) h
    simpa [Nat.xor_assoc] using h9
  · intro h
    rw [h]; exact Nat.xor_self _

/-- t alone agrees with itself at the points of s -/
def tch (t s : Nat) (l : List Nat) : Bool := agr t s l == [t]
theorem agr_sub {t s u : Nat} {l : List Nat} (h : u ∈ agr t s l) : u ∈ l := (List.mem_filter.1 h).1
theorem mem_agr {t s : Nat} {l : List Nat} (h : t ∈ l) : t ∈ agr t s l := List.mem_filter.2 ⟨h, by simp⟩
theorem fm_inj {l : List Nat} {t : Nat} (hl : ∀ u ∈ l, u < 32) (hp : l.Pairwise (· < ·)) (ht : t < 32) : fm l = (2 : Int) ^ t ↔ l = [t] := by
  constructor
  · intro h
    have e : famB l = famB [t] := by
      apply BitVec.eq_of_toNat_eq
      have h2 : fm [t] = (2 : Int) ^ t := by
        have key : ∀ t : Fin 32, fm [(t : Nat)] = (2 : Int) ^ (t : Nat) := by decide +kernel
        exact key ⟨t, ht⟩
      have h3 : fm l = fm [t] := h.trans h2.symm
      unfold fm at h3
      omega
    refine asc_ext hp (List.pairwise_singleton _ _) (fun x => ?_)
    by_cases hx : x < 32
    · have h1 := famB_bit l hx
      have h2 := famB_bit [t] hx
      rw [e, h2] at h1
      simpa using h1.symm
    · constructor
      · intro h; exact absurd (hl x h) hx
      · intro h; simp only [List.mem_singleton] at h; omega
  · rintro rfl
    have key : ∀ t : Fin 32, fm [(t : Nat)] = (2 : Int) ^ (t : Nat) := by decide +kernel
    exact key ⟨t, ht⟩
theorem tch_count {t s : Nat} {l : List Nat} : tch t s l = (decide ((agr t s l).length = 1) && decide (t ∈ l)) := by
  rw [Bool.eq_iff_iff]
  simp only [tch, beq_iff_eq, Bool.and_eq_true, decide_eq_true_eq]
  constructor
  · intro h
    exact ⟨by rw [h]; rfl, agr_sub (t := t) (s := s) (by rw [h]; simp)⟩
  · rintro ⟨h, ht⟩
    obtain ⟨a, ha⟩ := List.length_eq_one_iff.1 h
    have := mem_agr (s := s) ht
    rw [ha] at this ⊢
    simp only [List.mem_singleton] at this
    rw [this]
/-- those that have been counted -/
def agrTo (t s : Nat) (l : List Nat) (k : Nat) : Nat := (agr t s (l.take k)).length
theorem agrTo_succ {t s k : Nat} {l : List Nat} (hk : k < l.length) : agrTo t s l (k + 1) = agrTo t s l k + (if l.getD k 0 &&& s = t &&& s then 1 else 0) := by
  unfold agrTo agr
  rw [take_succ' hk, List.filter_append, List.length_append]
  congr 1
  generalize l.getD k 0 = x
  by_cases h : x &&& s = t &&& s
  · rw [if_pos h]; simp [h]
  · rw [if_neg h]; simp [h]
theorem agrTo_all (t s : Nat) (l : List Nat) : agrTo t s l l.length = (agr t s l).length := by rw [agrTo, List.take_length]
theorem agrTo_le (t s : Nat) (l : List Nat) (k : Nat) : agrTo t s l k ≤ k := by
  unfold agrTo agr
  have := List.length_filter_le (fun u => u &&& s == t &&& s) (l.take k)
  rw [List.length_take] at this
  omega

end Go.Proofs.YtnmilfkocheaiaaGreatDoor

namespace Go.Proofs.YtnmilfkocheaiaaGreatDoor
open Go.RowKit Go.Shelf

theorem cell_new_l (W : World) (v : Value) (t : TypeId) : (W.alloc (.cells #[v] t)).cell? ⟨W.heap.size, 0, none⟩ = some v ∧ (W.alloc (.cells #[v] t)).frozen? ⟨W.heap.size, 0, none⟩ = false := ⟨by simp, by simp⟩
theorem cell_alloc_l {W : World} {a : Addr} {v : Value} (o : Obj) (h : W.cell? a = some v) : (W.alloc o).cell? a = some v := cell_kept h (World.grownBy_alloc W o none) (fun r e => by cases e)
theorem frozen_alloc_l {W : World} {a : Addr} {v : Value} (o : Obj) (h : W.cell? a = some v) (hf : W.frozen? a = false) : (W.alloc o).frozen? a = false := (frozen_kept h (World.grownBy_alloc W o none) (fun r e => by cases e)).trans hf
/-- the cell of block b is kept -/
def Kc (b : Nat) (A B : World) : Prop := ∀ v, A.cell? ⟨b, 0, none⟩ = some v → B.cell? ⟨b, 0, none⟩ = some v
theorem kc_t {b : Nat} {A B C : World} (h : Kc b A B) (k : Kc b B C) : Kc b A C := fun v e => k v (h v e)
theorem kc_b {b n0 : Nat} (W : World) (l : Nat) (o o' : Obj) (_ : n0 ≤ l) (h : W.heap[l]? = some o) (hc : o.isCells = false) (_ : o.isWalk = false) : Kc b W (W.putObj l o') :=
  fun _ e => cell_kept e (grownBy_putObj' W l o') (fun r er => by cases er; exact ⟨o, h, hc⟩)
theorem kc_below {b n0 : Nat} (hb : b < n0) {A B : World} (h : Below n0 A B) : Kc b A B := fun _ e => (h.cell (p := ⟨b, 0, none⟩) hb).trans e
theorem keeps_below {A B : World} (h : Below A.heap.size A B) : KeepsOthers A B := ⟨h.size, fun k _ hk _ => (h.block k (Array.getElem?_eq_some_iff.1 hk).1).trans hk⟩

/-- cells that are known -/
def CS (cs : List (Addr × Value)) (W : World) : Prop := ∀ p ∈ cs, W.cell? p.1 = some p.2
def Kcs (cs : List (Addr × Value)) (A B : World) : Prop := CS cs A → CS cs B
theorem kcs_t {cs : List (Addr × Value)} {A B C : World} (h : Kcs cs A B) (k : Kcs cs B C) : Kcs cs A C := fun e => k (h e)
theorem kcs_b {cs : List (Addr × Value)} {n0 : Nat} (W : World) (l : Nat) (o o' : Obj) (_ : n0 ≤ l) (h : W.heap[l]? = some o) (hc : o.isCells = false) (_ : o.isWalk = false) : Kcs cs W (W.putObj l o') :=
  fun e p hp => cell_kept (e p hp) (grownBy_putObj' W l o') (fun r er => by cases er; exact ⟨o, h, hc⟩)
theorem cs_own {β : Type} (cs : List (Addr × Value)) : Own (fun (_ : β) W => CS cs W) := fun _ _ _ _ hs hg hr p hp => cell_kept (hs p hp) hg hr
theorem CS.lt {cs : List (Addr × Value)} {W : World} (h : CS cs W) (p : Addr × Value) (hp : p ∈ cs) : p.1.block < W.heap.size := World.block_lt_of_cell? W _ (h p hp)
theorem CS.next {cs : List (Addr × Value)} {W W' : World} (h : CS cs W) (hb : Below W.heap.size W W') : CS cs W' := fun p hp => (hb.cell (h.lt p hp)).trans (h p hp)
theorem CS.below {cs : List (Addr × Value)} {N : Nat} {W W' : World} (h : CS cs W) (hb : Below N W W') (hN : ∀ p ∈ cs, p.1.block < N) : CS cs W' := fun p hp => (hb.cell (hN p hp)).trans (h p hp)
theorem grown_none {A B : World} (h : Below A.heap.size A B) : A.grownBy B none := ⟨h.os, h.tape, h.output, h.size, fun k hk _ => h.block k hk⟩
abbrev encG (x : Fin 32) : Array Value := #[.int .i64 ((x.val : Nat) : Int)]

end Go.Proofs.YtnmilfkocheaiaaGreatDoor

namespace Go.Proofs.YtnmilfkocheaiaaGreatDoor
open Go.RowKit Go.Shelf
attribute [local go_sem] Oper.semAt_some

set_option maxHeartbeats 400000 in
theorem implPointsOf (s : Nat) (w : World) :
    Calls Tryz.prog 131 #[.int .i64 (s : Int)] w fun e w' => e = .returned (.func (.func 156) #[] #[.pointer (some ⟨w.heap.size, 0, none⟩)]) ∧ w' = w.alloc (.cells #[.int .i64 (s : Int)] 3) := by
  go_enter Tryz.func131, Tryz.ntmps131
  go_wp2_with fail
  go_ret
  exact ⟨rfl, rfl⟩

/-- the points of s below k -/
def ptF (k s : Nat) : List (Fin 5) := (List.finRange 5).filter (fun x => decide (x.val < k) && hasX x.val s)
theorem ptF_step {k s : Nat} (hk : k < 5) (hs : s < 32) : ptF (k + 1) s = if hasX k s = true then ptF k s ++ [⟨k, hk⟩] else ptF k s := by
  have key : ∀ k : Fin 5, ∀ s : Fin 32, ptF ((k : Nat) + 1) (s : Nat) = if hasX (k : Nat) (s : Nat) = true then ptF (k : Nat) (s : Nat) ++ [k] else ptF (k : Nat) (s : Nat) := by decide +kernel
  exact key ⟨k, hk⟩ ⟨s, hs⟩
theorem ptF_len (k s : Nat) : (ptF k s).length ≤ 5 := by
  have := List.length_filter_le (fun x : Fin 5 => decide (x.val < k) && hasX x.val s) (List.finRange 5)
  simpa [ptF] using this
theorem ptF_lt {k s : Nat} (hk : k < 5) (hs : s < 32) : (ptF k s).length < 5 := by
  have key : ∀ k : Fin 5, ∀ s : Fin 32, (ptF (k : Nat) (s : Nat)).length < 5 := by decide +kernel
  exact key ⟨k, hk⟩ ⟨s, hs⟩
theorem ptF_pre {k s : Nat} (hk : k ≤ 5) (hs : s < 32) : ptF k s <+: ptF 5 s := by
  have key : ∀ k : Fin 6, ∀ s : Fin 32, ptF (k : Nat) (s : Nat) <+: ptF 5 (s : Nat) := by decide +kernel
  exact key ⟨k, by omega⟩ ⟨s, hs⟩
theorem ptF_all {s : Nat} (hs : s < 32) : (ptF 5 s).map Fin.val = ptl s := by
  have key : ∀ s : Fin 32, (ptF 5 (s : Nat)).map Fin.val = ptl (s : Nat) := by decide +kernel
  exact key ⟨s, hs⟩
abbrev encF (x : Fin 5) : Array Value := #[.int .i64 ((x.val : Nat) : Int)]

set_option maxRecDepth 100000 in
set_option maxHeartbeats 2000000 in
theorem ptsStops (F : Fence) (n : Nat) (hF : F.fn 156) (hro : F.round = none) (hn : 1 ≤ n) (Bn s : Nat) (hs : s < 32) (w : World) (hB : w.cell? ⟨Bn, 0, none⟩ = some (.int .i64 (s : Int))) :
    SeqStopsK F n Tryz.prog 156 #[.pointer (some ⟨Bn, 0, none⟩)] encF (Kc Bn) (fun xs => xs = ptF 5 s) (fun pre => pre <+: ptF 5 s) 5 w := fun l J Jx W hW hJ hJx hY h0 => by
  have hlt0 : Bn < w.heap.size := World.block_lt_of_cell? w _ hB
  have hBW : W.cell? ⟨Bn, 0, none⟩ = some (.int .i64 (s : Int)) := (hW.cell (p := ⟨Bn, 0, none⟩) hlt0).trans hB
  refine callsIn_of_wp Tryz.func156 rfl hF ?_ hro
  simp only [Tryz.ntmps156, List.size_toArray, List.length_cons, List.length_nil, Nat.reduceAdd, Nat.reduceSub, Array.replicate_succ, Array.replicate_zero, List.push_toArray, List.append_toArray, List.nil_append, List.cons_append]
  gi_wp2
  gi_loopw [4] (fun i wr => ∃ k : Nat, k ≤ 5 ∧ i = .int .i64 k ∧ J (ptF k s) wr ∧ wr.cell? ⟨Bn, 0, none⟩ = some (.int .i64 (s : Int))) (fun i _ => 5 - (intOf i).toNat)
  case atStart => exact ⟨0, by omega, rfl, by rw [show ptF 0 s = [] by simp [ptF]]; exact h0, hBW⟩
  case round =>
    obtain ⟨k, hk, rfl, hJr, hc⟩ := hrel
    by_cases hlt : k < 5
    · have hb := bit64 s k hs hlt
      have hst := ptF_step hlt hs
      by_cases hx : hasX k s = true
      · rw [if_pos hx] at hb hst
        obtain ⟨fn, tmps, assign, body, hy, hR⟩ := hY (ptF k s) ⟨k, hlt⟩ wr hJr (ptF_lt hlt hs)
        gi_wp2
        refine hR.mono ?_
        rintro e W3 (⟨rfl, hJ3, hk3⟩ | ⟨rfl, hJx3⟩)
        · have hc3 := hk3 _ hc
          gi_wp2
          go_roundw
          case rel => exact ⟨k + 1, by omega, by go_num, by rw [hst]; exact hJ3, hc3⟩
          case measure => simp [intOf]; omega
        · gi_wp2
          refine bodyPost_ret (results_none rfl _ _ _) rfl ?_
          exact ⟨⟨_, rfl⟩, .inr ⟨ptF k s ++ [⟨k, hlt⟩], by rw [← hst]; exact ptF_pre (by omega) hs, hJx3⟩⟩
      · rw [if_neg hx] at hb hst
        gi_wp2
        refine ⟨fun _ h => (by cases h), ?_⟩
        gi_wp2
        go_roundw
        case rel => exact ⟨k + 1, by omega, by go_num, by rw [hst]; exact hJr, hc⟩
        case measure => simp [intOf]; omega
    · obtain rfl : k = 5 := by omega
      gi_wp2
      go_end0
      exact ⟨⟨_, rfl⟩, .inl ⟨_, rfl, hJr⟩⟩

end Go.Proofs.YtnmilfkocheaiaaGreatDoor

namespace Go.Proofs.YtnmilfkocheaiaaGreatDoor
open Go.RowKit Go.Shelf
attribute [local go_sem] Oper.semAt_some

theorem lft_32 {t : Nat} {xs l : List Nat} (h : ∀ u ∈ l, u < 32) : ∀ u ∈ lft t xs l, u < 32 := fun u hu => by
  rw [lft_filter] at hu
  exact h u (List.mem_filter.1 hu).1

/-- what a round of agreeing has done -/
theorem agree_step {N : Nat} {W w2 : World} (v : Value) {v0 vt : Value} (hN : N + 1 + 1 < W.heap.size) (hb : Below W.heap.size W w2)
    (hc : W.cell? ⟨N, 0, none⟩ = some v0) (hf : W.frozen? ⟨N, 0, none⟩ = false) (ht : W.cell? ⟨N + 1, 0, none⟩ = some vt) :
    KeepsOthers W (w2.setCell ⟨N, 0, none⟩ v) ∧ Kc (N + 1 + 1) W (w2.setCell ⟨N, 0, none⟩ v) ∧
    ((w2.setCell ⟨N, 0, none⟩ v).cell? ⟨N, 0, none⟩ = some v ∧ (w2.setCell ⟨N, 0, none⟩ v).frozen? ⟨N, 0, none⟩ = false ∧ (w2.setCell ⟨N, 0, none⟩ v).cell? ⟨N + 1, 0, none⟩ = some vt) := by
  refine ⟨(keeps_below hb).trans (KeepsOthers.setCell _ _ _), fun u hu => ?_, ?_, ?_, ?_⟩
  · rw [World.cell?_setCell_far _ _ _ _ (by show N ≠ N + 1 + 1; omega)]
    exact (hb.cell (p := ⟨N + 1 + 1, 0, none⟩) hN).trans hu
  · exact World.cell?_setCell_same' _ _ _ (by rw [hb.cell (p := ⟨N, 0, none⟩) (by show N < _; omega), hc]; rfl)
  · rw [World.frozen?_setCell]
    exact (hb.frozen (p := ⟨N, 0, none⟩) (by show N < _; omega)).trans hf
  · rw [World.cell?_setCell_far _ _ _ _ (by show N ≠ N + 1; omega)]
    exact (hb.cell (p := ⟨N + 1, 0, none⟩) (by show N + 1 < _; omega)).trans ht

set_option maxRecDepth 100000 in
set_option maxHeartbeats 6400000 in
theorem implAgreeing (l : List Nat) (t s : Nat) (h32 : ∀ u ∈ l, u < 32) (ht : t < 32) (hs : s < 32) (w : World) (hsw : SW w) :
    Calls Tryz.prog 132 #[.int .u32 (fm l), .int .i64 (t : Int), .int .i64 (s : Int)] w fun e w' => e = .returned (.int .u32 (fm (agr t s l))) ∧ Below w.heap.size w w' := by
  refine (callsIn_wide (n := 3)).1 ?_
  refine callsIn_of_wp_marks Tryz.func132 rfl trivial ?_ rfl
  simp only [Tryz.ntmps132, List.size_toArray, List.length_cons, List.length_nil, Nat.reduceAdd, Nat.reduceSub, Array.replicate_succ, Array.replicate_zero, List.push_toArray, List.append_toArray, List.nil_append, List.cons_append]
  gi_wp2_with (refine ⟨trivial, ?_⟩; gi_at_call 131; refine (callsIn_wide.2 (implPointsOf s _)).mono ?_; rintro e w' ⟨rfl, rfl⟩)
  have c0 := cell_new_l w (.int .u32 (fm l)) 116
  have c1 := cell_new_l (w.alloc (.cells #[.int .u32 (fm l)] 116)) (.int .i64 (t : Int)) 3
  have c2 := cell_new_l ((w.alloc (.cells #[.int .u32 (fm l)] 116)).alloc (.cells #[.int .i64 (t : Int)] 3)) (.int .i64 (s : Int)) 3
  simp only [World.size_alloc] at c1 c2
  have hB0 : Below w.heap.size w (((w.alloc (.cells #[.int .u32 (fm l)] 116)).alloc (.cells #[.int .i64 (t : Int)] 3)).alloc (.cells #[.int .i64 (s : Int)] 3)) := (((Below.refl _ w).alloc (Nat.le_refl _) _).alloc (by simp) _).alloc (by simp; omega) _
  refine wpIn_rangeFunc_ownF rfl (by omega) (gf := 156) (lb := #[.pointer (some ⟨w.heap.size + 1 + 1, 0, none⟩)]) rfl trivial (enters_of Tryz.func156 (by kernel_rfl) rfl)
    (ptsStops Fence.wide _ trivial rfl (by omega) (w.heap.size + 1 + 1) s hs _ c2.1) kc_t kc_b (Below.refl _ _) (fun _ => rfl)
    (fun pre W => (W.cell? ⟨w.heap.size, 0, none⟩ = some (.int .u32 (fm (lft t (pre.map Fin.val) l))) ∧ W.frozen? ⟨w.heap.size, 0, none⟩ = false ∧ W.cell? ⟨w.heap.size + 1, 0, none⟩ = some (.int .i64 (t : Int))) ∧ (Below w.heap.size w W ∧ w.heap.size + 1 + 1 < W.heap.size))
    (fun _ _ _ => False)
    (OwnFrom.and (Own.from (fun s A B row hs hg hr => ⟨cell_kept hs.1 hg hr, (frozen_kept hs.1 hg hr).trans hs.2.1, cell_kept hs.2.2 hg hr⟩) _) (OwnFrom.and (ownFrom_below (Nat.le_refl _) (by simp; omega)) (fun s A B row hs hg hr => Nat.lt_of_lt_of_le hs hg.size)))
    (fun _ _ _ _ _ hs _ _ => hs)
    ⟨⟨cell_alloc_l _ (cell_alloc_l _ c0.1), frozen_alloc_l _ (cell_alloc_l _ c0.1) (frozen_alloc_l _ c0.1 c0.2), cell_alloc_l _ c1.1⟩, hB0, by simp⟩
    (fun x => { tmps := #[.int .u32 (fm l), .int .i64 (t : Int), .int .i64 (s : Int), .pointer (some ⟨w.heap.size, 0, none⟩), .pointer (some ⟨w.heap.size + 1, 0, none⟩), undef, .int .u32 0, .int .i64 ((x.val : Nat) : Int), .int .i64 (s : Int), .func (.func 156) #[] #[.pointer (some ⟨w.heap.size + 1 + 1, 0, none⟩)], .int .i64 ((x.val : Nat) : Int), undef, undef, undef, undef, undef, undef], defers := [] }) ?assign ?body ?done ?stop
  case assign =>
    intro l0 x W K hK
    gi_wp2
    exact hK
  case body =>
    rintro l0 pre x W ⟨⟨hc, hf, hct⟩, hB, hN⟩ _
    have hswW := hsw.next hB
    have hl2 := lft_32 (t := t) (xs := pre.map Fin.val) h32
    have HLn := Lib.hid (show lft t ((pre ++ [x]).map Fin.val) l = kp (lft t (pre.map Fin.val) l) ((x.val : Int), hasX x.val t) by rw [List.map_append, List.map_singleton, lft_snoc])
    generalize lft t (pre.map Fin.val) l = L at *
    have hd : 1 ≤ 3 - 1 - 1 := by omega
    have hmx : Tryz.prog.follows .mixedOrders = true := by kernel_rfl
    gi_wp2
    gi_region_with_o (first
      | (refine ⟨trivial, ?_⟩; gi_at_call 158; refine (CallsIn.inRound l0 (callsIn_wide.2 (implLabelled t x.val ht x.isLt _))).mono ?_; rintro e w1 ⟨rfl, hb1⟩; have hB1 : Below W.heap.size W w1 := (by first | exact hb1 | exact ⟨hb1.os, hb1.tape, hb1.output, hb1.size, hb1.block⟩); clear hb1; have hc1 := (hB1.cell (p := ⟨w.heap.size, 0, none⟩) (by show w.heap.size < _; omega)).trans hc)
      | (refine ⟨trivial, ?_⟩; gi_at_call 157; refine (CallsIn.inRound l0 (callsIn_wide.2 (implFitting L x.val (hasX x.val t) x.isLt _ (hswW.next hB1)))).mono ?_; rintro e w2 ⟨rfl, hb2⟩; have hB2 : Below W.heap.size W w2 := hB1.trans (hb2.mono hB1.size); have hf2 := (hB2.frozen (p := ⟨w.heap.size, 0, none⟩) (by show w.heap.size < _; omega)).trans hf; have hc2 := (hB2.cell (p := ⟨w.heap.size, 0, none⟩) (by show w.heap.size < _; omega)).trans hc))
    all_goals gi_wp2
    all_goals (try go_bits)
    all_goals
      obtain ⟨k1, k2, k3, k4, k5⟩ := agree_step (v := .int .u32 (fm (kp L ((x.val : Int), hasX x.val t)))) hN hB2 hc hf hct
      exact ⟨k1, k2, ⟨by rw [HLn.out]; exact k3, k4, k5⟩, (hB.trans (hB2.mono hB.size)).setCell (p := ⟨w.heap.size, 0, none⟩) (Nat.le_refl _) _, Nat.lt_of_lt_of_le hN k1.size⟩
  case done =>
    rintro D ys W hD rfl ⟨⟨hc, _, _⟩, hB, _⟩ hK
    rw [ptF_all hs, agr_all ht hs h32] at hc
    gi_wp2
    refine ⟨by simp, .inl ⟨_, _, rfl, run_takeDeferred hK, ?_⟩⟩
    exact ⟨_, results_tmp rfl _ _ _, rfl, hB.trans (belowK_b (w := w) (Nat.le_refl _) W D _ _ (by simp at hD; omega) hK rfl rfl)⟩
  case stop =>
    rintro D c pre W _ _ h _
    exact h.elim

end Go.Proofs.YtnmilfkocheaiaaGreatDoor

namespace Go.Proofs.YtnmilfkocheaiaaGreatDoor
open Go.RowKit

set_option maxHeartbeats 400000 in
theorem specMeetAny (a b : Int) (w : World) :
    Calls Tryz.prog 90 #[.int .i64 a, .int .i64 b] w fun e w' => e = .returned (.int .i64 (bits .and .i64 a b)) ∧ w = w' := by
  go_enter Tryz.func90, Tryz.ntmps90
  go_wp2
  go_ret
  exact ⟨rfl, rfl⟩

/-- how many of the first k have M at s -/
def cmt (M : Int) (s : Nat) (l : List Nat) (k : Nat) : Nat := ((l.take k).filter (fun u => decide (((u &&& s : Nat) : Int) = M))).length
theorem cmt_succ {M : Int} {s k : Nat} {l : List Nat} (hk : k < l.length) : cmt M s l (k + 1) = cmt M s l k + (if ((l.getD k 0 &&& s : Nat) : Int) = M then 1 else 0) := by
  unfold cmt
  rw [take_succ' hk, List.filter_append, List.length_append]
  congr 1
  generalize l.getD k 0 = x
  by_cases h : ((x &&& s : Nat) : Int) = M
  · rw [if_pos h]; simp [h]
  · rw [if_neg h]; simp [h]
theorem cmt_le (M : Int) (s : Nat) (l : List Nat) (k : Nat) : cmt M s l k ≤ k := by
  unfold cmt
  have := List.length_filter_le (fun u => decide (((u &&& s : Nat) : Int) = M)) (l.take k)
  rw [List.length_take] at this
  omega
/-- t is there, and alone agrees with itself at the points of s -/
def tcB (l : List Nat) (t : Int) (s : Nat) : Bool := hasB (toI l) t && tch t.toNat s l
theorem cmt_tcB {l : List Nat} {t : Int} {s : Nat} (hl : ∀ u ∈ l, u < 32) (hs : s < 32) : (decide (cmt (bits .and .i64 t s) s l l.length = 1) && hasB (toI l) t) = tcB l t s := by
  by_cases h : hasB (toI l) t = true
  · have hm : t ∈ toI l := by simpa [hasB] using h
    obtain ⟨u, hu, rfl⟩ := List.mem_map.1 hm
    have hu32 := hl u hu
    rw [tcB, h, Bool.and_true, Bool.true_and, tch_count, Int.toNat_natCast, i64_and u s (by omega) (by omega)]
    rw [show decide (u ∈ l) = true from decide_eq_true hu, Bool.and_true]
    congr 2
    unfold cmt agr
    rw [List.take_length]
    congr 2
    funext v
    rw [Bool.eq_iff_iff]
    simp only [decide_eq_true_eq, beq_iff_eq]
    omega
  · rw [Bool.not_eq_true] at h
    rw [tcB, h, Bool.and_false, Bool.false_and]

set_option maxRecDepth 100000 in
set_option maxHeartbeats 3200000 in
theorem specTeaches (v : Value) (ns : List Nat) (t : Int) (s : Nat) (w : World) (h32 : ∀ u ∈ ns, u < 32) (hlen : ns.length ≤ 1048576) (hs : s < 32) (h : Rd w v (toI ns)) :
    Calls Tryz.prog 117 #[v, .int .i64 t, .int .i64 (s : Int)] w fun e w' => e = .returned (.bool (tcB ns t s)) ∧ Below w.heap.size w w' := by
  have HD := Lib.hid (fun w0 => specHasInt v (toI ns) t w0)
  have HR := Lib.hid h
  rw [← cmt_tcB h32 hs]
  obtain ⟨a, b, off, cap, rfl, h1, h3, h5⟩ := h
  rw [toI_length] at *
  have H1 := Lib.hid h1
  have H5 := Lib.hid h5
  have H32 := Lib.hid h32
  clear h1 h5 h32
  have HM := Lib.hid (fun (x : Nat) (hx : x < 32) (w0 : World) => (specMeet x s (by omega) (by omega) w0).mono fun e w' h => And.intro h.1 h.2.symm)
  have HT := Lib.hid (fun w0 => (specMeetAny t (s : Int) w0).mono fun e w' h => And.intro h.1 h.2.symm)
  generalize bits .and .i64 t (s : Int) = M at *
  generalize hb : hasB (toI ns) t = hh at *
  clear hb
  go_enter Tryz.func117, Tryz.ntmps117
  go_wp2_with fail
  go_loopw [7, 8] (fun q i wr => ∃ k : Nat, k ≤ ns.length ∧ i = .int .i64 k ∧ q = .int .i64 ((cmt M s ns k : Nat) : Int) ∧ ∃ d, wr = w.drewN d) (fun _ i _ => ns.length - (intOf i).toNat)
  case atStart => exact ⟨0, Nat.zero_le _, rfl, by simp [cmt], 0, rfl⟩
  case round =>
    obtain ⟨k, hk, rfl, rfl, d, rfl⟩ := hrel
    have hle := cmt_le M s ns k
    by_cases hlt : k < ns.length
    · obtain ⟨rfl, _⟩ := H1.out (by omega)
      have hc := H5.out k hlt
      rw [toI_getD] at hc
      have hx32 := H32.out _ (getD_of_lt hlt)
      have HC := Lib.hid (cmt_succ (M := M) (s := s) hlt)
      generalize ns.getD k 0 = x at *
      have HMx := Lib.hid (HM.out x hx32)
      have hkI : (k : Int) < (ns.length : Int) := by omega
      generalize (x &&& s : Nat) = y at *
      by_cases hxy : (y : Int) = M
      · have hxb : ((y : Int) == M) = true := by simpa using hxy
        rw [if_pos hxy] at HC
        generalize cmt M s ns k = c0 at *
        clear hxy
        go_wp2_with fail
        refine (HMx.out _).mono ?_
        rintro e w1 ⟨rfl, hw1⟩
        subst w1
        go_wp2_with fail
        refine (HT.out _).mono ?_
        rintro e w1 ⟨rfl, hw1⟩
        subst w1
        go_wp2_with fail
        go_roundw
        case rel => exact ⟨k + 1, by omega, by go_num, by rw [HC.out]; go_num, _, rfl⟩
        case measure => simp [intOf]; omega
      · have hxb : ((y : Int) == M) = false := by simpa using hxy
        rw [if_neg hxy] at HC
        generalize cmt M s ns k = c0 at *
        clear hxy
        go_wp2_with fail
        refine (HMx.out _).mono ?_
        rintro e w1 ⟨rfl, hw1⟩
        subst w1
        go_wp2_with fail
        refine (HT.out _).mono ?_
        rintro e w1 ⟨rfl, hw1⟩
        subst w1
        go_wp2_with fail
        go_roundw
        case rel => exact ⟨k + 1, by omega, by go_num, by rw [HC.out]; rfl, _, rfl⟩
        case measure => simp [intOf]; omega
    · obtain rfl : k = ns.length := by omega
      generalize hg : cmt M s ns ns.length = c0 at *
      have HG := Lib.hid hg
      clear hg
      by_cases h1 : c0 = 1
      · subst h1
        go_wp2_with fail
        refine (HD.out _ (show Rd (w.drewN d) _ _ from HR.out)).mono ?_
        rintro e w1 ⟨rfl, hw1⟩
        subst w1
        go_wp2_with fail
        go_ret
        exact ⟨by rw [HG.out]; simp, below_drewN (Below.refl _ _) d⟩
      · have hcb : ((c0 : Int) == 1) = false := by simp; omega
        have hcd : decide (c0 = 1) = false := decide_eq_false h1
        go_wp2_with fail
        go_ret
        exact ⟨by rw [HG.out, hcd]; rfl, below_drewN (Below.refl _ _) d⟩

/-- IsTeaching's answer -/
def iteB (n : Int) (zs : List Int) (t s : Int) : Bool := vldB n zs && (setB n.toNat s && tcB (zs.map Int.toNat) t s.toNat)
theorem iteB_bad {n : Int} {zs : List Int} {t s : Int} (h : vldB n zs = false) : iteB n zs t s = false := by rw [iteB, h]; rfl


end Go.Proofs.YtnmilfkocheaiaaGreatDoor

namespace Go.Proofs.YtnmilfkocheaiaaGreatDoor
open Go.RowKit

set_option maxRecDepth 100000 in
set_option maxHeartbeats 3200000 in
theorem implTeaches (l : List Nat) (t s : Nat) (h32 : ∀ u ∈ l, u < 32) (hp : l.Pairwise (· < ·)) (ht : t < 32) (hs : s < 32) (w : World) (hsw : SW w) :
    Calls Tryz.prog 176 #[.int .u32 (fm l), .int .i64 (t : Int), .int .i64 (s : Int)] w fun e w' => e = .returned (.bool (tch t s l)) ∧ Below w.heap.size w w' := by
  have HA := Lib.hid (fun w0 h0 => implAgreeing l t s h32 ht hs w0 h0)
  have hm : (2 : Int) ^ t % 4294967296 = 2 ^ t := by
    have key : ∀ s : Fin 32, (2 : Int) ^ (s : Nat) % 4294967296 = 2 ^ (s : Nat) := by decide +kernel
    exact key ⟨t, ht⟩
  have hw : IntKind.u32.wrap ((2 : Int) ^ t) = 2 ^ t := by rw [show IntKind.u32.wrap ((2 : Int) ^ t) = (2 : Int) ^ t % 4294967296 from rfl, hm]
  have HE := Lib.hid (show tch t s l = (fm (agr t s l) == (2 : Int) ^ t) by
    rw [Bool.eq_iff_iff, tch, beq_iff_eq, beq_iff_eq]
    exact (fm_inj (fun u hu => h32 u (agr_sub hu)) (hp.filter _) ht).symm)
  have HSW := Lib.hid hsw
  rw [HE.out]
  generalize fm (agr t s l) = A at *
  generalize fm l = F at *
  clear HE hsw
  go_enter Tryz.func176, Tryz.ntmps176
  go_wp2_with fail
  go_region_with (first
    | (go_at_call 132; refine (HA.out _ (by first | exact HSW.out | exact (show SW (World.drew _) from HSW.out))).mono ?_; rintro e w1 ⟨rfl, hb1⟩; have HB1 := Lib.hid (show Below w.heap.size w w1 by first | exact hb1 | exact ⟨hb1.os, hb1.tape, hb1.output, hb1.size, hb1.block⟩); clear hb1))
  all_goals
    go_wp2_with fail
    go_ret
    exact ⟨rfl, HB1.out⟩

theorem iteB_t {m : Nat} {ns : List Nat} {t s : Int} (hc : Cls m ns) (h : setB m t = false) : iteB (m : Int) (toI ns) t s = false := by
  rw [iteB, toNat_toI, tcB]
  have : hasB (toI ns) t = false := by
    simp only [hasB, decide_eq_false_iff_not]
    intro hm
    obtain ⟨u, hu, rfl⟩ := List.mem_map.1 hm
    have h2 := hc.lt u hu
    have h3 : ((2 ^ m : Nat) : Int) = (2 : Int) ^ m := by simp
    simp only [setB, Bool.and_eq_false_iff, decide_eq_false_iff_not] at h
    omega
  rw [this]
  simp
theorem iteB_in {m : Nat} {ns : List Nat} {t s : Nat} (hv : vldB m (toI ns) = true) (hs : setB m (s : Int) = true) : iteB (m : Int) (toI ns) (t : Int) (s : Int) = tch t s ns := by
  rw [iteB, hv, Int.toNat_natCast, hs, toNat_toI, Int.toNat_natCast, tcB, Int.toNat_natCast, hasB_nat, tch_count]
  cases decide (t ∈ ns) <;> simp


end Go.Proofs.YtnmilfkocheaiaaGreatDoor
