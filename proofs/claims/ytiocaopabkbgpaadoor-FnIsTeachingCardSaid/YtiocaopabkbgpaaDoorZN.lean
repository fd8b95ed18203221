/- Cells that are known and kept, for the loops over iterators. No conditions. The least ones of a list: mathematics. No conditions. What the walks of leastOf need: blocks that are kept, rows of their own. No conditions. The numbers of a slice, one after the other: slices.Values and its iterator. Conditions: at most 32 numbers, below 32. leastOf at ints, with the measure of BestOf$1: all values of the least measure, in order. Conditions: the iterator gives small numbers. The greatest and the least of numbers, the program's (slices.Max, slices.Min) and the model's. Conditions: a slice of ints. The first one of the least measure, and distances: mathematics. No conditions. firstLeast with the measure of BestOf$1. Conditions: at most 32 numbers, below 32. The model's indexInt. Conditions: the number is among those of a slice of ints. -/
import Derived.Deep.RegionHeld3
import Derived.LoopIn
import Derived.LoopNIn
import Derived.Maps.AppendAt
import Derived.OwnWalkIn
import Derived.RangeFuncBound
import Derived.RangeFuncBox
import Derived.RangeFuncCalls
import Derived.RangeFuncLeaves
import Derived.RangeFuncNested
import Derived.Shelf.Abstract
import Derived.Shelf.RegionOpen
import Derived.TacticsInMore
import Derived.Test.YtiocaopabkbgpaaDoorZA
import Derived.Test.YtiocaopabkbgpaaDoorZC
import Derived.WalkKit
namespace Go.Proofs.YtiocaopabkbgpaaDoor
open Go.RowKit Go.Shelf

theorem cell_new_l (W : World) (v : Value) (t : TypeId) : (W.alloc (.cells #[v] t)).cell? ⟨W.heap.size, 0, none⟩ = some v ∧ (W.alloc (.cells #[v] t)).frozen? ⟨W.heap.size, 0, none⟩ = false := ⟨by simp, by simp⟩
theorem cell_alloc_l {W : World} {a : Addr} {v : Value} (o : Obj) (h : W.cell? a = some v) : (W.alloc o).cell? a = some v := cell_kept h (World.grownBy_alloc W o none) (fun r e => by cases e)
theorem frozen_alloc_l {W : World} {a : Addr} {v : Value} (o : Obj) (h : W.cell? a = some v) (hf : W.frozen? a = false) : (W.alloc o).frozen? a = false := (frozen_kept h (World.grownBy_alloc W o none) (fun r e => by cases e)).trans hf
/-- the cell of block b is kept -/
def Kc (b : Nat) (A B : World) : Prop := ∀ v, A.cell? ⟨b, 0, none⟩ = some v → B.cell? ⟨b, 0, none⟩ = some v
theorem kc_t {b : Nat} {A B C : World} (h : Kc b A B) (k : Kc b B C) : Kc b A C := fun v e => k v (h v e)
theorem kc_b {b n0 : Nat} (W : World) (l : Nat) (o o' : Obj) (_ : n0 ≤ l) (h : W.heap[l]? = some o) (hc : o.isCells = false) (_ : o.isWalk = false) : Kc b W (W.putObj l o') :=
  fun _ e => cell_kept e (grownBy_putObj' W l o') (fun r er => by cases er; exact ⟨o, h, hc⟩)
theorem kc_below {b n0 : Nat} (hb : b < n0) {A B : World} (h : Below n0 A B) : Kc b A B := fun _ e => (h.cell (p := ⟨b, 0, none⟩) hb).trans e
theorem keeps_below {A B : World} (h : Below A.heap.size A B) : KeepsOthers A B := ⟨h.size, fun k _ hk _ => (h.block k (Array.getElem?_eq_some_iff.1 hk).1).trans hk⟩

/-- cells that are known -/
def CS (cs : List (Addr × Value)) (W : World) : Prop := ∀ p ∈ cs, W.cell? p.1 = some p.2
def Kcs (cs : List (Addr × Value)) (A B : World) : Prop := CS cs A → CS cs B
theorem kcs_t {cs : List (Addr × Value)} {A B C : World} (h : Kcs cs A B) (k : Kcs cs B C) : Kcs cs A C := fun e => k (h e)
theorem kcs_b {cs : List (Addr × Value)} {n0 : Nat} (W : World) (l : Nat) (o o' : Obj) (_ : n0 ≤ l) (h : W.heap[l]? = some o) (hc : o.isCells = false) (_ : o.isWalk = false) : Kcs cs W (W.putObj l o') :=
  fun e p hp => cell_kept (e p hp) (grownBy_putObj' W l o') (fun r er => by cases er; exact ⟨o, h, hc⟩)
theorem cs_own {β : Type} (cs : List (Addr × Value)) : Own (fun (_ : β) W => CS cs W) := fun _ _ _ _ hs hg hr p hp => cell_kept (hs p hp) hg hr
theorem CS.lt {cs : List (Addr × Value)} {W : World} (h : CS cs W) (p : Addr × Value) (hp : p ∈ cs) : p.1.block < W.heap.size := World.block_lt_of_cell? W _ (h p hp)
theorem CS.next {cs : List (Addr × Value)} {W W' : World} (h : CS cs W) (hb : Below W.heap.size W W') : CS cs W' := fun p hp => (hb.cell (h.lt p hp)).trans (h p hp)
theorem CS.below {cs : List (Addr × Value)} {N : Nat} {W W' : World} (h : CS cs W) (hb : Below N W W') (hN : ∀ p ∈ cs, p.1.block < N) : CS cs W' := fun p hp => (hb.cell (hN p hp)).trans (h p hp)
theorem grown_none {A B : World} (h : Below A.heap.size A B) : A.grownBy B none := ⟨h.os, h.tape, h.output, h.size, fun k hk _ => h.block k hk⟩
abbrev encG (x : Fin 32) : Array Value := #[.int .i64 ((x.val : Nat) : Int)]

end Go.Proofs.YtiocaopabkbgpaaDoor

namespace Go.Proofs.YtiocaopabkbgpaaDoor

/-- one more value: the list of the least so far, and their measure -/
def lstep (μ : Nat → Int) (a : List Nat × Int) (v : Nat) : List Nat × Int :=
  if a.1 = [] ∨ μ v < a.2 then ([v], μ v) else if μ v = a.2 then (a.1 ++ [v], a.2) else a
def lmn (μ : Nat → Int) (xs : List Nat) : List Nat × Int := xs.foldl (lstep μ) ([], 0)
theorem lmn_nil (μ : Nat → Int) : lmn μ [] = ([], 0) := rfl
theorem lmn_snoc (μ : Nat → Int) (xs : List Nat) (v : Nat) : lmn μ (xs ++ [v]) = lstep μ (lmn μ xs) v := by simp [lmn]
def LGood (μ : Nat → Int) (pre : List Nat) (a : List Nat × Int) : Prop :=
  (pre = [] ∧ a = ([], 0)) ∨ (a.1 ≠ [] ∧ a.1 = pre.filter (fun v => decide (μ v = a.2)) ∧ ∀ v ∈ pre, a.2 ≤ μ v)
theorem lgood_step {μ : Nat → Int} {pre : List Nat} {a : List Nat × Int} (h : LGood μ pre a) (v : Nat) : LGood μ (pre ++ [v]) (lstep μ a v) := by
  right
  rcases h with ⟨rfl, rfl⟩ | ⟨h1, h2, h3⟩
  · simp [lstep]
  · by_cases hl : μ v < a.2
    · rw [lstep, if_pos (.inr hl)]
      refine ⟨by simp, ?_, fun u hu => ?_⟩
      · show [v] = _
        rw [List.filter_append, List.filter_eq_nil_iff.2 (fun u hu => by have := h3 u hu; simp; omega)]
        simp
      · rcases List.mem_append.1 hu with hu | hu
        · have := h3 u hu
          show μ v ≤ μ u
          omega
        · rw [List.mem_singleton.1 hu]; exact Int.le_refl _
    · by_cases he : μ v = a.2
      · rw [lstep, if_neg (by rintro (e | e); exact h1 e; exact hl e), if_pos he]
        refine ⟨by simp, ?_, fun u hu => ?_⟩
        · show a.1 ++ [v] = _
          rw [List.filter_append, ← h2]
          simp [he]
        · rcases List.mem_append.1 hu with hu | hu
          · exact h3 u hu
          · rw [List.mem_singleton.1 hu]; show a.2 ≤ μ v; omega
      · rw [lstep, if_neg (by rintro (e | e); exact h1 e; exact hl e), if_neg he]
        refine ⟨h1, ?_, fun u hu => ?_⟩
        · rw [List.filter_append, ← h2]
          simp [he]
        · rcases List.mem_append.1 hu with hu | hu
          · exact h3 u hu
          · rw [List.mem_singleton.1 hu]; omega
theorem lgood_fold {μ : Nat → Int} : ∀ (xs : List Nat) (pre : List Nat) (a : List Nat × Int), LGood μ pre a → LGood μ (pre ++ xs) (xs.foldl (lstep μ) a)
  | [], pre, a, h => by simpa using h
  | x :: xs, pre, a, h => by
    have := lgood_fold xs (pre ++ [x]) (lstep μ a x) (lgood_step h x)
    simpa using this
theorem lmn_good (μ : Nat → Int) (xs : List Nat) : LGood μ xs (lmn μ xs) := by
  have := lgood_fold (μ := μ) xs [] ([], 0) (.inl ⟨rfl, rfl⟩)
  simpa [lmn] using this
theorem lmn_len (μ : Nat → Int) (xs : List Nat) : (lmn μ xs).1.length ≤ xs.length := by
  rcases lmn_good μ xs with ⟨_, h⟩ | ⟨_, h, _⟩
  · rw [h]; simp
  · rw [h]; exact List.length_filter_le _ _
theorem lmn_ne {μ : Nat → Int} {xs : List Nat} (h : xs ≠ []) : (lmn μ xs).1 ≠ [] := by
  rcases lmn_good μ xs with ⟨e, _⟩ | ⟨h, _⟩
  · exact absurd e h
  · exact h
theorem lmn_sub {μ : Nat → Int} {xs : List Nat} {v : Nat} (h : v ∈ (lmn μ xs).1) : v ∈ xs := by
  rcases lmn_good μ xs with ⟨_, e⟩ | ⟨_, e, _⟩
  · rw [e] at h; simp at h
  · rw [e] at h; exact (List.mem_filter.1 h).1

end Go.Proofs.YtiocaopabkbgpaaDoor

namespace Go.Proofs.YtiocaopabkbgpaaDoor
open Go.RowKit Go.Shelf
attribute [local go_sem] Oper.semAt_some

theorem infoI : (Tryd.prog.info? 3).map (fun i => (i.zero, i.size, i.bytes)) = some (some (.int .i64 0), 1, 8) := by kernel_rfl
theorem boxed_keeps {W W' : World} {row : Option Nat} {B : Nat} {t : TypeId} {v : Value} (h : Boxed W B t v) (hg : W.grownBy W' row) (hr : ∀ r, row = some r → ∃ o : Obj, W.heap[r]? = some o ∧ o.isCells = false) : Boxed W' B t v :=
  h.kept hg (fun e' => by
    obtain ⟨o, ho, hc⟩ := hr B e'.symm
    rw [show W.heap[B]? = _ from h] at ho
    cases ho
    cases hc)
theorem own_none {W W' : World} {base size k : Nat} {e : TypeId} {v : Value} {xs : List Value} (h : W.ownsRow base e size v k xs) (hb : Below W.heap.size W W') : W'.ownsRow base e size v k xs :=
  h.kept (grown_none hb) (by by_cases e : v.ownBlock = none; exact .inl e; exact .inr e)
theorem own_mono {W : World} {base b2 size k : Nat} {e : TypeId} {v : Value} {xs : List Value} (h : W.ownsRow base e size v k xs) (hb : b2 ≤ base) : W.ownsRow b2 e size v k xs :=
  ⟨h.1, h.2.imp id (fun ⟨g, cap, cur, h1, h2, h3⟩ => ⟨g, cap, cur, h1, Nat.le_trans hb h2, h3⟩)⟩
theorem own_far {W : World} {base size k b : Nat} {e : TypeId} {v u : Value} {xs : List Value} (h : W.ownsRow base e size v k xs) (hb : b < base) : (W.setCell ⟨b, 0, none⟩ u).ownsRow base e size v k xs := by
  refine h.kept (grownBy_setCell' W b u) ?_
  rcases h.2 with ⟨rfl, _⟩ | ⟨g, cap, cur, rfl, hg, _⟩
  · exact .inl rfl
  · refine .inr (fun e' => ?_)
    have : g = b := by simpa [Value.ownBlock] using e'
    omega
theorem own_cut {W : World} {base k g cap : Nat} {e : TypeId} {xs : List Value} (h : W.ownsRow base e 1 (.slice (some ⟨g, 0, none⟩) k cap) k xs) : W.ownsRow base e 1 (.slice (some ⟨g, 0, none⟩) 0 cap) 0 [] := by
  rcases h.2 with ⟨h1, _⟩ | ⟨g', cap', cur, h1, h2, h3, h4, h5, h6, h7⟩
  · cases h1
  · cases h1
    exact ⟨rfl, .inr ⟨g, cap, cur, rfl, h2, h3, Nat.zero_le _, h5, h6, rfl⟩⟩
theorem appended2 {W w1 : World} {N n1 B : Nat} {t e : TypeId} {size : Nat} {v v' : Value} {k m : Nat} {xs ys : List Value} {tmp : Obj}
    (hv : Boxed W B t v) (hte : t ≠ e) (hrow : W.ownsRow n1 e size v k xs) (hN1 : N ≤ n1) (hNs : N ≤ W.heap.size) (hB : N ≤ B)
    (hown' : w1.ownsRow n1 e size v' m ys) (hgrow : (W.alloc tmp).grownBy w1 v.ownBlock) :
    Boxed w1 B t v ∧ Boxed (w1.setCell ⟨B, 0, none⟩ v') B t v' ∧ (w1.setCell ⟨B, 0, none⟩ v').ownsRow n1 e size v' m ys ∧ KeepsOthers W (w1.setCell ⟨B, 0, none⟩ v') ∧ Below N W (w1.setCell ⟨B, 0, none⟩ v') := by
  obtain ⟨a, b, _, d, f⟩ := hv.appended hte (own_mono hrow hN1) hNs hB (own_mono hown' hN1) hgrow
  exact ⟨a, b, hown'.kept (grownBy_setCell' w1 B v') (.inr (a.not_row hte hown').symm), d, f⟩
theorem own_ne {W : World} {base size k b : Nat} {e : TypeId} {v : Value} {xs : List Value} (h : W.ownsRow base e size v k xs) (hb : b < base) : some b ≠ v.ownBlock := by
  rcases h.2 with ⟨rfl, _⟩ | ⟨g, cap, cur, rfl, hg, _⟩
  · simp [Value.ownBlock]
  · intro e'
    have : b = g := by simpa [Value.ownBlock] using e'
    omega

theorem boxed_far {W : World} {B b : Nat} {t : TypeId} {v : Value} (h : Boxed W B t v) (u : Value) (hne : B ≠ b) : Boxed (W.setCell ⟨b, 0, none⟩ u) B t v := h.kept (grownBy_setCell' W b u) (by simpa using hne)
abbrev lA (μ : Nat → Int) (pre : List (Fin 32)) : List Nat := (lmn μ (pre.map Fin.val)).1
abbrev lM (μ : Nat → Int) (pre : List (Fin 32)) : Int := (lmn μ (pre.map Fin.val)).2
abbrev ivs (l : List Nat) : List Value := (toI l).map (Value.int .i64)
theorem lmn_next (μ : Nat → Int) (pre : List (Fin 32)) (x : Fin 32) : lmn μ ((pre ++ [x]).map Fin.val) = lstep μ (lmn μ (pre.map Fin.val)) x.val := by rw [List.map_append, List.map_singleton, lmn_snoc]

end Go.Proofs.YtiocaopabkbgpaaDoor

namespace Go.Proofs.YtiocaopabkbgpaaDoor
open Go.RowKit Go.Shelf
attribute [local go_sem] Oper.semAt_some

/-- the slice in its block, and its numbers -/
def csV (Bn : Nat) (v : Value) (b off : Nat) (ns : List Nat) : List (Addr × Value) := (⟨Bn, 0, none⟩, v) :: (List.range ns.length).map (fun j => (⟨b, off + j, none⟩, .int .i64 ((ns.getD j 0 : Nat) : Int)))
/-- small numbers -/
def f32 (ns : List Nat) : List (Fin 32) := ns.map (fun t => ⟨t % 32, Nat.mod_lt _ (by decide)⟩)
theorem f32_val {ns : List Nat} (h : ∀ t ∈ ns, t < 32) : (f32 ns).map Fin.val = ns := by
  unfold f32
  rw [List.map_map]
  have : ns.map (Fin.val ∘ fun t => (⟨t % 32, Nat.mod_lt _ (by decide)⟩ : Fin 32)) = ns.map id := List.map_congr_left (fun t ht => Nat.mod_eq_of_lt (h t ht))
  rw [this, List.map_id]
theorem f32_len (ns : List Nat) : (f32 ns).length = ns.length := by simp [f32]
theorem f32_at {ns : List Nat} (h : ∀ t ∈ ns, t < 32) {k : Nat} (hk : k < (f32 ns).length) : ((f32 ns)[k].val : Nat) = ns.getD k 0 := by
  have hk' : k < ns.length := by rw [f32_len] at hk; exact hk
  have : ns[k] < 32 := h _ (List.getElem_mem hk')
  simp [f32, List.getD, List.getElem?_eq_getElem hk', Nat.mod_eq_of_lt this]

set_option maxHeartbeats 400000 in
theorem implValues (a : Option Addr) (n cap : Nat) (w : World) :
    Calls Tryd.prog 107 #[.slice a n cap] w fun e w' => e = .returned (.func (.func 117) #[] #[.pointer (some ⟨w.heap.size, 0, none⟩)]) ∧ w' = w.alloc (.cells #[.slice a n cap] 23) := by
  go_enter Tryd.func107, Tryd.ntmps107
  go_wp2_with fail
  go_ret
  exact ⟨rfl, rfl⟩

set_option maxRecDepth 100000 in
set_option maxHeartbeats 3200000 in
theorem valStops (n : Nat) (hn : 1 ≤ n) (Bn : Nat) (a : Option Addr) (b off cap : Nat) (ns : List Nat) (h32 : ∀ t ∈ ns, t < 32) (hl : ns.length ≤ 32) (h1 : 0 < ns.length → a = some ⟨b, off, none⟩) (cs : List (Addr × Value)) (hsub : ∀ p ∈ csV Bn (.slice a ns.length cap) b off ns, p ∈ cs) (w : World) (hcs : CS cs w) :
    SeqStopsK Fence.wide n Tryd.prog 117 #[.pointer (some ⟨Bn, 0, none⟩)] encG (Kcs cs) (fun xs => xs = f32 ns) (fun pre => pre <+: f32 ns) 32 w := fun l0 J Jx W hW hJ hJx hY h0 => by
  have hcW : CS cs W := hcs.next hW
  have hbn : W.cell? ⟨Bn, 0, none⟩ = some (.slice a ns.length cap) := hcW (⟨Bn, 0, none⟩, .slice a ns.length cap) (hsub _ (by simp [csV]))
  have HAt := Lib.hid (fun (k : Nat) (hk : k < (f32 ns).length) (W : World) (hc : CS cs W) => show W.cell? ⟨b, off + k, none⟩ = some (.int .i64 (((f32 ns)[k].val : Nat) : Int)) by
    rw [f32_at h32 hk]
    refine hc (⟨b, off + k, none⟩, .int .i64 ((ns.getD k 0 : Nat) : Int)) (hsub _ ?_)
    rw [f32_len] at hk
    exact List.mem_cons_of_mem _ (List.mem_map.2 ⟨k, List.mem_range.2 hk, rfl⟩))
  have HLn := Lib.hid (f32_len ns)
  have H1 := Lib.hid h1
  clear h1 h32 hsub
  refine callsIn_of_wp Tryd.func117 rfl trivial ?_ rfl
  simp only [Tryd.ntmps117, List.size_toArray, List.length_cons, List.length_nil, Nat.reduceAdd, Nat.reduceSub, Array.replicate_succ, Array.replicate_zero, List.push_toArray, List.append_toArray, List.nil_append, List.cons_append]
  gi_wp2
  gi_loopw [7] (fun i wr => ∃ k : Nat, k ≤ ns.length ∧ i = .int .i64 k ∧ J ((f32 ns).take k) wr ∧ CS cs wr) (fun i _ => ns.length - (intOf i).toNat)
  case atStart => exact ⟨0, Nat.zero_le _, rfl, by rw [List.take_zero]; exact h0, hcW⟩
  case round =>
    obtain ⟨k, hk, rfl, hJr, hcr⟩ := hrel
    by_cases hlt : k < ns.length
    · have hkf : k < (f32 ns).length := by rw [HLn.out]; exact hlt
      obtain rfl := H1.out (by omega)
      have hc := HAt.out k hkf wr hcr
      have HT := Lib.hid (show (f32 ns).take (k + 1) = (f32 ns).take k ++ [(f32 ns)[k]] from List.take_succ_eq_append_getElem hkf)
      obtain ⟨fn, tmps, assign, body, hy, hR⟩ := hY ((f32 ns).take k) (f32 ns)[k] wr hJr (by rw [List.length_take]; omega)
      have HPre := Lib.hid (List.take_prefix (k + 1) (f32 ns))
      generalize (f32 ns)[k] = x at *
      gi_wp2
      refine hR.mono ?_
      rintro e W3 (⟨rfl, hJ3, hk3⟩ | ⟨rfl, hJx3⟩)
      · have hc3 := hk3 hcr
        gi_wp2
        go_roundw
        case rel => exact ⟨k + 1, by omega, by go_num, by rw [HT.out]; exact hJ3, hc3⟩
        case measure => simp [intOf]; omega
      · gi_wp2
        refine bodyPost_ret (results_none rfl _ _ _) rfl ?_
        exact ⟨⟨_, rfl⟩, .inr ⟨_, by rw [← HT.out]; exact HPre.out, hJx3⟩⟩
    · obtain rfl : k = ns.length := by omega
      have hJ2 : J (f32 ns) wr := by rw [← List.take_length (l := f32 ns), HLn.out]; exact hJr
      gi_wp2
      go_end0
      exact ⟨⟨_, rfl⟩, .inl ⟨_, rfl, hJ2⟩⟩

end Go.Proofs.YtiocaopabkbgpaaDoor

namespace Go.Proofs.YtiocaopabkbgpaaDoor
open Go.RowKit Go.Shelf
attribute [local go_sem] Oper.semAt_some

set_option maxRecDepth 100000 in
set_option maxHeartbeats 12800000 in
theorem implLeastB (mo : Nat) (μ : Nat → Int) (gf : Nat) (lb : Array Value) (cs : List (Addr × Value)) (L : List (Fin 32)) (hL : L.length ≤ 32) (w : World)
    (eg : ∀ args w, (callFunc gf args).run Tryd.prog w = .ok (.enter gf args) w)
    (hseq : ∀ n w0, 1 ≤ n → CS cs w0 → SeqStopsK Fence.wide n Tryd.prog gf lb encG (Kcs cs) (fun xs => xs = L) (fun pre => pre <+: L) 32 w0)
    (HM : Hid (∀ (x : Fin 32) (W : World), CS cs W → Calls Tryd.prog 78 #[.int .i64 ((x.val : Nat) : Int), .pointer (some ⟨mo, 0, none⟩)] W fun e w' => e = .returned (.int .i64 (μ x.val)) ∧ Below W.heap.size W w'))
    (hcs0 : CS cs w) :
    Calls Tryd.prog 106 #[.func (.func gf) #[] lb, (.func (.func 78) #[] #[.pointer (some ⟨mo, 0, none⟩)])] w (RetInts (toI (lmn μ (L.map Fin.val)).1) w) := by
  obtain ⟨i0, hi, hz0, hz1, hz2⟩ := info_parts infoI
  have hlo : ∀ p ∈ cs, p.1.block < w.heap.size := hcs0.lt
  refine (callsIn_wide (n := 3)).1 ?_
  refine callsIn_of_wp_marks Tryd.func106 rfl trivial ?_ rfl
  simp only [Tryd.ntmps106, List.size_toArray, List.length_cons, List.length_nil, Nat.reduceAdd, Nat.reduceSub, Array.replicate_succ, Array.replicate_zero, List.push_toArray, List.append_toArray, List.nil_append, List.cons_append]
  gi_wp2
  have bM := Boxed.new w 40 (.func (.func 78) #[] #[.pointer (some ⟨mo, 0, none⟩)])
  have bO := Boxed.new (w.alloc (.cells #[(.func (.func 78) #[] #[.pointer (some ⟨mo, 0, none⟩)])] 40)) 23 (.slice none 0 0)
  have bL := Boxed.new ((w.alloc (.cells #[(.func (.func 78) #[] #[.pointer (some ⟨mo, 0, none⟩)])] 40)).alloc (.cells #[.slice none 0 0] 23)) 3 (.int .i64 0)
  simp only [World.size_alloc] at bO bL
  have hB0 : Below w.heap.size w (((w.alloc (.cells #[(.func (.func 78) #[] #[.pointer (some ⟨mo, 0, none⟩)])] 40)).alloc (.cells #[.slice none 0 0] 23)).alloc (.cells #[.int .i64 0] 3)) := (((Below.refl _ w).alloc (Nat.le_refl _) _).alloc (by simp) _).alloc (by simp; omega) _
  refine wpIn_rangeFunc_ownF rfl (by omega) (gf := gf) (lb := lb) rfl trivial eg
    (hseq _ _ (by omega) (hcs0.next hB0)) kcs_t kcs_b (Below.refl _ _) (fun _ => rfl)
    (fun pre W => (∃ v, Boxed W (w.heap.size + 1) 23 v ∧ W.ownsRow (w.heap.size + 1 + 1 + 1) 3 1 v (lA μ pre).length (ivs (lA μ pre)) ∧ (v = .slice none 0 0 ↔ lA μ pre = []))
      ∧ (Boxed W w.heap.size 40 (.func (.func 78) #[] #[.pointer (some ⟨mo, 0, none⟩)]) ∧ Boxed W (w.heap.size + 1 + 1) 3 (.int .i64 (lM μ pre)) ∧ CS cs W) ∧ (Below w.heap.size w W ∧ w.heap.size + 1 + 1 + 1 ≤ W.heap.size))
    (fun _ _ _ => False)
    (OwnFrom.and (Own.from (holdsRow_own (w.heap.size + 1 + 1 + 1) (w.heap.size + 1) 23 3 1 (fun pre => (lA μ pre).length) (fun pre => ivs (lA μ pre)) (fun pre v => v = .slice none 0 0 ↔ lA μ pre = [])) _)
      (OwnFrom.and (Own.from (fun s A B row hs hg hr => ⟨boxed_keeps hs.1 hg hr, boxed_keeps hs.2.1 hg hr, cs_own cs s A B row hs.2.2 hg hr⟩) _)
        (OwnFrom.and (ownFrom_below (Nat.le_refl _) (by simp; omega)) (fun s A B row hs hg hr => Nat.le_trans hs hg.size))))
    (fun _ _ _ _ _ hs _ _ => hs)
    ⟨⟨_, bO.alloc _, World.ownsRow_nil _ _ _ _, by simp [lA, lmn]⟩, ⟨(bM.alloc _).alloc _, bL, hcs0.next hB0⟩, hB0, by simp⟩
    (fun x => { tmps := #[.func (.func gf) #[] lb, (.func (.func 78) #[] #[.pointer (some ⟨mo, 0, none⟩)]), undef, .pointer (some ⟨w.heap.size, 0, none⟩), .slice none 0 0, .pointer (some ⟨w.heap.size + 1, 0, none⟩), .pointer (some ⟨w.heap.size + 1 + 1, 0, none⟩), .int .i64 ((x.val : Nat) : Int), undef, .func (.func gf) #[] lb, .int .i64 ((x.val : Nat) : Int), undef, undef, undef, undef, undef, undef, undef, undef, undef, undef, undef, undef, undef, undef, undef, undef, undef, undef, undef, undef, undef, undef], defers := [] }) ?assign ?body ?done ?stop
  case assign =>
    intro l0 x W K hK
    gi_wp2
    exact hK
  case body =>
    rintro l0 pre x W ⟨⟨v, hv, hrow, hnil⟩, ⟨hM, hLb, hcs⟩, hB, hN⟩ hlen
    have HNX := Lib.hid (lmn_next μ pre x)
    have hlA : (lA μ pre).length ≤ 32 := by
      have := lmn_len μ (pre.map Fin.val)
      rw [List.length_map] at this
      show (lmn _ _).1.length ≤ 32
      omega
    have hmv := hM.cell
    simp only [lA, lM] at hrow hnil hLb hlA
    generalize lmn μ (pre.map Fin.val) = am at *
    obtain ⟨A, M⟩ := am
    dsimp only at hrow hnil hLb hlA HNX
    obtain ⟨m, hm⟩ : ∃ m : Int, m = μ x.val := ⟨_, rfl⟩
    have HMx := Lib.hid (HM.out x)
    rw [← hm] at HMx
    have HLS := Lib.hid (show lstep μ (A, M) x.val = if A = [] ∨ m < M then ([x.val], m) else if m = M then (A ++ [x.val], M) else (A, M) by rw [hm]; rfl)
    clear hm
    by_cases hA : A = []
    · obtain rfl : v = .slice none 0 0 := hnil.2 hA
      subst hA
      have HA : lA μ (pre ++ [x]) = [x.val] := by show (lmn _ _).1 = _; rw [HNX.out, HLS.out, if_pos (Or.inl (rfl : ([] : List Nat) = []))]
      have HM2 : lM μ (pre ++ [x]) = m := by show (lmn _ _).2 = _; rw [HNX.out, HLS.out, if_pos (Or.inl (rfl : ([] : List Nat) = []))]
      gi_wp2
      refine ⟨trivial, ?_⟩
      gi_at_call 78
      refine (CallsIn.inRound l0 (callsIn_wide.2 (HMx.out _ hcs))).mono ?_
      rintro e W1 ⟨rfl, hb1⟩
      have bO1 := hv.kept (grown_none hb1) (by simp)
      have bL1 := hLb.kept (grown_none hb1) (by simp)
      have bM1 := hM.kept (grown_none hb1) (by simp)
      have hN1 : w.heap.size + 1 + 1 + 1 ≤ W1.heap.size := Nat.le_trans hN hb1.size
      have o1 := bO1.cell
      have o2 := bO1.frozen
      have l1 := bL1.cell
      have l2 := bL1.frozen
      have bO2 : Boxed ((W1.setCell ⟨w.heap.size + 1, 0, none⟩ (.slice none 0 0)).setCell ⟨w.heap.size + 1 + 1, 0, none⟩ (.int .i64 m)) (w.heap.size + 1) 23 (.slice none 0 0) := boxed_far (bO1.set (.slice none 0 0)) _ (by omega)
      have bL2 : Boxed ((W1.setCell ⟨w.heap.size + 1, 0, none⟩ (.slice none 0 0)).setCell ⟨w.heap.size + 1 + 1, 0, none⟩ (.int .i64 m)) (w.heap.size + 1 + 1) 3 (.int .i64 m) := (boxed_far bL1 (.slice none 0 0) (by omega)).set _
      have bM2 : Boxed ((W1.setCell ⟨w.heap.size + 1, 0, none⟩ (.slice none 0 0)).setCell ⟨w.heap.size + 1 + 1, 0, none⟩ (.int .i64 m)) w.heap.size 40 (.func (.func 78) #[] #[.pointer (some ⟨mo, 0, none⟩)]) := boxed_far (boxed_far bM1 (.slice none 0 0) (by omega)) _ (by omega)
      have l3 := bL2.cell
      have o3 := bO2.cell
      have o4 := bO2.frozen
      have r2 : ((W1.setCell ⟨w.heap.size + 1, 0, none⟩ (.slice none 0 0)).setCell ⟨w.heap.size + 1 + 1, 0, none⟩ (.int .i64 m)).ownsRow (w.heap.size + 1 + 1 + 1) 3 1 (.slice none 0 0) 0 [] := World.ownsRow_nil _ _ _ _
      gi_wp2_with (gi_at_builtin; refine wpListIn_append_own _ rfl _ _ 23 rfl (w.heap.size + 1 + 1 + 1) 3 i0 (.int .i64 0) 1 8 Tryd.underlying23 hi hz0 hz1 hz2 rfl (by decide) _ _ _ rfl (r2.alloc _) ⟨W1.heap.size, 0, none⟩ 1 1 [.int .i64 ((x.val : Nat) : Int)] rfl rfl (by have h9 := cell_one_new ((W1.setCell ⟨w.heap.size + 1, 0, none⟩ (.slice none 0 0)).setCell ⟨w.heap.size + 1 + 1, 0, none⟩ (.int .i64 m)) (.int .i64 ((x.val : Nat) : Int)) 3; have h8 : ((W1.setCell ⟨w.heap.size + 1, 0, none⟩ (.slice none 0 0)).setCell ⟨w.heap.size + 1 + 1, 0, none⟩ (.int .i64 m)).heap.size = W1.heap.size := (by first | rfl | simp); rw [h8] at h9; exact h9) (by simp [Value.oneCell']) (by unfold maxLen; omega) (by omega) (by first | omega | (simp; omega)) ?_; intro v' w1 hown' hgrow _; obtain ⟨g', cap', rfl⟩ := ownsRow_succ hown'; obtain ⟨hv1, hv2, hr2, hk2, hb2⟩ := appended2 (N := w.heap.size) bO2 (by decide) r2 (by omega) (by first | omega | (simp; omega)) (by omega) hown' hgrow; have hc1 := hv1.cell; have hf1 := hv1.frozen)
      have bM3 := boxed_far ((bM2.alloc _).kept hgrow (own_ne r2 (by omega))) (.slice (some ⟨g', 0, none⟩) (0 + 1) cap') (show w.heap.size ≠ w.heap.size + 1 by omega)
      have bL3 := boxed_far ((bL2.alloc _).kept hgrow (own_ne r2 (by omega))) (.slice (some ⟨g', 0, none⟩) (0 + 1) cap') (show w.heap.size + 1 + 1 ≠ w.heap.size + 1 by omega)
      have hBel := (((hb1.mono hB.size).setCell (p := ⟨w.heap.size + 1, 0, none⟩) (by show w.heap.size ≤ w.heap.size + 1; omega) _).setCell (p := ⟨w.heap.size + 1 + 1, 0, none⟩) (by show w.heap.size ≤ w.heap.size + 1 + 1; omega) _).trans hb2
      exact ⟨(((keeps_below hb1).trans (KeepsOthers.setCell _ _ _)).trans (KeepsOthers.setCell _ _ _)).trans hk2, fun hh => hh.below hBel hlo, ⟨⟨_, hv2, by rw [HA]; simpa [ivs, toI] using hr2, by rw [HA]; simp⟩, ⟨bM3, by rw [HM2]; exact bL3, hcs.below hBel hlo⟩, hB.trans hBel, Nat.le_trans hN hBel.size⟩⟩
    · obtain ⟨k, hk⟩ : ∃ k, A.length = k + 1 := ⟨A.length - 1, by have := List.length_pos_iff.2 hA; omega⟩
      rw [hk] at hrow hlA
      obtain ⟨g, cap, rfl⟩ := ownsRow_succ hrow
      have hd0 : (((k + 1 : Nat) : Int) == 0) = false := by simp; omega
      have hd1 : ((k : Int) + 1 == 0) = false := by simp; omega
      have hd2 : ¬ (k : Int) + 1 = 0 := by omega
      clear hnil
      by_cases hlt : m < M
      · have hdm : decide (m < M) = true := decide_eq_true hlt
        have HA : lA μ (pre ++ [x]) = [x.val] := by show (lmn _ _).1 = _; rw [HNX.out, HLS.out, if_pos (.inr hlt)]
        have HM2 : lM μ (pre ++ [x]) = m := by show (lmn _ _).2 = _; rw [HNX.out, HLS.out, if_pos (.inr hlt)]
        gi_wp2
        refine ⟨trivial, ?_⟩
        gi_at_call 78
        refine (CallsIn.inRound l0 (callsIn_wide.2 (HMx.out _ hcs))).mono ?_
        rintro e W1 ⟨rfl, hb1⟩
        have bO1 := hv.kept (grown_none hb1) (by simp)
        have bL1 := hLb.kept (grown_none hb1) (by simp)
        have bM1 := hM.kept (grown_none hb1) (by simp)
        have hN1 : w.heap.size + 1 + 1 + 1 ≤ W1.heap.size := Nat.le_trans hN hb1.size
        have o1 := bO1.cell
        have o2 := bO1.frozen
        have l1 := bL1.cell
        have l2 := bL1.frozen
        have bO2 : Boxed ((W1.setCell ⟨w.heap.size + 1, 0, none⟩ (.slice (some ⟨g, 0, none⟩) 0 cap)).setCell ⟨w.heap.size + 1 + 1, 0, none⟩ (.int .i64 m)) (w.heap.size + 1) 23 (.slice (some ⟨g, 0, none⟩) 0 cap) := boxed_far (bO1.set (.slice (some ⟨g, 0, none⟩) 0 cap)) _ (by omega)
        have bL2 : Boxed ((W1.setCell ⟨w.heap.size + 1, 0, none⟩ (.slice (some ⟨g, 0, none⟩) 0 cap)).setCell ⟨w.heap.size + 1 + 1, 0, none⟩ (.int .i64 m)) (w.heap.size + 1 + 1) 3 (.int .i64 m) := (boxed_far bL1 (.slice (some ⟨g, 0, none⟩) 0 cap) (by omega)).set _
        have bM2 : Boxed ((W1.setCell ⟨w.heap.size + 1, 0, none⟩ (.slice (some ⟨g, 0, none⟩) 0 cap)).setCell ⟨w.heap.size + 1 + 1, 0, none⟩ (.int .i64 m)) w.heap.size 40 (.func (.func 78) #[] #[.pointer (some ⟨mo, 0, none⟩)]) := boxed_far (boxed_far bM1 (.slice (some ⟨g, 0, none⟩) 0 cap) (by omega)) _ (by omega)
        have l3 := bL2.cell
        have o3 := bO2.cell
        have o4 := bO2.frozen
        have r2 : ((W1.setCell ⟨w.heap.size + 1, 0, none⟩ (.slice (some ⟨g, 0, none⟩) 0 cap)).setCell ⟨w.heap.size + 1 + 1, 0, none⟩ (.int .i64 m)).ownsRow (w.heap.size + 1 + 1 + 1) 3 1 (.slice (some ⟨g, 0, none⟩) 0 cap) 0 [] := own_far (own_far (own_cut (own_none hrow hb1)) (by omega)) (by omega)
        gi_wp2_with (gi_at_builtin; refine wpListIn_append_own _ rfl _ _ 23 rfl (w.heap.size + 1 + 1 + 1) 3 i0 (.int .i64 0) 1 8 Tryd.underlying23 hi hz0 hz1 hz2 rfl (by decide) _ _ _ rfl (r2.alloc _) ⟨W1.heap.size, 0, none⟩ 1 1 [.int .i64 ((x.val : Nat) : Int)] rfl rfl (by have h9 := cell_one_new ((W1.setCell ⟨w.heap.size + 1, 0, none⟩ (.slice (some ⟨g, 0, none⟩) 0 cap)).setCell ⟨w.heap.size + 1 + 1, 0, none⟩ (.int .i64 m)) (.int .i64 ((x.val : Nat) : Int)) 3; have h8 : ((W1.setCell ⟨w.heap.size + 1, 0, none⟩ (.slice (some ⟨g, 0, none⟩) 0 cap)).setCell ⟨w.heap.size + 1 + 1, 0, none⟩ (.int .i64 m)).heap.size = W1.heap.size := (by first | rfl | simp); rw [h8] at h9; exact h9) (by simp [Value.oneCell']) (by unfold maxLen; omega) (by omega) (by first | omega | (simp; omega)) ?_; intro v' w1 hown' hgrow _; obtain ⟨g', cap', rfl⟩ := ownsRow_succ hown'; obtain ⟨hv1, hv2, hr2, hk2, hb2⟩ := appended2 (N := w.heap.size) bO2 (by decide) r2 (by omega) (by first | omega | (simp; omega)) (by omega) hown' hgrow; have hc1 := hv1.cell; have hf1 := hv1.frozen)
        have bM3 := boxed_far ((bM2.alloc _).kept hgrow (own_ne r2 (by omega))) (.slice (some ⟨g', 0, none⟩) (0 + 1) cap') (show w.heap.size ≠ w.heap.size + 1 by omega)
        have bL3 := boxed_far ((bL2.alloc _).kept hgrow (own_ne r2 (by omega))) (.slice (some ⟨g', 0, none⟩) (0 + 1) cap') (show w.heap.size + 1 + 1 ≠ w.heap.size + 1 by omega)
        have hBel := (((hb1.mono hB.size).setCell (p := ⟨w.heap.size + 1, 0, none⟩) (by show w.heap.size ≤ w.heap.size + 1; omega) _).setCell (p := ⟨w.heap.size + 1 + 1, 0, none⟩) (by show w.heap.size ≤ w.heap.size + 1 + 1; omega) _).trans hb2
        exact ⟨(((keeps_below hb1).trans (KeepsOthers.setCell _ _ _)).trans (KeepsOthers.setCell _ _ _)).trans hk2, fun hh => hh.below hBel hlo, ⟨⟨_, hv2, by rw [HA]; simpa [ivs, toI] using hr2, by rw [HA]; simp⟩, ⟨bM3, by rw [HM2]; exact bL3, hcs.below hBel hlo⟩, hB.trans hBel, Nat.le_trans hN hBel.size⟩⟩
      · have hdm : decide (m < M) = false := decide_eq_false hlt
        have hnor : ¬ (A = [] ∨ m < M) := fun h => h.elim hA hlt
        by_cases he : m = M
        · have hde : (m == M) = true := by simpa using he
          have HA : lA μ (pre ++ [x]) = A ++ [x.val] := by show (lmn _ _).1 = _; rw [HNX.out, HLS.out, if_neg hnor, if_pos he]
          have HM2 : lM μ (pre ++ [x]) = M := by show (lmn _ _).2 = _; rw [HNX.out, HLS.out, if_neg hnor, if_pos he]
          gi_wp2
          refine ⟨trivial, ?_⟩
          gi_at_call 78
          refine (CallsIn.inRound l0 (callsIn_wide.2 (HMx.out _ hcs))).mono ?_
          rintro e W1 ⟨rfl, hb1⟩
          have bO1 := hv.kept (grown_none hb1) (by simp)
          have bL1 := hLb.kept (grown_none hb1) (by simp)
          have bM1 := hM.kept (grown_none hb1) (by simp)
          have hN1 : w.heap.size + 1 + 1 + 1 ≤ W1.heap.size := Nat.le_trans hN hb1.size
          have o1 := bO1.cell
          have o2 := bO1.frozen
          have l1 := bL1.cell
          have l2 := bL1.frozen
          have r1 := own_none hrow hb1
          gi_wp2_with (gi_at_builtin; refine wpListIn_append_own _ rfl _ _ 23 rfl (w.heap.size + 1 + 1 + 1) 3 i0 (.int .i64 0) 1 8 Tryd.underlying23 hi hz0 hz1 hz2 rfl (by decide) _ _ _ rfl (r1.alloc _) ⟨W1.heap.size, 0, none⟩ 1 1 [.int .i64 ((x.val : Nat) : Int)] rfl rfl (by have h9 := cell_one_new (W1) (.int .i64 ((x.val : Nat) : Int)) 3; have h8 : (W1).heap.size = W1.heap.size := (by first | rfl | simp); rw [h8] at h9; exact h9) (by simp [Value.oneCell']) (by unfold maxLen; omega) (by omega) (by first | omega | (simp; omega)) ?_; intro v' w1 hown' hgrow _; obtain ⟨g', cap', rfl⟩ := ownsRow_succ hown'; obtain ⟨hv1, hv2, hr2, hk2, hb2⟩ := appended2 (N := w.heap.size) bO1 (by decide) r1 (by omega) (by first | omega | (simp; omega)) (by omega) hown' hgrow; have hc1 := hv1.cell; have hf1 := hv1.frozen)
          have bM3 := boxed_far ((bM1.alloc _).kept hgrow (own_ne r1 (by omega))) (.slice (some ⟨g', 0, none⟩) (k + 1 + 1) cap') (show w.heap.size ≠ w.heap.size + 1 by omega)
          have bL3 := boxed_far ((bL1.alloc _).kept hgrow (own_ne r1 (by omega))) (.slice (some ⟨g', 0, none⟩) (k + 1 + 1) cap') (show w.heap.size + 1 + 1 ≠ w.heap.size + 1 by omega)
          have hBel := (hb1.mono hB.size).trans hb2
          exact ⟨(keeps_below hb1).trans hk2, fun hh => hh.below hBel hlo, ⟨⟨_, hv2, by rw [HA]; simpa [ivs, toI, hk] using hr2, by rw [HA]; simp⟩, ⟨bM3, by rw [HM2]; exact bL3, hcs.below hBel hlo⟩, hB.trans hBel, Nat.le_trans hN hBel.size⟩⟩
        · have hde : (m == M) = false := by simpa using he
          have HA : lA μ (pre ++ [x]) = A := by show (lmn _ _).1 = _; rw [HNX.out, HLS.out, if_neg hnor, if_neg he]
          have HM2 : lM μ (pre ++ [x]) = M := by show (lmn _ _).2 = _; rw [HNX.out, HLS.out, if_neg hnor, if_neg he]
          gi_wp2
          refine ⟨trivial, ?_⟩
          gi_at_call 78
          refine (CallsIn.inRound l0 (callsIn_wide.2 (HMx.out _ hcs))).mono ?_
          rintro e W1 ⟨rfl, hb1⟩
          have bO1 := hv.kept (grown_none hb1) (by simp)
          have bL1 := hLb.kept (grown_none hb1) (by simp)
          have bM1 := hM.kept (grown_none hb1) (by simp)
          have hN1 : w.heap.size + 1 + 1 + 1 ≤ W1.heap.size := Nat.le_trans hN hb1.size
          have o1 := bO1.cell
          have o2 := bO1.frozen
          have l1 := bL1.cell
          have l2 := bL1.frozen
          have r1 := own_none hrow hb1
          gi_wp2
          exact ⟨keeps_below hb1, fun hh => hh.next hb1, ⟨⟨_, bO1, by rw [HA, hk]; exact r1, by rw [HA]; simp [hA]⟩, ⟨bM1, by rw [HM2]; exact bL1, hcs.next hb1⟩, hB.trans (hb1.mono hB.size), hN1⟩⟩
  case done =>
    rintro D ys W hD rfl ⟨⟨v, hv, hrow, hnil⟩, ⟨hM, hLb, hcs⟩, hB, hN⟩ hK
    have hc := hv.cell
    gi_wp2
    refine ⟨by simp, .inl ⟨_, _, rfl, run_takeDeferred hK, ?_⟩⟩
    refine ⟨_, results_tmp rfl _ _ _, ?_⟩
    refine RetInts.of ?_ (hB.trans (belowK_b (w := w) (Nat.le_refl _) W D _ _ (by simp at hD; omega) hK rfl rfl))
    show World.ownsRow _ _ _ 1 v (toI _).length _
    rw [toI_length]
    exact own_mono (ownsRow_putObj hrow _ hK rfl) (by omega)
  case stop =>
    rintro D c pre W _ _ h _
    exact h.elim

end Go.Proofs.YtiocaopabkbgpaaDoor

namespace Go.Proofs.YtiocaopabkbgpaaDoor
open Go.RowKit

/-- the greatest and the least of the first k numbers, -1 for none -/
def gTo (xs : List Int) : Nat → Int
  | 0 => -1
  | k + 1 => if gTo xs k < xs.getD k 0 then xs.getD k 0 else gTo xs k
def sTo (xs : List Int) : Nat → Int
  | 0 => -1
  | k + 1 => if sTo xs k < 0 ∨ xs.getD k 0 < sTo xs k then xs.getD k 0 else sTo xs k
def natural (xs : List Int) : Prop := ∀ k, k < xs.length → 0 ≤ xs.getD k 0
theorem gTo_step (xs : List Int) (k : Nat) : gTo xs (k + 1) = if gTo xs k < xs.getD k 0 then xs.getD k 0 else gTo xs k := rfl
theorem sTo_step (xs : List Int) (k : Nat) : sTo xs (k + 1) = if sTo xs k < 0 ∨ xs.getD k 0 < sTo xs k then xs.getD k 0 else sTo xs k := rfl
theorem gTo_bd {xs : List Int} (h : natural xs) (k : Nat) (hk : k < xs.length) : 0 ≤ gTo xs (k + 1) := by
  have h1 := h k hk
  rw [gTo_step]
  by_cases hc : gTo xs k < xs.getD k 0
  · rw [if_pos hc]; exact h1
  · rw [if_neg hc]; omega
theorem gTo_one {xs : List Int} (h : natural xs) (h0 : 0 < xs.length) : gTo xs 1 = xs.getD 0 0 := by
  have h1 := h 0 h0
  have e : gTo xs 0 = -1 := rfl
  rw [gTo_step, if_pos (by omega)]
theorem sTo_bd {xs : List Int} (h : natural xs) (k : Nat) (hk : k < xs.length) : 0 ≤ sTo xs (k + 1) := by
  have h1 := h k hk
  rw [sTo_step]
  by_cases hc : sTo xs k < 0 ∨ xs.getD k 0 < sTo xs k
  · rw [if_pos hc]; exact h1
  · rw [if_neg hc]; omega
theorem sTo_one (xs : List Int) : sTo xs 1 = xs.getD 0 0 := by
  have e : sTo xs 0 = -1 := rfl
  rw [sTo_step, if_pos (.inl (by omega))]




set_option maxHeartbeats 800000 in
theorem specSmallest (v : Value) (xs : List Int) (w : World) (h : Rd w v xs) :
    Calls Tryd.prog 80 #[v] w fun e w' => e = .returned (.int .i64 (sTo xs xs.length)) ∧ w = w' := by
  obtain ⟨a, b, off, cap, rfl, h1, h3, h5⟩ := h
  have H5 := Lib.hid h5
  have H1 := Lib.hid h1
  clear h5 h1
  go_enter Tryd.func80, Tryd.ntmps80
  go_wp2
  go_loop [3, 4] (fun m i => ∃ k : Nat, k ≤ xs.length ∧ i = .int .i64 k ∧ m = .int .i64 (sTo xs k)) (fun _ i => xs.length - (intOf i).toNat)
  case atStart => exact ⟨0, by omega, rfl, rfl⟩
  case round =>
    obtain ⟨k, hk, rfl, rfl⟩ := hrel
    by_cases hlt : k < xs.length
    · obtain ⟨rfl, _⟩ := H1.out (by omega)
      have hc := H5.out k hlt
      have HS := Lib.hid (sTo_step xs k)
      generalize xs.getD k 0 = x at *
      generalize sTo xs k = g at *
      by_cases hg : g < 0
      · have HE := Lib.hid (HS.out.trans (if_pos (.inl hg)))
        go_wp2
        go_round
        case rel => exact ⟨k + 1, by omega, by go_num, by rw [HE.out]⟩
        case measure => simp [intOf]; omega
      · by_cases hx : x < g
        · have HE := Lib.hid (HS.out.trans (if_pos (.inr hx)))
          go_wp2
          go_round
          case rel => exact ⟨k + 1, by omega, by go_num, by rw [HE.out]⟩
          case measure => simp [intOf]; omega
        · have HE := Lib.hid (HS.out.trans (if_neg (fun h => h.elim hg hx)))
          go_wp2
          go_round
          case rel => exact ⟨k + 1, by omega, by go_num, by rw [HE.out]⟩
          case measure => simp [intOf]; omega
    · obtain rfl : k = xs.length := by omega
      go_wp2
      go_ret
      exact ⟨rfl, rfl⟩

end Go.Proofs.YtiocaopabkbgpaaDoor

namespace Go.Proofs.YtiocaopabkbgpaaDoor

/-- the first one of the least measure -/
def fstS (μ : Nat → Int) (ns : List Nat) : Nat := (lmn μ ns).1.getD 0 0
/-- and this -/
def fstM (μ : Nat → Int) (ns : List Nat) : Int := μ (fstS μ ns)

theorem filter_first : ∀ (ns : List Nat) (p : Nat → Bool) (j : Nat), j < ns.length → p (ns.getD j 0) = true → (∀ i, i < j → p (ns.getD i 0) = false) → (ns.filter p).getD 0 0 = ns.getD j 0
  | [], _, j, h, _, _ => by simp at h
  | x :: ns, p, 0, _, h, _ => by
    have h : p x = true := h
    rw [List.filter_cons_of_pos h]; rfl
  | x :: ns, p, j + 1, hj, h, hn => by
    have h0 : ¬ p x = true := by
      have h0 : p x = false := hn 0 (by omega)
      simp [h0]
    rw [List.filter_cons_of_neg h0]
    exact filter_first ns p j (by simpa using hj) h (fun i hi => hn (i + 1) (by omega))

theorem first_at : ∀ (xs : List Int) (n : Int), n ∈ xs → ∃ j, j < xs.length ∧ xs.getD j 0 = n ∧ ∀ i, i < j → xs.getD i 0 ≠ n
  | [], _, h => by cases h
  | x :: xs, n, h => by
    by_cases e : x = n
    · exact ⟨0, by simp, e, fun i hi => by omega⟩
    · rcases List.mem_cons.1 h with h | h
      · exact absurd h.symm e
      · obtain ⟨j, h1, h2, h3⟩ := first_at xs n h
        refine ⟨j + 1, by simpa using h1, h2, fun i hi => ?_⟩
        cases i with
        | zero => exact e
        | succ i => exact h3 i (by omega)

theorem sTo_least {xs : List Int} (h : natural xs) : ∀ k, k < xs.length → (∃ j, j ≤ k ∧ sTo xs (k + 1) = xs.getD j 0) ∧ (∀ j, j ≤ k → sTo xs (k + 1) ≤ xs.getD j 0)
  | 0, _ => by
    rw [sTo_one]
    exact ⟨⟨0, Nat.le_refl _, rfl⟩, fun j hj => by rw [show j = 0 by omega]; exact Int.le_refl _⟩
  | k + 1, hk => by
    obtain ⟨⟨j, hj, he⟩, hle⟩ := sTo_least h k (by omega)
    have h0 := sTo_bd h k (by omega)
    rw [sTo_step]
    by_cases hc : sTo xs (k + 1) < 0 ∨ xs.getD (k + 1) 0 < sTo xs (k + 1)
    · rw [if_pos hc]
      refine ⟨⟨k + 1, Nat.le_refl _, rfl⟩, fun i hi => ?_⟩
      by_cases e : i = k + 1
      · subst e; exact Int.le_refl _
      · have := hle i (by omega)
        omega
    · rw [if_neg hc]
      refine ⟨⟨j, by omega, he⟩, fun i hi => ?_⟩
      by_cases e : i = k + 1
      · subst e; omega
      · exact hle i (by omega)

theorem mapI_getD (μ : Nat → Int) (ns : List Nat) (j : Nat) (hj : j < ns.length) : (ns.map μ).getD j 0 = μ (ns.getD j 0) := by
  simp [List.getD, List.getElem?_map, List.getElem?_eq_getElem hj]
theorem map_natural {μ : Nat → Int} (h : ∀ v, 0 ≤ μ v) (ns : List Nat) : natural (ns.map μ) := fun k hk => by
  rw [mapI_getD μ ns k (by simpa using hk)]
  exact h _

/-- where the first one of the least measure lies, and what the model takes the least for -/
theorem fst_idx {μ : Nat → Int} {ns : List Nat} (hμ : ∀ v, 0 ≤ μ v) (h : ns ≠ []) :
    fstM μ ns = sTo (ns.map μ) ns.length ∧ (∀ v ∈ ns, fstM μ ns ≤ μ v) ∧ fstS μ ns ∈ ns ∧
      ∃ j, j < ns.length ∧ fstS μ ns = ns.getD j 0 ∧ (ns.map μ).getD j 0 = fstM μ ns ∧ ∀ i, i < j → (ns.map μ).getD i 0 ≠ fstM μ ns := by
  have hl : 0 < ns.length := List.length_pos_iff.2 h
  obtain ⟨⟨j0, hj0, he0⟩, hle⟩ := sTo_least (map_natural hμ ns) (ns.length - 1) (by rw [List.length_map]; omega)
  rw [show ns.length - 1 + 1 = ns.length by omega] at he0 hle
  have hin : sTo (ns.map μ) ns.length ∈ ns.map μ := by
    rw [he0, List.getD_eq_getElem?_getD, List.getElem?_eq_getElem (by rw [List.length_map]; omega)]
    exact List.getElem_mem _
  obtain ⟨j, hj, hje, hjn⟩ := first_at _ _ hin
  rw [List.length_map] at hj
  rcases lmn_good μ ns with ⟨e, _⟩ | ⟨hne, hf, hmin⟩
  · exact absurd e h
  · -- both leasts are the same
    obtain ⟨u, hu⟩ := List.exists_mem_of_ne_nil _ hne
    rw [hf] at hu
    obtain ⟨hu1, hu2⟩ := List.mem_filter.1 hu
    have hu2 : μ u = (lmn μ ns).2 := by simpa using hu2
    have hall : ∀ v ∈ ns, sTo (ns.map μ) ns.length ≤ μ v := by
      intro v hv
      obtain ⟨i, hi, e⟩ := List.getElem_of_mem hv
      have := hle i (by omega)
      rw [mapI_getD μ ns i hi, List.getD_eq_getElem?_getD, List.getElem?_eq_getElem hi] at this
      simpa [e] using this
    obtain ⟨v, hv, hve⟩ := List.mem_map.1 hin
    have h1 := hall u hu1
    have h2 := hmin v hv
    have hE : (lmn μ ns).2 = sTo (ns.map μ) ns.length := by omega
    have hS : fstS μ ns = ns.getD j 0 := by
      unfold fstS
      rw [hf, hE]
      refine filter_first ns _ j hj ?_ (fun i hi => ?_)
      · rw [mapI_getD μ ns j hj] at hje
        simpa using hje
      · have := hjn i hi
        rw [mapI_getD μ ns i (by omega)] at this
        simpa using this
    have hM : fstM μ ns = sTo (ns.map μ) ns.length := by
      unfold fstM
      rw [hS, ← mapI_getD μ ns j hj]
      exact hje
    refine ⟨hM, fun v hv => by rw [hM]; exact hall v hv, by rw [hS]; exact getD_of_lt hj, j, hj, hS, by rw [hM]; exact hje, fun i hi => by rw [hM]; exact hjn i hi⟩

/-- at how many points two sets differ -/
def dis (s t : Nat) : Int := ((pc (t ^^^ s) : Nat) : Int)
theorem dis_nat (s t : Nat) : 0 ≤ dis s t := Int.natCast_nonneg _
theorem dis_le {m s t : Nat} (hm : m ≤ 5) (hs : s < 2 ^ m) (ht : t < 2 ^ m) : dis s t ≤ m := by
  have := pc_le m (t ^^^ s) hm (Nat.xor_lt_two_pow ht hs)
  unfold dis
  omega

/-- are there sets, and is s a set of points of the class? -/
def nrK (n : Int) (zs : List Int) (s : Int) : Bool := (vldB n zs && setB n.toNat s) && decide (zs ≠ [])
/-- the nearest set, and how far it is -/
def nrS (n : Int) (zs : List Int) (s : Int) : Int := if nrK n zs s = true then (fstS (dis s.toNat) (zs.map Int.toNat) : Nat) else 0
def nrD (n : Int) (zs : List Int) (s : Int) : Int := if nrK n zs s = true then fstM (dis s.toNat) (zs.map Int.toNat) else 0
theorem nrK_bad {n : Int} {zs : List Int} {s : Int} (h : vldB n zs = false) : nrK n zs s = false := by simp [nrK, h]
theorem nrK_out {n : Nat} {zs : List Int} {s : Int} (h : setB n s = false) : nrK n zs s = false := by simp [nrK, h]
theorem nrK_nil {n : Int} {s : Int} : nrK n [] s = false := by simp [nrK]
theorem nrS_no {n : Int} {zs : List Int} {s : Int} (h : nrK n zs s = false) : nrS n zs s = 0 := by simp [nrS, h]
theorem nrD_no {n : Int} {zs : List Int} {s : Int} (h : nrK n zs s = false) : nrD n zs s = 0 := by simp [nrD, h]
theorem toI_ne {ns : List Nat} (h : ns ≠ []) : toI ns ≠ [] := by
  intro e
  apply h
  exact List.map_eq_nil_iff.1 e
theorem nrK_in {m s : Nat} {ns : List Nat} (h : vldB m (toI ns) = true) (hs : setB m s = true) (hne : ns ≠ []) : nrK m (toI ns) s = true := by
  rw [nrK, h, Int.toNat_natCast, hs, decide_eq_true (toI_ne hne)]; rfl
theorem nrS_in {m s : Nat} {ns : List Nat} (h : nrK m (toI ns) s = true) : nrS m (toI ns) s = ((fstS (dis s) ns : Nat) : Int) := by
  simp [nrS, h, toNat_toI]
theorem nrD_in {m s : Nat} {ns : List Nat} (h : nrK m (toI ns) s = true) : nrD m (toI ns) s = fstM (dis s) ns := by
  simp [nrD, h, toNat_toI]

/-- the greatest distance from the first sets, -1 for none -/
def cvTo (ns : List Nat) : Nat → Int
  | 0 => -1
  | s + 1 => if cvTo ns s < fstM (dis s) ns then fstM (dis s) ns else cvTo ns s
/-- CoverRadius -/
def cvB (n : Int) (zs : List Int) : Int := if vldB n zs = true ∧ zs ≠ [] then cvTo (zs.map Int.toNat) (2 ^ n.toNat) else -1
theorem cvB_bad {n : Int} {zs : List Int} (h : vldB n zs = false) : cvB n zs = -1 := by simp [cvB, h]
theorem cvB_nil {n : Int} : cvB n [] = -1 := by simp [cvB]
theorem cvB_in {m : Nat} {ns : List Nat} (h : vldB m (toI ns) = true) (hne : ns ≠ []) : cvB m (toI ns) = cvTo ns (2 ^ m) := by
  rw [cvB, if_pos ⟨h, toI_ne hne⟩, toNat_toI, Int.toNat_natCast]
theorem fstM_bd {m s : Nat} {ns : List Nat} (hm : m ≤ 5) (hns : ∀ t ∈ ns, t < 2 ^ m) (hs : s < 2 ^ m) (hne : ns ≠ []) : 0 ≤ fstM (dis s) ns ∧ fstM (dis s) ns ≤ m := by
  obtain ⟨_, _, h3, _⟩ := fst_idx (dis_nat s) hne
  exact ⟨dis_nat _ _, dis_le hm hs (hns _ h3)⟩
theorem cvTo_bd {m : Nat} {ns : List Nat} (hm : m ≤ 5) (hns : ∀ t ∈ ns, t < 2 ^ m) (hne : ns ≠ []) : ∀ s, s ≤ 2 ^ m → -1 ≤ cvTo ns s ∧ cvTo ns s ≤ m
  | 0, _ => ⟨Int.le_refl _, by show (-1 : Int) ≤ m; omega⟩
  | s + 1, h => by
    have h1 := cvTo_bd hm hns hne s (by omega)
    have h2 := fstM_bd hm hns (show s < 2 ^ m by omega) hne
    rw [cvTo]
    split <;> omega

/-- how well the first sets are fitted, together -/
def nsTo (m : Nat) (ns : List Nat) : Nat → Int
  | 0 => 0
  | s + 1 => nsTo m ns s + (m - 2 * fstM (dis s) ns)
/-- NoiseSum -/
def nsB (n : Int) (zs : List Int) : Int := if vldB n zs = true ∧ zs ≠ [] then nsTo n.toNat (zs.map Int.toNat) (2 ^ n.toNat) else 0
theorem nsB_bad {n : Int} {zs : List Int} (h : vldB n zs = false) : nsB n zs = 0 := by simp [nsB, h]
theorem nsB_nil {n : Int} : nsB n [] = 0 := by simp [nsB]
theorem nsB_in {m : Nat} {ns : List Nat} (h : vldB m (toI ns) = true) (hne : ns ≠ []) : nsB m (toI ns) = nsTo m ns (2 ^ m) := by
  rw [nsB, if_pos ⟨h, toI_ne hne⟩, toNat_toI, Int.toNat_natCast]
theorem nsTo_bd {m : Nat} {ns : List Nat} (hm : m ≤ 5) (hns : ∀ t ∈ ns, t < 2 ^ m) (hne : ns ≠ []) (s : Nat) (hs : s ≤ 2 ^ m) : -(5 * (s : Int)) ≤ nsTo m ns s ∧ nsTo m ns s ≤ 5 * (s : Int) := by
  induction s with
  | zero => exact ⟨Int.le_refl _, Int.le_refl _⟩
  | succ s ih =>
    have h1 := ih (by omega)
    have h2 := fstM_bd hm hns (show s < 2 ^ m by omega) hne
    rw [nsTo]
    omega

/-- the greatest number of points at which one of the first sets is the same as s, less those at which they differ -/
def bsTo (m : Nat) (s : Nat) (ns : List Nat) : Nat → Int
  | 0 => -(m : Int)
  | k + 1 => if bsTo m s ns k < (m : Int) - 2 * dis s (ns.getD k 0) then (m : Int) - 2 * dis s (ns.getD k 0) else bsTo m s ns k
theorem bsTo_spec (m s : Nat) (ns : List Nat) : ∀ k, -(m : Int) ≤ bsTo m s ns k ∧ (∀ j, j < k → (m : Int) - 2 * dis s (ns.getD j 0) ≤ bsTo m s ns k) ∧ (bsTo m s ns k = -(m : Int) ∨ ∃ j, j < k ∧ bsTo m s ns k = (m : Int) - 2 * dis s (ns.getD j 0))
  | 0 => ⟨Int.le_refl _, fun j hj => by omega, .inl rfl⟩
  | k + 1 => by
    obtain ⟨h1, h2, h3⟩ := bsTo_spec m s ns k
    rw [bsTo]
    split
    · rename_i hc
      refine ⟨by omega, fun j hj => ?_, .inr ⟨k, by omega, rfl⟩⟩
      by_cases e : j = k
      · subst e; exact Int.le_refl _
      · have := h2 j (by omega); omega
    · rename_i hc
      refine ⟨h1, fun j hj => ?_, ?_⟩
      · by_cases e : j = k
        · subst e; omega
        · exact h2 j (by omega)
      · rcases h3 with h3 | ⟨j, hj, h3⟩
        · exact .inl h3
        · exact .inr ⟨j, by omega, h3⟩
theorem bsTo_all {m s : Nat} {ns : List Nat} (hm : m ≤ 5) (hns : ∀ t ∈ ns, t < 2 ^ m) (hs : s < 2 ^ m) (hne : ns ≠ []) : bsTo m s ns ns.length = (m : Int) - 2 * fstM (dis s) ns := by
  obtain ⟨h1, h2, h3⟩ := bsTo_spec m s ns ns.length
  obtain ⟨_, g2, g3, j, g4, g5, g6, _⟩ := fst_idx (dis_nat s) hne
  have hb := fstM_bd hm hns hs hne
  have k1 := h2 j g4
  rw [← mapI_getD (dis s) ns j g4, g6] at k1
  rcases h3 with h3 | ⟨i, hi, h3⟩
  · omega
  · have := g2 _ (getD_of_lt hi)
    omega
theorem bsTo_bd {m s : Nat} {ns : List Nat} (hm : m ≤ 5) (k : Nat) : -5 ≤ bsTo m s ns k ∧ bsTo m s ns k ≤ 5 := by
  obtain ⟨h1, _, h3⟩ := bsTo_spec m s ns k
  rcases h3 with h3 | ⟨i, hi, h3⟩
  · omega
  · have := dis_nat s (ns.getD i 0)
    omega

end Go.Proofs.YtiocaopabkbgpaaDoor

namespace Go.Proofs.YtiocaopabkbgpaaDoor
open Go.RowKit Go.Shelf

set_option maxRecDepth 100000 in
set_option maxHeartbeats 3200000 in
theorem implFirstB (mo : Nat) (μ : Nat → Int) (v : Value) (ns : List Nat) (csm : List (Addr × Value)) (w : World) (h : Rd w v (toI ns)) (h32 : ∀ t ∈ ns, t < 32) (hl : ns.length ≤ 32) (hcs : CS csm w)
    (HM : Hid (∀ (x : Fin 32) (W : World), CS csm W → Calls Tryd.prog 78 #[.int .i64 ((x.val : Nat) : Int), .pointer (some ⟨mo, 0, none⟩)] W fun e w' => e = .returned (.int .i64 (μ x.val)) ∧ Below W.heap.size W w')) :
    Calls Tryd.prog 77 #[v, (.func (.func 78) #[] #[.pointer (some ⟨mo, 0, none⟩)])] w fun e w' => e = .returned (.tuple #[.int .i64 (if ns = [] then 0 else ((fstS μ ns : Nat) : Int)), .int .i64 (if ns = [] then 0 else fstM μ ns), .bool (decide (ns ≠ []))]) ∧ Below w.heap.size w w' := by
  obtain ⟨a, b, off, cap, rfl, h1, h3, h5⟩ := h
  rw [toI_length] at *
  have hb0 : Below w.heap.size w (w.alloc (.cells #[.slice a ns.length cap] 23)) := (Below.refl _ w).alloc (Nat.le_refl _) _
  have c0 := (cell_new_l w (.slice a ns.length cap) 23).1
  have hcs1 : CS (csV w.heap.size (.slice a ns.length cap) b off ns ++ csm) (w.alloc (.cells #[.slice a ns.length cap] 23)) := fun p hp => by
    rcases List.mem_append.1 hp with h | h
    · rcases List.mem_cons.1 h with rfl | h
      · exact c0
      · obtain ⟨j, hj, rfl⟩ := List.mem_map.1 h
        have hj := List.mem_range.1 hj
        refine (hb0.cell (p := ⟨b, off + j, none⟩) (h1 (by omega)).2).trans ?_
        have := h5 j hj
        rw [toI_getD] at this
        exact this
    · exact (hcs.next hb0) p h
  have HL := Lib.hid (implLeastB mo μ 117 #[.pointer (some ⟨w.heap.size, 0, none⟩)] (csV w.heap.size (.slice a ns.length cap) b off ns ++ csm) (f32 ns) (by rw [f32_len]; exact hl) _
    (enters_of Tryd.func117 (by kernel_rfl) rfl)
    (fun n w0 hn h0 => valStops n hn w.heap.size a b off cap ns h32 hl (fun h => (h1 h).1) _ (fun p hp => List.mem_append_left _ hp) w0 h0)
    (Lib.hid (fun x W h0 => HM.out x W (fun p hp => h0 p (List.mem_append_right _ hp)))) hcs1)
  rw [f32_val h32] at HL
  have HV := Lib.hid (implValues a ns.length cap w)
  by_cases hn : ns = []
  · subst hn
    rw [if_pos rfl, if_pos rfl, show decide (([] : List Nat) ≠ []) = false by simp]
    rw [lmn_nil, show toI [] = [] from rfl] at HL
    have HL2 := Lib.hid HL.out
    clear HL h5 h3 h1 c0 hcs1 hl
    go_enter Tryd.func77, Tryd.ntmps77
    go_wp2_with fail
    refine HV.out.mono ?_
    rintro e w1 ⟨rfl, rfl⟩
    go_wp2_with fail
    refine HL2.out.mono ?_
    rintro e w2 ⟨a2, k2, rfl, hin, hb⟩
    have HB := Lib.hid (hb0.trans (hb.mono hb0.size))
    clear hin hb
    rw [show ([] : List Int).length = 0 from rfl]
    go_wp2_with fail
    refine bodyPost_ret (v := .tuple #[.int .i64 0, .int .i64 0, .bool false]) (by simp [results, Tryd.results77, go_sem]) rfl ?_
    exact ⟨rfl, HB.out⟩
  · rw [if_neg hn, if_neg hn, show decide (ns ≠ []) = true from decide_eq_true hn]
    have hne := lmn_ne (μ := μ) hn
    have HX := Lib.hid (show fstS μ ns = (lmn μ ns).1.getD 0 0 from rfl)
    have HMx := Lib.hid (show fstM μ ns = μ (fstS μ ns) from rfl)
    have hx32 : fstS μ ns < 32 := h32 _ (lmn_sub (getD_of_lt (List.length_pos_iff.2 hne)))
    have HQ := Lib.hid (fun W h0 => HM.out ⟨fstS μ ns, hx32⟩ W h0)
    rw [HMx.out]
    dsimp only at HQ
    have HCS := Lib.hid (hcs.next hb0)
    have HLn := Lib.hid (toI_length (lmn μ ns).1)
    generalize (lmn μ ns).1 = A at *
    obtain ⟨k, hk⟩ : ∃ k, A.length = k + 1 := ⟨A.length - 1, by have := List.length_pos_iff.2 hne; omega⟩
    have hd1 : ((k : Int) + 1 == 0) = false := by simp; omega
    have hd2 : ¬ (k : Int) + 1 = 0 := by omega
    have hd3 : (0 : Int) < (k : Int) + 1 := by omega
    rw [hk] at HLn
    clear hne hk hn h5 h3 h1 c0 hcs1 hl hcs HMx HM
    generalize fstS μ ns = x at *
    generalize μ x = mx at *
    go_enter Tryd.func77, Tryd.ntmps77
    go_wp2_with fail
    refine HV.out.mono ?_
    rintro e w1 ⟨rfl, rfl⟩
    go_wp2_with fail
    refine HL.out.mono ?_
    rintro e w2 ⟨a2, k2, rfl, hin, hb⟩
    have HB := Lib.hid (hb0.trans (hb.mono hb0.size))
    have HC2 := Lib.hid (HCS.out.next hb)
    rw [HLn.out] at hin ⊢
    obtain ⟨ar, br, offr, capr, er, g1, g3, g5⟩ := hin.rd
    simp only [Value.slice.injEq] at er
    obtain ⟨rfl, -, rfl⟩ := er
    rw [HLn.out] at g1 g5
    obtain ⟨rfl, hgl⟩ := g1 (by omega)
    have hc := g5 0 (by omega)
    rw [toI_getD, Nat.add_zero, ← HX.out] at hc
    clear hin hb g1 g5 g3 HX
    go_wp2_with fail
    go_region_held3 (fun w' => w'.cell? ⟨br, offr, none⟩ = some (.int .i64 (x : Int))) (first | exact hc | exact hc9 | go_keep) (first | (go_at_call 78; refine (HQ.out _ (by first | exact HC2.out | exact (fun p hp => HC2.out p hp))).mono ?_; rintro e w4 ⟨rfl, hb4⟩; have B4 := Lib.hid (show Below w2.heap.size w2 w4 from Below.trans (by first | exact Below.refl _ _ | exact (Below.refl _ _).drew) hb4); have hc9 := (B4.out.cell (p := ⟨br, offr, none⟩) hgl).trans hc; clear hb4))
    have HBW := Lib.hid (HB.out.trans (B4.out.mono HB.out.size))
    clear hc
    go_wp2_with fail
    refine bodyPost_ret (v := .tuple #[.int .i64 (x : Int), .int .i64 mx, .bool true]) (by simp [results, Tryd.results77, go_sem]) rfl ?_
    exact ⟨rfl, HBW.out⟩

end Go.Proofs.YtiocaopabkbgpaaDoor

namespace Go.Proofs.YtiocaopabkbgpaaDoor
open Go.RowKit

set_option maxHeartbeats 800000 in
theorem specIndexInt (v : Value) (xs : List Int) (x : Int) (j : Nat) (w : World) (h : Rd w v xs) (hj : j < xs.length) (hx : xs.getD j 0 = x) (hn : ∀ i, i < j → xs.getD i 0 ≠ x) :
    Calls Tryd.prog 81 #[v, .int .i64 x] w fun e w' => e = .returned (.int .i64 (j : Int)) ∧ w = w' := by
  obtain ⟨a, b, off, cap, rfl, h1, h3, h5⟩ := h
  have H5 := Lib.hid h5
  have HX := Lib.hid hx
  have HN := Lib.hid hn
  obtain ⟨rfl, _⟩ := h1 (by omega)
  clear h5 h1 hx hn
  go_enter Tryd.func81, Tryd.ntmps81
  go_wp2
  go_loop [5] (fun i => ∃ k : Nat, k ≤ j ∧ i = .int .i64 k) (fun i => xs.length - (intOf i).toNat)
  case atStart => exact ⟨0, by omega, rfl⟩
  case round =>
    obtain ⟨k, hk, rfl⟩ := hrel
    have hlt : k < xs.length := by omega
    have hc := H5.out k hlt
    by_cases he : k = j
    · have HK := Lib.hid he
      have he2 : xs.getD k 0 = x := by rw [he]; exact HX.out
      rw [he2] at hc
      clear he he2
      go_wp2
      go_ret
      exact ⟨ret_int (by rw [HK.out]), rfl⟩
    · have hne := HN.out k (by omega)
      generalize xs.getD k 0 = y at *
      have hd : (y == x) = false := by simpa using hne
      go_wp2
      go_round
      case rel => exact ⟨k + 1, by omega, by go_num⟩
      case measure => simp [intOf]; omega

end Go.Proofs.YtiocaopabkbgpaaDoor
