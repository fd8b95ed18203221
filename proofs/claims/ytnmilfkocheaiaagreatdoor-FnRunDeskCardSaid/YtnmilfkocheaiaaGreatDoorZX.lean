/- The least ones of a list: mathematics. No conditions. The least ones of a list, and the first smallest set that teaches: mathematics. No conditions. The sets of points that teach a set, one after the other: teachings and its iterator. Conditions: the table setsWith is laid. What the walks of leastOf need: blocks that are kept, rows of their own. No conditions. leastOf at ints, with the measure sizeOf: all values of the least measure, in order. Conditions: the iterator gives small numbers. FirstTeaching and TeachingNumber, the program's. Conditions: Sets is a slice of ints; the table setsWith is laid. FirstTeaching and TeachingNumber, the model's. Conditions: Sets is a slice of ints. TeachingNumbers, the program's and the model's. Conditions: Sets is a slice of ints; the table setsWith is laid. The greatest and the least of numbers, the program's (slices.Max, slices.Min) and the model's. Conditions: a slice of ints. -/
import Derived.Maps.AppendAt
import Derived.RangeFuncBox
import Derived.Test.YtnmilfkocheaiaaGreatDoorZA
import Derived.Test.YtnmilfkocheaiaaGreatDoorZC
import Derived.Test.YtnmilfkocheaiaaGreatDoorZW
namespace Go.Proofs.YtnmilfkocheaiaaGreatDoor

/-- one more value: the list of the least so far, and their measure -/
def lstep (μ : Nat → Int) (a : List Nat × Int) (v : Nat) : List Nat × Int :=
  if a.1 = [] ∨ μ v < a.2 then ([v], μ v) else if μ v = a.2 then (a.1 ++ [v], a.2) else a
def lmn (μ : Nat → Int) (xs : List Nat) : List Nat × Int := xs.foldl (lstep μ) ([], 0)
theorem lmn_nil (μ : Nat → Int) : lmn μ [] = ([], 0) := rfl
theorem lmn_snoc (μ : Nat → Int) (xs : List Nat) (v : Nat) : lmn μ (xs ++ [v]) = lstep μ (lmn μ xs) v := by simp [lmn]
def LGood (μ : Nat → Int) (pre : List Nat) (a : List Nat × Int) : Prop :=
  (pre = [] ∧ a = ([], 0)) ∨ (a.1 ≠ [] ∧ a.1 = pre.filter (fun v => decide (μ v = a.2)) ∧ ∀ v ∈ pre, a.2 ≤ μ v)
theorem lgood_step {μ : Nat → Int} {pre : List Nat} {a : List Nat × Int} (h : LGood μ pre a) (v : Nat) : LGood μ (pre ++ [v]) (lstep μ a v) := by
  right
  rcases h with ⟨rfl, rfl⟩ | ⟨h1, h2, h3⟩
  · simp [lstep]
  · by_cases hl : μ v < a.2
    · rw [lstep, if_pos (.inr hl)]
      refine ⟨by simp, ?_, fun u hu => ?_⟩
      · show [v] = _
        rw [List.filter_append, List.filter_eq_nil_iff.2 (fun u hu => by have := h3 u hu; simp; omega)]
        simp
      · rcases List.mem_append.1 hu with hu | hu
        · have := h3 u hu
          show μ v ≤ μ u
          omega
        · rw [List.mem_singleton.1 hu]; exact Int.le_refl _
    · by_cases he : μ v = a.2
      · rw [lstep, if_neg (by rintro (e | e); exact h1 e; exact hl e), if_pos he]
        refine ⟨by simp, ?_, fun u hu => ?_⟩
        · show a.1 ++ [v] = _
          rw [List.filter_append, ← h2]
          simp [he]
        · rcases List.mem_append.1 hu with hu | hu
          · exact h3 u hu
          · rw [List.mem_singleton.1 hu]; show a.2 ≤ μ v; omega
      · rw [lstep, if_neg (by rintro (e | e); exact h1 e; exact hl e), if_neg he]
        refine ⟨h1, ?_, fun u hu => ?_⟩
        · rw [List.filter_append, ← h2]
          simp [he]
        · rcases List.mem_append.1 hu with hu | hu
          · exact h3 u hu
          · rw [List.mem_singleton.1 hu]; omega
theorem lgood_fold {μ : Nat → Int} : ∀ (xs : List Nat) (pre : List Nat) (a : List Nat × Int), LGood μ pre a → LGood μ (pre ++ xs) (xs.foldl (lstep μ) a)
  | [], pre, a, h => by simpa using h
  | x :: xs, pre, a, h => by
    have := lgood_fold xs (pre ++ [x]) (lstep μ a x) (lgood_step h x)
    simpa using this
theorem lmn_good (μ : Nat → Int) (xs : List Nat) : LGood μ xs (lmn μ xs) := by
  have := lgood_fold (μ := μ) xs [] ([], 0) (.inl ⟨rfl, rfl⟩)
  simpa [lmn] using this
theorem lmn_len (μ : Nat → Int) (xs : List Nat) : (lmn μ xs).1.length ≤ xs.length := by
  rcases lmn_good μ xs with ⟨_, h⟩ | ⟨_, h, _⟩
  · rw [h]; simp
  · rw [h]; exact List.length_filter_le _ _
theorem lmn_ne {μ : Nat → Int} {xs : List Nat} (h : xs ≠ []) : (lmn μ xs).1 ≠ [] := by
  rcases lmn_good μ xs with ⟨e, _⟩ | ⟨h, _⟩
  · exact absurd e h
  · exact h
theorem lmn_sub {μ : Nat → Int} {xs : List Nat} {v : Nat} (h : v ∈ (lmn μ xs).1) : v ∈ xs := by
  rcases lmn_good μ xs with ⟨_, e⟩ | ⟨_, e, _⟩
  · rw [e] at h; simp at h
  · rw [e] at h; exact (List.mem_filter.1 h).1

end Go.Proofs.YtnmilfkocheaiaaGreatDoor

namespace Go.Proofs.YtnmilfkocheaiaaGreatDoor
open Go.RowKit

/-- the best one so far, from b0 on -/
def bstN (p : Nat → Bool) (b0 k : Nat) : Nat := (List.range k).foldl (fun b s => if p s = true ∧ pc s < pc b then s else b) b0
theorem bstN_succ (p : Nat → Bool) (b0 k : Nat) : bstN p b0 (k + 1) = if p k = true ∧ pc k < pc (bstN p b0 k) then k else bstN p b0 k := by
  unfold bstN
  rw [List.range_succ, List.foldl_append]
  rfl
theorem bstN_spec (p : Nat → Bool) (b0 k : Nat) : (bstN p b0 k = b0 ∨ (bstN p b0 k < k ∧ p (bstN p b0 k) = true ∧ ∀ s, s < bstN p b0 k → p s = true → pc (bstN p b0 k) < pc s)) ∧ (∀ s, s < k → p s = true → pc (bstN p b0 k) ≤ pc s) := by
  induction k with
  | zero => exact ⟨.inl rfl, fun s hs => by omega⟩
  | succ k ih =>
    rw [bstN_succ]
    by_cases h : p k = true ∧ pc k < pc (bstN p b0 k)
    · rw [if_pos h]
      refine ⟨.inr ⟨by omega, h.1, fun s hs hp => ?_⟩, fun s hs hp => ?_⟩
      · have := ih.2 s hs hp
        omega
      · by_cases e : s = k
        · rw [e]; exact Nat.le_refl _
        · have := ih.2 s (by omega) hp
          omega
    · rw [if_neg h]
      refine ⟨?_, fun s hs hp => ?_⟩
      · rcases ih.1 with e | ⟨h1, h2, h3⟩
        · exact .inl e
        · exact .inr ⟨by omega, h2, h3⟩
      · by_cases e : s = k
        · subst e
          apply Classical.byContradiction
          intro hc
          exact h ⟨hp, by omega⟩
        · exact ih.2 s (by omega) hp
theorem full_and {m u : Nat} (hm : m ≤ 5) (hu : u < 2 ^ m) : u &&& (2 ^ m - 1) = u := by
  have key : ∀ m : Fin 6, ∀ u : Fin 32, (u : Nat) < 2 ^ (m : Nat) → (u : Nat) &&& (2 ^ (m : Nat) - 1) = u := by decide +kernel
  exact key ⟨m, by omega⟩ ⟨u, Nat.lt_of_lt_of_le hu (pow_le_32 hm)⟩ hu
theorem cut_pc {m s : Nat} (hm : m ≤ 5) (hs : s < 32) : s &&& (2 ^ m - 1) < 2 ^ m ∧ pc (s &&& (2 ^ m - 1)) ≤ pc s ∧ (pc (s &&& (2 ^ m - 1)) = pc s → s &&& (2 ^ m - 1) = s) := by
  have key : ∀ m : Fin 6, ∀ s : Fin 32, (s : Nat) &&& (2 ^ (m : Nat) - 1) < 2 ^ (m : Nat) ∧ pc ((s : Nat) &&& (2 ^ (m : Nat) - 1)) ≤ pc (s : Nat) ∧ (pc ((s : Nat) &&& (2 ^ (m : Nat) - 1)) = pc (s : Nat) → (s : Nat) &&& (2 ^ (m : Nat) - 1) = s) := by decide +kernel
  exact key ⟨m, by omega⟩ ⟨s, hs⟩
theorem full_pc {m s : Nat} (hm : m ≤ 5) (hs : s < 2 ^ m) (h : s ≠ 2 ^ m - 1) : pc s < pc (2 ^ m - 1) := by
  have key : ∀ m : Fin 6, ∀ s : Fin 32, (s : Nat) < 2 ^ (m : Nat) → (s : Nat) ≠ 2 ^ (m : Nat) - 1 → pc (s : Nat) < pc (2 ^ (m : Nat) - 1) := by decide +kernel
  exact key ⟨m, by omega⟩ ⟨s, Nat.lt_of_lt_of_le hs (pow_le_32 hm)⟩ hs h
theorem agr_cut {m t s : Nat} {l : List Nat} (h : Cls m l) (ht : t ∈ l) : agr t (s &&& (2 ^ m - 1)) l = agr t s l := by
  refine List.filter_congr (fun u hu => ?_)
  have e : ∀ u, u ∈ l → u &&& (s &&& (2 ^ m - 1)) = u &&& s := fun u hu => by
    rw [← Nat.and_assoc, Nat.and_comm (u &&& s), ← Nat.and_assoc, Nat.and_comm (2 ^ m - 1), full_and h.pts (h.lt u hu)]
  rw [e u hu, e t ht]
theorem tch_full {m t : Nat} {l : List Nat} (h : Cls m l) (ht : t ∈ l) : tch t (2 ^ m - 1) l = true := by
  have e : agr t (2 ^ m - 1) l = l.filter (fun u => u == t) := by
    refine List.filter_congr (fun u hu => ?_)
    rw [full_and h.pts (h.lt u hu), full_and h.pts (h.lt t ht)]
  rw [tch, e, beq_iff_eq]
  refine asc_ext (h.asc.filter _) (List.pairwise_singleton _ _) (fun x => ?_)
  simp only [List.mem_filter, beq_iff_eq, List.mem_singleton]
  exact ⟨fun hx => hx.2, fun hx => ⟨hx ▸ ht, hx⟩⟩
/-- the sets of points that teach t -/
def tcs (t : Nat) (l : List Nat) : List Nat := flt (fun s => tch t s l)
theorem tcs_none {t : Nat} {l : List Nat} (h : ¬ t ∈ l) : tcs t l = [] := by
  rw [tcs, flt, List.filter_eq_nil_iff]
  intro s _ hs
  rw [tch_count] at hs
  simp [h] at hs
/-- the fewest points that teach t -/
def ftN (m t : Nat) (l : List Nat) : Nat := bstN (fun s => tch t s l) (2 ^ m - 1) (2 ^ m)
theorem ft_eq {m t : Nat} {l : List Nat} (h : Cls m l) (ht : t ∈ l) : (lmn (fun s => (pc s : Int)) (tcs t l)).1.getD 0 0 = ftN m t l ∧ tcs t l ≠ [] ∧ ftN m t l < 2 ^ m ∧ tch t (ftN m t l) l = true := by
  have hm := h.pts
  have hp := Nat.two_pow_pos m
  have h32 := pow_le_32 hm
  have hf := tch_full h ht
  obtain ⟨hb, hmin⟩ := bstN_spec (fun s => tch t s l) (2 ^ m - 1) (2 ^ m)
  have hbT : ftN m t l < 2 ^ m ∧ tch t (ftN m t l) l = true := by
    rcases hb with e | ⟨e1, e2, _⟩
    · rw [ftN, e]; exact ⟨by omega, hf⟩
    · exact ⟨e1, e2⟩
  have hmem : ∀ s, s ∈ tcs t l ↔ s < 32 ∧ tch t s l = true := fun s => by rw [tcs, mem_flt]
  have hne : tcs t l ≠ [] := List.ne_nil_of_mem ((hmem (2 ^ m - 1)).2 ⟨by omega, hf⟩)
  refine ⟨?_, hne, hbT⟩
  rcases lmn_good (fun s => (pc s : Int)) (tcs t l) with ⟨e, _⟩ | ⟨g1, g2, g3⟩
  · exact absurd e hne
  obtain ⟨s1, rest, es⟩ := List.exists_cons_of_ne_nil g1
  have hs1 : s1 ∈ (tcs t l).filter (fun v => decide ((pc v : Int) = (lmn (fun s => (pc s : Int)) (tcs t l)).2)) := by rw [← g2, es]; simp
  have hs1a := (hmem s1).1 (List.mem_filter.1 hs1).1
  have hs1b : (pc s1 : Int) = (lmn (fun s => (pc s : Int)) (tcs t l)).2 := by simpa using (List.mem_filter.1 hs1).2
  rw [es]
  show s1 = ftN m t l
  -- the first one lies within the points of the class
  have hc := cut_pc hm hs1a.1
  have hcT : tch t (s1 &&& (2 ^ m - 1)) l = true := by rw [tch, agr_cut h ht]; exact hs1a.2
  have hle : (lmn (fun s => (pc s : Int)) (tcs t l)).2 ≤ (pc (s1 &&& (2 ^ m - 1)) : Int) := g3 _ ((hmem (s1 &&& (2 ^ m - 1))).2 ⟨by omega, hcT⟩)
  have hs1m : s1 < 2 ^ m := by
    have := hc.2.2 (by omega)
    omega
  have hle2 : (lmn (fun s => (pc s : Int)) (tcs t l)).2 ≤ (pc (ftN m t l) : Int) := g3 _ ((hmem (ftN m t l)).2 ⟨by omega, hbT.2⟩)
  have hle3 : pc (ftN m t l) ≤ pc s1 := hmin s1 hs1m hs1a.2
  have hpe : pc s1 = pc (ftN m t l) := by omega
  -- it is the least number of its size
  have hasc : ((lmn (fun s => (pc s : Int)) (tcs t l)).1).Pairwise (· < ·) := by rw [g2]; exact (flt_asc _).filter _
  have hfm : ftN m t l ∈ (lmn (fun s => (pc s : Int)) (tcs t l)).1 := by
    rw [g2]
    exact List.mem_filter.2 ⟨(hmem _).2 ⟨by omega, hbT.2⟩, by simp; omega⟩
  rw [es] at hasc hfm
  rcases List.mem_cons.1 hfm with e | e
  · exact e.symm
  · have hlt := (List.pairwise_cons.1 hasc).1 _ e
    rcases hb with e2 | ⟨_, _, e3⟩
    · have := full_pc hm hs1m (by rw [← show ftN m t l = 2 ^ m - 1 from e2]; omega)
      rw [← show ftN m t l = 2 ^ m - 1 from e2] at this
      omega
    · have := e3 s1 hlt hs1a.2
      have h8 : pc (ftN m t l) < pc s1 := this
      omega

end Go.Proofs.YtnmilfkocheaiaaGreatDoor

namespace Go.Proofs.YtnmilfkocheaiaaGreatDoor
open Go.RowKit Go.Shelf
attribute [local go_sem] Oper.semAt_some

def swc : List (Addr × Value) := (List.range 5).map (fun x => (⟨5, x, none⟩, .int .u32 (swZ.getD x 0)))
theorem sw_cs {w : World} (h : SW w) : CS swc w := fun p hp => by
  obtain ⟨x, hx, rfl⟩ := List.mem_map.1 hp
  exact h.2 x (List.mem_range.1 hx)
theorem cs_sw {w : World} (h : CS swc w) : SW w := by
  have h2 : ∀ x, x < 5 → w.cell? ⟨5, x, none⟩ = some (.int .u32 (swZ.getD x 0)) := fun x hx => h (⟨5, x, none⟩, .int .u32 (swZ.getD x 0)) (List.mem_map.2 ⟨x, List.mem_range.2 hx, rfl⟩)
  exact ⟨World.block_lt_of_cell? w _ (h2 0 (by decide)), h2⟩

/-- those of the first k that meet a test -/
def tcR (p : Nat → Bool) : Nat → List (Fin 32)
  | 0 => []
  | k + 1 => if h : k < 32 then (if p k = true then tcR p k ++ [⟨k, h⟩] else tcR p k) else tcR p k
theorem tcR_yes {p : Nat → Bool} {k : Nat} (h : k < 32) (hp : p k = true) : tcR p (k + 1) = tcR p k ++ [⟨k, h⟩] := by rw [tcR, dif_pos h, if_pos hp]
theorem tcR_no {p : Nat → Bool} {k : Nat} (h : k < 32) (hp : ¬ p k = true) : tcR p (k + 1) = tcR p k := by rw [tcR, dif_pos h, if_neg hp]
theorem tcR_len (p : Nat → Bool) (k : Nat) : (tcR p k).length ≤ k := by
  induction k with
  | zero => exact Nat.le_refl _
  | succ k ih =>
    rw [tcR]
    split
    · split
      · rw [List.length_append, List.length_singleton]; omega
      · omega
    · omega
theorem tcR_pre (p : Nat → Bool) (k d : Nat) : tcR p k <+: tcR p (k + d) := by
  induction d with
  | zero => exact List.prefix_refl _
  | succ d ih =>
    refine List.IsPrefix.trans ih ?_
    show tcR p (k + d) <+: tcR p (k + d + 1)
    rw [tcR]
    split
    · split
      · exact List.prefix_append _ _
      · exact List.prefix_refl _
    · exact List.prefix_refl _
theorem tcR_val (p : Nat → Bool) {k : Nat} (hk : k ≤ 32) : (tcR p k).map Fin.val = (List.range k).filter p := by
  induction k with
  | zero => rfl
  | succ k ih =>
    have h : k < 32 := by omega
    rw [List.range_succ, List.filter_append, ← ih (by omega)]
    by_cases hp : p k = true
    · rw [tcR_yes h hp, List.map_append]; simp [hp]
    · rw [tcR_no h hp]; simp [hp]
theorem tcR_all (p : Nat → Bool) : (tcR p 32).map Fin.val = flt p := tcR_val p (Nat.le_refl _)

abbrev csT (bf bt : Nat) (l : List Nat) (t : Nat) : List (Addr × Value) := swc ++ [(⟨bf, 0, none⟩, .int .u32 (fm l)), (⟨bt, 0, none⟩, .int .i64 (t : Int))]

set_option maxHeartbeats 400000 in
theorem implTeachings (l : List Nat) (t : Nat) (w : World) :
    Calls Tryz.prog 155 #[.int .u32 (fm l), .int .i64 (t : Int)] w fun e w' => e = .returned (.func (.func 175) #[] #[.pointer (some ⟨w.heap.size, 0, none⟩), .pointer (some ⟨w.heap.size + 1, 0, none⟩)]) ∧ w' = (w.alloc (.cells #[.int .u32 (fm l)] 116)).alloc (.cells #[.int .i64 (t : Int)] 3) := by
  go_enter Tryz.func155, Tryz.ntmps155
  go_wp2_with fail
  go_ret
  exact ⟨by simp, rfl⟩

set_option maxRecDepth 100000 in
set_option maxHeartbeats 3200000 in
theorem teachStops (n : Nat) (hn : 1 ≤ n) (bf bt : Nat) (l : List Nat) (t : Nat) (h32 : ∀ u ∈ l, u < 32) (hp : l.Pairwise (· < ·)) (ht : t < 32) (w : World) (hcs : CS (csT bf bt l t) w) :
    SeqStopsK Fence.wide n Tryz.prog 175 #[.pointer (some ⟨bf, 0, none⟩), .pointer (some ⟨bt, 0, none⟩)] encG (Kcs (csT bf bt l t)) (fun xs => xs = tcR (fun s => tch t s l) 32) (fun pre => pre <+: tcR (fun s => tch t s l) 32) 32 w := fun l0 J Jx W hW hJ hJx hY h0 => by
  have hcW : CS (csT bf bt l t) W := hcs.next hW
  have HX := Lib.hid (fun (s : Nat) (hs : s < 32) w0 h0 => implTeaches l t s h32 hp ht hs w0 h0)
  refine callsIn_of_wp Tryz.func175 rfl trivial ?_ rfl
  simp only [Tryz.ntmps175, List.size_toArray, List.length_cons, List.length_nil, Nat.reduceAdd, Nat.reduceSub, Array.replicate_succ, Array.replicate_zero, List.push_toArray, List.append_toArray, List.nil_append, List.cons_append]
  gi_wp2
  gi_loopw [5] (fun i wr => ∃ k : Nat, k ≤ 32 ∧ i = .int .i64 k ∧ J (tcR (fun s => tch t s l) k) wr ∧ CS (csT bf bt l t) wr) (fun i _ => 32 - (intOf i).toNat)
  case atStart => exact ⟨0, by omega, rfl, h0, hcW⟩
  case round =>
    obtain ⟨k, hk, rfl, hJr, hcr⟩ := hrel
    have hf1 : wr.cell? ⟨bf, 0, none⟩ = some (.int .u32 (fm l)) := hcr (⟨bf, 0, none⟩, .int .u32 (fm l)) (by simp [csT])
    have ht1 : wr.cell? ⟨bt, 0, none⟩ = some (.int .i64 (t : Int)) := hcr (⟨bt, 0, none⟩, .int .i64 (t : Int)) (by simp [csT])
    have HC := Lib.hid hcr
    have HSr := Lib.hid (cs_sw (fun p hp => hcr p (List.mem_append_left _ hp)))
    by_cases hlt : k < 32
    · have HXk := Lib.hid (HX.out k hlt)
      have hle := tcR_len (fun s => tch t s l) k
      by_cases hx : tch t k l = true
      · have hst := tcR_yes (p := fun s => tch t s l) hlt hx
        rw [hx] at HXk
        gi_wp2_with (first | (refine ⟨trivial, ?_⟩; gi_at_call 176; refine (callsIn_wide.2 (HXk.out _ HSr.out)).mono ?_; rintro e W1 ⟨rfl, hb1⟩; have hJ1 := hJ _ wr W1 none hJr (grown_none hb1) (fun r e => by cases e); have hc1 := HC.out.next hb1; obtain ⟨fn, tmps, assign, body, hy, hR⟩ := hY _ ⟨k, hlt⟩ W1 hJ1 (by omega)))
        refine hR.mono ?_
        rintro e W3 (⟨rfl, hJ3, hk3⟩ | ⟨rfl, hJx3⟩)
        · have hc3 := hk3 hc1
          gi_wp2
          go_roundw
          case rel => exact ⟨k + 1, by omega, by go_num, by rw [hst]; exact hJ3, hc3⟩
          case measure => simp [intOf]; omega
        · gi_wp2
          refine bodyPost_ret (results_none rfl _ _ _) rfl ?_
          exact ⟨⟨_, rfl⟩, .inr ⟨_, by rw [← hst]; have := tcR_pre (fun s => tch t s l) (k + 1) (32 - (k + 1)); rwa [show k + 1 + (32 - (k + 1)) = 32 by omega] at this, hJx3⟩⟩
      · have hst := tcR_no (p := fun s => tch t s l) hlt hx
        rw [Bool.not_eq_true] at hx
        rw [hx] at HXk
        gi_wp2_with (first | (refine ⟨trivial, ?_⟩; gi_at_call 176; refine (callsIn_wide.2 (HXk.out _ HSr.out)).mono ?_; rintro e W1 ⟨rfl, hb1⟩; have hJ1 := hJ _ wr W1 none hJr (grown_none hb1) (fun r e => by cases e); have hc1 := HC.out.next hb1))
        refine ⟨fun _ h => (by cases h), ?_⟩
        gi_wp2
        go_roundw
        case rel => exact ⟨k + 1, by omega, by go_num, by rw [hst]; exact hJ1, hc1⟩
        case measure => simp [intOf]; omega
    · obtain rfl : k = 32 := by omega
      gi_wp2
      go_end0
      exact ⟨⟨_, rfl⟩, .inl ⟨_, rfl, hJr⟩⟩

end Go.Proofs.YtnmilfkocheaiaaGreatDoor

namespace Go.Proofs.YtnmilfkocheaiaaGreatDoor
open Go.RowKit Go.Shelf
attribute [local go_sem] Oper.semAt_some

theorem infoI : (Tryz.prog.info? 3).map (fun i => (i.zero, i.size, i.bytes)) = some (some (.int .i64 0), 1, 8) := by kernel_rfl
theorem boxed_keeps {W W' : World} {row : Option Nat} {B : Nat} {t : TypeId} {v : Value} (h : Boxed W B t v) (hg : W.grownBy W' row) (hr : ∀ r, row = some r → ∃ o : Obj, W.heap[r]? = some o ∧ o.isCells = false) : Boxed W' B t v :=
  h.kept hg (fun e' => by
    obtain ⟨o, ho, hc⟩ := hr B e'.symm
    rw [show W.heap[B]? = _ from h] at ho
    cases ho
    cases hc)
theorem own_none {W W' : World} {base size k : Nat} {e : TypeId} {v : Value} {xs : List Value} (h : W.ownsRow base e size v k xs) (hb : Below W.heap.size W W') : W'.ownsRow base e size v k xs :=
  h.kept (grown_none hb) (by by_cases e : v.ownBlock = none; exact .inl e; exact .inr e)
theorem own_mono {W : World} {base b2 size k : Nat} {e : TypeId} {v : Value} {xs : List Value} (h : W.ownsRow base e size v k xs) (hb : b2 ≤ base) : W.ownsRow b2 e size v k xs :=
  ⟨h.1, h.2.imp id (fun ⟨g, cap, cur, h1, h2, h3⟩ => ⟨g, cap, cur, h1, Nat.le_trans hb h2, h3⟩)⟩
theorem own_far {W : World} {base size k b : Nat} {e : TypeId} {v u : Value} {xs : List Value} (h : W.ownsRow base e size v k xs) (hb : b < base) : (W.setCell ⟨b, 0, none⟩ u).ownsRow base e size v k xs := by
  refine h.kept (grownBy_setCell' W b u) ?_
  rcases h.2 with ⟨rfl, _⟩ | ⟨g, cap, cur, rfl, hg, _⟩
  · exact .inl rfl
  · refine .inr (fun e' => ?_)
    have : g = b := by simpa [Value.ownBlock] using e'
    omega
theorem own_cut {W : World} {base k g cap : Nat} {e : TypeId} {xs : List Value} (h : W.ownsRow base e 1 (.slice (some ⟨g, 0, none⟩) k cap) k xs) : W.ownsRow base e 1 (.slice (some ⟨g, 0, none⟩) 0 cap) 0 [] := by
  rcases h.2 with ⟨h1, _⟩ | ⟨g', cap', cur, h1, h2, h3, h4, h5, h6, h7⟩
  · cases h1
  · cases h1
    exact ⟨rfl, .inr ⟨g, cap, cur, rfl, h2, h3, Nat.zero_le _, h5, h6, rfl⟩⟩
theorem appended2 {W w1 : World} {N n1 B : Nat} {t e : TypeId} {size : Nat} {v v' : Value} {k m : Nat} {xs ys : List Value} {tmp : Obj}
    (hv : Boxed W B t v) (hte : t ≠ e) (hrow : W.ownsRow n1 e size v k xs) (hN1 : N ≤ n1) (hNs : N ≤ W.heap.size) (hB : N ≤ B)
    (hown' : w1.ownsRow n1 e size v' m ys) (hgrow : (W.alloc tmp).grownBy w1 v.ownBlock) :
    Boxed w1 B t v ∧ Boxed (w1.setCell ⟨B, 0, none⟩ v') B t v' ∧ (w1.setCell ⟨B, 0, none⟩ v').ownsRow n1 e size v' m ys ∧ KeepsOthers W (w1.setCell ⟨B, 0, none⟩ v') ∧ Below N W (w1.setCell ⟨B, 0, none⟩ v') := by
  obtain ⟨a, b, _, d, f⟩ := hv.appended hte (own_mono hrow hN1) hNs hB (own_mono hown' hN1) hgrow
  exact ⟨a, b, hown'.kept (grownBy_setCell' w1 B v') (.inr (a.not_row hte hown').symm), d, f⟩
theorem own_ne {W : World} {base size k b : Nat} {e : TypeId} {v : Value} {xs : List Value} (h : W.ownsRow base e size v k xs) (hb : b < base) : some b ≠ v.ownBlock := by
  rcases h.2 with ⟨rfl, _⟩ | ⟨g, cap, cur, rfl, hg, _⟩
  · simp [Value.ownBlock]
  · intro e'
    have : b = g := by simpa [Value.ownBlock] using e'
    omega

theorem boxed_far {W : World} {B b : Nat} {t : TypeId} {v : Value} (h : Boxed W B t v) (u : Value) (hne : B ≠ b) : Boxed (W.setCell ⟨b, 0, none⟩ u) B t v := h.kept (grownBy_setCell' W b u) (by simpa using hne)
abbrev lA (μ : Nat → Int) (pre : List (Fin 32)) : List Nat := (lmn μ (pre.map Fin.val)).1
abbrev lM (μ : Nat → Int) (pre : List (Fin 32)) : Int := (lmn μ (pre.map Fin.val)).2
abbrev ivs (l : List Nat) : List Value := (toI l).map (Value.int .i64)
theorem lmn_next (μ : Nat → Int) (pre : List (Fin 32)) (x : Fin 32) : lmn μ ((pre ++ [x]).map Fin.val) = lstep μ (lmn μ (pre.map Fin.val)) x.val := by rw [List.map_append, List.map_singleton, lmn_snoc]

end Go.Proofs.YtnmilfkocheaiaaGreatDoor

namespace Go.Proofs.YtnmilfkocheaiaaGreatDoor
open Go.RowKit Go.Shelf
attribute [local go_sem] Oper.semAt_some

set_option maxRecDepth 100000 in
set_option maxHeartbeats 12800000 in
theorem implLeastSize (gf : Nat) (lb : Array Value) (cs : List (Addr × Value)) (L : List (Fin 32)) (hL : L.length ≤ 32) (w : World)
    (eg : ∀ args w, (callFunc gf args).run Tryz.prog w = .ok (.enter gf args) w)
    (hseq : ∀ n w0, 1 ≤ n → CS cs w0 → SeqStopsK Fence.wide n Tryz.prog gf lb encG (Kcs cs) (fun xs => xs = L) (fun pre => pre <+: L) 32 w0)
    (HM : Hid (∀ (x : Fin 32) (W : World), CS cs W → Calls Tryz.prog 100 #[.int .i64 ((x.val : Nat) : Int)] W fun e w' => e = .returned (.int .i64 (pc x.val : Nat)) ∧ Below W.heap.size W w'))
    (hcs0 : CS cs w) :
    Calls Tryz.prog 128 #[.func (.func gf) #[] lb, (.func (.func 100) #[] #[])] w (RetInts (toI (lmn (fun s => (pc s : Int)) (L.map Fin.val)).1) w) := by
  obtain ⟨i0, hi, hz0, hz1, hz2⟩ := info_parts infoI
  have hlo : ∀ p ∈ cs, p.1.block < w.heap.size := hcs0.lt
  refine (callsIn_wide (n := 3)).1 ?_
  refine callsIn_of_wp_marks Tryz.func128 rfl trivial ?_ rfl
  simp only [Tryz.ntmps128, List.size_toArray, List.length_cons, List.length_nil, Nat.reduceAdd, Nat.reduceSub, Array.replicate_succ, Array.replicate_zero, List.push_toArray, List.append_toArray, List.nil_append, List.cons_append]
  gi_wp2
  have bM := Boxed.new w 49 (.func (.func 100) #[] #[])
  have bO := Boxed.new (w.alloc (.cells #[(.func (.func 100) #[] #[])] 49)) 44 (.slice none 0 0)
  have bL := Boxed.new ((w.alloc (.cells #[(.func (.func 100) #[] #[])] 49)).alloc (.cells #[.slice none 0 0] 44)) 3 (.int .i64 0)
  simp only [World.size_alloc] at bO bL
  have hB0 : Below w.heap.size w (((w.alloc (.cells #[(.func (.func 100) #[] #[])] 49)).alloc (.cells #[.slice none 0 0] 44)).alloc (.cells #[.int .i64 0] 3)) := (((Below.refl _ w).alloc (Nat.le_refl _) _).alloc (by simp) _).alloc (by simp; omega) _
  refine wpIn_rangeFunc_ownF rfl (by omega) (gf := gf) (lb := lb) rfl trivial eg
    (hseq _ _ (by omega) (hcs0.next hB0)) kcs_t kcs_b (Below.refl _ _) (fun _ => rfl)
    (fun pre W => (∃ v, Boxed W (w.heap.size + 1) 44 v ∧ W.ownsRow (w.heap.size + 1 + 1 + 1) 3 1 v (lA (fun s => (pc s : Int)) pre).length (ivs (lA (fun s => (pc s : Int)) pre)) ∧ (v = .slice none 0 0 ↔ lA (fun s => (pc s : Int)) pre = []))
      ∧ (Boxed W w.heap.size 49 (.func (.func 100) #[] #[]) ∧ Boxed W (w.heap.size + 1 + 1) 3 (.int .i64 (lM (fun s => (pc s : Int)) pre)) ∧ CS cs W) ∧ (Below w.heap.size w W ∧ w.heap.size + 1 + 1 + 1 ≤ W.heap.size))
    (fun _ _ _ => False)
    (OwnFrom.and (Own.from (holdsRow_own (w.heap.size + 1 + 1 + 1) (w.heap.size + 1) 44 3 1 (fun pre => (lA (fun s => (pc s : Int)) pre).length) (fun pre => ivs (lA (fun s => (pc s : Int)) pre)) (fun pre v => v = .slice none 0 0 ↔ lA (fun s => (pc s : Int)) pre = [])) _)
      (OwnFrom.and (Own.from (fun s A B row hs hg hr => ⟨boxed_keeps hs.1 hg hr, boxed_keeps hs.2.1 hg hr, cs_own cs s A B row hs.2.2 hg hr⟩) _)
        (OwnFrom.and (ownFrom_below (Nat.le_refl _) (by simp; omega)) (fun s A B row hs hg hr => Nat.le_trans hs hg.size))))
    (fun _ _ _ _ _ hs _ _ => hs)
    ⟨⟨_, bO.alloc _, World.ownsRow_nil _ _ _ _, by simp [lA, lmn]⟩, ⟨(bM.alloc _).alloc _, bL, hcs0.next hB0⟩, hB0, by simp⟩
    (fun x => { tmps := #[.func (.func gf) #[] lb, (.func (.func 100) #[] #[]), undef, .pointer (some ⟨w.heap.size, 0, none⟩), .slice none 0 0, .pointer (some ⟨w.heap.size + 1, 0, none⟩), .pointer (some ⟨w.heap.size + 1 + 1, 0, none⟩), .int .i64 ((x.val : Nat) : Int), undef, .func (.func gf) #[] lb, .int .i64 ((x.val : Nat) : Int), undef, undef, undef, undef, undef, undef, undef, undef, undef, undef, undef, undef, undef, undef, undef, undef, undef, undef, undef, undef, undef, undef], defers := [] }) ?assign ?body ?done ?stop
  case assign =>
    intro l0 x W K hK
    gi_wp2
    exact hK
  case body =>
    rintro l0 pre x W ⟨⟨v, hv, hrow, hnil⟩, ⟨hM, hLb, hcs⟩, hB, hN⟩ hlen
    have HNX := Lib.hid (lmn_next (fun s => (pc s : Int)) pre x)
    have hlA : (lA (fun s => (pc s : Int)) pre).length ≤ 32 := by
      have := lmn_len (fun s => (pc s : Int)) (pre.map Fin.val)
      rw [List.length_map] at this
      show (lmn _ _).1.length ≤ 32
      omega
    have hmv := hM.cell
    simp only [lA, lM] at hrow hnil hLb hlA
    generalize lmn (fun s => (pc s : Int)) (pre.map Fin.val) = am at *
    obtain ⟨A, M⟩ := am
    dsimp only at hrow hnil hLb hlA HNX
    obtain ⟨m, hm⟩ : ∃ m : Int, m = (pc x.val : Int) := ⟨_, rfl⟩
    have HMx := Lib.hid (HM.out x)
    rw [← hm] at HMx
    have HLS := Lib.hid (show lstep (fun s => (pc s : Int)) (A, M) x.val = if A = [] ∨ m < M then ([x.val], m) else if m = M then (A ++ [x.val], M) else (A, M) by rw [hm]; rfl)
    clear hm
    by_cases hA : A = []
    · obtain rfl : v = .slice none 0 0 := hnil.2 hA
      subst hA
      have HA : lA (fun s => (pc s : Int)) (pre ++ [x]) = [x.val] := by show (lmn _ _).1 = _; rw [HNX.out, HLS.out, if_pos (Or.inl (rfl : ([] : List Nat) = []))]
      have HM2 : lM (fun s => (pc s : Int)) (pre ++ [x]) = m := by show (lmn _ _).2 = _; rw [HNX.out, HLS.out, if_pos (Or.inl (rfl : ([] : List Nat) = []))]
      gi_wp2
      refine ⟨trivial, ?_⟩
      gi_at_call 100
      refine (CallsIn.inRound l0 (callsIn_wide.2 (HMx.out _ hcs))).mono ?_
      rintro e W1 ⟨rfl, hb1⟩
      have bO1 := hv.kept (grown_none hb1) (by simp)
      have bL1 := hLb.kept (grown_none hb1) (by simp)
      have bM1 := hM.kept (grown_none hb1) (by simp)
      have hN1 : w.heap.size + 1 + 1 + 1 ≤ W1.heap.size := Nat.le_trans hN hb1.size
      have o1 := bO1.cell
      have o2 := bO1.frozen
      have l1 := bL1.cell
      have l2 := bL1.frozen
      have bO2 : Boxed ((W1.setCell ⟨w.heap.size + 1, 0, none⟩ (.slice none 0 0)).setCell ⟨w.heap.size + 1 + 1, 0, none⟩ (.int .i64 m)) (w.heap.size + 1) 44 (.slice none 0 0) := boxed_far (bO1.set (.slice none 0 0)) _ (by omega)
      have bL2 : Boxed ((W1.setCell ⟨w.heap.size + 1, 0, none⟩ (.slice none 0 0)).setCell ⟨w.heap.size + 1 + 1, 0, none⟩ (.int .i64 m)) (w.heap.size + 1 + 1) 3 (.int .i64 m) := (boxed_far bL1 (.slice none 0 0) (by omega)).set _
      have bM2 : Boxed ((W1.setCell ⟨w.heap.size + 1, 0, none⟩ (.slice none 0 0)).setCell ⟨w.heap.size + 1 + 1, 0, none⟩ (.int .i64 m)) w.heap.size 49 (.func (.func 100) #[] #[]) := boxed_far (boxed_far bM1 (.slice none 0 0) (by omega)) _ (by omega)
      have l3 := bL2.cell
      have o3 := bO2.cell
      have o4 := bO2.frozen
      have r2 : ((W1.setCell ⟨w.heap.size + 1, 0, none⟩ (.slice none 0 0)).setCell ⟨w.heap.size + 1 + 1, 0, none⟩ (.int .i64 m)).ownsRow (w.heap.size + 1 + 1 + 1) 3 1 (.slice none 0 0) 0 [] := World.ownsRow_nil _ _ _ _
      gi_wp2_with (gi_at_builtin; refine wpListIn_append_own _ rfl _ _ 44 rfl (w.heap.size + 1 + 1 + 1) 3 i0 (.int .i64 0) 1 8 Tryz.underlying44 hi hz0 hz1 hz2 rfl (by decide) _ _ _ rfl (r2.alloc _) ⟨W1.heap.size, 0, none⟩ 1 1 [.int .i64 ((x.val : Nat) : Int)] rfl rfl (by have h9 := cell_one_new ((W1.setCell ⟨w.heap.size + 1, 0, none⟩ (.slice none 0 0)).setCell ⟨w.heap.size + 1 + 1, 0, none⟩ (.int .i64 m)) (.int .i64 ((x.val : Nat) : Int)) 3; have h8 : ((W1.setCell ⟨w.heap.size + 1, 0, none⟩ (.slice none 0 0)).setCell ⟨w.heap.size + 1 + 1, 0, none⟩ (.int .i64 m)).heap.size = W1.heap.size := (by first | rfl | simp); rw [h8] at h9; exact h9) (by simp [Value.oneCell']) (by unfold maxLen; omega) (by omega) (by first | omega | (simp; omega)) ?_; intro v' w1 hown' hgrow _; obtain ⟨g', cap', rfl⟩ := ownsRow_succ hown'; obtain ⟨hv1, hv2, hr2, hk2, hb2⟩ := appended2 (N := w.heap.size) bO2 (by decide) r2 (by omega) (by first | omega | (simp; omega)) (by omega) hown' hgrow; have hc1 := hv1.cell; have hf1 := hv1.frozen)
      have bM3 := boxed_far ((bM2.alloc _).kept hgrow (own_ne r2 (by omega))) (.slice (some ⟨g', 0, none⟩) (0 + 1) cap') (show w.heap.size ≠ w.heap.size + 1 by omega)
      have bL3 := boxed_far ((bL2.alloc _).kept hgrow (own_ne r2 (by omega))) (.slice (some ⟨g', 0, none⟩) (0 + 1) cap') (show w.heap.size + 1 + 1 ≠ w.heap.size + 1 by omega)
      have hBel := (((hb1.mono hB.size).setCell (p := ⟨w.heap.size + 1, 0, none⟩) (by show w.heap.size ≤ w.heap.size + 1; omega) _).setCell (p := ⟨w.heap.size + 1 + 1, 0, none⟩) (by show w.heap.size ≤ w.heap.size + 1 + 1; omega) _).trans hb2
      exact ⟨(((keeps_below hb1).trans (KeepsOthers.setCell _ _ _)).trans (KeepsOthers.setCell _ _ _)).trans hk2, fun hh => hh.below hBel hlo, ⟨⟨_, hv2, by rw [HA]; simpa [ivs, toI] using hr2, by rw [HA]; simp⟩, ⟨bM3, by rw [HM2]; exact bL3, hcs.below hBel hlo⟩, hB.trans hBel, Nat.le_trans hN hBel.size⟩⟩
    · obtain ⟨k, hk⟩ : ∃ k, A.length = k + 1 := ⟨A.length - 1, by have := List.length_pos_iff.2 hA; omega⟩
      rw [hk] at hrow hlA
      obtain ⟨g, cap, rfl⟩ := ownsRow_succ hrow
      have hd0 : (((k + 1 : Nat) : Int) == 0) = false := by simp; omega
      have hd1 : ((k : Int) + 1 == 0) = false := by simp; omega
      have hd2 : ¬ (k : Int) + 1 = 0 := by omega
      clear hnil
      by_cases hlt : m < M
      · have hdm : decide (m < M) = true := decide_eq_true hlt
        have HA : lA (fun s => (pc s : Int)) (pre ++ [x]) = [x.val] := by show (lmn _ _).1 = _; rw [HNX.out, HLS.out, if_pos (.inr hlt)]
        have HM2 : lM (fun s => (pc s : Int)) (pre ++ [x]) = m := by show (lmn _ _).2 = _; rw [HNX.out, HLS.out, if_pos (.inr hlt)]
        gi_wp2
        refine ⟨trivial, ?_⟩
        gi_at_call 100
        refine (CallsIn.inRound l0 (callsIn_wide.2 (HMx.out _ hcs))).mono ?_
        rintro e W1 ⟨rfl, hb1⟩
        have bO1 := hv.kept (grown_none hb1) (by simp)
        have bL1 := hLb.kept (grown_none hb1) (by simp)
        have bM1 := hM.kept (grown_none hb1) (by simp)
        have hN1 : w.heap.size + 1 + 1 + 1 ≤ W1.heap.size := Nat.le_trans hN hb1.size
        have o1 := bO1.cell
        have o2 := bO1.frozen
        have l1 := bL1.cell
        have l2 := bL1.frozen
        have bO2 : Boxed ((W1.setCell ⟨w.heap.size + 1, 0, none⟩ (.slice (some ⟨g, 0, none⟩) 0 cap)).setCell ⟨w.heap.size + 1 + 1, 0, none⟩ (.int .i64 m)) (w.heap.size + 1) 44 (.slice (some ⟨g, 0, none⟩) 0 cap) := boxed_far (bO1.set (.slice (some ⟨g, 0, none⟩) 0 cap)) _ (by omega)
        have bL2 : Boxed ((W1.setCell ⟨w.heap.size + 1, 0, none⟩ (.slice (some ⟨g, 0, none⟩) 0 cap)).setCell ⟨w.heap.size + 1 + 1, 0, none⟩ (.int .i64 m)) (w.heap.size + 1 + 1) 3 (.int .i64 m) := (boxed_far bL1 (.slice (some ⟨g, 0, none⟩) 0 cap) (by omega)).set _
        have bM2 : Boxed ((W1.setCell ⟨w.heap.size + 1, 0, none⟩ (.slice (some ⟨g, 0, none⟩) 0 cap)).setCell ⟨w.heap.size + 1 + 1, 0, none⟩ (.int .i64 m)) w.heap.size 49 (.func (.func 100) #[] #[]) := boxed_far (boxed_far bM1 (.slice (some ⟨g, 0, none⟩) 0 cap) (by omega)) _ (by omega)
        have l3 := bL2.cell
        have o3 := bO2.cell
        have o4 := bO2.frozen
        have r2 : ((W1.setCell ⟨w.heap.size + 1, 0, none⟩ (.slice (some ⟨g, 0, none⟩) 0 cap)).setCell ⟨w.heap.size + 1 + 1, 0, none⟩ (.int .i64 m)).ownsRow (w.heap.size + 1 + 1 + 1) 3 1 (.slice (some ⟨g, 0, none⟩) 0 cap) 0 [] := own_far (own_far (own_cut (own_none hrow hb1)) (by omega)) (by omega)
        gi_wp2_with (gi_at_builtin; refine wpListIn_append_own _ rfl _ _ 44 rfl (w.heap.size + 1 + 1 + 1) 3 i0 (.int .i64 0) 1 8 Tryz.underlying44 hi hz0 hz1 hz2 rfl (by decide) _ _ _ rfl (r2.alloc _) ⟨W1.heap.size, 0, none⟩ 1 1 [.int .i64 ((x.val : Nat) : Int)] rfl rfl (by have h9 := cell_one_new ((W1.setCell ⟨w.heap.size + 1, 0, none⟩ (.slice (some ⟨g, 0, none⟩) 0 cap)).setCell ⟨w.heap.size + 1 + 1, 0, none⟩ (.int .i64 m)) (.int .i64 ((x.val : Nat) : Int)) 3; have h8 : ((W1.setCell ⟨w.heap.size + 1, 0, none⟩ (.slice (some ⟨g, 0, none⟩) 0 cap)).setCell ⟨w.heap.size + 1 + 1, 0, none⟩ (.int .i64 m)).heap.size = W1.heap.size := (by first | rfl | simp); rw [h8] at h9; exact h9) (by simp [Value.oneCell']) (by unfold maxLen; omega) (by omega) (by first | omega | (simp; omega)) ?_; intro v' w1 hown' hgrow _; obtain ⟨g', cap', rfl⟩ := ownsRow_succ hown'; obtain ⟨hv1, hv2, hr2, hk2, hb2⟩ := appended2 (N := w.heap.size) bO2 (by decide) r2 (by omega) (by first | omega | (simp; omega)) (by omega) hown' hgrow; have hc1 := hv1.cell; have hf1 := hv1.frozen)
        have bM3 := boxed_far ((bM2.alloc _).kept hgrow (own_ne r2 (by omega))) (.slice (some ⟨g', 0, none⟩) (0 + 1) cap') (show w.heap.size ≠ w.heap.size + 1 by omega)
        have bL3 := boxed_far ((bL2.alloc _).kept hgrow (own_ne r2 (by omega))) (.slice (some ⟨g', 0, none⟩) (0 + 1) cap') (show w.heap.size + 1 + 1 ≠ w.heap.size + 1 by omega)
        have hBel := (((hb1.mono hB.size).setCell (p := ⟨w.heap.size + 1, 0, none⟩) (by show w.heap.size ≤ w.heap.size + 1; omega) _).setCell (p := ⟨w.heap.size + 1 + 1, 0, none⟩) (by show w.heap.size ≤ w.heap.size + 1 + 1; omega) _).trans hb2
        exact ⟨(((keeps_below hb1).trans (KeepsOthers.setCell _ _ _)).trans (KeepsOthers.setCell _ _ _)).trans hk2, fun hh => hh.below hBel hlo, ⟨⟨_, hv2, by rw [HA]; simpa [ivs, toI] using hr2, by rw [HA]; simp⟩, ⟨bM3, by rw [HM2]; exact bL3, hcs.below hBel hlo⟩, hB.trans hBel, Nat.le_trans hN hBel.size⟩⟩
      · have hdm : decide (m < M) = false := decide_eq_false hlt
        have hnor : ¬ (A = [] ∨ m < M) := fun h => h.elim hA hlt
        by_cases he : m = M
        · have hde : (m == M) = true := by simpa using he
          have HA : lA (fun s => (pc s : Int)) (pre ++ [x]) = A ++ [x.val] := by show (lmn _ _).1 = _; rw [HNX.out, HLS.out, if_neg hnor, if_pos he]
          have HM2 : lM (fun s => (pc s : Int)) (pre ++ [x]) = M := by show (lmn _ _).2 = _; rw [HNX.out, HLS.out, if_neg hnor, if_pos he]
          gi_wp2
          refine ⟨trivial, ?_⟩
          gi_at_call 100
          refine (CallsIn.inRound l0 (callsIn_wide.2 (HMx.out _ hcs))).mono ?_
          rintro e W1 ⟨rfl, hb1⟩
          have bO1 := hv.kept (grown_none hb1) (by simp)
          have bL1 := hLb.kept (grown_none hb1) (by simp)
          have bM1 := hM.kept (grown_none hb1) (by simp)
          have hN1 : w.heap.size + 1 + 1 + 1 ≤ W1.heap.size := Nat.le_trans hN hb1.size
          have o1 := bO1.cell
          have o2 := bO1.frozen
          have l1 := bL1.cell
          have l2 := bL1.frozen
          have r1 := own_none hrow hb1
          gi_wp2_with (gi_at_builtin; refine wpListIn_append_own _ rfl _ _ 44 rfl (w.heap.size + 1 + 1 + 1) 3 i0 (.int .i64 0) 1 8 Tryz.underlying44 hi hz0 hz1 hz2 rfl (by decide) _ _ _ rfl (r1.alloc _) ⟨W1.heap.size, 0, none⟩ 1 1 [.int .i64 ((x.val : Nat) : Int)] rfl rfl (by have h9 := cell_one_new (W1) (.int .i64 ((x.val : Nat) : Int)) 3; have h8 : (W1).heap.size = W1.heap.size := (by first | rfl | simp); rw [h8] at h9; exact h9) (by simp [Value.oneCell']) (by unfold maxLen; omega) (by omega) (by first | omega | (simp; omega)) ?_; intro v' w1 hown' hgrow _; obtain ⟨g', cap', rfl⟩ := ownsRow_succ hown'; obtain ⟨hv1, hv2, hr2, hk2, hb2⟩ := appended2 (N := w.heap.size) bO1 (by decide) r1 (by omega) (by first | omega | (simp; omega)) (by omega) hown' hgrow; have hc1 := hv1.cell; have hf1 := hv1.frozen)
          have bM3 := boxed_far ((bM1.alloc _).kept hgrow (own_ne r1 (by omega))) (.slice (some ⟨g', 0, none⟩) (k + 1 + 1) cap') (show w.heap.size ≠ w.heap.size + 1 by omega)
          have bL3 := boxed_far ((bL1.alloc _).kept hgrow (own_ne r1 (by omega))) (.slice (some ⟨g', 0, none⟩) (k + 1 + 1) cap') (show w.heap.size + 1 + 1 ≠ w.heap.size + 1 by omega)
          have hBel := (hb1.mono hB.size).trans hb2
          exact ⟨(keeps_below hb1).trans hk2, fun hh => hh.below hBel hlo, ⟨⟨_, hv2, by rw [HA]; simpa [ivs, toI, hk] using hr2, by rw [HA]; simp⟩, ⟨bM3, by rw [HM2]; exact bL3, hcs.below hBel hlo⟩, hB.trans hBel, Nat.le_trans hN hBel.size⟩⟩
        · have hde : (m == M) = false := by simpa using he
          have HA : lA (fun s => (pc s : Int)) (pre ++ [x]) = A := by show (lmn _ _).1 = _; rw [HNX.out, HLS.out, if_neg hnor, if_neg he]
          have HM2 : lM (fun s => (pc s : Int)) (pre ++ [x]) = M := by show (lmn _ _).2 = _; rw [HNX.out, HLS.out, if_neg hnor, if_neg he]
          gi_wp2
          refine ⟨trivial, ?_⟩
          gi_at_call 100
          refine (CallsIn.inRound l0 (callsIn_wide.2 (HMx.out _ hcs))).mono ?_
          rintro e W1 ⟨rfl, hb1⟩
          have bO1 := hv.kept (grown_none hb1) (by simp)
          have bL1 := hLb.kept (grown_none hb1) (by simp)
          have bM1 := hM.kept (grown_none hb1) (by simp)
          have hN1 : w.heap.size + 1 + 1 + 1 ≤ W1.heap.size := Nat.le_trans hN hb1.size
          have o1 := bO1.cell
          have o2 := bO1.frozen
          have l1 := bL1.cell
          have l2 := bL1.frozen
          have r1 := own_none hrow hb1
          gi_wp2
          exact ⟨keeps_below hb1, fun hh => hh.next hb1, ⟨⟨_, bO1, by rw [HA, hk]; exact r1, by rw [HA]; simp [hA]⟩, ⟨bM1, by rw [HM2]; exact bL1, hcs.next hb1⟩, hB.trans (hb1.mono hB.size), hN1⟩⟩
  case done =>
    rintro D ys W hD rfl ⟨⟨v, hv, hrow, hnil⟩, ⟨hM, hLb, hcs⟩, hB, hN⟩ hK
    have hc := hv.cell
    gi_wp2
    refine ⟨by simp, .inl ⟨_, _, rfl, run_takeDeferred hK, ?_⟩⟩
    refine ⟨_, results_tmp rfl _ _ _, ?_⟩
    refine RetInts.of ?_ (hB.trans (belowK_b (w := w) (Nat.le_refl _) W D _ _ (by simp at hD; omega) hK rfl rfl))
    show World.ownsRow _ _ _ 1 v (toI _).length _
    rw [toI_length]
    exact own_mono (ownsRow_putObj hrow _ hK rfl) (by omega)
  case stop =>
    rintro D c pre W _ _ h _
    exact h.elim

end Go.Proofs.YtnmilfkocheaiaaGreatDoor

namespace Go.Proofs.YtnmilfkocheaiaaGreatDoor
open Go.RowKit Go.Shelf

/-- the first of the smallest sets of points that teach t; 0 for none -/
def fstNt (t : Nat) (l : List Nat) : Nat := (lmn (fun s => (pc s : Int)) (tcs t l)).1.getD 0 0
theorem fstN_none {t : Nat} {l : List Nat} (h : tcs t l = []) : fstNt t l = 0 := by rw [fstNt, h, lmn_nil]; rfl
theorem fstN_lt (t : Nat) (l : List Nat) : fstNt t l < 32 := by
  by_cases h : (lmn (fun s => (pc s : Int)) (tcs t l)).1 = []
  · rw [fstNt, h]; decide
  · have hl := List.length_pos_iff.2 h
    have := lmn_sub (getD_of_lt hl)
    rw [tcs, mem_flt] at this
    exact this.1

set_option maxRecDepth 100000 in
set_option maxHeartbeats 3200000 in
theorem implFstT (l : List Nat) (t : Nat) (h32 : ∀ u ∈ l, u < 32) (hp : l.Pairwise (· < ·)) (ht : t < 32) (w : World) (hsw : SW w) :
    Calls Tryz.prog 130 #[.int .u32 (fm l), .int .i64 (t : Int)] w fun e w' => e = .returned (.tuple #[.int .i64 ((fstNt t l : Nat) : Int), .bool (decide (tcs t l ≠ []))]) ∧ Below w.heap.size w w' := by
  have hb0 : Below w.heap.size w ((w.alloc (.cells #[.int .u32 (fm l)] 116)).alloc (.cells #[.int .i64 (t : Int)] 3)) := ((Below.refl _ w).alloc (Nat.le_refl _) _).alloc (by simp) _
  have c0 := (cell_new_l w (.int .u32 (fm l)) 116).1
  have c1 := (cell_new_l (w.alloc (.cells #[.int .u32 (fm l)] 116)) (.int .i64 (t : Int)) 3).1
  rw [World.size_alloc] at c1
  have c2 := cell_alloc_l (.cells #[.int .i64 (t : Int)] 3) c0
  have hcs : CS (csT w.heap.size (w.heap.size + 1) l t) ((w.alloc (.cells #[.int .u32 (fm l)] 116)).alloc (.cells #[.int .i64 (t : Int)] 3)) := fun p hp => by
    rcases List.mem_append.1 hp with h | h
    · exact ((sw_cs hsw).next hb0) p h
    · simp only [List.mem_cons, List.not_mem_nil, or_false] at h
      rcases h with rfl | rfl
      · exact c2
      · exact c1
  have HL := Lib.hid (implLeastSize 175 #[.pointer (some ⟨w.heap.size, 0, none⟩), .pointer (some ⟨w.heap.size + 1, 0, none⟩)] (csT w.heap.size (w.heap.size + 1) l t) (tcR (fun s => tch t s l) 32) (tcR_len _ _) _
    (enters_of Tryz.func175 (by kernel_rfl) rfl)
    (fun n w0 hn h0 => teachStops n hn w.heap.size (w.heap.size + 1) l t h32 hp ht w0 h0)
    (Lib.hid (fun x W _ => (implSizeOf x.val x.isLt W).mono (fun e w' h => ⟨h.1, by rw [← h.2]; exact Below.refl _ _⟩))) hcs)
  rw [show (tcR (fun s => tch t s l) 32).map Fin.val = tcs t l from tcR_all _] at HL
  have HN := Lib.hid (show fstNt t l = (lmn (fun s => (pc s : Int)) (tcs t l)).1.getD 0 0 from rfl)
  have HT := Lib.hid (implTeachings l t w)
  have HZ := Lib.hid (show decide (tcs t l ≠ []) = decide ((lmn (fun s => (pc s : Int)) (tcs t l)).1 ≠ []) by
    by_cases h : tcs t l = []
    · rw [h, lmn_nil]
    · rw [decide_eq_true h, decide_eq_true (lmn_ne h)])
  rw [HN.out, HZ.out]
  have HLn := Lib.hid (toI_length (lmn (fun s => (pc s : Int)) (tcs t l)).1)
  clear HN HZ hcs c0 c1 c2
  generalize (lmn (fun s => (pc s : Int)) (tcs t l)).1 = A at *
  by_cases hA : A = []
  · subst hA
    have HL2 := Lib.hid HL.out
    go_enter Tryz.func130, Tryz.ntmps130
    go_wp2_with fail
    refine HT.out.mono ?_
    rintro e w1 ⟨rfl, rfl⟩
    go_wp2_with fail
    refine HL2.out.mono ?_
    rintro e w2 ⟨a2, k2, rfl, hin, hb⟩
    have HB := Lib.hid (hb0.trans (hb.mono hb0.size))
    clear hin hb
    rw [show (toI []).length = 0 from rfl]
    go_wp2_with fail
    refine bodyPost_ret (v := .tuple #[.int .i64 0, .bool false]) (by simp [results, Tryz.results130, go_sem]) rfl ?_
    exact ⟨by simp, HB.out⟩
  · obtain ⟨k, hk⟩ : ∃ k, A.length = k + 1 := ⟨A.length - 1, by have := List.length_pos_iff.2 hA; omega⟩
    have hd1 : ((k : Int) + 1 == 0) = false := by simp; omega
    have hd2 : ¬ (k : Int) + 1 = 0 := by omega
    have hd3 : (0 : Int) < (k : Int) + 1 := by omega
    have hdA : decide (A ≠ []) = true := decide_eq_true hA
    rw [hdA]
    rw [hk] at HLn
    clear hA hdA hk
    go_enter Tryz.func130, Tryz.ntmps130
    go_wp2_with fail
    refine HT.out.mono ?_
    rintro e w1 ⟨rfl, rfl⟩
    go_wp2_with fail
    refine HL.out.mono ?_
    rintro e w2 ⟨a2, k2, rfl, hin, hb⟩
    have HB := Lib.hid (hb0.trans (hb.mono hb0.size))
    rw [HLn.out] at hin ⊢
    obtain ⟨ar, br, offr, capr, er, h1, h3, h5⟩ := hin.rd
    simp only [Value.slice.injEq] at er
    obtain ⟨rfl, -, rfl⟩ := er
    rw [HLn.out] at h1 h5
    obtain ⟨rfl, -⟩ := h1 (by omega)
    have hc := h5 0 (by omega)
    rw [toI_getD, Nat.add_zero] at hc
    clear hin hb h1 h5 h3
    generalize hx : A.getD 0 0 = x at hc
    have HX := Lib.hid hx
    clear hx
    go_wp2_with fail
    refine bodyPost_ret (v := .tuple #[.int .i64 (x : Int), .bool true]) (by simp [results, Tryz.results130, go_sem]) rfl ?_
    exact ⟨by rw [HX.out], HB.out⟩

/-- how many points it takes to teach t; -1 for none -/
def tnI (t : Nat) (l : List Nat) : Int := if tcs t l = [] then -1 else (pc (fstNt t l) : Int)

set_option maxRecDepth 100000 in
set_option maxHeartbeats 1600000 in
theorem implTnF (l : List Nat) (t : Nat) (h32 : ∀ u ∈ l, u < 32) (hp : l.Pairwise (· < ·)) (ht : t < 32) (w : World) (hsw : SW w) :
    Calls Tryz.prog 107 #[.int .u32 (fm l), .int .i64 (t : Int)] w fun e w' => e = .returned (.int .i64 (tnI t l)) ∧ Below w.heap.size w w' := by
  have HF := Lib.hid (implFstT l t h32 hp ht w hsw)
  have hx32 := fstN_lt t l
  by_cases h : tcs t l = []
  · have HE := Lib.hid (show tnI t l = -1 from if_pos h)
    rw [show decide (tcs t l ≠ []) = false by simp [h]] at HF
    rw [HE.out]
    clear h hsw
    generalize fstNt t l = x at *
    go_enter Tryz.func107, Tryz.ntmps107
    go_wp2_with fail
    refine HF.out.mono ?_
    rintro e w1 ⟨rfl, hb⟩
    go_wp2_with fail
    go_ret
    exact ⟨rfl, hb⟩
  · have HE := Lib.hid (show tnI t l = (pc (fstNt t l) : Int) from if_neg h)
    rw [show decide (tcs t l ≠ []) = true by simp [h]] at HF
    rw [HE.out]
    clear h hsw
    have HS := Lib.hid (fun w0 => implSizeOf (fstNt t l) hx32 w0)
    generalize fstNt t l = x at *
    go_enter Tryz.func107, Tryz.ntmps107
    go_wp2_with fail
    refine HF.out.mono ?_
    rintro e w1 ⟨rfl, hb⟩
    go_wp2_with fail
    refine (HS.out _).mono ?_
    rintro e w2 ⟨rfl, rfl⟩
    go_wp2_with fail
    go_ret
    exact ⟨rfl, hb⟩

/-- whether t is one of the sets of a valid class; the fewest points that teach it -/
def ftK (n : Int) (zs : List Int) (t : Int) : Bool := vldB n zs && hasB zs t
def ftB (n : Int) (zs : List Int) (t : Int) : Int := if ftK n zs t = true then ((ftN n.toNat t.toNat (zs.map Int.toNat) : Nat) : Int) else 0
def tnB (n : Int) (zs : List Int) (t : Int) : Int := if ftK n zs t = true then (pc (ftN n.toNat t.toNat (zs.map Int.toNat)) : Int) else -1
theorem ftK_out {n : Int} {zs : List Int} {t : Int} (h : inB n zs t = false) : ftK n zs t = false := by
  by_cases hv : vldB n zs = true
  · obtain ⟨m, ns, rfl, rfl, hc⟩ := vldB_cls hv
    have ht : setB m t = false := by rw [inB, hv] at h; exact h
    rw [ftK, hv, Bool.true_and]
    simp only [hasB, decide_eq_false_iff_not]
    intro hm
    obtain ⟨u, hu, rfl⟩ := List.mem_map.1 hm
    have h2 := hc.lt u hu
    have h3 : ((2 ^ m : Nat) : Int) = (2 : Int) ^ m := by simp
    simp only [setB, Bool.and_eq_false_iff, decide_eq_false_iff_not] at ht
    omega
  · rw [Bool.not_eq_true] at hv
    rw [ftK, hv]
    rfl
theorem ft_vals {m : Nat} {ns : List Nat} (hc : Cls m ns) (hv : vldB m (toI ns) = true) (u : Nat) : ftK (m : Int) (toI ns) (u : Int) = decide (tcs u ns ≠ []) ∧ ftB (m : Int) (toI ns) (u : Int) = (fstNt u ns : Nat) ∧ tnB (m : Int) (toI ns) (u : Int) = tnI u ns := by
  have hk : ftK (m : Int) (toI ns) (u : Int) = decide (u ∈ ns) := by rw [ftK, hv, Bool.true_and, hasB_nat]
  by_cases h : u ∈ ns
  · obtain ⟨h1, h2, _⟩ := ft_eq hc h
    have h1' : fstNt u ns = ftN m u ns := h1
    rw [ftB, tnB, tnI, hk, if_pos (decide_eq_true h), if_pos (decide_eq_true h), if_neg h2, Int.toNat_natCast, Int.toNat_natCast, toNat_toI, h1']
    exact ⟨by simp [h, h2], rfl, rfl⟩
  · have h2 := tcs_none h
    rw [ftB, tnB, tnI, hk, if_neg (by simp [h]), if_neg (by simp [h]), if_pos h2, fstN_none h2]
    exact ⟨by simp [h, h2], rfl, rfl⟩



end Go.Proofs.YtnmilfkocheaiaaGreatDoor

namespace Go.Proofs.YtnmilfkocheaiaaGreatDoor
open Go.RowKit

theorem bst_lt {p : Nat → Bool} {m : Nat} (k : Nat) (hk : k ≤ 2 ^ m) : bstN p (2 ^ m - 1) k < 2 ^ m := by
  have hp := Nat.two_pow_pos m
  induction k with
  | zero => show 2 ^ m - 1 < 2 ^ m; omega
  | succ k ih =>
    rw [bstN_succ]
    split
    · omega
    · exact ih (by omega)

set_option maxRecDepth 100000 in
set_option maxHeartbeats 3200000 in
theorem specFstT (m : Nat) (hm : m ≤ 5) (v : Value) (ns : List Nat) (t : Nat) (w : World) (ht : t ∈ ns) (h32 : ∀ u ∈ ns, u < 32) (hlen : ns.length ≤ 1048576) (h : Rd w v (toI ns)) :
    Calls Tryz.prog 88 #[v, .int .i64 (m : Int), .int .i64 (t : Int)] w fun e w' => e = .returned (.int .i64 ((ftN m t ns : Nat) : Int)) ∧ Below w.heap.size w w' := by
  have HR := Lib.hid h
  have HX := Lib.hid (fun (s : Nat) (hs : s < 32) w0 h0 => specTeaches v ns (t : Int) s w0 h32 hlen hs h0)
  have HB := Lib.hid (show ∀ s, tcB ns (t : Int) s = tch t s ns from fun s => by rw [tcB, hasB_nat, decide_eq_true ht, Int.toNat_natCast]; rfl)
  have h5 := pow_le_32 hm
  have hp := Nat.two_pow_pos m
  have HP := Lib.hid (fun w0 => (specPower (m : Int) w0 (by omega) (by omega)).mono fun e w' h => And.intro h.1 h.2.symm)
  obtain ⟨q, hq⟩ : ∃ q : Nat, q = 2 ^ m := ⟨_, rfl⟩
  have hqI : (2 : Int) ^ m = (q : Int) := by rw [hq]; simp
  rw [Int.toNat_natCast, hqI] at HP
  have HS := Lib.hid (fun (s : Nat) (hs : s < 32) w0 => (specSize s hs w0).mono fun e w' h => And.intro h.1 h.2.symm)
  have HL := Lib.hid (fun k (hk : k ≤ q) => bst_lt (m := m) (p := fun s => tch t s ns) k (by omega))
  have HN := Lib.hid (show ftN m t ns = bstN (fun s => tch t s ns) (q - 1) q by rw [hq]; rfl)
  rw [HN.out]
  rw [← hq] at HL h5 hp
  have HU := Lib.hid (fun k => bstN_succ (fun s => tch t s ns) (q - 1) k)
  have hw1 : IntKind.i64.wrap ((q : Int) - 1) = (q : Int) - 1 := by rw [IntKind.wrap_i64]; omega
  have H0 := Lib.hid (show ((bstN (fun s => tch t s ns) (q - 1) 0 : Nat) : Int) = (q : Int) - 1 by show ((q - 1 : Nat) : Int) = _; omega)
  clear hq hqI ht h32 hlen h HN hm
  go_enter Tryz.func88, Tryz.ntmps88
  go_wp2_with fail
  refine (HP.out _).mono ?_
  rintro e w1 ⟨rfl, hw⟩
  subst w1
  go_wp2_with fail
  go_loopw [7, 8] (fun b i wr => ∃ k : Nat, k ≤ q ∧ i = .int .i64 k ∧ b = .int .i64 ((bstN (fun s => tch t s ns) (q - 1) k : Nat) : Int) ∧ Below w.heap.size w wr) (fun _ i _ => q - (intOf i).toNat)
  case atStart => exact ⟨0, Nat.zero_le _, rfl, by rw [H0.out], Below.refl _ _⟩
  case round =>
    obtain ⟨k, hk, rfl, rfl, hbe⟩ := hrel
    have HBE := Lib.hid hbe
    clear hbe
    by_cases hlt : k < q
    · have hkI : (k : Int) < (q : Int) := by omega
      have HXk := Lib.hid (HX.out k (by omega))
      rw [HB.out] at HXk
      have HUk := Lib.hid (HU.out k)
      have hb32 := HL.out k hk
      have HSk := Lib.hid (HS.out k (by omega))
      have HSb := Lib.hid (HS.out (bstN (fun s => tch t s ns) (q - 1) k) (by omega))
      have hpk := pc_le5 k
      generalize bstN (fun s => tch t s ns) (q - 1) k = b at *
      go_wp2_with fail
      refine (HP.out _).mono ?_
      rintro e w9 ⟨rfl, hw9⟩
      subst w9
      go_wp2_with fail
      by_cases hx : tch t k ns = true
      · rw [hx] at HXk
        refine (HXk.out _ (HR.out.below HBE.out (Nat.le_refl _))).mono ?_
        rintro e w2 ⟨rfl, hb2⟩
        have HB2 := Lib.hid (HBE.out.trans (hb2.mono HBE.out.size))
        clear hb2
        by_cases hc : pc k < pc b
        · have HE := Lib.hid (HUk.out.trans (if_pos ⟨hx, hc⟩))
          have hcI : (pc k : Int) < (pc b : Int) := by omega
          generalize pc k = pk at *
          generalize pc b = pb at *
          go_wp2_with fail
          refine (HSk.out _).mono ?_
          rintro e w9 ⟨rfl, hw9⟩
          subst w9
          go_wp2_with fail
          refine (HSb.out _).mono ?_
          rintro e w9 ⟨rfl, hw9⟩
          subst w9
          go_wp2_with fail
          go_roundw
          case rel => exact ⟨k + 1, by omega, by go_num, by rw [HE.out], HB2.out⟩
          case measure => simp [intOf]; omega
        · have HE := Lib.hid (HUk.out.trans (if_neg (fun h => hc h.2)))
          have hcI : ¬ (pc k : Int) < (pc b : Int) := by omega
          generalize pc k = pk at *
          generalize pc b = pb at *
          go_wp2_with fail
          refine (HSk.out _).mono ?_
          rintro e w9 ⟨rfl, hw9⟩
          subst w9
          go_wp2_with fail
          refine (HSb.out _).mono ?_
          rintro e w9 ⟨rfl, hw9⟩
          subst w9
          go_wp2_with fail
          go_roundw
          case rel => exact ⟨k + 1, by omega, by go_num, by rw [HE.out], HB2.out⟩
          case measure => simp [intOf]; omega
      · have HE := Lib.hid (HUk.out.trans (if_neg (fun h => hx h.1)))
        rw [Bool.not_eq_true] at hx
        rw [hx] at HXk
        refine (HXk.out _ (HR.out.below HBE.out (Nat.le_refl _))).mono ?_
        rintro e w2 ⟨rfl, hb2⟩
        have HB2 := Lib.hid (HBE.out.trans (hb2.mono HBE.out.size))
        clear hb2
        go_wp2_with fail
        go_roundw
        case rel => exact ⟨k + 1, by omega, by go_num, by rw [HE.out], HB2.out⟩
        case measure => simp [intOf]; omega
    · obtain rfl : k = q := by omega
      go_wp2_with fail
      refine (HP.out _).mono ?_
      rintro e w9 ⟨rfl, hw9⟩
      subst w9
      go_wp2_with fail
      go_ret
      exact ⟨rfl, HBE.out⟩

set_option maxRecDepth 100000 in
set_option maxHeartbeats 1600000 in
theorem specEffort (m : Nat) (hm : m ≤ 5) (v : Value) (ns : List Nat) (t : Nat) (w : World) (ht : t ∈ ns) (h32 : ∀ u ∈ ns, u < 32) (hlen : ns.length ≤ 1048576) (h : Rd w v (toI ns)) :
    Calls Tryz.prog 53 #[v, .int .i64 (m : Int), .int .i64 (t : Int)] w fun e w' => e = .returned (.int .i64 ((pc (ftN m t ns) : Nat) : Int)) ∧ Below w.heap.size w w' := by
  have HF := Lib.hid (specFstT m hm v ns t w ht h32 hlen h)
  have hb := bst_lt (p := fun s => tch t s ns) (m := m) (2 ^ m) (Nat.le_refl _)
  have h5 := pow_le_32 hm
  have hl : ftN m t ns < 32 := by
    have : ftN m t ns < 2 ^ m := hb
    omega
  have HS := Lib.hid (fun w0 => specSize (ftN m t ns) hl w0)
  clear hb hl
  generalize ftN m t ns = x at *
  go_enter Tryz.func53, Tryz.ntmps53
  go_wp2_with fail
  refine HF.out.mono ?_
  rintro e w1 ⟨rfl, hb⟩
  go_wp2_with fail
  refine (HS.out _).mono ?_
  rintro e w2 ⟨rfl, rfl⟩
  go_wp2_with fail
  go_ret
  exact ⟨rfl, hb⟩



end Go.Proofs.YtnmilfkocheaiaaGreatDoor

namespace Go.Proofs.YtnmilfkocheaiaaGreatDoor
open Go.RowKit

/-- how many points it takes to teach each set -/
def tns (m : Nat) (ns : List Nat) : List Int := ns.map (fun u => (pc (ftN m u ns) : Int))
theorem tns_len (m : Nat) (ns : List Nat) : (tns m ns).length = ns.length := by simp [tns]
theorem tns_getD {m : Nat} {ns : List Nat} {k : Nat} (hk : k < ns.length) : (tns m ns).getD k 0 = (pc (ftN m (ns.getD k 0) ns) : Int) := by
  simp [tns, List.getD_eq_getElem?_getD, hk]
theorem tns_I {m : Nat} {ns : List Nat} (hc : Cls m ns) {u : Nat} (hu : u ∈ ns) : tnI u ns = (pc (ftN m u ns) : Int) := by
  obtain ⟨h1, h2, _⟩ := ft_eq hc hu
  rw [tnI, if_neg h2, show fstNt u ns = ftN m u ns from h1]
def tnsL (n : Int) (zs : List Int) : List Int := if vldB n zs = true then tns n.toNat (zs.map Int.toNat) else []
theorem tnsL_in {m : Nat} {ns : List Nat} (hv : vldB m (toI ns) = true) : tnsL (m : Int) (toI ns) = tns m ns := by rw [tnsL, if_pos hv, Int.toNat_natCast, toNat_toI]
theorem tnsL_bad {n : Int} {zs : List Int} (hv : vldB n zs = false) : tnsL n zs = [] := by rw [tnsL, hv]; rfl
theorem tnsL_len (n : Int) (zs : List Int) : (tnsL n zs).length ≤ zs.length := by
  unfold tnsL
  split
  · simp [tns]
  · simp

set_option maxRecDepth 100000 in
set_option maxHeartbeats 6400000 in
theorem implTeachingNumbers (n : Int) (v : Value) (zs : List Int) (w : World) (h : Rd w v zs) (hsw : SW w) :
    Calls Tryz.prog 104 #[.agg #[.int .i64 n, v]] w (RetInts (tnsL n zs) w) := by
  have H := Lib.hid h
  have HSW := Lib.hid hsw
  clear hsw
  have HV := Lib.hid (fun w0 h0 => implValid n v zs w0 h0)
  obtain ⟨a, b, off, cap, rfl, h1, h3, h5⟩ := h
  by_cases hv : vldB n zs = true
  · obtain ⟨m, ns, rfl, rfl, hc⟩ := vldB_cls hv
    obtain ⟨i0, hi, hz0, hz1, hz2⟩ := info_parts info3
    have Hz2 := Lib.hid hz2
    clear hz2
    have hl := hc.length
    rw [tnsL_in hv]
    rw [hv] at HV
    rw [toI_length] at *
    have HF := Lib.hid (fun w0 h0 => implFamilyOf (m : Int) (.slice a ns.length cap) ns hc.lt32 w0 h0)
    have HX := Lib.hid (fun u (hu : u ∈ ns) w0 h0 => by
      have := implTnF ns u hc.lt32 hc.asc (hc.lt32 u hu) w0 h0
      rw [tns_I hc hu] at this
      exact this)
    have HG := Lib.hid (fun k (hk : k < ns.length) => tns_getD (m := m) hk)
    have HL := Lib.hid (tns_len m ns)
    have H1 := Lib.hid h1
    have H5 := Lib.hid h5
    clear h1 h5 hc hv
    generalize tns m ns = vs at *
    go_enter Tryz.func104, Tryz.ntmps104
    go_wp2_with fail
    refine (HV.out _ (H.out.below (by go_grown) (Nat.le_refl _))).mono ?_
    rintro e w1 ⟨rfl, hb⟩
    have B1 := Lib.hid ((Box.made (m : Int) (.slice a ns.length cap) w _).next (by simp) hb)
    have hs1 : w.heap.size < w1.heap.size := by have := hb.size; simp at this; omega
    clear hb
    have c0 := B1.out.at0
    have c1 := B1.out.at1
    go_wp2_with fail
    refine (HF.out _ (H.out.below B1.out.below (Nat.le_refl _))).mono ?_
    rintro e w3 ⟨rfl, hb⟩
    have B3 := Lib.hid (B1.out.next hs1 hb)
    have hs3 : w.heap.size < w3.heap.size := by have := hb.size; omega
    clear hb c0 c1 B1
    have c0 := B3.out.at0
    have c1 := B3.out.at1
    go_wp2_with (at_make; refine wpList_make_full _ rfl _ _ 44 rfl w3.heap.size 3 i0 (.int .i64 0) 1 Tryz.underlying44 hi hz0 hz1 _ _ _ _ ns.length rfl rfl rfl rfl (by rw [Hz2.out]; omega) (by unfold maxLen; omega) (Nat.le_refl _) ?_; intro w4 hown hgrow; have hin := Ints.of_made hown; have hb4 : Below w3.heap.size w3 w4 := (Below.refl _ _).grown hgrow (Nat.le_refl _) (fun k hk => by simp at hk); have hz4 := hb4.size; have d1 := (hb4.cell (p := ⟨w.heap.size, 1, none⟩) hs3).trans c1)
    clear hown hgrow hi hz0 hz1
    rw [← HL.out] at hin
    go_loopw [19] (fun i wr => ∃ k : Nat, k ≤ ns.length ∧ i = .int .i64 k ∧ Ints w3.heap.size wr (.slice (some ⟨w3.heap.size, 0, none⟩) ns.length ns.length) (half vs k) ∧ Below w3.heap.size w3 wr) (fun i _ => ns.length - (intOf i).toNat)
    case atStart => exact ⟨0, Nat.zero_le _, rfl, by rw [half_zero]; exact (HL.out ▸ hin), hb4⟩
    case round =>
      obtain ⟨k, hk, rfl, hik, hbk⟩ := hrel
      have Hik := Lib.hid hik
      have Hbk := Lib.hid hbk
      have HBW := Lib.hid (B3.out.below.trans (hbk.mono B3.out.below.size))
      have hzk := hbk.size
      clear hik hbk hin hb4
      by_cases hlt : k < ns.length
      · obtain ⟨rfl, hbl⟩ := H1.out (by omega)
        have hc := (HBW.out.cell (p := ⟨b, off + k, none⟩) hbl).trans (H5.out k hlt)
        rw [toI_getD] at hc
        have HXk := Lib.hid (HX.out _ (getD_of_lt hlt))
        have HS := Lib.hid (half_step vs k (by rw [HL.out]; exact hlt))
        rw [HG.out k hlt] at HS
        generalize ns.getD k 0 = u at *
        generalize (pc (ftN m u ns) : Int) = y at *
        go_wp2_with fail
        refine (HXk.out _ (HSW.out.next HBW.out)).mono ?_
        rintro e w5 ⟨rfl, hb5⟩
        have Hi5 := Lib.hid (Hik.out.below hb5 (Nat.le_refl _))
        have Hb5 := Lib.hid (Hbk.out.trans (hb5.mono hzk))
        clear hb5
        obtain ⟨hs, hf⟩ := Hi5.out.cellAt k (by rw [half_length _ _ (by rw [HL.out]; omega), HL.out]; exact hlt)
        go_wp2_with fail
        go_roundw
        case rel => exact ⟨k + 1, by omega, by go_num, by rw [← HS.out]; exact Hi5.out.store k y, Hb5.out.setCell (Nat.le_refl _) _⟩
        case measure => simp [intOf]; omega
      · go_wp2_with fail
        go_ret
        obtain rfl : k = ns.length := by omega
        have h8 := Hik.out
        rw [← HL.out, half_full, HL.out] at h8
        exact RetInts.of (h8.mono B3.out.below.size) HBW.out
  · rw [Bool.not_eq_true] at hv
    rw [tnsL_bad hv]
    rw [hv] at HV
    clear hv
    go_enter Tryz.func104, Tryz.ntmps104
    go_wp2_with fail
    refine (HV.out _ (H.out.below (by go_grown) (Nat.le_refl _))).mono ?_
    rintro e w1 ⟨rfl, hb⟩
    have B1 := Lib.hid ((Box.made n (.slice a zs.length cap) w _).next (by simp) hb)
    clear hb
    go_wp2_with fail
    go_ret
    exact RetInts.of (Ints.nil _ _) B1.out.below

set_option maxRecDepth 100000 in
set_option maxHeartbeats 6400000 in
theorem specEfforts (m : Nat) (v : Value) (ns : List Nat) (w : World) (hc : Cls m ns) (h : Rd w v (toI ns)) :
    Calls Tryz.prog 31 #[v, .int .i64 (m : Int)] w (RetInts (tns m ns) w) := by
  have H := Lib.hid h
  have hl := hc.length
  have HX := Lib.hid (fun u (hu : u ∈ ns) w0 h0 => specEffort m hc.pts v ns u w0 hu hc.lt32 (by omega) h0)
  obtain ⟨a, b, off, cap, rfl, h1, h3, h5⟩ := h
  rw [toI_length] at *
  have H1 := Lib.hid h1
  have H5 := Lib.hid h5
  have HG := Lib.hid (fun k (hk : k < ns.length) => tns_getD (m := m) hk)
  have HL := Lib.hid (tns_len m ns)
  clear h1 h5 hc
  generalize tns m ns = vs at *
  go_enter Tryz.func31, Tryz.ntmps31
  go_wp2_with fail
  go_loopw [5, 6] (fun o i wr => ∃ k : Nat, k ≤ ns.length ∧ i = .int .i64 k ∧ (∃ a' c', o = .slice a' k c') ∧ Ints w.heap.size wr o (vs.take k) ∧ Below w.heap.size w wr) (fun _ i _ => ns.length - (intOf i).toNat)
  case atStart => exact ⟨0, Nat.zero_le _, rfl, ⟨_, _, rfl⟩, by rw [List.take_zero]; exact Ints.lit' (by simp) (by simp), by go_grown⟩
  case round =>
    obtain ⟨k, hk, rfl, ⟨a', c', rfl⟩, hik, hbk⟩ := hrel
    have Hik := Lib.hid hik
    have Hbk := Lib.hid hbk
    have hzk := hbk.size
    clear hik hbk
    by_cases hlt : k < ns.length
    · obtain ⟨rfl, hbl⟩ := H1.out (by omega)
      have hc := (Hbk.out.cell (p := ⟨b, off + k, none⟩) hbl).trans (H5.out k hlt)
      rw [toI_getD] at hc
      have HXk := Lib.hid (HX.out _ (getD_of_lt hlt))
      have HS := Lib.hid (show vs.take (k + 1) = vs.take k ++ [vs.getD k 0] by
        have h9 : k < vs.length := by rw [HL.out]; exact hlt
        rw [List.take_add_one]; simp [h9])
      rw [HG.out k hlt] at HS
      have HAl := Lib.hid (show (vs.take k).length = k by rw [List.length_take, HL.out]; omega)
      generalize ns.getD k 0 = u at *
      generalize (pc (ftN m u ns) : Nat) = y at *
      generalize vs.take k = A at *
      go_wp2_with fail
      refine (HXk.out _ (H.out.below Hbk.out (Nat.le_refl _))).mono ?_
      rintro e w2 ⟨rfl, hb2⟩
      have I2 := Lib.hid (Hik.out.below hb2 (Nat.le_refl _))
      have B2 := Lib.hid (Hbk.out.trans (hb2.mono hzk))
      have hz2 := B2.out.size
      clear hb2
      go_wp2_with (at_builtin; refine wpList_app rfl (.tmp 14) (.tmp 22) rfl w.heap.size _ A rfl (by exact I2.out.alloc _) _ _ _ [(y : Int)] rfl (src_cell (by rw [World.cell?_alloc_at _ _ _ _ rfl]; rfl)) (by rw [HAl.out]; omega) (by simp; omega) ?_; intro a1 c1 w3 hin3 hb3 hg3)
      rw [HAl.out] at hin3
      have B3 := Lib.hid ((B2.out.alloc hz2 _).grown hg3 (by first | omega | (simp; done) | (simp; omega)) (fun r hr => (I2.out.lt r hr).1))
      have I3 := Lib.hid hin3
      clear hin3 hb3 hg3
      go_roundw
      case rel => exact ⟨k + 1, by omega, by go_num, ⟨a1, c1, by rw [HAl.out]⟩, by rw [HS.out, HAl.out]; exact I3.out, B3.out⟩
      case measure => simp [intOf]; omega
    · obtain rfl : k = ns.length := by omega
      go_wp2_with fail
      go_ret
      have h8 := Hik.out
      rw [← HL.out, List.take_length, HL.out] at h8
      exact RetInts.of h8 Hbk.out


end Go.Proofs.YtnmilfkocheaiaaGreatDoor

namespace Go.Proofs.YtnmilfkocheaiaaGreatDoor
open Go.RowKit

/-- the greatest and the least of the first k numbers, -1 for none -/
def gTo (xs : List Int) : Nat → Int
  | 0 => -1
  | k + 1 => if gTo xs k < xs.getD k 0 then xs.getD k 0 else gTo xs k
def sTo (xs : List Int) : Nat → Int
  | 0 => -1
  | k + 1 => if sTo xs k < 0 ∨ xs.getD k 0 < sTo xs k then xs.getD k 0 else sTo xs k
def natural (xs : List Int) : Prop := ∀ k, k < xs.length → 0 ≤ xs.getD k 0
theorem gTo_step (xs : List Int) (k : Nat) : gTo xs (k + 1) = if gTo xs k < xs.getD k 0 then xs.getD k 0 else gTo xs k := rfl
theorem sTo_step (xs : List Int) (k : Nat) : sTo xs (k + 1) = if sTo xs k < 0 ∨ xs.getD k 0 < sTo xs k then xs.getD k 0 else sTo xs k := rfl
theorem gTo_bd {xs : List Int} (h : natural xs) (k : Nat) (hk : k < xs.length) : 0 ≤ gTo xs (k + 1) := by
  have h1 := h k hk
  rw [gTo_step]
  by_cases hc : gTo xs k < xs.getD k 0
  · rw [if_pos hc]; exact h1
  · rw [if_neg hc]; omega
theorem gTo_one {xs : List Int} (h : natural xs) (h0 : 0 < xs.length) : gTo xs 1 = xs.getD 0 0 := by
  have h1 := h 0 h0
  have e : gTo xs 0 = -1 := rfl
  rw [gTo_step, if_pos (by omega)]
theorem sTo_bd {xs : List Int} (h : natural xs) (k : Nat) (hk : k < xs.length) : 0 ≤ sTo xs (k + 1) := by
  have h1 := h k hk
  rw [sTo_step]
  by_cases hc : sTo xs k < 0 ∨ xs.getD k 0 < sTo xs k
  · rw [if_pos hc]; exact h1
  · rw [if_neg hc]; omega
theorem sTo_one (xs : List Int) : sTo xs 1 = xs.getD 0 0 := by
  have e : sTo xs 0 = -1 := rfl
  rw [sTo_step, if_pos (.inl (by omega))]

set_option maxHeartbeats 800000 in
theorem slicesMax (v : Value) (xs : List Int) (w : World) (h : Rd w v xs) (hn : natural xs) (h0 : 0 < xs.length) :
    Calls Tryz.prog 105 #[v] w fun e w' => e = .returned (.int .i64 (gTo xs xs.length)) ∧ w = w' := by
  obtain ⟨a, b, off, cap, rfl, h1, h3, h5⟩ := h
  have H5 := Lib.hid h5
  have HG := Lib.hid (gTo_one hn h0)
  obtain ⟨rfl, _⟩ := h1 h0
  have hc0 := h5 0 h0
  rw [Nat.add_zero] at hc0
  generalize xs.getD 0 0 = x0 at hc0 HG
  clear h5
  have h0I : (0 : Int) < (xs.length : Int) := by omega
  have h0J : ¬ (xs.length : Int) < 1 := by omega
  go_enter Tryz.func105, Tryz.ntmps105
  go_wp2
  go_loop [3, 4] (fun m i => ∃ k : Nat, 0 < k ∧ k ≤ xs.length ∧ i = .int .i64 k ∧ m = .int .i64 (gTo xs k)) (fun _ i => xs.length - (intOf i).toNat)
  case atStart => exact ⟨1, by omega, by omega, rfl, by rw [HG.out]⟩
  case round =>
    obtain ⟨k, hk0, hk, rfl, rfl⟩ := hrel
    by_cases hlt : k < xs.length
    · have hc := H5.out k hlt
      have HS := Lib.hid (show gTo xs (k + 1) = if gTo xs k < xs.getD k 0 then xs.getD k 0 else gTo xs k from rfl)
      generalize xs.getD k 0 = x at *
      generalize gTo xs k = g at *
      by_cases hx : g < x
      · have HE := Lib.hid (HS.out.trans (if_pos hx))
        go_wp2
        go_round
        case rel => exact ⟨k + 1, by omega, by omega, by go_num, by rw [HE.out]⟩
        case measure => simp [intOf]; omega
      · have HE := Lib.hid (HS.out.trans (if_neg hx))
        go_wp2
        go_round
        case rel => exact ⟨k + 1, by omega, by omega, by go_num, by rw [HE.out]⟩
        case measure => simp [intOf]; omega
    · obtain rfl : k = xs.length := by omega
      go_wp2
      go_ret
      exact ⟨rfl, rfl⟩


set_option maxHeartbeats 800000 in
theorem specGreatest (v : Value) (xs : List Int) (w : World) (h : Rd w v xs) :
    Calls Tryz.prog 30 #[v] w fun e w' => e = .returned (.int .i64 (gTo xs xs.length)) ∧ w = w' := by
  obtain ⟨a, b, off, cap, rfl, h1, h3, h5⟩ := h
  have H5 := Lib.hid h5
  have H1 := Lib.hid h1
  clear h5 h1
  go_enter Tryz.func30, Tryz.ntmps30
  go_wp2
  go_loop [3, 4] (fun m i => ∃ k : Nat, k ≤ xs.length ∧ i = .int .i64 k ∧ m = .int .i64 (gTo xs k)) (fun _ i => xs.length - (intOf i).toNat)
  case atStart => exact ⟨0, by omega, rfl, rfl⟩
  case round =>
    obtain ⟨k, hk, rfl, rfl⟩ := hrel
    by_cases hlt : k < xs.length
    · obtain ⟨rfl, _⟩ := H1.out (by omega)
      have hc := H5.out k hlt
      have HS := Lib.hid (gTo_step xs k)
      generalize xs.getD k 0 = x at *
      generalize gTo xs k = g at *
      by_cases hx : g < x
      · have HE := Lib.hid (HS.out.trans (if_pos hx))
        go_wp2
        go_round
        case rel => exact ⟨k + 1, by omega, by go_num, by rw [HE.out]⟩
        case measure => simp [intOf]; omega
      · have HE := Lib.hid (HS.out.trans (if_neg hx))
        go_wp2
        go_round
        case rel => exact ⟨k + 1, by omega, by go_num, by rw [HE.out]⟩
        case measure => simp [intOf]; omega
    · obtain rfl : k = xs.length := by omega
      go_wp2
      go_ret
      exact ⟨rfl, rfl⟩

set_option maxHeartbeats 800000 in
theorem specSmallest (v : Value) (xs : List Int) (w : World) (h : Rd w v xs) :
    Calls Tryz.prog 54 #[v] w fun e w' => e = .returned (.int .i64 (sTo xs xs.length)) ∧ w = w' := by
  obtain ⟨a, b, off, cap, rfl, h1, h3, h5⟩ := h
  have H5 := Lib.hid h5
  have H1 := Lib.hid h1
  clear h5 h1
  go_enter Tryz.func54, Tryz.ntmps54
  go_wp2
  go_loop [3, 4] (fun m i => ∃ k : Nat, k ≤ xs.length ∧ i = .int .i64 k ∧ m = .int .i64 (sTo xs k)) (fun _ i => xs.length - (intOf i).toNat)
  case atStart => exact ⟨0, by omega, rfl, rfl⟩
  case round =>
    obtain ⟨k, hk, rfl, rfl⟩ := hrel
    by_cases hlt : k < xs.length
    · obtain ⟨rfl, _⟩ := H1.out (by omega)
      have hc := H5.out k hlt
      have HS := Lib.hid (sTo_step xs k)
      generalize xs.getD k 0 = x at *
      generalize sTo xs k = g at *
      by_cases hg : g < 0
      · have HE := Lib.hid (HS.out.trans (if_pos (.inl hg)))
        go_wp2
        go_round
        case rel => exact ⟨k + 1, by omega, by go_num, by rw [HE.out]⟩
        case measure => simp [intOf]; omega
      · by_cases hx : x < g
        · have HE := Lib.hid (HS.out.trans (if_pos (.inr hx)))
          go_wp2
          go_round
          case rel => exact ⟨k + 1, by omega, by go_num, by rw [HE.out]⟩
          case measure => simp [intOf]; omega
        · have HE := Lib.hid (HS.out.trans (if_neg (fun h => h.elim hg hx)))
          go_wp2
          go_round
          case rel => exact ⟨k + 1, by omega, by go_num, by rw [HE.out]⟩
          case measure => simp [intOf]; omega
    · obtain rfl : k = xs.length := by omega
      go_wp2
      go_ret
      exact ⟨rfl, rfl⟩

end Go.Proofs.YtnmilfkocheaiaaGreatDoor
