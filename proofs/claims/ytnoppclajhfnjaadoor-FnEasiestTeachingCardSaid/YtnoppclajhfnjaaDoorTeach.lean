/- IsTeaching, the program's. Conditions: Sets is a slice of ints; the table setsWith is laid. -/
import Derived.Deep.RegionHeld3
import Derived.Test.YtnoppclajhfnjaaDoorIter
namespace Go.Proofs.YtnoppclajhfnjaaDoor
open Go.RowKit Go.Shelf
attribute [local go_sem] Oper.semAt_some

theorem lft_32 {t : Nat} {xs l : List Nat} (h : ∀ u ∈ l, u < 32) : ∀ u ∈ lft t xs l, u < 32 := fun u hu => by
  rw [lft_filter] at hu
  exact h u (List.mem_filter.1 hu).1

/-- what a round of agreeing has done -/
theorem agree_step {N : Nat} {W w2 : World} (v : Value) {v0 vt : Value} (hN : N + 1 + 1 < W.heap.size) (hb : Below W.heap.size W w2)
    (hc : W.cell? ⟨N, 0, none⟩ = some v0) (hf : W.frozen? ⟨N, 0, none⟩ = false) (ht : W.cell? ⟨N + 1, 0, none⟩ = some vt) :
    KeepsOthers W (w2.setCell ⟨N, 0, none⟩ v) ∧ Kc (N + 1 + 1) W (w2.setCell ⟨N, 0, none⟩ v) ∧
    ((w2.setCell ⟨N, 0, none⟩ v).cell? ⟨N, 0, none⟩ = some v ∧ (w2.setCell ⟨N, 0, none⟩ v).frozen? ⟨N, 0, none⟩ = false ∧ (w2.setCell ⟨N, 0, none⟩ v).cell? ⟨N + 1, 0, none⟩ = some vt) := by
  refine ⟨(keeps_below hb).trans (KeepsOthers.setCell _ _ _), fun u hu => ?_, ?_, ?_, ?_⟩
  · rw [World.cell?_setCell_far _ _ _ _ (by show N ≠ N + 1 + 1; omega)]
    exact (hb.cell (p := ⟨N + 1 + 1, 0, none⟩) hN).trans hu
  · exact World.cell?_setCell_same' _ _ _ (by rw [hb.cell (p := ⟨N, 0, none⟩) (by show N < _; omega), hc]; rfl)
  · rw [World.frozen?_setCell]
    exact (hb.frozen (p := ⟨N, 0, none⟩) (by show N < _; omega)).trans hf
  · rw [World.cell?_setCell_far _ _ _ _ (by show N ≠ N + 1; omega)]
    exact (hb.cell (p := ⟨N + 1, 0, none⟩) (by show N + 1 < _; omega)).trans ht

set_option maxRecDepth 100000 in
set_option maxHeartbeats 6400000 in
theorem implAgreeing (l : List Nat) (t s : Nat) (h32 : ∀ u ∈ l, u < 32) (ht : t < 32) (hs : s < 32) (w : World) (hsw : SW w) :
    Calls Tryd.prog 102 #[.int .u32 (fm l), .int .i64 (t : Int), .int .i64 (s : Int)] w fun e w' => e = .returned (.int .u32 (fm (agr t s l))) ∧ Below w.heap.size w w' := by
  refine (callsIn_wide (n := 3)).1 ?_
  refine callsIn_of_wp_marks Tryd.func102 rfl trivial ?_ rfl
  simp only [Tryd.ntmps102, List.size_toArray, List.length_cons, List.length_nil, Nat.reduceAdd, Nat.reduceSub, Array.replicate_succ, Array.replicate_zero, List.push_toArray, List.append_toArray, List.nil_append, List.cons_append]
  gi_wp2_with (refine ⟨trivial, ?_⟩; gi_at_call 71; refine (callsIn_wide.2 (implPointsOf s _)).mono ?_; rintro e w' ⟨rfl, rfl⟩)
  have c0 := cell_new_l w (.int .u32 (fm l)) 62
  have c1 := cell_new_l (w.alloc (.cells #[.int .u32 (fm l)] 62)) (.int .i64 (t : Int)) 3
  have c2 := cell_new_l ((w.alloc (.cells #[.int .u32 (fm l)] 62)).alloc (.cells #[.int .i64 (t : Int)] 3)) (.int .i64 (s : Int)) 3
  simp only [World.size_alloc] at c1 c2
  have hB0 : Below w.heap.size w (((w.alloc (.cells #[.int .u32 (fm l)] 62)).alloc (.cells #[.int .i64 (t : Int)] 3)).alloc (.cells #[.int .i64 (s : Int)] 3)) := (((Below.refl _ w).alloc (Nat.le_refl _) _).alloc (by simp) _).alloc (by simp; omega) _
  refine wpIn_rangeFunc_ownF rfl (by omega) (gf := 110) (lb := #[.pointer (some ⟨w.heap.size + 1 + 1, 0, none⟩)]) rfl trivial (enters_of Tryd.func110 (by kernel_rfl) rfl)
    (ptsStops Fence.wide _ trivial rfl (by omega) (w.heap.size + 1 + 1) s hs _ c2.1) kc_t kc_b (Below.refl _ _) (fun _ => rfl)
    (fun pre W => (W.cell? ⟨w.heap.size, 0, none⟩ = some (.int .u32 (fm (lft t (pre.map Fin.val) l))) ∧ W.frozen? ⟨w.heap.size, 0, none⟩ = false ∧ W.cell? ⟨w.heap.size + 1, 0, none⟩ = some (.int .i64 (t : Int))) ∧ (Below w.heap.size w W ∧ w.heap.size + 1 + 1 < W.heap.size))
    (fun _ _ _ => False)
    (OwnFrom.and (Own.from (fun s A B row hs hg hr => ⟨cell_kept hs.1 hg hr, (frozen_kept hs.1 hg hr).trans hs.2.1, cell_kept hs.2.2 hg hr⟩) _) (OwnFrom.and (ownFrom_below (Nat.le_refl _) (by simp; omega)) (fun s A B row hs hg hr => Nat.lt_of_lt_of_le hs hg.size)))
    (fun _ _ _ _ _ hs _ _ => hs)
    ⟨⟨cell_alloc_l _ (cell_alloc_l _ c0.1), frozen_alloc_l _ (cell_alloc_l _ c0.1) (frozen_alloc_l _ c0.1 c0.2), cell_alloc_l _ c1.1⟩, hB0, by simp⟩
    (fun x => { tmps := #[.int .u32 (fm l), .int .i64 (t : Int), .int .i64 (s : Int), .pointer (some ⟨w.heap.size, 0, none⟩), .pointer (some ⟨w.heap.size + 1, 0, none⟩), undef, .int .u32 0, .int .i64 ((x.val : Nat) : Int), .int .i64 (s : Int), .func (.func 110) #[] #[.pointer (some ⟨w.heap.size + 1 + 1, 0, none⟩)], .int .i64 ((x.val : Nat) : Int), undef, undef, undef, undef, undef, undef], defers := [] }) ?assign ?body ?done ?stop
  case assign =>
    intro l0 x W K hK
    gi_wp2
    exact hK
  case body =>
    rintro l0 pre x W ⟨⟨hc, hf, hct⟩, hB, hN⟩ _
    have hswW := hsw.next hB
    have hl2 := lft_32 (t := t) (xs := pre.map Fin.val) h32
    have HLn := Lib.hid (show lft t ((pre ++ [x]).map Fin.val) l = kp (lft t (pre.map Fin.val) l) ((x.val : Int), hasX x.val t) by rw [List.map_append, List.map_singleton, lft_snoc])
    generalize lft t (pre.map Fin.val) l = L at *
    have hd : 1 ≤ 3 - 1 - 1 := by omega
    have hmx : Tryd.prog.follows .mixedOrders = true := by kernel_rfl
    gi_wp2
    gi_region_with_o (first
      | (refine ⟨trivial, ?_⟩; gi_at_call 124; refine (CallsIn.inRound l0 (callsIn_wide.2 (implLabelled t x.val ht x.isLt _))).mono ?_; rintro e w1 ⟨rfl, hb1⟩; have hB1 : Below W.heap.size W w1 := (by first | exact hb1 | exact ⟨hb1.os, hb1.tape, hb1.output, hb1.size, hb1.block⟩); clear hb1; have hc1 := (hB1.cell (p := ⟨w.heap.size, 0, none⟩) (by show w.heap.size < _; omega)).trans hc)
      | (refine ⟨trivial, ?_⟩; gi_at_call 120; refine (CallsIn.inRound l0 (callsIn_wide.2 (implFitting L x.val (hasX x.val t) x.isLt _ (hswW.next hB1)))).mono ?_; rintro e w2 ⟨rfl, hb2⟩; have hB2 : Below W.heap.size W w2 := hB1.trans (hb2.mono hB1.size); have hf2 := (hB2.frozen (p := ⟨w.heap.size, 0, none⟩) (by show w.heap.size < _; omega)).trans hf; have hc2 := (hB2.cell (p := ⟨w.heap.size, 0, none⟩) (by show w.heap.size < _; omega)).trans hc))
    all_goals gi_wp2
    all_goals (try go_bits)
    all_goals
      obtain ⟨k1, k2, k3, k4, k5⟩ := agree_step (v := .int .u32 (fm (kp L ((x.val : Int), hasX x.val t)))) hN hB2 hc hf hct
      exact ⟨k1, k2, ⟨by rw [HLn.out]; exact k3, k4, k5⟩, (hB.trans (hB2.mono hB.size)).setCell (p := ⟨w.heap.size, 0, none⟩) (Nat.le_refl _) _, Nat.lt_of_lt_of_le hN k1.size⟩
  case done =>
    rintro D ys W hD rfl ⟨⟨hc, _, _⟩, hB, _⟩ hK
    rw [ptF_all hs, agr_all ht hs h32] at hc
    gi_wp2
    refine ⟨by simp, .inl ⟨_, _, rfl, run_takeDeferred hK, ?_⟩⟩
    exact ⟨_, results_tmp rfl _ _ _, rfl, hB.trans (belowK_b (w := w) (Nat.le_refl _) W D _ _ (by simp at hD; omega) hK rfl rfl)⟩
  case stop =>
    rintro D c pre W _ _ h _
    exact h.elim

end Go.Proofs.YtnoppclajhfnjaaDoor
