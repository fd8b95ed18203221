/- leastOf at ints, with the measure sizeOf: all values of the least measure, in order. Conditions: the iterator gives small numbers. -/
import Derived.Test.YtnoppclajhfnjaaDoorIter2
import Derived.Test.YtnoppclajhfnjaaDoorLeastH
namespace Go.Proofs.YtnoppclajhfnjaaDoor
open Go.RowKit Go.Shelf
attribute [local go_sem] Oper.semAt_some

set_option maxRecDepth 100000 in
set_option maxHeartbeats 12800000 in
theorem implLeastSize (gf : Nat) (lb : Array Value) (cs : List (Addr × Value)) (L : List (Fin 32)) (hL : L.length ≤ 32) (w : World)
    (eg : ∀ args w, (callFunc gf args).run Tryd.prog w = .ok (.enter gf args) w)
    (hseq : ∀ n w0, 1 ≤ n → CS cs w0 → SeqStopsK Fence.wide n Tryd.prog gf lb encG (Kcs cs) (fun xs => xs = L) (fun pre => pre <+: L) 32 w0)
    (HM : Hid (∀ (x : Fin 32) (W : World), CS cs W → Calls Tryd.prog 61 #[.int .i64 ((x.val : Nat) : Int)] W fun e w' => e = .returned (.int .i64 (pc x.val : Nat)) ∧ Below W.heap.size W w'))
    (hcs0 : CS cs w) :
    Calls Tryd.prog 112 #[.func (.func gf) #[] lb, (.func (.func 61) #[] #[])] w (RetInts (toI (lmn (fun s => (pc s : Int)) (L.map Fin.val)).1) w) := by
  obtain ⟨i0, hi, hz0, hz1, hz2⟩ := info_parts infoI
  have hlo : ∀ p ∈ cs, p.1.block < w.heap.size := hcs0.lt
  refine (callsIn_wide (n := 3)).1 ?_
  refine callsIn_of_wp_marks Tryd.func112 rfl trivial ?_ rfl
  simp only [Tryd.ntmps112, List.size_toArray, List.length_cons, List.length_nil, Nat.reduceAdd, Nat.reduceSub, Array.replicate_succ, Array.replicate_zero, List.push_toArray, List.append_toArray, List.nil_append, List.cons_append]
  gi_wp2
  have bM := Boxed.new w 42 (.func (.func 61) #[] #[])
  have bO := Boxed.new (w.alloc (.cells #[(.func (.func 61) #[] #[])] 42)) 22 (.slice none 0 0)
  have bL := Boxed.new ((w.alloc (.cells #[(.func (.func 61) #[] #[])] 42)).alloc (.cells #[.slice none 0 0] 22)) 3 (.int .i64 0)
  simp only [World.size_alloc] at bO bL
  have hB0 : Below w.heap.size w (((w.alloc (.cells #[(.func (.func 61) #[] #[])] 42)).alloc (.cells #[.slice none 0 0] 22)).alloc (.cells #[.int .i64 0] 3)) := (((Below.refl _ w).alloc (Nat.le_refl _) _).alloc (by simp) _).alloc (by simp; omega) _
  refine wpIn_rangeFunc_ownF rfl (by omega) (gf := gf) (lb := lb) rfl trivial eg
    (hseq _ _ (by omega) (hcs0.next hB0)) kcs_t kcs_b (Below.refl _ _) (fun _ => rfl)
    (fun pre W => (∃ v, Boxed W (w.heap.size + 1) 22 v ∧ W.ownsRow (w.heap.size + 1 + 1 + 1) 3 1 v (lA (fun s => (pc s : Int)) pre).length (ivs (lA (fun s => (pc s : Int)) pre)) ∧ (v = .slice none 0 0 ↔ lA (fun s => (pc s : Int)) pre = []))
      ∧ (Boxed W w.heap.size 42 (.func (.func 61) #[] #[]) ∧ Boxed W (w.heap.size + 1 + 1) 3 (.int .i64 (lM (fun s => (pc s : Int)) pre)) ∧ CS cs W) ∧ (Below w.heap.size w W ∧ w.heap.size + 1 + 1 + 1 ≤ W.heap.size))
    (fun _ _ _ => False)
    (OwnFrom.and (Own.from (holdsRow_own (w.heap.size + 1 + 1 + 1) (w.heap.size + 1) 22 3 1 (fun pre => (lA (fun s => (pc s : Int)) pre).length) (fun pre => ivs (lA (fun s => (pc s : Int)) pre)) (fun pre v => v = .slice none 0 0 ↔ lA (fun s => (pc s : Int)) pre = [])) _)
      (OwnFrom.and (Own.from (fun s A B row hs hg hr => ⟨boxed_keeps hs.1 hg hr, boxed_keeps hs.2.1 hg hr, cs_own cs s A B row hs.2.2 hg hr⟩) _)
        (OwnFrom.and (ownFrom_below (Nat.le_refl _) (by simp; omega)) (fun s A B row hs hg hr => Nat.le_trans hs hg.size))))
    (fun _ _ _ _ _ hs _ _ => hs)
    ⟨⟨_, bO.alloc _, World.ownsRow_nil _ _ _ _, by simp [lA, lmn]⟩, ⟨(bM.alloc _).alloc _, bL, hcs0.next hB0⟩, hB0, by simp⟩
    (fun x => { tmps := #[.func (.func gf) #[] lb, (.func (.func 61) #[] #[]), undef, .pointer (some ⟨w.heap.size, 0, none⟩), .slice none 0 0, .pointer (some ⟨w.heap.size + 1, 0, none⟩), .pointer (some ⟨w.heap.size + 1 + 1, 0, none⟩), .int .i64 ((x.val : Nat) : Int), undef, .func (.func gf) #[] lb, .int .i64 ((x.val : Nat) : Int), undef, undef, undef, undef, undef, undef, undef, undef, undef, undef, undef, undef, undef, undef, undef, undef, undef, undef, undef, undef, undef, undef], defers := [] }) ?assign ?body ?done ?stop
  case assign =>
    intro l0 x W K hK
    gi_wp2
    exact hK
  case body =>
    rintro l0 pre x W ⟨⟨v, hv, hrow, hnil⟩, ⟨hM, hLb, hcs⟩, hB, hN⟩ hlen
    have HNX := Lib.hid (lmn_next (fun s => (pc s : Int)) pre x)
    have hlA : (lA (fun s => (pc s : Int)) pre).length ≤ 32 := by
      have := lmn_len (fun s => (pc s : Int)) (pre.map Fin.val)
      rw [List.length_map] at this
      show (lmn _ _).1.length ≤ 32
      omega
    have hmv := hM.cell
    simp only [lA, lM] at hrow hnil hLb hlA
    generalize lmn (fun s => (pc s : Int)) (pre.map Fin.val) = am at *
    obtain ⟨A, M⟩ := am
    dsimp only at hrow hnil hLb hlA HNX
    obtain ⟨m, hm⟩ : ∃ m : Int, m = (pc x.val : Int) := ⟨_, rfl⟩
    have HMx := Lib.hid (HM.out x)
    rw [← hm] at HMx
    have HLS := Lib.hid (show lstep (fun s => (pc s : Int)) (A, M) x.val = if A = [] ∨ m < M then ([x.val], m) else if m = M then (A ++ [x.val], M) else (A, M) by rw [hm]; rfl)
    clear hm
    by_cases hA : A = []
    · obtain rfl : v = .slice none 0 0 := hnil.2 hA
      subst hA
      have HA : lA (fun s => (pc s : Int)) (pre ++ [x]) = [x.val] := by show (lmn _ _).1 = _; rw [HNX.out, HLS.out, if_pos (Or.inl (rfl : ([] : List Nat) = []))]
      have HM2 : lM (fun s => (pc s : Int)) (pre ++ [x]) = m := by show (lmn _ _).2 = _; rw [HNX.out, HLS.out, if_pos (Or.inl (rfl : ([] : List Nat) = []))]
      gi_wp2
      refine ⟨trivial, ?_⟩
      gi_at_call 61
      refine (CallsIn.inRound l0 (callsIn_wide.2 (HMx.out _ hcs))).mono ?_
      rintro e W1 ⟨rfl, hb1⟩
      have bO1 := hv.kept (grown_none hb1) (by simp)
      have bL1 := hLb.kept (grown_none hb1) (by simp)
      have bM1 := hM.kept (grown_none hb1) (by simp)
      have hN1 : w.heap.size + 1 + 1 + 1 ≤ W1.heap.size := Nat.le_trans hN hb1.size
      have o1 := bO1.cell
      have o2 := bO1.frozen
      have l1 := bL1.cell
      have l2 := bL1.frozen
      have bO2 : Boxed ((W1.setCell ⟨w.heap.size + 1, 0, none⟩ (.slice none 0 0)).setCell ⟨w.heap.size + 1 + 1, 0, none⟩ (.int .i64 m)) (w.heap.size + 1) 22 (.slice none 0 0) := boxed_far (bO1.set (.slice none 0 0)) _ (by omega)
      have bL2 : Boxed ((W1.setCell ⟨w.heap.size + 1, 0, none⟩ (.slice none 0 0)).setCell ⟨w.heap.size + 1 + 1, 0, none⟩ (.int .i64 m)) (w.heap.size + 1 + 1) 3 (.int .i64 m) := (boxed_far bL1 (.slice none 0 0) (by omega)).set _
      have bM2 : Boxed ((W1.setCell ⟨w.heap.size + 1, 0, none⟩ (.slice none 0 0)).setCell ⟨w.heap.size + 1 + 1, 0, none⟩ (.int .i64 m)) w.heap.size 42 (.func (.func 61) #[] #[]) := boxed_far (boxed_far bM1 (.slice none 0 0) (by omega)) _ (by omega)
      have l3 := bL2.cell
      have o3 := bO2.cell
      have o4 := bO2.frozen
      have r2 : ((W1.setCell ⟨w.heap.size + 1, 0, none⟩ (.slice none 0 0)).setCell ⟨w.heap.size + 1 + 1, 0, none⟩ (.int .i64 m)).ownsRow (w.heap.size + 1 + 1 + 1) 3 1 (.slice none 0 0) 0 [] := World.ownsRow_nil _ _ _ _
      gi_wp2_with (gi_at_builtin; refine wpListIn_append_own _ rfl _ _ 22 rfl (w.heap.size + 1 + 1 + 1) 3 i0 (.int .i64 0) 1 8 Tryd.underlying22 hi hz0 hz1 hz2 rfl (by decide) _ _ _ rfl (r2.alloc _) ⟨W1.heap.size, 0, none⟩ 1 1 [.int .i64 ((x.val : Nat) : Int)] rfl rfl (by have h9 := cell_one_new ((W1.setCell ⟨w.heap.size + 1, 0, none⟩ (.slice none 0 0)).setCell ⟨w.heap.size + 1 + 1, 0, none⟩ (.int .i64 m)) (.int .i64 ((x.val : Nat) : Int)) 3; have h8 : ((W1.setCell ⟨w.heap.size + 1, 0, none⟩ (.slice none 0 0)).setCell ⟨w.heap.size + 1 + 1, 0, none⟩ (.int .i64 m)).heap.size = W1.heap.size := (by first | rfl | simp); rw [h8] at h9; exact h9) (by simp [Value.oneCell']) (by unfold maxLen; omega) (by omega) (by first | omega | (simp; omega)) ?_; intro v' w1 hown' hgrow _; obtain ⟨g', cap', rfl⟩ := ownsRow_succ hown'; obtain ⟨hv1, hv2, hr2, hk2, hb2⟩ := appended2 (N := w.heap.size) bO2 (by decide) r2 (by omega) (by first | omega | (simp; omega)) (by omega) hown' hgrow; have hc1 := hv1.cell; have hf1 := hv1.frozen)
      have bM3 := boxed_far ((bM2.alloc _).kept hgrow (own_ne r2 (by omega))) (.slice (some ⟨g', 0, none⟩) (0 + 1) cap') (show w.heap.size ≠ w.heap.size + 1 by omega)
      have bL3 := boxed_far ((bL2.alloc _).kept hgrow (own_ne r2 (by omega))) (.slice (some ⟨g', 0, none⟩) (0 + 1) cap') (show w.heap.size + 1 + 1 ≠ w.heap.size + 1 by omega)
      have hBel := (((hb1.mono hB.size).setCell (p := ⟨w.heap.size + 1, 0, none⟩) (by show w.heap.size ≤ w.heap.size + 1; omega) _).setCell (p := ⟨w.heap.size + 1 + 1, 0, none⟩) (by show w.heap.size ≤ w.heap.size + 1 + 1; omega) _).trans hb2
      exact ⟨(((keeps_below hb1).trans (KeepsOthers.setCell _ _ _)).trans (KeepsOthers.setCell _ _ _)).trans hk2, fun hh => hh.below hBel hlo, ⟨⟨_, hv2, by rw [HA]; simpa [ivs, toI] using hr2, by rw [HA]; simp⟩, ⟨bM3, by rw [HM2]; exact bL3, hcs.below hBel hlo⟩, hB.trans hBel, Nat.le_trans hN hBel.size⟩⟩
    · obtain ⟨k, hk⟩ : ∃ k, A.length = k + 1 := ⟨A.length - 1, by have := List.length_pos_iff.2 hA; omega⟩
      rw [hk] at hrow hlA
      obtain ⟨g, cap, rfl⟩ := ownsRow_succ hrow
      have hd0 : (((k + 1 : Nat) : Int) == 0) = false := by simp; omega
      have hd1 : ((k : Int) + 1 == 0) = false := by simp; omega
      have hd2 : ¬ (k : Int) + 1 = 0 := by omega
      clear hnil
      by_cases hlt : m < M
      · have hdm : decide (m < M) = true := decide_eq_true hlt
        have HA : lA (fun s => (pc s : Int)) (pre ++ [x]) = [x.val] := by show (lmn _ _).1 = _; rw [HNX.out, HLS.out, if_pos (.inr hlt)]
        have HM2 : lM (fun s => (pc s : Int)) (pre ++ [x]) = m := by show (lmn _ _).2 = _; rw [HNX.out, HLS.out, if_pos (.inr hlt)]
        gi_wp2
        refine ⟨trivial, ?_⟩
        gi_at_call 61
        refine (CallsIn.inRound l0 (callsIn_wide.2 (HMx.out _ hcs))).mono ?_
        rintro e W1 ⟨rfl, hb1⟩
        have bO1 := hv.kept (grown_none hb1) (by simp)
        have bL1 := hLb.kept (grown_none hb1) (by simp)
        have bM1 := hM.kept (grown_none hb1) (by simp)
        have hN1 : w.heap.size + 1 + 1 + 1 ≤ W1.heap.size := Nat.le_trans hN hb1.size
        have o1 := bO1.cell
        have o2 := bO1.frozen
        have l1 := bL1.cell
        have l2 := bL1.frozen
        have bO2 : Boxed ((W1.setCell ⟨w.heap.size + 1, 0, none⟩ (.slice (some ⟨g, 0, none⟩) 0 cap)).setCell ⟨w.heap.size + 1 + 1, 0, none⟩ (.int .i64 m)) (w.heap.size + 1) 22 (.slice (some ⟨g, 0, none⟩) 0 cap) := boxed_far (bO1.set (.slice (some ⟨g, 0, none⟩) 0 cap)) _ (by omega)
        have bL2 : Boxed ((W1.setCell ⟨w.heap.size + 1, 0, none⟩ (.slice (some ⟨g, 0, none⟩) 0 cap)).setCell ⟨w.heap.size + 1 + 1, 0, none⟩ (.int .i64 m)) (w.heap.size + 1 + 1) 3 (.int .i64 m) := (boxed_far bL1 (.slice (some ⟨g, 0, none⟩) 0 cap) (by omega)).set _
        have bM2 : Boxed ((W1.setCell ⟨w.heap.size + 1, 0, none⟩ (.slice (some ⟨g, 0, none⟩) 0 cap)).setCell ⟨w.heap.size + 1 + 1, 0, none⟩ (.int .i64 m)) w.heap.size 42 (.func (.func 61) #[] #[]) := boxed_far (boxed_far bM1 (.slice (some ⟨g, 0, none⟩) 0 cap) (by omega)) _ (by omega)
        have l3 := bL2.cell
        have o3 := bO2.cell
        have o4 := bO2.frozen
        have r2 : ((W1.setCell ⟨w.heap.size + 1, 0, none⟩ (.slice (some ⟨g, 0, none⟩) 0 cap)).setCell ⟨w.heap.size + 1 + 1, 0, none⟩ (.int .i64 m)).ownsRow (w.heap.size + 1 + 1 + 1) 3 1 (.slice (some ⟨g, 0, none⟩) 0 cap) 0 [] := own_far (own_far (own_cut (own_none hrow hb1)) (by omega)) (by omega)
        gi_wp2_with (gi_at_builtin; refine wpListIn_append_own _ rfl _ _ 22 rfl (w.heap.size + 1 + 1 + 1) 3 i0 (.int .i64 0) 1 8 Tryd.underlying22 hi hz0 hz1 hz2 rfl (by decide) _ _ _ rfl (r2.alloc _) ⟨W1.heap.size, 0, none⟩ 1 1 [.int .i64 ((x.val : Nat) : Int)] rfl rfl (by have h9 := cell_one_new ((W1.setCell ⟨w.heap.size + 1, 0, none⟩ (.slice (some ⟨g, 0, none⟩) 0 cap)).setCell ⟨w.heap.size + 1 + 1, 0, none⟩ (.int .i64 m)) (.int .i64 ((x.val : Nat) : Int)) 3; have h8 : ((W1.setCell ⟨w.heap.size + 1, 0, none⟩ (.slice (some ⟨g, 0, none⟩) 0 cap)).setCell ⟨w.heap.size + 1 + 1, 0, none⟩ (.int .i64 m)).heap.size = W1.heap.size := (by first | rfl | simp); rw [h8] at h9; exact h9) (by simp [Value.oneCell']) (by unfold maxLen; omega) (by omega) (by first | omega | (simp; omega)) ?_; intro v' w1 hown' hgrow _; obtain ⟨g', cap', rfl⟩ := ownsRow_succ hown'; obtain ⟨hv1, hv2, hr2, hk2, hb2⟩ := appended2 (N := w.heap.size) bO2 (by decide) r2 (by omega) (by first | omega | (simp; omega)) (by omega) hown' hgrow; have hc1 := hv1.cell; have hf1 := hv1.frozen)
        have bM3 := boxed_far ((bM2.alloc _).kept hgrow (own_ne r2 (by omega))) (.slice (some ⟨g', 0, none⟩) (0 + 1) cap') (show w.heap.size ≠ w.heap.size + 1 by omega)
        have bL3 := boxed_far ((bL2.alloc _).kept hgrow (own_ne r2 (by omega))) (.slice (some ⟨g', 0, none⟩) (0 + 1) cap') (show w.heap.size + 1 + 1 ≠ w.heap.size + 1 by omega)
        have hBel := (((hb1.mono hB.size).setCell (p := ⟨w.heap.size + 1, 0, none⟩) (by show w.heap.size ≤ w.heap.size + 1; omega) _).setCell (p := ⟨w.heap.size + 1 + 1, 0, none⟩) (by show w.heap.size ≤ w.heap.size + 1 + 1; omega) _).trans hb2
        exact ⟨(((keeps_below hb1).trans (KeepsOthers.setCell _ _ _)).trans (KeepsOthers.setCell _ _ _)).trans hk2, fun hh => hh.below hBel hlo, ⟨⟨_, hv2, by rw [HA]; simpa [ivs, toI] using hr2, by rw [HA]; simp⟩, ⟨bM3, by rw [HM2]; exact bL3, hcs.below hBel hlo⟩, hB.trans hBel, Nat.le_trans hN hBel.size⟩⟩
      · have hdm : decide (m < M) = false := decide_eq_false hlt
        have hnor : ¬ (A = [] ∨ m < M) := fun h => h.elim hA hlt
        by_cases he : m = M
        · have hde : (m == M) = true := by simpa using he
          have HA : lA (fun s => (pc s : Int)) (pre ++ [x]) = A ++ [x.val] := by show (lmn _ _).1 = _; rw [HNX.out, HLS.out, if_neg hnor, if_pos he]
          have HM2 : lM (fun s => (pc s : Int)) (pre ++ [x]) = M := by show (lmn _ _).2 = _; rw [HNX.out, HLS.out, if_neg hnor, if_pos he]
          gi_wp2
          refine ⟨trivial, ?_⟩
          gi_at_call 61
          refine (CallsIn.inRound l0 (callsIn_wide.2 (HMx.out _ hcs))).mono ?_
          rintro e W1 ⟨rfl, hb1⟩
          have bO1 := hv.kept (grown_none hb1) (by simp)
          have bL1 := hLb.kept (grown_none hb1) (by simp)
          have bM1 := hM.kept (grown_none hb1) (by simp)
          have hN1 : w.heap.size + 1 + 1 + 1 ≤ W1.heap.size := Nat.le_trans hN hb1.size
          have o1 := bO1.cell
          have o2 := bO1.frozen
          have l1 := bL1.cell
          have l2 := bL1.frozen
          have r1 := own_none hrow hb1
          gi_wp2_with (gi_at_builtin; refine wpListIn_append_own _ rfl _ _ 22 rfl (w.heap.size + 1 + 1 + 1) 3 i0 (.int .i64 0) 1 8 Tryd.underlying22 hi hz0 hz1 hz2 rfl (by decide) _ _ _ rfl (r1.alloc _) ⟨W1.heap.size, 0, none⟩ 1 1 [.int .i64 ((x.val : Nat) : Int)] rfl rfl (by have h9 := cell_one_new (W1) (.int .i64 ((x.val : Nat) : Int)) 3; have h8 : (W1).heap.size = W1.heap.size := (by first | rfl | simp); rw [h8] at h9; exact h9) (by simp [Value.oneCell']) (by unfold maxLen; omega) (by omega) (by first | omega | (simp; omega)) ?_; intro v' w1 hown' hgrow _; obtain ⟨g', cap', rfl⟩ := ownsRow_succ hown'; obtain ⟨hv1, hv2, hr2, hk2, hb2⟩ := appended2 (N := w.heap.size) bO1 (by decide) r1 (by omega) (by first | omega | (simp; omega)) (by omega) hown' hgrow; have hc1 := hv1.cell; have hf1 := hv1.frozen)
          have bM3 := boxed_far ((bM1.alloc _).kept hgrow (own_ne r1 (by omega))) (.slice (some ⟨g', 0, none⟩) (k + 1 + 1) cap') (show w.heap.size ≠ w.heap.size + 1 by omega)
          have bL3 := boxed_far ((bL1.alloc _).kept hgrow (own_ne r1 (by omega))) (.slice (some ⟨g', 0, none⟩) (k + 1 + 1) cap') (show w.heap.size + 1 + 1 ≠ w.heap.size + 1 by omega)
          have hBel := (hb1.mono hB.size).trans hb2
          exact ⟨(keeps_below hb1).trans hk2, fun hh => hh.below hBel hlo, ⟨⟨_, hv2, by rw [HA]; simpa [ivs, toI, hk] using hr2, by rw [HA]; simp⟩, ⟨bM3, by rw [HM2]; exact bL3, hcs.below hBel hlo⟩, hB.trans hBel, Nat.le_trans hN hBel.size⟩⟩
        · have hde : (m == M) = false := by simpa using he
          have HA : lA (fun s => (pc s : Int)) (pre ++ [x]) = A := by show (lmn _ _).1 = _; rw [HNX.out, HLS.out, if_neg hnor, if_neg he]
          have HM2 : lM (fun s => (pc s : Int)) (pre ++ [x]) = M := by show (lmn _ _).2 = _; rw [HNX.out, HLS.out, if_neg hnor, if_neg he]
          gi_wp2
          refine ⟨trivial, ?_⟩
          gi_at_call 61
          refine (CallsIn.inRound l0 (callsIn_wide.2 (HMx.out _ hcs))).mono ?_
          rintro e W1 ⟨rfl, hb1⟩
          have bO1 := hv.kept (grown_none hb1) (by simp)
          have bL1 := hLb.kept (grown_none hb1) (by simp)
          have bM1 := hM.kept (grown_none hb1) (by simp)
          have hN1 : w.heap.size + 1 + 1 + 1 ≤ W1.heap.size := Nat.le_trans hN hb1.size
          have o1 := bO1.cell
          have o2 := bO1.frozen
          have l1 := bL1.cell
          have l2 := bL1.frozen
          have r1 := own_none hrow hb1
          gi_wp2
          exact ⟨keeps_below hb1, fun hh => hh.next hb1, ⟨⟨_, bO1, by rw [HA, hk]; exact r1, by rw [HA]; simp [hA]⟩, ⟨bM1, by rw [HM2]; exact bL1, hcs.next hb1⟩, hB.trans (hb1.mono hB.size), hN1⟩⟩
  case done =>
    rintro D ys W hD rfl ⟨⟨v, hv, hrow, hnil⟩, ⟨hM, hLb, hcs⟩, hB, hN⟩ hK
    have hc := hv.cell
    gi_wp2
    refine ⟨by simp, .inl ⟨_, _, rfl, run_takeDeferred hK, ?_⟩⟩
    refine ⟨_, results_tmp rfl _ _ _, ?_⟩
    refine RetInts.of ?_ (hB.trans (belowK_b (w := w) (Nat.le_refl _) W D _ _ (by simp at hD; omega) hK rfl rfl))
    show World.ownsRow _ _ _ 1 v (toI _).length _
    rw [toI_length]
    exact own_mono (ownsRow_putObj hrow _ hK rfl) (by omega)
  case stop =>
    rintro D c pre W _ _ h _
    exact h.elim

end Go.Proofs.YtnoppclajhfnjaaDoor
