/- RecursiveDimension, the program's. Conditions: Sets is a slice of ints; the table setsWith is laid. -/
import Derived.Test.YtnmilfkocheaiaaGreatDoorZY
namespace Go.Proofs.YtnmilfkocheaiaaGreatDoor
open Go.RowKit Go.Shelf
attribute [local go_sem] Oper.semAt_some

theorem ints_own (N : Nat) (v : Value) (zs : List Int) (B : Nat) : OwnFrom B (fun (_ : Unit) W => Ints N W v zs) := fun _ X Y row hs hg hr => by
  refine hs.kept hg ?_
  rcases hs.2 with ⟨rfl, _⟩ | ⟨g, cap, cur, rfl, _, hgb, _⟩
  · exact .inl rfl
  · refine .inr (fun e => ?_)
    obtain ⟨_, o, ho, hc⟩ := hr g (by simpa [Value.ownBlock] using e.symm)
    rw [hgb] at ho; cases ho; cases hc
theorem Ints.put {B b : Nat} {W : World} {v u : Value} {zs : List Int} (h : Ints B W v zs) (hb : b < B) : Ints B (W.setCell ⟨b, 0, none⟩ u) v zs := own_far h hb

set_option maxRecDepth 100000 in
set_option maxHeartbeats 6400000 in
theorem implRdIn (m : Nat) (v : Value) (ns : List Nat) (w : World) (hc : Cls m ns) (hvd : vldB (m : Int) (toI ns) = true) (h : Rd w v (toI ns)) (hsw : SW w) :
    Calls Tryz.prog 73 #[.agg #[.int .i64 (m : Int), v]] w fun e w' => e = .returned (.int .i64 (rdM m ns)) ∧ Below w.heap.size w w' := by
  have HV := Lib.hid (fun v w0 h0 => implValid (m : Int) v (toI ns) w0 h0)
  rw [hvd] at HV
  have HF := Lib.hid (fun v w0 h0 => implFamilyOf (m : Int) v ns hc.lt32 w0 h0)
  have H := Lib.hid h
  obtain ⟨a, b, off, cap, rfl, _, _, _⟩ := h
  rw [toI_length] at H ⊢
  refine (callsIn_wide (n := 8)).1 ?_
  refine callsIn_of_wp_marks Tryz.func73 rfl trivial ?_ rfl
  simp only [Tryz.ntmps73, List.size_toArray, List.length_cons, List.length_nil, Nat.reduceAdd, Nat.reduceSub, Array.replicate_succ, Array.replicate_zero, List.push_toArray, List.append_toArray, List.nil_append, List.cons_append]
  gi_wp2_with fail
  have hb0 : Below w.heap.size w ((w.alloc (.cells #[.int .i64 (m : Int), .slice a ns.length cap] 47)).alloc (.cells #[.int .i64 (-1)] 3)) := ((Below.refl _ w).alloc (Nat.le_refl _) _).alloc (by simp) _
  have X0 := Lib.hid ((Bx.new (m : Int) (.slice a ns.length cap) w).alloc (.cells #[.int .i64 (-1)] 3))
  have M0 := Lib.hid (show Boxed ((w.alloc (.cells #[.int .i64 (m : Int), .slice a ns.length cap] 47)).alloc (.cells #[.int .i64 (-1)] 3)) (w.heap.size + 1) 3 (.int .i64 (-1)) from by
    have h9 := Boxed.new (w.alloc (.cells #[.int .i64 (m : Int), .slice a ns.length cap] 47)) 3 (.int .i64 (-1))
    simpa only [World.size_alloc] using h9)
  have hz0' : ((w.alloc (.cells #[.int .i64 (m : Int), .slice a ns.length cap] 47)).alloc (.cells #[.int .i64 (-1)] 3)).heap.size = w.heap.size + 2 := by simp
  obtain ⟨w2, hw2⟩ : ∃ w2, ((w.alloc (.cells #[.int .i64 (m : Int), .slice a ns.length cap] 47)).alloc (.cells #[.int .i64 (-1)] 3)) = w2 := ⟨_, rfl⟩
  rw [hw2] at hb0 X0 M0 hz0' ⊢
  clear hw2
  have B0 := Lib.hid hb0
  have HZ := Lib.hid hz0'
  clear hz0' hb0
  have x0 := X0.out.out.at0
  have x1 := X0.out.out.at1
  gi_wp2_with (first | (refine ⟨trivial, ?_⟩; gi_at_call 97; refine (callsIn_wide.2 (HV.out _ _ (H.out.below B0.out (Nat.le_refl _)))).mono ?_; rintro e w3 ⟨rfl, hb3⟩; have B3 := Lib.hid (B0.out.trans (hb3.mono B0.out.size)); have X3 := Lib.hid (X0.out.next hb3 X0.out.lt); have M3 := Lib.hid (M0.out.kept (grown_none hb3) (by simp)); have hz3 := hb3.size; clear hb3 x0 x1; have x0 := X3.out.out.at0; have x1 := X3.out.out.at1) | (refine ⟨trivial, ?_⟩; gi_at_call 102; refine (callsIn_wide.2 (HF.out _ _ (H.out.below B3.out (Nat.le_refl _)))).mono ?_; rintro e w4 ⟨rfl, hb4⟩; have B4 := Lib.hid (B3.out.trans (hb4.mono B3.out.size)); have M4 := Lib.hid (M3.out.kept (grown_none hb4) (by simp)); have hz4 := hb4.size; clear hb4 x0 x1))
  have hsz4 : w.heap.size + 2 ≤ w4.heap.size := by have := HZ.out; omega
  have S4 : SW w4 := hsw.next B4.out
  have HC := Lib.hid hc
  refine wpIn_rangeV rfl (by omega) (gf := 106) (fs := #[.int .u32 (fm ns)]) (lb := #[]) rfl trivial (enters_of Tryz.func106 (by kernel_rfl) rfl)
    (layStops m ns hc _ (by omega) w4 S4) kpL_t kpL_b (Below.refl _ _) (fun _ => rfl)
    (fun pre W => (Boxed W (w.heap.size + 1) 3 (.int .i64 (rdS m (-1) (pre.map Ly.p))) ∧ CS swc W) ∧ (Below w.heap.size w W ∧ w.heap.size + 2 ≤ W.heap.size))
    (fun _ _ _ => False)
    (OwnFrom.and (Own.from (fun s A B row hs hg hr => ⟨boxed_keeps hs.1 hg hr, cs_own _ s A B row hs.2 hg hr⟩) _) (OwnFrom.and (ownFrom_below (Nat.le_refl _) (by omega)) (fun s A B row hs hg hr => Nat.le_trans hs hg.size)))
    (fun _ _ _ _ _ hs _ _ => hs)
    ⟨⟨M4.out, sw_cs S4⟩, B4.out, hsz4⟩
    (fun x a' W => Ints (w.heap.size + 2) W x.v (toI x.p.1) ∧ (x.p.1 = lay x.p.2 ∧ x.p.2 ≠ [] ∧ Cls m x.p.2) ∧ a' = { tmps := #[(.agg #[.int .i64 (m : Int), .slice a ns.length cap]), .pointer (some ⟨w.heap.size, 0, none⟩), .int .i64 0, .pointer (some ⟨w.heap.size + 1, 0, none⟩), x.v, .int .u32 (fm x.p.2), (.agg #[.int .i64 (m : Int), .slice a ns.length cap]), .bool true, .bool false, undef, (.agg #[.int .i64 (m : Int), .slice a ns.length cap]), .int .u32 (fm ns), (.func (.func 106) #[.int .u32 (fm ns)] #[]), x.v, .int .u32 (fm x.p.2), undef, undef, undef, undef, undef, undef, undef, undef], defers := [] })
    (fun x a' s X Y row hs hg hr => ⟨ints_own _ _ _ _ s X Y row hs.1 hg hr, hs.2⟩)
    ?assign ?body ?done ?stop
  case assign =>
    rintro l0 pre x W0 W K ⟨_, _, hN0⟩ _ hI ⟨hin, hpre⟩ hK
    obtain ⟨e1, e2, e3, _⟩ := lys_mem ns.length ns (Nat.le_refl _) HC.out x.p (hpre.subset (by simp))
    have hin2 := hin.mono hN0
    gi_wp2
    exact hK _ _ (KeepsFrom.refl _ _) ⟨fun e => e, fun e => e⟩ hI ⟨hin2, ⟨e1, e2, e3⟩, rfl⟩
  case body =>
    rintro l0 pre x a' W hl ⟨r, hr⟩ ⟨⟨hM, hc0⟩, hB, hN⟩ ⟨hin, ⟨e1, e2, e3⟩, rfl⟩ hlt
    obtain ⟨v, L, cur⟩ := x
    dsimp only at hin e1 e2 e3 ⊢
    subst e1
    have hne := lay_ne e2
    have hpos := List.length_pos_iff.2 hne
    obtain ⟨g, ⟨c9, rfl⟩, hg1, hg2⟩ : ∃ g, (∃ c, v = .slice (some ⟨g, 0, none⟩) (toI (lay cur)).length c) ∧ w.heap.size + 2 ≤ g ∧ g < W.heap.size := by
      obtain ⟨a9, g9, c9, e9, h1, h2, _, h4, _⟩ := hin.shape
      have hn9 : a9 ≠ none := fun k => by
        have := (h2 k).1
        rw [← List.length_eq_zero_iff, toI_length] at this
        omega
      obtain rfl := h1.resolve_right hn9
      exact ⟨g9, ⟨c9, e9⟩, h4 hn9⟩
    rw [toI_length] at hin ⊢
    have hl0 := (hin.cellAt 0 (by rw [toI_length]; exact hpos)).1
    rw [toI_getD] at hl0
    have ht := getD_of_lt hpos
    have hty : tnI ((lay cur).getD 0 0) cur = ezL m cur := by rw [tns_I e3 (lay_sub ht), ezL_lay e3 ht]
    have HT := Lib.hid (fun w0 h0 => implTnF cur ((lay cur).getD 0 0) e3.lt32 e3.asc (e3.lt32 _ (lay_sub ht)) w0 h0)
    rw [hty] at HT
    have HSn := Lib.hid (show rdS m (-1) ((pre ++ [(⟨.slice (some ⟨g, 0, none⟩) (lay cur).length c9, (lay cur, cur)⟩ : Ly)]).map Ly.p) = if rdS m (-1) (pre.map Ly.p) < ezL m cur then ezL m cur else rdS m (-1) (pre.map Ly.p) by rw [List.map_append]; exact rdS_snoc m (-1) (pre.map Ly.p) (lay cur, cur))
    have hkp : ∀ w1, Below W.heap.size W w1 → ∀ y : Int, KpL ⟨.slice (some ⟨g, 0, none⟩) (lay cur).length c9, (lay cur, cur)⟩ W (w1.setCell ⟨w.heap.size + 1, 0, none⟩ (.int .i64 y)) := fun w1 hb y => by
      have h9 : Below w.heap.size W (w1.setCell ⟨w.heap.size + 1, 0, none⟩ (.int .i64 y)) := (hb.mono hB.size).setCell (p := ⟨w.heap.size + 1, 0, none⟩) (by show w.heap.size ≤ w.heap.size + 1; omega) _
      exact ⟨fun _ => ((hin.below hb (Nat.le_refl _)).put (by omega)).rd, fun hh => hh.below h9 hsw.1⟩
    have hkc : ∀ w1, Below W.heap.size W w1 → ∀ y : Int, CS swc (w1.setCell ⟨w.heap.size + 1, 0, none⟩ (.int .i64 y)) := fun w1 hb y => sw_cs ((hkp w1 hb y).2 (cs_sw hc0))
    have hsz1 : ∀ w1, Below W.heap.size W w1 → ∀ y : Int, W.heap.size ≤ (w1.setCell ⟨w.heap.size + 1, 0, none⟩ (.int .i64 y)).heap.size := fun w1 hb y => Nat.le_trans hb.size (KeepsOthers.setCell w1 _ _).size
    have hcm := hM.cell
    have hfm := hM.frozen
    have sw1 := cs_sw hc0
    have sw2 : SW W.drew := sw1
    have hposI : (0 : Int) < ((lay cur).length : Int) := by omega
    have hmx : Tryz.prog.follows .mixedOrders = true := by kernel_rfl
    generalize rdS m (-1) (pre.map Ly.p) = X at *
    generalize ezL m cur = y at *
    generalize (lay cur).getD 0 0 = t at *
    by_cases hlt : X < y
    · have HS2 := Lib.hid (HSn.out.trans (if_pos hlt))
      clear HSn
      have hd1 : decide (X < y) = true := decide_eq_true hlt
      gi_wp2
      gi_region_with_o (first | (refine ⟨trivial, ?_⟩; gi_at_call 107; refine (CallsIn.inRound l0 (callsIn_wide.2 (HT.out _ (by first | exact sw1 | exact sw2)))).mono ?_; rintro e w1 ⟨rfl, hb1⟩; have hB1 : Below W.heap.size W w1 := (by first | exact hb1 | exact ⟨hb1.os, hb1.tape, hb1.output, hb1.size, hb1.block⟩); clear hb1; have bM1 := hM.kept (grown_none hB1) (by simp); have m1 := bM1.cell; have f1 := bM1.frozen; have l1 := (hB1.cell (p := ⟨g, 0, none⟩) hg2).trans hl0))
      all_goals gi_wp2
      all_goals exact ⟨((keeps_below hB1).from _).trans ((KeepsOthers.setCell _ _ _).from _), ⟨fun hh => (hkp _ hB1 _).1 hh, fun hh => (hkp _ hB1 _).2 hh⟩, ⟨⟨by rw [HS2.out]; exact bM1.set _, (hkc _ hB1 _)⟩, (hB.trans (hB1.mono hB.size)).setCell (p := ⟨w.heap.size + 1, 0, none⟩) (by show w.heap.size ≤ w.heap.size + 1; omega) _, Nat.le_trans hN (hsz1 _ hB1 _)⟩⟩
    · have HS2 := Lib.hid (HSn.out.trans (if_neg hlt))
      clear HSn
      have hd1 : decide (X < y) = false := decide_eq_false hlt
      gi_wp2
      gi_region_with_o (first | (refine ⟨trivial, ?_⟩; gi_at_call 107; refine (CallsIn.inRound l0 (callsIn_wide.2 (HT.out _ (by first | exact sw1 | exact sw2)))).mono ?_; rintro e w1 ⟨rfl, hb1⟩; have hB1 : Below W.heap.size W w1 := (by first | exact hb1 | exact ⟨hb1.os, hb1.tape, hb1.output, hb1.size, hb1.block⟩); clear hb1; have bM1 := hM.kept (grown_none hB1) (by simp); have m1 := bM1.cell; have f1 := bM1.frozen; have l1 := (hB1.cell (p := ⟨g, 0, none⟩) hg2).trans hl0))
      all_goals gi_wp2
      all_goals exact ⟨((keeps_below hB1).from _).trans ((KeepsOthers.setCell _ _ _).from _), ⟨fun hh => (hkp _ hB1 _).1 hh, fun hh => (hkp _ hB1 _).2 hh⟩, ⟨⟨by rw [HS2.out]; exact bM1.set _, (hkc _ hB1 _)⟩, (hB.trans (hB1.mono hB.size)).setCell (p := ⟨w.heap.size + 1, 0, none⟩) (by show w.heap.size ≤ w.heap.size + 1; omega) _, Nat.le_trans hN (hsz1 _ hB1 _)⟩⟩
  case done =>
    rintro D zs W hD hzs ⟨⟨hM, hc0⟩, hB, hN⟩ hK
    rw [hzs] at hM
    have hc9 := hM.cell
    clear hzs
    gi_wp2
    refine ⟨by simp, .inl ⟨_, _, rfl, run_takeDeferred hK, ?_⟩⟩
    refine ⟨_, results_tmp rfl _ _ _, rfl, hB.trans (belowK_b (w := w) (Nat.le_refl _) W D _ _ (by omega) hK rfl rfl)⟩
  case stop =>
    rintro D c pre W _ _ h _
    exact h.elim

set_option maxRecDepth 100000 in
set_option maxHeartbeats 1600000 in
theorem implRecursiveDimension (n : Int) (v : Value) (zs : List Int) (w : World) (h : Rd w v zs) (hsw : SW w) :
    Calls Tryz.prog 73 #[.agg #[.int .i64 n, v]] w fun e w' => e = .returned (.int .i64 (rdB n zs)) ∧ Below w.heap.size w w' := by
  by_cases hv : vldB n zs = true
  · obtain ⟨m, ns, rfl, rfl, hc⟩ := vldB_cls hv
    rw [rdB_in hv]
    exact implRdIn m v ns w hc hv h hsw
  · rw [Bool.not_eq_true] at hv
    have HV := Lib.hid (fun v w0 h0 => implValid n v zs w0 h0)
    have H := Lib.hid h
    obtain ⟨a, b, off, cap, rfl, _, _, _⟩ := h
    have HE := Lib.hid (rdB_bad hv)
    rw [HE.out]
    rw [hv] at HV
    clear hv HE
    go_enter Tryz.func73, Tryz.ntmps73
    go_wp2_with fail
    refine (HV.out _ _ (H.out.below (by go_grown) (Nat.le_refl _))).mono ?_
    rintro e w1 ⟨rfl, hb⟩
    have HB := Lib.hid (Below.trans (show Below w.heap.size w _ from by go_grown) (hb.mono (by simp; omega)))
    have c0 := (hb.cell (p := ⟨w.heap.size + 1, 0, none⟩) (by simp)).trans (show _ = some (.int .i64 (-1)) by simp [go_sem])
    clear hb
    go_wp2_with fail
    go_ret
    exact ⟨rfl, HB.out⟩

end Go.Proofs.YtnmilfkocheaiaaGreatDoor
