/- TeachingsOf, the program's. Conditions: Sets is a slice of ints; the table setsWith is laid. -/
import Derived.Maps.AppendAt
import Derived.Test.YthmipnflbiclbaaDoorTOfM
import Derived.Test.YthmipnflbiclbaaDoorZU
import Derived.Test.YthmipnflbiclbaaDoorZX
namespace Go.Proofs.YthmipnflbiclbaaDoor
open Go.RowKit Go.Shelf
attribute [local go_sem] Oper.semAt_some

theorem CS.grown {cs : List (Addr × Value)} {W W' : World} {row : Option Nat} (h : CS cs W) (hg : W.grownBy W' row) (hne : ∀ p ∈ cs, some p.1.block ≠ row) : CS cs W' := fun p hp => by
  have hk := hg.block p.1.block (h.lt p hp) (hne p hp)
  have := h p hp
  simp only [World.cell?] at this ⊢
  rw [hk]
  exact this

set_option maxRecDepth 100000 in
set_option maxHeartbeats 1600000 in
theorem implTOf (n : Int) (v : Value) (l : List Nat) (t : Nat) (h32 : ∀ u ∈ l, u < 32) (hp : l.Pairwise (· < ·)) (ht : t < 32) (hin : inB n (toI l) (t : Int) = true) (w : World) (h : Rd w v (toI l)) (hsw : SW w) :
    Calls Tryd.prog 38 #[.agg #[.int .i64 n, v], .int .i64 (t : Int)] w (RetInts (toI (tsoN t l)) w) := by
  have HI := Lib.hid (fun w0 h0 => implIsSetOf n v (toI l) (t : Int) w0 h0)
  rw [hin] at HI
  have HF := Lib.hid (fun w0 h0 => implFamilyOf n v l h32 w0 h0)
  obtain ⟨i0, hi, hz0, hz1, hz2⟩ := info_parts infoI
  obtain ⟨a, b, off, cap, rfl, hA, hB2, hC⟩ := h
  have H := Lib.hid (show Rd w (.slice a (toI l).length cap) (toI l) from ⟨a, b, off, cap, rfl, hA, hB2, hC⟩)
  clear hA hB2 hC
  refine (callsIn_wide (n := 8)).1 ?_
  refine callsIn_of_wp_marks Tryd.func38 rfl trivial ?_ rfl
  simp only [Tryd.ntmps38, List.size_toArray, List.length_cons, List.length_nil, Nat.reduceAdd, Nat.reduceSub, Array.replicate_succ, Array.replicate_zero, List.push_toArray, List.append_toArray, List.nil_append, List.cons_append]
  gi_wp2_with fail
  refine wpIn_wide.2 ?_
  apply wp_scope_straight
  refine (wpIn_wide (n := 8)).1 ?_
  have hb0 : Below w.heap.size w ((w.alloc (.cells #[.int .i64 n, .slice a (toI l).length cap] 25)).alloc (.cells #[.int .i64 (t : Int)] 3)) := ((Below.refl _ w).alloc (Nat.le_refl _) _).alloc (by simp) _
  have X0 := Lib.hid ((Bx.new n (.slice a (toI l).length cap) w).alloc (.cells #[.int .i64 (t : Int)] 3))
  have T0 := Lib.hid (show Boxed ((w.alloc (.cells #[.int .i64 n, .slice a (toI l).length cap] 25)).alloc (.cells #[.int .i64 (t : Int)] 3)) (w.heap.size + 1) 3 (.int .i64 (t : Int)) from by
    have h9 := Boxed.new (w.alloc (.cells #[.int .i64 n, .slice a (toI l).length cap] 25)) 3 (.int .i64 (t : Int))
    simpa only [World.size_alloc] using h9)
  have hz0' : ((w.alloc (.cells #[.int .i64 n, .slice a (toI l).length cap] 25)).alloc (.cells #[.int .i64 (t : Int)] 3)).heap.size = w.heap.size + 2 := by simp
  obtain ⟨w2, hw2⟩ : ∃ w2, ((w.alloc (.cells #[.int .i64 n, .slice a (toI l).length cap] 25)).alloc (.cells #[.int .i64 (t : Int)] 3)) = w2 := ⟨_, rfl⟩
  rw [hw2] at hb0 X0 T0 hz0' ⊢
  clear hw2
  have HZ := Lib.hid hz0'
  clear hz0'
  have x0 := X0.out.out.at0
  have x1 := X0.out.out.at1
  have t0 := T0.out.cell
  gi_wp2_with (first | (refine ⟨trivial, ?_⟩; gi_at_call 70; refine (callsIn_wide.2 (HI.out _ (H.out.below hb0 (Nat.le_refl _)))).mono ?_; rintro e w3 ⟨rfl, hb3⟩; have B3 := Lib.hid (hb0.trans (hb3.mono hb0.size)); have X3 := Lib.hid (X0.out.next hb3 X0.out.lt); have T3 := Lib.hid (T0.out.kept (grown_none hb3) (by simp)); have hz3 := hb3.size; clear hb3 x0 x1 t0; have x0 := X3.out.out.at0; have x1 := X3.out.out.at1; have t0 := T3.out.cell) | (refine ⟨trivial, ?_⟩; gi_at_call 66; refine (callsIn_wide.2 (HF.out _ (H.out.below B3.out (Nat.le_refl _)))).mono ?_; rintro e w4 ⟨rfl, hb4⟩; have B4 := Lib.hid (B3.out.trans (hb4.mono B3.out.size)); have X4 := Lib.hid (X3.out.next hb4 X3.out.lt); have T4 := Lib.hid (T3.out.kept (grown_none hb4) (by simp)); have hz4 := hb4.size; clear hb4 x0 x1 t0; have x0 := X4.out.out.at0; have x1 := X4.out.out.at1; have t0 := T4.out.cell))
  refine wpIn_wide.2 ?_
  apply wp_label
  have hcs4 := Lib.hid (show CS swc w4 from (sw_cs hsw).below B4.out (fun p hp => (sw_cs hsw).lt p hp))
  have A5 := Lib.hid ((Boxed.new w4 80 (.int .u32 (fm l))).alloc (.cells #[.slice none 0 0] 23))
  have O5 := Lib.hid (show Boxed ((w4.alloc (.cells #[.int .u32 (fm l)] 80)).alloc (.cells #[.slice none 0 0] 23)) (w4.heap.size + 1) 23 (.slice none 0 0) from by
    have h9 := Boxed.new (w4.alloc (.cells #[.int .u32 (fm l)] 80)) 23 (.slice none 0 0)
    simpa only [World.size_alloc] using h9)
  have T5 := Lib.hid ((T4.out.alloc (.cells #[.int .u32 (fm l)] 80)).alloc (.cells #[.slice none 0 0] 23))
  have B5 := Lib.hid ((B4.out.alloc B4.out.size (.cells #[.int .u32 (fm l)] 80)).alloc (by have := B4.out.size; simp; omega) (.cells #[.slice none 0 0] 23))
  have hcs5 := Lib.hid (show CS swc ((w4.alloc (.cells #[.int .u32 (fm l)] 80)).alloc (.cells #[.slice none 0 0] 23)) from fun p hp => cell_alloc_l _ (cell_alloc_l _ (hcs4.out p hp)))
  have hz5 : ((w4.alloc (.cells #[.int .u32 (fm l)] 80)).alloc (.cells #[.slice none 0 0] 23)).heap.size = w4.heap.size + 2 := by simp
  obtain ⟨w5, hw5⟩ : ∃ w5, ((w4.alloc (.cells #[.int .u32 (fm l)] 80)).alloc (.cells #[.slice none 0 0] 23)) = w5 := ⟨_, rfl⟩
  rw [hw5] at A5 O5 T5 B5 hcs5 hz5 ⊢
  have HZ5 := Lib.hid hz5
  clear hw5 hz5 x0 x1 t0 hcs4
  have t0 := T5.out.cell
  have a0 := A5.out.cell
  gi_wp2_with (refine ⟨trivial, ?_⟩; gi_at_call 90; refine (callsIn_wide.2 (implTeachings l t _)).mono ?_; rintro e w' ⟨rfl, rfl⟩)
  have c1 := (cell_new_l w5 (.int .u32 (fm l)) 80).1
  have c2 := (cell_new_l (w5.alloc (.cells #[.int .u32 (fm l)] 80)) (.int .i64 (t : Int)) 3).1
  rw [World.size_alloc] at c2
  have c3 := cell_alloc_l (.cells #[.int .i64 (t : Int)] 3) c1
  have hcs : CS (csT w5.heap.size (w5.heap.size + 1) l t) ((w5.alloc (.cells #[.int .u32 (fm l)] 80)).alloc (.cells #[.int .i64 (t : Int)] 3)) := fun p hp => by
    rcases List.mem_append.1 hp with h | h
    · exact cell_alloc_l _ (cell_alloc_l _ (hcs5.out p h))
    · simp only [List.mem_cons, List.not_mem_nil, or_false] at h
      rcases h with rfl | rfl
      · exact c3
      · exact c2
  have A6 := (A5.out.alloc (.cells #[.int .u32 (fm l)] 80)).alloc (.cells #[.int .i64 (t : Int)] 3)
  have O6 := (O5.out.alloc (.cells #[.int .u32 (fm l)] 80)).alloc (.cells #[.int .i64 (t : Int)] 3)
  have T6 := (T5.out.alloc (.cells #[.int .u32 (fm l)] 80)).alloc (.cells #[.int .i64 (t : Int)] 3)
  have B6 := (B5.out.alloc B5.out.size (.cells #[.int .u32 (fm l)] 80)).alloc (by have := B5.out.size; simp; omega) (.cells #[.int .i64 (t : Int)] 3)
  have hz6 : ((w5.alloc (.cells #[.int .u32 (fm l)] 80)).alloc (.cells #[.int .i64 (t : Int)] 3)).heap.size = w4.heap.size + 4 := by simp; rw [HZ5.out]
  obtain ⟨W0, hW0⟩ : ∃ W0, ((w5.alloc (.cells #[.int .u32 (fm l)] 80)).alloc (.cells #[.int .i64 (t : Int)] 3)) = W0 := ⟨_, rfl⟩
  rw [hW0] at hcs A6 O6 T6 B6 hz6 ⊢
  rw [HZ5.out] at hcs ⊢
  clear hW0 c1 c2 c3 t0 a0 A5 O5 T5 B5 hcs5 HZ5
  have hz34 : w.heap.size + 2 ≤ w4.heap.size := by have := HZ.out; omega
  have hlo : ∀ p ∈ (csT (w4.heap.size + 2) (w4.heap.size + 3) l t), p.1.block < w4.heap.size + 4 ∧ p.1.block ≠ w4.heap.size + 1 := fun p hp => by
    rcases List.mem_append.1 hp with h | h
    · obtain ⟨x, _, rfl⟩ := List.mem_map.1 h
      dsimp only
      omega
    · simp only [List.mem_cons, List.not_mem_nil, or_false] at h
      rcases h with rfl | rfl
      · dsimp only; omega
      · dsimp only; omega
  have HTe := Lib.hid (fun (s : Nat) (hs : s < 32) w0 h0 => implTeaches l t s h32 hp ht hs w0 h0)
  refine wpIn_rangeFunc_ownH rfl (by omega) (gf := 126) (lb := #[.pointer (some ⟨w4.heap.size + 2, 0, none⟩), .pointer (some ⟨w4.heap.size + 3, 0, none⟩)]) rfl trivial (enters_of Tryd.func126 (by kernel_rfl) rfl)
    (teachStops _ (by omega) (w4.heap.size + 2) (w4.heap.size + 3) l t h32 hp ht W0 hcs) kcs_t kcs_b (Below.refl _ _) (fun _ => rfl)
    (fun pre W => (∃ v, Boxed W (w4.heap.size + 1) 23 v ∧ W.ownsRow (w4.heap.size + 4) 3 1 v (tsoP t l pre).length (ivs (tsoP t l pre)) ∧ True)
      ∧ (Boxed W w4.heap.size 80 (.int .u32 (fm l)) ∧ Boxed W (w.heap.size + 1) 3 (.int .i64 (t : Int)) ∧ CS (csT (w4.heap.size + 2) (w4.heap.size + 3) l t) W) ∧ (Below w.heap.size w W ∧ w4.heap.size + 4 ≤ W.heap.size))
    (fun _ _ _ => False)
    (OwnFrom.and (Own.from (holdsRow_own (w4.heap.size + 4) (w4.heap.size + 1) 23 3 1 (fun pre => (tsoP t l pre).length) (fun pre => ivs (tsoP t l pre)) (fun _ _ => True)) _)
      (OwnFrom.and (Own.from (fun s A B row hs hg hr => ⟨boxed_keeps hs.1 hg hr, boxed_keeps hs.2.1 hg hr, cs_own _ s A B row hs.2.2 hg hr⟩) _)
        (OwnFrom.and (ownFrom_below (Nat.le_refl _) (by omega)) (fun s A B row hs hg hr => Nat.le_trans hs hg.size))))
    (fun _ _ _ _ _ hs _ _ => hs)
    ⟨⟨_, O6, World.ownsRow_nil _ _ _ _, trivial⟩, ⟨A6, T6, hcs⟩, B6, by omega⟩
    (fun x a' W => ∃ Bx, w4.heap.size + 4 ≤ Bx ∧ Boxed W Bx 3 (.int .i64 ((x.val : Nat) : Int)) ∧ a' = { tmps := #[.agg #[.int .i64 n, .slice a (toI l).length cap], .int .i64 (t : Int), .pointer (some ⟨w.heap.size, 0, none⟩), .pointer (some ⟨w.heap.size + 1, 0, none⟩), .slice none 0 0, .pointer (some ⟨w4.heap.size, 0, none⟩), .pointer (some ⟨w4.heap.size + 1, 0, none⟩), .pointer (some ⟨Bx, 0, none⟩), undef, .agg #[.int .i64 n, .slice a (toI l).length cap], .int .i64 (t : Int), .bool true, .bool false, .agg #[.int .i64 n, .slice a (toI l).length cap], .int .u32 (fm l), .int .u32 (fm l), .int .i64 (t : Int), (.func (.func 126) #[] #[.pointer (some ⟨w4.heap.size + 2, 0, none⟩), .pointer (some ⟨w4.heap.size + 3, 0, none⟩)]), .int .i64 ((x.val : Nat) : Int), undef, undef, undef, undef, undef, undef, undef, undef, undef, undef, undef, undef, undef, undef, undef], defers := [] })
    (fun x a' _ X Y row hs hg hr => by obtain ⟨Bx, h1, h2, h3⟩ := hs; exact ⟨Bx, h1, boxed_own Bx 3 (fun (_ : Unit) => Value.int .i64 ((x.val : Nat) : Int)) () X Y row h2 hg (fun r e => (hr r e).2), h3⟩)
    ?assign ?body ?done ?stop
  case assign =>
    rintro l0 pre x W K ⟨⟨v, hv, hrow, _⟩, ⟨hA, hT, hc⟩, hB, hN⟩ hK
    gi_wp2
    exact hK _ _ ((KeepsOthers.alloc _ _).from _) (fun hh => hh.next ((Below.refl _ W).alloc (Nat.le_refl _) _)) ⟨⟨v, hv.alloc _, hrow.alloc _, trivial⟩, ⟨hA.alloc _, hT.alloc _, hc.next ((Below.refl _ W).alloc (Nat.le_refl _) _)⟩, hB.alloc hB.size _, by simp; omega⟩ ⟨W.heap.size, hN, Boxed.new W _ _, rfl⟩
  case body =>
    rintro l0 pre x a' W hl ⟨r, hr⟩ ⟨⟨v, hv, hrow, _⟩, ⟨hA, hT, hc⟩, hB, hN⟩ ⟨Bx, hBx, bX, rfl⟩ hlt
    have cX := bX.cell
    have hln : (tsoP t l pre).length ≤ 32 := by have := tsoP_len t l pre; omega
    gi_wp2_with (refine ⟨trivial, ?_⟩; gi_at_call 91; refine (CallsIn.inRound l0 (callsIn_wide.2 (implPointsOf x.val _))).mono ?_; rintro e w' ⟨rfl, rfl⟩)
    have bN := Boxed.new W 3 (.int .i64 ((x.val : Nat) : Int))
    have hr' : (W.alloc (.cells #[.int .i64 ((x.val : Nat) : Int)] 3)).heap[l0]? = some (.loop r) := (Below.heap_alloc W _ l0 (Array.getElem?_eq_some_iff.1 hr).1).trans hr
    refine wpIn_rangeFunc_ownN (l₀ := l0) (r₀ := r) rfl hr' (by omega) (gf := 127) (lb := #[.pointer (some ⟨W.heap.size, 0, none⟩)]) rfl trivial (enters_of Tryd.func127 (by kernel_rfl) rfl)
      ((ptsStops Fence.wide _ trivial rfl (by omega) W.heap.size x.val x.isLt _ bN.cell).inRound l0) kc_t kc_b (Below.refl _ _) (fun _ => rfl)
      (fun pre' W' => hits t l x.val pre' = false ∧ (Below W.heap.size W W' ∧ KeepsFrom W0.heap.size W W' ∧ W.heap.size + 1 ≤ W'.heap.size))
      (fun c pre' W' => (c = Code.exit 1 ∧ hits t l x.val pre' = true) ∧ (Below W.heap.size W W' ∧ KeepsFrom W0.heap.size W W' ∧ W.heap.size + 1 ≤ W'.heap.size))
      (OwnFrom.and (ownFrom_pure _ (fun pre' => hits t l x.val pre' = false)) (OwnFrom.and (ownFrom_below (Nat.le_refl _) (by simp)) (OwnFrom.and (ownFrom_keepsFrom (by simp)) (fun s A B row hs hg hr => Nat.le_trans hs hg.size))))
      (fun c => OwnFrom.and (ownFrom_pure _ (fun pre' => c = Code.exit 1 ∧ hits t l x.val pre' = true)) (OwnFrom.and (ownFrom_below (Nat.le_refl _) (by simp)) (OwnFrom.and (ownFrom_keepsFrom (by simp)) (fun s A B row hs hg hr => Nat.le_trans hs hg.size))))
      ⟨rfl, (Below.refl _ W).alloc (Nat.le_refl _) _, (KeepsOthers.alloc _ _).from _, by simp⟩
      (fun y a'' _ => a'' = { tmps := #[.agg #[.int .i64 n, .slice a (toI l).length cap], .int .i64 (t : Int), .pointer (some ⟨w.heap.size, 0, none⟩), .pointer (some ⟨w.heap.size + 1, 0, none⟩), .slice none 0 0, .pointer (some ⟨w4.heap.size, 0, none⟩), .pointer (some ⟨w4.heap.size + 1, 0, none⟩), .pointer (some ⟨Bx, 0, none⟩), .int .i64 ((y.val : Nat) : Int), .agg #[.int .i64 n, .slice a (toI l).length cap], .int .i64 (t : Int), .bool true, .bool false, .agg #[.int .i64 n, .slice a (toI l).length cap], .int .u32 (fm l), .int .u32 (fm l), .int .i64 (t : Int), (.func (.func 126) #[] #[.pointer (some ⟨w4.heap.size + 2, 0, none⟩), .pointer (some ⟨w4.heap.size + 3, 0, none⟩)]), .int .i64 ((x.val : Nat) : Int), .int .i64 ((x.val : Nat) : Int), (.func (.func 127) #[] #[.pointer (some ⟨W.heap.size, 0, none⟩)]), .int .i64 ((y.val : Nat) : Int), undef, undef, undef, undef, undef, undef, undef, undef, undef, undef, undef, undef], defers := [] })
      (fun _ _ _ _ _ _ hs _ _ => hs)
      ?assign2 ?body2 ?done2 ?stop2
    case assign2 =>
      rintro l2 pre' y W' K hi hK
      gi_wp2
      exact hK _ _ (KeepsFrom.refl _ _) (fun _ e => e) hi rfl
    case body2 =>
      rintro l2 pre' y a'' W' _ _ ⟨hh, hBW, hKF, hsz⟩ rfl _
      have a2 := (show Boxed W' w4.heap.size 80 (.int .u32 (fm l)) from (hBW.block _ hA.lt).trans hA).cell
      have t2 := (show Boxed W' (w.heap.size + 1) 3 (.int .i64 (t : Int)) from (hBW.block _ hT.lt).trans hT).cell
      have x2 := (show Boxed W' Bx 3 (.int .i64 ((x.val : Nat) : Int)) from (hBW.block _ bX.lt).trans bX).cell
      have sw2 : SW W' := cs_sw (fun p hp => (hc.next hBW) p (List.mem_append_left _ hp))
      obtain ⟨hc32, hcb⟩ := clr_bits x y
      have HTy := Lib.hid (HTe.out (clr x.val y) hc32)
      have hsn := hits_snoc t l x.val pre' y
      rw [hh, Bool.false_or] at hsn
      generalize clr x.val y = u at *
      have hy5 := y.isLt
      have hmx : Tryd.prog.follows .mixedOrders = true := by kernel_rfl
      cases hq : tch t u l with
      | false =>
        rw [hq] at HTy hsn
        clear hq
        gi_wp2
        gi_region_with_o (first | (refine ⟨trivial, ?_⟩; gi_at_call 92; (try rw [hcb]); refine (CallsIn.inRound l2 (CallsIn.inRound l0 (callsIn_wide.2 (HTy.out _ (by first | exact sw2 | exact (show SW (World.drew _) from sw2)))))).mono ?_; rintro e w1 ⟨rfl, hb1⟩; have hB1 : Below W'.heap.size W' w1 := (by first | exact hb1 | exact ⟨hb1.os, hb1.tape, hb1.output, hb1.size, hb1.block⟩); clear hb1))
        all_goals gi_wp2
        all_goals exact ⟨(keeps_below hB1).from _, kc_below (by omega) hB1, hsn, hBW.trans (hB1.mono hBW.size), hKF.trans ((keeps_below hB1).from _), Nat.le_trans hsz hB1.size⟩
      | true =>
        rw [hq] at HTy hsn
        clear hq
        gi_wp2
        gi_region_with_o (first | (refine ⟨trivial, ?_⟩; gi_at_call 92; (try rw [hcb]); refine (CallsIn.inRound l2 (CallsIn.inRound l0 (callsIn_wide.2 (HTy.out _ (by first | exact sw2 | exact (show SW (World.drew _) from sw2)))))).mono ?_; rintro e w1 ⟨rfl, hb1⟩; have hB1 : Below W'.heap.size W' w1 := (by first | exact hb1 | exact ⟨hb1.os, hb1.tape, hb1.output, hb1.size, hb1.block⟩); clear hb1))
        all_goals gi_wp2
        all_goals exact ⟨(keeps_below hB1).from _, ⟨rfl, hsn⟩, hBW.trans (hB1.mono hBW.size), hKF.trans ((keeps_below hB1).from _), Nat.le_trans hsz hB1.size⟩
    case done2 =>
      rintro ys' W' rfl ⟨hh, hBW, hKF, hsz⟩
      have hv2 : Boxed W' (w4.heap.size + 1) 23 v := (hBW.block _ hv.lt).trans hv
      have kA : Boxed W' w4.heap.size 80 (.int .u32 (fm l)) := (hBW.block _ hA.lt).trans hA
      have kT : Boxed W' (w.heap.size + 1) 3 (.int .i64 (t : Int)) := (hBW.block _ hT.lt).trans hT
      have x2 := (show Boxed W' Bx 3 (.int .i64 ((x.val : Nat) : Int)) from (hBW.block _ bX.lt).trans bX).cell
      have hrow2 := own_none hrow hBW
      have hc2 := hc.next hBW
      have hst := tsoP_yes (pre := pre) (show mnm t l x.val = true by rw [mnm, hh]; rfl)
      have hB2 := hB.trans (hBW.mono hB.size)
      have hN2 : w4.heap.size + 4 ≤ W'.heap.size := Nat.le_trans hN hBW.size
      have v2 := hv2.cell
      clear hrow hv hA hT hc hB hN hsz hh bX bN cX hr' hr
      generalize tsoP t l pre = Q at *
      gi_wp2_with (gi_at_builtin; refine wpListIn_append_own _ rfl _ _ 23 rfl (w4.heap.size + 4) 3 i0 (.int .i64 0) 1 8 Tryd.underlying23 hi hz0 hz1 hz2 rfl (by decide) _ _ _ rfl (hrow2.alloc _) ⟨W'.heap.size, 0, none⟩ 1 1 [.int .i64 ((x.val : Nat) : Int)] rfl rfl (cell_one_new _ _ _) (by simp [Value.oneCell']) (by unfold maxLen; omega) (by omega) (by first | omega | (simp; omega)) ?_; intro v' w1 hown' hgrow _; obtain ⟨g', cap', rfl⟩ := ownsRow_succ hown'; obtain ⟨hv1, hv3, hr2, hk2, hb2⟩ := appended2 (N := w.heap.size) hv2 (by decide) hrow2 (by omega) (by omega) (by omega) hown' hgrow; have hc1 := hv1.cell; have hf1 := hv1.frozen)
      have kA3 := boxed_far ((kA.alloc _).kept hgrow (own_ne hrow2 (by omega))) (.slice (some ⟨g', 0, none⟩) (Q.length + 1) cap') (show w4.heap.size ≠ w4.heap.size + 1 by omega)
      have kT3 := boxed_far ((kT.alloc _).kept hgrow (own_ne hrow2 (by omega))) (.slice (some ⟨g', 0, none⟩) (Q.length + 1) cap') (show w.heap.size + 1 ≠ w4.heap.size + 1 by omega)
      have hc3 := ((hc2.next ((Below.refl _ W').alloc (Nat.le_refl _) _)).grown hgrow (fun p hp => own_ne hrow2 (hlo p hp).1)).grown (grownBy_setCell' w1 (w4.heap.size + 1) (.slice (some ⟨g', 0, none⟩) (Q.length + 1) cap')) (fun p hp e => (hlo p hp).2 (by simpa using e))
      exact ⟨hKF.trans (hk2.from _), fun _ => hc3, ⟨⟨_, hv3, by rw [hst]; simpa [ivs, toI] using hr2, trivial⟩, ⟨kA3, kT3, hc3⟩, hB2.trans hb2, Nat.le_trans hN2 hb2.size⟩⟩
    case stop2 =>
      rintro c pre' W' hpre ⟨⟨rfl, hh⟩, hBW, hKF, hsz⟩
      have hv2 : Boxed W' (w4.heap.size + 1) 23 v := (hBW.block _ hv.lt).trans hv
      have kA : Boxed W' w4.heap.size 80 (.int .u32 (fm l)) := (hBW.block _ hA.lt).trans hA
      have kT : Boxed W' (w.heap.size + 1) 3 (.int .i64 (t : Int)) := (hBW.block _ hT.lt).trans hT
      have hrow2 := own_none hrow hBW
      have hc2 := hc.next hBW
      have hst := tsoP_no (pre := pre) (show mnm t l x.val = false by rw [mnm, hits_pre hpre hh]; rfl)
      have hB2 := hB.trans (hBW.mono hB.size)
      have hN2 : w4.heap.size + 4 ≤ W'.heap.size := Nat.le_trans hN hBW.size
      gi_wp2
      exact ⟨hKF, fun _ => hc2, ⟨⟨v, hv2, by rw [hst]; exact hrow2, trivial⟩, ⟨kA, kT, hc2⟩, hB2, hN2⟩⟩
  case done =>
    rintro D zs W hD rfl ⟨⟨v, hv, hrow, _⟩, ⟨hA, hT, hc⟩, hB, hN⟩ hK
    have hc9 := hv.cell
    gi_wp2
    rw [Exit.noGoto_ret]
    refine ⟨by simp, .inl ⟨_, _, rfl, run_takeDeferred hK, ?_⟩⟩
    refine ⟨_, results_tmp rfl _ _ _, ?_⟩
    refine RetInts.of ?_ (hB.trans (belowK_b (w := w) (Nat.le_refl _) W D _ _ (by omega) hK rfl rfl))
    show World.ownsRow _ _ _ 1 v (toI _).length _
    rw [toI_length, ← tsoP_all]
    exact own_mono (ownsRow_putObj hrow _ hK rfl) (by omega)
  case stop =>
    rintro D c pre W _ _ h _
    exact h.elim

end Go.Proofs.YthmipnflbiclbaaDoor
