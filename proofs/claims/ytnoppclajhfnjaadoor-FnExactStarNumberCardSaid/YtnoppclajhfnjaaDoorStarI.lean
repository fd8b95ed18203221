/- hasStar and StarNumber, the program's. Conditions: Sets is a slice of ints; the table setsWith is laid. -/
import Derived.Test.YtnoppclajhfnjaaDoorLeastH
import Derived.Test.YtnoppclajhfnjaaDoorMem
import Derived.Test.YtnoppclajhfnjaaDoorStarM
import Derived.Test.YtnoppclajhfnjaaDoorTeach
namespace Go.Proofs.YtnoppclajhfnjaaDoor
open Go.RowKit Go.Shelf
attribute [local go_sem] Oper.semAt_some

theorem pre_any {l : List Nat} {t s : Nat} {pre : List (Fin 5)} (hp : pre <+: ptF 5 s) (h : pre.any (lacks l t s) = true) : stB l t s = false := by
  obtain ⟨r, e⟩ := hp
  rw [stB, ← e, List.any_append, h]; rfl
theorem mem_any {l : List Nat} (h32 : ∀ u ∈ l, u < 32) (hp : l.Pairwise (· < ·)) (p : Nat → Bool) : (memF l).any (fun x => p x.val) = l.any p := by
  have h := memF_val h32 hp
  rw [← h, List.any_map, h]; rfl
theorem mem_some {l : List Nat} (h32 : ∀ u ∈ l, u < 32) (hp : l.Pairwise (· < ·)) {p : Nat → Bool} {pre : List (Fin 32)} (hpre : pre <+: memF l) (h : pre.any (fun x => p x.val) = true) : l.any p = true := by
  rw [← mem_any h32 hp p]
  obtain ⟨r, e⟩ := hpre
  rw [← e, List.any_append, h]; rfl
theorem xor_in : ∀ t : Fin 32, ∀ y : Fin 5, t.1 ^^^ 2 ^ y.1 < 32 ∧ bits .xor .i64 ((t.1 : Nat) : Int) (IntKind.i64.wrap ((2 : Int) ^ y.1)) = ((t.1 ^^^ 2 ^ y.1 : Nat) : Int) := by decide +kernel

set_option maxRecDepth 100000 in
set_option maxHeartbeats 3200000 in
theorem implHasStar (l : List Nat) (s : Nat) (h32 : ∀ u ∈ l, u < 32) (hp : l.Pairwise (· < ·)) (hs : s < 32) (w : World) (hsw : SW w) :
    Calls Tryd.prog 60 #[.int .u32 (fm l), .int .i64 (s : Int)] w fun e w' => e = .returned (.bool (hsB l s)) ∧ Below w.heap.size w w' := by
  refine (callsIn_wide (n := 8)).1 ?_
  refine callsIn_of_wp_marks Tryd.func60 rfl trivial ?_ rfl
  simp only [Tryd.ntmps60, List.size_toArray, List.length_cons, List.length_nil, Nat.reduceAdd, Nat.reduceSub, Array.replicate_succ, Array.replicate_zero, List.push_toArray, List.append_toArray, List.nil_append, List.cons_append]
  gi_wp2_with fail
  refine wpIn_wide.2 ?_
  apply wp_scope_straight
  refine (wpIn_wide (n := 8)).1 ?_
  gi_wp2_with fail
  refine wpIn_wide.2 ?_
  apply wp_label
  have bF := ((Boxed.new w 62 (.int .u32 (fm l))).alloc (.cells #[.int .i64 (s : Int)] 3)).alloc (.cells #[.bool false] 4)
  have bS := (Boxed.new (w.alloc (.cells #[.int .u32 (fm l)] 62)) 3 (.int .i64 (s : Int))).alloc (.cells #[.bool false] 4)
  have bR := Boxed.new ((w.alloc (.cells #[.int .u32 (fm l)] 62)).alloc (.cells #[.int .i64 (s : Int)] 3)) 4 (.bool false)
  simp only [World.size_alloc] at bS bR
  have hB0 : Below w.heap.size w (((w.alloc (.cells #[.int .u32 (fm l)] 62)).alloc (.cells #[.int .i64 (s : Int)] 3)).alloc (.cells #[.bool false] 4)) := (((Below.refl _ w).alloc (Nat.le_refl _) _).alloc (by simp) _).alloc (by simp; omega) _
  have hsz : (((w.alloc (.cells #[.int .u32 (fm l)] 62)).alloc (.cells #[.int .i64 (s : Int)] 3)).alloc (.cells #[.bool false] 4)).heap.size = w.heap.size + 3 := by simp
  have hc0 : CS swc (((w.alloc (.cells #[.int .u32 (fm l)] 62)).alloc (.cells #[.int .i64 (s : Int)] 3)).alloc (.cells #[.bool false] 4)) := (sw_cs (hsw.next hB0))
  obtain ⟨W0, hW0⟩ : ∃ W0, ((w.alloc (.cells #[.int .u32 (fm l)] 62)).alloc (.cells #[.int .i64 (s : Int)] 3)).alloc (.cells #[.bool false] 4) = W0 := ⟨_, rfl⟩
  rw [hW0] at bF bS bR hB0 hsz hc0 ⊢
  clear hW0
  have cF := bF.cell
  gi_wp2
  have hw3 : 0 < w.heap.size := hsw.1
  refine wpIn_rangeV rfl (by omega) (gf := 101) (fs := #[.int .u32 (fm l)]) (lb := #[]) rfl trivial (enters_of Tryd.func101 (by kernel_rfl) rfl)
    (memStops (fun _ => Kcs swc) _ (by omega) l W0) (fun _ => kcs_t) (fun _ => kcs_b) (Below.refl _ _) (fun _ => rfl)
    (fun pre W => (pre.any (fun x => stB l x.val s) = false ∧ (Boxed W w.heap.size 62 (.int .u32 (fm l)) ∧ Boxed W (w.heap.size + 1) 3 (.int .i64 (s : Int)) ∧ Boxed W (w.heap.size + 1 + 1) 4 (.bool false) ∧ CS swc W)) ∧ (Below w.heap.size w W ∧ w.heap.size + 3 ≤ W.heap.size))
    (fun c pre W => ((c = .ret ∧ pre.any (fun x => stB l x.val s) = true) ∧ Boxed W (w.heap.size + 1 + 1) 4 (.bool true)) ∧ Below w.heap.size w W)
    (OwnFrom.and (OwnFrom.and (ownFrom_pure _ _) (Own.from (fun s A B row hs hg hr => ⟨boxed_keeps hs.1 hg hr, boxed_keeps hs.2.1 hg hr, boxed_keeps hs.2.2.1 hg hr, cs_own _ s A B row hs.2.2.2 hg hr⟩) _)) (OwnFrom.and (ownFrom_below (Nat.le_refl _) (by omega)) (fun s A B row hs hg hr => Nat.le_trans hs hg.size)))
    (fun c => OwnFrom.and (OwnFrom.and (ownFrom_pure _ _) (Own.from (boxed_own _ _ _) _)) (ownFrom_below (Nat.le_refl _) (by omega)))
    ⟨⟨rfl, bF, bS, bR, hc0⟩, hB0, by omega⟩
    (fun x a' W => ∃ Bx, w.heap.size + 3 ≤ Bx ∧ Boxed W Bx 3 (.int .i64 ((x.val : Nat) : Int)) ∧ a' = { tmps := #[.int .u32 (fm l), .int .i64 (s : Int), .pointer (some ⟨w.heap.size, 0, none⟩), .pointer (some ⟨w.heap.size + 1, 0, none⟩), .pointer (some ⟨w.heap.size + 1 + 1, 0, none⟩), .pointer (some ⟨Bx, 0, none⟩), undef, .int .u32 (fm l), (.func (.func 101) #[.int .u32 (fm l)] #[]), .int .i64 ((x.val : Nat) : Int), undef, undef, undef, undef, undef, undef, undef, undef, undef, undef, undef], defers := [] })
    (fun x a' _ X Y row hs hg hr => by obtain ⟨Bx, h1, h2, h3⟩ := hs; exact ⟨Bx, h1, boxed_own Bx 3 (fun (_ : Unit) => Value.int .i64 ((x.val : Nat) : Int)) () X Y row h2 hg (fun r e => (hr r e).2), h3⟩)
    ?assign ?body ?done ?stop
  case assign =>
    rintro l0 pre x _ W K _ _ ⟨⟨hn, hF, hS, hR, hc⟩, hB, hN⟩ _ hK
    gi_wp2
    exact hK _ _ ((KeepsOthers.alloc _ _).from _) (fun hh => hh.next ((Below.refl _ W).alloc (Nat.le_refl _) _)) ⟨⟨hn, hF.alloc _, hS.alloc _, hR.alloc _, hc.next ((Below.refl _ W).alloc (Nat.le_refl _) _)⟩, hB.alloc hB.size _, by simp; omega⟩ ⟨W.heap.size, hN, Boxed.new W _ _, rfl⟩
  case body =>
    rintro l0 pre x a' W hl ⟨r, hr⟩ ⟨⟨hn, hF, hS, hR, hc⟩, hB, hN⟩ ⟨Bx, hBx, bX, rfl⟩ hlt
    have cS := hS.cell
    gi_wp2_with (refine ⟨trivial, ?_⟩; gi_at_call 71; refine (CallsIn.inRound l0 (callsIn_wide.2 (implPointsOf s _))).mono ?_; rintro e w' ⟨rfl, rfl⟩)
    have bN := Boxed.new W 3 (.int .i64 (s : Int))
    have hr' : (W.alloc (.cells #[.int .i64 (s : Int)] 3)).heap[l0]? = some (.loop r) := (Below.heap_alloc W _ l0 (Array.getElem?_eq_some_iff.1 hr).1).trans hr
    refine wpIn_rangeFunc_ownN (l₀ := l0) (r₀ := r) rfl hr' (by omega) (gf := 110) (lb := #[.pointer (some ⟨W.heap.size, 0, none⟩)]) rfl trivial (enters_of Tryd.func110 (by kernel_rfl) rfl)
      ((ptsStops Fence.wide _ trivial rfl (by omega) W.heap.size s hs _ bN.cell).inRound l0) kc_t kc_b (Below.refl _ _) (fun _ => rfl)
      (fun (pre' : List (Fin 5)) W' => pre'.any (lacks l x.val s) = false ∧ (Below W.heap.size W W' ∧ KeepsFrom W0.heap.size W W' ∧ W.heap.size + 1 ≤ W'.heap.size))
      (fun c (pre' : List (Fin 5)) W' => (c = Code.exit 1 ∧ pre'.any (lacks l x.val s) = true) ∧ (Below W.heap.size W W' ∧ KeepsFrom W0.heap.size W W' ∧ W.heap.size + 1 ≤ W'.heap.size))
      (OwnFrom.and (ownFrom_pure _ (fun (pre' : List (Fin 5)) => pre'.any (lacks l x.val s) = false)) (OwnFrom.and (ownFrom_below (Nat.le_refl _) (by simp)) (OwnFrom.and (ownFrom_keepsFrom (by first | omega | (simp; omega) | simp)) (fun s A B row hs hg hr => Nat.le_trans hs hg.size))))
      (fun c => OwnFrom.and (ownFrom_pure _ (fun (pre' : List (Fin 5)) => c = Code.exit 1 ∧ pre'.any (lacks l x.val s) = true)) (OwnFrom.and (ownFrom_below (Nat.le_refl _) (by simp)) (OwnFrom.and (ownFrom_keepsFrom (by first | omega | (simp; omega) | simp)) (fun s A B row hs hg hr => Nat.le_trans hs hg.size))))
      ⟨rfl, (Below.refl _ W).alloc (Nat.le_refl _) _, (KeepsOthers.alloc _ _).from _, by simp⟩
      (fun y a'' _ => a'' = { tmps := #[.int .u32 (fm l), .int .i64 (s : Int), .pointer (some ⟨w.heap.size, 0, none⟩), .pointer (some ⟨w.heap.size + 1, 0, none⟩), .pointer (some ⟨w.heap.size + 1 + 1, 0, none⟩), .pointer (some ⟨Bx, 0, none⟩), .int .i64 ((y.val : Nat) : Int), .int .u32 (fm l), (.func (.func 101) #[.int .u32 (fm l)] #[]), .int .i64 ((x.val : Nat) : Int), .int .i64 (s : Int), (.func (.func 110) #[] #[.pointer (some ⟨W.heap.size, 0, none⟩)]), .int .i64 ((y.val : Nat) : Int), undef, undef, undef, undef, undef, undef, undef, undef], defers := [] })
      (fun _ _ _ _ _ _ hs _ _ => hs)
      ?assign2 ?body2 ?done2 ?stop2
    case assign2 =>
      rintro l2 pre' y W' K hi hK
      gi_wp2
      exact hK _ _ (KeepsFrom.refl _ _) (fun _ e => e) hi rfl
    case body2 =>
      rintro l2 pre' y a'' W' _ _ ⟨hh, hBW, hKF, hsz'⟩ rfl _
      have a2 := (show Boxed W' w.heap.size 62 (.int .u32 (fm l)) from (hBW.block _ hF.lt).trans hF).cell
      have s2 := (show Boxed W' (w.heap.size + 1) 3 (.int .i64 (s : Int)) from (hBW.block _ hS.lt).trans hS).cell
      have x2 := (show Boxed W' Bx 3 (.int .i64 ((x.val : Nat) : Int)) from (hBW.block _ bX.lt).trans bX).cell
      have sw2 : SW W' := cs_sw (fun p hp => (hc.next hBW) p hp)
      have sw3 : SW W'.drew := sw2
      obtain ⟨hx32, hxs⟩ := xor_in x y
      have HAg := Lib.hid (fun w0 h0 => implAgreeing l (x.val ^^^ 2 ^ y.val) s h32 hx32 hs w0 h0)
      have hq0 : lacks l x.val s y = decide (agr (x.val ^^^ 2 ^ y.val) s l = []) := rfl
      have hfz : (fm (agr (x.val ^^^ 2 ^ y.val) s l) == 0) = lacks l x.val s y := by
        rw [hq0, Bool.eq_iff_iff, beq_iff_eq, decide_eq_true_eq]
        have h9 := fm_ne (l := agr (x.val ^^^ 2 ^ y.val) s l) (fun u hu => h32 u (agr_sub hu))
        exact ⟨fun e => Classical.byContradiction (fun hne => h9.2 hne e), fun e => by rw [e]; exact fm_nil⟩
      clear hq0
      have hsn : (pre' ++ [y]).any (lacks l x.val s) = lacks l x.val s y := by rw [List.any_append, hh]; simp
      generalize lacks l x.val s y = q at *
      generalize fm (agr (x.val ^^^ 2 ^ y.val) s l) = A at *
      generalize x.val ^^^ 2 ^ y.val = z at *
      have hy5 := y.isLt
      have hmx : Tryd.prog.follows .mixedOrders = true := by kernel_rfl
      cases q with
      | false =>
        gi_wp2
        gi_region_with_o (first | (refine ⟨trivial, ?_⟩; gi_at_call 102; (try rw [hxs]); refine (CallsIn.inRound l2 (CallsIn.inRound l0 (callsIn_wide.2 (HAg.out _ (by first | exact sw3 | exact sw2))))).mono ?_; rintro e w1 ⟨rfl, hb1⟩; have hB1 : Below W'.heap.size W' w1 := (by first | exact hb1 | exact ⟨hb1.os, hb1.tape, hb1.output, hb1.size, hb1.block⟩); clear hb1))
        all_goals gi_wp2
        all_goals exact ⟨(keeps_below hB1).from _, kc_below (by omega) hB1, hsn, hBW.trans (hB1.mono hBW.size), hKF.trans ((keeps_below hB1).from _), Nat.le_trans hsz' hB1.size⟩
      | true =>
        gi_wp2
        gi_region_with_o (first | (refine ⟨trivial, ?_⟩; gi_at_call 102; (try rw [hxs]); refine (CallsIn.inRound l2 (CallsIn.inRound l0 (callsIn_wide.2 (HAg.out _ (by first | exact sw3 | exact sw2))))).mono ?_; rintro e w1 ⟨rfl, hb1⟩; have hB1 : Below W'.heap.size W' w1 := (by first | exact hb1 | exact ⟨hb1.os, hb1.tape, hb1.output, hb1.size, hb1.block⟩); clear hb1))
        all_goals gi_wp2
        all_goals exact ⟨(keeps_below hB1).from _, ⟨rfl, hsn⟩, hBW.trans (hB1.mono hBW.size), hKF.trans ((keeps_below hB1).from _), Nat.le_trans hsz' hB1.size⟩
    case done2 =>
      rintro ys' W' rfl ⟨hh, hBW, hKF, hsz'⟩
      have kR : Boxed W' (w.heap.size + 1 + 1) 4 (.bool false) := (hBW.block _ hR.lt).trans hR
      have r2 := kR.cell
      have f2 := kR.frozen
      have hst : stB l x.val s = true := by rw [stB, hh]; rfl
      gi_wp2
      exact ⟨hKF.trans ((KeepsOthers.setCell _ _ _).from _), ⟨⟨rfl, by rw [List.any_append, hn]; simp [hst]⟩, kR.set _⟩, (hB.trans (hBW.mono hB.size)).setCell (p := ⟨w.heap.size + 1 + 1, 0, none⟩) (by show w.heap.size ≤ w.heap.size + 1 + 1; omega) _⟩
    case stop2 =>
      rintro c pre' W' hpre ⟨⟨rfl, hh⟩, hBW, hKF, hsz'⟩
      have hst := pre_any hpre hh
      have kF : Boxed W' w.heap.size 62 (.int .u32 (fm l)) := (hBW.block _ hF.lt).trans hF
      have kS : Boxed W' (w.heap.size + 1) 3 (.int .i64 (s : Int)) := (hBW.block _ hS.lt).trans hS
      have kR : Boxed W' (w.heap.size + 1 + 1) 4 (.bool false) := (hBW.block _ hR.lt).trans hR
      have hc2 := hc.next hBW
      gi_wp2
      exact ⟨hKF, fun _ => hc2, ⟨⟨by rw [List.any_append, hn]; simp [hst], kF, kS, kR, hc2⟩, hB.trans (hBW.mono hB.size), Nat.le_trans hN hBW.size⟩⟩
  case done =>
    rintro D zs W hD rfl ⟨⟨hn, hF, hS, hR, hc⟩, hB, hN⟩ hK
    have cR := hR.cell
    have fR := hR.frozen
    have hq : hsB l s = false := by rw [hsB, ← mem_any h32 hp (fun t => stB l t s)]; exact hn
    gi_wp2
    rw [Exit.noGoto_ret]
    have hK' := (KeepsOthers.setCell W ⟨w.heap.size + 1 + 1, 0, none⟩ (.bool false)).same D _ hK rfl
    refine ⟨by simp, .inl ⟨_, _, rfl, run_takeDeferred hK', ?_⟩⟩
    have hc5 := cell_kept (hR.set (.bool false)).cell (grownBy_putObj' _ D (.deferred none)) (fun r e => by cases e; exact ⟨_, hK', rfl⟩)
    refine ⟨.bool false, ?_, by rw [hq], (hB.setCell (p := ⟨w.heap.size + 1 + 1, 0, none⟩) (by show w.heap.size ≤ w.heap.size + 1 + 1; omega) _).trans (belowK_b (w := w) (Nat.le_refl _) _ D _ _ (by omega) hK' rfl rfl)⟩
    simp [results, Tryd.f60, go_sem, hc5]
  case stop =>
    rintro D c pre W hD hpre ⟨⟨⟨rfl, hh⟩, hR⟩, hB⟩ hK
    have hq : hsB l s = true := by rw [hsB]; exact mem_some h32 hp hpre hh
    gi_wp2
    rw [Exit.noGoto_ret]
    refine ⟨by simp, .inl ⟨_, _, rfl, run_takeDeferred hK, ?_⟩⟩
    have hc5 := cell_kept hR.cell (grownBy_putObj' _ D (.deferred none)) (fun r e => by cases e; exact ⟨_, hK, rfl⟩)
    refine ⟨.bool true, ?_, by rw [hq], hB.trans (belowK_b (w := w) (Nat.le_refl _) _ D _ _ (by omega) hK rfl rfl)⟩
    simp [results, Tryd.f60, go_sem, hc5]

end Go.Proofs.YtnoppclajhfnjaaDoor
