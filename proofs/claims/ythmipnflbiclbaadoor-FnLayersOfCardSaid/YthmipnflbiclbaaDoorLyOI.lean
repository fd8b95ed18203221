/- LayersOf, the program's. Conditions: Sets is a slice of ints; the table setsWith is laid. -/
import Derived.Test.YthmipnflbiclbaaDoorLyOS
import Derived.Test.YthmipnflbiclbaaDoorRecI
namespace Go.Proofs.YthmipnflbiclbaaDoor
open Go.RowKit Go.Shelf
attribute [local go_sem] Oper.semAt_some

theorem ls_own {B : Nat} {v : Value} {bs : List Sl} {X Y : World} {row : Option Nat} (hs : LsS B X v bs) (hg : X.grownBy Y row) (hr : ∀ r, row = some r → ∃ o : Obj, X.heap[r]? = some o ∧ o.isCells = false) : LsS B Y v bs := by
  refine World.ownsRow.kept hs hg ?_
  rcases hs.2 with ⟨rfl, _⟩ | ⟨g, cap, cur, rfl, _, hgb, _⟩
  · exact .inl rfl
  · refine .inr (fun e => ?_)
    obtain ⟨o, ho, hc⟩ := hr g e.symm
    rw [hgb] at ho; cases ho; cases hc
theorem ints_own2 {B : Nat} {v : Value} {zs : List Int} {X Y : World} {row : Option Nat} (hs : Ints B X v zs) (hg : X.grownBy Y row) (hr : ∀ r, row = some r → ∃ o : Obj, X.heap[r]? = some o ∧ o.isCells = false) : Ints B Y v zs := by
  refine hs.kept hg ?_
  rcases hs.2 with ⟨rfl, _⟩ | ⟨g, cap, cur, rfl, _, hgb, _⟩
  · exact .inl rfl
  · refine .inr (fun e => ?_)
    obtain ⟨o, ho, hc⟩ := hr g e.symm
    rw [hgb] at ho; cases ho; cases hc
theorem ly_own {B : Nat} {bs : List Sl} {P : List (List Nat × List Nat)} {X Y : World} {row : Option Nat} (hs : LyR B X bs P) (hg : X.grownBy Y row) (hr : ∀ r, row = some r → ∃ o : Obj, X.heap[r]? = some o ∧ o.isCells = false) : LyR B Y bs P := ⟨hs.1, fun i hi => ints_own2 (hs.2 i hi) hg hr⟩
theorem LyR.put {B b : Nat} {W : World} {bs : List Sl} {P : List (List Nat × List Nat)} (h : LyR B W bs P) (hb : b < B) (u : Value) : LyR B (W.setCell ⟨b, 0, none⟩ u) bs P := ⟨h.1, fun i hi => (h.2 i hi).put hb⟩
theorem LsS.shape {B : Nat} {W : World} {v : Value} {bs : List Sl} (h : LsS B W v bs) : ∃ (a : Option Addr) (cap : Nat), v = .slice a bs.length cap := by
  rcases h.2 with ⟨rfl, hn⟩ | ⟨g, cap, cur, rfl, _⟩
  · exact ⟨none, 0, by rw [hn]⟩
  · exact ⟨_, _, rfl⟩

/-- no two of the slices share a block -/
def LyD (bs : List Sl) : Prop := ∀ i j, i < bs.length → j < bs.length → i ≠ j → (bs.getD i sl0).g ≠ (bs.getD j sl0).g
theorem LyD.nil : LyD [] := fun i j hi => by cases hi
theorem LyD.snoc {bs : List Sl} (h : LyD bs) {s : Sl} (hs : ∀ i, i < bs.length → (bs.getD i sl0).g ≠ s.g) : LyD (bs ++ [s]) := by
  have hat : ∀ i, i < bs.length → (bs ++ [s]).getD i sl0 = bs.getD i sl0 := fun i hi => by rw [List.getD_eq_getElem?_getD, List.getElem?_append_left hi, ← List.getD_eq_getElem?_getD]
  have hlast : (bs ++ [s]).getD bs.length sl0 = s := by simp [List.getD_eq_getElem?_getD]
  intro i j hi hj hne
  rw [List.length_append, List.length_singleton] at hi hj
  by_cases e1 : i = bs.length
  · have h2 : j < bs.length := by omega
    rw [e1, hlast, hat j h2]
    exact fun e => hs j h2 e.symm
  · have h1 : i < bs.length := by omega
    rw [hat i h1]
    by_cases e2 : j = bs.length
    · rw [e2, hlast]
      exact hs i h1
    · rw [hat j (by omega)]
      exact h i j h1 (by omega) hne
theorem slv_inj (x y : Sl) (h : slv x = slv y) : x = y := by
  cases x; cases y
  simp only [slv, Value.slice.injEq, Option.some.injEq, Addr.mk.injEq, and_true] at h
  obtain ⟨h1, h2, h3⟩ := h
  subst h1; subst h2; subst h3
  rfl
theorem LsS.uniq {B : Nat} {W : World} {v : Value} {bs cs : List Sl} (h1 : LsS B W v bs) (h2 : LsS B W v cs) : bs = cs := by
  rcases h1.2 with ⟨rfl, hn⟩ | ⟨g, cap, cur, rfl, _, hg, _, _, _, ht⟩
  · rcases h2.2 with ⟨_, hm⟩ | ⟨g', cap', cur', e, _⟩
    · rw [List.eq_nil_of_length_eq_zero hn, List.eq_nil_of_length_eq_zero hm]
    · cases e
  · rcases h2.2 with ⟨e, _⟩ | ⟨g', cap', cur', e, _, hg', _, _, _, ht'⟩
    · cases e
    · simp only [Value.slice.injEq, Option.some.injEq, Addr.mk.injEq, and_true] at e
      obtain ⟨rfl, he, rfl⟩ := e
      rw [hg] at hg'
      have hc := (Obj.cells.inj (Option.some.inj hg')).1
      rw [← hc, ← he] at ht'
      exact (List.map_inj_right slv_inj).1 (ht.symm.trans ht')
theorem Boxed.uniq {W : World} {b : Nat} {t : TypeId} {v u : Value} (h1 : Boxed W b t v) (h2 : Boxed W b t u) : v = u := by
  have h := h1.cell.symm.trans h2.cell
  exact Option.some.inj h
/-- the layers P are answered, in blocks of their own -/
def RetLyD (P : List (List Nat × List Nat)) (w : World) (e : Ending) (w' : World) : Prop := ∃ (a : Option Addr) (cap : Nat) (bs : List Sl), e = .returned (.slice a bs.length cap) ∧ LsS w.heap.size w' (.slice a bs.length cap) bs ∧ LyR w.heap.size w' bs P ∧ LyD bs ∧ Below w.heap.size w w'

set_option maxRecDepth 100000 in
set_option maxHeartbeats 6400000 in
theorem implLyIn (m : Nat) (v : Value) (ns : List Nat) (w : World) (hc : Cls m ns) (hvd : vldB (m : Int) (toI ns) = true) (h : Rd w v (toI ns)) (hsw : SW w) :
    Calls Tryd.prog 16 #[.agg #[.int .i64 (m : Int), v]] w (RetLyD (lys ns) w) := by
  have HV := Lib.hid (fun v w0 h0 => implValid (m : Int) v (toI ns) w0 h0)
  rw [hvd] at HV
  have HF := Lib.hid (fun v w0 h0 => implFamilyOf (m : Int) v ns hc.lt32 w0 h0)
  have H := Lib.hid h
  obtain ⟨a, b, off, cap, rfl, _, _, _⟩ := h
  rw [toI_length] at H ⊢
  obtain ⟨i0, hi, hz0, hz1, hz2⟩ := info_parts infoL
  refine (callsIn_wide (n := 8)).1 ?_
  refine callsIn_of_wp_marks Tryd.func16 rfl trivial ?_ rfl
  simp only [Tryd.ntmps16, List.size_toArray, List.length_cons, List.length_nil, Nat.reduceAdd, Nat.reduceSub, Array.replicate_succ, Array.replicate_zero, List.push_toArray, List.append_toArray, List.nil_append, List.cons_append]
  refine wpIn_wide.2 ?_
  go_wp2_with fail
  refine (HV.out _ _ (H.out.below (by go_grown) (Nat.le_refl _))).mono ?_
  rintro e w3 ⟨rfl, hb3⟩
  have X3 := Lib.hid ((Bx.new (m : Int) (.slice a ns.length cap) w).next hb3 (by simp))
  have B3 := Lib.hid (show Below w.heap.size w w3 from Below.trans ((Below.refl _ w).alloc (Nat.le_refl _) _) (hb3.mono (by simp)))
  have hwo3 : w.heap.size + 1 ≤ w3.heap.size := X3.out.lt
  have BA := Lib.hid (B3.out.alloc B3.out.size (Obj.cells #[.slice none 0 0] 32))
  have OA := Lib.hid (Boxed.new w3 32 (.slice none 0 0))
  have X4 := Lib.hid (X3.out.alloc (Obj.cells #[.slice none 0 0] 32))
  clear hb3
  have x0 := X4.out.out.at0
  have x1 := X4.out.out.at1
  go_wp2_with fail
  refine (HF.out _ _ (H.out.below BA.out (Nat.le_refl _))).mono ?_
  rintro e w4 ⟨rfl, hb4⟩
  have B4 := Lib.hid (BA.out.trans (hb4.mono BA.out.size))
  have O4 := Lib.hid (OA.out.kept (grown_none hb4) (by simp))
  have hz4 := hb4.size
  clear hb4 x0 x1 OA BA
  go_wp2_with fail
  refine (wpIn_wide (n := 8)).1 ?_
  obtain ⟨o, ho⟩ : ∃ o, o = w3.heap.size := ⟨_, rfl⟩
  rw [← ho] at O4 ⊢
  have hsz4 : o + 1 ≤ w4.heap.size := by rw [World.size_alloc] at hz4; omega
  have hwo : w.heap.size + 1 ≤ o := by omega
  clear ho hz4
  have S4 : SW w4 := hsw.next B4.out
  have HC := Lib.hid hc
  have hl32 := hc.length
  refine wpIn_rangeV rfl (by omega) (gf := 68) (fs := #[.int .u32 (fm ns)]) (lb := #[]) rfl trivial (enters_of Tryd.func68 (by kernel_rfl) rfl)
    (layStops m ns hc _ (by omega) w4 S4) kpL_t kpL_b (Below.refl _ _) (fun _ => rfl)
    (fun pre W => (∃ (v : Value) (bs : List Sl), Boxed W o 32 v ∧ LsS (o + 1) W v bs ∧ LyR (o + 1) W bs (pre.map Ly.p) ∧ LyD bs) ∧ CS swc W ∧ (Below w.heap.size w W ∧ o + 1 ≤ W.heap.size))
    (fun _ _ _ => False)
    (OwnFrom.and (Own.from (fun s A B row hs hg hr => by obtain ⟨v, bs, h1, h2, h3, h4⟩ := hs; exact ⟨v, bs, boxed_keeps h1 hg hr, ls_own h2 hg hr, ly_own h3 hg hr, h4⟩) _) (OwnFrom.and (Own.from (fun s A B row hs hg hr => cs_own _ s A B row hs hg hr) _) (OwnFrom.and (ownFrom_below (Nat.le_refl _) (by omega)) (fun s A B row hs hg hr => Nat.le_trans hs hg.size))))
    (fun _ _ _ _ _ hs _ _ => hs)
    ⟨⟨_, [], O4.out, LsS.nil _ _, LyR.nil _ _, LyD.nil⟩, sw_cs S4, B4.out, hsz4⟩
    (fun x a' W => Ints (o + 1) W x.v (toI x.p.1) ∧ (x.p.1 = lay x.p.2 ∧ x.p.2 ≠ [] ∧ Cls m x.p.2) ∧ (∃ (u : Value) (cs : List Sl), Boxed W o 32 u ∧ LsS (o + 1) W u cs ∧ ∀ i, i < cs.length → x.v.ownBlock ≠ some (cs.getD i sl0).g) ∧ a' = { tmps := #[(.agg #[.int .i64 (m : Int), .slice a ns.length cap]), .pointer (some ⟨w.heap.size, 0, none⟩), .slice none 0 0, .pointer (some ⟨o, 0, none⟩), x.v, (.agg #[.int .i64 (m : Int), .slice a ns.length cap]), .bool true, .bool false, (.agg #[.int .i64 (m : Int), .slice a ns.length cap]), .int .u32 (fm ns), (.func (.func 68) #[.int .u32 (fm ns)] #[]), x.v, .int .u32 (fm x.p.2), undef, undef, undef, undef, undef], defers := [] })
    (fun x a' s X Y row hs hg hr => by obtain ⟨h1, h2, ⟨u, cs, h3, h4, h5⟩, h6⟩ := hs; exact ⟨ints_own _ _ _ _ s X Y row h1 hg hr, h2, ⟨u, cs, boxed_keeps h3 hg (fun r e => (hr r e).2), ls_own h4 hg (fun r e => (hr r e).2), h5⟩, h6⟩)
    ?assign ?body ?done ?stop
  case assign =>
    rintro l0 pre x W0 W K ⟨⟨u, cs, hu, hls, hly, _⟩, _, _, hN0⟩ hb0 hI ⟨hin, hpre⟩ hK
    obtain ⟨e1, e2, e3, _⟩ := lys_mem ns.length ns (Nat.le_refl _) HC.out x.p (hpre.subset (by simp))
    have hin2 := hin.mono hN0
    have hu2 : Boxed W o 32 u := (hb0.block _ hu.lt).trans hu
    have hls2 := hls.below hb0 (Nat.le_refl _)
    have hfar : ∀ i, i < cs.length → x.v.ownBlock ≠ some (cs.getD i sl0).g := fun i hi e => by
      have h1 := ((hly.2 i hi).lt (cs.getD i sl0).g rfl).2
      have h2 := (hin.lt (cs.getD i sl0).g e).1
      omega
    gi_wp2
    exact hK _ _ (KeepsFrom.refl _ _) ⟨fun e => e, fun e => e⟩ hI ⟨hin2, ⟨e1, e2, e3⟩, ⟨u, cs, hu2, hls2, hfar⟩, rfl⟩
  case body =>
    rintro l0 pre x a' W hl ⟨r, hr⟩ ⟨⟨v9, bs, hv, hrow, hly, hld⟩, hc0, hB, hN⟩ ⟨hin, ⟨e1, e2, e3⟩, ⟨u9, cs, hu9, hls9, hfar⟩, rfl⟩ hlt
    obtain rfl := Boxed.uniq hv hu9
    obtain rfl := hrow.uniq hls9
    clear hu9 hls9
    obtain ⟨v, L, cur⟩ := x
    dsimp only at hin e1 e2 e3 hfar ⊢
    subst e1
    have hne := lay_ne e2
    have hpos := List.length_pos_iff.2 hne
    obtain ⟨g, ⟨c9, rfl⟩, hg1, hg2⟩ : ∃ g, (∃ c, v = .slice (some ⟨g, 0, none⟩) (toI (lay cur)).length c) ∧ o + 1 ≤ g ∧ g < W.heap.size := by
      obtain ⟨a9, g9, c9, e9, h1, h2, _, h4, _⟩ := hin.shape
      have hn9 : a9 ≠ none := fun k => by
        have := (h2 k).1
        rw [← List.length_eq_zero_iff, toI_length] at this
        omega
      obtain rfl := h1.resolve_right hn9
      exact ⟨g9, ⟨c9, e9⟩, h4 hn9⟩
    rw [toI_length] at hin ⊢
    have hbl : bs.length ≤ 32 := by have := hly.1; rw [List.length_map] at this; omega
    have hcv := hv.cell
    have hfv := hv.frozen
    have hrow' : W.ownsRow (o + 1) 23 1 v9 bs.length (bs.map slv) := hrow
    have HP := Lib.hid (show (pre ++ [(⟨.slice (some ⟨g, 0, none⟩) (lay cur).length c9, (lay cur, cur)⟩ : Ly)]).map Ly.p = pre.map Ly.p ++ [(lay cur, cur)] by rw [List.map_append]; rfl)
    obtain ⟨n9, hn9⟩ : ∃ n9, n9 = (lay cur).length := ⟨_, rfl⟩
    rw [← hn9] at hin HP ⊢
    have HN9 := Lib.hid hn9
    clear hn9 hpos
    gi_wp2_with (gi_at_builtin; refine wpListIn_append_own _ rfl _ _ 32 rfl (o + 1) 23 i0 (.slice none 0 0) 1 24 Tryd.underlying32 hi hz0 hz1 hz2 rfl (by decide) _ _ _ rfl (hrow'.alloc _) ⟨W.heap.size, 0, none⟩ 1 1 [.slice (some ⟨g, 0, none⟩) n9 c9] rfl rfl (cell_one_new _ _ _) (by simp [Value.oneCell']) (by unfold maxLen; omega) (by omega) (by first | omega | (simp; omega)) ?_; intro v' w1 hown' hgrow _; obtain ⟨g', cap', rfl⟩ := ownsRow_succ hown'; obtain ⟨hv1, hv3, hr2, hk2, hb2⟩ := appended2 (N := w.heap.size) hv (by decide) hrow' (by omega) (by omega) (by omega) hown' hgrow; have hc1 := hv1.cell; have hf1 := hv1.frozen)
    have hap := ls_apart (hrow.alloc (.cells #[.slice (some ⟨g, 0, none⟩) n9 c9] 23)) (hin.alloc (.cells #[.slice (some ⟨g, 0, none⟩) n9 c9] 23))
    have hin3 : Ints (o + 1) (w1.setCell ⟨o, 0, none⟩ (.slice (some ⟨g', 0, none⟩) (bs.length + 1) cap')) (.slice (some ⟨g, 0, none⟩) n9 c9) (toI (lay cur)) := ((hin.alloc _).kept hgrow hap).put (by omega)
    have hly3 := ((((hly.alloc (.cells #[.slice (some ⟨g, 0, none⟩) n9 c9] 23)).kept hgrow (hrow.alloc _)).put (show o < o + 1 by omega) (.slice (some ⟨g', 0, none⟩) (bs.length + 1) cap')).snoc (s := ⟨g, n9, c9⟩) (p := (lay cur, cur)) hin3)
    exact ⟨hk2.from _, ⟨fun _ => hin3.rd, fun hh => hh.below hb2 hsw.1⟩, ⟨⟨_, bs ++ [⟨g, n9, c9⟩], hv3, by unfold LsS; rw [List.length_append, List.map_append]; exact hr2, by rw [HP.out]; exact hly3, hld.snoc (fun i hi e => hfar i hi (by rw [e]; rfl))⟩, sw_cs ((cs_sw hc0).below hb2 hsw.1), hB.trans hb2, Nat.le_trans hN hb2.size⟩⟩
  case done =>
    rintro D zs W hD hzs ⟨⟨v9, bs, hv, hrow, hly, hld⟩, hc0, hB, hN⟩ hK
    rw [hzs] at hly
    have hc9 := hv.cell
    obtain ⟨a9, k9, rfl⟩ := hrow.shape
    clear hzs
    go_wp2_with fail
    refine ⟨by simp, .inl ⟨_, _, rfl, run_takeDeferred hK, ?_⟩⟩
    have hD9 : ∀ r, some D = some r → ∃ o : Obj, W.heap[r]? = some o ∧ o.isCells = false := fun r e => by cases e; exact ⟨_, hK, rfl⟩
    exact ⟨_, results_tmp rfl _ _ _, a9, k9, bs, rfl, (ls_own hrow (grownBy_putObj' W D _) hD9).mono (by omega), (ly_own hly (grownBy_putObj' W D _) hD9).mono (by omega), hld, hB.trans (belowK_b (w := w) (Nat.le_refl _) W D _ _ (by omega) hK rfl rfl)⟩
  case stop =>
    rintro D c pre W _ _ h _
    exact h.elim

set_option maxRecDepth 100000 in
set_option maxHeartbeats 1600000 in
theorem implLayersOf (n : Int) (v : Value) (zs : List Int) (w : World) (h : Rd w v zs) (hsw : SW w) :
    Calls Tryd.prog 16 #[.agg #[.int .i64 n, v]] w (RetLyD (lyB n zs) w) := by
  by_cases hv : vldB n zs = true
  · obtain ⟨m, ns, rfl, rfl, hc⟩ := vldB_cls hv
    rw [lyB_in hv]
    exact implLyIn m v ns w hc hv h hsw
  · rw [Bool.not_eq_true] at hv
    have HV := Lib.hid (fun v w0 h0 => implValid n v zs w0 h0)
    have H := Lib.hid h
    obtain ⟨a, b, off, cap, rfl, _, _, _⟩ := h
    have HE := Lib.hid (lyB_bad hv)
    rw [HE.out]
    rw [hv] at HV
    clear hv HE
    go_enter Tryd.func16, Tryd.ntmps16
    go_wp2_with fail
    refine (HV.out _ _ (H.out.below (by go_grown) (Nat.le_refl _))).mono ?_
    rintro e w1 ⟨rfl, hb⟩
    have HB := Lib.hid (Below.trans (show Below w.heap.size w _ from by go_grown) (hb.mono (by simp)))
    clear hb
    go_wp2_with fail
    go_ret
    exact ⟨none, 0, [], rfl, LsS.nil _ _, LyR.nil _ _, LyD.nil, HB.out⟩

end Go.Proofs.YthmipnflbiclbaaDoor
