/- TeachingPlan, the program's. Conditions: Sets is a slice of ints; the table setsWith is laid. -/
import Derived.Test.YthmipnflbiclbaaDoorIdxC
import Derived.Test.YthmipnflbiclbaaDoorPlnS
import Derived.Test.YthmipnflbiclbaaDoorRecI
import Derived.Test.YthmipnflbiclbaaDoorRound
namespace Go.Proofs.YthmipnflbiclbaaDoor
open Go.RowKit Go.Shelf
attribute [local go_sem] Oper.semAt_some

/-- the plan while a layer is gone through: its first j sets are told -/
def parL (m : Nat) (P : List (List Nat × List Nat)) (cur : List Nat) (j : Nat) (t : Nat) : Nat := if t ∈ (lay cur).take j then ftN m t cur else plV m P t
theorem parL_zero (m : Nat) (P : List (List Nat × List Nat)) (cur : List Nat) : parL m P cur 0 = plV m P := by
  funext t; rw [parL, List.take_zero, if_neg (by simp)]
theorem parL_all (m : Nat) (P : List (List Nat × List Nat)) (cur : List Nat) : parL m P cur (lay cur).length = plV m (P ++ [(lay cur, cur)]) := by
  funext t; rw [parL, List.take_length, plV_snoc]
theorem parL_step {m : Nat} {P : List (List Nat × List Nat)} {cur ns : List Nat} {i j : Nat} (hd : ns.Pairwise (· < ·)) (hj : j < (lay cur).length) (hi : i < ns.length) (he : ns.getD i 0 = (lay cur).getD j 0) :
    (ns.map (parL m P cur j)).set i (ftN m ((lay cur).getD j 0) cur) = ns.map (parL m P cur (j + 1)) := by
  have ht : (lay cur).take (j + 1) = (lay cur).take j ++ [(lay cur).getD j 0] := by rw [List.take_succ_eq_append_getElem hj, List.getD_eq_getElem?_getD, List.getElem?_eq_getElem hj]; rfl
  apply List.ext_getElem?
  intro k
  rw [List.getElem?_set]
  by_cases hk : k < ns.length
  · simp only [List.length_map, List.getElem?_map, List.getElem?_eq_getElem hk, Option.map_some]
    by_cases e : i = k
    · subst e
      rw [if_pos rfl, if_pos hk]
      rw [List.getD_eq_getElem?_getD, List.getElem?_eq_getElem hk, Option.getD_some] at he
      rw [parL, he, if_pos (by rw [ht]; simp)]
    · rw [if_neg e]
      have hne : ns[k] ≠ (lay cur).getD j 0 := fun h9 => by
        rw [← he, List.getD_eq_getElem?_getD, List.getElem?_eq_getElem hi, Option.getD_some] at h9
        rcases Nat.lt_or_gt_of_ne e with h | h
        · have := List.pairwise_iff_getElem.1 hd i k hi hk h; omega
        · have := List.pairwise_iff_getElem.1 hd k i hk hi h; omega
      rw [parL, parL, ht]
      simp only [List.mem_append, List.mem_singleton, hne, or_false]
  · have h1 : (ns.map (parL m P cur j))[k]? = none := List.getElem?_eq_none (by rw [List.length_map]; omega)
    have h2 : (ns.map (parL m P cur (j + 1)))[k]? = none := List.getElem?_eq_none (by rw [List.length_map]; omega)
    rw [h1, h2]
    split
    · rename_i e; subst e; exact absurd hi hk
    · rfl
theorem idx_first {m : Nat} {ns : List Nat} (hc : Cls m ns) {t : Nat} (ht : t ∈ ns) : ∃ i, i < ns.length ∧ ns.getD i 0 = t ∧ (toI ns).getD i 0 = (t : Int) ∧ ∀ k, k < i → (toI ns).getD k 0 ≠ (t : Int) := by
  obtain ⟨i, hi, he⟩ := List.getElem_of_mem ht
  have h1 : ns.getD i 0 = t := by rw [List.getD_eq_getElem?_getD, List.getElem?_eq_getElem hi, Option.getD_some, he]
  refine ⟨i, hi, h1, by rw [toI_getD, h1], fun k hk e => ?_⟩
  rw [toI_getD, List.getD_eq_getElem?_getD, List.getElem?_eq_getElem (show k < ns.length by omega), Option.getD_some] at e
  have := List.pairwise_iff_getElem.1 hc.asc k i (by omega) hi hk
  omega

theorem boxed_at {W : World} {B b k : Nat} {t : TypeId} {v : Value} (h : Boxed W B t v) (hne : B ≠ b) (u : Value) : Boxed (W.setCell ⟨b, k, none⟩ u) B t v := (Below.heap_setCell W ⟨b, k, none⟩ u B hne).trans h
theorem Ints.put2 {B b k : Nat} {W : World} {v u : Value} {zs : List Int} (h : Ints B W v zs) (hb : b < B) : Ints B (W.setCell ⟨b, k, none⟩ u) v zs := h.setCell_below (a := ⟨b, k, none⟩) hb u
theorem ints_own' {X Y : World} {row : Option Nat} (N : Nat) (v : Value) (zs : List Int) (hs : Ints N X v zs) (hg : X.grownBy Y row) (hr : ∀ r, row = some r → ∃ o : Obj, X.heap[r]? = some o ∧ o.isCells = false) : Ints N Y v zs := by
  refine hs.kept hg ?_
  rcases hs.2 with ⟨rfl, _⟩ | ⟨g, cap, cur, rfl, _, hgb, _⟩
  · exact .inl rfl
  · refine .inr (fun e => ?_)
    obtain ⟨o, ho, hc⟩ := hr g (by simpa [Value.ownBlock] using e.symm)
    rw [hgb] at ho; cases ho; cases hc
theorem bx_own {X Y : World} {row : Option Nat} {n : Int} {v : Value} {o : Nat} (hs : Bx n v o X) (hg : X.grownBy Y row) (hr : ∀ r, row = some r → ∃ o : Obj, X.heap[r]? = some o ∧ o.isCells = false) : Bx n v o Y := hs.kept hg (fun e => by
  obtain ⟨o', ho, hc⟩ := hr o e.symm
  rw [show X.heap[o]? = _ from hs] at ho; cases ho; cases hc)

set_option maxRecDepth 100000 in
set_option maxHeartbeats 6400000 in
theorem implPlnIn (m : Nat) (v : Value) (ns : List Nat) (w : World) (hc : Cls m ns) (hvd : vldB (m : Int) (toI ns) = true) (h : Rd w v (toI ns)) (hsw : SW w) :
    Calls Tryd.prog 25 #[.agg #[.int .i64 (m : Int), v]] w (RetInts (toI (plnL m ns)) w) := by
  have HV := Lib.hid (fun v w0 h0 => implValid (m : Int) v (toI ns) w0 h0)
  rw [hvd] at HV
  have HF := Lib.hid (fun v w0 h0 => implFamilyOf (m : Int) v ns hc.lt32 w0 h0)
  have H := Lib.hid h
  obtain ⟨a, b, off, cap, rfl, h1, h3, h5⟩ := h
  obtain ⟨i0, hi, hz0, hz1, hz2⟩ := info_parts info3
  have Hz2 := Lib.hid hz2
  clear hz2
  have hl := hc.length
  rw [toI_length] at *
  have H1 := Lib.hid h1
  have HC := Lib.hid hc
  have HP0 := Lib.hid (plV_zero m ns)
  have HLm := Lib.hid (fun (f : Nat → Nat) => show (ns.map f).length = ns.length by simp)
  clear h1 h5 hc hvd
  generalize hL : ns.length = L at *
  have HL := Lib.hid hL.symm
  clear hL
  refine (callsIn_wide (n := 8)).1 ?_
  refine callsIn_of_wp_marks Tryd.func25 rfl trivial ?_ rfl
  simp only [Tryd.ntmps25, List.size_toArray, List.length_cons, List.length_nil, Nat.reduceAdd, Nat.reduceSub, Array.replicate_succ, Array.replicate_zero, List.push_toArray, List.append_toArray, List.nil_append, List.cons_append]
  refine wpIn_wide.2 ?_
  go_wp2_with fail
  refine (HV.out _ _ (H.out.below (by go_grown) (Nat.le_refl _))).mono ?_
  rintro e w1 ⟨rfl, hb⟩
  have X1 := Lib.hid ((Bx.new (m : Int) (.slice a L cap) w).next hb (by simp))
  have B1 := Lib.hid (show Below w.heap.size w w1 from Below.trans ((Below.refl _ w).alloc (Nat.le_refl _) _) (hb.mono (by simp)))
  have hs1 : w.heap.size < w1.heap.size := X1.out.lt
  clear hb
  obtain ⟨o, ho⟩ : ∃ o, o = w.heap.size := ⟨_, rfl⟩
  rw [← ho] at X1 B1 hs1 ⊢
  have HO := Lib.hid ho
  have hoJ : w.heap.size ≤ o := by omega
  have hoI : o ≤ w.heap.size := by omega
  clear ho
  have x0 := X1.out.out.at0
  have x1 := X1.out.out.at1
  go_wp2_with (at_make; refine wpList_make_full _ rfl _ _ 23 rfl w1.heap.size 3 i0 (.int .i64 0) 1 Tryd.underlying23 hi hz0 hz1 _ _ _ _ L rfl rfl rfl rfl (by rw [Hz2.out]; omega) (by unfold maxLen; omega) (Nat.le_refl _) ?_; intro w2 hown hgrow; have hin := Ints.of_made hown; have hb2 : Below w1.heap.size w1 w2 := (Below.refl _ _).grown hgrow (Nat.le_refl _) (fun k hk => by simp at hk); have X2 := Lib.hid (X1.out.next hb2 X1.out.lt); have B2 := Lib.hid (B1.out.trans (hb2.mono (by omega))); have hz2 := hb2.size; clear x0 x1 hown hgrow hb2; have x0 := X2.out.out.at0; have x1 := X2.out.out.at1; have ho2 := X2.out.lt)
  have hgo : o < w1.heap.size := hs1
  have IO := Lib.hid (show Ints w1.heap.size w2 (.slice (some ⟨w1.heap.size, 0, none⟩) L L) (toI (ns.map (plV m []))) by rw [HP0.out]; exact hin)
  clear hin hi hz0 hz1
  obtain ⟨gp, hgp⟩ : ∃ gp, gp = w1.heap.size := ⟨_, rfl⟩
  rw [← hgp] at IO hgo ⊢
  have hgp2 : gp < w2.heap.size := (IO.out.lt gp rfl).2
  clear hgp
  have X3 := Lib.hid (X2.out.alloc (.cells #[(.slice (some ⟨gp, 0, none⟩) L L)] 23))
  have M3 := Lib.hid (Boxed.new w2 23 (.slice (some ⟨gp, 0, none⟩) L L))
  have I3 := Lib.hid (IO.out.alloc (.cells #[(.slice (some ⟨gp, 0, none⟩) L L)] 23))
  have B3 := Lib.hid (B2.out.alloc (by omega) (.cells #[(.slice (some ⟨gp, 0, none⟩) L L)] 23))
  have HZ3 := Lib.hid (show (w2.alloc (.cells #[(.slice (some ⟨gp, 0, none⟩) L L)] 23)).heap.size = w2.heap.size + 1 by simp)
  clear x0 x1 IO X2 B2 X1 B1
  obtain ⟨w3, hw3⟩ : ∃ w3, (w2.alloc (.cells #[(.slice (some ⟨gp, 0, none⟩) L L)] 23)) = w3 := ⟨_, rfl⟩
  rw [hw3] at X3 M3 I3 B3 HZ3 ⊢
  clear hw3
  obtain ⟨pb, hpb⟩ : ∃ pb, pb = w2.heap.size := ⟨_, rfl⟩
  rw [← hpb] at M3 HZ3 hgp2 ⊢
  have hz3 : pb < w3.heap.size := by have := HZ3.out; omega
  clear hpb HZ3
  refine (HF.out _ _ (H.out.below B3.out (by omega))).mono ?_
  rintro e w4 ⟨rfl, hb4⟩
  have X4 := Lib.hid (X3.out.next hb4 X3.out.lt)
  have M4 := Lib.hid (M3.out.kept (grown_none hb4) (by simp))
  have I4 := Lib.hid (I3.out.below hb4 (Nat.le_refl _))
  have B4 := Lib.hid (B3.out.trans (hb4.mono (by omega)))
  have hz4 : pb < w4.heap.size := Nat.lt_of_lt_of_le hz3 hb4.size
  have S4 : SW w4 := hsw.below (by have h9 := B4.out; rw [HO.out] at h9; exact h9) hsw.1
  clear hb4 X3 M3 I3 B3
  go_wp2_with fail
  refine (wpIn_wide (n := 8)).1 ?_
  refine wpIn_rangeV rfl (by omega) (gf := 68) (fs := #[.int .u32 (fm ns)]) (lb := #[]) rfl trivial (enters_of Tryd.func68 (by kernel_rfl) rfl)
    (layStops m ns HC.out _ (by omega) w4 S4) kpL_t kpL_b (Below.refl _ _) (fun _ => rfl)
    (fun pre W => (Boxed W pb 23 (.slice (some ⟨gp, 0, none⟩) L L) ∧ Ints gp W (.slice (some ⟨gp, 0, none⟩) L L) (toI (ns.map (plV m (pre.map Ly.p)))) ∧ Bx (m : Int) (.slice a L cap) o W ∧ CS swc W) ∧ (Below o w W ∧ pb < W.heap.size))
    (fun _ _ _ => False)
    (OwnFrom.and (Own.from (fun s A B row hs hg hr => ⟨boxed_keeps hs.1 hg hr, ints_own' _ _ _ hs.2.1 hg hr, bx_own hs.2.2.1 hg hr, cs_own _ s A B row hs.2.2.2 hg hr⟩) _) (OwnFrom.and (ownFrom_below (by omega) (by omega)) (fun s A B row hs hg hr => Nat.lt_of_lt_of_le hs hg.size)))
    (fun _ _ _ _ _ hs _ _ => hs)
    ⟨⟨M4.out, I4.out, X4.out, sw_cs S4⟩, B4.out, hz4⟩
    (fun x a' W => Ints (pb + 1) W x.v (toI x.p.1) ∧ (x.p.1 = lay x.p.2 ∧ x.p.2 ≠ [] ∧ Cls m x.p.2 ∧ ∀ t ∈ x.p.2, t ∈ ns) ∧ a' = { tmps := #[(.agg #[.int .i64 (m : Int), .slice a L cap]), .pointer (some ⟨o, 0, none⟩), .slice none 0 0, .pointer (some ⟨pb, 0, none⟩), x.v, .int .u32 (fm x.p.2), undef, undef, (.agg #[.int .i64 (m : Int), .slice a L cap]), .bool true, .bool false, .pointer (some ⟨o, 1, none⟩), .slice a L cap, .int .i64 (L : Int), (.slice (some ⟨gp, 0, none⟩) L L), (.agg #[.int .i64 (m : Int), .slice a L cap]), .int .u32 (fm ns), (.func (.func 68) #[.int .u32 (fm ns)] #[]), x.v, .int .u32 (fm x.p.2), undef, undef, undef, undef, undef, undef, undef, undef, undef, undef, undef, undef, undef, undef, undef, undef, undef, undef, undef, undef], defers := [] })
    (fun x a' s X Y row hs hg hr => ⟨ints_own _ _ _ _ s X Y row hs.1 hg hr, hs.2⟩)
    ?assign ?body ?done ?stop
  case assign =>
    rintro l0 pre x W0 W K ⟨_, _, hN0⟩ _ hI ⟨hin, hpre⟩ hK
    obtain ⟨e1, e2, e3, e4⟩ := lys_mem ns.length ns (Nat.le_refl _) HC.out x.p (hpre.subset (by simp))
    have hin2 := hin.mono (show pb + 1 ≤ W0.heap.size by omega)
    gi_wp2
    exact hK _ _ (KeepsFrom.refl _ _) ⟨fun e => e, fun e => e⟩ hI ⟨hin2, ⟨e1, e2, e3, e4⟩, rfl⟩
  case body =>
    rintro l0 pre x a' W hl0 ⟨r, hr⟩ ⟨⟨hM, hI, hX, hc0⟩, hB, hN⟩ ⟨hin, ⟨e1, e2, e3, e4⟩, rfl⟩ hlt
    obtain ⟨v, Lc, cur⟩ := x
    dsimp only at hin e1 e2 e3 e4 ⊢
    subst e1
    have hpos := List.length_pos_iff.2 (lay_ne e2)
    obtain ⟨g, ⟨c9, rfl⟩, hg1, hg2⟩ : ∃ g, (∃ c, v = .slice (some ⟨g, 0, none⟩) (toI (lay cur)).length c) ∧ pb + 1 ≤ g ∧ g < W.heap.size := by
      obtain ⟨a9, g9, c9, e9, h1, h2, _, h4, _⟩ := hin.shape
      have hn9 : a9 ≠ none := fun k => by
        have := (h2 k).1
        rw [← List.length_eq_zero_iff, toI_length] at this
        omega
      obtain rfl := h1.resolve_right hn9
      exact ⟨g9, ⟨c9, e9⟩, h4 hn9⟩
    rw [toI_length] at hin ⊢
    have HFx := Lib.hid (fun t (ht : t ∈ lay cur) w0 h0 => show Calls Tryd.prog 74 #[.int .u32 (fm cur), .int .i64 (t : Int)] w0 fun e w' => e = .returned (.tuple #[.int .i64 ((ftN m t cur : Nat) : Int), .bool true]) ∧ Below w0.heap.size w0 w' by
      have h9 := implFstT cur t e3.lt32 e3.asc (e3.lt32 t (lay_sub ht)) w0 h0
      obtain ⟨k1, k2, _⟩ := ft_eq e3 (lay_sub ht)
      rw [show fstNt t cur = ftN m t cur from k1, show decide (tcs t cur ≠ []) = true by simpa using k2] at h9
      exact h9)
    have HIx := Lib.hid (fun t (ht : t ∈ lay cur) => idx_first HC.out (e4 t (lay_sub ht)))
    have HPS := Lib.hid (fun i j (hj : j < (lay cur).length) (hi : i < ns.length) he => parL_step (m := m) (P := pre.map Ly.p) (cur := cur) HC.out.asc hj hi he)
    have HPA := Lib.hid (show parL m (pre.map Ly.p) cur (lay cur).length = plV m ((pre ++ [(⟨.slice (some ⟨g, 0, none⟩) (lay cur).length c9, (lay cur, cur)⟩ : Ly)]).map Ly.p) by rw [List.map_append]; exact parL_all m (pre.map Ly.p) cur)
    rw [← parL_zero m (pre.map Ly.p) cur] at hI
    have hlc := e3.length
    have hll : (lay cur).length ≤ 32 := by
      have := lmn_len (fun t => tnI t cur) cur
      show (lmn _ _).1.length ≤ 32
      omega
    have HSwW := Lib.hid hc0
    generalize parL m (pre.map Ly.p) cur = f at *
    obtain ⟨Lt, hLt⟩ : ∃ Lt, Lt = (lay cur).length := ⟨_, rfl⟩
    have HLt := Lib.hid hLt
    rw [← hLt] at hin HPS HPA hll hpos ⊢
    clear hLt
    have hcell : ∀ j, j < Lt → W.cell? ⟨g, j, none⟩ = some (.int .i64 (((lay cur).getD j 0 : Nat) : Int)) := fun j hj => by
      have h9 := (hin.cellAt j (by rw [toI_length, ← HLt.out]; exact hj)).1
      rwa [toI_getD] at h9
    have HCell := Lib.hid hcell
    have HIn := Lib.hid hin
    have HB0 := Lib.hid hB
    clear hcell hin hB
    gi_wp2
    gi_loopw [22] (fun i wr => ∃ j : Nat, j ≤ Lt ∧ i = .int .i64 j ∧ Boxed wr pb 23 (.slice (some ⟨gp, 0, none⟩) L L) ∧ Ints gp wr (.slice (some ⟨gp, 0, none⟩) L L) (toI (ns.map (f j))) ∧ Bx (m : Int) (.slice a L cap) o wr ∧ CS swc wr ∧ Below o w wr ∧ W.heap.size ≤ wr.heap.size ∧ KeepsFrom w4.heap.size W wr ∧ (∀ j, j < Lt → wr.cell? ⟨g, j, none⟩ = some (.int .i64 (((lay cur).getD j 0 : Nat) : Int))) ∧ Ints (pb + 1) wr (.slice (some ⟨g, 0, none⟩) Lt c9) (toI (lay cur))) (fun i _ => Lt - (intOf i).toNat)
    case atStart => exact ⟨0, Nat.zero_le _, rfl, hM, hI, hX, hc0, HB0.out, Nat.le_refl _, KeepsFrom.refl _ _, HCell.out, HIn.out⟩
    case round =>
      obtain ⟨j, hj, rfl, rM, rI, rX, rc, rB, rz, rK, rC, rIn⟩ := hrel
      have RI := Lib.hid rI
      have RB := Lib.hid rB
      have RK := Lib.hid rK
      have RC := Lib.hid rC
      have RIn := Lib.hid rIn
      have RX := Lib.hid rX
      have RS := Lib.hid rc
      clear rI rB rK rC rIn rX rc HCell HIn HB0 hM hI hX hc0
      by_cases hjl : j < Lt
      · have hjI : (j : Int) < (Lt : Int) := by omega
        have hcj := RC.out j hjl
        have htl : (lay cur).getD j 0 ∈ lay cur := getD_of_lt (by rw [← HLt.out]; exact hjl)
        obtain ⟨i, hi1, hi2, hi3, hi4⟩ := HIx.out _ htl
        rw [HL.out.symm] at hi1
        have HSt := Lib.hid (HPS.out i j hjl (by rw [← HL.out]; exact hi1) hi2)
        have HFt := Lib.hid (HFx.out _ htl)
        obtain ⟨t, ht⟩ : ∃ t, t = (lay cur).getD j 0 := ⟨_, rfl⟩
        rw [← ht] at hcj hi3 hi4 HSt HFt
        obtain ⟨y, hy⟩ : ∃ y, y = ftN m t cur := ⟨_, rfl⟩
        rw [← hy] at HSt HFt
        have HId := Lib.hid (fun w0 (h0 : Rd w0 (.slice a L cap) (toI ns)) => slIndexIn (.slice a L cap) (toI ns) (t : Int) i w0 h0 (by rw [toI_length, ← HL.out]; exact hi1) hi3 hi4)
        clear hi2 hi3 hi4 ht hy htl
        have hiI : (i : Int) < (L : Int) := by omega
        have hR := Lib.hid (H.out.below RB.out (by omega))
        have hm1 := rM.cell
        have x1 := RX.out.out.at1
        have x0 := RX.out.out.at0
        have sw1 := cs_sw RS.out
        have sw2 : SW wr.drew := sw1
        obtain ⟨hs1, hf1⟩ := RI.out.cellAt i (by rw [toI_length, List.length_map, ← HL.out]; exact hi1)
        have hmx : Tryd.prog.follows .mixedOrders = true := by kernel_rfl
        gi_wp2
        refine wpIn_round_held l0 (S := fun w' => w'.cell? ⟨pb, 0, none⟩ = some (.slice (some ⟨gp, 0, none⟩) L L) ∧ w'.cell? ⟨o, 1, none⟩ = some (.slice a L cap)) (by kernel_rfl) (by kernel_rfl) (fun _ _ h => h) (by first | exact ⟨hm1, x1⟩ | exact ⟨m7, y1⟩ | exact ⟨(World.cell?_setCell_far _ _ _ _ (show gp ≠ pb by omega)).trans m7, (World.cell?_setCell_far _ _ _ _ (show gp ≠ o by omega)).trans y1⟩ | go_keep) (fun hHeld => ?_)
        refine wpAnyH_take (i := 0) (v := ?_) rfl (by kernel_rfl) (by kernel_rfl) (by kernel_rfl) (fun _ _ _ h => h) (Or.inl ⟨by rfl, ?_⟩) (by assumption) ?_
        rotate_left
        · (intro w hSw; (try dsimp only at hSw); go_simp; try with_reducible rfl)
        try simp only [List.getElem_toArray, List.getElem_cons_zero, Act.put, List.setIfInBounds_toArray, List.set_cons_zero, List.set_cons_succ]
        refine wpAnyH_take (i := 1) (v := ?_) rfl (by kernel_rfl) (by kernel_rfl) (by kernel_rfl) (fun _ _ _ h => h) (Or.inl ⟨by rfl, ?_⟩) (by assumption) ?_
        rotate_left
        · (intro w hSw; (try dsimp only at hSw); go_simp; try with_reducible rfl)
        try simp only [List.getElem_toArray, List.getElem_cons_zero, List.getElem_cons_succ, Act.put, List.setIfInBounds_toArray, List.set_cons_zero, List.set_cons_succ]
        refine wpAnyH_take (i := 2) (v := ?_) rfl (by kernel_rfl) (by kernel_rfl) (by kernel_rfl) (fun _ _ _ h => h) (Or.inl ⟨by rfl, ?_⟩) (by assumption) ?_
        rotate_left
        · (intro w hSw; (try dsimp only at hSw); go_simp; try with_reducible rfl)
        try simp only [List.getElem_toArray, List.getElem_cons_zero, List.getElem_cons_succ, Act.put, List.setIfInBounds_toArray, List.set_cons_zero, List.set_cons_succ]
        refine wpAnyH_take (i := 3) (v := ?_) rfl (by kernel_rfl) (by kernel_rfl) (by kernel_rfl) (fun _ _ _ h => h) (Or.inl ⟨by rfl, ?_⟩) (by assumption) ?_
        rotate_left
        · (intro w hSw; (try dsimp only at hSw); go_simp; try with_reducible rfl)
        try simp only [List.getElem_toArray, List.getElem_cons_zero, List.getElem_cons_succ, Act.put, List.setIfInBounds_toArray, List.set_cons_zero, List.set_cons_succ]
        refine wpAnyH_take (i := 5) (v := ?_) rfl (by kernel_rfl) (by kernel_rfl) (by kernel_rfl) (fun _ _ _ h => h) (Or.inl ⟨by rfl, ?_⟩) (by assumption) ?_
        rotate_left
        · (intro w hSw; (try dsimp only at hSw); go_simp; try with_reducible rfl)
        try simp only [List.getElem_toArray, List.getElem_cons_zero, List.getElem_cons_succ, Act.put, List.setIfInBounds_toArray, List.set_cons_zero, List.set_cons_succ]
        refine wpAnyH_take (i := 6) (v := ?_) rfl (by kernel_rfl) (by kernel_rfl) (by kernel_rfl) (fun _ _ _ h => h) (Or.inl ⟨by rfl, ?_⟩) (by assumption) ?_
        rotate_left
        · (intro w hSw; (try dsimp only at hSw); go_simp; try with_reducible rfl)
        try simp only [List.getElem_toArray, List.getElem_cons_zero, List.getElem_cons_succ, Act.put, List.setIfInBounds_toArray, List.set_cons_zero, List.set_cons_succ]
        refine wpAnyH_ready (rs := [4]) (by kernel_rfl) (by simp) ?_
        refine AllReadyH.cons rfl (fun K hK => ?_) AllReadyH.nil
        try simp only [List.getElem_toArray]
        go_simp
        (go_at_call 75; refine (HId.out _ (by first | exact hR.out | exact hR.out.below (k := wr.heap.size) ((Below.refl _ _).drew) (Nat.le_refl _))).mono ?_; rintro e w9 ⟨rfl, hw9⟩; subst w9)
        refine hK.out _ _ (by first | exact ⟨hm1, x1⟩ | exact ⟨m7, y1⟩ | exact ⟨(World.cell?_setCell_far _ _ _ _ (show gp ≠ pb by omega)).trans m7, (World.cell?_setCell_far _ _ _ _ (show gp ≠ o by omega)).trans y1⟩ | go_keep) (fun hHeld => ?_)
        clear hK K
        try simp only [List.getElem_toArray, List.getElem_cons_zero, List.getElem_cons_succ, Act.put, List.setIfInBounds_toArray, List.set_cons_zero, List.set_cons_succ]
        refine wpAnyH_ready (rs := [7]) (by kernel_rfl) (by simp) ?_
        refine AllReadyH.cons rfl (fun K hK => ?_) AllReadyH.nil
        try simp only [List.getElem_toArray]
        go_simp
        (go_at_call 74; refine (HFt.out _ (by first | exact sw1 | exact sw2)).mono ?_; rintro e w7 ⟨rfl, hb7'⟩; have hb7 : Below wr.heap.size wr w7 := (by first | exact hb7' | exact ⟨hb7'.os, hb7'.tape, hb7'.output, hb7'.size, hb7'.block⟩); clear hb7'; have M7 := rM.kept (grown_none hb7) (by simp); have X7 := RX.out.next hb7 RX.out.lt; have I7 := RI.out.below hb7 (Nat.le_refl _); have m7 := M7.cell; have y1 := X7.out.at1; have y0 := X7.out.at0; obtain ⟨hs7, hf7⟩ := I7.cellAt i (by rw [toI_length, List.length_map, ← HL.out]; exact hi1))
        refine hK.out _ _ (by first | exact ⟨hm1, x1⟩ | exact ⟨m7, y1⟩ | exact ⟨(World.cell?_setCell_far _ _ _ _ (show gp ≠ pb by omega)).trans m7, (World.cell?_setCell_far _ _ _ _ (show gp ≠ o by omega)).trans y1⟩ | go_keep) (fun hHeld => ?_)
        clear hK K
        try simp only [List.getElem_toArray, List.getElem_cons_zero, List.getElem_cons_succ, Act.put, List.setIfInBounds_toArray, List.set_cons_zero, List.set_cons_succ]
        refine wpAnyH_take (i := 8) (v := ?_) rfl (by kernel_rfl) (by kernel_rfl) (by kernel_rfl) (fun _ _ _ h => h) (Or.inl ⟨by rfl, ?_⟩) (by assumption) ?_
        rotate_left
        · (intro w hSw; (try dsimp only at hSw); go_simp; try with_reducible rfl)
        try simp only [List.getElem_toArray, List.getElem_cons_zero, List.getElem_cons_succ, Act.put, List.setIfInBounds_toArray, List.set_cons_zero, List.set_cons_succ]
        refine wpAnyH_take (i := 9) (v := ?_) rfl (by kernel_rfl) (by kernel_rfl) (by kernel_rfl) (fun _ _ _ h => h) (Or.inl ⟨by rfl, ?_⟩) (by assumption) ?_
        rotate_left
        · (intro w hSw; (try dsimp only at hSw); go_simp; try with_reducible rfl)
        try simp only [List.getElem_toArray, List.getElem_cons_zero, List.getElem_cons_succ, Act.put, List.setIfInBounds_toArray, List.set_cons_zero, List.set_cons_succ]
        refine wpAnyH_take (i := 10) (v := ?_) rfl (by kernel_rfl) (by kernel_rfl) (by kernel_rfl) (fun _ _ _ h => h) (Or.inl ⟨by rfl, ?_⟩) (by assumption) ?_
        rotate_left
        · (intro w hSw; (try dsimp only at hSw); go_simp; try with_reducible rfl)
        try simp only [List.getElem_toArray, List.getElem_cons_zero, List.getElem_cons_succ, Act.put, List.setIfInBounds_toArray, List.set_cons_zero, List.set_cons_succ]
        refine wpAnyH_take (i := 11) (v := ?_) rfl (by kernel_rfl) (by kernel_rfl) (by kernel_rfl) (fun _ _ _ h => h) (Or.inl ⟨by rfl, ?_⟩) (by assumption) ?_
        rotate_left
        · (intro w hSw; (try dsimp only at hSw); go_simp; try with_reducible rfl)
        try simp only [List.getElem_toArray, List.getElem_cons_zero, List.getElem_cons_succ, Act.put, List.setIfInBounds_toArray, List.set_cons_zero, List.set_cons_succ]
        refine wpAnyH_ready (rs := [12]) (by kernel_rfl) (by simp) ?_
        refine AllReadyH.cons rfl (fun K hK => ?_) AllReadyH.nil
        try simp only [List.getElem_toArray]
        go_simp
        skip
        refine hK.out _ _ (by first | exact ⟨hm1, x1⟩ | exact ⟨m7, y1⟩ | exact ⟨(World.cell?_setCell_far _ _ _ _ (show gp ≠ pb by omega)).trans m7, (World.cell?_setCell_far _ _ _ _ (show gp ≠ o by omega)).trans y1⟩ | go_keep) (fun hHeld => ?_)
        clear hK K
        try simp only [List.getElem_toArray, List.getElem_cons_zero, List.getElem_cons_succ, Act.put, List.setIfInBounds_toArray, List.set_cons_zero, List.set_cons_succ]
        refine wpAnyH_done (by kernel_rfl) ?_ _
        gi_wp2
        go_roundw
        case rel =>
          have h9 := I7.store i (y : Int)
          rw [toI_setN, HSt.out] at h9
          have hbs : Below gp w7 (w7.setCell ⟨gp, i, none⟩ (.int .i64 (y : Int))) := (Below.refl _ _).setCell (p := ⟨gp, i, none⟩) (Nat.le_refl _) _
          refine ⟨j + 1, by omega, by go_num, boxed_at M7 (by omega) _, h9, X7.other (by omega) _, fun p hp => ?_, (RB.out.trans (hb7.mono (by omega))).setCell (p := ⟨gp, i, none⟩) (by show o ≤ gp; omega) _, by simp [World.setCell]; exact Nat.le_trans rz hb7.size, (RK.out.trans ((keeps_below hb7).from _)).trans ((KeepsOthers.setCell _ _ _).from _), fun j' hj' => ?_, ?_⟩
          · exact sw_cs ((cs_sw (RS.out.next hb7)).below hbs (by omega)) p hp
          · rw [World.cell?_setCell_far _ _ _ _ (show gp ≠ g by omega)]
            exact (hb7.cell (p := ⟨g, j', none⟩) (by show g < _; omega)).trans (RC.out j' hj')
          · exact (RIn.out.below hb7 (Nat.le_refl _)).put2 (by omega)
        case measure => simp [intOf]; omega
      · have HJL := Lib.hid (show j = Lt by omega)
        have hjn : ¬ (j : Int) < (Lt : Int) := by omega
        gi_wp2
        refine ⟨RK.out, ⟨fun _ => RIn.out.rd, fun _ => cs_sw RS.out⟩, ⟨rM, ?_, RX.out, RS.out⟩, RB.out, by omega⟩
        have h9 := RI.out
        rw [HJL.out, HPA.out] at h9
        exact h9
  case done =>
    rintro D zs W hD hzs ⟨⟨hM, hI, hX, hc0⟩, hB, hN⟩ hK
    rw [hzs] at hI
    have hc9 := hM.cell
    clear hzs
    go_wp2_with fail
    refine ⟨by simp, .inl ⟨_, _, rfl, run_takeDeferred hK, ?_⟩⟩
    refine ⟨_, results_tmp rfl _ _ _, ?_⟩
    have hbK := belowK_b (w := w4) (n₀ := o) (by omega) W D (.deferred (some [])) (.deferred none) hD hK rfl rfl
    refine ⟨some ⟨gp, 0, none⟩, L, ?_, ?_, by have h9 := hB.trans hbK; rw [HO.out] at h9; exact h9⟩
    · rw [toI_length, plnL_len, ← HL.out]; rfl
    · rw [toI_length, plnL_len, ← HL.out]
      exact own_mono (ownsRow_putObj hI _ hK rfl) (by omega)
  case stop =>
    rintro D c pre W _ _ h _
    exact h.elim

set_option maxRecDepth 100000 in
set_option maxHeartbeats 1600000 in
theorem implTeachingPlan (n : Int) (v : Value) (zs : List Int) (w : World) (h : Rd w v zs) (hsw : SW w) :
    Calls Tryd.prog 25 #[.agg #[.int .i64 n, v]] w (RetInts (tpB n zs) w) := by
  by_cases hv : vldB n zs = true
  · obtain ⟨m, ns, rfl, rfl, hc⟩ := vldB_cls hv
    rw [tpB_in hv]
    exact implPlnIn m v ns w hc hv h hsw
  · rw [Bool.not_eq_true] at hv
    have HV := Lib.hid (fun v w0 h0 => implValid n v zs w0 h0)
    have H := Lib.hid h
    obtain ⟨a, b, off, cap, rfl, _, _, _⟩ := h
    rw [tpB_bad hv]
    rw [hv] at HV
    clear hv
    go_enter Tryd.func25, Tryd.ntmps25
    go_wp2_with fail
    refine (HV.out _ _ (H.out.below (by go_grown) (Nat.le_refl _))).mono ?_
    rintro e w1 ⟨rfl, hb⟩
    have HB := Lib.hid (Below.trans (show Below w.heap.size w _ from by go_grown) (hb.mono (by simp)))
    clear hb
    go_wp2_with fail
    go_ret
    exact RetInts.of (Ints.nil _ _) HB.out

end Go.Proofs.YthmipnflbiclbaaDoor
