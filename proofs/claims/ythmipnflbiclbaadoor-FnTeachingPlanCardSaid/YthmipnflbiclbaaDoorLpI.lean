/- LearnPlan, the program's. Conditions: Sets is a slice of ints, the list one of examples; the table setsWith is laid. -/
import Derived.Test.YthmipnflbiclbaaDoorLpM
import Derived.Test.YthmipnflbiclbaaDoorRecI
import Derived.Test.YthmipnflbiclbaaDoorZU
namespace Go.Proofs.YthmipnflbiclbaaDoor
open Go.RowKit Go.Shelf
attribute [local go_sem] Oper.semAt_some

theorem lpI_or_none (o : Option Nat) : (none : Option Nat).or o = o := by cases o <;> rfl
theorem boxed_two {W : World} {b c : Nat} {t u : TypeId} {x y z : Value} (h : Boxed W b t x) (k : Boxed W c u y) (hne : b ≠ c) : Boxed (W.setCell ⟨b, 0, none⟩ z) b t z ∧ Boxed (W.setCell ⟨b, 0, none⟩ z) c u y := ⟨h.set z, boxed_far k z (fun e => hne e.symm)⟩

set_option maxRecDepth 100000 in
set_option maxHeartbeats 6400000 in
theorem implLpIn (m : Nat) (v : Value) (ns : List Nat) (u : Value) (es : List (Int × Bool)) (w : World) (hc : Cls m ns) (hvs : vsB (m : Int) (toI ns) es = true) (h : Rd w v (toI ns)) (hu : RdE w u es) (hsw : SW w) :
    Calls Tryd.prog 30 #[.agg #[.int .i64 (m : Int), v], u] w fun e w' => e = .returned (.tuple #[.int .i64 (lpI (lpO (fitK es es.length) (lys ns))), .bool (lpS (lpO (fitK es es.length) (lys ns)))]) ∧ Below w.heap.size w w' := by
  have HVS := Lib.hid (fun v w h hu => implValidSample (m : Int) v (toI ns) u es w h hu)
  rw [hvs] at HVS
  have HCO := Lib.hid (fun v w h hu hsw => implConsistentOf (m : Int) v (toI ns) u es w h hu hsw)
  rw [show conN (m : Int) (toI ns) es = m by rw [conN, if_pos hvs], show conL (m : Int) (toI ns) es = toI (nowTo ns es es.length) by rw [conL, if_pos hvs, toNat_toI]] at HCO
  have HF := Lib.hid (fun v w0 h0 => implFamilyOf (m : Int) v ns hc.lt32 w0 h0)
  have HFR := Lib.hid (fun v w0 h0 => implFamilyOf (m : Int) v (nowTo ns es es.length) (fun t ht => hc.lt32 t ((nowTo_sub ns es es.length).1 t ht)) w0 h0)
  have HR := Lib.hid (fun t (ht : t ∈ ns) => show decide (t ∈ nowTo ns es es.length) = fitK es es.length t by
    rw [nowTo_flt]
    by_cases hf : fitK es es.length t = true
    · rw [hf, decide_eq_true_eq, List.mem_filter]; exact ⟨ht, hf⟩
    · rw [Bool.not_eq_true] at hf
      rw [hf, decide_eq_false_iff_not, List.mem_filter]; rintro ⟨_, h9⟩; rw [hf] at h9; cases h9)
  have HTs := Lib.hid (fun j hj => fm_test (nowTo ns es es.length) (j := j) hj)
  have hfr0 : 0 ≤ fm (nowTo ns es es.length) := by unfold fm; omega
  have hfr1 : fm (nowTo ns es es.length) < 4294967296 := by unfold fm; have := (famB (nowTo ns es es.length)).isLt; omega
  generalize nowTo ns es es.length = R at *
  generalize fitK es es.length = f at *
  have H := Lib.hid h
  have HU := Lib.hid hu
  have HC := Lib.hid hc
  have hl32 := hc.length
  obtain ⟨a, b, off, cap, rfl, _, _, _⟩ := h
  obtain ⟨a2, b2, off2, cap2, rfl, _, _, _⟩ := hu
  rw [toI_length] at *
  clear hvs hc
  obtain ⟨L, hL⟩ : ∃ L, L = ns.length := ⟨_, rfl⟩
  obtain ⟨K, hK⟩ : ∃ K, K = es.length := ⟨_, rfl⟩
  rw [← hL] at H hl32 ⊢
  rw [← hK] at HU HVS HCO ⊢
  clear hL hK
  refine (callsIn_wide (n := 8)).1 ?_
  refine callsIn_of_wp_marks Tryd.func30 rfl trivial ?_ rfl
  simp only [Tryd.ntmps30, List.size_toArray, List.length_cons, List.length_nil, Nat.reduceAdd, Nat.reduceSub, Array.replicate_succ, Array.replicate_zero, List.push_toArray, List.append_toArray, List.nil_append, List.cons_append]
  refine wpIn_wide.2 ?_
  go_wp2_with fail
  apply wp_scope_straight
  go_wp2_with fail
  refine (HVS.out _ _ (H.out.below (by go_grown) (Nat.le_refl _)) (HU.out.below (by go_grown) (Nat.le_refl _))).mono ?_
  rintro e w3 ⟨rfl, hb3⟩
  have X3 := Lib.hid ((Bx.new (m : Int) (.slice a L cap) w).next hb3 (by simp))
  have B3 := Lib.hid (show Below w.heap.size w w3 from Below.trans ((Below.refl _ w).alloc (Nat.le_refl _) _) (hb3.mono (by simp)))
  have hs3 : w.heap.size < w3.heap.size := X3.out.lt
  clear hb3
  have x0 := X3.out.out.at0
  have x1 := X3.out.out.at1
  go_wp2_with fail
  refine (HCO.out _ _ (H.out.below B3.out (Nat.le_refl _)) (HU.out.below B3.out (Nat.le_refl _)) (hsw.next B3.out)).mono ?_
  rintro e w4 ⟨a4, c4, rfl, hin4, hb4⟩
  rw [toI_length] at hin4 ⊢
  have R4 := Lib.hid hin4.rd
  have X4 := Lib.hid (X3.out.next hb4 X3.out.lt)
  have B4 := Lib.hid (B3.out.trans (hb4.mono (Nat.le_of_lt hs3)))
  clear hin4 hb4 x0 x1 X3 B3 hs3
  generalize R.length = r4 at *
  go_wp2_with fail
  refine (HFR.out _ _ R4.out).mono ?_
  rintro e w5 ⟨rfl, hb5⟩
  have X5 := Lib.hid (X4.out.next hb5 X4.out.lt)
  have B5 := Lib.hid (B4.out.trans (hb5.mono B4.out.size))
  clear hb5 X4 B4
  obtain ⟨p6, hp6⟩ : ∃ p6, p6 = w5.heap.size := ⟨_, rfl⟩
  have X8 := Lib.hid (((X5.out.alloc (Obj.cells #[.int .u32 (fm R)] 80)).alloc (Obj.cells #[.int .i64 0] 3)).alloc (Obj.cells #[.bool false] 4))
  have B8 := Lib.hid (((B5.out.alloc B5.out.size (Obj.cells #[.int .u32 (fm R)] 80)).alloc (by have := B5.out.size; simp; omega) (Obj.cells #[.int .i64 0] 3)).alloc (by have := B5.out.size; simp; omega) (Obj.cells #[.bool false] 4))
  have P6 := Lib.hid (((Boxed.new w5 80 (.int .u32 (fm R))).alloc (Obj.cells #[.int .i64 0] 3)).alloc (Obj.cells #[.bool false] 4))
  have P7 := Lib.hid (show Boxed (((w5.alloc (Obj.cells #[.int .u32 (fm R)] 80)).alloc (Obj.cells #[.int .i64 0] 3)).alloc (Obj.cells #[.bool false] 4)) (w5.heap.size + 1) 3 (.int .i64 0) from by
    have h9 := (Boxed.new (w5.alloc (Obj.cells #[.int .u32 (fm R)] 80)) 3 (.int .i64 0)).alloc (Obj.cells #[.bool false] 4)
    simpa only [World.size_alloc] using h9)
  have P8 := Lib.hid (show Boxed (((w5.alloc (Obj.cells #[.int .u32 (fm R)] 80)).alloc (Obj.cells #[.int .i64 0] 3)).alloc (Obj.cells #[.bool false] 4)) (w5.heap.size + 1 + 1) 4 (.bool false) from by
    have h9 := Boxed.new ((w5.alloc (Obj.cells #[.int .u32 (fm R)] 80)).alloc (Obj.cells #[.int .i64 0] 3)) 4 (.bool false)
    simpa only [World.size_alloc] using h9)
  have hz8 : (((w5.alloc (Obj.cells #[.int .u32 (fm R)] 80)).alloc (Obj.cells #[.int .i64 0] 3)).alloc (Obj.cells #[.bool false] 4)).heap.size = p6 + 3 := by simp [hp6]
  have HZ8 := Lib.hid hz8
  have HP6 := Lib.hid hp6
  have hlo : w.heap.size < w5.heap.size := X5.out.lt
  clear hz8 hp6
  have x0 := X5.out.out.at0
  have x1 := X5.out.out.at1
  go_wp2_with fail
  rw [← HP6.out] at P6 P7 P8 hlo ⊢
  apply wp_label
  have HF8 := Lib.hid (HF.out _ _ (H.out.below B8.out (Nat.le_refl _)))
  obtain ⟨W8, hW8⟩ : ∃ W8, (((w5.alloc (Obj.cells #[.int .u32 (fm R)] 80)).alloc (Obj.cells #[.int .i64 0] 3)).alloc (Obj.cells #[.bool false] 4)) = W8 := ⟨_, rfl⟩
  rw [hW8] at X8 B8 P6 P7 P8 HZ8 HF8 ⊢
  clear hW8 x0 x1 X5 B5 R4
  have x0 := X8.out.out.at0
  have x1 := X8.out.out.at1
  go_wp2_with fail
  refine HF8.out.mono ?_
  rintro e w6 ⟨rfl, hb6⟩
  have B6 := Lib.hid (B8.out.trans (hb6.mono B8.out.size))
  have Q6 := Lib.hid (P6.out.kept (grown_none hb6) (by simp))
  have Q7 := Lib.hid (P7.out.kept (grown_none hb6) (by simp))
  have Q8 := Lib.hid (P8.out.kept (grown_none hb6) (by simp))
  have hz6 : p6 + 3 ≤ w6.heap.size := by have := hb6.size; have := HZ8.out; omega
  have S6 : SW w6 := hsw.next B6.out
  clear hb6 x0 x1 X8 B8 P6 P7 P8 HZ8 HF8
  go_wp2_with fail
  refine (wpIn_wide (n := 8)).1 ?_
  refine wpIn_rangeV rfl (by omega) (gf := 68) (fs := #[.int .u32 (fm ns)]) (lb := #[]) rfl trivial (enters_of Tryd.func68 (by kernel_rfl) rfl)
    (layStops m ns HC.out _ (by omega) w6 S6) kpL_t kpL_b (Below.refl _ _) (fun _ => rfl)
    (fun pre W => (Boxed W p6 80 (.int .u32 (fm R)) ∧ Boxed W (p6 + 1) 3 (.int .i64 (lpI (lpO f (pre.map Ly.p)))) ∧ Boxed W (p6 + 1 + 1) 4 (.bool (lpS (lpO f (pre.map Ly.p)))) ∧ CS swc W) ∧ (Below w.heap.size w W ∧ p6 + 3 ≤ W.heap.size))
    (fun _ _ _ => False)
    (OwnFrom.and (Own.from (fun s A B row hs hg hr => ⟨boxed_keeps hs.1 hg hr, boxed_keeps hs.2.1 hg hr, boxed_keeps hs.2.2.1 hg hr, cs_own _ s A B row hs.2.2.2 hg hr⟩) _) (OwnFrom.and (ownFrom_below (Nat.le_refl _) (by omega)) (fun s A B row hs hg hr => Nat.le_trans hs hg.size)))
    (fun _ _ _ _ _ hs _ _ => hs)
    ⟨⟨Q6.out, Q7.out, Q8.out, sw_cs S6⟩, B6.out, hz6⟩
    (fun x a' W => Ints (p6 + 3) W x.v (toI x.p.1) ∧ (x.p.1 = lay x.p.2 ∧ x.p.2 ≠ [] ∧ Cls m x.p.2 ∧ ∀ t ∈ x.p.2, t ∈ ns) ∧ a' = { tmps := #[(.agg #[.int .i64 (m : Int), .slice a L cap]), (.slice a2 K cap2), .pointer (some ⟨w.heap.size, 0, none⟩), undef, .int .i64 0, .bool false, .pointer (some ⟨p6, 0, none⟩), .pointer (some ⟨p6 + 1, 0, none⟩), .pointer (some ⟨p6 + 1 + 1, 0, none⟩), x.v, undef, undef, (.agg #[.int .i64 (m : Int), .slice a L cap]), (.slice a2 K cap2), .bool true, .bool false, (.agg #[.int .i64 (m : Int), .slice a L cap]), (.slice a2 K cap2), (.agg #[.int .i64 (m : Int), .slice a4 r4 c4]), .int .u32 (fm R), (.agg #[.int .i64 (m : Int), .slice a L cap]), .int .u32 (fm ns), (.func (.func 68) #[.int .u32 (fm ns)] #[]), x.v, .int .u32 (fm x.p.2), undef, undef, undef, undef, undef, undef, undef, undef, undef, undef, undef, undef, undef, undef, undef], defers := [] })
    (fun x a' s X Y row hs hg hr => ⟨ints_own _ _ _ _ s X Y row hs.1 hg hr, hs.2⟩)
    ?assign ?body ?done ?stop
  case assign =>
    rintro l0 pre x W0 W K ⟨_, _, hN0⟩ _ hI ⟨hin, hpre⟩ hK
    obtain ⟨e1, e2, e3, e4⟩ := lys_mem ns.length ns (Nat.le_refl _) HC.out x.p (hpre.subset (by simp))
    have hin2 := hin.mono hN0
    gi_wp2
    exact hK _ _ (KeepsFrom.refl _ _) ⟨fun e => e, fun e => e⟩ hI ⟨hin2, ⟨e1, e2, e3, e4⟩, rfl⟩
  case body =>
    rintro l0 pre x a' W hl ⟨r, hr⟩ ⟨⟨hM6, hM7, hM8, hc0⟩, hB, hN⟩ ⟨hin, ⟨e1, e2, e3, e4⟩, rfl⟩ hlt
    obtain ⟨v, Lc, cur⟩ := x
    dsimp only at hin e1 e2 e3 e4 ⊢
    subst e1
    have hpos := List.length_pos_iff.2 (lay_ne e2)
    obtain ⟨g, ⟨c9, rfl⟩, hg1, hg2⟩ : ∃ g, (∃ c, v = .slice (some ⟨g, 0, none⟩) (toI (lay cur)).length c) ∧ p6 + 3 ≤ g ∧ g < W.heap.size := by
      obtain ⟨a9, g9, c9, e9, h1, h2, _, h4, _⟩ := hin.shape
      have hn9 : a9 ≠ none := fun k => by
        have := (h2 k).1
        rw [← List.length_eq_zero_iff, toI_length] at this
        omega
      obtain rfl := h1.resolve_right hn9
      exact ⟨g9, ⟨c9, e9⟩, h4 hn9⟩
    rw [toI_length] at hin ⊢
    have hll : (lay cur).length ≤ 32 := by
      have h1 := lmn_len (fun t => tnI t cur) cur
      have h2 := e3.length
      show (lmn _ _).1.length ≤ 32
      omega
    have HPO := Lib.hid (show lpO f ((pre ++ [(⟨.slice (some ⟨g, 0, none⟩) (lay cur).length c9, (lay cur, cur)⟩ : Ly)]).map Ly.p) = (((lay cur).filter f).head?).or (lpO f (pre.map Ly.p)) by rw [List.map_append]; exact lpO_snoc f (pre.map Ly.p) (lay cur, cur))
    obtain ⟨o9, ho9⟩ : ∃ o9, o9 = lpO f (pre.map Ly.p) := ⟨_, rfl⟩
    rw [← ho9] at HPO hM7 hM8
    clear ho9
    have HHn := Lib.hid (fun h9 => head_none (f := f) (l := lay cur) h9)
    have HHs := Lib.hid (fun j hj h9 h8 => head_some (f := f) (l := lay cur) (j := j) hj h9 h8)
    have HQ := Lib.hid (fun j (hj : j < (lay cur).length) => show (lay cur).getD j 0 < 32 ∧ decide ((lay cur).getD j 0 ∈ R) = f ((lay cur).getD j 0) from ⟨e3.lt32 _ (lay_sub (getD_of_lt hj)), HR.out _ (e4 _ (lay_sub (getD_of_lt hj)))⟩)
    have hcell : ∀ j, j < (lay cur).length → W.cell? ⟨g, j, none⟩ = some (.int .i64 (((lay cur).getD j 0 : Nat) : Int)) := fun j hj => by
      have h9 := (hin.cellAt j (by rw [toI_length]; exact hj)).1
      rwa [toI_getD] at h9
    have HCell := Lib.hid hcell
    have HIn := Lib.hid hin
    have hB0 := Lib.hid hB
    have HS0 := Lib.hid (cs_sw hc0)
    clear hcell hin hB e2 e3 e4 hpos
    obtain ⟨Lt, hLt⟩ : ∃ Lt, Lt = (lay cur).length := ⟨_, rfl⟩
    rw [← hLt] at HHn HHs HQ HCell HIn hll HPO ⊢
    clear hLt
    generalize lay cur = ly at *
    have m6 := hM6.cell
    have m7 := hM7.cell
    have m8 := hM8.cell
    have f7 := hM7.frozen
    have f8 := hM8.frozen
    obtain ⟨Fm, hFm⟩ : ∃ Fm, Fm = fm R := ⟨_, rfl⟩
    rw [← hFm] at HTs hfr0 hfr1 m6 ⊢
    have HFm := Lib.hid hFm
    clear hFm
    gi_wp2
    gi_loopw [27] (fun i wr => ∃ j : Nat, j ≤ Lt ∧ i = .int .i64 j ∧ wr = W ∧ ∀ i, i < j → f (ly.getD i 0) = false) (fun i _ => Lt - (intOf i).toNat)
    case atStart => exact ⟨0, Nat.zero_le _, rfl, rfl, fun i hi => by omega⟩
    case round =>
      obtain ⟨j, hj, rfl, rfl, hno⟩ := hrel
      have HNo := Lib.hid hno
      clear hno
      by_cases hjl : j < Lt
      · have hjI : (j : Int) < (Lt : Int) := by omega
        have hcj := HCell.out j hjl
        obtain ⟨ht32, hq⟩ := HQ.out j hjl
        have hb := HTs.out _ ht32
        rw [hq] at hb
        have HSo := Lib.hid (HHs.out j hjl HNo.out)
        have HFj := Lib.hid (fun (h9 : f (ly.getD j 0) = false) => show ∀ i, i < j + 1 → f (ly.getD i 0) = false from fun i hi => by
          by_cases e : i = j
          · rw [e]; exact h9
          · exact HNo.out i (by omega))
        clear hq
        generalize ly.getD j 0 = t at *
        cases hf : f t with
        | true =>
          rw [hf] at hb HSo
          rw [if_pos rfl] at hb
          have HP9 := Lib.hid (show lpO f ((pre ++ [(⟨.slice (some ⟨g, 0, none⟩) Lt c9, (ly, cur)⟩ : Ly)]).map Ly.p) = some t by rw [HPO.out, HSo.out rfl]; rfl)
          clear hf HSo HFj
          gi_wp2
          have k7 : Boxed (wr.setCell ⟨p6 + 1, 0, none⟩ (.int .i64 (t : Int))) (p6 + 1) 3 (.int .i64 (t : Int)) := hM7.set _
          have hin2 : Ints (p6 + 3) ((wr.setCell ⟨p6 + 1, 0, none⟩ (.int .i64 (t : Int))).setCell ⟨p6 + 1 + 1, 0, none⟩ (.bool true)) (.slice (some ⟨g, 0, none⟩) Lt c9) (toI ly) := (HIn.out.put (by omega)).put (by omega)
          have hbl : Below w.heap.size wr ((wr.setCell ⟨p6 + 1, 0, none⟩ (.int .i64 (t : Int))).setCell ⟨p6 + 1 + 1, 0, none⟩ (.bool true)) := ((Below.refl _ wr).setCell (p := ⟨p6 + 1, 0, none⟩) (by show w.heap.size ≤ p6 + 1; omega) _).setCell (p := ⟨p6 + 1 + 1, 0, none⟩) (by show w.heap.size ≤ p6 + 1 + 1; omega) _
          have hsw9 := HS0.out.below hbl hsw.1
          exact ⟨((KeepsOthers.setCell _ _ _).trans (KeepsOthers.setCell _ _ _)).from _, ⟨fun _ => hin2.rd, fun _ => hsw9⟩, ⟨by first | exact boxed_far (boxed_far hM6 _ (show p6 ≠ p6 + 1 by omega)) _ (show p6 ≠ p6 + 1 + 1 by omega) | (rw [HFm.out]; exact boxed_far (boxed_far hM6 _ (show p6 ≠ p6 + 1 by omega)) _ (show p6 ≠ p6 + 1 + 1 by omega)), by rw [HP9.out]; exact boxed_far k7 _ (show p6 + 1 ≠ p6 + 1 + 1 by omega), by rw [HP9.out]; exact (boxed_far hM8 (.int .i64 (t : Int)) (show p6 + 1 + 1 ≠ p6 + 1 by omega)).set _, sw_cs hsw9⟩, hB0.out.trans hbl, Nat.le_trans hN hbl.size⟩
        | false =>
          rw [hf] at hb
          rw [if_neg (by simp)] at hb
          have HN9 := Lib.hid (HFj.out hf)
          clear hf HSo HFj
          gi_wp2
          go_roundw
          case rel => exact ⟨j + 1, by omega, by go_num, trivial, HN9.out⟩
          case measure => simp [intOf]; omega
      · obtain rfl : j = Lt := by omega
        have HP9 := Lib.hid (show lpO f ((pre ++ [(⟨.slice (some ⟨g, 0, none⟩) j c9, (ly, cur)⟩ : Ly)]).map Ly.p) = o9 by rw [HPO.out, HHn.out HNo.out]; exact lpI_or_none o9)
        gi_wp2
        exact ⟨KeepsFrom.refl _ _, ⟨fun e => e, fun e => e⟩, ⟨by rw [HFm.out]; exact hM6, by rw [HP9.out]; exact hM7, by rw [HP9.out]; exact hM8, sw_cs HS0.out⟩, hB0.out, hN⟩
  case done =>
    rintro D zs W hD hzs ⟨⟨hM6, hM7, hM8, hc0⟩, hB, hN⟩ hK
    rw [hzs] at hM7 hM8
    have m7 := hM7.cell
    have m8 := hM8.cell
    clear hzs
    go_wp2_with fail
    go_quiet (fail)
    go_wp2_with fail
    rw [Exit.noGoto_ret]
    refine ⟨by simp, .inl ⟨_, _, rfl, run_takeDeferred (show (W.drewN nq).heap[D]? = some (.deferred (some [])) from hK), ?_⟩⟩
    refine ⟨.tuple #[.int .i64 (lpI (lpO f (lys ns))), .bool (lpS (lpO f (lys ns)))], by simp [results, Tryd.results30, go_sem], rfl, ?_⟩
    exact (below_drewN hB nq).trans (belowK_b (w := w) (Nat.le_refl _) (W.drewN nq) D _ _ (by omega) hK rfl rfl)
  case stop =>
    rintro D c pre W _ _ h _
    exact h.elim

set_option maxRecDepth 100000 in
set_option maxHeartbeats 1600000 in
theorem implLearnPlan (n : Int) (v : Value) (zs : List Int) (u : Value) (es : List (Int × Bool)) (w : World) (h : Rd w v zs) (hu : RdE w u es) (hsw : SW w) :
    Calls Tryd.prog 30 #[.agg #[.int .i64 n, v], u] w fun e w' => e = .returned (.tuple #[.int .i64 (lpI (lpN n zs es)), .bool (lpS (lpN n zs es))]) ∧ Below w.heap.size w w' := by
  by_cases hvs : vsB n zs es = true
  · have hvd : vldB n zs = true := by simp only [vsB, Bool.and_eq_true] at hvs; exact hvs.1
    obtain ⟨m, ns, rfl, rfl, hc⟩ := vldB_cls hvd
    rw [lpN_in hvs]
    exact implLpIn m v ns u es w hc hvs h hu hsw
  · rw [Bool.not_eq_true] at hvs
    rw [lpN_bad hvs]
    have H := Lib.hid h
    have HU := Lib.hid hu
    have HVS := Lib.hid (fun w h hu => implValidSample n v zs u es w h hu)
    rw [hvs] at HVS
    obtain ⟨a, b, off, cap, rfl, _, _, _⟩ := h
    obtain ⟨a2, b2, off2, cap2, rfl, _, _, _⟩ := hu
    clear hvs
    go_enter Tryd.func30, Tryd.ntmps30
    go_wp2_with fail
    apply wp_scope_straight
    go_wp2_with fail
    refine (HVS.out _ (H.out.below (by go_grown) (Nat.le_refl _)) (HU.out.below (by go_grown) (Nat.le_refl _))).mono ?_
    rintro e w1 ⟨rfl, hb⟩
    have HB := Lib.hid (Below.trans (show Below w.heap.size w _ from by go_grown) (hb.mono (by simp)))
    clear hb
    go_wp2_with fail
    rw [Exit.noGoto_ret]
    refine bodyPost_ret (v := .tuple #[.int .i64 0, .bool false]) (by simp [results, Tryd.results30, go_sem]) rfl ?_
    exact ⟨rfl, HB.out⟩

end Go.Proofs.YthmipnflbiclbaaDoor
