/- LabelsOf, the program's. Conditions: Sets and the points are slices of ints. -/
import Derived.Test.YthmipnflbiclbaaDoorAppE
import Derived.Test.YthmipnflbiclbaaDoorZA
import Derived.Test.YthmipnflbiclbaaDoorZH
namespace Go.Proofs.YthmipnflbiclbaaDoor
open Go.RowKit

/-- are the first k points of the class? -/
def labTo (n : Int) (ps : List Int) (k : Nat) : Prop := ∀ j, j < k → 0 ≤ ps.getD j 0 ∧ ps.getD j 0 < n
instance (n : Int) (ps : List Int) (k : Nat) : Decidable (labTo n ps k) := by unfold labTo; infer_instance
def labB (n : Int) (zs ps : List Int) (s : Int) : Bool := inB n zs s && (decide (ps.length ≤ 12) && decide (labTo n ps ps.length))
def lab1 (s : Nat) (p : Int) : Int × Bool := (p, hasX p.toNat s)
def labL (n : Int) (zs ps : List Int) (s : Int) : List (Int × Bool) := if labB n zs ps s = true then ps.map (lab1 s.toNat) else []
theorem labL_len (n : Int) (zs ps : List Int) (s : Int) : (labL n zs ps s).length ≤ 1048576 := by
  unfold labL
  split
  · rename_i h
    simp only [labB, Bool.and_eq_true, decide_eq_true_eq] at h
    have := h.2.1
    simp
    omega
  · simp
theorem labMap_getD (s : Nat) (ps : List Int) (j : Nat) (hj : j < ps.length) : (ps.map (lab1 s)).getD j (0, false) = (ps.getD j 0, hasX (ps.getD j 0).toNat s) := by
  simp [List.getD, List.getElem?_map, List.getElem?_eq_getElem hj, lab1]

/-- what a call answers: examples of its own and a bool -/
def RetLab (es : List (Int × Bool)) (b : Bool) (w : World) (e : Ending) (w' : World) : Prop :=
  ∃ a cap, e = .returned (.tuple #[.slice a es.length cap, .bool b]) ∧ ExS w.heap.size w' (.slice a es.length cap) es ∧ Below w.heap.size w w'

theorem bit64 (s x : Nat) (hs : s < 32) (hx : x < 5) : bits .and .i64 ((s : Int) / 2 ^ x) 1 = if hasX x s = true then 1 else 0 := by
  have key : ∀ s : Fin 32, ∀ x : Fin 5, bits .and .i64 (((s : Nat) : Int) / 2 ^ (x : Nat)) 1 = if hasX x s = true then 1 else 0 := by decide +kernel
  exact key ⟨s, hs⟩ ⟨x, hx⟩

set_option maxHeartbeats 800000 in
theorem implLabelled (s x : Nat) (hs : s < 32) (hx : x < 5) (w : World) :
    Calls Tryd.prog 80 #[.int .i64 (s : Int), .int .i64 (x : Int)] w fun e w' => e = .returned (.agg #[.int .i64 (x : Int), .bool (hasX x s)]) ∧ Below w.heap.size w w' := by
  have hb := bit64 s x hs hx
  by_cases h : hasX x s = true
  · rw [if_pos h] at hb
    rw [h]
    clear h
    go_enter Tryd.func80, Tryd.ntmps80
    go_wp2_with fail
    refine bodyPost_ret (v := .agg #[.int .i64 (x : Int), .bool true]) (by simp [results, Tryd.results80, go_sem]) rfl ?_
    exact ⟨rfl, by go_grown⟩
  · rw [if_neg h] at hb
    rw [Bool.not_eq_true] at h
    rw [h]
    clear h
    go_enter Tryd.func80, Tryd.ntmps80
    go_wp2_with fail
    refine bodyPost_ret (v := .agg #[.int .i64 (x : Int), .bool false]) (by simp [results, Tryd.results80, go_sem]) rfl ?_
    exact ⟨rfl, by go_grown⟩

set_option maxHeartbeats 6400000 in
set_option maxRecDepth 100000 in
theorem implLabelsOf (n : Int) (v : Value) (zs : List Int) (u : Value) (ps : List Int) (s : Int) (w : World) (h : Rd w v zs) (hu : Rd w u ps) :
    Calls Tryd.prog 28 #[.agg #[.int .i64 n, v], u, .int .i64 s] w (RetLab (labL n zs ps s) (labB n zs ps s) w) := by
  have H := Lib.hid h
  have HU := Lib.hid hu
  have HI := Lib.hid (fun w h => implIsSetOf n v zs s w h)
  have HPt := Lib.hid (fun x w h => implIsPointOf n v zs x w h)
  obtain ⟨a, b, off, cap, rfl, _, _, _⟩ := h
  obtain ⟨a2, b2, off2, cap2, rfl, hp1, _, hp5⟩ := hu
  have HP1 := Lib.hid hp1
  have HP5 := Lib.hid hp5
  clear hp1 hp5
  have B0 := Lib.hid (Box.made n (.slice a zs.length cap) w 25)
  by_cases hv : inB n zs s = true
  · have HV := Lib.hid hv
    by_cases h12 : ps.length ≤ 12
    · have hvd : vldB n zs = true := by simp only [inB, Bool.and_eq_true] at hv; exact hv.1
      obtain ⟨m, ns, rfl, rfl, hc⟩ := vldB_cls hvd
      have hm := hc.pts
      obtain ⟨t, rfl, ht, ht32⟩ := setB_nat hm (s := s) (by simp only [inB, Bool.and_eq_true, Int.toNat_natCast] at hv; exact hv.2)
      have HVd := Lib.hid hvd
      obtain ⟨i0, hi, hz0, hz1, hz2⟩ := info_parts info5
      have Hz2 := Lib.hid hz2
      clear hz2
      have HB := Lib.hid (show labB m (toI ns) ps t = decide (labTo m ps ps.length) by rw [labB, hv, decide_eq_true h12]; rfl)
      have HLp := Lib.hid (show labTo m ps ps.length → labL m (toI ns) ps t = ps.map (lab1 t) from fun hq => by rw [labL, HB.out, if_pos (decide_eq_true hq), Int.toNat_natCast])
      have HLn := Lib.hid (show ¬ labTo m ps ps.length → labL m (toI ns) ps t = [] from fun hq => by rw [labL, HB.out, if_neg (by simpa using hq)])
      rw [HB.out]
      generalize labL m (toI ns) ps t = R at *
      clear hv hvd
      go_enter Tryd.func28, Tryd.ntmps28
      go_wp2_with fail
      refine (HI.out _ (H.out.below (k := w.heap.size) (by go_grown) (Nat.le_refl _))).mono ?_
      rintro e w1 ⟨rfl, hb⟩
      rw [HV.out]
      have hs1 : w.heap.size < w1.heap.size := by have := hb.size; simp at this; omega
      have B1 := Lib.hid (B0.out.next (by simp) hb)
      clear hb
      go_wp2_with (at_make; refine wpList_make_full _ rfl _ _ 40 rfl w1.heap.size 92 i0 (.agg #[.int .i64 0, .bool false]) 2 Tryd.underlying40 hi hz0 hz1 _ _ _ _ ps.length rfl rfl rfl rfl (by rw [Hz2.out]; omega) (by unfold maxLen; omega) (Nat.le_refl _) ?_; intro w2 hown hgrow)
      have HO := Lib.hid hown
      have hb1 : Below w1.heap.size w1 w2 := (Below.refl _ _).grown hgrow (Nat.le_refl _) (fun k hk => by simp at hk)
      have HB1 := Lib.hid hb1
      clear hown hgrow hi hz0 hz1 hb1
      go_loopw [25] (fun i wr => ∃ (k : Nat) (xs : List Value), k ≤ ps.length ∧ i = .int .i64 k ∧ wr.ownsRow w1.heap.size 92 2 (.slice (some ⟨w1.heap.size, 0, none⟩) ps.length ps.length) ps.length xs ∧ Hid (∀ j, j < k → xs[j * 2]? = some (.int .i64 (ps.getD j 0)) ∧ xs[j * 2 + 1]? = some (.bool (hasX (ps.getD j 0).toNat t))) ∧ Hid (labTo m ps k) ∧ Below w1.heap.size w1 wr) (fun i _ => ps.length - (intOf i).toNat)
      case atStart => exact ⟨0, _, Nat.zero_le _, rfl, HO.out, Lib.hid fun j hj => by omega, Lib.hid fun j hj => by omega, HB1.out⟩
      case round =>
        obtain ⟨k, xs, hk, rfl, hown, HX, HQ, hbk⟩ := hrel
        have HW := Lib.hid hown
        have Hbk := Lib.hid hbk
        have hxl := hown.1
        have hsz := hbk.size
        have BR := Lib.hid (B1.out.next hs1 hbk)
        clear hown hbk
        by_cases hlt : k < ps.length
        · obtain ⟨rfl, hbl⟩ := HP1.out (by omega)
          have hc0 := (BR.out.below.cell (p := ⟨b2, off2 + k, none⟩) hbl).trans (HP5.out k hlt)
          have RR := Lib.hid (H.out.below BR.out.below (Nat.le_refl _))
          have d0 := BR.out.at0
          have d1 := BR.out.at1
          obtain ⟨p, hp⟩ : ∃ p, p = ps.getD k 0 := ⟨_, rfl⟩
          rw [← hp] at hc0
          by_cases hok : 0 ≤ p ∧ p < m
          · obtain ⟨x, rfl⟩ := Int.eq_ofNat_of_zero_le hok.1
            have hx5 : x < 5 := by omega
            have HPV := Lib.hid (show ptB m (toI ns) (x : Int) = true by rw [ptB, HVd.out]; simp; omega)
            have HLb := Lib.hid (fun w => implLabelled t x ht32 hx5 w)
            have HQ2 := Lib.hid (show labTo m ps (k + 1) from fun j hj => by
              by_cases e : j = k
              · subst e; rw [← hp]; exact hok
              · exact HQ.out j (by omega))
            have HE := Lib.hid hp
            clear hp hok
            go_wp2_with fail
            refine (HPt.out _ _ RR.out).mono ?_
            rintro e w3 ⟨rfl, hb3⟩
            rw [HPV.out]
            have hz3 := hb3.size
            have HB3 := Lib.hid hb3
            clear hb3 d0 d1
            go_wp2_with fail
            refine (HLb.out _).mono ?_
            rintro e w5 ⟨rfl, hb5⟩
            have HB5 := Lib.hid (HB3.out.trans (hb5.mono hz3))
            have hz5 := HB5.out.size
            clear hb5
            have HW5 := Lib.hid (show w5.ownsRow w1.heap.size 92 2 (.slice (some ⟨w1.heap.size, 0, none⟩) ps.length ps.length) ps.length xs from by
              refine ⟨HW.out.1, ?_⟩
              rcases HW.out.2 with h2 | ⟨g, cp, cu, e, hB, hg, r⟩
              · exact .inl h2
              · refine .inr ⟨g, cp, cu, e, hB, ?_, r⟩
                rw [HB5.out.block g (Array.getElem?_eq_some_iff.1 hg).1]
                exact hg)
            have B5 := Lib.hid (Hbk.out.trans (HB5.out.mono hsz))
            have S1 := Lib.hid (World.ownsRow.stored HW5.out (k * 2) (.int .i64 (x : Int))).1
            have S2 := Lib.hid (World.ownsRow.stored S1.out (k * 2 + 1) (.bool (hasX x t))).1
            obtain ⟨u0, hu0⟩ : ∃ u, xs[k * 2]? = some u := ⟨xs[k * 2], List.getElem?_eq_getElem (by omega)⟩
            obtain ⟨u1, hu1⟩ : ∃ u, xs[k * 2 + 1]? = some u := ⟨xs[k * 2 + 1], List.getElem?_eq_getElem (by omega)⟩
            have X0 := (World.ownsRow.cellAt HW5.out (k * 2) (by omega)).trans hu0
            have X1 := (World.ownsRow.cellAt HW5.out (k * 2 + 1) (by omega)).trans hu1
            obtain ⟨F0, F1⟩ : w5.frozen? ⟨w1.heap.size, k * 2, none⟩ = false ∧ w5.frozen? ⟨w1.heap.size, k * 2 + 1, none⟩ = false := by
              rcases HW5.out.2 with ⟨e, _⟩ | ⟨g, cp, cu, e, _, hg, _⟩
              · simp at e
              · simp only [Value.slice.injEq, Option.some.injEq, Addr.mk.injEq] at e
                obtain ⟨⟨rfl, _⟩, _⟩ := e
                exact ⟨frozen_of_row _ _ _ _ _ hg, frozen_of_row _ _ _ _ _ hg⟩
            have HXN := Lib.hid (show ∀ j, j < k + 1 → ((xs.set (k * 2) (Value.int .i64 (x : Int))).set (k * 2 + 1) (Value.bool (hasX x t)))[j * 2]? = some (.int .i64 (ps.getD j 0)) ∧ ((xs.set (k * 2) (Value.int .i64 (x : Int))).set (k * 2 + 1) (Value.bool (hasX x t)))[j * 2 + 1]? = some (.bool (hasX (ps.getD j 0).toNat t)) from by
              intro j hj
              by_cases e : j = k
              · subst e
                rw [← HE.out, Int.toNat_natCast]
                refine ⟨?_, ?_⟩
                · rw [List.getElem?_set_ne (by omega), List.getElem?_set_self (by omega)]
                · rw [List.getElem?_set_self (by simp; omega)]
              · have := HX.out j (by omega)
                rw [List.getElem?_set_ne (by omega), List.getElem?_set_ne (by omega), List.getElem?_set_ne (by omega), List.getElem?_set_ne (by omega)]
                exact this)
            clear hu0 hu1
            generalize hasX x t = hb at *
            go_wp2_with fail
            go_roundw
            case rel => exact ⟨k + 1, _, by omega, by go_num, S2.out, HXN, HQ2, (B5.out.setCell (Nat.le_refl _) _).setCell (Nat.le_refl _) _⟩
            case measure => simp [intOf]; omega
          · have HPV := Lib.hid (show ptB m (toI ns) p = false by rw [ptB, HVd.out]; simp; omega)
            have hnot : ¬ labTo m ps ps.length := fun hq => hok (by rw [hp]; exact hq k hlt)
            have HRr := Lib.hid (HLn.out hnot)
            have HD := Lib.hid (decide_eq_false hnot)
            clear hnot hok hp
            go_wp2_with fail
            refine (HPt.out _ _ RR.out).mono ?_
            rintro e w3 ⟨rfl, hb3⟩
            rw [HPV.out]
            have BF := Lib.hid (BR.out.next (by omega) hb3)
            clear hb3 d0 d1
            go_wp2_with fail
            refine bodyPost_ret (v := .tuple #[.slice none 0 0, .bool false]) (by simp [results, Tryd.results28, go_sem]) rfl ?_
            rw [HD.out, HRr.out]
            exact ⟨none, 0, rfl, ExS.nil _ _, BF.out.below⟩
        · obtain rfl : k = ps.length := by omega
          have hxs := flat_ext (xs := xs) (es := ps.map (lab1 t)) (by rw [List.length_map]; exact hxl) (by
            rw [List.length_map]
            intro j hj
            rw [labMap_getD _ _ _ hj]
            exact HX.out j hj)
          subst hxs
          have HRr := Lib.hid (HLp.out HQ.out)
          have HD := Lib.hid (decide_eq_true HQ.out)
          go_wp2_with fail
          refine bodyPost_ret (v := .tuple #[.slice (some ⟨w1.heap.size, 0, none⟩) ps.length ps.length, .bool true]) (by simp [results, Tryd.results28, go_sem]) rfl ?_
          rw [HD.out, HRr.out]
          refine ⟨some ⟨w1.heap.size, 0, none⟩, ps.length, by rw [List.length_map], ?_, BR.out.below⟩
          have hw := HW.out
          refine ExS.mono (B := w1.heap.size) ?_ (by omega)
          unfold ExS
          rw [List.length_map]
          exact hw
    · have HBf := Lib.hid (show labB n zs ps s = false by rw [labB, decide_eq_false h12]; simp)
      have HLf := Lib.hid (show labL n zs ps s = [] by rw [labL, HBf.out]; rfl)
      clear hv
      rw [HBf.out, HLf.out]
      go_enter Tryd.func28, Tryd.ntmps28
      go_wp2_with fail
      refine (HI.out _ (H.out.below (k := w.heap.size) (by go_grown) (Nat.le_refl _))).mono ?_
      rintro e w1 ⟨rfl, hb⟩
      rw [HV.out]
      have B1 := Lib.hid (B0.out.next (by simp) hb)
      clear hb
      go_wp2_with fail
      refine bodyPost_ret (v := .tuple #[.slice none 0 0, .bool false]) (by simp [results, Tryd.results28, go_sem]) rfl ?_
      exact ⟨none, 0, rfl, ExS.nil _ _, B1.out.below⟩
  · rw [Bool.not_eq_true] at hv
    have HV := Lib.hid hv
    have HBf := Lib.hid (show labB n zs ps s = false by rw [labB, hv]; rfl)
    have HLf := Lib.hid (show labL n zs ps s = [] by rw [labL, HBf.out]; rfl)
    clear hv
    rw [HBf.out, HLf.out]
    go_enter Tryd.func28, Tryd.ntmps28
    go_wp2_with fail
    refine (HI.out _ (H.out.below (k := w.heap.size) (by go_grown) (Nat.le_refl _))).mono ?_
    rintro e w1 ⟨rfl, hb⟩
    rw [HV.out]
    have B1 := Lib.hid (B0.out.next (by simp) hb)
    clear hb
    go_wp2_with fail
    refine bodyPost_ret (v := .tuple #[.slice none 0 0, .bool false]) (by simp [results, Tryd.results28, go_sem]) rfl ?_
    exact ⟨none, 0, rfl, ExS.nil _ _, B1.out.below⟩

end Go.Proofs.YthmipnflbiclbaaDoor
