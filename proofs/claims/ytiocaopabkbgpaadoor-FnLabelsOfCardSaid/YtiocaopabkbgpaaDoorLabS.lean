/- LabelsOf, the model's. Conditions: Sets and the points are slices of ints. -/
import Derived.Deep.RegionHeld3
import Derived.Test.YtiocaopabkbgpaaDoorLab
import Derived.Test.YtiocaopabkbgpaaDoorZB
namespace Go.Proofs.YtiocaopabkbgpaaDoor
open Go.RowKit

theorem labTake (s : Nat) {ps : List Int} {k : Nat} (hk : k < ps.length) : (ps.take (k + 1)).map (lab1 s) = (ps.take k).map (lab1 s) ++ [(ps.getD k 0, hasX (ps.getD k 0).toNat s)] := by
  rw [show ps.take (k + 1) = ps.take k ++ [ps.getD k 0] by rw [List.take_add_one, List.getElem?_eq_getElem hk, List.getD_eq_getElem?_getD, List.getElem?_eq_getElem hk]; rfl, List.map_append]
  rfl

set_option maxHeartbeats 6400000 in
set_option maxRecDepth 100000 in
theorem specLabelsOf (n : Int) (v : Value) (zs : List Int) (u : Value) (ps : List Int) (s : Int) (w : World) (h : Rd w v zs) (hu : Rd w u ps) :
    Calls Tryd.prog 20 #[.agg #[.int .i64 n, v], u, .int .i64 s] w (RetLab (labL n zs ps s) (labB n zs ps s) w) := by
  have H := Lib.hid h
  have HU := Lib.hid hu
  have HF1 := Lib.hid (fun w h => specValid n v zs w h)
  obtain ⟨a, b, off, cap, rfl, _, _, _⟩ := h
  obtain ⟨a2, b2, off2, cap2, rfl, hp1, _, hp5⟩ := hu
  have HP1 := Lib.hid hp1
  have HP5 := Lib.hid hp5
  clear hp1 hp5
  have B0 := Lib.hid (Box.made n (.slice a zs.length cap) w 25)
  by_cases hv : vldB n zs = true
  · obtain ⟨m, ns, rfl, rfl, hc⟩ := vldB_cls hv
    have hm := hc.pts
    have HV := Lib.hid hv
    have HSE := Lib.hid (fun v w => specValidSet m hm v s w)
    have HIn := Lib.hid (show inB m (toI ns) s = setB m s by rw [inB, hv, Int.toNat_natCast]; rfl)
    clear hv hc
    by_cases hs : setB m s = true
    · obtain ⟨t, rfl, ht, ht32⟩ := setB_nat hm hs
      have HSB := Lib.hid hs
      clear hs
      by_cases h12 : ps.length ≤ 12
      · have HB := Lib.hid (show labB m (toI ns) ps t = decide (labTo m ps ps.length) by rw [labB, HIn.out, HSB.out, decide_eq_true h12]; rfl)
        have HLp := Lib.hid (show labTo m ps ps.length → labL m (toI ns) ps t = ps.map (lab1 t) from fun hq => by rw [labL, HB.out, if_pos (decide_eq_true hq), Int.toNat_natCast])
        have HLn := Lib.hid (show ¬ labTo m ps ps.length → labL m (toI ns) ps t = [] from fun hq => by rw [labL, HB.out, if_neg (by simpa using hq)])
        have HWm := Lib.hid (show IntKind.i64.wrap ((m : Int) - 1) = (m : Int) - 1 by rw [IntKind.wrap_i64]; omega)
        rw [HB.out]
        generalize labL m (toI ns) ps t = R at *
        go_enter Tryd.func20, Tryd.ntmps20
        go_wp2_with fail
        refine (HF1.out _ (H.out.below (k := w.heap.size) (by go_grown) (Nat.le_refl _))).mono ?_
        rintro e w1 ⟨rfl, hb⟩
        rw [HV.out]
        have hs1 : w.heap.size < w1.heap.size := by have := hb.size; simp at this; omega
        have B1 := Lib.hid (B0.out.next (by simp) hb)
        clear hb
        have c0 := B1.out.at0
        have c1 := B1.out.at1
        go_wp2_with fail
        refine (HSE.out _ _).mono ?_
        rintro e w2 ⟨rfl, hb2⟩
        rw [HSB.out]
        have hs2 : w.heap.size < w2.heap.size := by have := hb2.size; omega
        have B2 := Lib.hid (B1.out.next hs1 hb2)
        clear hb2 c0 c1
        go_wp2_with fail
        go_loopw [8, 9] (fun o i wr => ∃ (k : Nat) (a' : Option Addr) (c' : Nat), k ≤ ps.length ∧ i = .int .i64 k ∧ o = .slice a' k c' ∧ ExS w2.heap.size wr (.slice a' k c') ((ps.take k).map (lab1 t)) ∧ Hid (labTo m ps k) ∧ Below w2.heap.size w2 wr) (fun _ i _ => ps.length - (intOf i).toNat)
        case atStart => exact ⟨0, _, _, Nat.zero_le _, rfl, rfl, ExS.lit' (by simp) (by simp), Lib.hid fun j hj => by omega, by go_grown⟩
        case round =>
          obtain ⟨k, a', c', hk, rfl, rfl, hin, HQ, hbe⟩ := hrel
          have HIN := Lib.hid hin
          have BR := Lib.hid (B2.out.next hs2 hbe)
          have HBE := Lib.hid hbe
          have hz := hbe.size
          clear hin hbe
          by_cases hlt : k < ps.length
          · obtain ⟨rfl, hbl⟩ := HP1.out (by omega)
            have hc0 := (BR.out.below.cell (p := ⟨b2, off2 + k, none⟩) hbl).trans (HP5.out k hlt)
            have d0 := BR.out.at0
            have hkI : (k : Int) < (ps.length : Int) := by omega
            have HTk := Lib.hid (labTake t hlt)
            have HAl := Lib.hid (show ((ps.take k).map (lab1 t)).length = k by simp; omega)
            obtain ⟨p, hp⟩ : ∃ p, p = ps.getD k 0 := ⟨_, rfl⟩
            rw [← hp] at hc0 HTk
            have HC5 := Lib.hid (show w.cell? ⟨b2, off2 + k, none⟩ = some (.int .i64 p) by rw [hp]; exact HP5.out k hlt)
            generalize (ps.take k).map (lab1 t) = A at *
            by_cases hok : 0 ≤ p ∧ p < m
            · have HQ2 := Lib.hid (show labTo m ps (k + 1) from fun j hj => by
                by_cases e : j = k
                · subst e; rw [← hp]; exact hok
                · exact HQ.out j (by omega))
              have HR := Lib.hid (show (decide ((0 : Int) ≤ p) && decide (p ≤ (m : Int) - 1)) = true by simp; omega)
              clear hp
              go_wp2_with fail
              go_region_held3 (fun w' => w'.cell? ⟨b2, off2 + k, none⟩ = some (.int .i64 p) ∧ w'.cell? ⟨w.heap.size, 0, none⟩ = some (.int .i64 (m : Int))) (first | exact ⟨hc0, d0⟩ | assumption | go_keep) (first | (go_at_call 68; refine (specInRange _ _ _ _).mono ?_; rintro e w4 ⟨rfl, rfl⟩; rw [HWm.out, HR.out]))
              go_wp2_with fail
              have hcW : wr.drew.cell? ⟨b2, off2 + k, none⟩ = some (.int .i64 p) := hc0
              have HINW := Lib.hid (show ExS w2.heap.size wr.drew (.slice a' k c') A from HIN.out)
              have HBW := Lib.hid (show Below w2.heap.size w2 wr.drew from HBE.out.drew)
              have hzW : w2.heap.size ≤ wr.drew.heap.size := hz
              clear hc0 d0
              generalize wr.drew = W at *
              obtain ⟨x, rfl⟩ := Int.eq_ofNat_of_zero_le hok.1
              have hx5 : x < 5 := by omega
              have HH := Lib.hid (fun w => specHas t x (by omega) hx5 w)
              rw [Int.toNat_natCast] at HTk
              generalize hasX x t = hb at *
              go_region_held3 (fun w' => w'.cell? ⟨b2, off2 + k, none⟩ = some (.int .i64 (x : Int))) (first | exact hcW | assumption | exact f0 | go_keep) (first
                | (go_at_call 69; refine (HH.out _).mono ?_; rintro e w4 ⟨rfl, rfl⟩)
                | (refine step_appE rfl (.tmp 40) (.tmp 52) rfl w2.heap.size _ A rfl (by first | exact HINW.out | exact HINW.out.alloc _) _ (x : Int) hb rfl ⟨by first | (rw [World.cell?_alloc_at _ _ _ _ (by simp)]; rfl) | (rw [cell_drew, World.cell?_alloc_at _ _ _ _ (by simp)]; rfl), by first | (rw [World.cell?_alloc_at _ _ _ _ (by simp)]; rfl) | (rw [cell_drew, World.cell?_alloc_at _ _ _ _ (by simp)]; rfl)⟩ (by rw [HAl.out]; omega) (by simp; omega) ?_; intro a1 c1 w3 hin3 hb3 hg3; have I3 := Lib.hid hin3; have HB3 := Lib.hid (HBW.out.trans (Below.trans (b := W.drew.alloc (Obj.cells #[.int .i64 (x : Int), .bool hb] 59)) ((Below.refl _ _).drew.alloc (by simp; omega) _) hb3)); clear hin3 hb3 hg3; have f0 := (HB3.out.cell (p := ⟨b2, off2 + k, none⟩) (by show b2 < w2.heap.size; omega)).trans ((B2.out.below.cell (p := ⟨b2, off2 + k, none⟩) hbl).trans HC5.out)))
              go_wp2_with fail
              go_roundw
              case rel => exact ⟨k + 1, a1, c1, by omega, by go_num, by rw [HAl.out], by rw [HTk.out, ← HAl.out]; exact I3.out, HQ2, HB3.out⟩
              case measure => simp [intOf]; omega
            · have hnot : ¬ labTo m ps ps.length := fun hq => hok (by rw [hp]; exact hq k hlt)
              have HRr := Lib.hid (HLn.out hnot)
              have HD := Lib.hid (decide_eq_false hnot)
              have HR := Lib.hid (show (decide ((0 : Int) ≤ p) && decide (p ≤ (m : Int) - 1)) = false by simp; omega)
              clear hnot hok hp
              go_wp2_with fail
              go_region_held3 (fun w' => w'.cell? ⟨b2, off2 + k, none⟩ = some (.int .i64 p) ∧ w'.cell? ⟨w.heap.size, 0, none⟩ = some (.int .i64 (m : Int))) (first | exact ⟨hc0, d0⟩ | assumption | go_keep) (first | (go_at_call 68; refine (specInRange _ _ _ _).mono ?_; rintro e w4 ⟨rfl, rfl⟩; rw [HWm.out, HR.out]))
              go_wp2_with fail
              refine bodyPost_ret (v := .tuple #[.slice none 0 0, .bool false]) (by simp [results, Tryd.results20, go_sem]) rfl ?_
              rw [HD.out, HRr.out]
              exact ⟨none, 0, rfl, ExS.nil _ _, BR.out.below.drew⟩
          · obtain rfl : k = ps.length := by omega
            have HRr := Lib.hid (HLp.out HQ.out)
            have HD := Lib.hid (decide_eq_true HQ.out)
            rw [List.take_length] at HIN
            go_wp2_with fail
            refine bodyPost_ret (v := .tuple #[.slice a' ps.length c', .bool true]) (by simp [results, Tryd.results20, go_sem]) rfl ?_
            rw [HD.out, HRr.out]
            exact ⟨a', c', by rw [List.length_map], by rw [List.length_map]; exact HIN.out.mono (by omega), BR.out.below⟩
      · have HBf := Lib.hid (show labB m (toI ns) ps t = false by rw [labB, decide_eq_false h12]; simp)
        have HLf := Lib.hid (show labL m (toI ns) ps t = [] by rw [labL, HBf.out]; rfl)
        rw [HBf.out, HLf.out]
        go_enter Tryd.func20, Tryd.ntmps20
        go_wp2_with fail
        refine (HF1.out _ (H.out.below (k := w.heap.size) (by go_grown) (Nat.le_refl _))).mono ?_
        rintro e w1 ⟨rfl, hb⟩
        rw [HV.out]
        have hs1 : w.heap.size < w1.heap.size := by have := hb.size; simp at this; omega
        have B1 := Lib.hid (B0.out.next (by simp) hb)
        clear hb
        have c0 := B1.out.at0
        have c1 := B1.out.at1
        go_wp2_with fail
        refine (HSE.out _ _).mono ?_
        rintro e w2 ⟨rfl, hb2⟩
        rw [HSB.out]
        have B2 := Lib.hid (B1.out.next hs1 hb2)
        clear hb2 c0 c1
        go_wp2_with fail
        refine bodyPost_ret (v := .tuple #[.slice none 0 0, .bool false]) (by simp [results, Tryd.results20, go_sem]) rfl ?_
        exact ⟨none, 0, rfl, ExS.nil _ _, B2.out.below⟩
    · rw [Bool.not_eq_true] at hs
      have HSB := Lib.hid hs
      have HBf := Lib.hid (show labB m (toI ns) ps s = false by rw [labB, HIn.out, hs]; rfl)
      have HLf := Lib.hid (show labL m (toI ns) ps s = [] by rw [labL, HBf.out]; rfl)
      clear hs
      rw [HBf.out, HLf.out]
      go_enter Tryd.func20, Tryd.ntmps20
      go_wp2_with fail
      refine (HF1.out _ (H.out.below (k := w.heap.size) (by go_grown) (Nat.le_refl _))).mono ?_
      rintro e w1 ⟨rfl, hb⟩
      rw [HV.out]
      have hs1 : w.heap.size < w1.heap.size := by have := hb.size; simp at this; omega
      have B1 := Lib.hid (B0.out.next (by simp) hb)
      clear hb
      have c0 := B1.out.at0
      have c1 := B1.out.at1
      go_wp2_with fail
      refine (HSE.out _ _).mono ?_
      rintro e w2 ⟨rfl, hb2⟩
      rw [HSB.out]
      have B2 := Lib.hid (B1.out.next hs1 hb2)
      clear hb2 c0 c1
      go_wp2_with fail
      refine bodyPost_ret (v := .tuple #[.slice none 0 0, .bool false]) (by simp [results, Tryd.results20, go_sem]) rfl ?_
      exact ⟨none, 0, rfl, ExS.nil _ _, B2.out.below⟩
  · rw [Bool.not_eq_true] at hv
    have HV := Lib.hid hv
    have HBf := Lib.hid (show labB n zs ps s = false by rw [labB, inB, hv]; rfl)
    have HLf := Lib.hid (show labL n zs ps s = [] by rw [labL, HBf.out]; rfl)
    clear hv
    rw [HBf.out, HLf.out]
    go_enter Tryd.func20, Tryd.ntmps20
    go_wp2_with fail
    refine (HF1.out _ (H.out.below (k := w.heap.size) (by go_grown) (Nat.le_refl _))).mono ?_
    rintro e w1 ⟨rfl, hb⟩
    rw [HV.out]
    have B1 := Lib.hid (B0.out.next (by simp) hb)
    clear hb
    go_wp2_with fail
    refine bodyPost_ret (v := .tuple #[.slice none 0 0, .bool false]) (by simp [results, Tryd.results20, go_sem]) rfl ?_
    exact ⟨none, 0, rfl, ExS.nil _ _, B1.out.below⟩

end Go.Proofs.YtiocaopabkbgpaaDoor
