/- The model's search: how many steps lead from one set to each. Conditions: Sets is a slice of ints below 32. -/
import Derived.Test.YtgldckgecoijfaaAppW
import Derived.Test.YtgldckgecoijfaaNbr
import Derived.Test.YtgldckgecoijfaaPaj4
namespace Go.Proofs.Ytgldckgecoijfaa
open Go.RowKit

/-- a table as a list -/
def mkL (n : Nat) (f : Nat → Int) : List Int := (List.range n).map f
theorem mkL_len (n : Nat) (f : Nat → Int) : (mkL n f).length = n := by simp [mkL]
theorem mkL_at {n k : Nat} (f : Nat → Int) (hk : k < n) : (mkL n f).getD k 0 = f k := by simp [mkL, List.getD_eq_getElem?_getD, hk]
theorem mkL_set (n k : Nat) (f : Nat → Int) (x : Int) : (mkL n f).set k x = mkL n (fun t => if t = k then x else f t) := by
  apply List.ext_getElem?
  intro j
  rw [List.getElem?_set]
  simp only [mkL, List.length_map, List.length_range, List.getElem?_map]
  by_cases hj : j < n
  · by_cases e : k = j
    · subst e; simp [hj]
    · simp [e, hj, show ¬ j = k from fun h => e h.symm]
  · by_cases e : k = j
    · subst e; simp [hj]
    · simp [e, hj]
theorem mkL_rep (n : Nat) : List.replicate n (-1) = mkL n (fun _ => -1) := by
  apply List.ext_getElem?
  intro j
  simp only [mkL, List.getElem?_map, List.getElem?_replicate]
  by_cases hj : j < n <;> simp [hj]
theorem Ints.one {B : Nat} {w : World} {x : Int} (hB : B ≤ w.heap.size) : Ints B (w.alloc (.cells #[.int .i64 x] 3)) (.slice (some ⟨w.heap.size, 0, none⟩) 1 1) [x] := World.ownsRow_lit w #[.int .i64 x] 1 hB (by unfold maxLen; omega) rfl
theorem few_32 {q : List Nat} (hd : q.Nodup) (h : ∀ t ∈ q, t < 32) : q.length ≤ 32 := by
  rw [← cnt_nodup (n := 5) h hd]
  have := cnt_not 5 (inF q)
  omega

set_option maxHeartbeats 6400000 in
set_option maxRecDepth 100000 in
theorem specSteps (v : Value) (ns : List Nat) (i0 : Nat) (w : World) (hl : ns.length ≤ 32) (h32 : ∀ t ∈ ns, t < 32) (hi : i0 < ns.length) (h : Rd w v (toI ns)) :
    Calls Try.prog 59 #[v, .int .i64 (i0 : Int)] w fun e w' => ∃ (st : Nat → Int) (a : Option Addr) (c : Nat), e = .returned (.slice a ns.length c) ∧ Ints w.heap.size w' (.slice a ns.length c) (mkL ns.length st) ∧ (∀ t, Dst (nR ns) i0 t (st t)) ∧ Below w.heap.size w w' := by
  have H := Lib.hid h
  obtain ⟨a, b, off, cap, rfl, h1, h3, h5⟩ := h
  rw [toI_length] at h1 h3 h5 H ⊢
  have HNb := Lib.hid (fun u (hu : u < ns.length) w h => specNeighbours (.slice a ns.length cap) ns u w hl h32 hu h)
  generalize hL : ns.length = L at *
  have HLl := Lib.hid hL
  clear h1 h5 h32
  have hiI : (i0 : Int) < (L : Int) := by omega
  have HRl := Lib.hid (fun j => List.length_replicate (n := j) (a := (-1 : Int)))
  have HE := Lib.hid ((Below.refl w.heap.size w).alloc (Nat.le_refl _) (Obj.cells #[] 3))
  have HP0 := Lib.hid (Ints.lit' (B := w.heap.size) (w := w) (Nat.le_refl _) rfl)
  clear hL
  go_enter Try.func59, Try.ntmps59
  go_wp2_with fail
  go_loopw [5, 6] (fun o q wr => ∃ (k : Nat) (a' : Option Addr) (c' : Nat), k ≤ L ∧ q = .int .i64 k ∧ o = .slice a' k c' ∧ Ints w.heap.size wr (.slice a' k c') (List.replicate k (-1)) ∧ Below w.heap.size w wr) (fun _ q _ => L - (intOf q).toNat)
  case atStart => exact ⟨0, _, 0, Nat.zero_le _, rfl, rfl, HP0.out, HE.out⟩
  case round =>
    obtain ⟨k, a', c', hk, rfl, rfl, hin, hbe⟩ := hrel
    have HIN := Lib.hid hin
    have HBE := Lib.hid hbe
    have hzr := hbe.size
    clear hin hbe
    by_cases hkl : k < L
    · go_wp2_with (at_builtin; go_loud (refine wpList_app rfl (.tmp 18) (.tmp 19) rfl w.heap.size _ (List.replicate k (-1)) rfl (by exact HIN.out.alloc _) _ _ _ [(-1 : Int)] rfl (src_cell (by rw [World.cell?_alloc_at _ _ _ _ (by simp)]; rfl)) (by rw [HRl.out]; omega) (by simp; omega) ?_; intro a1 c1 w3 hin3 hb3 hg3; rw [HRl.out] at hin3 ⊢; have H13 := Lib.hid (show Below w.heap.size w w3 from Below.trans (HBE.out.alloc (by omega) _) hb3); have I3 := Lib.hid hin3; clear hin3 hb3 hg3))
      go_roundw
      case rel => exact ⟨k + 1, a1, c1, by omega, by go_num, rfl, by rw [List.replicate_succ']; exact I3.out, H13.out⟩
      case measure => simp [intOf]; omega
    · obtain rfl : L = k := by omega
      obtain ⟨g, rfl, hgB, hgl⟩ := HIN.out.someAt (by omega)
      obtain ⟨hf1, hf2⟩ := HIN.out.cellAt i0 (by rw [HRl.out]; omega)
      have IO0 := Lib.hid (HIN.out.store i0 0)
      have BO0 := Lib.hid (HBE.out.setCell (p := ⟨g, i0, none⟩) hgB (.int .i64 0))
      have hsz0 : (wr.setCell ⟨g, i0, none⟩ (.int .i64 0)).heap.size = wr.heap.size := by simp [World.setCell]
      have IO1 := Lib.hid (IO0.out.alloc (.cells #[.int .i64 (i0 : Int)] 3))
      have BO1 := Lib.hid (BO0.out.alloc (by rw [hsz0]; omega) (.cells #[.int .i64 (i0 : Int)] 3))
      have IQ1 := Lib.hid (Ints.one (B := wr.heap.size) (w := wr.setCell ⟨g, i0, none⟩ (.int .i64 0)) (x := (i0 : Int)) (by rw [hsz0]; omega))
      rw [hsz0] at IQ1
      have HZ := Lib.hid (show ((wr.setCell ⟨g, i0, none⟩ (.int .i64 0)).alloc (.cells #[.int .i64 (i0 : Int)] 3)).heap.size = wr.heap.size + 1 by simp [World.setCell])
      clear hsz0
      go_wp2_with fail
      generalize (wr.setCell ⟨g, i0, none⟩ (.int .i64 0)).alloc (.cells #[.int .i64 (i0 : Int)] 3) = w2 at *
      obtain ⟨B2, hB2⟩ : ∃ B2, B2 = wr.heap.size := ⟨_, rfl⟩
      have hz2 := HZ.out
      rw [← hB2] at IQ1 hz2 hgl ⊢
      rw [mkL_rep, mkL_set] at IO1
      have hwB : w.heap.size ≤ B2 := by omega
      clear hB2 HIN HBE IO0 BO0 HZ hf1 hf2 hzr
      go_loopw [7, 8] (fun l q wr => ∃ (qs : List Nat) (j gq cq : Nat) (st : Nat → Int), l = .slice (some ⟨gq, 0, none⟩) qs.length cq ∧ q = .int .i64 j ∧ Srch (nR ns) i0 st qs j [] ∧ (∀ t ∈ qs, t < L) ∧ (∀ b, b < qs.length → st (qs.getD b 0) ≤ (b : Int)) ∧ Ints w.heap.size wr (.slice (some ⟨g, 0, none⟩) L c') (mkL L st) ∧ Ints B2 wr (.slice (some ⟨gq, 0, none⟩) qs.length cq) (toI qs) ∧ Below w.heap.size w wr ∧ B2 ≤ wr.heap.size) (fun _ q _ => 40 - (intOf q).toNat)
      case atStart =>
        refine ⟨[i0], 0, B2, 1, _, rfl, rfl, Srch.first (nR ns) i0, ?_, ?_, IO1.out, IQ1.out, BO1.out, by omega⟩
        · intro t ht
          rw [List.mem_singleton] at ht
          omega
        · intro b hb
          rw [List.length_singleton] at hb
          obtain rfl : b = 0 := by omega
          rw [show [i0].getD 0 0 = i0 from rfl, if_pos rfl]
          omega
      case round =>
        obtain ⟨qs, j, gq, cq, st, rfl, rfl, hsr, hqL, hqb, hio, hiq, hbe, hsz⟩ := hrel
        have SR := Lib.hid hsr
        have QL := Lib.hid hqL
        have QB := Lib.hid hqb
        have IO := Lib.hid hio
        have IQ := Lib.hid hiq
        have BE := Lib.hid hbe
        have hq32 := few_32 hsr.nodup (fun t ht => by have := hqL t ht; omega)
        have hjq := hsr.len
        clear hsr hqL hqb hio hiq hbe IO1 IQ1 BO1
        by_cases hjl : j < qs.length
        · have hum : qs.getD j 0 ∈ qs := getD_of_lt hjl
          have huL := QL.out _ hum
          obtain ⟨hc1, -⟩ := IQ.out.cellAt j (by rw [toI_length]; exact hjl)
          rw [toI_getD] at hc1
          have hjI : (j : Int) < (qs.length : Int) := by omega
          have HQJ := Lib.hid (show qs.getD j 0 = qs.getD j 0 from rfl)
          obtain ⟨u, hu⟩ : ∃ u, u = qs.getD j 0 := ⟨_, rfl⟩
          rw [← hu] at hc1 huL
          have HU := Lib.hid hu
          have HNu := Lib.hid (HNb.out u huL)
          have hgq := (IQ.out.lt gq rfl).1
          have hgq2 := (IQ.out.lt gq rfl).2
          clear hu hum HQJ
          go_wp2_with fail
          refine (HNu.out _ (H.out.below BE.out (Nat.le_refl _))).mono ?_
          rintro e w9 ⟨a9, c9, rfl, hin9, hb9⟩
          rw [toI_length] at hin9 ⊢
          have hz9 := hb9.size
          have IO9 := Lib.hid (IO.out.below hb9 (Nat.le_refl _))
          have IQ9 := Lib.hid (IQ.out.below hb9 (Nat.le_refl _))
          have BE9 := Lib.hid (BE.out.trans (hb9.mono BE.out.size))
          have IN9 := Lib.hid hin9
          have HNR := Lib.hid (fun v (h : v ∈ nbTo ns u L) => (nb_iff (ns := ns) (i := u) (k := v)).1 (by rw [HLl.out]; exact h))
          have HRN := Lib.hid (fun v (h : nR ns u v) => show v ∈ nbTo ns u L from by have := nb_iff.2 h; rw [HLl.out] at this; exact this)
          obtain ⟨Bn, hBn⟩ : ∃ Bn, Bn = wr.heap.size := ⟨_, rfl⟩
          rw [← hBn] at IN9 hgq2 hz9 hsz
          clear hin9 hb9 hc1 hBn
          have hNL := nbTo_len ns u L
          generalize nbTo ns u L = N at *
          go_wp2_with fail
          have HNQ := Lib.hid (toI_length N)
          go_loopw [7, 10] (fun l q wq => ∃ (ps : List Nat) (x gp cp : Nat) (su : Nat → Int), l = .slice (some ⟨gp, 0, none⟩) ps.length cp ∧ q = .int .i64 x ∧ x ≤ N.length ∧ Srch (nR ns) i0 su ps j (N.take x) ∧ (j < ps.length ∧ ps.getD j 0 = u) ∧ (∀ t ∈ ps, t < L) ∧ (∀ b, b < ps.length → su (ps.getD b 0) ≤ (b : Int)) ∧ Ints w.heap.size wq (.slice (some ⟨g, 0, none⟩) L c') (mkL L su) ∧ Ints B2 wq (.slice (some ⟨gp, 0, none⟩) ps.length cp) (toI ps) ∧ Ints Bn wq (.slice a9 N.length c9) (toI N) ∧ (Value.slice a9 N.length c9).ownBlock ≠ some gp ∧ Below w.heap.size w wq ∧ Bn ≤ wq.heap.size) (fun _ q _ => N.length - (intOf q).toNat)
          case atStart => exact ⟨qs, 0, gq, cq, st, rfl, rfl, Nat.zero_le _, SR.out, ⟨hjl, HU.out.symm⟩, QL.out, QB.out, IO9.out, IQ9.out, IN9.out, fun e => by have := (IN9.out.lt gq e).1; omega, BE9.out, hz9⟩
          case round =>
            obtain ⟨ps, x, gp, cp, su, rfl, rfl, hx, hsr, ⟨hjp, hju⟩, hpL, hpb, hio, hiq, hin, hap, hbe, hsz3⟩ := hrel
            have SR2 := Lib.hid hsr
            have PL := Lib.hid hpL
            have PB := Lib.hid hpb
            have IO2 := Lib.hid hio
            have IQ2 := Lib.hid hiq
            have IN2 := Lib.hid hin
            have AP := Lib.hid hap
            have BE2 := Lib.hid hbe
            have JU := Lib.hid hju
            have hp32 := few_32 hsr.nodup (fun t ht => by have := hpL t ht; omega)
            clear hsr hju hpL hpb hio hiq hin hap hbe SR QL QB IO IQ BE IO9 IQ9 BE9 IN9
            by_cases hxl : x < N.length
            · obtain ⟨g9, rfl, hg9, hg9l⟩ := IN2.out.someAt (by omega)
              have hvm : N.getD x 0 ∈ N := getD_of_lt hxl
              have hRv := HNR.out _ hvm
              have hvL := hRv.1
              rw [HLl.out] at hvL
              have HT := Lib.hid (show N.take (x + 1) = N.take x ++ [N.getD x 0] from by rw [List.take_succ_eq_append_getElem hxl, List.getD_eq_getElem?_getD, List.getElem?_eq_getElem hxl]; rfl)
              obtain ⟨hcv, -⟩ := IN2.out.cellAt x (by rw [toI_length]; exact hxl)
              rw [toI_getD] at hcv
              obtain ⟨hcq, -⟩ := IQ2.out.cellAt j (by rw [toI_length]; exact hjp)
              rw [toI_getD, JU.out] at hcq
              have HRv := Lib.hid hRv
              clear hRv hvm
              generalize hve : N.getD x 0 = v at *
              have HVE := Lib.hid hve
              clear hve
              obtain ⟨hov, hfv⟩ := IO2.out.cellAt v (by rw [mkL_len]; exact hvL)
              rw [mkL_at su hvL] at hov
              obtain ⟨hou, -⟩ := IO2.out.cellAt u (by rw [mkL_len]; exact huL)
              rw [mkL_at su huL] at hou
              have hub : su u ≤ (j : Int) := by have := PB.out j hjp; rw [JU.out] at this; exact this
              have hu0 : 0 ≤ su u := by
                obtain ⟨kk, e, _⟩ := SR2.out.path u (by rw [← JU.out]; exact getD_of_lt hjp)
                omega
              have hgg : g ≠ g9 := by omega
              have hgp := (IQ2.out.lt gp rfl).1
              have hgp2 := (IQ2.out.lt gp rfl).2
              have hgg2 : g ≠ gp := by omega
              have hxI : (x : Int) < (N.length : Int) := by omega
              have hvI : (v : Int) < (L : Int) := by omega
              have huI : (u : Int) < (L : Int) := by omega
              have hjI2 : (j : Int) < (ps.length : Int) := by omega
              by_cases hneg : su v < 0
              · have hvu : v ≠ u := fun e => by rw [e] at hneg; omega
                have SV := Lib.hid (SR2.out.visit hjp (v := v) hneg (by rw [JU.out]; exact HRv.out))
                rw [JU.out] at SV
                obtain ⟨d, hd⟩ : ∃ d, d = su u + 1 := ⟨_, rfl⟩
                have hwd : IntKind.i64.wrap (su u + 1) = d := by rw [IntKind.wrap_i64]; omega
                have PB2 := Lib.hid (show ∀ b, b < (ps ++ [v]).length → (if (ps ++ [v]).getD b 0 = v then d else su ((ps ++ [v]).getD b 0)) ≤ (b : Int) from fun b hb => by
                  rw [List.length_append, List.length_singleton] at hb
                  by_cases hb2 : b < ps.length
                  · rw [app_getD hb2, if_neg (fun e => by
                      obtain ⟨kk, e2, _⟩ := SR2.out.path (ps.getD b 0) (getD_of_lt hb2)
                      rw [e] at e2
                      omega)]
                    exact PB.out b hb2
                  · obtain rfl : b = ps.length := by omega
                    rw [app_last, if_pos rfl]
                    omega)
                have PL2 := Lib.hid (show ∀ t ∈ ps ++ [v], t < L from fun t ht => by
                  rcases List.mem_append.1 ht with ht | ht
                  · exact PL.out t ht
                  · rw [List.mem_singleton] at ht; omega)
                have JU2 := Lib.hid (show j < (ps ++ [v]).length ∧ (ps ++ [v]).getD j 0 = u from ⟨by rw [List.length_append]; omega, by rw [app_getD hjp, JU.out]⟩)
                have IO3 := Lib.hid (IO2.out.store v d)
                rw [mkL_set] at IO3
                rw [← hd] at SV
                have IQ3 := Lib.hid (IQ2.out.setCell_below (a := ⟨g, v, none⟩) (by show g < B2; exact hgl) (.int .i64 d))
                have IN3 := Lib.hid (IN2.out.setCell_below (a := ⟨g, v, none⟩) (by show g < Bn; omega) (.int .i64 d))
                have BE3 := Lib.hid (BE2.out.setCell (p := ⟨g, v, none⟩) hgB (.int .i64 d))
                obtain ⟨hcv3, -⟩ := IN3.out.cellAt x (by rw [toI_length]; exact hxl)
                generalize hsu : su u = q at *
                clear hd
                go_wp2_with fail
                go_region
                replace IO3 := Lib.hid (show Ints _ (wr.setCell ⟨g, v, none⟩ (.int .i64 d)).drew _ _ from IO3.out)
                replace IQ3 := Lib.hid (show Ints _ (wr.setCell ⟨g, v, none⟩ (.int .i64 d)).drew _ _ from IQ3.out)
                replace IN3 := Lib.hid (show Ints _ (wr.setCell ⟨g, v, none⟩ (.int .i64 d)).drew _ _ from IN3.out)
                replace BE3 := Lib.hid BE3.out.drew
                have hz5 : (wr.setCell ⟨g, v, none⟩ (.int .i64 d)).drew.heap.size = wr.heap.size := by show (wr.setCell ⟨g, v, none⟩ (.int .i64 d)).heap.size = _; simp [World.setCell]
                have hcv5 : (wr.setCell ⟨g, v, none⟩ (.int .i64 d)).drew.cell? ⟨g9, x, none⟩ = some (.int .i64 ((toI N).getD x 0)) := hcv3
                rw [toI_getD, HVE.out] at hcv5
                have HV5 := Lib.hid hcv5
                clear hcv3 hov hou hcv hcq hfv hcv5
                generalize (wr.setCell ⟨g, v, none⟩ (.int .i64 d)).drew = w5 at *
                have hz6 : B2 ≤ w5.heap.size := by omega
                have hz7 : g9 < w5.heap.size := by omega
                have hz8 : Bn ≤ w5.heap.size := by omega
                have hcv := HV5.out
                clear hz5
                go_wp2_with (at_builtin; go_loud (refine wpList_app1 rfl (.tmp 66) (.tmp 71) rfl B2 gp _ cp (toI ps) (toI_length ps) rfl (by exact IQ3.out.alloc _) _ (v : Int) rfl (by rw [World.cell?_alloc_at _ _ _ _ (by simp)]; rfl) (by omega) (by simp; omega) ?_; intro g' c7 w7 hg7 hin7 hb7 hgr7; have I7 := Lib.hid hin7; have B7 := Lib.hid hb7; have G7 := Lib.hid hgr7; have HG7 := Lib.hid hg7; clear hin7 hb7 hgr7 hg7))
                go_roundw
                case rel =>
                  have h7 := B7.out.size
                  simp only [World.size_alloc] at h7
                  refine ⟨ps ++ [v], x + 1, g', c7, _, ?_, by go_num, by omega, ?_, JU2.out, PL2.out, PB2.out, (IO3.out.alloc _).kept G7.out (.inr ?_), ?_, (IN3.out.alloc _).kept G7.out (.inr AP.out), ?_, (BE3.out.alloc (by omega) _).trans (B7.out.mono hwB), by omega⟩
                  · rw [List.length_append]; rfl
                  · rw [HT.out]; exact SV.out
                  · show some g ≠ some gp
                    intro e
                    exact hgg2 (Option.some.inj e)
                  · rw [List.length_append, toI_append]; exact I7.out
                  · intro e
                    have e2 : g9 = g' := Option.some.inj e
                    rcases HG7.out with h8 | h8
                    · exact AP.out (by rw [← h8, ← e2]; rfl)
                    · simp only [World.size_alloc] at h8
                      omega
                case measure => simp [intOf]; omega
              · have SK := Lib.hid (SR2.out.skip hjp (v := v) hneg)
                rw [← HT.out] at SK
                generalize hsv : su v = q at *
                have hnegI : ¬ q < 0 := hneg
                go_wp2_with fail
                go_roundw
                case rel => exact ⟨ps, x + 1, gp, cp, su, rfl, by go_num, by omega, SK.out, ⟨hjp, JU.out⟩, PL.out, PB.out, IO2.out, IQ2.out, IN2.out, AP.out, BE2.out, hsz3⟩
                case measure => simp [intOf]; omega
            · obtain rfl : x = N.length := by omega
              have SN := Lib.hid (SR2.out.next hjp (by rw [JU.out, List.take_length]; exact HRN.out))
              go_wp2_with fail
              go_roundw
              case rel => exact ⟨ps, j + 1, gp, cp, su, rfl, by go_num, SN.out, PL.out, PB.out, IO2.out, IQ2.out, BE2.out, by omega⟩
              case measure => simp [intOf]; omega
        · obtain rfl : j = qs.length := by omega
          go_wp2_with fail
          go_ret
          exact ⟨st, _, c', rfl, IO.out, fun t => SR.out.end t, BE.out⟩

end Go.Proofs.Ytgldckgecoijfaa
