/- LearnRepresentation, the program's. Conditions: Sets, the plan and the examples are slices; the table setsWith is laid. -/
import Derived.Test.YtlnnoeicboamgaaDoorLrnM
import Derived.Test.YtlnnoeicboamgaaDoorRepH
import Derived.Test.YtlnnoeicboamgaaDoorZU
namespace Go.Proofs.YtlnnoeicboamgaaDoor
open Go.RowKit

theorem pow_or {S x : Nat} (hS : S < 32) (hx : x < 5) : wrap64 ((2 : Int) ^ x) = ((2 ^ x : Nat) : Int) ∧ bits .or .i64 (S : Int) ((2 ^ x : Nat) : Int) = ((S ||| 2 ^ x : Nat) : Int) := by
  have h2 : 2 ^ x < 32 := Nat.lt_of_lt_of_le (Nat.pow_lt_pow_right (by omega) hx) (Nat.le_refl _)
  exact ⟨(wrap_pow x (by omega)).1.trans (by simp), i64_or _ _ (by omega) (by omega)⟩

set_option maxHeartbeats 6400000 in
set_option maxRecDepth 100000 in
theorem implLrnIn (m : Nat) (v u x : Value) (ns : List Nat) (ps : List Int) (es : List (Int × Bool)) (w : World) (hc : Cls m ns) (hvs : vsB (m : Int) (toI ns) es = true) (hrp : repB (m : Int) (toI ns) ps = true) (h : Rd w v (toI ns)) (hu : Rd w u ps) (hx : RdE w x es) (hsw : SW w) :
    Calls Tryd.prog 15 #[.agg #[.int .i64 (m : Int), v], u, x] w fun e w' => e = .returned (.tuple #[.int .i64 (lrN (m : Int) (toI ns) ps es), .bool (lrB (m : Int) (toI ns) ps es)]) ∧ Below w.heap.size w w' := by
  have H := Lib.hid h
  have HU := Lib.hid hu
  have HE := Lib.hid hx
  have HSW := Lib.hid hsw
  have HVS := Lib.hid (fun w h hu => implValidSample (m : Int) v (toI ns) x es w h hu)
  have HH := Lib.hid (fun w h hu => implHolds (m : Int) v u (toI ns) ps w h hu)
  have HCo := Lib.hid (fun w h hu hs => implConsistentOf (m : Int) v (toI ns) x es w h hu hs)
  rw [hvs] at HVS
  rw [hrp] at HH
  have hO : lrO (m : Int) (toI ns) ps es = lrF (lrT ns (ps.map Int.toNat) es) ns.length := by rw [lrO, hvs, hrp, Bool.true_and, if_pos rfl, toNat_toI, toI_length]
  have hvd : vldB (m : Int) (toI ns) = true := by simp only [vsB, Bool.and_eq_true] at hvs; exact hvs.1
  have hpt : ptsTo (m : Int) es es.length = true := by simp only [vsB, Bool.and_eq_true] at hvs; exact hvs.2.2
  have h12 : es.length ≤ 12 := by simp only [vsB, Bool.and_eq_true, decide_eq_true_eq] at hvs; exact hvs.2.1
  rw [repB_in hvd, Bool.and_eq_true, decide_eq_true_eq] at hrp
  have hpl : ps.length = ns.length := hrp.1
  have hm := hc.pts
  have HPS := Lib.hid (plTo_sets hm hrp.2)
  have HN := Lib.hid (show lrN (m : Int) (toI ns) ps es = lrV (toI ns) (lrF (lrT ns (ps.map Int.toNat) es) ns.length) by rw [lrN, hO])
  have HB := Lib.hid (show lrB (m : Int) (toI ns) ps es = (lrF (lrT ns (ps.map Int.toNat) es) ns.length).isSome by rw [lrB, hO])
  rw [show conN (m : Int) (toI ns) es = (m : Int) by rw [conN, if_pos hvs], show conL (m : Int) (toI ns) es = toI (nowTo ns es es.length) by rw [conL, if_pos hvs, toNat_toI]] at HCo
  have HFa := Lib.hid (fun v w h => implFamilyOf (m : Int) v (nowTo ns es es.length) (fun t ht => hc.lt32 t ((nowTo_sub ns es es.length).1 t ht)) w h)
  have HTst := Lib.hid (fun j hj => fm_test (nowTo ns es es.length) (j := j) hj)
  have H32 := Lib.hid hc.lt32
  have HSl := Lib.hid (fun k hk => seen_lt (show (m : Int) ≤ 5 by omega) hpt k hk)
  have HP := Lib.hid hpt
  have hS32 := seen_lt (show (m : Int) ≤ 5 by omega) hpt es.length (Nat.le_refl _)
  have HTT := Lib.hid (fun i => show lrT ns (ps.map Int.toNat) es i = (decide (ns.getD i 0 ∈ nowTo ns es es.length) && decide ((ps.map Int.toNat).getD i 0 &&& seenTo es es.length = (ps.map Int.toNat).getD i 0)) from rfl)
  have hl32 := hc.length
  obtain ⟨a, b, off, cap, rfl, h1, _, h5⟩ := h
  obtain ⟨a2, b2, off2, cap2, rfl, p1, _, p5⟩ := hu
  obtain ⟨a3, b3, off3, cap3, rfl, e1, _, e5⟩ := hx
  rw [toI_length] at *
  rw [hpl] at *
  have H1 := Lib.hid h1
  have H5 := Lib.hid h5
  have P1 := Lib.hid p1
  have P5 := Lib.hid p5
  have E1 := Lib.hid e1
  have E5 := Lib.hid e5
  have X0 := Lib.hid ((Bx.new (m : Int) (.slice a ns.length cap) w).alloc (Obj.cells #[.int .i64 (m : Int), .slice a ns.length cap, .slice a2 ns.length cap2] 69))
  have R0 := Lib.hid (show Rpb (m : Int) (.slice a ns.length cap) (.slice a2 ns.length cap2) (w.heap.size + 1) ((w.alloc (Obj.cells #[.int .i64 (m : Int), .slice a ns.length cap] 30)).alloc (Obj.cells #[.int .i64 (m : Int), .slice a ns.length cap, .slice a2 ns.length cap2] 69)) from heap_alloc_at (by simp))
  have B0 := Lib.hid (show Below w.heap.size w ((w.alloc (Obj.cells #[.int .i64 (m : Int), .slice a ns.length cap] 30)).alloc (Obj.cells #[.int .i64 (m : Int), .slice a ns.length cap, .slice a2 ns.length cap2] 69)) from ((Below.refl _ _).alloc (Nat.le_refl _) _).alloc (by simp) _)
  clear h1 h5 p1 p5 e1 e5 hc hvs hrp hO hvd hpt hpl hsw
  generalize lrT ns (ps.map Int.toNat) es = T at *
  go_enter Tryd.func15, Tryd.ntmps15
  go_wp2_with fail
  generalize ((w.alloc (Obj.cells #[.int .i64 (m : Int), .slice a ns.length cap] 30)).alloc (Obj.cells #[.int .i64 (m : Int), .slice a ns.length cap, .slice a2 ns.length cap2] 69)) = w1 at *
  refine (HVS.out _ (H.out.below B0.out (Nat.le_refl _)) (HE.out.below B0.out (Nat.le_refl _))).mono ?_
  rintro e w2 ⟨rfl, hb⟩
  have X2 := Lib.hid (X0.out.next hb X0.out.lt)
  have R2 := Lib.hid (R0.out.next hb R0.out.lt)
  have B2 := Lib.hid (B0.out.trans (hb.mono B0.out.size))
  clear hb X0 R0 B0
  have c0 := X2.out.out.at0
  have c1 := X2.out.out.at1
  have d0 := R2.out.at0
  have d1 := R2.out.at1
  have d2 := R2.out.at2
  go_wp2_with fail
  refine (HH.out _ (H.out.below B2.out (Nat.le_refl _)) (HU.out.below B2.out (Nat.le_refl _))).mono ?_
  rintro e w3 ⟨rfl, hb⟩
  have X3 := Lib.hid (X2.out.next hb X2.out.lt)
  have R3 := Lib.hid (R2.out.next hb R2.out.lt)
  have B3 := Lib.hid (B2.out.trans (hb.mono B2.out.size))
  clear hb X2 R2 B2 c0 c1 d0 d1 d2
  go_wp2_with fail
  go_loopw [9, 29] (fun S i wr => ∃ k : Nat, k ≤ es.length ∧ i = .int .i64 k ∧ S = .int .i64 ((seenTo es k : Nat) : Int) ∧ Below w3.heap.size w3 wr) (fun _ i _ => es.length - (intOf i).toNat)
  case atStart => exact ⟨0, Nat.zero_le _, rfl, rfl, Below.refl _ _⟩
  case round =>
    obtain ⟨k, hk, rfl, rfl, hbe⟩ := hrel
    have BE := Lib.hid hbe
    have hz := hbe.size
    have B4 := Lib.hid (B3.out.trans (hbe.mono B3.out.size))
    clear hbe
    by_cases hlt : k < es.length
    · obtain ⟨rfl, hbl⟩ := E1.out (by omega)
      have hc0 := (B4.out.cell (p := ⟨b3, off3 + k * 2, none⟩) hbl).trans (E5.out k hlt).1
      have hc1 := (B4.out.cell (p := ⟨b3, off3 + k * 2 + 1, none⟩) hbl).trans (E5.out k hlt).2
      obtain ⟨hp0, hp1⟩ := pts_at HP.out hlt
      have HSS := Lib.hid (show seenTo es (k + 1) = seenTo es k ||| 2 ^ (es.getD k (0, false)).1.toNat from rfl)
      have hS := HSl.out k (by omega)
      obtain ⟨y, hy⟩ := Int.eq_ofNat_of_zero_le hp0
      rw [hy] at hc0 hp0 hp1 HSS
      rw [Int.toNat_natCast] at HSS
      generalize (es.getD k (0, false)).2 = lb at *
      have hy5 : y < 5 := by omega
      obtain ⟨hsh, hor⟩ := pow_or hS hy5
      generalize seenTo es k = S at *
      generalize 2 ^ y = P at *
      have hkI : (k : Int) < (es.length : Int) := by omega
      clear hy
      have EX := Lib.hid (show Below wr.heap.size wr (wr.alloc (Obj.cells #[.int .i64 (y : Int), .bool lb] 62)) from (Below.refl _ _).alloc (Nat.le_refl _) _)
      go_wp2_with fail
      go_roundw
      case rel => exact ⟨k + 1, by omega, by go_num, by rw [HSS.out], BE.out.trans (EX.out.mono hz)⟩
      case measure => simp [intOf]; omega
    · obtain rfl : k = es.length := by omega
      have X4 := Lib.hid (X3.out.next BE.out X3.out.lt)
      have R4 := Lib.hid (R3.out.next BE.out R3.out.lt)
      clear X3 R3 B3 BE
      have c0 := X4.out.out.at0
      have c1 := X4.out.out.at1
      generalize hSS : seenTo es es.length = S at *
      go_wp2_with fail
      refine (HCo.out _ (H.out.below B4.out (Nat.le_refl _)) (HE.out.below B4.out (Nat.le_refl _)) (HSW.out.next B4.out)).mono ?_
      rintro e w5 ⟨a5, c5, rfl, hin5, hb⟩
      have X5 := Lib.hid (X4.out.next hb X4.out.lt)
      have R5 := Lib.hid (R4.out.next hb R4.out.lt)
      have B5 := Lib.hid (B4.out.trans (hb.mono B4.out.size))
      have I5 := Lib.hid hin5.rd
      clear hb hin5 X4 R4 B4 c0 c1
      go_wp2_with fail
      refine (HFa.out _ _ I5.out).mono ?_
      rintro e w6 ⟨rfl, hb⟩
      have R6 := Lib.hid (R5.out.next hb R5.out.lt)
      have B6 := Lib.hid (B5.out.trans (hb.mono B5.out.size))
      clear hb X5 R5 B5 I5
      generalize nowTo ns es es.length = NW at *
      have d1 := R6.out.at1
      go_wp2_with fail
      clear d1
      go_loopw [47] (fun i wq => ∃ j : Nat, j ≤ ns.length ∧ i = .int .i64 j ∧ (∀ l, l < j → T l = false) ∧ Below w6.heap.size w6 wq) (fun i _ => ns.length - (intOf i).toNat)
      case atStart => exact ⟨0, Nat.zero_le _, rfl, fun l hl => by omega, Below.refl _ _⟩
      case round =>
        obtain ⟨j, hj, rfl, hno, hbq⟩ := hrel
        have BQ := Lib.hid hbq
        have R7 := Lib.hid (R6.out.next hbq R6.out.lt)
        have B7 := Lib.hid (B6.out.trans (hbq.mono B6.out.size))
        clear hbq
        by_cases hjl : j < ns.length
        · obtain ⟨rfl, hbl⟩ := H1.out (by omega)
          obtain ⟨rfl, pbl⟩ := P1.out (by omega)
          have hc1 := (B7.out.cell (p := ⟨b, off + j, none⟩) hbl).trans (H5.out j hjl)
          rw [toI_getD] at hc1
          obtain ⟨p, hp32, hp, _⟩ := HPS.out j hjl
          have hp1 := (B7.out.cell (p := ⟨b2, off2 + j, none⟩) pbl).trans (P5.out j hjl)
          rw [hp] at hp1
          have hTj := HTT.out j
          rw [ps_getD hp] at hTj
          have hs32 := H32.out _ (getD_of_lt hjl)
          have hlook := HTst.out _ hs32
          have hgs := toI_getD ns j
          have hand := lr_andNot0 ⟨p, hp32⟩ ⟨S, hS32⟩
          dsimp only at hand
          generalize ns.getD j 0 = s at *
          generalize decide (p &&& S = p) = cc at *
          generalize hdm : decide (s ∈ NW) = dm at *
          have hjI : (j : Int) < (ns.length : Int) := by omega
          have d1 := R7.out.at1
          have d2 := R7.out.at2
          have hF0 : 0 ≤ fm NW := by unfold fm; omega
          have hF1 : fm NW < 4294967296 := by unfold fm; have := (famB NW).isLt; omega
          generalize fm NW = FN at *
          cases dm with
          | false =>
            rw [Bool.false_and] at hTj
            rw [if_neg (by decide)] at hlook
            go_wp2_with fail
            go_roundw
            case rel => exact ⟨j + 1, by omega, by go_num, fun l hl => by
              by_cases e : l = j
              · subst e; exact hTj
              · exact hno l (by omega), BQ.out⟩
            case measure => simp [intOf]; omega
          | true =>
            rw [Bool.true_and] at hTj
            rw [if_pos rfl] at hlook
            cases cc with
            | false =>
              go_wp2_with fail
              go_roundw
              case rel => exact ⟨j + 1, by omega, by go_num, fun l hl => by
                by_cases e : l = j
                · subst e; exact hTj
                · exact hno l (by omega), BQ.out⟩
              case measure => simp [intOf]; omega
            | true =>
              have hF := lrF_some hjl hTj hno
              have HN2 := Lib.hid (HN.out)
              have HB2 := Lib.hid (HB.out)
              rw [hF] at HN2 HB2
              go_wp2_with fail
              refine bodyPost_ret (v := .tuple #[.int .i64 (s : Int), .bool true]) (by simp [results, Tryd.results15, go_sem]) rfl ?_
              refine ⟨?_, B7.out⟩
              rw [HN2.out, HB2.out, ← hgs]
              rfl
        · obtain rfl : j = ns.length := by omega
          have hF := lrF_none hno
          have HN2 := Lib.hid (HN.out)
          have HB2 := Lib.hid (HB.out)
          rw [hF] at HN2 HB2
          go_wp2_with fail
          refine bodyPost_ret (v := .tuple #[.int .i64 0, .bool false]) (by simp [results, Tryd.results15, go_sem]) rfl ?_
          refine ⟨?_, B7.out⟩
          rw [HN2.out, HB2.out]
          rfl

set_option maxHeartbeats 3200000 in
set_option maxRecDepth 100000 in
theorem implLrnNo (n : Int) (v u x : Value) (zs ps : List Int) (es : List (Int × Bool)) (w : World) (hk : (vsB n zs es && repB n zs ps) = false) (h : Rd w v zs) (hu : Rd w u ps) (hx : RdE w x es) :
    Calls Tryd.prog 15 #[.agg #[.int .i64 n, v], u, x] w fun e w' => e = .returned (.tuple #[.int .i64 (lrN n zs ps es), .bool (lrB n zs ps es)]) ∧ Below w.heap.size w w' := by
  have H := Lib.hid h
  have HU := Lib.hid hu
  have HE := Lib.hid hx
  have HVS := Lib.hid (fun w h hu => implValidSample n v zs x es w h hu)
  have HH := Lib.hid (fun w h hu => implHolds n v u zs ps w h hu)
  rw [show lrN n zs ps es = 0 by rw [lrN, lrO, hk, if_neg (by decide)]; rfl, show lrB n zs ps es = false by rw [lrB, lrO, hk, if_neg (by decide)]; rfl]
  obtain ⟨a, b, off, cap, rfl, _, _, _⟩ := h
  obtain ⟨a2, b2, off2, cap2, rfl, _, _, _⟩ := hu
  obtain ⟨a3, b3, off3, cap3, rfl, _, _, _⟩ := hx
  have X0 := Lib.hid ((Bx.new n (.slice a zs.length cap) w).alloc (Obj.cells #[.int .i64 n, .slice a zs.length cap, .slice a2 ps.length cap2] 69))
  have R0 := Lib.hid (show Rpb n (.slice a zs.length cap) (.slice a2 ps.length cap2) (w.heap.size + 1) ((w.alloc (Obj.cells #[.int .i64 n, .slice a zs.length cap] 30)).alloc (Obj.cells #[.int .i64 n, .slice a zs.length cap, .slice a2 ps.length cap2] 69)) from heap_alloc_at (by simp))
  have B0 := Lib.hid (show Below w.heap.size w ((w.alloc (Obj.cells #[.int .i64 n, .slice a zs.length cap] 30)).alloc (Obj.cells #[.int .i64 n, .slice a zs.length cap, .slice a2 ps.length cap2] 69)) from ((Below.refl _ _).alloc (Nat.le_refl _) _).alloc (by simp) _)
  go_enter Tryd.func15, Tryd.ntmps15
  go_wp2_with fail
  generalize ((w.alloc (Obj.cells #[.int .i64 n, .slice a zs.length cap] 30)).alloc (Obj.cells #[.int .i64 n, .slice a zs.length cap, .slice a2 ps.length cap2] 69)) = w1 at *
  refine (HVS.out _ (H.out.below B0.out (Nat.le_refl _)) (HE.out.below B0.out (Nat.le_refl _))).mono ?_
  rintro e w2 ⟨rfl, hb⟩
  have R2 := Lib.hid (R0.out.next hb R0.out.lt)
  have B2 := Lib.hid (B0.out.trans (hb.mono B0.out.size))
  clear hb X0 R0 B0
  have d0 := R2.out.at0
  have d1 := R2.out.at1
  have d2 := R2.out.at2
  cases hv : vsB n zs es with
  | false =>
    clear hv hk
    go_wp2_with fail
    refine bodyPost_ret (v := .tuple #[.int .i64 0, .bool false]) (by simp [results, Tryd.results15, go_sem]) rfl ?_
    exact ⟨rfl, B2.out⟩
  | true =>
    rw [hv, Bool.true_and] at hk
    rw [hk] at HH
    clear hv hk
    go_wp2_with fail
    refine (HH.out _ (H.out.below B2.out (Nat.le_refl _)) (HU.out.below B2.out (Nat.le_refl _))).mono ?_
    rintro e w3 ⟨rfl, hb⟩
    have B3 := Lib.hid (B2.out.trans (hb.mono B2.out.size))
    clear hb
    go_wp2_with fail
    refine bodyPost_ret (v := .tuple #[.int .i64 0, .bool false]) (by simp [results, Tryd.results15, go_sem]) rfl ?_
    exact ⟨rfl, B3.out⟩
theorem implLearnRepresentation (n : Int) (v u x : Value) (zs ps : List Int) (es : List (Int × Bool)) (w : World) (h : Rd w v zs) (hu : Rd w u ps) (hx : RdE w x es) (hsw : SW w) :
    Calls Tryd.prog 15 #[.agg #[.int .i64 n, v], u, x] w fun e w' => e = .returned (.tuple #[.int .i64 (lrN n zs ps es), .bool (lrB n zs ps es)]) ∧ Below w.heap.size w w' := by
  cases hk : (vsB n zs es && repB n zs ps) with
  | false => exact implLrnNo n v u x zs ps es w hk h hu hx
  | true =>
    rw [Bool.and_eq_true] at hk
    have hvd : vldB n zs = true := by have := hk.1; simp only [vsB, Bool.and_eq_true] at this; exact this.1
    obtain ⟨m, ns, rfl, rfl, hc⟩ := vldB_cls hvd
    exact implLrnIn m v u x ns ps es w hc hk.1 hk.2 h hu hx hsw

end Go.Proofs.YtlnnoeicboamgaaDoor
