/- LearnRepresentation, the model's. Conditions: Sets, the plan and the examples are slices. -/
import Derived.Deep.RegionHeld3
import Derived.Test.YtlnnoeicboamgaaDoorConsS
import Derived.Test.YtlnnoeicboamgaaDoorLrnM
import Derived.Test.YtlnnoeicboamgaaDoorRepS
import Derived.Test.YtlnnoeicboamgaaDoorZA
namespace Go.Proofs.YtlnnoeicboamgaaDoor
open Go.RowKit

theorem now_one (s : Nat) (es : List (Int × Bool)) : ∀ k, nowTo [s] es k = if decide (s ∈ nowTo [s] es k) = true then [s] else []
  | 0 => by simp [nowTo]
  | k + 1 => by
    rw [nowTo]
    generalize es.getD k (0, false) = e
    have ih := now_one s es k
    generalize nowTo [s] es k = l at *
    by_cases h : s ∈ l
    · rw [decide_eq_true h, if_pos rfl] at ih
      subst ih
      unfold kp
      cases hh : (hasX e.1.toNat s == e.2) <;> simp [hh]
    · rw [decide_eq_false h, if_neg (by decide)] at ih
      subst ih
      simp [kp]
theorem now_len {ns : List Nat} {s : Nat} (hs : s ∈ ns) (es : List (Int × Bool)) (k : Nat) : (toI (nowTo [s] es k)).length = if decide (s ∈ nowTo ns es k) = true then 1 else 0 := by
  have e : decide (s ∈ nowTo [s] es k) = decide (s ∈ nowTo ns es k) := by
    rw [decide_eq_decide, mem_now2, mem_now2]
    simp [hs]
  rw [toI_length, now_one, ← e]
  split <;> rfl

set_option maxHeartbeats 12800000 in
set_option maxRecDepth 100000 in
theorem specLrnIn (m : Nat) (v u x : Value) (ns : List Nat) (ps : List Int) (es : List (Int × Bool)) (w : World) (hc : Cls m ns) (hvs : vsB (m : Int) (toI ns) es = true) (hrp : repB (m : Int) (toI ns) ps = true) (h : Rd w v (toI ns)) (hu : Rd w u ps) (hx : RdE w x es) :
    Calls Tryd.prog 11 #[.agg #[.int .i64 (m : Int), v], u, x] w fun e w' => e = .returned (.tuple #[.int .i64 (lrN (m : Int) (toI ns) ps es), .bool (lrB (m : Int) (toI ns) ps es)]) ∧ Below w.heap.size w w' := by
  have H := Lib.hid h
  have HU := Lib.hid hu
  have HE := Lib.hid hx
  have hm := hc.pts
  have hO : lrO (m : Int) (toI ns) ps es = lrF (lrT ns (ps.map Int.toNat) es) ns.length := by rw [lrO, hvs, hrp, Bool.true_and, if_pos rfl, toNat_toI, toI_length]
  have hvd : vldB (m : Int) (toI ns) = true := by simp only [vsB, Bool.and_eq_true] at hvs; exact hvs.1
  have hpt : ptsTo (m : Int) es es.length = true := by simp only [vsB, Bool.and_eq_true] at hvs; exact hvs.2.2
  have h12 : es.length ≤ 12 := by simp only [vsB, Bool.and_eq_true, decide_eq_true_eq] at hvs; exact hvs.2.1
  have HV := Lib.hid (fun w h => specValid (m : Int) v (toI ns) w h)
  have HVP := Lib.hid (fun w h hu => specValidPlan m hm v u ns ps w h hu hc.lt32)
  have HVS := Lib.hid (fun w h => specSample m hm x es w h)
  rw [hvd] at HV
  rw [hpt, decide_eq_true h12, Bool.true_and] at HVS
  rw [repB_in hvd] at hrp
  rw [hrp] at HVP
  rw [Bool.and_eq_true, decide_eq_true_eq] at hrp
  have hpl : ps.length = ns.length := hrp.1
  have HPS := Lib.hid (plTo_sets hm hrp.2)
  have HN := Lib.hid (show lrN (m : Int) (toI ns) ps es = lrV (toI ns) (lrF (lrT ns (ps.map Int.toNat) es) ns.length) by rw [lrN, hO])
  have HB := Lib.hid (show lrB (m : Int) (toI ns) ps es = (lrF (lrT ns (ps.map Int.toNat) es) ns.length).isSome by rw [lrB, hO])
  have H32 := Lib.hid hc.lt32
  have HP := Lib.hid hpt
  have HSP := Lib.hid (seen_sp hm hpt)
  have hS32 := seen_lt (show (m : Int) ≤ 5 by omega) hpt es.length (Nat.le_refl _)
  have HTT := Lib.hid (fun i => show lrT ns (ps.map Int.toNat) es i = (decide (ns.getD i 0 ∈ nowTo ns es es.length) && decide ((ps.map Int.toNat).getD i 0 &&& seenTo es es.length = (ps.map Int.toNat).getD i 0)) from rfl)
  have HKK := Lib.hid (fun s (hs : s < 32) v w h hu => specKeepAll m hm 0 v [s] x es (by simp) (fun t ht => by rw [List.mem_singleton] at ht; omega) hpt h12 w h hu)
  have HNL := Lib.hid (fun s (hs : s ∈ ns) => now_len hs es es.length)
  have HPW := Lib.hid (fun (y : Nat) (hy : y < 5) w0 => (specPower (y : Int) w0 (by omega) (by omega)).mono fun e w' h => And.intro h.1 h.2.symm)
  have hl32 := hc.length
  obtain ⟨a, b, off, cap, rfl, h1, _, h5⟩ := h
  obtain ⟨a2, b2, off2, cap2, rfl, p1, _, p5⟩ := hu
  obtain ⟨a3, b3, off3, cap3, rfl, e1, _, e5⟩ := hx
  rw [toI_length] at *
  rw [hpl] at *
  have H1 := Lib.hid h1
  have H5 := Lib.hid h5
  have P1 := Lib.hid p1
  have P5 := Lib.hid p5
  have E1 := Lib.hid e1
  have E5 := Lib.hid e5
  have X0 := Lib.hid (Bx.new (m : Int) (.slice a ns.length cap) w)
  have B0 := Lib.hid (show Below w.heap.size w (w.alloc (Obj.cells #[.int .i64 (m : Int), .slice a ns.length cap] 30)) from (Below.refl _ _).alloc (Nat.le_refl _) _)
  clear h1 h5 p1 p5 e1 e5 hc hvs hrp hO hvd hpt hpl
  generalize lrT ns (ps.map Int.toNat) es = T at *
  go_enter Tryd.func11, Tryd.ntmps11
  go_wp2_with fail
  generalize (w.alloc (Obj.cells #[.int .i64 (m : Int), .slice a ns.length cap] 30)) = w1 at *
  refine (HV.out _ (H.out.below B0.out (Nat.le_refl _))).mono ?_
  rintro e w2 ⟨rfl, hb⟩
  have X1 := Lib.hid (X0.out.next hb X0.out.lt)
  have B1 := Lib.hid (B0.out.trans (hb.mono B0.out.size))
  clear hb X0 B0
  have c0 := X1.out.out.at0
  have c1 := X1.out.out.at1
  go_wp2_with fail
  clear c0 c1
  refine (HVP.out _ (H.out.below B1.out (Nat.le_refl _)) (HU.out.below B1.out (Nat.le_refl _))).mono ?_
  rintro e w3 ⟨rfl, hb⟩
  have X2 := Lib.hid (X1.out.next hb X1.out.lt)
  have B2 := Lib.hid (B1.out.trans (hb.mono B1.out.size))
  clear hb X1 B1
  have c0 := X2.out.out.at0
  have c1 := X2.out.out.at1
  go_wp2_with fail
  clear c0 c1
  refine (HVS.out _ (HE.out.below B2.out (Nat.le_refl _))).mono ?_
  rintro e w9 ⟨rfl, hw9⟩
  subst w9
  go_wp2_with fail
  go_loopw [8, 9] (fun S i wr => ∃ y : Nat, y ≤ m ∧ i = .int .i64 y ∧ S = .int .i64 ((spP (ptIn es es.length) y : Nat) : Int) ∧ Below w3.heap.size w3 wr) (fun _ i _ => m - (intOf i).toNat)
  case atStart => exact ⟨0, Nat.zero_le _, rfl, rfl, Below.refl _ _⟩
  case round =>
    obtain ⟨y, hy, rfl, rfl, hbe⟩ := hrel
    have BE := Lib.hid hbe
    have hz := hbe.size
    have X4 := Lib.hid (X2.out.next hbe X2.out.lt)
    have B4 := Lib.hid (B2.out.trans (hbe.mono B2.out.size))
    clear hbe
    have c0 := X4.out.out.at0
    have c1 := X4.out.out.at1
    by_cases hym : y < m
    · have hymI : (y : Int) < (m : Int) := by omega
      have hy5 : y < 5 := by omega
      have hsl := spP_lt (ptIn es es.length) y
      have h2y : 2 ^ y ≤ 16 := Nat.pow_le_pow_right (by omega) (show y ≤ 4 by omega)
      have HSS := Lib.hid (show spP (ptIn es es.length) (y + 1) = spP (ptIn es es.length) y + if ptIn es es.length y = true then 2 ^ y else 0 from rfl)
      obtain ⟨q1, q2, q3, -⟩ := top_bits ⟨y, hy5⟩ ⟨spP (ptIn es es.length) y, by omega⟩ hsl
      dsimp only at q1 q2 q3
      generalize hS0 : spP (ptIn es es.length) y = S0 at *
      have HH1 := Lib.hid (fun w => specHas S0 y (by omega) hy5 w)
      have HH2 := Lib.hid (fun w => specHas (S0 + 2 ^ y) y (by omega) hy5 w)
      rw [q1] at HH1
      rw [q2] at HH2
      have HPy := Lib.hid (HPW.out y hy5)
      have hqI : (2 : Int) ^ y = ((2 ^ y : Nat) : Int) := by simp
      rw [Int.toNat_natCast, hqI] at HPy
      have hsum : IntKind.i64.wrap ((S0 : Int) + ((2 ^ y : Nat) : Int)) = ((S0 + 2 ^ y : Nat) : Int) := by rw [IntKind.wrap_i64]; omega
      obtain ⟨S1, hS1⟩ : ∃ S1, S1 = S0 + 2 ^ y := ⟨_, rfl⟩
      rw [← hS1] at hsum HH2
      have HS1 := Lib.hid hS1
      generalize 2 ^ y = PW at *
      clear hS1 hqI q1 q2 q3 hsl h2y hS0
      go_wp2_with fail
      clear c0 c1
      go_loopw [8, 10] (fun S i wq => ∃ k : Nat, k ≤ es.length ∧ i = .int .i64 k ∧ S = .int .i64 (((if ptIn es k y = true then S1 else S0) : Nat) : Int) ∧ Below w3.heap.size w3 wq) (fun _ i _ => es.length - (intOf i).toNat)
      case atStart => exact ⟨0, Nat.zero_le _, rfl, rfl, BE.out⟩
      case round =>
        obtain ⟨k, hk, rfl, rfl, hbf⟩ := hrel
        have BF := Lib.hid hbf
        have B5 := Lib.hid (B2.out.trans (hbf.mono B2.out.size))
        clear hbf
        by_cases hkl : k < es.length
        · have hkI : (k : Int) < (es.length : Int) := by omega
          obtain ⟨rfl, hbl⟩ := E1.out (by omega)
          have hc0 := (B5.out.cell (p := ⟨b3, off3 + k * 2, none⟩) hbl).trans (E5.out k hkl).1
          have hps := ptIn_succ es k y
          generalize (es.getD k (0, false)).1 = z at *
          obtain ⟨N1, hN1⟩ : ∃ N1, N1 = ptIn es (k + 1) y := ⟨_, rfl⟩
          have HN1 := Lib.hid hN1
          rw [← hN1] at hps
          clear hN1
          generalize ptIn es k y = N0 at *
          by_cases hzy : z = (y : Int)
          · rw [decide_eq_true hzy, Bool.or_true] at hps
            subst hzy
            cases N0 with
            | true =>
              go_wp2_with fail
              refine (HH2.out _).mono ?_
              rintro e w9 ⟨rfl, hw9⟩
              subst w9
              go_wp2_with fail
              go_roundw
              case rel => exact ⟨k + 1, by omega, by go_num, by rw [← HN1.out, hps]; rfl, BF.out⟩
              case measure => simp [intOf]; omega
            | false =>
              go_wp2_with fail
              refine (HH1.out _).mono ?_
              rintro e w9 ⟨rfl, hw9⟩
              subst w9
              go_wp2_with fail
              refine (HPy.out _).mono ?_
              rintro e w9 ⟨rfl, hw9⟩
              subst w9
              go_wp2_with fail
              go_roundw
              case rel => exact ⟨k + 1, by omega, by go_num, by rw [← HN1.out, hps]; rfl, BF.out⟩
              case measure => simp [intOf]; omega
          · rw [decide_eq_false hzy, Bool.or_false] at hps
            have hzb : (z == (y : Int)) = false := by simp; exact hzy
            go_wp2_with fail
            go_roundw
            case rel => exact ⟨k + 1, by omega, by go_num, by rw [← HN1.out, hps], BF.out⟩
            case measure => simp [intOf]; omega
        · obtain rfl : k = es.length := by omega
          go_wp2_with fail
          go_roundw
          case rel => exact ⟨y + 1, by omega, by go_num, by rw [HSS.out]; have h1 := HS1.out; cases ptIn es es.length y <;> simp [h1], BF.out⟩
          case measure => simp [intOf]; omega
    · obtain rfl : m = y := by omega
      have hymI : ¬ (m : Int) < (m : Int) := by omega
      rw [HSP.out]
      generalize hSS : seenTo es es.length = S at *
      have hsI : ∀ p : Nat, p < 32 → Calls Tryd.prog 42 #[.int .i64 (p : Int), .int .i64 (S : Int)] wr (fun e w' => e = .returned (.int .i64 ((p &&& S : Nat) : Int)) ∧ wr = w') := fun p hp => specMeet p S (by omega) (by omega) wr
      clear hsI
      go_wp2_with fail
      clear c0 c1
      go_loopw [11] (fun i wq => ∃ j : Nat, j ≤ ns.length ∧ i = .int .i64 j ∧ (∀ l, l < j → T l = false) ∧ Below w3.heap.size w3 wq) (fun i _ => ns.length - (intOf i).toNat)
      case atStart => exact ⟨0, Nat.zero_le _, rfl, fun l hl => by omega, BE.out⟩
      case round =>
        obtain ⟨j, hj, rfl, hno, hbq⟩ := hrel
        have BQ := Lib.hid hbq
        have hzq := hbq.size
        have X7 := Lib.hid (X2.out.next hbq X2.out.lt)
        have B7 := Lib.hid (B2.out.trans (hbq.mono B2.out.size))
        clear hbq
        have c0 := X7.out.out.at0
        have c1 := X7.out.out.at1
        by_cases hjl : j < ns.length
        · obtain ⟨rfl, hbl⟩ := H1.out (by omega)
          obtain ⟨rfl, pbl⟩ := P1.out (by omega)
          have hc1 := (B7.out.cell (p := ⟨b, off + j, none⟩) hbl).trans (H5.out j hjl)
          rw [toI_getD] at hc1
          obtain ⟨p, hp32, hp, _⟩ := HPS.out j hjl
          have hp1 := (B7.out.cell (p := ⟨b2, off2 + j, none⟩) pbl).trans (P5.out j hjl)
          rw [hp] at hp1
          have hTj := HTT.out j
          rw [ps_getD hp] at hTj
          have hsm := getD_of_lt hjl
          have hs32 := H32.out _ hsm
          have hgs := toI_getD ns j
          have HL1 := Lib.hid (HNL.out _ hsm)
          have HKe := Lib.hid (HKK.out _ hs32)
          have HMe := Lib.hid (fun w => specMeet p S (by omega) (by omega) w)
          have hbw : b < wr.heap.size := Nat.lt_of_lt_of_le hbl B7.out.size
          have hpw : b2 < wr.heap.size := Nat.lt_of_lt_of_le pbl B7.out.size
          generalize ns.getD j 0 = s at *
          generalize hdm : decide (s ∈ nowTo ns es es.length) = dm at *
          have hjI : (j : Int) < (ns.length : Int) := by omega
          have SS := Lib.hid (show ∀ w', Below wr.heap.size wr w' → (fun w' => (w'.cell? ⟨w.heap.size, 0, none⟩ = some (.int .i64 (m : Int)) ∧ w'.cell? ⟨w.heap.size, 1, none⟩ = some (.slice (some ⟨b, off, none⟩) ns.length cap)) ∧ w'.cell? ⟨b2, off2 + j, none⟩ = some (.int .i64 (p : Int)) ∧ w'.cell? ⟨b, off + j, none⟩ = some (.int .i64 (s : Int))) w' from fun w' hb => ⟨⟨(X7.out.next hb X7.out.lt).out.at0, (X7.out.next hb X7.out.lt).out.at1⟩, (hb.cell (p := ⟨b2, off2 + j, none⟩) hpw).trans hp1, (hb.cell (p := ⟨b, off + j, none⟩) hbw).trans hc1⟩)
          by_cases hcc : p &&& S = p
          · rw [decide_eq_true hcc, Bool.and_true] at hTj
            rw [hcc] at HMe
            clear hcc
            cases dm with
            | false =>
              rw [if_neg (by decide)] at HL1
              go_wp2_with fail
              clear c0 c1 hc1 hp1
              refine wp_region_held_drew (S := fun w' => (w'.cell? ⟨w.heap.size, 0, none⟩ = some (.int .i64 (m : Int)) ∧ w'.cell? ⟨w.heap.size, 1, none⟩ = some (.slice (some ⟨b, off, none⟩) ns.length cap)) ∧ w'.cell? ⟨b2, off2 + j, none⟩ = some (.int .i64 (p : Int)) ∧ w'.cell? ⟨b, off + j, none⟩ = some (.int .i64 (s : Int))) (by kernel_rfl) (by exact SS.out _ ((Below.refl _ _).drew)) (fun hHeld => ?_)
              have BV := Lib.hid (show Below wr.heap.size wr wr.drew from (Below.refl _ _).drew)
              generalize wr.drew = v0 at *
              refine wpAnyH_take (i := 0) (v := ?_) rfl (by kernel_rfl) (by kernel_rfl) (by kernel_rfl) (fun _ _ _ h => h) (Or.inl ⟨by rfl, ?_⟩) (by assumption) ?_
              rotate_left
              · (intro w hSw; (try dsimp only at hSw); go_simp; try with_reducible rfl)
              try simp only [List.getElem_toArray, List.getElem_cons_zero, Act.put, List.setIfInBounds_toArray, List.set_cons_zero, List.set_cons_succ]
              refine wpAnyH_take (i := 1) (v := ?_) rfl (by kernel_rfl) (by kernel_rfl) (by kernel_rfl) (fun _ _ _ h => h) (Or.inl ⟨by rfl, ?_⟩) (by assumption) ?_
              rotate_left
              · (intro w hSw; (try dsimp only at hSw); go_simp; try with_reducible rfl)
              try simp only [List.getElem_toArray, List.getElem_cons_zero, List.getElem_cons_succ, Act.put, List.setIfInBounds_toArray, List.set_cons_zero, List.set_cons_succ]
              refine wpAnyH_take (i := 2) (v := ?_) rfl (by kernel_rfl) (by kernel_rfl) (by kernel_rfl) (fun _ _ _ h => h) (Or.inl ⟨by rfl, ?_⟩) (by assumption) ?_
              rotate_left
              · (intro w hSw; (try dsimp only at hSw); go_simp; try with_reducible rfl)
              try simp only [List.getElem_toArray, List.getElem_cons_zero, List.getElem_cons_succ, Act.put, List.setIfInBounds_toArray, List.set_cons_zero, List.set_cons_succ]
              refine wpAnyH_take (i := 3) (v := ?_) rfl (by kernel_rfl) (by kernel_rfl) (by kernel_rfl) (fun _ _ _ h => h) (Or.inl ⟨by rfl, ?_⟩) (by assumption) ?_
              rotate_left
              · (intro w hSw; (try dsimp only at hSw); go_simp; try with_reducible rfl)
              try simp only [List.getElem_toArray, List.getElem_cons_zero, List.getElem_cons_succ, Act.put, List.setIfInBounds_toArray, List.set_cons_zero, List.set_cons_succ]
              refine wpAnyH_take (i := 4) (v := ?_) rfl (by kernel_rfl) (by kernel_rfl) (by kernel_rfl) (fun _ _ _ h => h) (Or.inl ⟨by rfl, ?_⟩) (by assumption) ?_
              rotate_left
              · (intro w hSw; (try dsimp only at hSw); go_simp; try with_reducible rfl)
              try simp only [List.getElem_toArray, List.getElem_cons_zero, List.getElem_cons_succ, Act.put, List.setIfInBounds_toArray, List.set_cons_zero, List.set_cons_succ]
              refine wpAnyH_take (i := 6) (v := ?_) rfl (by kernel_rfl) (by kernel_rfl) (by kernel_rfl) (fun _ _ _ h => h) (Or.inl ⟨by rfl, ?_⟩) (by assumption) ?_
              rotate_left
              · (intro w hSw; (try dsimp only at hSw); go_simp; try with_reducible rfl)
              try simp only [List.getElem_toArray, List.getElem_cons_zero, List.getElem_cons_succ, Act.put, List.setIfInBounds_toArray, List.set_cons_zero, List.set_cons_succ]
              refine wpAnyH_take (i := 7) (v := ?_) rfl (by kernel_rfl) (by kernel_rfl) (by kernel_rfl) (fun _ _ _ h => h) (Or.inl ⟨by rfl, ?_⟩) (by assumption) ?_
              rotate_left
              · (intro w hSw; (try dsimp only at hSw); go_simp; try with_reducible rfl)
              try simp only [List.getElem_toArray, List.getElem_cons_zero, List.getElem_cons_succ, Act.put, List.setIfInBounds_toArray, List.set_cons_zero, List.set_cons_succ]
              refine wpAnyH_take (i := 8) (v := ?_) rfl (by kernel_rfl) (by kernel_rfl) (by kernel_rfl) (fun _ _ _ h => h) (Or.inl ⟨by rfl, ?_⟩) (by assumption) ?_
              rotate_left
              · (intro w hSw; (try dsimp only at hSw); go_simp; try with_reducible rfl)
              try simp only [List.getElem_toArray, List.getElem_cons_zero, List.getElem_cons_succ, Act.put, List.setIfInBounds_toArray, List.set_cons_zero, List.set_cons_succ]
              refine wpAnyH_take (i := 9) (v := ?_) rfl (by kernel_rfl) (by kernel_rfl) (by kernel_rfl) (fun _ _ _ h => h) (Or.inl ⟨by rfl, ?_⟩) (by assumption) ?_
              rotate_left
              · (intro w hSw; (try dsimp only at hSw); go_simp; try with_reducible rfl)
              try simp only [List.getElem_toArray, List.getElem_cons_zero, List.getElem_cons_succ, Act.put, List.setIfInBounds_toArray, List.set_cons_zero, List.set_cons_succ]
              refine wpAnyH_ready (rs := [5]) (by kernel_rfl) (by simp) ?_
              refine AllReadyH.cons rfl (fun K hK => ?_) AllReadyH.nil
              try simp only [List.getElem_toArray]
              go_simp
              (go_at_call 42; refine (HMe.out _).mono ?_; rintro e w9 ⟨rfl, hw9⟩; subst w9)
              refine hK.out _ _ (by exact SS.out _ BV.out) (fun hHeld => ?_)
              clear hK K
              try simp only [List.getElem_toArray, List.getElem_cons_zero, List.getElem_cons_succ, Act.put, List.setIfInBounds_toArray, List.set_cons_zero, List.set_cons_succ]
              refine wpAnyH_take (i := 10) (v := ?_) rfl (by kernel_rfl) (by kernel_rfl) (by kernel_rfl) (fun _ _ _ h => h) (Or.inl ⟨by rfl, ?_⟩) (by assumption) ?_
              rotate_left
              · (intro w hSw; (try dsimp only at hSw); go_simp; try with_reducible rfl)
              try simp only [List.getElem_toArray, List.getElem_cons_zero, List.getElem_cons_succ, Act.put, List.setIfInBounds_toArray, List.set_cons_zero, List.set_cons_succ]
              refine wpAnyH_take (i := 11) (v := ?_) rfl (by kernel_rfl) (by kernel_rfl) (by kernel_rfl) (fun _ _ _ h => h) (Or.inl ⟨by rfl, ?_⟩) (by assumption) ?_
              rotate_left
              · (intro w hSw; (try dsimp only at hSw); go_simp; try with_reducible rfl)
              try simp only [List.getElem_toArray, List.getElem_cons_zero, List.getElem_cons_succ, Act.put, List.setIfInBounds_toArray, List.set_cons_zero, List.set_cons_succ]
              refine wpAnyH_take (i := 12) (v := ?_) rfl (by kernel_rfl) (by kernel_rfl) (by kernel_rfl) (fun _ _ _ h => h) (Or.inl ⟨by rfl, ?_⟩) (by assumption) ?_
              rotate_left
              · (intro w hSw; (try dsimp only at hSw); go_simp; try with_reducible rfl)
              try simp only [List.getElem_toArray, List.getElem_cons_zero, List.getElem_cons_succ, Act.put, List.setIfInBounds_toArray, List.set_cons_zero, List.set_cons_succ]
              refine wpAnyH_take (i := 13) (v := ?_) rfl (by kernel_rfl) (by kernel_rfl) (by kernel_rfl) (fun _ _ _ h => h) (Or.inl ⟨by rfl, ?_⟩) (by assumption) ?_
              rotate_left
              · (intro w hSw; (try dsimp only at hSw); go_simp; try with_reducible rfl)
              try simp only [List.getElem_toArray, List.getElem_cons_zero, List.getElem_cons_succ, Act.put, List.setIfInBounds_toArray, List.set_cons_zero, List.set_cons_succ]
              refine wpAnyH_take (i := 14) (v := ?_) rfl (by kernel_rfl) (by kernel_rfl) (by kernel_rfl) (fun _ _ _ h => h) (Or.inl ⟨by rfl, ?_⟩) (by assumption) ?_
              rotate_left
              · (intro w hSw; (try dsimp only at hSw); go_simp; try with_reducible rfl)
              try simp only [List.getElem_toArray, List.getElem_cons_zero, List.getElem_cons_succ, Act.put, List.setIfInBounds_toArray, List.set_cons_zero, List.set_cons_succ]
              refine wpAnyH_take (i := 15) (v := ?_) rfl (by kernel_rfl) (by kernel_rfl) (by kernel_rfl) (fun _ _ _ h => h) (Or.inl ⟨by rfl, ?_⟩) (by assumption) ?_
              rotate_left
              · (intro w hSw; (try dsimp only at hSw); go_simp; try with_reducible rfl)
              try simp only [List.getElem_toArray, List.getElem_cons_zero, List.getElem_cons_succ, Act.put, List.setIfInBounds_toArray, List.set_cons_zero, List.set_cons_succ]
              refine wpAnyH_take (i := 16) (v := ?_) rfl (by kernel_rfl) (by kernel_rfl) (by kernel_rfl) (fun _ _ _ h => h) (Or.inl ⟨by rfl, ?_⟩) (by assumption) ?_
              rotate_left
              · (intro w hSw; (try dsimp only at hSw); go_simp; try with_reducible rfl)
              try simp only [List.getElem_toArray, List.getElem_cons_zero, List.getElem_cons_succ, Act.put, List.setIfInBounds_toArray, List.set_cons_zero, List.set_cons_succ]
              refine wpAnyH_take (i := 18) (v := ?_) rfl (by kernel_rfl) (by kernel_rfl) (by kernel_rfl) (fun _ _ _ h => h) (Or.inl ⟨by rfl, ?_⟩) (by assumption) ?_
              rotate_left
              · (intro w hSw; (try dsimp only at hSw); go_simp; try with_reducible rfl)
              try simp only [List.getElem_toArray, List.getElem_cons_zero, List.getElem_cons_succ, Act.put, List.setIfInBounds_toArray, List.set_cons_zero, List.set_cons_succ]
              refine wpAnyH_ready (rs := [17]) (by kernel_rfl) (by simp) ?_
              refine AllReadyH.cons rfl (fun K hK => ?_) AllReadyH.nil
              try simp only [List.getElem_toArray]
              go_simp
              have IX := Lib.hid (show Ints 0 (v0.alloc (Obj.cells #[.int .i64 (s : Int)] 3)) (.slice (some ⟨v0.heap.size, 0, none⟩) 1 1) [(s : Int)] from World.ownsRow_lit v0 #[.int .i64 (s : Int)] 1 (Nat.zero_le _) (by unfold maxLen; omega) rfl)
              replace BV := Lib.hid (BV.out.alloc BV.out.size (Obj.cells #[.int .i64 (s : Int)] 3))
              generalize hH : v0.heap.size = HH at *
              generalize (v0.alloc (Obj.cells #[.int .i64 (s : Int)] 3)) = v1 at *
              refine hK.out _ _ (by exact SS.out _ BV.out) (fun hHeld => ?_)
              clear hK K
              try simp only [List.getElem_toArray, List.getElem_cons_zero, List.getElem_cons_succ, Act.put, List.setIfInBounds_toArray, List.set_cons_zero, List.set_cons_succ]
              refine wpAnyH_ready (rs := [19]) (by kernel_rfl) (by simp) ?_
              refine AllReadyH.cons rfl (fun K hK => ?_) AllReadyH.nil
              try simp only [List.getElem_toArray]
              go_simp
              refine (HKe.out _ _ (by exact IX.out) (by exact HE.out.below (B7.out.trans (BV.out.mono B7.out.size)) (Nat.le_refl _))).mono ?_
              rintro e v2 ⟨a9, c9, rfl, hin9, hb9⟩
              replace BV := Lib.hid (BV.out.trans (hb9.mono BV.out.size))
              rw [HL1.out] at hin9 ⊢
              clear hin9 hb9
              refine hK.out _ _ (by exact SS.out _ BV.out) (fun hHeld => ?_)
              clear hK K
              try simp only [List.getElem_toArray, List.getElem_cons_zero, List.getElem_cons_succ, Act.put, List.setIfInBounds_toArray, List.set_cons_zero, List.set_cons_succ]
              refine wpAnyH_take (i := 20) (v := ?_) rfl (by kernel_rfl) (by kernel_rfl) (by kernel_rfl) (fun _ _ _ h => h) (Or.inl ⟨by rfl, ?_⟩) (by assumption) ?_
              rotate_left
              · (intro w hSw; (try dsimp only at hSw); go_simp; try with_reducible rfl)
              try simp only [List.getElem_toArray, List.getElem_cons_zero, List.getElem_cons_succ, Act.put, List.setIfInBounds_toArray, List.set_cons_zero, List.set_cons_succ]
              refine wpAnyH_take (i := 21) (v := ?_) rfl (by kernel_rfl) (by kernel_rfl) (by kernel_rfl) (fun _ _ _ h => h) (Or.inl ⟨by rfl, ?_⟩) (by assumption) ?_
              rotate_left
              · (intro w hSw; (try dsimp only at hSw); go_simp; try with_reducible rfl)
              try simp only [List.getElem_toArray, List.getElem_cons_zero, List.getElem_cons_succ, Act.put, List.setIfInBounds_toArray, List.set_cons_zero, List.set_cons_succ]
              refine wpAnyH_take (i := 22) (v := ?_) rfl (by kernel_rfl) (by kernel_rfl) (by kernel_rfl) (fun _ _ _ h => h) (Or.inl ⟨by rfl, ?_⟩) (by assumption) ?_
              rotate_left
              · (intro w hSw; (try dsimp only at hSw); go_simp; try with_reducible rfl)
              try simp only [List.getElem_toArray, List.getElem_cons_zero, List.getElem_cons_succ, Act.put, List.setIfInBounds_toArray, List.set_cons_zero, List.set_cons_succ]
              refine wpAnyH_done (by kernel_rfl) ?_ _
              go_wp2_with fail
              go_roundw
              case rel => exact ⟨j + 1, by omega, by go_num, fun l hl => by
                by_cases e : l = j
                · subst e; exact hTj
                · exact hno l (by omega), BQ.out.trans (BV.out.mono hzq)⟩
              case measure => simp [intOf]; omega

            | true =>
              rw [if_pos rfl] at HL1
              have hF := lrF_some hjl hTj hno
              have HN2 := Lib.hid (HN.out)
              have HB2 := Lib.hid (HB.out)
              rw [hF] at HN2 HB2
              go_wp2_with fail
              clear c0 c1 hc1 hp1
              refine wp_region_held_drew (S := fun w' => (w'.cell? ⟨w.heap.size, 0, none⟩ = some (.int .i64 (m : Int)) ∧ w'.cell? ⟨w.heap.size, 1, none⟩ = some (.slice (some ⟨b, off, none⟩) ns.length cap)) ∧ w'.cell? ⟨b2, off2 + j, none⟩ = some (.int .i64 (p : Int)) ∧ w'.cell? ⟨b, off + j, none⟩ = some (.int .i64 (s : Int))) (by kernel_rfl) (by exact SS.out _ ((Below.refl _ _).drew)) (fun hHeld => ?_)
              have BV := Lib.hid (show Below wr.heap.size wr wr.drew from (Below.refl _ _).drew)
              generalize wr.drew = v0 at *
              refine wpAnyH_take (i := 0) (v := ?_) rfl (by kernel_rfl) (by kernel_rfl) (by kernel_rfl) (fun _ _ _ h => h) (Or.inl ⟨by rfl, ?_⟩) (by assumption) ?_
              rotate_left
              · (intro w hSw; (try dsimp only at hSw); go_simp; try with_reducible rfl)
              try simp only [List.getElem_toArray, List.getElem_cons_zero, Act.put, List.setIfInBounds_toArray, List.set_cons_zero, List.set_cons_succ]
              refine wpAnyH_take (i := 1) (v := ?_) rfl (by kernel_rfl) (by kernel_rfl) (by kernel_rfl) (fun _ _ _ h => h) (Or.inl ⟨by rfl, ?_⟩) (by assumption) ?_
              rotate_left
              · (intro w hSw; (try dsimp only at hSw); go_simp; try with_reducible rfl)
              try simp only [List.getElem_toArray, List.getElem_cons_zero, List.getElem_cons_succ, Act.put, List.setIfInBounds_toArray, List.set_cons_zero, List.set_cons_succ]
              refine wpAnyH_take (i := 2) (v := ?_) rfl (by kernel_rfl) (by kernel_rfl) (by kernel_rfl) (fun _ _ _ h => h) (Or.inl ⟨by rfl, ?_⟩) (by assumption) ?_
              rotate_left
              · (intro w hSw; (try dsimp only at hSw); go_simp; try with_reducible rfl)
              try simp only [List.getElem_toArray, List.getElem_cons_zero, List.getElem_cons_succ, Act.put, List.setIfInBounds_toArray, List.set_cons_zero, List.set_cons_succ]
              refine wpAnyH_take (i := 3) (v := ?_) rfl (by kernel_rfl) (by kernel_rfl) (by kernel_rfl) (fun _ _ _ h => h) (Or.inl ⟨by rfl, ?_⟩) (by assumption) ?_
              rotate_left
              · (intro w hSw; (try dsimp only at hSw); go_simp; try with_reducible rfl)
              try simp only [List.getElem_toArray, List.getElem_cons_zero, List.getElem_cons_succ, Act.put, List.setIfInBounds_toArray, List.set_cons_zero, List.set_cons_succ]
              refine wpAnyH_take (i := 4) (v := ?_) rfl (by kernel_rfl) (by kernel_rfl) (by kernel_rfl) (fun _ _ _ h => h) (Or.inl ⟨by rfl, ?_⟩) (by assumption) ?_
              rotate_left
              · (intro w hSw; (try dsimp only at hSw); go_simp; try with_reducible rfl)
              try simp only [List.getElem_toArray, List.getElem_cons_zero, List.getElem_cons_succ, Act.put, List.setIfInBounds_toArray, List.set_cons_zero, List.set_cons_succ]
              refine wpAnyH_take (i := 6) (v := ?_) rfl (by kernel_rfl) (by kernel_rfl) (by kernel_rfl) (fun _ _ _ h => h) (Or.inl ⟨by rfl, ?_⟩) (by assumption) ?_
              rotate_left
              · (intro w hSw; (try dsimp only at hSw); go_simp; try with_reducible rfl)
              try simp only [List.getElem_toArray, List.getElem_cons_zero, List.getElem_cons_succ, Act.put, List.setIfInBounds_toArray, List.set_cons_zero, List.set_cons_succ]
              refine wpAnyH_take (i := 7) (v := ?_) rfl (by kernel_rfl) (by kernel_rfl) (by kernel_rfl) (fun _ _ _ h => h) (Or.inl ⟨by rfl, ?_⟩) (by assumption) ?_
              rotate_left
              · (intro w hSw; (try dsimp only at hSw); go_simp; try with_reducible rfl)
              try simp only [List.getElem_toArray, List.getElem_cons_zero, List.getElem_cons_succ, Act.put, List.setIfInBounds_toArray, List.set_cons_zero, List.set_cons_succ]
              refine wpAnyH_take (i := 8) (v := ?_) rfl (by kernel_rfl) (by kernel_rfl) (by kernel_rfl) (fun _ _ _ h => h) (Or.inl ⟨by rfl, ?_⟩) (by assumption) ?_
              rotate_left
              · (intro w hSw; (try dsimp only at hSw); go_simp; try with_reducible rfl)
              try simp only [List.getElem_toArray, List.getElem_cons_zero, List.getElem_cons_succ, Act.put, List.setIfInBounds_toArray, List.set_cons_zero, List.set_cons_succ]
              refine wpAnyH_take (i := 9) (v := ?_) rfl (by kernel_rfl) (by kernel_rfl) (by kernel_rfl) (fun _ _ _ h => h) (Or.inl ⟨by rfl, ?_⟩) (by assumption) ?_
              rotate_left
              · (intro w hSw; (try dsimp only at hSw); go_simp; try with_reducible rfl)
              try simp only [List.getElem_toArray, List.getElem_cons_zero, List.getElem_cons_succ, Act.put, List.setIfInBounds_toArray, List.set_cons_zero, List.set_cons_succ]
              refine wpAnyH_ready (rs := [5]) (by kernel_rfl) (by simp) ?_
              refine AllReadyH.cons rfl (fun K hK => ?_) AllReadyH.nil
              try simp only [List.getElem_toArray]
              go_simp
              (go_at_call 42; refine (HMe.out _).mono ?_; rintro e w9 ⟨rfl, hw9⟩; subst w9)
              refine hK.out _ _ (by exact SS.out _ BV.out) (fun hHeld => ?_)
              clear hK K
              try simp only [List.getElem_toArray, List.getElem_cons_zero, List.getElem_cons_succ, Act.put, List.setIfInBounds_toArray, List.set_cons_zero, List.set_cons_succ]
              refine wpAnyH_take (i := 10) (v := ?_) rfl (by kernel_rfl) (by kernel_rfl) (by kernel_rfl) (fun _ _ _ h => h) (Or.inl ⟨by rfl, ?_⟩) (by assumption) ?_
              rotate_left
              · (intro w hSw; (try dsimp only at hSw); go_simp; try with_reducible rfl)
              try simp only [List.getElem_toArray, List.getElem_cons_zero, List.getElem_cons_succ, Act.put, List.setIfInBounds_toArray, List.set_cons_zero, List.set_cons_succ]
              refine wpAnyH_take (i := 11) (v := ?_) rfl (by kernel_rfl) (by kernel_rfl) (by kernel_rfl) (fun _ _ _ h => h) (Or.inl ⟨by rfl, ?_⟩) (by assumption) ?_
              rotate_left
              · (intro w hSw; (try dsimp only at hSw); go_simp; try with_reducible rfl)
              try simp only [List.getElem_toArray, List.getElem_cons_zero, List.getElem_cons_succ, Act.put, List.setIfInBounds_toArray, List.set_cons_zero, List.set_cons_succ]
              refine wpAnyH_take (i := 12) (v := ?_) rfl (by kernel_rfl) (by kernel_rfl) (by kernel_rfl) (fun _ _ _ h => h) (Or.inl ⟨by rfl, ?_⟩) (by assumption) ?_
              rotate_left
              · (intro w hSw; (try dsimp only at hSw); go_simp; try with_reducible rfl)
              try simp only [List.getElem_toArray, List.getElem_cons_zero, List.getElem_cons_succ, Act.put, List.setIfInBounds_toArray, List.set_cons_zero, List.set_cons_succ]
              refine wpAnyH_take (i := 13) (v := ?_) rfl (by kernel_rfl) (by kernel_rfl) (by kernel_rfl) (fun _ _ _ h => h) (Or.inl ⟨by rfl, ?_⟩) (by assumption) ?_
              rotate_left
              · (intro w hSw; (try dsimp only at hSw); go_simp; try with_reducible rfl)
              try simp only [List.getElem_toArray, List.getElem_cons_zero, List.getElem_cons_succ, Act.put, List.setIfInBounds_toArray, List.set_cons_zero, List.set_cons_succ]
              refine wpAnyH_take (i := 14) (v := ?_) rfl (by kernel_rfl) (by kernel_rfl) (by kernel_rfl) (fun _ _ _ h => h) (Or.inl ⟨by rfl, ?_⟩) (by assumption) ?_
              rotate_left
              · (intro w hSw; (try dsimp only at hSw); go_simp; try with_reducible rfl)
              try simp only [List.getElem_toArray, List.getElem_cons_zero, List.getElem_cons_succ, Act.put, List.setIfInBounds_toArray, List.set_cons_zero, List.set_cons_succ]
              refine wpAnyH_take (i := 15) (v := ?_) rfl (by kernel_rfl) (by kernel_rfl) (by kernel_rfl) (fun _ _ _ h => h) (Or.inl ⟨by rfl, ?_⟩) (by assumption) ?_
              rotate_left
              · (intro w hSw; (try dsimp only at hSw); go_simp; try with_reducible rfl)
              try simp only [List.getElem_toArray, List.getElem_cons_zero, List.getElem_cons_succ, Act.put, List.setIfInBounds_toArray, List.set_cons_zero, List.set_cons_succ]
              refine wpAnyH_take (i := 16) (v := ?_) rfl (by kernel_rfl) (by kernel_rfl) (by kernel_rfl) (fun _ _ _ h => h) (Or.inl ⟨by rfl, ?_⟩) (by assumption) ?_
              rotate_left
              · (intro w hSw; (try dsimp only at hSw); go_simp; try with_reducible rfl)
              try simp only [List.getElem_toArray, List.getElem_cons_zero, List.getElem_cons_succ, Act.put, List.setIfInBounds_toArray, List.set_cons_zero, List.set_cons_succ]
              refine wpAnyH_take (i := 18) (v := ?_) rfl (by kernel_rfl) (by kernel_rfl) (by kernel_rfl) (fun _ _ _ h => h) (Or.inl ⟨by rfl, ?_⟩) (by assumption) ?_
              rotate_left
              · (intro w hSw; (try dsimp only at hSw); go_simp; try with_reducible rfl)
              try simp only [List.getElem_toArray, List.getElem_cons_zero, List.getElem_cons_succ, Act.put, List.setIfInBounds_toArray, List.set_cons_zero, List.set_cons_succ]
              refine wpAnyH_ready (rs := [17]) (by kernel_rfl) (by simp) ?_
              refine AllReadyH.cons rfl (fun K hK => ?_) AllReadyH.nil
              try simp only [List.getElem_toArray]
              go_simp
              have IX := Lib.hid (show Ints 0 (v0.alloc (Obj.cells #[.int .i64 (s : Int)] 3)) (.slice (some ⟨v0.heap.size, 0, none⟩) 1 1) [(s : Int)] from World.ownsRow_lit v0 #[.int .i64 (s : Int)] 1 (Nat.zero_le _) (by unfold maxLen; omega) rfl)
              replace BV := Lib.hid (BV.out.alloc BV.out.size (Obj.cells #[.int .i64 (s : Int)] 3))
              generalize hH : v0.heap.size = HH at *
              generalize (v0.alloc (Obj.cells #[.int .i64 (s : Int)] 3)) = v1 at *
              refine hK.out _ _ (by exact SS.out _ BV.out) (fun hHeld => ?_)
              clear hK K
              try simp only [List.getElem_toArray, List.getElem_cons_zero, List.getElem_cons_succ, Act.put, List.setIfInBounds_toArray, List.set_cons_zero, List.set_cons_succ]
              refine wpAnyH_ready (rs := [19]) (by kernel_rfl) (by simp) ?_
              refine AllReadyH.cons rfl (fun K hK => ?_) AllReadyH.nil
              try simp only [List.getElem_toArray]
              go_simp
              refine (HKe.out _ _ (by exact IX.out) (by exact HE.out.below (B7.out.trans (BV.out.mono B7.out.size)) (Nat.le_refl _))).mono ?_
              rintro e v2 ⟨a9, c9, rfl, hin9, hb9⟩
              replace BV := Lib.hid (BV.out.trans (hb9.mono BV.out.size))
              rw [HL1.out] at hin9 ⊢
              clear hin9 hb9
              refine hK.out _ _ (by exact SS.out _ BV.out) (fun hHeld => ?_)
              clear hK K
              try simp only [List.getElem_toArray, List.getElem_cons_zero, List.getElem_cons_succ, Act.put, List.setIfInBounds_toArray, List.set_cons_zero, List.set_cons_succ]
              refine wpAnyH_take (i := 20) (v := ?_) rfl (by kernel_rfl) (by kernel_rfl) (by kernel_rfl) (fun _ _ _ h => h) (Or.inl ⟨by rfl, ?_⟩) (by assumption) ?_
              rotate_left
              · (intro w hSw; (try dsimp only at hSw); go_simp; try with_reducible rfl)
              try simp only [List.getElem_toArray, List.getElem_cons_zero, List.getElem_cons_succ, Act.put, List.setIfInBounds_toArray, List.set_cons_zero, List.set_cons_succ]
              refine wpAnyH_take (i := 21) (v := ?_) rfl (by kernel_rfl) (by kernel_rfl) (by kernel_rfl) (fun _ _ _ h => h) (Or.inl ⟨by rfl, ?_⟩) (by assumption) ?_
              rotate_left
              · (intro w hSw; (try dsimp only at hSw); go_simp; try with_reducible rfl)
              try simp only [List.getElem_toArray, List.getElem_cons_zero, List.getElem_cons_succ, Act.put, List.setIfInBounds_toArray, List.set_cons_zero, List.set_cons_succ]
              refine wpAnyH_take (i := 22) (v := ?_) rfl (by kernel_rfl) (by kernel_rfl) (by kernel_rfl) (fun _ _ _ h => h) (Or.inl ⟨by rfl, ?_⟩) (by assumption) ?_
              rotate_left
              · (intro w hSw; (try dsimp only at hSw); go_simp; try with_reducible rfl)
              try simp only [List.getElem_toArray, List.getElem_cons_zero, List.getElem_cons_succ, Act.put, List.setIfInBounds_toArray, List.set_cons_zero, List.set_cons_succ]
              refine wpAnyH_done (by kernel_rfl) ?_ _
              have hh := SS.out _ BV.out
              have g0 := hh.1.1
              have g1 := hh.1.2
              have g2 := hh.2.2
              clear hh
              go_wp2_with fail
              refine bodyPost_ret (v := .tuple #[.int .i64 (s : Int), .bool true]) (by simp [results, Tryd.results11, go_sem]) rfl ?_
              refine ⟨?_, B7.out.trans (BV.out.mono B7.out.size)⟩
              rw [HN2.out, HB2.out, ← hgs]
              rfl
          · rw [decide_eq_false hcc, Bool.and_false] at hTj
            have hpb : (((p &&& S : Nat) : Int) == (p : Int)) = false := by simp; omega
            have hpb2 : ((p &&& S) == p) = false := by simp; omega
            generalize p &&& S = pS at *
            go_wp2_with fail
            clear c0 c1 hc1 hp1
            refine wp_region_held_drew (S := fun w' => (w'.cell? ⟨w.heap.size, 0, none⟩ = some (.int .i64 (m : Int)) ∧ w'.cell? ⟨w.heap.size, 1, none⟩ = some (.slice (some ⟨b, off, none⟩) ns.length cap)) ∧ w'.cell? ⟨b2, off2 + j, none⟩ = some (.int .i64 (p : Int)) ∧ w'.cell? ⟨b, off + j, none⟩ = some (.int .i64 (s : Int))) (by kernel_rfl) (by exact SS.out _ ((Below.refl _ _).drew)) (fun hHeld => ?_)
            have BV := Lib.hid (show Below wr.heap.size wr wr.drew from (Below.refl _ _).drew)
            generalize wr.drew = v0 at *
            refine wpAnyH_take (i := 0) (v := ?_) rfl (by kernel_rfl) (by kernel_rfl) (by kernel_rfl) (fun _ _ _ h => h) (Or.inl ⟨by rfl, ?_⟩) (by assumption) ?_
            rotate_left
            · (intro w hSw; (try dsimp only at hSw); go_simp; try with_reducible rfl)
            try simp only [List.getElem_toArray, List.getElem_cons_zero, Act.put, List.setIfInBounds_toArray, List.set_cons_zero, List.set_cons_succ]
            refine wpAnyH_take (i := 1) (v := ?_) rfl (by kernel_rfl) (by kernel_rfl) (by kernel_rfl) (fun _ _ _ h => h) (Or.inl ⟨by rfl, ?_⟩) (by assumption) ?_
            rotate_left
            · (intro w hSw; (try dsimp only at hSw); go_simp; try with_reducible rfl)
            try simp only [List.getElem_toArray, List.getElem_cons_zero, List.getElem_cons_succ, Act.put, List.setIfInBounds_toArray, List.set_cons_zero, List.set_cons_succ]
            refine wpAnyH_take (i := 2) (v := ?_) rfl (by kernel_rfl) (by kernel_rfl) (by kernel_rfl) (fun _ _ _ h => h) (Or.inl ⟨by rfl, ?_⟩) (by assumption) ?_
            rotate_left
            · (intro w hSw; (try dsimp only at hSw); go_simp; try with_reducible rfl)
            try simp only [List.getElem_toArray, List.getElem_cons_zero, List.getElem_cons_succ, Act.put, List.setIfInBounds_toArray, List.set_cons_zero, List.set_cons_succ]
            refine wpAnyH_take (i := 3) (v := ?_) rfl (by kernel_rfl) (by kernel_rfl) (by kernel_rfl) (fun _ _ _ h => h) (Or.inl ⟨by rfl, ?_⟩) (by assumption) ?_
            rotate_left
            · (intro w hSw; (try dsimp only at hSw); go_simp; try with_reducible rfl)
            try simp only [List.getElem_toArray, List.getElem_cons_zero, List.getElem_cons_succ, Act.put, List.setIfInBounds_toArray, List.set_cons_zero, List.set_cons_succ]
            refine wpAnyH_take (i := 4) (v := ?_) rfl (by kernel_rfl) (by kernel_rfl) (by kernel_rfl) (fun _ _ _ h => h) (Or.inl ⟨by rfl, ?_⟩) (by assumption) ?_
            rotate_left
            · (intro w hSw; (try dsimp only at hSw); go_simp; try with_reducible rfl)
            try simp only [List.getElem_toArray, List.getElem_cons_zero, List.getElem_cons_succ, Act.put, List.setIfInBounds_toArray, List.set_cons_zero, List.set_cons_succ]
            refine wpAnyH_take (i := 6) (v := ?_) rfl (by kernel_rfl) (by kernel_rfl) (by kernel_rfl) (fun _ _ _ h => h) (Or.inl ⟨by rfl, ?_⟩) (by assumption) ?_
            rotate_left
            · (intro w hSw; (try dsimp only at hSw); go_simp; try with_reducible rfl)
            try simp only [List.getElem_toArray, List.getElem_cons_zero, List.getElem_cons_succ, Act.put, List.setIfInBounds_toArray, List.set_cons_zero, List.set_cons_succ]
            refine wpAnyH_take (i := 7) (v := ?_) rfl (by kernel_rfl) (by kernel_rfl) (by kernel_rfl) (fun _ _ _ h => h) (Or.inl ⟨by rfl, ?_⟩) (by assumption) ?_
            rotate_left
            · (intro w hSw; (try dsimp only at hSw); go_simp; try with_reducible rfl)
            try simp only [List.getElem_toArray, List.getElem_cons_zero, List.getElem_cons_succ, Act.put, List.setIfInBounds_toArray, List.set_cons_zero, List.set_cons_succ]
            refine wpAnyH_take (i := 8) (v := ?_) rfl (by kernel_rfl) (by kernel_rfl) (by kernel_rfl) (fun _ _ _ h => h) (Or.inl ⟨by rfl, ?_⟩) (by assumption) ?_
            rotate_left
            · (intro w hSw; (try dsimp only at hSw); go_simp; try with_reducible rfl)
            try simp only [List.getElem_toArray, List.getElem_cons_zero, List.getElem_cons_succ, Act.put, List.setIfInBounds_toArray, List.set_cons_zero, List.set_cons_succ]
            refine wpAnyH_take (i := 9) (v := ?_) rfl (by kernel_rfl) (by kernel_rfl) (by kernel_rfl) (fun _ _ _ h => h) (Or.inl ⟨by rfl, ?_⟩) (by assumption) ?_
            rotate_left
            · (intro w hSw; (try dsimp only at hSw); go_simp; try with_reducible rfl)
            try simp only [List.getElem_toArray, List.getElem_cons_zero, List.getElem_cons_succ, Act.put, List.setIfInBounds_toArray, List.set_cons_zero, List.set_cons_succ]
            refine wpAnyH_ready (rs := [5]) (by kernel_rfl) (by simp) ?_
            refine AllReadyH.cons rfl (fun K hK => ?_) AllReadyH.nil
            try simp only [List.getElem_toArray]
            go_simp
            (go_at_call 42; refine (HMe.out _).mono ?_; rintro e w9 ⟨rfl, hw9⟩; subst w9)
            refine hK.out _ _ (by exact SS.out _ BV.out) (fun hHeld => ?_)
            clear hK K
            try simp only [List.getElem_toArray, List.getElem_cons_zero, List.getElem_cons_succ, Act.put, List.setIfInBounds_toArray, List.set_cons_zero, List.set_cons_succ]
            refine wpAnyH_take (i := 10) (v := ?_) rfl (by kernel_rfl) (by kernel_rfl) (by kernel_rfl) (fun _ _ _ h => h) (Or.inl ⟨by rfl, ?_⟩) (by assumption) ?_
            rotate_left
            · (intro w hSw; (try dsimp only at hSw); go_simp; try with_reducible rfl)
            try simp only [List.getElem_toArray, List.getElem_cons_zero, List.getElem_cons_succ, Act.put, List.setIfInBounds_toArray, List.set_cons_zero, List.set_cons_succ]
            refine wpAnyH_take (i := 11) (v := ?_) rfl (by kernel_rfl) (by kernel_rfl) (by kernel_rfl) (fun _ _ _ h => h) (Or.inl ⟨by rfl, ?_⟩) (by assumption) ?_
            rotate_left
            · (intro w hSw; (try dsimp only at hSw); go_simp; try with_reducible rfl)
            try simp only [List.getElem_toArray, List.getElem_cons_zero, List.getElem_cons_succ, Act.put, List.setIfInBounds_toArray, List.set_cons_zero, List.set_cons_succ]
            refine wpAnyH_take (i := 12) (v := undef) rfl (by kernel_rfl) (by kernel_rfl) (by kernel_rfl) (fun _ _ _ h => h) (Or.inr ⟨by rfl, rfl⟩) (by assumption) ?_
            try simp only [List.getElem_toArray, List.getElem_cons_zero, List.getElem_cons_succ, Act.put, List.setIfInBounds_toArray, List.set_cons_zero, List.set_cons_succ]
            refine wpAnyH_take (i := 13) (v := undef) rfl (by kernel_rfl) (by kernel_rfl) (by kernel_rfl) (fun _ _ _ h => h) (Or.inr ⟨by rfl, rfl⟩) (by assumption) ?_
            try simp only [List.getElem_toArray, List.getElem_cons_zero, List.getElem_cons_succ, Act.put, List.setIfInBounds_toArray, List.set_cons_zero, List.set_cons_succ]
            refine wpAnyH_take (i := 14) (v := undef) rfl (by kernel_rfl) (by kernel_rfl) (by kernel_rfl) (fun _ _ _ h => h) (Or.inr ⟨by rfl, rfl⟩) (by assumption) ?_
            try simp only [List.getElem_toArray, List.getElem_cons_zero, List.getElem_cons_succ, Act.put, List.setIfInBounds_toArray, List.set_cons_zero, List.set_cons_succ]
            refine wpAnyH_take (i := 15) (v := undef) rfl (by kernel_rfl) (by kernel_rfl) (by kernel_rfl) (fun _ _ _ h => h) (Or.inr ⟨by rfl, rfl⟩) (by assumption) ?_
            try simp only [List.getElem_toArray, List.getElem_cons_zero, List.getElem_cons_succ, Act.put, List.setIfInBounds_toArray, List.set_cons_zero, List.set_cons_succ]
            refine wpAnyH_take (i := 16) (v := undef) rfl (by kernel_rfl) (by kernel_rfl) (by kernel_rfl) (fun _ _ _ h => h) (Or.inr ⟨by rfl, rfl⟩) (by assumption) ?_
            try simp only [List.getElem_toArray, List.getElem_cons_zero, List.getElem_cons_succ, Act.put, List.setIfInBounds_toArray, List.set_cons_zero, List.set_cons_succ]
            refine wpAnyH_take (i := 17) (v := undef) rfl (by kernel_rfl) (by kernel_rfl) (by kernel_rfl) (fun _ _ _ h => h) (Or.inr ⟨by rfl, rfl⟩) (by assumption) ?_
            try simp only [List.getElem_toArray, List.getElem_cons_zero, List.getElem_cons_succ, Act.put, List.setIfInBounds_toArray, List.set_cons_zero, List.set_cons_succ]
            refine wpAnyH_take (i := 18) (v := undef) rfl (by kernel_rfl) (by kernel_rfl) (by kernel_rfl) (fun _ _ _ h => h) (Or.inr ⟨by rfl, rfl⟩) (by assumption) ?_
            try simp only [List.getElem_toArray, List.getElem_cons_zero, List.getElem_cons_succ, Act.put, List.setIfInBounds_toArray, List.set_cons_zero, List.set_cons_succ]
            refine wpAnyH_take (i := 19) (v := undef) rfl (by kernel_rfl) (by kernel_rfl) (by kernel_rfl) (fun _ _ _ h => h) (Or.inr ⟨by rfl, rfl⟩) (by assumption) ?_
            try simp only [List.getElem_toArray, List.getElem_cons_zero, List.getElem_cons_succ, Act.put, List.setIfInBounds_toArray, List.set_cons_zero, List.set_cons_succ]
            refine wpAnyH_take (i := 20) (v := undef) rfl (by kernel_rfl) (by kernel_rfl) (by kernel_rfl) (fun _ _ _ h => h) (Or.inr ⟨by rfl, rfl⟩) (by assumption) ?_
            try simp only [List.getElem_toArray, List.getElem_cons_zero, List.getElem_cons_succ, Act.put, List.setIfInBounds_toArray, List.set_cons_zero, List.set_cons_succ]
            refine wpAnyH_take (i := 21) (v := undef) rfl (by kernel_rfl) (by kernel_rfl) (by kernel_rfl) (fun _ _ _ h => h) (Or.inr ⟨by rfl, rfl⟩) (by assumption) ?_
            try simp only [List.getElem_toArray, List.getElem_cons_zero, List.getElem_cons_succ, Act.put, List.setIfInBounds_toArray, List.set_cons_zero, List.set_cons_succ]
            refine wpAnyH_take (i := 22) (v := ?_) rfl (by kernel_rfl) (by kernel_rfl) (by kernel_rfl) (fun _ _ _ h => h) (Or.inl ⟨by rfl, ?_⟩) (by assumption) ?_
            rotate_left
            · (intro w hSw; (try dsimp only at hSw); go_simp; try with_reducible rfl)
            try simp only [List.getElem_toArray, List.getElem_cons_zero, List.getElem_cons_succ, Act.put, List.setIfInBounds_toArray, List.set_cons_zero, List.set_cons_succ]
            refine wpAnyH_done (by kernel_rfl) ?_ _
            go_wp2_with fail
            go_roundw
            case rel => exact ⟨j + 1, by omega, by go_num, fun l hl => by
              by_cases e : l = j
              · subst e; exact hTj
              · exact hno l (by omega), BQ.out.trans (BV.out.mono hzq)⟩
            case measure => simp [intOf]; omega

        · obtain rfl : j = ns.length := by omega
          have hF := lrF_none hno
          have HN2 := Lib.hid (HN.out)
          have HB2 := Lib.hid (HB.out)
          rw [hF] at HN2 HB2
          go_wp2_with fail
          refine bodyPost_ret (v := .tuple #[.int .i64 0, .bool false]) (by simp [results, Tryd.results11, go_sem]) rfl ?_
          refine ⟨?_, B7.out⟩
          rw [HN2.out, HB2.out]
          rfl

set_option maxHeartbeats 3200000 in
set_option maxRecDepth 100000 in
theorem specLrnNo (n : Int) (v u x : Value) (zs ps : List Int) (es : List (Int × Bool)) (w : World) (hk : (vsB n zs es && repB n zs ps) = false) (h : Rd w v zs) (hu : Rd w u ps) (hx : RdE w x es) :
    Calls Tryd.prog 11 #[.agg #[.int .i64 n, v], u, x] w fun e w' => e = .returned (.tuple #[.int .i64 (lrN n zs ps es), .bool (lrB n zs ps es)]) ∧ Below w.heap.size w w' := by
  have H := Lib.hid h
  have HU := Lib.hid hu
  have HE := Lib.hid hx
  rw [show lrN n zs ps es = 0 by rw [lrN, lrO, hk, if_neg (by decide)]; rfl, show lrB n zs ps es = false by rw [lrB, lrO, hk, if_neg (by decide)]; rfl]
  have HV := Lib.hid (fun w h => specValid n v zs w h)
  cases hv : vldB n zs with
  | false =>
    rw [hv] at HV
    obtain ⟨a, b, off, cap, rfl, _, _, _⟩ := h
    have X0 := Lib.hid (Bx.new n (.slice a zs.length cap) w)
    have B0 := Lib.hid (show Below w.heap.size w (w.alloc (Obj.cells #[.int .i64 n, .slice a zs.length cap] 30)) from (Below.refl _ _).alloc (Nat.le_refl _) _)
    clear hv hk
    go_enter Tryd.func11, Tryd.ntmps11
    go_wp2_with fail
    refine (HV.out _ (H.out.below B0.out (Nat.le_refl _))).mono ?_
    rintro e w2 ⟨rfl, hb⟩
    have B1 := Lib.hid (B0.out.trans (hb.mono B0.out.size))
    clear hb X0 B0
    go_wp2_with fail
    refine bodyPost_ret (v := .tuple #[.int .i64 0, .bool false]) (by simp [results, Tryd.results11, go_sem]) rfl ?_
    exact ⟨rfl, B1.out⟩
  | true =>
    rw [hv] at HV
    obtain ⟨m, ns, rfl, rfl, hc⟩ := vldB_cls hv
    have hm := hc.pts
    have HVP := Lib.hid (fun w h hu => specValidPlan m hm v u ns ps w h hu hc.lt32)
    have HVS := Lib.hid (fun w h => specSample m hm x es w h)
    rw [← repB_in hv] at HVP
    rw [← vsB_in hv] at HVS
    obtain ⟨a, b, off, cap, rfl, _, _, _⟩ := h
    rw [toI_length] at *
    have X0 := Lib.hid (Bx.new (m : Int) (.slice a ns.length cap) w)
    have B0 := Lib.hid (show Below w.heap.size w (w.alloc (Obj.cells #[.int .i64 (m : Int), .slice a ns.length cap] 30)) from (Below.refl _ _).alloc (Nat.le_refl _) _)
    clear hv hc
    go_enter Tryd.func11, Tryd.ntmps11
    go_wp2_with fail
    refine (HV.out _ (H.out.below B0.out (Nat.le_refl _))).mono ?_
    rintro e w2 ⟨rfl, hb⟩
    have X1 := Lib.hid (X0.out.next hb X0.out.lt)
    have B1 := Lib.hid (B0.out.trans (hb.mono B0.out.size))
    clear hb X0 B0
    have c0 := X1.out.out.at0
    have c1 := X1.out.out.at1
    go_wp2_with fail
    clear c0 c1
    refine (HVP.out _ (H.out.below B1.out (Nat.le_refl _)) (HU.out.below B1.out (Nat.le_refl _))).mono ?_
    rintro e w3 ⟨rfl, hb⟩
    have X2 := Lib.hid (X1.out.next hb X1.out.lt)
    have B2 := Lib.hid (B1.out.trans (hb.mono B1.out.size))
    clear hb X1 B1
    have c0 := X2.out.out.at0
    have c1 := X2.out.out.at1
    cases hr : repB (m : Int) (toI ns) ps with
    | false =>
      clear hk hr
      go_wp2_with fail
      refine bodyPost_ret (v := .tuple #[.int .i64 0, .bool false]) (by simp [results, Tryd.results11, go_sem]) rfl ?_
      exact ⟨rfl, B2.out⟩
    | true =>
      rw [hr, Bool.and_true] at hk
      rw [hk] at HVS
      clear hk hr
      go_wp2_with fail
      refine (HVS.out _ (HE.out.below B2.out (Nat.le_refl _))).mono ?_
      rintro e w9 ⟨rfl, hw9⟩
      subst w9
      go_wp2_with fail
      refine bodyPost_ret (v := .tuple #[.int .i64 0, .bool false]) (by simp [results, Tryd.results11, go_sem]) rfl ?_
      exact ⟨rfl, B2.out⟩
theorem specLearnRepresentation (n : Int) (v u x : Value) (zs ps : List Int) (es : List (Int × Bool)) (w : World) (h : Rd w v zs) (hu : Rd w u ps) (hx : RdE w x es) :
    Calls Tryd.prog 11 #[.agg #[.int .i64 n, v], u, x] w fun e w' => e = .returned (.tuple #[.int .i64 (lrN n zs ps es), .bool (lrB n zs ps es)]) ∧ Below w.heap.size w w' := by
  cases hk : (vsB n zs es && repB n zs ps) with
  | false => exact specLrnNo n v u x zs ps es w hk h hu hx
  | true =>
    rw [Bool.and_eq_true] at hk
    have hvd : vldB n zs = true := by have := hk.1; simp only [vsB, Bool.and_eq_true] at this; exact this.1
    obtain ⟨m, ns, rfl, rfl, hc⟩ := vldB_cls hvd
    exact specLrnIn m v u x ns ps es w hc hk.1 hk.2 h hu hx

end Go.Proofs.YtlnnoeicboamgaaDoor
