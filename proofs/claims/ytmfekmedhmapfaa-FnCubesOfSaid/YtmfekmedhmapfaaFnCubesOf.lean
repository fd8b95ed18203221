/- FnCubesOf's walk: cubes lie along strong sets. Conditions: the code is a slice of bytes. -/
import Derived.Test.YtmfekmedhmapfaaAppP
import Derived.Test.YtmfekmedhmapfaaCub
import Derived.Test.YtmfekmedhmapfaaCubM
import Derived.Test.YtmfekmedhmapfaaCubS
import Derived.Test.YtmfekmedhmapfaaDrawsCu
import Derived.Test.YtmfekmedhmapfaaEqPs
import Derived.Test.YtmfekmedhmapfaaStrong
import Derived.Test.YtmfekmedhmapfaaZJ
import Derived.Test.YtmfekmedhmapfaaZK
namespace Go.Proofs.Ytmfekmedhmapfaa
open Go.RowKit

theorem eqB_self (xs : List Int) : eqB xs xs = true := eqB_of rfl (fun _ _ => rfl)
theorem or_add32 : ∀ c s : Fin 32, c.1 &&& s.1 = 0 → c.1 ||| s.1 = c.1 + s.1 := by decide +kernel
theorem crn_sum {ns : List Nat} {s c : Nat} (hc : c < 32) (hs : s < 32) (h : crn ns s c = true) : c + s ∈ ns := by
  simp only [crn, Bool.and_eq_true, cubTo, List.all_eq_true, List.mem_range, beq_iff_eq] at h
  have h2 := h.2 s (by omega)
  rw [← or_add32 ⟨c, hc⟩ ⟨s, hs⟩ h.1]
  simpa using h2
theorem cb_mem {ns : List Nat} {m : Nat} {e : Int × Int} (h : e ∈ cbTo ns m ns.length) : ∃ a b : Nat, e = ((a : Int), (b : Int)) ∧ a ∈ ns ∧ b < 2 ^ m ∧ crn ns b a = true := by
  rw [cbTo, List.take_length, List.mem_flatMap] at h
  obtain ⟨a, ha, h⟩ := h
  rw [cbIn, List.mem_map] at h
  obtain ⟨b, hb, rfl⟩ := h
  rw [List.mem_filter, List.mem_range] at hb
  exact ⟨a, b, rfl, ha, hb.1, hb.2⟩
theorem cb_in {ns : List Nat} {m a b : Nat} (ha : a ∈ ns) (hb : b < 2 ^ m) (h : crn ns b a = true) : ((a : Int), (b : Int)) ∈ cbTo ns m ns.length := by
  rw [cbTo, List.take_length, List.mem_flatMap]
  refine ⟨a, ha, ?_⟩
  rw [cbIn, List.mem_map]
  exact ⟨b, by rw [List.mem_filter, List.mem_range]; exact ⟨hb, h⟩, rfl⟩
/-- the second sets of the first j cubes -/
def metTo (es : List (Int × Int)) (j : Nat) : List Nat := (es.take j).map (fun e => e.2.toNat)
theorem metTo_len {es : List (Int × Int)} {j : Nat} (h : j ≤ es.length) : (metTo es j).length = j := by simp [metTo]; omega
theorem metTo_succ {es : List (Int × Int)} {j : Nat} (h : j < es.length) : metTo es (j + 1) = metTo es j ++ [(es.getD j (0, 0)).2.toNat] := by
  rw [metTo, List.take_succ_eq_append_getElem h, List.map_append, List.getD_eq_getElem?_getD, List.getElem?_eq_getElem h]
  rfl
theorem met_all {ns : List Nat} {m : Nat} : ∀ s ∈ (List.range (2 ^ m)).filter (strg ns), s ∈ metTo (cbTo ns m ns.length) (cbTo ns m ns.length).length := by
  intro s hs
  rw [List.mem_filter, List.mem_range] at hs
  obtain ⟨a, ha, hc⟩ := strg_iff.1 hs.2
  rw [metTo, List.take_length, List.mem_map]
  exact ⟨_, cb_in ha hs.1 hc, by simp⟩


set_option maxHeartbeats 6400000 in
set_option maxRecDepth 100000 in
theorem walkFnCubesOf (a : Option Addr) (b off n cap : Nat) (w : World) (hc : n ≤ cap) (hcap : cap ≤ maxLen) (h : Byt w a b off n) :
    Calls Try.prog 3 #[.slice a n cap] w fun e w' => e = .returned (.bool true) ∧ Below w.heap.size w w' := by
  by_cases hn : n ≤ 1048576
  · have HD := Lib.hid (dDrawCubesOf a b off n cap w hc hn hcap h)
    clear h
    go_enter Try.func3, Try.ntmps3
    go_wp2_with fail
    refine HD.out.mono ?_
    rintro e w1 ⟨N, zs, hbd, a1, c1, rfl, hin, hb⟩
    generalize hL : zs.length = L at *
    have X := Lib.hid (Bx.new N (.slice a1 L c1) w1)
    have I1 := Lib.hid ((hin.mono (Nat.zero_le _)).alloc (Obj.cells #[.int .i64 N, .slice a1 L c1] 25))
    have B := Lib.hid (hb.alloc hb.size (Obj.cells #[.int .i64 N, .slice a1 L c1] 25))
    have HZ2 := Lib.hid (show (w1.alloc (Obj.cells #[.int .i64 N, .slice a1 L c1] 25)).heap.size = w1.heap.size + 1 by simp)
    have hz1 := hb.size
    clear hin hb HD
    go_wp2_with fail
    generalize (w1.alloc (Obj.cells #[.int .i64 N, .slice a1 L c1] 25)) = w2 at *
    have hz2 := HZ2.out
    generalize ho : w1.heap.size = o at *
    obtain ⟨hN0, hN1, hL34⟩ := hbd
    by_cases hv : vldB N zs = true
    · obtain ⟨m, ns, rfl, rfl, hcl⟩ := vldB_cls hv
      have hL2 : ns.length = L := by rw [← hL, toI_length]
      have hm := hcl.pts
      have h5 := pow_le_32 hm
      have HI := Lib.hid (fun v w h => implCubesOf (m : Int) v (toI ns) w h)
      have HS := Lib.hid (fun v w h => specCubesOf (m : Int) v (toI ns) w h)
      have HV := Lib.hid (fun v w h => implValid (m : Int) v (toI ns) w h)
      have HG := Lib.hid (fun v w h => implStrongSets (m : Int) v (toI ns) w h)
      rw [cubL_in hv] at HI HS
      rw [strongL_in hv] at HG
      rw [hv] at HV
      have hlen := cbTo_len (ns := ns) hm ns.length
      have hl32 := hcl.length
      obtain ⟨K, hK⟩ : ∃ K, K = (cbTo ns m ns.length).length := ⟨_, rfl⟩
      have hK2 : K ≤ 1024 := by rw [hK]; omega
      have HKl := Lib.hid hK.symm
      have HMet := Lib.hid (met_all (ns := ns) (m := m))
      have HY := Lib.hid (fun (j : Nat) (hj : j < K) => show ∃ a b : Nat, (cbTo ns m ns.length).getD j (0, 0) = ((a : Int), (b : Int)) ∧ a < 32 ∧ b < 32 ∧ hasB (toI ((List.range (2 ^ m)).filter (strg ns))) (b : Int) = true ∧ hasB (toI ns) (a : Int) = true ∧ hasB (toI ns) ((a : Int) + (b : Int)) = true by
        have hmem : (cbTo ns m ns.length).getD j (0, 0) ∈ cbTo ns m ns.length := by
          rw [List.getD_eq_getElem?_getD, List.getElem?_eq_getElem (by omega)]
          exact List.getElem_mem _
        obtain ⟨a, b, e, ha, hb, hc⟩ := cb_mem hmem
        have ha32 := hcl.lt32 _ ha
        refine ⟨a, b, e, ha32, by omega, ?_, ?_, ?_⟩
        · rw [hasB_nat]
          exact decide_eq_true (by rw [List.mem_filter, List.mem_range]; exact ⟨hb, strg_iff.2 ⟨a, ha, hc⟩⟩)
        · rw [hasB_nat]
          exact decide_eq_true ha
        · rw [show (a : Int) + (b : Int) = ((a + b : Nat) : Int) by omega, hasB_nat]
          exact decide_eq_true (crn_sum ha32 (by omega) hc))
      obtain ⟨D, hD⟩ : ∃ D, D = (List.range (2 ^ m)).filter (strg ns) := ⟨_, rfl⟩
      rw [← hD] at HG HMet HY
      have HDl := Lib.hid (toI_length D)
      generalize cbTo ns m ns.length = es at *
      clear hD hK hlen hl32 h5 hv hcl
      refine (HI.out _ _ I1.out.rd).mono ?_
      rintro e w3 ⟨a3, c3, rfl, hin3, hb3⟩
      rw [HKl.out] at hin3 ⊢
      have hz3 := hb3.size
      replace X := Lib.hid (X.out.next hb3 X.out.lt)
      replace I1 := Lib.hid (I1.out.below hb3 (Nat.le_refl _))
      replace B := Lib.hid (B.out.trans (hb3.mono B.out.size))
      have IP := Lib.hid (hin3.mono (Nat.zero_le _))
      clear hin3 hb3
      have x0 := X.out.out.at0
      have x1 := X.out.out.at1
      go_wp2_with fail
      clear x0 x1
      refine (HS.out _ _ I1.out.rd).mono ?_
      rintro e w4 ⟨a4, c4, rfl, hin4, hb4⟩
      rw [HKl.out] at hin4 ⊢
      have hz4 := hb4.size
      replace X := Lib.hid (X.out.next hb4 X.out.lt)
      replace I1 := Lib.hid (I1.out.below hb4 (Nat.le_refl _))
      replace IP := Lib.hid (IP.out.below hb4 (Nat.le_refl _))
      replace B := Lib.hid (B.out.trans (hb4.mono B.out.size))
      have IQ := Lib.hid (hin4.mono (Nat.zero_le _))
      clear hin4 hb4
      have x0 := X.out.out.at0
      have x1 := X.out.out.at1
      go_wp2_with fail
      clear x0 x1
      refine (lawsEqualPairs _ _ es _ IP.out.rd IQ.out.rd).mono ?_
      rintro e w5 ⟨rfl, hb5⟩
      have hz5 := hb5.size
      replace X := Lib.hid (X.out.next hb5 X.out.lt)
      replace I1 := Lib.hid (I1.out.below hb5 (Nat.le_refl _))
      replace IP := Lib.hid (IP.out.below hb5 (Nat.le_refl _))
      replace IQ := Lib.hid (IQ.out.below hb5 (Nat.le_refl _))
      replace B := Lib.hid (B.out.trans (hb5.mono B.out.size))
      clear hb5
      have x0 := X.out.out.at0
      have x1 := X.out.out.at1
      go_wp2_with fail
      clear x0 x1
      clear IQ
      refine (HV.out _ _ I1.out.rd).mono ?_
      rintro e w6 ⟨rfl, hb6⟩
      have hz6 := hb6.size
      replace X := Lib.hid (X.out.next hb6 X.out.lt)
      replace I1 := Lib.hid (I1.out.below hb6 (Nat.le_refl _))
      replace IP := Lib.hid (IP.out.below hb6 (Nat.le_refl _))
      replace B := Lib.hid (B.out.trans (hb6.mono B.out.size))
      clear hb6
      have x0 := X.out.out.at0
      have x1 := X.out.out.at1
      go_wp2_with fail
      clear x0 x1
      refine (HG.out _ _ I1.out.rd).mono ?_
      rintro e w7 ⟨a7, c7, rfl, hin7, hb7⟩
      rw [HDl.out] at hin7 ⊢
      have hz7 := hb7.size
      replace X := Lib.hid (X.out.next hb7 X.out.lt)
      replace I1 := Lib.hid (I1.out.below hb7 (Nat.le_refl _))
      replace IP := Lib.hid (IP.out.below hb7 (Nat.le_refl _))
      replace B := Lib.hid (B.out.trans (hb7.mono B.out.size))
      have IL := Lib.hid (hin7.mono (Nat.zero_le _))
      clear hin7 hb7
      have IM := Lib.hid (show Ints w7.heap.size (w7.alloc (Obj.cells #[] 3)) (.slice (some ⟨w7.heap.size, 0, none⟩) 0 0) [] from Ints.lit' (Nat.le_refl _) rfl)
      have BM := Lib.hid (show Below w7.heap.size w7 (w7.alloc (Obj.cells #[] 3)) from (Below.refl _ _).alloc (Nat.le_refl _) _)
      obtain ⟨sr, br, offr, capr, er, q1, -, q5⟩ := IP.out.rd
      rw [HKl.out] at er q1 q5
      simp only [Value.slice.injEq] at er
      obtain ⟨rfl, -, rfl⟩ := er
      have Q1 := Lib.hid q1
      have Q5 := Lib.hid q5
      clear q1 q5
      have x0 := X.out.out.at0
      have x1 := X.out.out.at1
      go_wp2_with fail
      clear x0 x1
      go_loopw [6, 7] (fun mt i wr => ∃ (j c' : Nat) (a' : Option Addr), j ≤ K ∧ i = .int .i64 j ∧ mt = .slice a' j c' ∧ Ints w7.heap.size wr (.slice a' j c') (toI (metTo es j)) ∧ Below w7.heap.size w7 wr) (fun _ i _ => K - (intOf i).toNat)
      case atStart => exact ⟨0, _, _, Nat.zero_le _, rfl, rfl, IM.out, BM.out⟩
      case round =>
        obtain ⟨j, c', a', hj, rfl, rfl, him, hbe⟩ := hrel
        have HBE := Lib.hid hbe
        have IM' := Lib.hid him
        have hzr := hbe.size
        clear IM BM him
        replace X := Lib.hid (X.out.next hbe X.out.lt)
        replace I1 := Lib.hid (I1.out.below hbe (Nat.le_refl _))
        replace IL := Lib.hid (IL.out.below hbe (Nat.le_refl _))
        replace B := Lib.hid (B.out.trans (hbe.mono B.out.size))
        by_cases hlt : j < K
        · obtain ⟨rfl, gbl⟩ := Q1.out (by omega)
          have hp0 := (hbe.cell (p := ⟨br, offr + j * 2, none⟩) gbl).trans (Q5.out j hlt).1
          have hp1 := (hbe.cell (p := ⟨br, offr + j * 2 + 1, none⟩) gbl).trans (Q5.out j hlt).2
          clear hbe
          obtain ⟨u, y, hye, hu32, hy32, hh1, hh2, hh3⟩ := HY.out j hlt
          rw [hye] at hp0 hp1
          have HMs := Lib.hid (show metTo es (j + 1) = metTo es j ++ [y] by rw [metTo_succ (by rw [HKl.out]; exact hlt), hye]; rfl)
          have HMl := Lib.hid (show (metTo es j).length = j from metTo_len (by rw [HKl.out]; omega))
          have HT1 := Lib.hid (fun v w h => lawsHolds v (toI D) (y : Int) w h)
          have HT2 := Lib.hid (fun v w h => lawsHolds v (toI ns) (u : Int) w h)
          have HT3 := Lib.hid (fun v w h => lawsHolds v (toI ns) ((u : Int) + (y : Int)) w h)
          rw [hh1] at HT1
          rw [hh2] at HT2
          rw [hh3] at HT3
          have hwab : IntKind.i64.wrap ((u : Int) + (y : Int)) = (u : Int) + (y : Int) := by rw [IntKind.wrap_i64]; omega
          clear HY HMet hye hh1 hh2 hh3
          have hjI : (j : Int) < (K : Int) := by omega
          obtain ⟨w8, hwr⟩ : ∃ w8, w8 = wr := ⟨_, rfl⟩
          subst hwr
          have x0 := X.out.out.at0
          have x1 := X.out.out.at1
          go_wp2_with fail
          refine wp_region_held_drew (S := fun w' => w'.cell? ⟨o, 0, none⟩ = some (.int .i64 (m : Int)) ∧ w'.cell? ⟨o, 1, none⟩ = some (.slice a1 L c1) ∧ w'.cell? ⟨br, offr + j * 2, none⟩ = some (.int .i64 (u : Int)) ∧ w'.cell? ⟨br, offr + j * 2 + 1, none⟩ = some (.int .i64 (y : Int))) (by kernel_rfl) (by first | exact ⟨x0, x1, hp0, hp1⟩ | go_keep) (fun hHeld => ?_)
          refine wpAnyH_take (i := 0) (v := ?_) rfl (by kernel_rfl) (by kernel_rfl) (by kernel_rfl) (fun _ _ _ h => h) (Or.inl ⟨by rfl, ?_⟩) (by assumption) ?_
          rotate_left
          · (intro w hSw; (try dsimp only at hSw); go_simp; try with_reducible rfl)
          try simp only [List.getElem_toArray, List.getElem_cons_zero, Act.put, List.setIfInBounds_toArray, List.set_cons_zero, List.set_cons_succ]
          refine wpAnyH_take (i := 1) (v := ?_) rfl (by kernel_rfl) (by kernel_rfl) (by kernel_rfl) (fun _ _ _ h => h) (Or.inl ⟨by rfl, ?_⟩) (by assumption) ?_
          rotate_left
          · (intro w hSw; (try dsimp only at hSw); go_simp; try with_reducible rfl)
          try simp only [List.getElem_toArray, List.getElem_cons_zero, List.getElem_cons_succ, Act.put, List.setIfInBounds_toArray, List.set_cons_zero, List.set_cons_succ]
          refine wpAnyH_take (i := 2) (v := ?_) rfl (by kernel_rfl) (by kernel_rfl) (by kernel_rfl) (fun _ _ _ h => h) (Or.inl ⟨by rfl, ?_⟩) (by assumption) ?_
          rotate_left
          · (intro w hSw; (try dsimp only at hSw); go_simp; try with_reducible rfl)
          try simp only [List.getElem_toArray, List.getElem_cons_zero, List.getElem_cons_succ, Act.put, List.setIfInBounds_toArray, List.set_cons_zero, List.set_cons_succ]
          refine wpAnyH_take (i := 3) (v := ?_) rfl (by kernel_rfl) (by kernel_rfl) (by kernel_rfl) (fun _ _ _ h => h) (Or.inl ⟨by rfl, ?_⟩) (by assumption) ?_
          rotate_left
          · (intro w hSw; (try dsimp only at hSw); go_simp; try with_reducible rfl)
          try simp only [List.getElem_toArray, List.getElem_cons_zero, List.getElem_cons_succ, Act.put, List.setIfInBounds_toArray, List.set_cons_zero, List.set_cons_succ]
          refine wpAnyH_take (i := 4) (v := ?_) rfl (by kernel_rfl) (by kernel_rfl) (by kernel_rfl) (fun _ _ _ h => h) (Or.inl ⟨by rfl, ?_⟩) (by assumption) ?_
          rotate_left
          · (intro w hSw; (try dsimp only at hSw); go_simp; try with_reducible rfl)
          try simp only [List.getElem_toArray, List.getElem_cons_zero, List.getElem_cons_succ, Act.put, List.setIfInBounds_toArray, List.set_cons_zero, List.set_cons_succ]
          refine wpAnyH_take (i := 5) (v := ?_) rfl (by kernel_rfl) (by kernel_rfl) (by kernel_rfl) (fun _ _ _ h => h) (Or.inl ⟨by rfl, ?_⟩) (by assumption) ?_
          rotate_left
          · (intro w hSw; (try dsimp only at hSw); go_simp; try with_reducible rfl)
          try simp only [List.getElem_toArray, List.getElem_cons_zero, List.getElem_cons_succ, Act.put, List.setIfInBounds_toArray, List.set_cons_zero, List.set_cons_succ]
          refine wpAnyH_ready (rs := [6]) (by kernel_rfl) (by simp) ?_
          refine AllReadyH.cons rfl (fun K hK => ?_) AllReadyH.nil
          try simp only [List.getElem_toArray]
          go_simp
          (go_at_call 16; refine (HT1.out _ _ (by first | exact IL.out.rd | exact IL.out.rd.below (k := w8.heap.size) ((Below.refl _ _).drew) (Nat.le_refl _))).mono ?_; rintro e w98 ⟨rfl, hw98⟩; subst w98)
          refine hK.out _ _ (by first | exact ⟨x0, x1, hp0, hp1⟩ | go_keep) (fun hHeld => ?_)
          clear hK K
          try simp only [List.getElem_toArray, List.getElem_cons_zero, List.getElem_cons_succ, Act.put, List.setIfInBounds_toArray, List.set_cons_zero, List.set_cons_succ]
          refine wpAnyH_take (i := 7) (v := ?_) rfl (by kernel_rfl) (by kernel_rfl) (by kernel_rfl) (fun _ _ _ h => h) (Or.inl ⟨by rfl, ?_⟩) (by assumption) ?_
          rotate_left
          · (intro w hSw; (try dsimp only at hSw); go_simp; try with_reducible rfl)
          try simp only [List.getElem_toArray, List.getElem_cons_zero, List.getElem_cons_succ, Act.put, List.setIfInBounds_toArray, List.set_cons_zero, List.set_cons_succ]
          refine wpAnyH_take (i := 8) (v := ?_) rfl (by kernel_rfl) (by kernel_rfl) (by kernel_rfl) (fun _ _ _ h => h) (Or.inl ⟨by rfl, ?_⟩) (by assumption) ?_
          rotate_left
          · (intro w hSw; (try dsimp only at hSw); go_simp; try with_reducible rfl)
          try simp only [List.getElem_toArray, List.getElem_cons_zero, List.getElem_cons_succ, Act.put, List.setIfInBounds_toArray, List.set_cons_zero, List.set_cons_succ]
          refine wpAnyH_take (i := 9) (v := ?_) rfl (by kernel_rfl) (by kernel_rfl) (by kernel_rfl) (fun _ _ _ h => h) (Or.inl ⟨by rfl, ?_⟩) (by assumption) ?_
          rotate_left
          · (intro w hSw; (try dsimp only at hSw); go_simp; try with_reducible rfl)
          try simp only [List.getElem_toArray, List.getElem_cons_zero, List.getElem_cons_succ, Act.put, List.setIfInBounds_toArray, List.set_cons_zero, List.set_cons_succ]
          refine wpAnyH_take (i := 10) (v := ?_) rfl (by kernel_rfl) (by kernel_rfl) (by kernel_rfl) (fun _ _ _ h => h) (Or.inl ⟨by rfl, ?_⟩) (by assumption) ?_
          rotate_left
          · (intro w hSw; (try dsimp only at hSw); go_simp; try with_reducible rfl)
          try simp only [List.getElem_toArray, List.getElem_cons_zero, List.getElem_cons_succ, Act.put, List.setIfInBounds_toArray, List.set_cons_zero, List.set_cons_succ]
          refine wpAnyH_take (i := 11) (v := ?_) rfl (by kernel_rfl) (by kernel_rfl) (by kernel_rfl) (fun _ _ _ h => h) (Or.inl ⟨by rfl, ?_⟩) (by assumption) ?_
          rotate_left
          · (intro w hSw; (try dsimp only at hSw); go_simp; try with_reducible rfl)
          try simp only [List.getElem_toArray, List.getElem_cons_zero, List.getElem_cons_succ, Act.put, List.setIfInBounds_toArray, List.set_cons_zero, List.set_cons_succ]
          refine wpAnyH_take (i := 12) (v := ?_) rfl (by kernel_rfl) (by kernel_rfl) (by kernel_rfl) (fun _ _ _ h => h) (Or.inl ⟨by rfl, ?_⟩) (by assumption) ?_
          rotate_left
          · (intro w hSw; (try dsimp only at hSw); go_simp; try with_reducible rfl)
          try simp only [List.getElem_toArray, List.getElem_cons_zero, List.getElem_cons_succ, Act.put, List.setIfInBounds_toArray, List.set_cons_zero, List.set_cons_succ]
          refine wpAnyH_take (i := 13) (v := ?_) rfl (by kernel_rfl) (by kernel_rfl) (by kernel_rfl) (fun _ _ _ h => h) (Or.inl ⟨by rfl, ?_⟩) (by assumption) ?_
          rotate_left
          · (intro w hSw; (try dsimp only at hSw); go_simp; try with_reducible rfl)
          try simp only [List.getElem_toArray, List.getElem_cons_zero, List.getElem_cons_succ, Act.put, List.setIfInBounds_toArray, List.set_cons_zero, List.set_cons_succ]
          refine wpAnyH_take (i := 14) (v := ?_) rfl (by kernel_rfl) (by kernel_rfl) (by kernel_rfl) (fun _ _ _ h => h) (Or.inl ⟨by rfl, ?_⟩) (by assumption) ?_
          rotate_left
          · (intro w hSw; (try dsimp only at hSw); go_simp; try with_reducible rfl)
          try simp only [List.getElem_toArray, List.getElem_cons_zero, List.getElem_cons_succ, Act.put, List.setIfInBounds_toArray, List.set_cons_zero, List.set_cons_succ]
          refine wpAnyH_take (i := 15) (v := ?_) rfl (by kernel_rfl) (by kernel_rfl) (by kernel_rfl) (fun _ _ _ h => h) (Or.inl ⟨by rfl, ?_⟩) (by assumption) ?_
          rotate_left
          · (intro w hSw; (try dsimp only at hSw); go_simp; try with_reducible rfl)
          try simp only [List.getElem_toArray, List.getElem_cons_zero, List.getElem_cons_succ, Act.put, List.setIfInBounds_toArray, List.set_cons_zero, List.set_cons_succ]
          refine wpAnyH_ready (rs := [16]) (by kernel_rfl) (by simp) ?_
          refine AllReadyH.cons rfl (fun K hK => ?_) AllReadyH.nil
          try simp only [List.getElem_toArray]
          go_simp
          (go_at_call 16; refine (HT2.out _ _ (by first | exact I1.out.rd | exact I1.out.rd.below (k := w8.heap.size) ((Below.refl _ _).drew) (Nat.le_refl _))).mono ?_; rintro e w98 ⟨rfl, hw98⟩; subst w98)
          refine hK.out _ _ (by first | exact ⟨x0, x1, hp0, hp1⟩ | go_keep) (fun hHeld => ?_)
          clear hK K
          try simp only [List.getElem_toArray, List.getElem_cons_zero, List.getElem_cons_succ, Act.put, List.setIfInBounds_toArray, List.set_cons_zero, List.set_cons_succ]
          refine wpAnyH_take (i := 17) (v := ?_) rfl (by kernel_rfl) (by kernel_rfl) (by kernel_rfl) (fun _ _ _ h => h) (Or.inl ⟨by rfl, ?_⟩) (by assumption) ?_
          rotate_left
          · (intro w hSw; (try dsimp only at hSw); go_simp; try with_reducible rfl)
          try simp only [List.getElem_toArray, List.getElem_cons_zero, List.getElem_cons_succ, Act.put, List.setIfInBounds_toArray, List.set_cons_zero, List.set_cons_succ]
          refine wpAnyH_take (i := 18) (v := ?_) rfl (by kernel_rfl) (by kernel_rfl) (by kernel_rfl) (fun _ _ _ h => h) (Or.inl ⟨by rfl, ?_⟩) (by assumption) ?_
          rotate_left
          · (intro w hSw; (try dsimp only at hSw); go_simp; try with_reducible rfl)
          try simp only [List.getElem_toArray, List.getElem_cons_zero, List.getElem_cons_succ, Act.put, List.setIfInBounds_toArray, List.set_cons_zero, List.set_cons_succ]
          refine wpAnyH_take (i := 19) (v := ?_) rfl (by kernel_rfl) (by kernel_rfl) (by kernel_rfl) (fun _ _ _ h => h) (Or.inl ⟨by rfl, ?_⟩) (by assumption) ?_
          rotate_left
          · (intro w hSw; (try dsimp only at hSw); go_simp; try with_reducible rfl)
          try simp only [List.getElem_toArray, List.getElem_cons_zero, List.getElem_cons_succ, Act.put, List.setIfInBounds_toArray, List.set_cons_zero, List.set_cons_succ]
          refine wpAnyH_take (i := 20) (v := ?_) rfl (by kernel_rfl) (by kernel_rfl) (by kernel_rfl) (fun _ _ _ h => h) (Or.inl ⟨by rfl, ?_⟩) (by assumption) ?_
          rotate_left
          · (intro w hSw; (try dsimp only at hSw); go_simp; try with_reducible rfl)
          try simp only [List.getElem_toArray, List.getElem_cons_zero, List.getElem_cons_succ, Act.put, List.setIfInBounds_toArray, List.set_cons_zero, List.set_cons_succ]
          refine wpAnyH_take (i := 21) (v := ?_) rfl (by kernel_rfl) (by kernel_rfl) (by kernel_rfl) (fun _ _ _ h => h) (Or.inl ⟨by rfl, ?_⟩) (by assumption) ?_
          rotate_left
          · (intro w hSw; (try dsimp only at hSw); go_simp; try with_reducible rfl)
          try simp only [List.getElem_toArray, List.getElem_cons_zero, List.getElem_cons_succ, Act.put, List.setIfInBounds_toArray, List.set_cons_zero, List.set_cons_succ]
          refine wpAnyH_take (i := 22) (v := ?_) rfl (by kernel_rfl) (by kernel_rfl) (by kernel_rfl) (fun _ _ _ h => h) (Or.inl ⟨by rfl, ?_⟩) (by assumption) ?_
          rotate_left
          · (intro w hSw; (try dsimp only at hSw); go_simp; try with_reducible rfl)
          try simp only [List.getElem_toArray, List.getElem_cons_zero, List.getElem_cons_succ, Act.put, List.setIfInBounds_toArray, List.set_cons_zero, List.set_cons_succ]
          refine wpAnyH_take (i := 23) (v := ?_) rfl (by kernel_rfl) (by kernel_rfl) (by kernel_rfl) (fun _ _ _ h => h) (Or.inl ⟨by rfl, ?_⟩) (by assumption) ?_
          rotate_left
          · (intro w hSw; (try dsimp only at hSw); go_simp; try with_reducible rfl)
          try simp only [List.getElem_toArray, List.getElem_cons_zero, List.getElem_cons_succ, Act.put, List.setIfInBounds_toArray, List.set_cons_zero, List.set_cons_succ]
          refine wpAnyH_take (i := 24) (v := ?_) rfl (by kernel_rfl) (by kernel_rfl) (by kernel_rfl) (fun _ _ _ h => h) (Or.inl ⟨by rfl, ?_⟩) (by assumption) ?_
          rotate_left
          · (intro w hSw; (try dsimp only at hSw); go_simp; try with_reducible rfl)
          try simp only [List.getElem_toArray, List.getElem_cons_zero, List.getElem_cons_succ, Act.put, List.setIfInBounds_toArray, List.set_cons_zero, List.set_cons_succ]
          refine wpAnyH_take (i := 25) (v := ?_) rfl (by kernel_rfl) (by kernel_rfl) (by kernel_rfl) (fun _ _ _ h => h) (Or.inl ⟨by rfl, ?_⟩) (by assumption) ?_
          rotate_left
          · (intro w hSw; (try dsimp only at hSw); go_simp; try with_reducible rfl)
          try simp only [List.getElem_toArray, List.getElem_cons_zero, List.getElem_cons_succ, Act.put, List.setIfInBounds_toArray, List.set_cons_zero, List.set_cons_succ]
          refine wpAnyH_take (i := 26) (v := ?_) rfl (by kernel_rfl) (by kernel_rfl) (by kernel_rfl) (fun _ _ _ h => h) (Or.inl ⟨by rfl, ?_⟩) (by assumption) ?_
          rotate_left
          · (intro w hSw; (try dsimp only at hSw); go_simp; try with_reducible rfl)
          try simp only [List.getElem_toArray, List.getElem_cons_zero, List.getElem_cons_succ, Act.put, List.setIfInBounds_toArray, List.set_cons_zero, List.set_cons_succ]
          refine wpAnyH_take (i := 27) (v := ?_) rfl (by kernel_rfl) (by kernel_rfl) (by kernel_rfl) (fun _ _ _ h => h) (Or.inl ⟨by rfl, ?_⟩) (by assumption) ?_
          rotate_left
          · (intro w hSw; (try dsimp only at hSw); go_simp; try with_reducible rfl)
          try simp only [List.getElem_toArray, List.getElem_cons_zero, List.getElem_cons_succ, Act.put, List.setIfInBounds_toArray, List.set_cons_zero, List.set_cons_succ]
          refine wpAnyH_take (i := 28) (v := ?_) rfl (by kernel_rfl) (by kernel_rfl) (by kernel_rfl) (fun _ _ _ h => h) (Or.inl ⟨by rfl, ?_⟩) (by assumption) ?_
          rotate_left
          · (intro w hSw; (try dsimp only at hSw); go_simp; try with_reducible rfl)
          try simp only [List.getElem_toArray, List.getElem_cons_zero, List.getElem_cons_succ, Act.put, List.setIfInBounds_toArray, List.set_cons_zero, List.set_cons_succ]
          refine wpAnyH_take (i := 29) (v := ?_) rfl (by kernel_rfl) (by kernel_rfl) (by kernel_rfl) (fun _ _ _ h => h) (Or.inl ⟨by rfl, ?_⟩) (by assumption) ?_
          rotate_left
          · (intro w hSw; (try dsimp only at hSw); go_simp; try with_reducible rfl)
          try simp only [List.getElem_toArray, List.getElem_cons_zero, List.getElem_cons_succ, Act.put, List.setIfInBounds_toArray, List.set_cons_zero, List.set_cons_succ]
          refine wpAnyH_take (i := 30) (v := ?_) rfl (by kernel_rfl) (by kernel_rfl) (by kernel_rfl) (fun _ _ _ h => h) (Or.inl ⟨by rfl, ?_⟩) (by assumption) ?_
          rotate_left
          · (intro w hSw; (try dsimp only at hSw); go_simp; try with_reducible rfl)
          try simp only [List.getElem_toArray, List.getElem_cons_zero, List.getElem_cons_succ, Act.put, List.setIfInBounds_toArray, List.set_cons_zero, List.set_cons_succ]
          refine wpAnyH_take (i := 31) (v := ?_) rfl (by kernel_rfl) (by kernel_rfl) (by kernel_rfl) (fun _ _ _ h => h) (Or.inl ⟨by rfl, ?_⟩) (by assumption) ?_
          rotate_left
          · (intro w hSw; (try dsimp only at hSw); go_simp; try with_reducible rfl)
          try simp only [List.getElem_toArray, List.getElem_cons_zero, List.getElem_cons_succ, Act.put, List.setIfInBounds_toArray, List.set_cons_zero, List.set_cons_succ]
          refine wpAnyH_take (i := 32) (v := ?_) rfl (by kernel_rfl) (by kernel_rfl) (by kernel_rfl) (fun _ _ _ h => h) (Or.inl ⟨by rfl, ?_⟩) (by assumption) ?_
          rotate_left
          · (intro w hSw; (try dsimp only at hSw); go_simp; (try rw [hwab]); try with_reducible rfl)
          try simp only [List.getElem_toArray, List.getElem_cons_zero, List.getElem_cons_succ, Act.put, List.setIfInBounds_toArray, List.set_cons_zero, List.set_cons_succ]
          refine wpAnyH_ready (rs := [33]) (by kernel_rfl) (by simp) ?_
          refine AllReadyH.cons rfl (fun K hK => ?_) AllReadyH.nil
          try simp only [List.getElem_toArray]
          go_simp
          (go_at_call 16; refine (HT3.out _ _ (by first | exact I1.out.rd | exact I1.out.rd.below (k := w8.heap.size) ((Below.refl _ _).drew) (Nat.le_refl _))).mono ?_; rintro e w98 ⟨rfl, hw98⟩; subst w98)
          refine hK.out _ _ (by first | exact ⟨x0, x1, hp0, hp1⟩ | go_keep) (fun hHeld => ?_)
          clear hK K
          try simp only [List.getElem_toArray, List.getElem_cons_zero, List.getElem_cons_succ, Act.put, List.setIfInBounds_toArray, List.set_cons_zero, List.set_cons_succ]
          refine wpAnyH_take (i := 34) (v := ?_) rfl (by kernel_rfl) (by kernel_rfl) (by kernel_rfl) (fun _ _ _ h => h) (Or.inl ⟨by rfl, ?_⟩) (by assumption) ?_
          rotate_left
          · (intro w hSw; (try dsimp only at hSw); go_simp; try with_reducible rfl)
          try simp only [List.getElem_toArray, List.getElem_cons_zero, List.getElem_cons_succ, Act.put, List.setIfInBounds_toArray, List.set_cons_zero, List.set_cons_succ]
          refine wpAnyH_take (i := 35) (v := ?_) rfl (by kernel_rfl) (by kernel_rfl) (by kernel_rfl) (fun _ _ _ h => h) (Or.inl ⟨by rfl, ?_⟩) (by assumption) ?_
          rotate_left
          · (intro w hSw; (try dsimp only at hSw); go_simp; try with_reducible rfl)
          try simp only [List.getElem_toArray, List.getElem_cons_zero, List.getElem_cons_succ, Act.put, List.setIfInBounds_toArray, List.set_cons_zero, List.set_cons_succ]
          refine wpAnyH_done (by kernel_rfl) ?_ _
          go_upto_region 14 with (fail)
          have HP0 := Lib.hid hp0
          have HP1 := Lib.hid hp1
          replace IM' := Lib.hid (show Ints _ w8.drew _ _ from IM'.out)
          replace HBE := Lib.hid HBE.out.drew
          replace HP0 := Lib.hid (show w8.drew.cell? ⟨br, offr + j * 2, none⟩ = _ from HP0.out)
          replace HP1 := Lib.hid (show w8.drew.cell? ⟨br, offr + j * 2 + 1, none⟩ = _ from HP1.out)
          have hzd : w8.drew.heap.size = w8.heap.size := rfl
          clear hp0 hp1 x0 x1 X I1 IL B
          generalize w8.drew = wd at *
          have hzd2 : w7.heap.size ≤ wd.heap.size := by omega
          clear hzd
          have hp0 := HP0.out
          have hp1 := HP1.out
          go_wp2_with (at_builtin; refine wpList_app rfl (.tmp 74) (.tmp 80) rfl w7.heap.size _ (toI (metTo es j)) rfl (by exact IM'.out.alloc _) _ _ _ [(y : Int)] rfl (src_cell (by rw [World.cell?_alloc_at _ _ _ _ rfl]; rfl)) (by rw [toI_length, HMl.out]; omega) (by simp; omega) ?_; intro a3 c3 w6 hin6 hb6 hg6; rw [toI_length, HMl.out] at hin6 ⊢; have I6 := Lib.hid hin6; have B6 := Lib.hid (show Below w7.heap.size w7 w6 from (HBE.out.alloc (by omega) _).trans hb6); clear hin6 hb6 hg6)
          go_roundw
          case rel => exact ⟨j + 1, c3, a3, by omega, by go_num, rfl, by rw [HMs.out, toI_append]; exact I6.out, B6.out⟩
          case measure => simp [intOf]; omega
        · clear hbe
          obtain rfl : j = K := by omega
          have HAm := Lib.hid (fun v1 v2 w h1 h2 => lawsAmong v1 v2 D (metTo es j) w h1 h2 (by have h9 := HMet.out; rw [HKl.out] at h9; exact h9))
          clear HY HMet Q1 Q5
          have x0 := X.out.out.at0
          have x1 := X.out.out.at1
          go_wp2_with fail
          refine (HAm.out _ _ _ IL.out.rd IM'.out.rd).mono ?_
          rintro e w9 ⟨rfl, hw9⟩
          subst w9
          go_wp2_with fail
          go_ret
          exact ⟨rfl, B.out⟩
    · rw [Bool.not_eq_true] at hv
      have HI := Lib.hid (fun v w h => implCubesOf N v zs w h)
      have HS := Lib.hid (fun v w h => specCubesOf N v zs w h)
      have HV := Lib.hid (fun v w h => implValid N v zs w h)
      rw [cubL_bad hv] at HI HS
      rw [hv] at HV
      clear hv
      refine (HI.out _ _ I1.out.rd).mono ?_
      rintro e w3 ⟨a3, c3, rfl, hin3, hb3⟩
      have hz3 := hb3.size
      replace X := Lib.hid (X.out.next hb3 X.out.lt)
      replace I1 := Lib.hid (I1.out.below hb3 (Nat.le_refl _))
      replace B := Lib.hid (B.out.trans (hb3.mono B.out.size))
      have IP := Lib.hid (hin3.mono (Nat.zero_le _))
      clear hin3 hb3
      have x0 := X.out.out.at0
      have x1 := X.out.out.at1
      go_wp2_with fail
      clear x0 x1
      refine (HS.out _ _ I1.out.rd).mono ?_
      rintro e w4 ⟨a4, c4, rfl, hin4, hb4⟩
      have hz4 := hb4.size
      replace X := Lib.hid (X.out.next hb4 X.out.lt)
      replace I1 := Lib.hid (I1.out.below hb4 (Nat.le_refl _))
      replace IP := Lib.hid (IP.out.below hb4 (Nat.le_refl _))
      replace B := Lib.hid (B.out.trans (hb4.mono B.out.size))
      have IQ := Lib.hid (hin4.mono (Nat.zero_le _))
      clear hin4 hb4
      have x0 := X.out.out.at0
      have x1 := X.out.out.at1
      go_wp2_with fail
      clear x0 x1
      refine (lawsEqualPairs _ _ [] _ IP.out.rd IQ.out.rd).mono ?_
      rintro e w5 ⟨rfl, hb5⟩
      have hz5 := hb5.size
      replace X := Lib.hid (X.out.next hb5 X.out.lt)
      replace I1 := Lib.hid (I1.out.below hb5 (Nat.le_refl _))
      replace IP := Lib.hid (IP.out.below hb5 (Nat.le_refl _))
      replace IQ := Lib.hid (IQ.out.below hb5 (Nat.le_refl _))
      replace B := Lib.hid (B.out.trans (hb5.mono B.out.size))
      clear hb5
      have x0 := X.out.out.at0
      have x1 := X.out.out.at1
      go_wp2_with fail
      clear x0 x1
      refine (HV.out _ _ I1.out.rd).mono ?_
      rintro e w6 ⟨rfl, hb6⟩
      have hz6 := hb6.size
      replace X := Lib.hid (X.out.next hb6 X.out.lt)
      replace I1 := Lib.hid (I1.out.below hb6 (Nat.le_refl _))
      replace IP := Lib.hid (IP.out.below hb6 (Nat.le_refl _))
      replace IQ := Lib.hid (IQ.out.below hb6 (Nat.le_refl _))
      replace B := Lib.hid (B.out.trans (hb6.mono B.out.size))
      clear hb6
      have x0 := X.out.out.at0
      have x1 := X.out.out.at1
      go_wp2_with fail
      clear x0 x1
      refine (HS.out _ _ I1.out.rd).mono ?_
      rintro e w7 ⟨a7, c7, rfl, hin7, hb7⟩
      have hz7 := hb7.size
      replace X := Lib.hid (X.out.next hb7 X.out.lt)
      replace I1 := Lib.hid (I1.out.below hb7 (Nat.le_refl _))
      replace IP := Lib.hid (IP.out.below hb7 (Nat.le_refl _))
      replace IQ := Lib.hid (IQ.out.below hb7 (Nat.le_refl _))
      replace B := Lib.hid (B.out.trans (hb7.mono B.out.size))
      have IR := Lib.hid (hin7.mono (Nat.zero_le _))
      clear hin7 hb7
      have x0 := X.out.out.at0
      have x1 := X.out.out.at1
      go_wp2_with fail
      clear x0 x1
      refine (lawsEqualPairs _ _ [] _ IP.out.rd IR.out.rd).mono ?_
      rintro e w8 ⟨rfl, hb8⟩
      have hz8 := hb8.size
      replace X := Lib.hid (X.out.next hb8 X.out.lt)
      replace I1 := Lib.hid (I1.out.below hb8 (Nat.le_refl _))
      replace IP := Lib.hid (IP.out.below hb8 (Nat.le_refl _))
      replace IQ := Lib.hid (IQ.out.below hb8 (Nat.le_refl _))
      replace IR := Lib.hid (IR.out.below hb8 (Nat.le_refl _))
      replace B := Lib.hid (B.out.trans (hb8.mono B.out.size))
      clear hb8
      have x0 := X.out.out.at0
      have x1 := X.out.out.at1
      go_wp2_with fail
      clear x0 x1
      go_ret
      exact ⟨rfl, by first | exact B.out | exact B.out.drew⟩
  · go_enter Try.func3, Try.ntmps3
    go_wp2_with fail
    go_ret
    exact ⟨rfl, Below.refl _ _⟩

end Go.Proofs.Ytmfekmedhmapfaa
