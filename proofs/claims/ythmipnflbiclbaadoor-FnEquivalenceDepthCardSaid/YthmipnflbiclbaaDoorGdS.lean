/- EquivalenceDepth, the model's. Conditions: Sets is a slice of ints. -/
import Derived.Deep.RegionHeld3
import Derived.Test.YthmipnflbiclbaaDoorEqdI
import Derived.Test.YthmipnflbiclbaaDoorGdP
import Derived.Test.YthmipnflbiclbaaDoorZA
import Derived.Test.YthmipnflbiclbaaDoorZH
namespace Go.Proofs.YthmipnflbiclbaaDoor
open Go.RowKit

set_option maxHeartbeats 800000 in
theorem specHas7 (s x : Nat) (hs : s < 4096) (hx : x < 7) (w : World) :
    Calls Tryd.prog 95 #[.int .i64 (s : Int), .int .i64 (x : Int)] w fun e w' => e = .returned (.bool (hasX x s)) ∧ w' = w := by
  have HQ := Lib.hid (show (s : Int) / (2 : Int) ^ x = ((s / 2 ^ x : Nat) : Int) by simp)
  have hr : s / 2 ^ x < 4096 := Nat.lt_of_le_of_lt (Nat.div_le_self _ _) hs
  have HE := Lib.hid (show hasX x s = decide (s / 2 ^ x % 2 = 1) from rfl)
  have hp := two_pow_le x (by omega)
  have HPW := Lib.hid (fun w => specPower (x : Int) w (by omega) (by omega))
  rw [Int.toNat_natCast] at HPW
  go_enter Tryd.func95, Tryd.ntmps95
  go_wp2_with fail
  refine (HPW.out _).mono ?_
  rintro e w1 ⟨rfl, rfl⟩
  generalize (2 : Int) ^ x = q at *
  generalize s / 2 ^ x = r at *
  have hne : q ≠ 0 := by omega
  go_wp2_with fail
  go_ret
  exact ⟨ret_bool (by
    rw [HE.out, HQ.out, show wrap64 (r : Int) = r by simp only [wrap64]; omega, Int.tmod_eq_emod_of_nonneg (by omega), Bool.eq_iff_iff]
    simp
    omega), rfl⟩

set_option maxHeartbeats 3200000 in
set_option maxRecDepth 100000 in
theorem specCounter (ns : List Nat) (hl : ns.length ≤ 7) (h32 : ∀ t ∈ ns, t < 32) (mask g x : Nat) (hm : mask < 128) (hg : g < 32) (hx : x < 5) (v : Value) (w : World) (h : Rd w v (toI ns)) :
    Calls Tryd.prog 110 #[v, .int .i64 (mask : Int), .int .i64 (g : Int), .int .i64 (x : Int)] w fun e w' => e = .returned (.int .i64 ((cnt' ns mask g x : Nat) : Int)) ∧ w' = w := by
  obtain ⟨a, b, off, cap, rfl, h1, h3, h5⟩ := h
  rw [toI_length] at *
  have H1 := Lib.hid h1
  have H5 := Lib.hid (fun j (hj : j < ns.length) => show w.cell? ⟨b, off + j, none⟩ = some (.int .i64 ((ns.getD j 0 : Nat) : Int)) by have h9 := h5 j hj; rwa [toI_getD] at h9)
  have HM := Lib.hid (fun j (hj : j < 7) w => specHas7 mask j (by omega) hj w)
  have HG := Lib.hid (fun w => specHas7 g x (by omega) (by omega) w)
  have HT := Lib.hid (fun t (ht : t < 32) w => specHas7 t x (by omega) (by omega) w)
  have HSt := Lib.hid (fun j => cTo_succ ns mask g x j)
  have HLt := Lib.hid (fun j (hj : j ≤ 7) => cTo_lt (ns := ns) (mask := mask) (g := g) (x := x) j hj)
  have HCn := Lib.hid (fun j => show cnd ns mask g x j = (hasX j mask && (hasX x (ns.getD j 0) != hasX x g)) from rfl)
  have HE := Lib.hid (show cnt' ns mask g x = cTo ns mask g x ns.length from rfl)
  have HC0 := Lib.hid (show cTo ns mask g x 0 = 0 from rfl)
  have H3 := Lib.hid (fun j (hj : j < ns.length) => h32 _ (getD_of_lt hj))
  clear h1 h5 h32
  rw [HE.out]
  generalize cTo ns mask g x = T at *
  generalize cnd ns mask g x = C at *
  obtain ⟨K, hK⟩ : ∃ K, K = ns.length := ⟨_, rfl⟩
  rw [← hK] at hl h3 H1 H5 H3 ⊢
  clear hK HE
  go_enter Tryd.func110, Tryd.ntmps110
  go_wp2_with fail
  go_loop [9, 10] (fun q i => ∃ j : Nat, j ≤ K ∧ i = .int .i64 j ∧ q = .int .i64 ((T j : Nat) : Int)) (fun _ i => K - (intOf i).toNat)
  case atStart => exact ⟨0, Nat.zero_le _, rfl, by rw [HC0.out]; rfl⟩
  case round =>
    obtain ⟨j, hj, rfl, rfl⟩ := hrel
    have hlt9 := HLt.out j (by omega)
    have hp9 := pow_le_128 (show j ≤ 7 by omega)
    by_cases hlt : j < K
    · have hltI : (j : Int) < (K : Int) := by omega
      obtain ⟨rfl, _⟩ := H1.out (by omega)
      have hc := H5.out j hlt
      have ht32 := H3.out j hlt
      have HMj := Lib.hid (HM.out j (by omega))
      have hcn := HCn.out j
      have hst := HSt.out j
      have HTj := Lib.hid (HT.out _ ht32)
      generalize ns.getD j 0 = t at *
      obtain ⟨t0, ht0⟩ : ∃ t0, t0 = T j := ⟨_, rfl⟩
      obtain ⟨t1, ht1⟩ : ∃ t1, t1 = T (j + 1) := ⟨_, rfl⟩
      rw [← ht0] at hst hlt9 ⊢
      rw [← ht1] at hst
      have HT1 := Lib.hid ht1
      clear ht0 ht1
      have HPj := Lib.hid (fun w => specPower (j : Int) w (by omega) (by omega))
      rw [Int.toNat_natCast, show (2 : Int) ^ j = ((2 ^ j : Nat) : Int) by simp] at HPj
      generalize 2 ^ j = pj at *
      generalize C j = c at *
      have HSt1 := Lib.hid hst
      clear hst H1 H5 H3 HM HT HSt HLt HCn
      cases hb : hasX j mask with
      | false =>
        rw [hb] at HMj
        have HS2 := Lib.hid (show t1 = t0 by rw [HSt1.out, hcn, hb]; rfl)
        clear hcn hb HSt1
        go_wp2_with fail
        refine (HMj.out _).mono ?_
        rintro e w2 ⟨rfl, rfl⟩
        go_wp2_with fail
        go_round
        case rel => exact ⟨j + 1, by omega, by go_num, by rw [← HT1.out, HS2.out]⟩
        case measure => simp [intOf]; omega
      | true =>
        rw [hb] at HMj
        cases hp : hasX x t <;> cases hq : hasX x g
        · rw [hp] at HTj
          have HGx := HG
          rw [hq] at HGx
          have HS2 := Lib.hid (show t1 = t0 by rw [HSt1.out, hcn, hb, hp, hq]; rfl)
          clear hcn hb hp hq HSt1 HG
          go_wp2_with fail
          refine (HMj.out _).mono ?_
          rintro e w2 ⟨rfl, rfl⟩
          go_wp2_with fail
          refine (HTj.out _).mono ?_
          rintro e w2 ⟨rfl, rfl⟩
          go_wp2_with fail
          refine (HGx.out _).mono ?_
          rintro e w2 ⟨rfl, rfl⟩
          go_wp2_with fail
          go_round
          case rel => exact ⟨j + 1, by omega, by go_num, by rw [← HT1.out, HS2.out]⟩
          case measure => simp [intOf]; omega
        · rw [hp] at HTj
          have HGx := HG
          rw [hq] at HGx
          have HS2 := Lib.hid (show t1 = t0 + pj by rw [HSt1.out, hcn, hb, hp, hq]; rfl)
          clear hcn hb hp hq HSt1 HG
          go_wp2_with fail
          refine (HMj.out _).mono ?_
          rintro e w2 ⟨rfl, rfl⟩
          go_wp2_with fail
          refine (HTj.out _).mono ?_
          rintro e w2 ⟨rfl, rfl⟩
          go_wp2_with fail
          refine (HGx.out _).mono ?_
          rintro e w2 ⟨rfl, rfl⟩
          go_wp2_with fail
          refine (HPj.out _).mono ?_
          rintro e w2 ⟨rfl, rfl⟩
          go_wp2_with fail
          go_round
          case rel => exact ⟨j + 1, by omega, by go_num, by rw [← HT1.out, HS2.out]; go_num⟩
          case measure => simp [intOf]; omega
        · rw [hp] at HTj
          have HGx := HG
          rw [hq] at HGx
          have HS2 := Lib.hid (show t1 = t0 + pj by rw [HSt1.out, hcn, hb, hp, hq]; rfl)
          clear hcn hb hp hq HSt1 HG
          go_wp2_with fail
          refine (HMj.out _).mono ?_
          rintro e w2 ⟨rfl, rfl⟩
          go_wp2_with fail
          refine (HTj.out _).mono ?_
          rintro e w2 ⟨rfl, rfl⟩
          go_wp2_with fail
          refine (HGx.out _).mono ?_
          rintro e w2 ⟨rfl, rfl⟩
          go_wp2_with fail
          refine (HPj.out _).mono ?_
          rintro e w2 ⟨rfl, rfl⟩
          go_wp2_with fail
          go_round
          case rel => exact ⟨j + 1, by omega, by go_num, by rw [← HT1.out, HS2.out]; go_num⟩
          case measure => simp [intOf]; omega
        · rw [hp] at HTj
          have HGx := HG
          rw [hq] at HGx
          have HS2 := Lib.hid (show t1 = t0 by rw [HSt1.out, hcn, hb, hp, hq]; rfl)
          clear hcn hb hp hq HSt1 HG
          go_wp2_with fail
          refine (HMj.out _).mono ?_
          rintro e w2 ⟨rfl, rfl⟩
          go_wp2_with fail
          refine (HTj.out _).mono ?_
          rintro e w2 ⟨rfl, rfl⟩
          go_wp2_with fail
          refine (HGx.out _).mono ?_
          rintro e w2 ⟨rfl, rfl⟩
          go_wp2_with fail
          go_round
          case rel => exact ⟨j + 1, by omega, by go_num, by rw [← HT1.out, HS2.out]⟩
          case measure => simp [intOf]; omega
    · obtain rfl : j = K := by omega
      go_wp2_with fail
      go_ret
      exact ⟨rfl, rfl⟩

set_option maxHeartbeats 1600000 in
set_option maxRecDepth 100000 in
theorem specEverything (m : Nat) (hm : m ≤ 5) (w : World) :
    Calls Tryd.prog 63 #[.int .i64 (m : Int)] w (RetInts (toI (List.range (2 ^ m))) w) := by
  have HPW := Lib.hid (fun w => specPower (m : Int) w (by omega) (by omega))
  rw [Int.toNat_natCast, show (2 : Int) ^ m = ((2 ^ m : Nat) : Int) by simp] at HPW
  have h32 := pow_le_32 hm
  have HS := Lib.hid (fun k => show toI (List.range (k + 1)) = toI (List.range k) ++ [(k : Int)] by rw [List.range_succ]; simp [toI])
  have HL := Lib.hid (fun k => show (toI (List.range k)).length = k by rw [toI_length, List.length_range])
  have H0 := Lib.hid (show toI (List.range 0) = [] from rfl)
  generalize 2 ^ m = q at *
  go_enter Tryd.func63, Tryd.ntmps63
  go_wp2_with fail
  go_loopw [3, 4] (fun o i wr => ∃ k : Nat, k ≤ q ∧ i = .int .i64 k ∧ (∃ a' c', o = .slice a' k c') ∧ Ints w.heap.size wr o (toI (List.range k)) ∧ Below w.heap.size w wr) (fun _ i _ => q - (intOf i).toNat)
  case atStart => exact ⟨0, Nat.zero_le _, rfl, ⟨_, _, rfl⟩, by rw [H0.out]; exact Ints.lit' (by simp) (by simp), by go_grown⟩
  case round =>
    obtain ⟨k, hk, rfl, ⟨a', c', rfl⟩, hik, hbk⟩ := hrel
    have Hik := Lib.hid hik
    have Hbk := Lib.hid hbk
    have hzk := hbk.size
    clear hik hbk
    by_cases hlt : k < q
    · have hltI : (k : Int) < (q : Int) := by omega
      have HSk := Lib.hid (HS.out k)
      have HLk := Lib.hid (HL.out k)
      generalize toI (List.range k) = A at *
      go_wp2_with fail
      refine (HPW.out _).mono ?_
      rintro e w2 ⟨rfl, rfl⟩
      go_wp2_with (at_builtin; refine wpList_app rfl (.tmp 12) (.tmp 14) rfl w.heap.size _ A rfl (by exact Hik.out.alloc _) _ _ _ [(k : Int)] rfl (src_cell (by rw [World.cell?_alloc_at _ _ _ _ rfl]; rfl)) (by rw [HLk.out]; omega) (by simp; omega) ?_; intro a1 c1 w3 hin3 hb3 hg3)
      rw [HLk.out] at hin3
      have B3 := Lib.hid ((Hbk.out.alloc hzk _).grown hg3 (by first | omega | (simp; done) | (simp; omega)) (fun r hr => (Hik.out.lt r hr).1))
      have I3 := Lib.hid hin3
      clear hin3 hb3 hg3
      go_roundw
      case rel => exact ⟨k + 1, by omega, by go_num, ⟨a1, c1, by rw [HLk.out]⟩, by rw [HSk.out, HLk.out]; exact I3.out, B3.out⟩
      case measure => simp [intOf]; omega
    · obtain rfl : k = q := by omega
      go_wp2_with fail
      refine (HPW.out _).mono ?_
      rintro e w2 ⟨rfl, rfl⟩
      go_wp2_with fail
      go_ret
      exact RetInts.of Hik.out Hbk.out

theorem Ints.lit1 {B : Nat} {w : World} (x : Int) (hB : B ≤ w.heap.size) : Ints B (w.alloc (.cells #[.int .i64 x] 3)) (.slice (some ⟨w.heap.size, 0, none⟩) 1 1) [x] := World.ownsRow_lit w #[.int .i64 x] 1 hB (by unfold maxLen; omega) rfl

set_option maxHeartbeats 6400000 in
set_option maxRecDepth 100000 in
theorem specGuesses (m : Nat) (hm : m ≤ 5) (ns : List Nat) (hl : ns.length ≤ 7) (h32 : ∀ t ∈ ns, t < 32) (G : List Nat) (hG : ∀ g ∈ G, g < 32) (hGl : G.length ≤ 32) (v u : Value) (w : World) (h : Rd w v (toI ns)) (hu : Rd w u (toI G)) :
    Calls Tryd.prog 64 #[.agg #[.int .i64 (m : Int), v], u] w (RetInts (gTab m G ns (2 ^ ns.length)) w) := by
  have H := Lib.hid h
  have HCt := Lib.hid (fun mask g x hm hg hx v w0 h0 => specCounter ns hl h32 mask g x hm hg hx v w0 h0)
  have HSm := Lib.hid (fun mask g x hm => ctr_same (ns := ns) (mask := mask) (g := g) (x := x) hl hm)
  have HLe := Lib.hid (fun mask g x hm => ctr_le (ns := ns) (mask := mask) (g := g) (x := x) hl hm)
  have HPr := Lib.hid (fun mask g x => ctr_prt (ns := ns) (mask := mask) (g := g) (x := x) hl)
  have HNe := Lib.hid (fun mask h0 hm => prt_some (ns := ns) (mask := mask) hl h0 hm)
  have HGe := Lib.hid (fun j (hj : j < G.length) => hG _ (getD_of_lt hj))
  have HTl := Lib.hid (fun k => gTab_len m G ns k)
  have HTs := Lib.hid (fun k => gTab_succ m G ns k)
  have HTa := Lib.hid (fun (k i : Nat) (hi : i < k) => gTab_at (n := m) (G := G) (ns := ns) hi)
  have HT1 := Lib.hid (gTab_one m G ns)
  have hbd := gd_bd m G
  have hp128 := pow_le_128 hl
  have hp1 : 1 ≤ 2 ^ ns.length := Nat.pow_pos (by omega)
  have HPW := Lib.hid (fun w => specPower (ns.length : Int) w (by omega) (by omega))
  rw [Int.toNat_natCast, show (2 : Int) ^ ns.length = ((2 ^ ns.length : Nat) : Int) by simp] at HPW
  obtain ⟨a, b, off, cap, rfl, _, _, _⟩ := h
  obtain ⟨a2, b2, off2, cap2, rfl, q1, q3, q5⟩ := hu
  simp only [toI_length] at H q1 q3 ⊢
  have Q1 := Lib.hid q1
  have Q5 := Lib.hid (fun j (hj : j < G.length) => show w.cell? ⟨b2, off2 + j, none⟩ = some (.int .i64 ((G.getD j 0 : Nat) : Int)) by have h9 := q5 j (by rw [toI_length]; exact hj); rwa [toI_getD] at h9)
  have HBd := Lib.hid hbd
  have HGs := Lib.hid (fun L (hne : L ≠ []) => gd_step (n := m) (G := G) (L := L) hne)
  clear q1 q5 hG h32
  obtain ⟨K, hK⟩ : ∃ K, K = G.length := ⟨_, rfl⟩
  rw [← hK] at hGl q3 Q1 Q5 HGe HGs ⊢
  obtain ⟨L0, hL0⟩ : ∃ L0, L0 = ns.length := ⟨_, rfl⟩
  rw [← hL0] at H hl HPW hp128 hp1 HSm HLe HNe ⊢
  obtain ⟨q, hq⟩ : ∃ q, q = 2 ^ L0 := ⟨_, rfl⟩
  rw [← hq] at HPW hp128 hp1 HSm HLe HNe ⊢
  clear hK hL0 hq
  have B0 := Lib.hid ((Box.made (m : Int) (.slice a L0 cap) w 25).next (by simp) ((Below.refl _ _).alloc (Nat.le_refl _) (.cells #[.int .i64 0] 3)))
  have I0 := Lib.hid (Ints.lit1 (B := w.heap.size + 1) (w := w.alloc (.cells #[.int .i64 (m : Int), .slice a L0 cap] 25)) 0 (by simp))
  rw [show (w.alloc (.cells #[.int .i64 (m : Int), .slice a L0 cap] 25)).heap.size = w.heap.size + 1 by simp] at I0
  go_enter Tryd.func64, Tryd.ntmps64
  go_wp2_with fail
  go_loopw [5, 6] (fun tb i wr => ∃ k : Nat, 1 ≤ k ∧ k ≤ q ∧ i = .int .i64 k ∧ (∃ a' c', tb = .slice a' k c') ∧ Ints (w.heap.size + 1) wr tb (gTab m G ns k) ∧ Box m (.slice a L0 cap) w wr ∧ w.heap.size + 1 < wr.heap.size) (fun _ i _ => q - (intOf i).toNat)
  case atStart => exact ⟨1, Nat.le_refl _, hp1, rfl, ⟨_, _, rfl⟩, by rw [HT1.out]; exact I0.out, B0.out, by simp⟩
  case round =>
    obtain ⟨k, hk1, hk, rfl, ⟨a', c', rfl⟩, hik, hbx, hzr⟩ := hrel
    have IK := Lib.hid hik
    have BX := Lib.hid hbx
    clear hik hbx B0 I0
    obtain ⟨wo, hwo⟩ : ∃ wo, wo = wr := ⟨_, rfl⟩
    subst hwo
    have c0 := BX.out.at0
    have c1 := BX.out.at1
    by_cases hlt : k < q
    · have hltI : (k : Int) < (q : Int) := by omega
      have HGk := Lib.hid (HGs.out _ (HNe.out k (by omega) hlt))
      have HCk := Lib.hid (fun g x hg hx v w0 h0 => HCt.out k g x (by omega) hg hx v w0 h0)
      have HSk := Lib.hid (fun g x => HSm.out k g x hlt)
      have HLk := Lib.hid (fun g x => HLe.out k g x hlt)
      have HPk := Lib.hid (fun g x => HPr.out k g x)
      have HTk := Lib.hid (HTs.out k)
      have HTg := Lib.hid (fun i (hi : i < k) => HTa.out k i hi)
      have HTn := Lib.hid (HTl.out k)
      generalize cnt' ns k = cn at *
      clear HSm HLe HPr HNe HTs HTa HT1 HGs HCt
      generalize hPL : prt ns k = PL at *
      clear hPL
      generalize gTab m G ns k = TB at *
      have HWs := Lib.hid (fun g x => wsTo_succ (gd m G) PL g x)
      have HWa := Lib.hid (fun g => wsTo_aft HBd.out PL g)
      have HWb := Lib.hid (fun g x => show 0 ≤ wsTo (gd m G) PL g x ∧ wsTo (gd m G) PL g x ≤ 100 by rw [wsTo_aft HBd.out PL g x]; exact aft_bd HBd.out x PL g)
      have HW0 := Lib.hid (fun g => show wsTo (gd m G) PL g 0 = 0 from rfl)
      have HLs := Lib.hid (fun j => lsTo_succ m G (gd m G) PL j)
      have HLb := Lib.hid (fun j => lsTo_bd HBd.out m G PL j)
      have HL0 := Lib.hid (show lsTo m G (gd m G) PL 0 = 100 from rfl)
      generalize hls : lsTo m G (gd m G) PL = LS at *
      generalize hws : wsTo (gd m G) PL = WS at *
      generalize hgd : gd m G PL = dPL at *
      clear hls hws hgd
      go_wp2_with fail
      refine (HPW.out _).mono ?_
      rintro e w2 ⟨rfl, rfl⟩
      clear c0 c1
      go_wp2_with fail
      go_loopw [7, 8] (fun bs i w2 => ∃ j : Nat, j ≤ K ∧ i = .int .i64 j ∧ bs = .int .i64 (LS j) ∧ Below wo.heap.size wo w2) (fun _ i _ => K - (intOf i).toNat)
      case atStart => exact ⟨0, Nat.zero_le _, rfl, by rw [HL0.out], Below.refl _ _⟩
      case round =>
        obtain ⟨j, hj, rfl, rfl, hbj⟩ := hrel
        have BJ := Lib.hid hbj
        have hlb := HLb.out j
        have hlb1 := HLb.out (j + 1)
        clear hbj
        by_cases hjl : j < K
        · have hjI : (j : Int) < (K : Int) := by omega
          obtain ⟨rfl, hbg⟩ := Q1.out (by omega)
          have hg32 := HGe.out j hjl
          have Hcg := Lib.hid ((BX.out.below.cell (p := ⟨b2, off2 + j, none⟩) hbg).trans (Q5.out j hjl))
          have hls := HLs.out j
          rw [← HWa.out] at hls
          have HWsg := Lib.hid (fun x => HWs.out (G.getD j 0) x)
          have HWbg := Lib.hid (fun x => HWb.out (G.getD j 0) x)
          have HW0g := Lib.hid (HW0.out (G.getD j 0))
          have HCg := Lib.hid (fun x hx v w0 h0 => HCk.out (G.getD j 0) x hg32 hx v w0 h0)
          have HSg := Lib.hid (fun x => HSk.out (G.getD j 0) x)
          have HLg := Lib.hid (fun x => HLk.out (G.getD j 0) x)
          have HPg := Lib.hid (fun x => HPk.out (G.getD j 0) x)
          generalize G.getD j 0 = g at *
          generalize WS g = W at *
          generalize cn g = N at *
          obtain ⟨t0, ht0⟩ : ∃ t0, t0 = LS j := ⟨_, rfl⟩
          obtain ⟨t1, ht1⟩ : ∃ t1, t1 = LS (j + 1) := ⟨_, rfl⟩
          rw [← ht0] at hlb hls ⊢
          rw [← ht1] at hls hlb1
          have HT1' := Lib.hid ht1
          have HLS := Lib.hid hls
          clear ht0 ht1 hls
          go_wp2_with fail
          go_loopw [9, 10] (fun ws i w3 => ∃ x : Nat, x ≤ m ∧ i = .int .i64 x ∧ ws = .int .i64 (W x) ∧ Below wo.heap.size wo w3) (fun _ i _ => m - (intOf i).toNat)
          case atStart => exact ⟨0, Nat.zero_le _, rfl, by rw [HW0g.out], BJ.out⟩
          case round =>
            obtain ⟨x, hx, rfl, rfl, hbx3⟩ := hrel
            have B3 := Lib.hid hbx3
            have BX3 := Lib.hid (BX.out.next (by omega) hbx3)
            have hz3 := hbx3.size
            have hwb := HWbg.out x
            have hwb1 := HWbg.out (x + 1)
            have x0 := BX3.out.at0
            have x1 := BX3.out.at1
            by_cases hxl : x < m
            · have hxI : (x : Int) < (m : Int) := by omega
              have cg := (hbx3.cell (p := ⟨b2, off2 + j, none⟩) (by show b2 < wo.heap.size; omega)).trans Hcg.out
              have hRd := Lib.hid (H.out.below BX3.out.below (Nat.le_refl _))
              clear hbx3
              have HCx := Lib.hid (HCg.out x (by omega))
              have hws := HWsg.out x
              have hsm := HSg.out x
              have hle := HLg.out x
              have hpr := HPg.out x
              rw [← hpr] at hws hsm
              obtain ⟨nx, hnx⟩ : ∃ nx, nx = N x := ⟨_, rfl⟩
              rw [← hnx] at HCx hws hsm hle
              clear hnx hpr
              obtain ⟨u0, hu0⟩ : ∃ u0, u0 = W x := ⟨_, rfl⟩
              obtain ⟨u1, hu1⟩ : ∃ u1, u1 = W (x + 1) := ⟨_, rfl⟩
              rw [← hu0] at hwb hws ⊢
              rw [← hu1] at hws hwb1
              have HU1 := Lib.hid hu1
              clear hu0 hu1
              have hnI : (nx : Int) ≤ (k : Int) := by omega
              go_wp2_with fail
              refine wp_region_held_drew (S := fun w' => w'.cell? ⟨w.heap.size, 1, none⟩ = some (.slice a L0 cap) ∧ w'.cell? ⟨b2, off2 + j, none⟩ = some (.int .i64 (g : Int))) (by kernel_rfl) (by first | exact ⟨x1, cg⟩ | go_keep) (fun hHeld => ?_)
              refine wpAnyH_take (i := 0) (v := ?_) rfl (by kernel_rfl) (by kernel_rfl) (by kernel_rfl) (fun _ _ _ h => h) (Or.inl ⟨by rfl, ?_⟩) (by assumption) ?_
              rotate_left
              · (intro w hSw; (try dsimp only at hSw); go_simp; try with_reducible rfl)
              try simp only [List.getElem_toArray, List.getElem_cons_zero, Act.put, List.setIfInBounds_toArray, List.set_cons_zero, List.set_cons_succ]
              refine wpAnyH_take (i := 1) (v := ?_) rfl (by kernel_rfl) (by kernel_rfl) (by kernel_rfl) (fun _ _ _ h => h) (Or.inl ⟨by rfl, ?_⟩) (by assumption) ?_
              rotate_left
              · (intro w hSw; (try dsimp only at hSw); go_simp; try with_reducible rfl)
              try simp only [List.getElem_toArray, List.getElem_cons_zero, List.getElem_cons_succ, Act.put, List.setIfInBounds_toArray, List.set_cons_zero, List.set_cons_succ]
              refine wpAnyH_take (i := 2) (v := ?_) rfl (by kernel_rfl) (by kernel_rfl) (by kernel_rfl) (fun _ _ _ h => h) (Or.inl ⟨by rfl, ?_⟩) (by assumption) ?_
              rotate_left
              · (intro w hSw; (try dsimp only at hSw); go_simp; try with_reducible rfl)
              try simp only [List.getElem_toArray, List.getElem_cons_zero, List.getElem_cons_succ, Act.put, List.setIfInBounds_toArray, List.set_cons_zero, List.set_cons_succ]
              refine wpAnyH_take (i := 3) (v := ?_) rfl (by kernel_rfl) (by kernel_rfl) (by kernel_rfl) (fun _ _ _ h => h) (Or.inl ⟨by rfl, ?_⟩) (by assumption) ?_
              rotate_left
              · (intro w hSw; (try dsimp only at hSw); go_simp; try with_reducible rfl)
              try simp only [List.getElem_toArray, List.getElem_cons_zero, List.getElem_cons_succ, Act.put, List.setIfInBounds_toArray, List.set_cons_zero, List.set_cons_succ]
              refine wpAnyH_take (i := 4) (v := ?_) rfl (by kernel_rfl) (by kernel_rfl) (by kernel_rfl) (fun _ _ _ h => h) (Or.inl ⟨by rfl, ?_⟩) (by assumption) ?_
              rotate_left
              · (intro w hSw; (try dsimp only at hSw); go_simp; try with_reducible rfl)
              try simp only [List.getElem_toArray, List.getElem_cons_zero, List.getElem_cons_succ, Act.put, List.setIfInBounds_toArray, List.set_cons_zero, List.set_cons_succ]
              refine wpAnyH_take (i := 5) (v := ?_) rfl (by kernel_rfl) (by kernel_rfl) (by kernel_rfl) (fun _ _ _ h => h) (Or.inl ⟨by rfl, ?_⟩) (by assumption) ?_
              rotate_left
              · (intro w hSw; (try dsimp only at hSw); go_simp; try with_reducible rfl)
              try simp only [List.getElem_toArray, List.getElem_cons_zero, List.getElem_cons_succ, Act.put, List.setIfInBounds_toArray, List.set_cons_zero, List.set_cons_succ]
              refine wpAnyH_take (i := 6) (v := ?_) rfl (by kernel_rfl) (by kernel_rfl) (by kernel_rfl) (fun _ _ _ h => h) (Or.inl ⟨by rfl, ?_⟩) (by assumption) ?_
              rotate_left
              · (intro w hSw; (try dsimp only at hSw); go_simp; try with_reducible rfl)
              try simp only [List.getElem_toArray, List.getElem_cons_zero, List.getElem_cons_succ, Act.put, List.setIfInBounds_toArray, List.set_cons_zero, List.set_cons_succ]
              refine wpAnyH_take (i := 7) (v := ?_) rfl (by kernel_rfl) (by kernel_rfl) (by kernel_rfl) (fun _ _ _ h => h) (Or.inl ⟨by rfl, ?_⟩) (by assumption) ?_
              rotate_left
              · (intro w hSw; (try dsimp only at hSw); go_simp; try with_reducible rfl)
              try simp only [List.getElem_toArray, List.getElem_cons_zero, List.getElem_cons_succ, Act.put, List.setIfInBounds_toArray, List.set_cons_zero, List.set_cons_succ]
              refine wpAnyH_ready (rs := [8]) (by kernel_rfl) (by simp) ?_
              refine AllReadyH.cons rfl (fun K hK => ?_) AllReadyH.nil
              try simp only [List.getElem_toArray]
              go_simp
              (go_at_call 110; refine (HCx.out _ _ (by first | exact hRd.out | exact hRd.out.below (k := wr.heap.size) ((Below.refl _ _).drew) (Nat.le_refl _))).mono ?_; rintro e w98 ⟨rfl, hw98⟩; subst w98)
              refine hK.out _ _ (by first | exact ⟨x1, cg⟩ | go_keep) (fun hHeld => ?_)
              clear hK K
              try simp only [List.getElem_toArray, List.getElem_cons_zero, List.getElem_cons_succ, Act.put, List.setIfInBounds_toArray, List.set_cons_zero, List.set_cons_succ]
              refine wpAnyH_take (i := 9) (v := ?_) rfl (by kernel_rfl) (by kernel_rfl) (by kernel_rfl) (fun _ _ _ h => h) (Or.inl ⟨by rfl, ?_⟩) (by assumption) ?_
              rotate_left
              · (intro w hSw; (try dsimp only at hSw); go_simp; try with_reducible rfl)
              try simp only [List.getElem_toArray, List.getElem_cons_zero, List.getElem_cons_succ, Act.put, List.setIfInBounds_toArray, List.set_cons_zero, List.set_cons_succ]
              refine wpAnyH_done (by kernel_rfl) ?_ _
              by_cases hnk : nx = k
              · have hd9 : ((nx : Int) == (k : Int)) = true := by rw [hnk]; simp
                have HS2 := Lib.hid (show u1 = 100 by rw [hws, if_pos (hsm.1 hnk)])
                clear hws hsm
                go_wp2_with fail
                go_roundw
                case rel => exact ⟨x + 1, by omega, by go_num, by rw [← HU1.out, HS2.out], by first | exact B3.out | exact B3.out.drew⟩
                case measure => simp [intOf]; omega
              · have hd9 : ((nx : Int) == (k : Int)) = false := by rw [beq_eq_false_iff_ne]; omega
                have hlt9 : nx < k := by omega
                have hws2 := hws.trans (if_neg (fun h9 => hnk (hsm.2 h9)))
                obtain ⟨at9, bt, ot, ct, et, l1, l3, l5⟩ := IK.out.rd
                rw [HTn.out] at et l1 l5
                simp only [Value.slice.injEq] at et
                obtain ⟨rfl, -, rfl⟩ := et
                obtain ⟨rfl, hbt⟩ := l1 (by omega)
                have tc0 := (B3.out.cell (p := ⟨bt, ot + nx, none⟩) hbt).trans (l5 nx hlt9)
                rw [HTg.out nx hlt9] at tc0
                have hdb := HBd.out (prt ns nx)
                generalize gd m G (prt ns nx) = dv at *
                clear l1 l3 l5 hws hsm
                have tc : wr.drew.cell? ⟨bt, ot + nx, none⟩ = some (.int .i64 dv) := tc0
                have hnI2 : (nx : Int) < (k : Int) := by omega
                by_cases hlt8 : u0 < dv
                · have HS2 := Lib.hid (hws2.trans (if_pos hlt8))
                  have hm2 : max u0 dv = dv := by omega
                  clear hws2
                  go_wp2_with fail
                  go_roundw
                  case rel => exact ⟨x + 1, by omega, by go_num, by rw [← HU1.out, HS2.out], by first | exact B3.out | exact B3.out.drew⟩
                  case measure => simp [intOf]; omega
                · have HS2 := Lib.hid (hws2.trans (if_neg hlt8))
                  have hm2 : max u0 dv = u0 := by omega
                  clear hws2
                  go_wp2_with fail
                  go_roundw
                  case rel => exact ⟨x + 1, by omega, by go_num, by rw [← HU1.out, HS2.out], by first | exact B3.out | exact B3.out.drew⟩
                  case measure => simp [intOf]; omega
            · obtain rfl : x = m := by omega
              clear hbx3
              by_cases hlt2 : 1 + W x < t0
              · have HS2 := Lib.hid (HLS.out.trans (if_pos hlt2))
                have hm2 : min t0 (1 + W x) = 1 + W x := by omega
                go_wp2_with fail
                go_roundw
                case rel => exact ⟨j + 1, by omega, by go_num, by rw [← HT1'.out, HS2.out], B3.out⟩
                case measure => simp [intOf]; omega
              · have HS2 := Lib.hid (HLS.out.trans (if_neg hlt2))
                have hm2 : min t0 (1 + W x) = t0 := by omega
                go_wp2_with fail
                go_roundw
                case rel => exact ⟨j + 1, by omega, by go_num, by rw [← HT1'.out, HS2.out], B3.out⟩
                case measure => simp [intOf]; omega
        · obtain rfl : j = K := by omega
          have IJ := Lib.hid (IK.out.below BJ.out (Nat.le_refl _))
          have BXJ := Lib.hid (BX.out.next (by omega) BJ.out)
          have hzj := BJ.out.size
          rw [← HGk.out]
          have hdb := HLb.out j
          rw [← HGk.out] at hdb
          clear HLs HLb HWs HWa HWb HW0 HCk HSk HLk HPk HTg HL0 HBd Q1 Q5 HGe hlb hlb1
          go_wp2_with (at_builtin; refine wpList_app rfl (.tmp 55) (.tmp 57) rfl (w.heap.size + 1) _ TB rfl (by exact IJ.out.alloc _) _ _ _ [dPL] rfl (src_cell (by rw [World.cell?_alloc_at _ _ _ _ rfl]; rfl)) (by rw [HTn.out]; omega) (by simp; omega) ?_; intro a1 c1 w3 hin3 hb3 hg3)
          rw [HTn.out] at hin3
          have BX3 := Lib.hid ((BXJ.out.next (by omega) ((Below.refl _ wr).alloc (Nat.le_refl _) (.cells #[.int .i64 dPL] 3))).grown hg3 (IJ.out.row_ge (by omega)))
          have hz3 := hg3.size
          rw [World.size_alloc] at hz3
          have I3 := Lib.hid hin3
          clear hin3 hb3 hg3
          go_roundw
          case rel => exact ⟨k + 1, by omega, by omega, by go_num, ⟨a1, c1, by rw [HTn.out]⟩, by rw [HTk.out, HTn.out]; exact I3.out, BX3.out, by omega⟩
          case measure => simp [intOf]; omega
    · obtain rfl : k = q := by omega
      go_wp2_with fail
      refine (HPW.out _).mono ?_
      rintro e w2 ⟨rfl, rfl⟩
      go_wp2_with fail
      go_ret
      exact RetInts.of (IK.out.mono (by omega)) BX.out.below

end Go.Proofs.YthmipnflbiclbaaDoor
