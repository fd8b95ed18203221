/- The model's settled and SettleClass. Conditions: Sets is an owned slice of a valid class's sets. -/
import Derived.Deep.Cut
import Derived.Deep.CutRange
import Derived.Deep.RegionLaw
import Derived.Test.YtpkilacappjkhaaZB
import Derived.Test.YtpkilacappjkhaaZI
namespace Go.Proofs.Ytpkilacappjkhaa
open Go.RowKit

theorem Src.next {w w' : World} {ao : Option Addr} {m c : Nat} {ms : List Int} (h : Src w ao m c ms) (hb : Below w.heap.size w w') : Src w' ao m c ms := by
  cases ao with
  | none => exact ⟨h.1, h.2.1, fun ad had => by simp at had⟩
  | some a => exact h.below hb

set_option maxHeartbeats 6400000 in
set_option maxRecDepth 100000 in
theorem specSettled (m : Nat) (v : Value) (ns : List Nat) (hc : Cls m ns) (B : Nat) (w : World) (h : Ints B w v (toI ns)) :
    Calls Try.prog 48 #[.agg #[.int .i64 (m : Int), v]] w (RetClass m (toI (swp m ns)) w) := by
  have H := Lib.hid h
  obtain ⟨a, g, cap, rfl, _, h2, _⟩ := h.shape
  rw [toI_length] at H ⊢
  clear h
  have hm := hc.pts
  have HC := Lib.hid hc
  have hl := hc.length
  have SRC := Lib.hid (show Src w a ns.length cap (toI ns) from by
    have h8 : Rd w (.slice a (toI ns).length cap) (toI ns) := by rw [toI_length]; exact H.out.rd
    have h9 := h8.src (fun e => ⟨by rw [(h2 e).1]; rfl, (h2 e).2⟩)
    rw [toI_length] at h9
    exact h9)
  clear h2 hc
  have hp2 := two_pow_le m (by omega)
  obtain ⟨q, hq⟩ : ∃ q, q = (2 : Int) ^ m := ⟨_, rfl⟩
  have HPW := Lib.hid (fun w => hq ▸ power_q m hm w)
  have hq32 : 1 ≤ q ∧ q ≤ 4096 := by rw [hq]; omega
  have HQ := Lib.hid (show q = ((2 ^ m : Nat) : Int) by rw [hq]; simp)
  clear hq hp2
  have OB := Lib.hid (show Out m (.slice a ns.length cap) w.heap.size ((w.alloc (Obj.cells #[.int .i64 (m : Int), .slice a ns.length cap] 25)).alloc (Obj.cells #[.int .i64 0, .slice none 0 0] 25)) from ⟨by simp [go_sem], by simp [go_sem], by simp [go_sem], by simp [go_sem]⟩)
  have OR := Lib.hid (show Out 0 (.slice none 0 0) (w.heap.size + 1) ((w.alloc (Obj.cells #[.int .i64 (m : Int), .slice a ns.length cap] 25)).alloc (Obj.cells #[.int .i64 0, .slice none 0 0] 25)) from ⟨by simp [go_sem], by simp [go_sem], by simp [go_sem], by simp [go_sem]⟩)
  have HB := Lib.hid (show Below w.heap.size w ((w.alloc (Obj.cells #[.int .i64 (m : Int), .slice a ns.length cap] 25)).alloc (Obj.cells #[.int .i64 0, .slice none 0 0] 25)) by go_grown)
  have HZ := Lib.hid (show (((w.alloc (Obj.cells #[.int .i64 (m : Int), .slice a ns.length cap] 25)).alloc (Obj.cells #[.int .i64 0, .slice none 0 0] 25))).heap.size = w.heap.size + 2 by simp)
  go_enter Try.func48, Try.ntmps48
  go_upto_region 1 with (fail)
  generalize ((w.alloc (Obj.cells #[.int .i64 (m : Int), .slice a ns.length cap] 25)).alloc (Obj.cells #[.int .i64 0, .slice none 0 0] 25)) = W at *
  have SW := Lib.hid (SRC.out.next HB.out)
  have c0 := OB.out.at0
  have c1 := OB.out.at1
  have OA := Lib.hid (OB.out.next (show Below W.heap.size W (W.alloc (Obj.cells #[.int .i64 0, .slice none 0 0] 25)) from (Below.refl _ _).alloc (Nat.le_refl _) _) (by have := HZ.out; omega))
  have OA2 := Lib.hid (OB.out.next (show Below W.heap.size W (W.alloc (Obj.cells #[] 3)) from (Below.refl _ _).alloc (Nat.le_refl _) _) (by have := HZ.out; omega))
  have OA3 := Lib.hid (OB.out.next (show Below W.heap.size W ((W.alloc (Obj.cells #[.int .i64 0, .slice none 0 0] 25)).alloc (Obj.cells #[] 3)) from ((Below.refl _ _).alloc (Nat.le_refl _) _).alloc (by simp) _) (by have := HZ.out; omega))
  have OA4 := Lib.hid (OB.out.next (show Below W.heap.size W ((W.alloc (Obj.cells #[] 3)).alloc (Obj.cells #[.int .i64 0, .slice none 0 0] 25)) from ((Below.refl _ _).alloc (Nat.le_refl _) _).alloc (by simp) _) (by have := HZ.out; omega))
  have ca0 := OA.out.at0
  have ca1 := OA.out.at1
  have cb0 := OA2.out.at0
  have cb1 := OA2.out.at1
  have cc0 := OA3.out.at0
  have cc1 := OA3.out.at1
  have cd0 := OA4.out.at0
  have cd1 := OA4.out.at1
  go_cut [3] from 6 to 12 (fun p wq => ∃ o a4 c4, p = .pointer (some ⟨o, 0, none⟩) ∧ Bx m (.slice a4 ns.length c4) o wq ∧ Ints W.heap.size wq (.slice a4 ns.length c4) (toI ns) ∧ Below W.heap.size W wq ∧ W.heap.size ≤ o)
  case first =>
    go_region_law (first
      | (refine step_app rfl (.tmp 8) (.tmp 10) rfl W.heap.size _ [] rfl (by first | exact Ints.lit' (by simp) (by simp) | exact (Ints.lit' (by simp) (by simp)).alloc _) _ _ _ (toI ns) rfl (by exact SW.out.next (by go_grown)) (by simp; omega) (by first | (simp; done) | (simp; omega)) ?_
         intro a1 c1' w1 hin1 hb1 hg1
         have hW1 : Below W.heap.size W w1 := Below.trans (by go_grown) hb1
         have hs1 : W.heap.size ≤ w1.heap.size := hW1.size
         simp only [List.length_nil, Nat.zero_add, List.nil_append] at hin1
         have I3 := Lib.hid hin1
         have B3 := Lib.hid hW1
         have OB3 := Lib.hid (OB.out.next hW1 (by have := HZ.out; omega))
         first
           | (have X3 := Lib.hid (Bx.kept (n := 0) (v := .slice none 0 0) (o := W.heap.size) (by first | exact heap_alloc_at rfl | exact Bx.alloc (heap_alloc_at rfl) _) hg1 (show some W.heap.size ≠ some (W.heap.size + 1) by simp)); have x0 := X3.out.out.at0; have x1 := X3.out.out.at1; have y0 := X3.out.out.free0; have y1 := X3.out.out.free1)
           | (have X3 := Lib.hid (Bx.kept (n := 0) (v := .slice none 0 0) (o := W.heap.size + 1) (by exact heap_alloc_at (by simp)) hg1 (show some (W.heap.size + 1) ≠ some W.heap.size by simp)); have x0 := X3.out.out.at0; have x1 := X3.out.out.at1; have y0 := X3.out.out.free0; have y1 := X3.out.out.free1)
           | skip
         clear hin1 hb1 hg1 hW1 c0 c1 ca0 ca1 cb0 cb1 cc0 cc1 cd0 cd1
         have OB5 := Lib.hid (OB3.out.next (show Below w1.heap.size w1 (w1.alloc (Obj.cells #[.int .i64 0, .slice none 0 0] 25)) from (Below.refl _ _).alloc (Nat.le_refl _) _) (by have := HZ.out; omega))
         have c0 := OB3.out.at0
         have c1 := OB3.out.at1
         have ca0 := OB5.out.at0
         have ca1 := OB5.out.at1)
      | fail)
    all_goals
      go_wp2_with fail
      go_meet
      first
        | exact ⟨_, _, _, rfl, (X3.out.setN m).set _, (I3.out.bx X3.out 0 _).bx (X3.out.setN m) 1 _, (B3.out.setCell (by first | omega | (simp; done) | (simp; omega)) _).setCell (by first | omega | (simp; done) | (simp; omega)) _, by first | exact Nat.le_refl _ | omega | (simp; omega)⟩
        | exact ⟨_, _, _, rfl, Bx.new _ _ _, I3.out.alloc _, B3.out.alloc (by omega) _, by omega⟩
  case rest =>
    obtain ⟨o, a4, c4, rfl, hbx, hin, hbe, ho⟩ := hcut
    have BX0 := Lib.hid hbx
    have IN0 := Lib.hid hin
    have BE0 := Lib.hid hbe
    clear hbx hin hbe c0 c1 ca0 ca1 cb0 cb1 cc0 cc1 cd0 cd1 OA OA2 OA3 OA4
    have hzW := HZ.out
    go_wp2_with fail
    go_loopw [4] (fun i wr => ∃ (k : Nat) (cur : List Nat) (a' : Option Addr) (c' : Nat), (k : Int) ≤ q ∧ i = .int .i64 k ∧ (k = 0 ∧ cur = ns ∨ 0 < k ∧ cur = swp m ns) ∧ Cls m cur ∧ Bx m (.slice a' cur.length c') o wr ∧ Ints W.heap.size wr (.slice a' cur.length c') (toI cur) ∧ Below W.heap.size W wr) (fun i _ => 4097 - (intOf i).toNat)
    case atStart => exact ⟨0, ns, a4, c4, by omega, rfl, .inl ⟨rfl, rfl⟩, HC.out, BX0.out, IN0.out, BE0.out⟩
    case round =>
      obtain ⟨wo, rfl⟩ : ∃ wo, wo = wr := ⟨_, rfl⟩
      obtain ⟨k, cur, a', c', hk, rfl, hg, hcc, hbx, hin, hbe⟩ := hrel
      have HG := Lib.hid hg
      have CC := Lib.hid hcc
      have BX := Lib.hid hbx
      have IN := Lib.hid hin
      have BE := Lib.hid hbe
      have OB2 := Lib.hid (OB.out.next hbe (by omega))
      have OR2 := Lib.hid (OR.out.next hbe (by omega))
      have hor := hbx.lt
      have hzr := hbe.size
      clear hg hcc hbx hin hbe
      have d0 := OB2.out.at0
      have d1 := OB2.out.at1
      by_cases hlt : (k : Int) < q
      · have SW := Lib.hid (show swp m cur = swp m ns by
          rcases HG.out with ⟨_, rfl⟩ | ⟨_, rfl⟩
          · rfl
          · exact swp_fix HC.out m (Nat.le_refl _))
        go_wp2_with fail
        refine (HPW.out _).mono ?_
        rintro e w5 ⟨rfl, rfl⟩
        go_wp2_with fail
        clear d0 d1
        go_loopw [5] (fun i wq => ∃ (j : Nat) (a2 : Option Addr) (c2 : Nat), j ≤ m ∧ i = .int .i64 j ∧ Bx m (.slice a2 (swTo cur j).length c2) o wq ∧ Ints W.heap.size wq (.slice a2 (swTo cur j).length c2) (toI (swTo cur j)) ∧ Below W.heap.size W wq) (fun i _ => m - (intOf i).toNat)
        case atStart => exact ⟨0, a', c', Nat.zero_le _, rfl, BX.out, IN.out, BE.out⟩
        case round =>
          obtain ⟨j, a2, c2, hj, rfl, hbx, hin, hbe⟩ := hrel
          have BX2 := Lib.hid hbx
          have IN2 := Lib.hid hin
          have BE2 := Lib.hid hbe
          have OB3 := Lib.hid (OB.out.next hbe (by omega))
          have hoq := hbx.lt
          have hzq := hbe.size
          clear hbx hin hbe
          have x0 := BX2.out.out.at0
          have x1 := BX2.out.out.at1
          have d0 := OB3.out.at0
          have d1 := OB3.out.at1
          by_cases hjl : j < m
          · have CJ := Lib.hid (CC.out.swTo j)
            have hj32 := CJ.out.length
            go_wp2_with fail
            have HSC := Lib.hid (specShift m (.slice a2 (swTo cur j).length c2) (swTo cur j) j (by omega) hj32 CJ.out.lt32 _ IN2.out.rd)
            rw [show tidyL ((swTo cur j).map (shs j (swTo cur j))) = swTo cur (j + 1) from rfl] at HSC
            refine HSC.out.mono ?_
            rintro e w5 ⟨a5, c5, rfl, hin5, hb5⟩
            clear x0 x1 d0 d1
            have X5 := Lib.hid (BX2.out.next hb5 hoq)
            have hz5 := hb5.size
            have I5 := Lib.hid (hin5.mono (B' := W.heap.size) (by omega))
            have B5 := Lib.hid (BE2.out.trans (hb5.mono (by omega)))
            have HL5 := Lib.hid (toI_length (swTo cur (j + 1)))
            clear hin5 hb5
            have x0 := X5.out.out.at0
            have x1 := X5.out.out.at1
            have y0 := X5.out.out.free0
            have y1 := X5.out.out.free1
            go_wp2_with fail
            rw [HL5.out] at I5
            go_roundw
            case rel => exact ⟨j + 1, a5, c5, by omega, by go_num, by rw [HL5.out]; exact (X5.out.setN m).set _, by rw [HL5.out]; exact (I5.out.bx X5.out 0 _).bx (X5.out.setN m) 1 _, (B5.out.setCell (by simp; omega) _).setCell (by simp; omega) _⟩
            case measure => simp [intOf]; omega
          · obtain rfl : j = m := by omega
            have SE := Lib.hid (show swTo cur j = swp j ns from SW.out)
            have CS := Lib.hid (show Cls j (swp j ns) from HC.out.swTo j)
            rw [SE.out] at BX2 IN2 x1
            clear x0 x1
            go_wp2_with fail
            go_roundw
            case rel => exact ⟨k + 1, swp j ns, a2, c2, by omega, by go_num, .inr ⟨by omega, rfl⟩, CS.out, BX2.out, IN2.out, BE2.out⟩
            case measure => simp [intOf]; omega
      · have HCU := Lib.hid (show cur = swp m ns by
          rcases HG.out with ⟨h, _⟩ | ⟨_, h⟩
          · omega
          · exact h)
        have HLs := Lib.hid (toI_length (swp m ns))
        rw [HCU.out] at BX IN
        generalize swp m ns = R at *
        go_wp2_with fail
        refine (HPW.out _).mono ?_
        rintro e w5 ⟨rfl, rfl⟩
        clear d0 d1
        have x0 := BX.out.out.at0
        have x1 := BX.out.out.at1
        have r0 := OR2.out.at0
        have r1 := OR2.out.at1
        have q0 := OR2.out.free0
        have q1 := OR2.out.free1
        go_wp2_with fail
        refine bodyPost_ret (v := .agg #[.int .i64 (m : Int), .slice a' R.length c']) (by simp [results, Try.results48, go_sem, r0, r1]) rfl ?_
        refine ⟨a', c', by rw [HLs.out], ?_, ?_⟩
        · rw [HLs.out]
          refine Ints.mono (B := W.heap.size) ?_ (by omega)
          repeat (refine Ints.setCell_below ?_ (by simp; omega) _)
          exact IN.out
        · have hb0 := HB.out.trans (BE.out.mono (show w.heap.size ≤ W.heap.size by omega))
          clear x0 x1 r0 r1 q0 q1
          go_grown



end Go.Proofs.Ytpkilacappjkhaa
