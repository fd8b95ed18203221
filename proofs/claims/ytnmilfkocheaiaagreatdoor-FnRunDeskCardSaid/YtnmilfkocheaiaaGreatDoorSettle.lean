/- The program's SettleClass. Conditions: Sets is a slice of ints. -/
import Derived.Deep.Cut
import Derived.Deep.CutRange
import Derived.Deep.LoopGhost
import Derived.Deep.RegionWith
import Derived.Test.YtnmilfkocheaiaaGreatDoorSett
import Derived.Test.YtnmilfkocheaiaaGreatDoorZD
namespace Go.Proofs.YtnmilfkocheaiaaGreatDoor
open Go.RowKit

theorem keys_self {m : Nat} {ns : List Nat} (h : Cls m ns) : (List.range (2 ^ m)).filter (fun x => decide (x ∈ ns)) = ns := by
  apply asc_ext ((range_asc _).filter _) h.asc
  intro y
  simp only [List.mem_filter, List.mem_range, decide_eq_true_eq]
  exact ⟨fun h => h.2, fun hy => ⟨h.lt y hy, hy⟩⟩

set_option maxHeartbeats 6400000 in
set_option maxRecDepth 100000 in
theorem implSettleClass (n : Int) (v : Value) (zs : List Int) (w : World) (h : Rd w v zs) :
    Calls Tryz.prog 81 #[.agg #[.int .i64 n, v]] w (RetClass (stN n zs) (stL n zs) w) := by
  have H := Lib.hid h
  obtain ⟨a, b, off, cap, rfl, h1, h3, h5⟩ := h
  by_cases hv : vldB n zs = true
  · obtain ⟨m, ns, rfl, rfl, hc⟩ := vldB_cls hv
    have hm := hc.pts
    have HV := Lib.hid hv
    have HN := Lib.hid (show stN m (toI ns) = m by rw [stN, if_pos hv])
    have HT := Lib.hid (show stL m (toI ns) = toI (swp m ns) by rw [stL, if_pos hv, toNat_toI, Int.toNat_natCast])
    have hl := hc.length
    have HC := Lib.hid hc
    have HKS := Lib.hid (keys_self hc)
    rw [toI_length] at h1 h3 h5 H ⊢
    have OB := Lib.hid (show Out m (.slice a ns.length cap) w.heap.size ((w.alloc (Obj.cells #[.int .i64 (m : Int), .slice a ns.length cap] 47)).alloc (Obj.cells #[.int .i64 0, .slice none 0 0] 47)) from ⟨by simp [go_sem], by simp [go_sem], by simp [go_sem], by simp [go_sem]⟩)
    have OR := Lib.hid (show Out 0 (.slice none 0 0) (w.heap.size + 1) ((w.alloc (Obj.cells #[.int .i64 (m : Int), .slice a ns.length cap] 47)).alloc (Obj.cells #[.int .i64 0, .slice none 0 0] 47)) from ⟨by simp [go_sem], by simp [go_sem], by simp [go_sem], by simp [go_sem]⟩)
    clear hv hc h1 h5
    go_enter Tryz.func81, Tryz.ntmps81
    go_wp2_with fail
    refine (implValid m _ (toI ns) _ (H.out.below (k := w.heap.size) (by go_grown) (Nat.le_refl _))).mono ?_
    rintro e w1 ⟨rfl, hb⟩
    rw [HV.out]
    have hs1 : w.heap.size + 1 < w1.heap.size := by have := hb.size; simp at this; omega
    have OB1 := Lib.hid (OB.out.next hb (by simp only [World.size_alloc]; omega))
    have OR1 := Lib.hid (OR.out.next hb (by simp only [World.size_alloc]; omega))
    have HB1 := Lib.hid (show Below w.heap.size w w1 from Below.trans (by go_grown) (hb.mono (by simp; omega)))
    have HRD := Lib.hid (H.out.below HB1.out (Nat.le_refl _))
    clear hb
    have c0 := OB1.out.at0
    have c1 := OB1.out.at1
    go_upto_region 3 with (fail)
    go_cut [3] from 10 to 14 (fun p wq => ∃ o a4 c4, p = .pointer (some ⟨o, 0, none⟩) ∧ Bx m (.slice a4 ns.length c4) o wq ∧ Ints w1.heap.size wq (.slice a4 ns.length c4) (toI ns) ∧ Below w1.heap.size w1 wq ∧ w1.heap.size ≤ o)
    case first =>
      have OA := Lib.hid (OB1.out.next (show Below w1.heap.size w1 (w1.alloc (Obj.cells #[.int .i64 0, .slice none 0 0] 47)) from (Below.refl _ _).alloc (Nat.le_refl _) _) (by omega))
      have ca0 := OA.out.at0
      have ca1 := OA.out.at1
      go_region_with (first
        | (go_at_call 113; refine (implKeysOf m _ ns _ (by first | exact HRD.out | exact HRD.out.below (k := w1.heap.size) (by go_grown) (Nat.le_refl _)) hl HC.out.lt32).mono ?_; rintro e w2 ⟨rfl, hk0, hb2⟩; have hb12 : Below w1.heap.size w1 w2 := Below.trans (by go_grown) (hb2.mono (by first | exact Nat.le_refl _ | (simp; done) | (simp; omega))); have OB2 := Lib.hid (OB1.out.next hb12 (by omega)); have K2 := Lib.hid hk0; have B2 := Lib.hid hb12; (first | (have X2 := Lib.hid (Bx.next (n := 0) (v := .slice none 0 0) (o := w1.heap.size) (by exact heap_alloc_at rfl) hb2 (by simp))) | skip); have OA2 := Lib.hid (OB2.out.next (show Below w2.heap.size w2 (w2.alloc (Obj.cells #[.int .i64 0, .slice none 0 0] 47)) from (Below.refl _ _).alloc (Nat.le_refl _) _) (by have := hb12.size; omega)); clear hk0 hb2 hb12 c0 c1 ca0 ca1; have d0 := OB2.out.at0; have d1 := OB2.out.at1; have da0 := OA2.out.at0; have da1 := OA2.out.at1)
        | (go_at_call 112; go_loud (refine (implClassOf m hm _ 32 (fun x => decide (x ∈ ns)) _ (by first | exact K2.out | exact K2.out.below (B := w2.heap.size) (by go_grown) K2.out.lt | simpa using K2.out | simpa using K2.out.below (B := w2.heap.size) (by go_grown) K2.out.lt)).mono ?_; rintro e w3 ⟨a4, c4, rfl, hin3, hb3⟩; rw [HKS.out, toI_length] at hin3 ⊢; have hz2 := B2.out.size; have I3 := Lib.hid (hin3.mono (B' := w1.heap.size) (by first | omega | (simp; omega))); have B3 := Lib.hid (Below.trans B2.out (Below.trans (by go_grown) (hb3.mono (by first | omega | (simp; omega))))); (first | (have X3 := Lib.hid (Bx.next (n := 0) (v := .slice none 0 0) (o := w2.heap.size) (by exact heap_alloc_at rfl) hb3 (by simp)); have x0 := X3.out.out.at0; have x1 := X3.out.out.at1; have y0 := X3.out.out.free0; have y1 := X3.out.out.free1) | (have X3 := Lib.hid (X2.out.next hb3 X2.out.lt); have x0 := X3.out.out.at0; have x1 := X3.out.out.at1; have y0 := X3.out.out.free0; have y1 := X3.out.out.free1) | skip); have hz3 := hb3.size; have OB3 := Lib.hid (OB1.out.next B3.out (by omega)); clear hin3 hb3 d0 d1 da0 da1; have d0 := OB3.out.at0; have d1 := OB3.out.at1)))
      all_goals
        go_wp2_with fail
        go_meet
        first
          | exact ⟨_, _, _, rfl, (X3.out.setN m).set _, (I3.out.bx X3.out 0 _).bx (X3.out.setN m) 1 _, (B3.out.setCell (by first | omega | (simp; done) | (simp; omega)) _).setCell (by first | omega | (simp; done) | (simp; omega)) _, by first | exact Nat.le_refl _ | omega | (simp; omega)⟩
          | exact ⟨_, _, _, rfl, Bx.new _ _ _, I3.out.alloc _, B3.out.alloc (by omega) _, by omega⟩
    case rest =>
      obtain ⟨o, a4, c4, rfl, hbx, hin, hbe, ho⟩ := hcut
      have BX0 := Lib.hid hbx
      have IN0 := Lib.hid hin
      have BE0 := Lib.hid hbe
      have ho0 := hbx.lt
      clear hbx hin hbe c0 c1
      go_wp2_with fail
      go_loopg [4] 1 (fun g _ wr => ∃ (cur : List Nat) (a' : Option Addr) (c' : Nat), (g = 1 ∧ cur = ns ∨ g = 0 ∧ cur = swp m ns) ∧ Cls m cur ∧ Bx m (.slice a' cur.length c') o wr ∧ Ints w1.heap.size wr (.slice a' cur.length c') (toI cur) ∧ Below w1.heap.size w1 wr)
      case atStart => exact ⟨ns, a4, c4, .inl ⟨rfl, rfl⟩, HC.out, BX0.out, IN0.out, BE0.out⟩
      case round =>
        obtain ⟨wo, rfl⟩ : ∃ wo, wo = wr := ⟨_, rfl⟩
        obtain ⟨cur, a', c', hg, hcc, hbx, hin, hbe⟩ := hrel
        have HG := Lib.hid hg
        have CC := Lib.hid hcc
        have BX := Lib.hid hbx
        have IN := Lib.hid hin
        have BE := Lib.hid hbe
        have hor := hbx.lt
        have hzr := hbe.size
        have SW := Lib.hid (show swp m cur = swp m ns by
          rcases hg with ⟨_, rfl⟩ | ⟨_, rfl⟩
          · rfl
          · exact swp_fix HC.out m (Nat.le_refl _))
        have SG := Lib.hid (show ¬ swp m cur = cur → gk = 1 by
          intro hne
          rcases hg with ⟨h, _⟩ | ⟨_, rfl⟩
          · exact h
          · exact absurd (swp_fix HC.out m (Nat.le_refl _)) hne)
        clear hg hcc hbx hin hbe
        have x0 := BX.out.out.at0
        have x1 := BX.out.out.at1
        have HBA := Lib.hid (show Below wo.heap.size wo (wo.alloc (Obj.cells #[.int .i64 (m : Int), .slice a' cur.length c'] 47)) from (Below.refl _ _).alloc (Nat.le_refl _) _)
        have OBA := Lib.hid (OB1.out.next (Below.trans BE.out (HBA.out.mono hzr)) (by omega))
        have BXA := Lib.hid (show Bx m (.slice a' cur.length c') wo.heap.size (wo.alloc (Obj.cells #[.int .i64 (m : Int), .slice a' cur.length c'] 47)) from Bx.new _ _ _)
        have INA := Lib.hid (IN.out.alloc (Obj.cells #[.int .i64 (m : Int), .slice a' cur.length c'] 47))
        have HZA := Lib.hid (show (wo.alloc (Obj.cells #[.int .i64 (m : Int), .slice a' cur.length c'] 47)).heap.size = wo.heap.size + 1 by simp)
        have e0 := OBA.out.at0
        have e1 := OBA.out.at1
        go_wp2_with fail
        clear x0 x1 e0 e1
        generalize (wo.alloc (Obj.cells #[.int .i64 (m : Int), .slice a' cur.length c'] 47)) = wa at *
        go_loopw [18] (fun i wq => ∃ (k : Nat) (a2 : Option Addr) (c2 : Nat), k ≤ m ∧ i = .int .i64 k ∧ Bx m (.slice a2 (swTo cur k).length c2) wo.heap.size wq ∧ Ints w1.heap.size wq (.slice a2 (swTo cur k).length c2) (toI (swTo cur k)) ∧ Below wo.heap.size wo wq) (fun i _ => m - (intOf i).toNat)
        case atStart => exact ⟨0, a', c', Nat.zero_le _, rfl, BXA.out, INA.out, HBA.out⟩
        case round =>
          obtain ⟨k, a2, c2, hk, rfl, hbx, hin, hbe⟩ := hrel
          have BX2 := Lib.hid hbx
          have IN2 := Lib.hid hin
          have BE2 := Lib.hid hbe
          have hoq := hbx.lt
          have hzq := hbe.size
          clear hbx hin hbe
          have x0 := BX2.out.out.at0
          have x1 := BX2.out.out.at1
          by_cases hlt : k < m
          · obtain ⟨hN, hL⟩ := shN_in (CC.out.swTo k) hlt
            have HN2 := Lib.hid hN
            have HL2 := Lib.hid (show shL m (toI (swTo cur k)) k = toI (swTo cur (k + 1)) from hL)
            have HLl := Lib.hid (toI_length (swTo cur k))
            clear hN hL
            go_wp2_with fail
            have HSC := Lib.hid (implShiftClass m (.slice a2 (swTo cur k).length c2) (toI (swTo cur k)) k _ IN2.out.rd)
            rw [HN2.out, HL2.out] at HSC
            refine HSC.out.mono ?_
            rintro e w5 ⟨a5, c5, rfl, hin5, hb5⟩
            clear x0 x1
            have X5 := Lib.hid (BX2.out.next hb5 hoq)
            have hz5 := hb5.size
            have I5 := Lib.hid (hin5.mono (B' := w1.heap.size) (by omega))
            have B5 := Lib.hid (BE2.out.trans (hb5.mono (by omega)))
            have HL5 := Lib.hid (toI_length (swTo cur (k + 1)))
            clear hin5 hb5
            have x0 := X5.out.out.at0
            have x1 := X5.out.out.at1
            have y0 := X5.out.out.free0
            have y1 := X5.out.out.free1
            go_wp2_with fail
            rw [HL5.out] at I5
            go_roundw
            case rel => exact ⟨k + 1, a5, c5, by omega, by go_num, by rw [HL5.out]; exact (X5.out.setN m).set _, by rw [HL5.out]; exact (I5.out.bx X5.out 0 _).bx (X5.out.setN m) 1 _, (B5.out.setCell (by simp) _).setCell (by simp) _⟩
            case measure => simp [intOf]; omega
          · obtain rfl : k = m := by omega
            have SE := Lib.hid (show swTo cur k = swp k ns from SW.out)
            rw [SE.out] at BX2 IN2 x1
            have OR2 := Lib.hid (OR1.out.next (BE.out.trans (BE2.out.mono hzr)) hs1)
            have BXN := Lib.hid (BX.out.next BE2.out hor)
            have INN := Lib.hid (IN.out.below BE2.out (Nat.le_refl _))
            have B2 := Lib.hid (BE.out.trans (BE2.out.mono hzr))
            have n1 := BXN.out.out.at1
            have CS := Lib.hid (show Cls k (swp k ns) from HC.out.swTo k)
            have HLs := Lib.hid (toI_length (swp k ns))
            by_cases heq : swp k ns = cur
            · have HEQ := Lib.hid (show eqB (toI (swp k ns)) (toI cur) = true by simp [eqB, heq])
              clear heq
              generalize swp k ns = R at *
              go_wp2_with fail
              refine (slicesEqual _ _ (toI R) (toI cur) _ IN2.out.rd INN.out.rd).mono ?_
              rintro e w9 ⟨rfl, d, rfl⟩
              rw [HEQ.out]
              have r0 := OR2.out.at0
              have r1 := OR2.out.at1
              have q0 := OR2.out.free0
              have q1 := OR2.out.free1
              go_wp2_with fail
              refine bodyPost_ret (v := .agg #[.int .i64 (k : Int), .slice a2 R.length c2]) (by simp [results, Tryz.results81, go_sem, r0, r1]) rfl ?_
              rw [HN.out, HT.out]
              refine ⟨a2, c2, by rw [HLs.out], ?_, ?_⟩
              · rw [HLs.out]
                refine Ints.mono (B := w1.heap.size) ?_ (by omega)
                repeat (refine Ints.setCell_below ?_ (by simp; omega) _)
                exact IN2.out.drewN d
              · have hb0 := below_drewN (HB1.out.trans (B2.out.mono (show w.heap.size ≤ w1.heap.size by omega))) d
                clear x0 x1 n1 r0 r1 q0 q1
                go_grown
            · have HEQ := Lib.hid (show eqB (toI (swp k ns)) (toI cur) = false by
                simp only [eqB, decide_eq_false_iff_not]
                intro h
                apply heq
                have := congrArg (List.map Int.toNat) h
                rwa [toNat_toI, toNat_toI] at this)
              have HG1 := Lib.hid (SG.out (by rw [SW.out]; exact heq))
              clear heq
              generalize swp k ns = R at *
              go_wp2_with fail
              refine (slicesEqual _ _ (toI R) (toI cur) _ IN2.out.rd INN.out.rd).mono ?_
              rintro e w9 ⟨rfl, d, rfl⟩
              rw [HEQ.out]
              have r0 := BXN.out.out.at0
              have q0 := BXN.out.out.free0
              have q1 := BXN.out.out.free1
              go_wp2_with fail
              go_roundg 0
              case rel => exact ⟨R, a2, c2, .inr ⟨rfl, rfl⟩, CS.out, ((BXN.out.drewN d).setN k).set _, ((IN2.out.drewN d).bx (BXN.out.drewN d) 0 _).bx ((BXN.out.drewN d).setN k) 1 _, ((below_drewN B2.out d).setCell (by simp; omega) _).setCell (by simp; omega) _⟩
              case measure => have := HG1.out; omega
  · have HN := Lib.hid (show stN n zs = 0 by rw [stN, if_neg hv])
    have HT := Lib.hid (show stL n zs = [] by rw [stL, if_neg hv])
    rw [Bool.not_eq_true] at hv
    have HV := Lib.hid hv
    clear hv
    go_enter Tryz.func81, Tryz.ntmps81
    go_wp2_with fail
    refine (implValid n _ zs _ (H.out.below (k := w.heap.size) (by go_grown) (Nat.le_refl _))).mono ?_
    rintro e w1 ⟨rfl, hb⟩
    rw [HV.out]
    obtain ⟨hc, hf⟩ := bcell hb
    have Hb := Lib.hid hb
    clear hb
    go_wp2_with fail
    refine bodyPost_ret (v := .agg #[.int .i64 0, .slice none 0 0]) (by simp [results, Tryz.results81, go_sem, hc]) rfl ?_
    rw [HN.out, HT.out]
    refine ⟨none, 0, rfl, Ints.nil _ _, ?_⟩
    have hb0 : Below w.heap.size w w1 := Below.trans (by go_grown) (Hb.out.mono (by simp; omega))
    clear hc hf
    go_grown

end Go.Proofs.YtnmilfkocheaiaaGreatDoor
