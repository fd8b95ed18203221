/- FnProductClass's walk: products add up. Conditions: the code is a slice of bytes. -/
import Derived.Deep.Cut
import Derived.Deep.CutRange
import Derived.Deep.RegionHeld3
import Derived.Test.YtnoppclajhfnjabDoorPdC
import Derived.Test.YtnoppclajhfnjabDoorProdS
import Derived.Test.YtnoppclajhfnjabDoorZ1
import Derived.Test.YtnoppclajhfnjabDoorZ3
import Derived.Test.YtnoppclajhfnjabDoorZ5
import Derived.Test.YtnoppclajhfnjabDoorZC
import Derived.Test.YtnoppclajhfnjabDoorZJ
namespace Go.Proofs.YtnoppclajhfnjabDoor
open Go.RowKit

theorem eqB_self (xs : List Int) : eqB xs xs = true := eqB_of rfl (fun _ _ => rfl)

set_option maxHeartbeats 12800000 in
set_option maxRecDepth 100000 in
theorem walkFnProductClass (a : Option Addr) (b off n cap : Nat) (w : World) (hc : n ≤ cap) (hcap : cap ≤ maxLen) (h : Byt w a b off n) (hsw : SW w) :
    Calls Tryd.prog 10 #[.slice a n cap] w fun e w' => e = .returned (.bool true) ∧ Below w.heap.size w w' := by
  have HSW := Lib.hid hsw
  clear hsw
  by_cases hn : n ≤ 1048576
  · have HD := Lib.hid (dDrawProductClass a b off n cap w hc hn hcap h)
    clear h
    go_enter Tryd.func10, Tryd.ntmps10
    go_upto_region 3 with (fail)
    go_cut [3, 4] from 13 to 17 (fun p q wq => ∃ (N M : Int) (zs ys : List Int) (a1 b1 : Option Addr) (c1 d1 o1 o2 : Nat), p = .pointer (some ⟨o1, 0, none⟩) ∧ q = .pointer (some ⟨o2, 0, none⟩) ∧ (-8 ≤ N ∧ N ≤ 8 ∧ zs.length ≤ 34) ∧ (-8 ≤ M ∧ M ≤ 8 ∧ ys.length ≤ 34) ∧ Bx N (.slice a1 zs.length c1) o1 wq ∧ Bx M (.slice b1 ys.length d1) o2 wq ∧ Ints 0 wq (.slice a1 zs.length c1) zs ∧ Ints 0 wq (.slice b1 ys.length d1) ys ∧ Below w.heap.size w wq)
    case first =>
      go_wp2_with fail
      refine HD.out.mono ?_
      rintro e w1 ⟨N, M, zs, ys, a1, b1, c1, d1, rfl, hb1, hb2, h1, h2, hb⟩
      have I1 := Lib.hid (h1.mono (Nat.zero_le _))
      have I2 := Lib.hid (h2.mono (Nat.zero_le _))
      have B := Lib.hid hb
      have hbs := hb.size
      clear h1 h2 hb HD
      go_wp2_with fail
      go_meet
      exact ⟨N, M, zs, ys, a1, b1, c1, d1, _, _, rfl, rfl, hb1, hb2, (Bx.new _ _ _).alloc _, heap_alloc_at (by simp), (I1.out.alloc _).alloc _, (I2.out.alloc _).alloc _, (B.out.alloc hbs _).alloc (by simp; omega) _⟩
    case rest =>
      obtain ⟨N, M, zs, ys, a1, b1, c1, d1, o, p, rfl, rfl, hbd1, hbd2, hx1, hx2, h1, h2, hb⟩ := hcut
      obtain ⟨w2, rfl⟩ : ∃ w2, w2 = wc := ⟨_, rfl⟩
      have X := Lib.hid hx1
      have Y := Lib.hid hx2
      have I1 := Lib.hid h1
      have I2 := Lib.hid h2
      have B := Lib.hid hb
      clear hx1 hx2 h1 h2 hb HD
      by_cases hv : twoP N zs M ys = true
      · have hv' := hv
        simp only [twoP, Bool.and_eq_true, decide_eq_true_eq] at hv'
        obtain ⟨hva, hvb, hMN⟩ := hv'
        obtain ⟨m, ns, rfl, rfl, hca⟩ := vldB_cls hva
        obtain ⟨k, ms, rfl, rfl, hcb⟩ := vldB_cls hvb
        have hmk : m + k ≤ 5 := by omega
        obtain ⟨R, hR⟩ : ∃ R, R = pdTo m ns ms ms.length := ⟨_, rfl⟩
        have hcR : Cls (m + k) R := by rw [hR]; exact pdTo_cls hmk hca hcb
        have hPd : Pd m ns ms R := by rw [hR]; exact pdTo_pd m ns ms
        have hRl : R.length = ms.length * ns.length := by rw [hR]; exact pdTo_len _ (Nat.le_refl _)
        have hvR := cls_vldB hcR
        obtain ⟨nm, hnm⟩ : ∃ nm, nm = m + k := ⟨_, rfl⟩
        rw [← hnm] at hcR hvR
        have eN : pdN (m : Int) (toI ns) (k : Int) (toI ms) = (nm : Int) := by rw [pdN, if_pos hv]; omega
        have eC : pdL (m : Int) (toI ns) (k : Int) (toI ms) = toI R := by rw [pdL, if_pos hv, toNat_toI, toNat_toI, Int.toNat_natCast, hR]
        have HI := Lib.hid (fun va vb w ha hb => implProductClass (m : Int) va (toI ns) (k : Int) vb (toI ms) w ha hb)
        have HS := Lib.hid (fun va vb w ha hb => specProductClass (m : Int) va (toI ns) (k : Int) vb (toI ms) w ha hb)
        rw [eN, eC, hv] at HI HS
        have hla : (toI ns).length = ns.length := toI_length ns
        have hlb : (toI ms).length = ms.length := toI_length ms
        have hlR : (toI R).length = ms.length * ns.length := by rw [toI_length, hRl]
        by_cases hnb : ns = [] ∨ ms = []
        · skip
          have hR0 : (toI R).length = 0 := by
            rw [hlR]
            rcases hnb with e | e <;> simp [e]
          have hdj : (toI ns).length = 0 ∨ ¬ (toI ns).length = 0 ∧ (toI ms).length = 0 := by
            rw [hla, hlb]
            by_cases h0 : ns.length = 0
            · exact .inl h0
            · refine .inr ⟨h0, ?_⟩
              rcases hnb with e | e
              · exact absurd (by rw [e]; rfl) h0
              · rw [e]; rfl
          have HDJ := Lib.hid hdj
          have HR0 := Lib.hid hR0
          clear hR hRl hcR hPd hvR hnb hva hvb hv hca hcb eN eC hla hlb hlR hmk hnm hdj hR0
          generalize toI R = RL at *
          generalize toI ns = zs at *
          generalize toI ms = ys at *
          have x0 := X.out.out.at0
          have x1 := X.out.out.at1
          have y0 := Y.out.out.at0
          have y1 := Y.out.out.at1
          go_wp2_with fail
          clear x0 x1 y0 y1
          refine (HI.out _ _ _ I1.out.rd I2.out.rd).mono ?_
          rintro e w3 ⟨a3, c3, rfl, hin3, hb3⟩
          have hz3 := hb3.size
          replace X := Lib.hid (X.out.next hb3 X.out.lt)
          replace Y := Lib.hid (Y.out.next hb3 Y.out.lt)
          replace I1 := Lib.hid (I1.out.below hb3 (Nat.le_refl _))
          replace I2 := Lib.hid (I2.out.below hb3 (Nat.le_refl _))
          replace B := Lib.hid (B.out.trans (hb3.mono B.out.size))
          have IR := Lib.hid (hin3.mono (Nat.zero_le _))
          clear hin3 hb3
          have Z := Lib.hid (Bx.new (nm : Int) (.slice a3 RL.length c3) w3)
          replace X := Lib.hid (X.out.alloc (Obj.cells #[.int .i64 (nm : Int), .slice a3 RL.length c3] 25))
          replace Y := Lib.hid (Y.out.alloc (Obj.cells #[.int .i64 (nm : Int), .slice a3 RL.length c3] 25))
          replace I1 := Lib.hid (I1.out.alloc (Obj.cells #[.int .i64 (nm : Int), .slice a3 RL.length c3] 25))
          replace I2 := Lib.hid (I2.out.alloc (Obj.cells #[.int .i64 (nm : Int), .slice a3 RL.length c3] 25))
          replace IR := Lib.hid (IR.out.alloc (Obj.cells #[.int .i64 (nm : Int), .slice a3 RL.length c3] 25))
          replace B := Lib.hid (B.out.alloc B.out.size (Obj.cells #[.int .i64 (nm : Int), .slice a3 RL.length c3] 25))
          have x0 := X.out.out.at0
          have x1 := X.out.out.at1
          have y0 := Y.out.out.at0
          have y1 := Y.out.out.at1
          go_wp2_with fail
          clear x0 x1 y0 y1
          generalize (w3.alloc (Obj.cells #[.int .i64 (nm : Int), .slice a3 RL.length c3] 25)) = w4 at *
          generalize ho3 : w3.heap.size = o3 at *
          refine (HS.out _ _ _ ⟨_, I1.out⟩ ⟨_, I2.out⟩).mono ?_
          rintro e w5 ⟨a5, c5, rfl, hin5, hb5⟩
          have hz5 := hb5.size
          replace X := Lib.hid (X.out.next hb5 X.out.lt)
          replace Y := Lib.hid (Y.out.next hb5 Y.out.lt)
          replace Z := Lib.hid (Z.out.next hb5 Z.out.lt)
          replace I1 := Lib.hid (I1.out.below hb5 (Nat.le_refl _))
          replace I2 := Lib.hid (I2.out.below hb5 (Nat.le_refl _))
          replace IR := Lib.hid (IR.out.below hb5 (Nat.le_refl _))
          replace B := Lib.hid (B.out.trans (hb5.mono B.out.size))
          have IS := Lib.hid (hin5.mono (Nat.zero_le _))
          clear hin5 hb5
          have V := Lib.hid (Bx.new (nm : Int) (.slice a5 RL.length c5) w5)
          replace X := Lib.hid (X.out.alloc (Obj.cells #[.int .i64 (nm : Int), .slice a5 RL.length c5] 25))
          replace Y := Lib.hid (Y.out.alloc (Obj.cells #[.int .i64 (nm : Int), .slice a5 RL.length c5] 25))
          replace Z := Lib.hid (Z.out.alloc (Obj.cells #[.int .i64 (nm : Int), .slice a5 RL.length c5] 25))
          replace I1 := Lib.hid (I1.out.alloc (Obj.cells #[.int .i64 (nm : Int), .slice a5 RL.length c5] 25))
          replace I2 := Lib.hid (I2.out.alloc (Obj.cells #[.int .i64 (nm : Int), .slice a5 RL.length c5] 25))
          replace IR := Lib.hid (IR.out.alloc (Obj.cells #[.int .i64 (nm : Int), .slice a5 RL.length c5] 25))
          replace IS := Lib.hid (IS.out.alloc (Obj.cells #[.int .i64 (nm : Int), .slice a5 RL.length c5] 25))
          replace B := Lib.hid (B.out.alloc B.out.size (Obj.cells #[.int .i64 (nm : Int), .slice a5 RL.length c5] 25))
          have x0 := X.out.out.at0
          have x1 := X.out.out.at1
          have y0 := Y.out.out.at0
          have y1 := Y.out.out.at1
          have z0 := Z.out.out.at0
          have z1 := Z.out.out.at1
          go_wp2_with fail
          clear x0 x1 y0 y1 z0 z1
          generalize (w5.alloc (Obj.cells #[.int .i64 (nm : Int), .slice a5 RL.length c5] 25)) = w6 at *
          generalize ho4 : w5.heap.size = o4 at *
          refine (lawsEqualClass _ _ _ _ _ _ _ _ IR.out.rd IS.out.rd).mono ?_
          rintro e w7 ⟨rfl, hb7⟩
          have hz7 := hb7.size
          replace X := Lib.hid (X.out.next hb7 X.out.lt)
          replace Y := Lib.hid (Y.out.next hb7 Y.out.lt)
          replace Z := Lib.hid (Z.out.next hb7 Z.out.lt)
          replace V := Lib.hid (V.out.next hb7 V.out.lt)
          replace I1 := Lib.hid (I1.out.below hb7 (Nat.le_refl _))
          replace I2 := Lib.hid (I2.out.below hb7 (Nat.le_refl _))
          replace IR := Lib.hid (IR.out.below hb7 (Nat.le_refl _))
          replace IS := Lib.hid (IS.out.below hb7 (Nat.le_refl _))
          replace B := Lib.hid (B.out.trans (hb7.mono B.out.size))
          clear hb7
          have hR0 := HR0.out
          have hdj := HDJ.out
          clear HR0 HDJ
          have eR : ((RL.length : Int) == 0) = true := by rw [hR0]; rfl
          have eR2 : (RL.length == 0) = true := by rw [hR0]; rfl
          have eR3 : RL = [] := List.length_eq_zero_iff.1 hR0
          clear HI HS
          rcases hdj with h0 | ⟨h0, h1⟩
          · skip
            have e1 : zs = [] := List.length_eq_zero_iff.1 h0
            subst e1
            subst eR3
            have x0 := X.out.out.at0
            have x1 := X.out.out.at1
            have y0 := Y.out.out.at0
            have y1 := Y.out.out.at1
            have z0 := Z.out.out.at0
            have z1 := Z.out.out.at1
            have v0 := V.out.out.at0
            have v1 := V.out.out.at1
            go_wp2_with fail
            clear x0 x1 y0 y1 z0 z1 v0 v1
            go_ret
            exact ⟨rfl, by first | exact B.out | exact B.out.drew⟩
          · skip
            have e1 : ys = [] := List.length_eq_zero_iff.1 h1
            subst e1
            have e2 : ¬ zs = [] := fun h => h0 (by rw [h]; rfl)
            have e3 : ((zs.length : Int) == 0) = false := beq_eq_false_iff_ne.2 (by omega)
            have e4 : (zs.length == 0) = false := beq_eq_false_iff_ne.2 h0
            subst eR3
            have x0 := X.out.out.at0
            have x1 := X.out.out.at1
            have y0 := Y.out.out.at0
            have y1 := Y.out.out.at1
            have z0 := Z.out.out.at0
            have z1 := Z.out.out.at1
            have v0 := V.out.out.at0
            have v1 := V.out.out.at1
            go_wp2_with fail
            clear x0 x1 y0 y1 z0 z1 v0 v1
            go_ret
            exact ⟨rfl, by first | exact B.out | exact B.out.drew⟩
        · skip
          have hna : ns ≠ [] := fun h => hnb (.inl h)
          have hnb2 : ms ≠ [] := fun h => hnb (.inr h)
          have hnR : R ≠ [] := (pd_ne hPd).2 ⟨hna, hnb2⟩
          have V1 := Lib.hid (fun v w h => implVCDimension (nm : Int) v (toI R) w h)
          have V2 := Lib.hid (fun v w h => implVCDimension (m : Int) v (toI ns) w h)
          have V3 := Lib.hid (fun v w h => implVCDimension (k : Int) v (toI ms) w h)
          have L1 := Lib.hid (fun v w h hs => implLittlestoneOf (nm : Int) v (toI R) w h hs)
          have L2 := Lib.hid (fun v w h hs => implLittlestoneOf (m : Int) v (toI ns) w h hs)
          have L3 := Lib.hid (fun v w h hs => implLittlestoneOf (k : Int) v (toI ms) w h hs)
          have T1 := Lib.hid (fun v w h hs => implTeachingDimension (nm : Int) v (toI R) w h hs)
          have T2 := Lib.hid (fun v w h hs => implTeachingDimension (m : Int) v (toI ns) w h hs)
          have T3 := Lib.hid (fun v w h hs => implTeachingDimension (k : Int) v (toI ms) w h hs)
          have E1 := Lib.hid (fun v w h => implEulerOf (nm : Int) v (toI R) w h)
          have E2 := Lib.hid (fun v w h => implEulerOf (m : Int) v (toI ns) w h)
          have E3 := Lib.hid (fun v w h => implEulerOf (k : Int) v (toI ms) w h)
          rw [vcB_in hvR] at V1
          rw [vcB_in hva] at V2
          rw [vcB_in hvb] at V3
          rw [show litB (nm : Int) (toI R) = mst R by rw [litB, if_pos hvR, toNat_toI]] at L1
          rw [show litB (m : Int) (toI ns) = mst ns by rw [litB, if_pos hva, toNat_toI]] at L2
          rw [show litB (k : Int) (toI ms) = mst ms by rw [litB, if_pos hvb, toNat_toI]] at L3
          rw [show tdB (nm : Int) (toI R) = gTo (tns nm R) R.length by rw [tdB, tnsL_in hvR, tns_len]] at T1
          rw [show tdB (m : Int) (toI ns) = gTo (tns m ns) ns.length by rw [tdB, tnsL_in hva, tns_len]] at T2
          rw [show tdB (k : Int) (toI ms) = gTo (tns k ms) ms.length by rw [tdB, tnsL_in hvb, tns_len]] at T3
          rw [eulB_in hvR] at E1
          rw [eulB_in hva] at E2
          rw [eulB_in hvb] at E3
          subst hnm
          have v1 := vc_pd hmk hca hcb hcR hPd hna hnb2
          have l1 := mst_pd hmk (ns.length + ms.length) ns ms R (Nat.le_refl _) hca.lt hcb.lt hna hnb2 hca.length hcb.length hcR.length hPd
          have t1 := td_pd hmk hca hcb hcR hPd hna hnb2
          have u1 := eul_pd hca hcb hcR hPd
          have v2 := vcL_bd m ns
          have v3 := vcL_bd k ms
          have l2 := mst_bd5 hca hna
          have l3 := mst_bd5 hcb hnb2
          have t2 := td_bd5 (m := m) hna
          have t3 := td_bd5 (m := k) hnb2
          have u2 := mul_bd (eul_bd5 hca) (eul_bd5 hcb)
          have hla0 : ¬ ns.length = 0 := fun h => hna (List.length_eq_zero_iff.1 h)
          have hlb0 : ¬ ms.length = 0 := fun h => hnb2 (List.length_eq_zero_iff.1 h)
          have hla5 := hca.length
          have hlb5 := hcb.length
          have hlR5 := hcR.length
          rw [hRl] at hlR5
          generalize hnm : m + k = nm at *
          generalize vcL nm R = VR at *
          generalize vcL m ns = VA at *
          generalize vcL k ms = VB at *
          generalize mst R = LR at *
          generalize mst ns = LA at *
          generalize mst ms = LB at *
          generalize gTo (tns nm R) R.length = TR at *
          generalize gTo (tns m ns) ns.length = TA at *
          generalize gTo (tns k ms) ms.length = TB at *
          generalize eulTo (cbTo R nm R.length) (cbTo R nm R.length).length = ER at *
          generalize eulTo (cbTo ns m ns.length) (cbTo ns m ns.length).length = EA at *
          generalize eulTo (cbTo ms k ms.length) (cbTo ms k ms.length).length = EB at *
          have hwv : IntKind.i64.wrap (VA + VB) = VR := by rw [IntKind.wrap_i64]; omega
          have hwl : IntKind.i64.wrap (LA + LB) = LR := by rw [IntKind.wrap_i64]; omega
          have hwt : IntKind.i64.wrap (TA + TB) = TR := by rw [IntKind.wrap_i64]; omega
          have hwe : IntKind.i64.wrap (EA * EB) = ER := by rw [← u1] at u2 ⊢; rw [IntKind.wrap_i64]; omega
          have hwn : IntKind.i64.wrap ((ns.length : Int) * (ms.length : Int)) = (((ms.length * ns.length : Nat)) : Int) := by
            rw [← Int.natCast_mul, Nat.mul_comm]
            rw [IntKind.wrap_i64]; omega
          rw [← hla] at hwn hla0
          rw [← hlb] at hwn hlb0
          rw [← hla, ← hlb] at hlR
          have hwm : IntKind.i64.wrap (((toI ns).length : Int) * ((toI ms).length : Int)) = ((toI R).length : Int) := by rw [hwn, hlR]
          have e1 : (((toI ns).length : Int) == 0) = false := beq_eq_false_iff_ne.2 (by omega)
          have e2 : (((toI ms).length : Int) == 0) = false := beq_eq_false_iff_ne.2 (by omega)
          have e3 : ((toI ns).length == 0) = false := beq_eq_false_iff_ne.2 hla0
          have e4 : ((toI ms).length == 0) = false := beq_eq_false_iff_ne.2 hlb0
          have e5 : ¬ toI ns = [] := fun h => hla0 (by rw [h]; rfl)
          have e6 : ¬ toI ms = [] := fun h => hlb0 (by rw [h]; rfl)
          clear hR hRl hcR hPd hvR hnb hva hvb hv hca hcb eN eC hla hlb hlR hmk hwn v1 l1 t1 u1 v2 v3 l2 l3 t2 t3 u2 hna hnb2 hnR hla5 hlb5 hlR5 hnm
          generalize toI R = RL at *
          generalize toI ns = zs at *
          generalize toI ms = ys at *
          have x0 := X.out.out.at0
          have x1 := X.out.out.at1
          have y0 := Y.out.out.at0
          have y1 := Y.out.out.at1
          go_wp2_with fail
          clear x0 x1 y0 y1
          refine (HI.out _ _ _ I1.out.rd I2.out.rd).mono ?_
          rintro e w3 ⟨a3, c3, rfl, hin3, hb3⟩
          have hz3 := hb3.size
          replace X := Lib.hid (X.out.next hb3 X.out.lt)
          replace Y := Lib.hid (Y.out.next hb3 Y.out.lt)
          replace I1 := Lib.hid (I1.out.below hb3 (Nat.le_refl _))
          replace I2 := Lib.hid (I2.out.below hb3 (Nat.le_refl _))
          replace B := Lib.hid (B.out.trans (hb3.mono B.out.size))
          have IR := Lib.hid (hin3.mono (Nat.zero_le _))
          clear hin3 hb3
          have Z := Lib.hid (Bx.new (nm : Int) (.slice a3 RL.length c3) w3)
          replace X := Lib.hid (X.out.alloc (Obj.cells #[.int .i64 (nm : Int), .slice a3 RL.length c3] 25))
          replace Y := Lib.hid (Y.out.alloc (Obj.cells #[.int .i64 (nm : Int), .slice a3 RL.length c3] 25))
          replace I1 := Lib.hid (I1.out.alloc (Obj.cells #[.int .i64 (nm : Int), .slice a3 RL.length c3] 25))
          replace I2 := Lib.hid (I2.out.alloc (Obj.cells #[.int .i64 (nm : Int), .slice a3 RL.length c3] 25))
          replace IR := Lib.hid (IR.out.alloc (Obj.cells #[.int .i64 (nm : Int), .slice a3 RL.length c3] 25))
          replace B := Lib.hid (B.out.alloc B.out.size (Obj.cells #[.int .i64 (nm : Int), .slice a3 RL.length c3] 25))
          have x0 := X.out.out.at0
          have x1 := X.out.out.at1
          have y0 := Y.out.out.at0
          have y1 := Y.out.out.at1
          go_wp2_with fail
          clear x0 x1 y0 y1
          generalize (w3.alloc (Obj.cells #[.int .i64 (nm : Int), .slice a3 RL.length c3] 25)) = w4 at *
          generalize ho3 : w3.heap.size = o3 at *
          refine (HS.out _ _ _ ⟨_, I1.out⟩ ⟨_, I2.out⟩).mono ?_
          rintro e w5 ⟨a5, c5, rfl, hin5, hb5⟩
          have hz5 := hb5.size
          replace X := Lib.hid (X.out.next hb5 X.out.lt)
          replace Y := Lib.hid (Y.out.next hb5 Y.out.lt)
          replace Z := Lib.hid (Z.out.next hb5 Z.out.lt)
          replace I1 := Lib.hid (I1.out.below hb5 (Nat.le_refl _))
          replace I2 := Lib.hid (I2.out.below hb5 (Nat.le_refl _))
          replace IR := Lib.hid (IR.out.below hb5 (Nat.le_refl _))
          replace B := Lib.hid (B.out.trans (hb5.mono B.out.size))
          have IS := Lib.hid (hin5.mono (Nat.zero_le _))
          clear hin5 hb5
          have V := Lib.hid (Bx.new (nm : Int) (.slice a5 RL.length c5) w5)
          replace X := Lib.hid (X.out.alloc (Obj.cells #[.int .i64 (nm : Int), .slice a5 RL.length c5] 25))
          replace Y := Lib.hid (Y.out.alloc (Obj.cells #[.int .i64 (nm : Int), .slice a5 RL.length c5] 25))
          replace Z := Lib.hid (Z.out.alloc (Obj.cells #[.int .i64 (nm : Int), .slice a5 RL.length c5] 25))
          replace I1 := Lib.hid (I1.out.alloc (Obj.cells #[.int .i64 (nm : Int), .slice a5 RL.length c5] 25))
          replace I2 := Lib.hid (I2.out.alloc (Obj.cells #[.int .i64 (nm : Int), .slice a5 RL.length c5] 25))
          replace IR := Lib.hid (IR.out.alloc (Obj.cells #[.int .i64 (nm : Int), .slice a5 RL.length c5] 25))
          replace IS := Lib.hid (IS.out.alloc (Obj.cells #[.int .i64 (nm : Int), .slice a5 RL.length c5] 25))
          replace B := Lib.hid (B.out.alloc B.out.size (Obj.cells #[.int .i64 (nm : Int), .slice a5 RL.length c5] 25))
          have x0 := X.out.out.at0
          have x1 := X.out.out.at1
          have y0 := Y.out.out.at0
          have y1 := Y.out.out.at1
          have z0 := Z.out.out.at0
          have z1 := Z.out.out.at1
          go_wp2_with fail
          clear x0 x1 y0 y1 z0 z1
          generalize (w5.alloc (Obj.cells #[.int .i64 (nm : Int), .slice a5 RL.length c5] 25)) = w6 at *
          generalize ho4 : w5.heap.size = o4 at *
          refine (lawsEqualClass _ _ _ _ _ _ _ _ IR.out.rd IS.out.rd).mono ?_
          rintro e w7 ⟨rfl, hb7⟩
          have hz7 := hb7.size
          replace X := Lib.hid (X.out.next hb7 X.out.lt)
          replace Y := Lib.hid (Y.out.next hb7 Y.out.lt)
          replace Z := Lib.hid (Z.out.next hb7 Z.out.lt)
          replace V := Lib.hid (V.out.next hb7 V.out.lt)
          replace I1 := Lib.hid (I1.out.below hb7 (Nat.le_refl _))
          replace I2 := Lib.hid (I2.out.below hb7 (Nat.le_refl _))
          replace IR := Lib.hid (IR.out.below hb7 (Nat.le_refl _))
          replace IS := Lib.hid (IS.out.below hb7 (Nat.le_refl _))
          replace B := Lib.hid (B.out.trans (hb7.mono B.out.size))
          clear hb7
          clear HI HS IS
          have x0 := X.out.out.at0
          have x1 := X.out.out.at1
          have y0 := Y.out.out.at0
          have y1 := Y.out.out.at1
          have z0 := Z.out.out.at0
          have z1 := Z.out.out.at1
          go_wp2_with fail
          refine wp_region_held_drew (S := fun w' => w'.cell? ⟨o, 0, none⟩ = some (.int .i64 (m : Int)) ∧ w'.cell? ⟨o, 1, none⟩ = some (.slice a1 zs.length c1) ∧ w'.cell? ⟨p, 0, none⟩ = some (.int .i64 (k : Int)) ∧ w'.cell? ⟨p, 1, none⟩ = some (.slice b1 ys.length d1) ∧ w'.cell? ⟨o3, 0, none⟩ = some (.int .i64 (nm : Int)) ∧ w'.cell? ⟨o3, 1, none⟩ = some (.slice a3 RL.length c3)) (by kernel_rfl) (by first | exact ⟨x0, x1, y0, y1, z0, z1⟩ | go_keep) (fun hHeld => ?_)
          refine wpAnyH_take (i := 0) (v := ?_) rfl (by kernel_rfl) (by kernel_rfl) (by kernel_rfl) (fun _ _ _ h => h) (Or.inl ⟨by rfl, ?_⟩) (by assumption) ?_
          rotate_left
          · (intro w hSw; (try dsimp only at hSw); go_simp; try with_reducible rfl)
          try simp only [List.getElem_toArray, List.getElem_cons_zero, Act.put, List.setIfInBounds_toArray, List.set_cons_zero, List.set_cons_succ]
          refine wpAnyH_take (i := 1) (v := ?_) rfl (by kernel_rfl) (by kernel_rfl) (by kernel_rfl) (fun _ _ _ h => h) (Or.inl ⟨by rfl, ?_⟩) (by assumption) ?_
          rotate_left
          · (intro w hSw; (try dsimp only at hSw); go_simp; try with_reducible rfl)
          try simp only [List.getElem_toArray, List.getElem_cons_zero, List.getElem_cons_succ, Act.put, List.setIfInBounds_toArray, List.set_cons_zero, List.set_cons_succ]
          refine wpAnyH_take (i := 2) (v := ?_) rfl (by kernel_rfl) (by kernel_rfl) (by kernel_rfl) (fun _ _ _ h => h) (Or.inl ⟨by rfl, ?_⟩) (by assumption) ?_
          rotate_left
          · (intro w hSw; (try dsimp only at hSw); go_simp; try with_reducible rfl)
          try simp only [List.getElem_toArray, List.getElem_cons_zero, List.getElem_cons_succ, Act.put, List.setIfInBounds_toArray, List.set_cons_zero, List.set_cons_succ]
          refine wpAnyH_take (i := 3) (v := ?_) rfl (by kernel_rfl) (by kernel_rfl) (by kernel_rfl) (fun _ _ _ h => h) (Or.inl ⟨by rfl, ?_⟩) (by assumption) ?_
          rotate_left
          · (intro w hSw; (try dsimp only at hSw); go_simp; try with_reducible rfl)
          try simp only [List.getElem_toArray, List.getElem_cons_zero, List.getElem_cons_succ, Act.put, List.setIfInBounds_toArray, List.set_cons_zero, List.set_cons_succ]
          refine wpAnyH_take (i := 4) (v := ?_) rfl (by kernel_rfl) (by kernel_rfl) (by kernel_rfl) (fun _ _ _ h => h) (Or.inl ⟨by rfl, ?_⟩) (by assumption) ?_
          rotate_left
          · (intro w hSw; (try dsimp only at hSw); go_simp; try with_reducible rfl)
          try simp only [List.getElem_toArray, List.getElem_cons_zero, List.getElem_cons_succ, Act.put, List.setIfInBounds_toArray, List.set_cons_zero, List.set_cons_succ]
          refine wpAnyH_take (i := 5) (v := ?_) rfl (by kernel_rfl) (by kernel_rfl) (by kernel_rfl) (fun _ _ _ h => h) (Or.inl ⟨by rfl, ?_⟩) (by assumption) ?_
          rotate_left
          · (intro w hSw; (try dsimp only at hSw); go_simp; try with_reducible rfl)
          try simp only [List.getElem_toArray, List.getElem_cons_zero, List.getElem_cons_succ, Act.put, List.setIfInBounds_toArray, List.set_cons_zero, List.set_cons_succ]
          refine wpAnyH_take (i := 6) (v := ?_) rfl (by kernel_rfl) (by kernel_rfl) (by kernel_rfl) (fun _ _ _ h => h) (Or.inl ⟨by rfl, ?_⟩) (by assumption) ?_
          rotate_left
          · (intro w hSw; (try dsimp only at hSw); go_simp; try with_reducible rfl)
          try simp only [List.getElem_toArray, List.getElem_cons_zero, List.getElem_cons_succ, Act.put, List.setIfInBounds_toArray, List.set_cons_zero, List.set_cons_succ]
          refine wpAnyH_take (i := 7) (v := ?_) rfl (by kernel_rfl) (by kernel_rfl) (by kernel_rfl) (fun _ _ _ h => h) (Or.inl ⟨by rfl, ?_⟩) (by assumption) ?_
          rotate_left
          · (intro w hSw; (try dsimp only at hSw); go_simp; try with_reducible rfl)
          try simp only [List.getElem_toArray, List.getElem_cons_zero, List.getElem_cons_succ, Act.put, List.setIfInBounds_toArray, List.set_cons_zero, List.set_cons_succ]
          refine wpAnyH_take (i := 8) (v := ?_) rfl (by kernel_rfl) (by kernel_rfl) (by kernel_rfl) (fun _ _ _ h => h) (Or.inl ⟨by rfl, ?_⟩) (by assumption) ?_
          rotate_left
          · (intro w hSw; (try dsimp only at hSw); go_simp; try with_reducible rfl)
          try simp only [List.getElem_toArray, List.getElem_cons_zero, List.getElem_cons_succ, Act.put, List.setIfInBounds_toArray, List.set_cons_zero, List.set_cons_succ]
          refine wpAnyH_take (i := 9) (v := ?_) rfl (by kernel_rfl) (by kernel_rfl) (by kernel_rfl) (fun _ _ _ h => h) (Or.inl ⟨by rfl, ?_⟩) (by assumption) ?_
          rotate_left
          · (intro w hSw; (try dsimp only at hSw); go_simp; (try simp only [hwm]); try with_reducible rfl)
          try simp only [List.getElem_toArray, List.getElem_cons_zero, List.getElem_cons_succ, Act.put, List.setIfInBounds_toArray, List.set_cons_zero, List.set_cons_succ]
          refine wpAnyH_take (i := 10) (v := ?_) rfl (by kernel_rfl) (by kernel_rfl) (by kernel_rfl) (fun _ _ _ h => h) (Or.inl ⟨by rfl, ?_⟩) (by assumption) ?_
          rotate_left
          · (intro w hSw; (try dsimp only at hSw); go_simp; try with_reducible rfl)
          try simp only [List.getElem_toArray, List.getElem_cons_zero, List.getElem_cons_succ, Act.put, List.setIfInBounds_toArray, List.set_cons_zero, List.set_cons_succ]
          refine wpAnyH_take (i := 11) (v := ?_) rfl (by kernel_rfl) (by kernel_rfl) (by kernel_rfl) (fun _ _ _ h => h) (Or.inl ⟨by rfl, ?_⟩) (by assumption) ?_
          rotate_left
          · (intro w hSw; (try dsimp only at hSw); go_simp; try with_reducible rfl)
          try simp only [List.getElem_toArray, List.getElem_cons_zero, List.getElem_cons_succ, Act.put, List.setIfInBounds_toArray, List.set_cons_zero, List.set_cons_succ]
          refine wpAnyH_take (i := 12) (v := ?_) rfl (by kernel_rfl) (by kernel_rfl) (by kernel_rfl) (fun _ _ _ h => h) (Or.inl ⟨by rfl, ?_⟩) (by assumption) ?_
          rotate_left
          · (intro w hSw; (try dsimp only at hSw); go_simp; try with_reducible rfl)
          try simp only [List.getElem_toArray, List.getElem_cons_zero, List.getElem_cons_succ, Act.put, List.setIfInBounds_toArray, List.set_cons_zero, List.set_cons_succ]
          refine wpAnyH_take (i := 14) (v := ?_) rfl (by kernel_rfl) (by kernel_rfl) (by kernel_rfl) (fun _ _ _ h => h) (Or.inl ⟨by rfl, ?_⟩) (by assumption) ?_
          rotate_left
          · (intro w hSw; (try dsimp only at hSw); go_simp; try with_reducible rfl)
          try simp only [List.getElem_toArray, List.getElem_cons_zero, List.getElem_cons_succ, Act.put, List.setIfInBounds_toArray, List.set_cons_zero, List.set_cons_succ]
          refine wpAnyH_take (i := 16) (v := ?_) rfl (by kernel_rfl) (by kernel_rfl) (by kernel_rfl) (fun _ _ _ h => h) (Or.inl ⟨by rfl, ?_⟩) (by assumption) ?_
          rotate_left
          · (intro w hSw; (try dsimp only at hSw); go_simp; try with_reducible rfl)
          try simp only [List.getElem_toArray, List.getElem_cons_zero, List.getElem_cons_succ, Act.put, List.setIfInBounds_toArray, List.set_cons_zero, List.set_cons_succ]
          refine wpAnyH_ready (rs := [13]) (by kernel_rfl) (by simp) ?_
          refine AllReadyH.cons rfl (fun K hK => ?_) AllReadyH.nil
          try simp only [List.getElem_toArray]
          go_simp
          (go_at_call 52; refine (V1.out _ _ (by first | exact IR.out.rd | exact IR.out.rd.below (k := w7.heap.size) ((Below.refl _ _).drew) (Nat.le_refl _))).mono ?_; rintro e w8 ⟨rfl, hbd⟩; have hb8 : Below w7.heap.size w7 w8 := (by first | exact hbd | exact ⟨hbd.os, hbd.tape, hbd.output, hbd.size, hbd.block⟩); clear hbd; have hz8 := hb8.size; replace X := Lib.hid (X.out.next hb8 X.out.lt); replace Y := Lib.hid (Y.out.next hb8 Y.out.lt); replace Z := Lib.hid (Z.out.next hb8 Z.out.lt); replace I1 := Lib.hid (I1.out.below hb8 (Nat.le_refl _)); replace I2 := Lib.hid (I2.out.below hb8 (Nat.le_refl _)); replace IR := Lib.hid (IR.out.below hb8 (Nat.le_refl _)); replace B := Lib.hid (B.out.trans (hb8.mono B.out.size)); clear hb8; have x0_8 := X.out.out.at0; have x1_8 := X.out.out.at1; have y0_8 := Y.out.out.at0; have y1_8 := Y.out.out.at1; have z0_8 := Z.out.out.at0; have z1_8 := Z.out.out.at1)
          refine hK.out _ _ (by first | exact ⟨x0_8, x1_8, y0_8, y1_8, z0_8, z1_8⟩ | exact ⟨x0, x1, y0, y1, z0, z1⟩ | go_keep) (fun hHeld => ?_)
          clear hK K
          try simp only [List.getElem_toArray, List.getElem_cons_zero, List.getElem_cons_succ, Act.put, List.setIfInBounds_toArray, List.set_cons_zero, List.set_cons_succ]
          refine wpAnyH_ready (rs := [15]) (by kernel_rfl) (by simp) ?_
          refine AllReadyH.cons rfl (fun K hK => ?_) AllReadyH.nil
          try simp only [List.getElem_toArray]
          go_simp
          (go_at_call 52; refine (V2.out _ _ (by first | exact I1.out.rd | exact I1.out.rd.below (k := w8.heap.size) ((Below.refl _ _).drew) (Nat.le_refl _))).mono ?_; rintro e w9 ⟨rfl, hbd⟩; have hb9 : Below w8.heap.size w8 w9 := (by first | exact hbd | exact ⟨hbd.os, hbd.tape, hbd.output, hbd.size, hbd.block⟩); clear hbd; have hz9 := hb9.size; replace X := Lib.hid (X.out.next hb9 X.out.lt); replace Y := Lib.hid (Y.out.next hb9 Y.out.lt); replace Z := Lib.hid (Z.out.next hb9 Z.out.lt); replace I1 := Lib.hid (I1.out.below hb9 (Nat.le_refl _)); replace I2 := Lib.hid (I2.out.below hb9 (Nat.le_refl _)); replace IR := Lib.hid (IR.out.below hb9 (Nat.le_refl _)); replace B := Lib.hid (B.out.trans (hb9.mono B.out.size)); clear hb9; have x0_9 := X.out.out.at0; have x1_9 := X.out.out.at1; have y0_9 := Y.out.out.at0; have y1_9 := Y.out.out.at1; have z0_9 := Z.out.out.at0; have z1_9 := Z.out.out.at1)
          refine hK.out _ _ (by first | exact ⟨x0_9, x1_9, y0_9, y1_9, z0_9, z1_9⟩ | exact ⟨x0_8, x1_8, y0_8, y1_8, z0_8, z1_8⟩ | exact ⟨x0, x1, y0, y1, z0, z1⟩ | go_keep) (fun hHeld => ?_)
          clear hK K
          try simp only [List.getElem_toArray, List.getElem_cons_zero, List.getElem_cons_succ, Act.put, List.setIfInBounds_toArray, List.set_cons_zero, List.set_cons_succ]
          refine wpAnyH_ready (rs := [17]) (by kernel_rfl) (by simp) ?_
          refine AllReadyH.cons rfl (fun K hK => ?_) AllReadyH.nil
          try simp only [List.getElem_toArray]
          go_simp
          (go_at_call 52; refine (V3.out _ _ (by first | exact I2.out.rd | exact I2.out.rd.below (k := w9.heap.size) ((Below.refl _ _).drew) (Nat.le_refl _))).mono ?_; rintro e w10 ⟨rfl, hbd⟩; have hb10 : Below w9.heap.size w9 w10 := (by first | exact hbd | exact ⟨hbd.os, hbd.tape, hbd.output, hbd.size, hbd.block⟩); clear hbd; have hz10 := hb10.size; replace X := Lib.hid (X.out.next hb10 X.out.lt); replace Y := Lib.hid (Y.out.next hb10 Y.out.lt); replace Z := Lib.hid (Z.out.next hb10 Z.out.lt); replace I1 := Lib.hid (I1.out.below hb10 (Nat.le_refl _)); replace I2 := Lib.hid (I2.out.below hb10 (Nat.le_refl _)); replace IR := Lib.hid (IR.out.below hb10 (Nat.le_refl _)); replace B := Lib.hid (B.out.trans (hb10.mono B.out.size)); clear hb10; have x0_10 := X.out.out.at0; have x1_10 := X.out.out.at1; have y0_10 := Y.out.out.at0; have y1_10 := Y.out.out.at1; have z0_10 := Z.out.out.at0; have z1_10 := Z.out.out.at1)
          refine hK.out _ _ (by first | exact ⟨x0_10, x1_10, y0_10, y1_10, z0_10, z1_10⟩ | exact ⟨x0_9, x1_9, y0_9, y1_9, z0_9, z1_9⟩ | exact ⟨x0_8, x1_8, y0_8, y1_8, z0_8, z1_8⟩ | exact ⟨x0, x1, y0, y1, z0, z1⟩ | go_keep) (fun hHeld => ?_)
          clear hK K
          try simp only [List.getElem_toArray, List.getElem_cons_zero, List.getElem_cons_succ, Act.put, List.setIfInBounds_toArray, List.set_cons_zero, List.set_cons_succ]
          refine wpAnyH_take (i := 18) (v := ?_) rfl (by kernel_rfl) (by kernel_rfl) (by kernel_rfl) (fun _ _ _ h => h) (Or.inl ⟨by rfl, ?_⟩) (by assumption) ?_
          rotate_left
          · (intro w hSw; (try dsimp only at hSw); go_simp; (try simp only [hwv]); try with_reducible rfl)
          try simp only [List.getElem_toArray, List.getElem_cons_zero, List.getElem_cons_succ, Act.put, List.setIfInBounds_toArray, List.set_cons_zero, List.set_cons_succ]
          refine wpAnyH_take (i := 19) (v := ?_) rfl (by kernel_rfl) (by kernel_rfl) (by kernel_rfl) (fun _ _ _ h => h) (Or.inl ⟨by rfl, ?_⟩) (by assumption) ?_
          rotate_left
          · (intro w hSw; (try dsimp only at hSw); go_simp; try with_reducible rfl)
          try simp only [List.getElem_toArray, List.getElem_cons_zero, List.getElem_cons_succ, Act.put, List.setIfInBounds_toArray, List.set_cons_zero, List.set_cons_succ]
          refine wpAnyH_take (i := 20) (v := ?_) rfl (by kernel_rfl) (by kernel_rfl) (by kernel_rfl) (fun _ _ _ h => h) (Or.inl ⟨by rfl, ?_⟩) (by assumption) ?_
          rotate_left
          · (intro w hSw; (try dsimp only at hSw); go_simp; try with_reducible rfl)
          try simp only [List.getElem_toArray, List.getElem_cons_zero, List.getElem_cons_succ, Act.put, List.setIfInBounds_toArray, List.set_cons_zero, List.set_cons_succ]
          refine wpAnyH_take (i := 21) (v := ?_) rfl (by kernel_rfl) (by kernel_rfl) (by kernel_rfl) (fun _ _ _ h => h) (Or.inl ⟨by rfl, ?_⟩) (by assumption) ?_
          rotate_left
          · (intro w hSw; (try dsimp only at hSw); go_simp; try with_reducible rfl)
          try simp only [List.getElem_toArray, List.getElem_cons_zero, List.getElem_cons_succ, Act.put, List.setIfInBounds_toArray, List.set_cons_zero, List.set_cons_succ]
          refine wpAnyH_take (i := 22) (v := ?_) rfl (by kernel_rfl) (by kernel_rfl) (by kernel_rfl) (fun _ _ _ h => h) (Or.inl ⟨by rfl, ?_⟩) (by assumption) ?_
          rotate_left
          · (intro w hSw; (try dsimp only at hSw); go_simp; try with_reducible rfl)
          try simp only [List.getElem_toArray, List.getElem_cons_zero, List.getElem_cons_succ, Act.put, List.setIfInBounds_toArray, List.set_cons_zero, List.set_cons_succ]
          refine wpAnyH_take (i := 24) (v := ?_) rfl (by kernel_rfl) (by kernel_rfl) (by kernel_rfl) (fun _ _ _ h => h) (Or.inl ⟨by rfl, ?_⟩) (by assumption) ?_
          rotate_left
          · (intro w hSw; (try dsimp only at hSw); go_simp; try with_reducible rfl)
          try simp only [List.getElem_toArray, List.getElem_cons_zero, List.getElem_cons_succ, Act.put, List.setIfInBounds_toArray, List.set_cons_zero, List.set_cons_succ]
          refine wpAnyH_take (i := 26) (v := ?_) rfl (by kernel_rfl) (by kernel_rfl) (by kernel_rfl) (fun _ _ _ h => h) (Or.inl ⟨by rfl, ?_⟩) (by assumption) ?_
          rotate_left
          · (intro w hSw; (try dsimp only at hSw); go_simp; try with_reducible rfl)
          try simp only [List.getElem_toArray, List.getElem_cons_zero, List.getElem_cons_succ, Act.put, List.setIfInBounds_toArray, List.set_cons_zero, List.set_cons_succ]
          refine wpAnyH_ready (rs := [23]) (by kernel_rfl) (by simp) ?_
          refine AllReadyH.cons rfl (fun K hK => ?_) AllReadyH.nil
          try simp only [List.getElem_toArray]
          go_simp
          (go_at_call 47; refine (L1.out _ _ (by first | exact IR.out.rd | exact IR.out.rd.below (k := w10.heap.size) ((Below.refl _ _).drew) (Nat.le_refl _)) (by first | exact HSW.out.next B.out | exact (show SW (World.drew _) from HSW.out.next B.out) | exact HSW.out.next (B.out.trans ((Below.refl _ _).drew)))).mono ?_; rintro e w11 ⟨rfl, hbd⟩; have hb11 : Below w10.heap.size w10 w11 := (by first | exact hbd | exact ⟨hbd.os, hbd.tape, hbd.output, hbd.size, hbd.block⟩); clear hbd; have hz11 := hb11.size; replace X := Lib.hid (X.out.next hb11 X.out.lt); replace Y := Lib.hid (Y.out.next hb11 Y.out.lt); replace Z := Lib.hid (Z.out.next hb11 Z.out.lt); replace I1 := Lib.hid (I1.out.below hb11 (Nat.le_refl _)); replace I2 := Lib.hid (I2.out.below hb11 (Nat.le_refl _)); replace IR := Lib.hid (IR.out.below hb11 (Nat.le_refl _)); replace B := Lib.hid (B.out.trans (hb11.mono B.out.size)); clear hb11; have x0_11 := X.out.out.at0; have x1_11 := X.out.out.at1; have y0_11 := Y.out.out.at0; have y1_11 := Y.out.out.at1; have z0_11 := Z.out.out.at0; have z1_11 := Z.out.out.at1)
          refine hK.out _ _ (by first | exact ⟨x0_11, x1_11, y0_11, y1_11, z0_11, z1_11⟩ | exact ⟨x0_10, x1_10, y0_10, y1_10, z0_10, z1_10⟩ | exact ⟨x0_9, x1_9, y0_9, y1_9, z0_9, z1_9⟩ | exact ⟨x0_8, x1_8, y0_8, y1_8, z0_8, z1_8⟩ | exact ⟨x0, x1, y0, y1, z0, z1⟩ | go_keep) (fun hHeld => ?_)
          clear hK K
          try simp only [List.getElem_toArray, List.getElem_cons_zero, List.getElem_cons_succ, Act.put, List.setIfInBounds_toArray, List.set_cons_zero, List.set_cons_succ]
          refine wpAnyH_ready (rs := [25]) (by kernel_rfl) (by simp) ?_
          refine AllReadyH.cons rfl (fun K hK => ?_) AllReadyH.nil
          try simp only [List.getElem_toArray]
          go_simp
          (go_at_call 47; refine (L2.out _ _ (by first | exact I1.out.rd | exact I1.out.rd.below (k := w11.heap.size) ((Below.refl _ _).drew) (Nat.le_refl _)) (by first | exact HSW.out.next B.out | exact (show SW (World.drew _) from HSW.out.next B.out) | exact HSW.out.next (B.out.trans ((Below.refl _ _).drew)))).mono ?_; rintro e w12 ⟨rfl, hbd⟩; have hb12 : Below w11.heap.size w11 w12 := (by first | exact hbd | exact ⟨hbd.os, hbd.tape, hbd.output, hbd.size, hbd.block⟩); clear hbd; have hz12 := hb12.size; replace X := Lib.hid (X.out.next hb12 X.out.lt); replace Y := Lib.hid (Y.out.next hb12 Y.out.lt); replace Z := Lib.hid (Z.out.next hb12 Z.out.lt); replace I1 := Lib.hid (I1.out.below hb12 (Nat.le_refl _)); replace I2 := Lib.hid (I2.out.below hb12 (Nat.le_refl _)); replace IR := Lib.hid (IR.out.below hb12 (Nat.le_refl _)); replace B := Lib.hid (B.out.trans (hb12.mono B.out.size)); clear hb12; have x0_12 := X.out.out.at0; have x1_12 := X.out.out.at1; have y0_12 := Y.out.out.at0; have y1_12 := Y.out.out.at1; have z0_12 := Z.out.out.at0; have z1_12 := Z.out.out.at1)
          refine hK.out _ _ (by first | exact ⟨x0_12, x1_12, y0_12, y1_12, z0_12, z1_12⟩ | exact ⟨x0_11, x1_11, y0_11, y1_11, z0_11, z1_11⟩ | exact ⟨x0_10, x1_10, y0_10, y1_10, z0_10, z1_10⟩ | exact ⟨x0_9, x1_9, y0_9, y1_9, z0_9, z1_9⟩ | exact ⟨x0_8, x1_8, y0_8, y1_8, z0_8, z1_8⟩ | exact ⟨x0, x1, y0, y1, z0, z1⟩ | go_keep) (fun hHeld => ?_)
          clear hK K
          try simp only [List.getElem_toArray, List.getElem_cons_zero, List.getElem_cons_succ, Act.put, List.setIfInBounds_toArray, List.set_cons_zero, List.set_cons_succ]
          refine wpAnyH_ready (rs := [27]) (by kernel_rfl) (by simp) ?_
          refine AllReadyH.cons rfl (fun K hK => ?_) AllReadyH.nil
          try simp only [List.getElem_toArray]
          go_simp
          (go_at_call 47; refine (L3.out _ _ (by first | exact I2.out.rd | exact I2.out.rd.below (k := w12.heap.size) ((Below.refl _ _).drew) (Nat.le_refl _)) (by first | exact HSW.out.next B.out | exact (show SW (World.drew _) from HSW.out.next B.out) | exact HSW.out.next (B.out.trans ((Below.refl _ _).drew)))).mono ?_; rintro e w13 ⟨rfl, hbd⟩; have hb13 : Below w12.heap.size w12 w13 := (by first | exact hbd | exact ⟨hbd.os, hbd.tape, hbd.output, hbd.size, hbd.block⟩); clear hbd; have hz13 := hb13.size; replace X := Lib.hid (X.out.next hb13 X.out.lt); replace Y := Lib.hid (Y.out.next hb13 Y.out.lt); replace Z := Lib.hid (Z.out.next hb13 Z.out.lt); replace I1 := Lib.hid (I1.out.below hb13 (Nat.le_refl _)); replace I2 := Lib.hid (I2.out.below hb13 (Nat.le_refl _)); replace IR := Lib.hid (IR.out.below hb13 (Nat.le_refl _)); replace B := Lib.hid (B.out.trans (hb13.mono B.out.size)); clear hb13; have x0_13 := X.out.out.at0; have x1_13 := X.out.out.at1; have y0_13 := Y.out.out.at0; have y1_13 := Y.out.out.at1; have z0_13 := Z.out.out.at0; have z1_13 := Z.out.out.at1)
          refine hK.out _ _ (by first | exact ⟨x0_13, x1_13, y0_13, y1_13, z0_13, z1_13⟩ | exact ⟨x0_12, x1_12, y0_12, y1_12, z0_12, z1_12⟩ | exact ⟨x0_11, x1_11, y0_11, y1_11, z0_11, z1_11⟩ | exact ⟨x0_10, x1_10, y0_10, y1_10, z0_10, z1_10⟩ | exact ⟨x0_9, x1_9, y0_9, y1_9, z0_9, z1_9⟩ | exact ⟨x0_8, x1_8, y0_8, y1_8, z0_8, z1_8⟩ | exact ⟨x0, x1, y0, y1, z0, z1⟩ | go_keep) (fun hHeld => ?_)
          clear hK K
          try simp only [List.getElem_toArray, List.getElem_cons_zero, List.getElem_cons_succ, Act.put, List.setIfInBounds_toArray, List.set_cons_zero, List.set_cons_succ]
          refine wpAnyH_take (i := 28) (v := ?_) rfl (by kernel_rfl) (by kernel_rfl) (by kernel_rfl) (fun _ _ _ h => h) (Or.inl ⟨by rfl, ?_⟩) (by assumption) ?_
          rotate_left
          · (intro w hSw; (try dsimp only at hSw); go_simp; (try simp only [hwl]); try with_reducible rfl)
          try simp only [List.getElem_toArray, List.getElem_cons_zero, List.getElem_cons_succ, Act.put, List.setIfInBounds_toArray, List.set_cons_zero, List.set_cons_succ]
          refine wpAnyH_take (i := 29) (v := ?_) rfl (by kernel_rfl) (by kernel_rfl) (by kernel_rfl) (fun _ _ _ h => h) (Or.inl ⟨by rfl, ?_⟩) (by assumption) ?_
          rotate_left
          · (intro w hSw; (try dsimp only at hSw); go_simp; try with_reducible rfl)
          try simp only [List.getElem_toArray, List.getElem_cons_zero, List.getElem_cons_succ, Act.put, List.setIfInBounds_toArray, List.set_cons_zero, List.set_cons_succ]
          refine wpAnyH_take (i := 30) (v := ?_) rfl (by kernel_rfl) (by kernel_rfl) (by kernel_rfl) (fun _ _ _ h => h) (Or.inl ⟨by rfl, ?_⟩) (by assumption) ?_
          rotate_left
          · (intro w hSw; (try dsimp only at hSw); go_simp; try with_reducible rfl)
          try simp only [List.getElem_toArray, List.getElem_cons_zero, List.getElem_cons_succ, Act.put, List.setIfInBounds_toArray, List.set_cons_zero, List.set_cons_succ]
          refine wpAnyH_take (i := 31) (v := ?_) rfl (by kernel_rfl) (by kernel_rfl) (by kernel_rfl) (fun _ _ _ h => h) (Or.inl ⟨by rfl, ?_⟩) (by assumption) ?_
          rotate_left
          · (intro w hSw; (try dsimp only at hSw); go_simp; try with_reducible rfl)
          try simp only [List.getElem_toArray, List.getElem_cons_zero, List.getElem_cons_succ, Act.put, List.setIfInBounds_toArray, List.set_cons_zero, List.set_cons_succ]
          refine wpAnyH_take (i := 32) (v := ?_) rfl (by kernel_rfl) (by kernel_rfl) (by kernel_rfl) (fun _ _ _ h => h) (Or.inl ⟨by rfl, ?_⟩) (by assumption) ?_
          rotate_left
          · (intro w hSw; (try dsimp only at hSw); go_simp; try with_reducible rfl)
          try simp only [List.getElem_toArray, List.getElem_cons_zero, List.getElem_cons_succ, Act.put, List.setIfInBounds_toArray, List.set_cons_zero, List.set_cons_succ]
          refine wpAnyH_take (i := 34) (v := ?_) rfl (by kernel_rfl) (by kernel_rfl) (by kernel_rfl) (fun _ _ _ h => h) (Or.inl ⟨by rfl, ?_⟩) (by assumption) ?_
          rotate_left
          · (intro w hSw; (try dsimp only at hSw); go_simp; try with_reducible rfl)
          try simp only [List.getElem_toArray, List.getElem_cons_zero, List.getElem_cons_succ, Act.put, List.setIfInBounds_toArray, List.set_cons_zero, List.set_cons_succ]
          refine wpAnyH_take (i := 36) (v := ?_) rfl (by kernel_rfl) (by kernel_rfl) (by kernel_rfl) (fun _ _ _ h => h) (Or.inl ⟨by rfl, ?_⟩) (by assumption) ?_
          rotate_left
          · (intro w hSw; (try dsimp only at hSw); go_simp; try with_reducible rfl)
          try simp only [List.getElem_toArray, List.getElem_cons_zero, List.getElem_cons_succ, Act.put, List.setIfInBounds_toArray, List.set_cons_zero, List.set_cons_succ]
          refine wpAnyH_ready (rs := [33]) (by kernel_rfl) (by simp) ?_
          refine AllReadyH.cons rfl (fun K hK => ?_) AllReadyH.nil
          try simp only [List.getElem_toArray]
          go_simp
          (go_at_call 53; refine (T1.out _ _ (by first | exact IR.out.rd | exact IR.out.rd.below (k := w13.heap.size) ((Below.refl _ _).drew) (Nat.le_refl _)) (by first | exact HSW.out.next B.out | exact (show SW (World.drew _) from HSW.out.next B.out) | exact HSW.out.next (B.out.trans ((Below.refl _ _).drew)))).mono ?_; rintro e w14 ⟨rfl, hbd⟩; have hb14 : Below w13.heap.size w13 w14 := (by first | exact hbd | exact ⟨hbd.os, hbd.tape, hbd.output, hbd.size, hbd.block⟩); clear hbd; have hz14 := hb14.size; replace X := Lib.hid (X.out.next hb14 X.out.lt); replace Y := Lib.hid (Y.out.next hb14 Y.out.lt); replace Z := Lib.hid (Z.out.next hb14 Z.out.lt); replace I1 := Lib.hid (I1.out.below hb14 (Nat.le_refl _)); replace I2 := Lib.hid (I2.out.below hb14 (Nat.le_refl _)); replace IR := Lib.hid (IR.out.below hb14 (Nat.le_refl _)); replace B := Lib.hid (B.out.trans (hb14.mono B.out.size)); clear hb14; have x0_14 := X.out.out.at0; have x1_14 := X.out.out.at1; have y0_14 := Y.out.out.at0; have y1_14 := Y.out.out.at1; have z0_14 := Z.out.out.at0; have z1_14 := Z.out.out.at1)
          refine hK.out _ _ (by first | exact ⟨x0_14, x1_14, y0_14, y1_14, z0_14, z1_14⟩ | exact ⟨x0_13, x1_13, y0_13, y1_13, z0_13, z1_13⟩ | exact ⟨x0_12, x1_12, y0_12, y1_12, z0_12, z1_12⟩ | exact ⟨x0_11, x1_11, y0_11, y1_11, z0_11, z1_11⟩ | exact ⟨x0_10, x1_10, y0_10, y1_10, z0_10, z1_10⟩ | exact ⟨x0_9, x1_9, y0_9, y1_9, z0_9, z1_9⟩ | exact ⟨x0_8, x1_8, y0_8, y1_8, z0_8, z1_8⟩ | exact ⟨x0, x1, y0, y1, z0, z1⟩ | go_keep) (fun hHeld => ?_)
          clear hK K
          try simp only [List.getElem_toArray, List.getElem_cons_zero, List.getElem_cons_succ, Act.put, List.setIfInBounds_toArray, List.set_cons_zero, List.set_cons_succ]
          refine wpAnyH_ready (rs := [35]) (by kernel_rfl) (by simp) ?_
          refine AllReadyH.cons rfl (fun K hK => ?_) AllReadyH.nil
          try simp only [List.getElem_toArray]
          go_simp
          (go_at_call 53; refine (T2.out _ _ (by first | exact I1.out.rd | exact I1.out.rd.below (k := w14.heap.size) ((Below.refl _ _).drew) (Nat.le_refl _)) (by first | exact HSW.out.next B.out | exact (show SW (World.drew _) from HSW.out.next B.out) | exact HSW.out.next (B.out.trans ((Below.refl _ _).drew)))).mono ?_; rintro e w15 ⟨rfl, hbd⟩; have hb15 : Below w14.heap.size w14 w15 := (by first | exact hbd | exact ⟨hbd.os, hbd.tape, hbd.output, hbd.size, hbd.block⟩); clear hbd; have hz15 := hb15.size; replace X := Lib.hid (X.out.next hb15 X.out.lt); replace Y := Lib.hid (Y.out.next hb15 Y.out.lt); replace Z := Lib.hid (Z.out.next hb15 Z.out.lt); replace I1 := Lib.hid (I1.out.below hb15 (Nat.le_refl _)); replace I2 := Lib.hid (I2.out.below hb15 (Nat.le_refl _)); replace IR := Lib.hid (IR.out.below hb15 (Nat.le_refl _)); replace B := Lib.hid (B.out.trans (hb15.mono B.out.size)); clear hb15; have x0_15 := X.out.out.at0; have x1_15 := X.out.out.at1; have y0_15 := Y.out.out.at0; have y1_15 := Y.out.out.at1; have z0_15 := Z.out.out.at0; have z1_15 := Z.out.out.at1)
          refine hK.out _ _ (by first | exact ⟨x0_15, x1_15, y0_15, y1_15, z0_15, z1_15⟩ | exact ⟨x0_14, x1_14, y0_14, y1_14, z0_14, z1_14⟩ | exact ⟨x0_13, x1_13, y0_13, y1_13, z0_13, z1_13⟩ | exact ⟨x0_12, x1_12, y0_12, y1_12, z0_12, z1_12⟩ | exact ⟨x0_11, x1_11, y0_11, y1_11, z0_11, z1_11⟩ | exact ⟨x0_10, x1_10, y0_10, y1_10, z0_10, z1_10⟩ | exact ⟨x0_9, x1_9, y0_9, y1_9, z0_9, z1_9⟩ | exact ⟨x0_8, x1_8, y0_8, y1_8, z0_8, z1_8⟩ | exact ⟨x0, x1, y0, y1, z0, z1⟩ | go_keep) (fun hHeld => ?_)
          clear hK K
          try simp only [List.getElem_toArray, List.getElem_cons_zero, List.getElem_cons_succ, Act.put, List.setIfInBounds_toArray, List.set_cons_zero, List.set_cons_succ]
          refine wpAnyH_ready (rs := [37]) (by kernel_rfl) (by simp) ?_
          refine AllReadyH.cons rfl (fun K hK => ?_) AllReadyH.nil
          try simp only [List.getElem_toArray]
          go_simp
          (go_at_call 53; refine (T3.out _ _ (by first | exact I2.out.rd | exact I2.out.rd.below (k := w15.heap.size) ((Below.refl _ _).drew) (Nat.le_refl _)) (by first | exact HSW.out.next B.out | exact (show SW (World.drew _) from HSW.out.next B.out) | exact HSW.out.next (B.out.trans ((Below.refl _ _).drew)))).mono ?_; rintro e w16 ⟨rfl, hbd⟩; have hb16 : Below w15.heap.size w15 w16 := (by first | exact hbd | exact ⟨hbd.os, hbd.tape, hbd.output, hbd.size, hbd.block⟩); clear hbd; have hz16 := hb16.size; replace X := Lib.hid (X.out.next hb16 X.out.lt); replace Y := Lib.hid (Y.out.next hb16 Y.out.lt); replace Z := Lib.hid (Z.out.next hb16 Z.out.lt); replace I1 := Lib.hid (I1.out.below hb16 (Nat.le_refl _)); replace I2 := Lib.hid (I2.out.below hb16 (Nat.le_refl _)); replace IR := Lib.hid (IR.out.below hb16 (Nat.le_refl _)); replace B := Lib.hid (B.out.trans (hb16.mono B.out.size)); clear hb16; have x0_16 := X.out.out.at0; have x1_16 := X.out.out.at1; have y0_16 := Y.out.out.at0; have y1_16 := Y.out.out.at1; have z0_16 := Z.out.out.at0; have z1_16 := Z.out.out.at1)
          refine hK.out _ _ (by first | exact ⟨x0_16, x1_16, y0_16, y1_16, z0_16, z1_16⟩ | exact ⟨x0_15, x1_15, y0_15, y1_15, z0_15, z1_15⟩ | exact ⟨x0_14, x1_14, y0_14, y1_14, z0_14, z1_14⟩ | exact ⟨x0_13, x1_13, y0_13, y1_13, z0_13, z1_13⟩ | exact ⟨x0_12, x1_12, y0_12, y1_12, z0_12, z1_12⟩ | exact ⟨x0_11, x1_11, y0_11, y1_11, z0_11, z1_11⟩ | exact ⟨x0_10, x1_10, y0_10, y1_10, z0_10, z1_10⟩ | exact ⟨x0_9, x1_9, y0_9, y1_9, z0_9, z1_9⟩ | exact ⟨x0_8, x1_8, y0_8, y1_8, z0_8, z1_8⟩ | exact ⟨x0, x1, y0, y1, z0, z1⟩ | go_keep) (fun hHeld => ?_)
          clear hK K
          try simp only [List.getElem_toArray, List.getElem_cons_zero, List.getElem_cons_succ, Act.put, List.setIfInBounds_toArray, List.set_cons_zero, List.set_cons_succ]
          refine wpAnyH_take (i := 38) (v := ?_) rfl (by kernel_rfl) (by kernel_rfl) (by kernel_rfl) (fun _ _ _ h => h) (Or.inl ⟨by rfl, ?_⟩) (by assumption) ?_
          rotate_left
          · (intro w hSw; (try dsimp only at hSw); go_simp; (try simp only [hwt]); try with_reducible rfl)
          try simp only [List.getElem_toArray, List.getElem_cons_zero, List.getElem_cons_succ, Act.put, List.setIfInBounds_toArray, List.set_cons_zero, List.set_cons_succ]
          refine wpAnyH_take (i := 39) (v := ?_) rfl (by kernel_rfl) (by kernel_rfl) (by kernel_rfl) (fun _ _ _ h => h) (Or.inl ⟨by rfl, ?_⟩) (by assumption) ?_
          rotate_left
          · (intro w hSw; (try dsimp only at hSw); go_simp; try with_reducible rfl)
          try simp only [List.getElem_toArray, List.getElem_cons_zero, List.getElem_cons_succ, Act.put, List.setIfInBounds_toArray, List.set_cons_zero, List.set_cons_succ]
          refine wpAnyH_take (i := 40) (v := ?_) rfl (by kernel_rfl) (by kernel_rfl) (by kernel_rfl) (fun _ _ _ h => h) (Or.inl ⟨by rfl, ?_⟩) (by assumption) ?_
          rotate_left
          · (intro w hSw; (try dsimp only at hSw); go_simp; try with_reducible rfl)
          try simp only [List.getElem_toArray, List.getElem_cons_zero, List.getElem_cons_succ, Act.put, List.setIfInBounds_toArray, List.set_cons_zero, List.set_cons_succ]
          refine wpAnyH_take (i := 41) (v := ?_) rfl (by kernel_rfl) (by kernel_rfl) (by kernel_rfl) (fun _ _ _ h => h) (Or.inl ⟨by rfl, ?_⟩) (by assumption) ?_
          rotate_left
          · (intro w hSw; (try dsimp only at hSw); go_simp; try with_reducible rfl)
          try simp only [List.getElem_toArray, List.getElem_cons_zero, List.getElem_cons_succ, Act.put, List.setIfInBounds_toArray, List.set_cons_zero, List.set_cons_succ]
          refine wpAnyH_take (i := 42) (v := ?_) rfl (by kernel_rfl) (by kernel_rfl) (by kernel_rfl) (fun _ _ _ h => h) (Or.inl ⟨by rfl, ?_⟩) (by assumption) ?_
          rotate_left
          · (intro w hSw; (try dsimp only at hSw); go_simp; try with_reducible rfl)
          try simp only [List.getElem_toArray, List.getElem_cons_zero, List.getElem_cons_succ, Act.put, List.setIfInBounds_toArray, List.set_cons_zero, List.set_cons_succ]
          refine wpAnyH_take (i := 44) (v := ?_) rfl (by kernel_rfl) (by kernel_rfl) (by kernel_rfl) (fun _ _ _ h => h) (Or.inl ⟨by rfl, ?_⟩) (by assumption) ?_
          rotate_left
          · (intro w hSw; (try dsimp only at hSw); go_simp; try with_reducible rfl)
          try simp only [List.getElem_toArray, List.getElem_cons_zero, List.getElem_cons_succ, Act.put, List.setIfInBounds_toArray, List.set_cons_zero, List.set_cons_succ]
          refine wpAnyH_take (i := 46) (v := ?_) rfl (by kernel_rfl) (by kernel_rfl) (by kernel_rfl) (fun _ _ _ h => h) (Or.inl ⟨by rfl, ?_⟩) (by assumption) ?_
          rotate_left
          · (intro w hSw; (try dsimp only at hSw); go_simp; try with_reducible rfl)
          try simp only [List.getElem_toArray, List.getElem_cons_zero, List.getElem_cons_succ, Act.put, List.setIfInBounds_toArray, List.set_cons_zero, List.set_cons_succ]
          refine wpAnyH_ready (rs := [43]) (by kernel_rfl) (by simp) ?_
          refine AllReadyH.cons rfl (fun K hK => ?_) AllReadyH.nil
          try simp only [List.getElem_toArray]
          go_simp
          (go_at_call 54; refine (E1.out _ _ (by first | exact IR.out.rd | exact IR.out.rd.below (k := w16.heap.size) ((Below.refl _ _).drew) (Nat.le_refl _))).mono ?_; rintro e w17 ⟨rfl, hbd⟩; have hb17 : Below w16.heap.size w16 w17 := (by first | exact hbd | exact ⟨hbd.os, hbd.tape, hbd.output, hbd.size, hbd.block⟩); clear hbd; have hz17 := hb17.size; replace X := Lib.hid (X.out.next hb17 X.out.lt); replace Y := Lib.hid (Y.out.next hb17 Y.out.lt); replace Z := Lib.hid (Z.out.next hb17 Z.out.lt); replace I1 := Lib.hid (I1.out.below hb17 (Nat.le_refl _)); replace I2 := Lib.hid (I2.out.below hb17 (Nat.le_refl _)); replace IR := Lib.hid (IR.out.below hb17 (Nat.le_refl _)); replace B := Lib.hid (B.out.trans (hb17.mono B.out.size)); clear hb17; have x0_17 := X.out.out.at0; have x1_17 := X.out.out.at1; have y0_17 := Y.out.out.at0; have y1_17 := Y.out.out.at1; have z0_17 := Z.out.out.at0; have z1_17 := Z.out.out.at1)
          refine hK.out _ _ (by first | exact ⟨x0_17, x1_17, y0_17, y1_17, z0_17, z1_17⟩ | exact ⟨x0_16, x1_16, y0_16, y1_16, z0_16, z1_16⟩ | exact ⟨x0_15, x1_15, y0_15, y1_15, z0_15, z1_15⟩ | exact ⟨x0_14, x1_14, y0_14, y1_14, z0_14, z1_14⟩ | exact ⟨x0_13, x1_13, y0_13, y1_13, z0_13, z1_13⟩ | exact ⟨x0_12, x1_12, y0_12, y1_12, z0_12, z1_12⟩ | exact ⟨x0_11, x1_11, y0_11, y1_11, z0_11, z1_11⟩ | exact ⟨x0_10, x1_10, y0_10, y1_10, z0_10, z1_10⟩ | exact ⟨x0_9, x1_9, y0_9, y1_9, z0_9, z1_9⟩ | exact ⟨x0_8, x1_8, y0_8, y1_8, z0_8, z1_8⟩ | exact ⟨x0, x1, y0, y1, z0, z1⟩ | go_keep) (fun hHeld => ?_)
          clear hK K
          try simp only [List.getElem_toArray, List.getElem_cons_zero, List.getElem_cons_succ, Act.put, List.setIfInBounds_toArray, List.set_cons_zero, List.set_cons_succ]
          refine wpAnyH_ready (rs := [45]) (by kernel_rfl) (by simp) ?_
          refine AllReadyH.cons rfl (fun K hK => ?_) AllReadyH.nil
          try simp only [List.getElem_toArray]
          go_simp
          (go_at_call 54; refine (E2.out _ _ (by first | exact I1.out.rd | exact I1.out.rd.below (k := w17.heap.size) ((Below.refl _ _).drew) (Nat.le_refl _))).mono ?_; rintro e w18 ⟨rfl, hbd⟩; have hb18 : Below w17.heap.size w17 w18 := (by first | exact hbd | exact ⟨hbd.os, hbd.tape, hbd.output, hbd.size, hbd.block⟩); clear hbd; have hz18 := hb18.size; replace X := Lib.hid (X.out.next hb18 X.out.lt); replace Y := Lib.hid (Y.out.next hb18 Y.out.lt); replace Z := Lib.hid (Z.out.next hb18 Z.out.lt); replace I1 := Lib.hid (I1.out.below hb18 (Nat.le_refl _)); replace I2 := Lib.hid (I2.out.below hb18 (Nat.le_refl _)); replace IR := Lib.hid (IR.out.below hb18 (Nat.le_refl _)); replace B := Lib.hid (B.out.trans (hb18.mono B.out.size)); clear hb18; have x0_18 := X.out.out.at0; have x1_18 := X.out.out.at1; have y0_18 := Y.out.out.at0; have y1_18 := Y.out.out.at1; have z0_18 := Z.out.out.at0; have z1_18 := Z.out.out.at1)
          refine hK.out _ _ (by first | exact ⟨x0_18, x1_18, y0_18, y1_18, z0_18, z1_18⟩ | exact ⟨x0_17, x1_17, y0_17, y1_17, z0_17, z1_17⟩ | exact ⟨x0_16, x1_16, y0_16, y1_16, z0_16, z1_16⟩ | exact ⟨x0_15, x1_15, y0_15, y1_15, z0_15, z1_15⟩ | exact ⟨x0_14, x1_14, y0_14, y1_14, z0_14, z1_14⟩ | exact ⟨x0_13, x1_13, y0_13, y1_13, z0_13, z1_13⟩ | exact ⟨x0_12, x1_12, y0_12, y1_12, z0_12, z1_12⟩ | exact ⟨x0_11, x1_11, y0_11, y1_11, z0_11, z1_11⟩ | exact ⟨x0_10, x1_10, y0_10, y1_10, z0_10, z1_10⟩ | exact ⟨x0_9, x1_9, y0_9, y1_9, z0_9, z1_9⟩ | exact ⟨x0_8, x1_8, y0_8, y1_8, z0_8, z1_8⟩ | exact ⟨x0, x1, y0, y1, z0, z1⟩ | go_keep) (fun hHeld => ?_)
          clear hK K
          try simp only [List.getElem_toArray, List.getElem_cons_zero, List.getElem_cons_succ, Act.put, List.setIfInBounds_toArray, List.set_cons_zero, List.set_cons_succ]
          refine wpAnyH_ready (rs := [47]) (by kernel_rfl) (by simp) ?_
          refine AllReadyH.cons rfl (fun K hK => ?_) AllReadyH.nil
          try simp only [List.getElem_toArray]
          go_simp
          (go_at_call 54; refine (E3.out _ _ (by first | exact I2.out.rd | exact I2.out.rd.below (k := w18.heap.size) ((Below.refl _ _).drew) (Nat.le_refl _))).mono ?_; rintro e w19 ⟨rfl, hbd⟩; have hb19 : Below w18.heap.size w18 w19 := (by first | exact hbd | exact ⟨hbd.os, hbd.tape, hbd.output, hbd.size, hbd.block⟩); clear hbd; have hz19 := hb19.size; replace X := Lib.hid (X.out.next hb19 X.out.lt); replace Y := Lib.hid (Y.out.next hb19 Y.out.lt); replace Z := Lib.hid (Z.out.next hb19 Z.out.lt); replace I1 := Lib.hid (I1.out.below hb19 (Nat.le_refl _)); replace I2 := Lib.hid (I2.out.below hb19 (Nat.le_refl _)); replace IR := Lib.hid (IR.out.below hb19 (Nat.le_refl _)); replace B := Lib.hid (B.out.trans (hb19.mono B.out.size)); clear hb19; have x0_19 := X.out.out.at0; have x1_19 := X.out.out.at1; have y0_19 := Y.out.out.at0; have y1_19 := Y.out.out.at1; have z0_19 := Z.out.out.at0; have z1_19 := Z.out.out.at1)
          refine hK.out _ _ (by first | exact ⟨x0_19, x1_19, y0_19, y1_19, z0_19, z1_19⟩ | exact ⟨x0_18, x1_18, y0_18, y1_18, z0_18, z1_18⟩ | exact ⟨x0_17, x1_17, y0_17, y1_17, z0_17, z1_17⟩ | exact ⟨x0_16, x1_16, y0_16, y1_16, z0_16, z1_16⟩ | exact ⟨x0_15, x1_15, y0_15, y1_15, z0_15, z1_15⟩ | exact ⟨x0_14, x1_14, y0_14, y1_14, z0_14, z1_14⟩ | exact ⟨x0_13, x1_13, y0_13, y1_13, z0_13, z1_13⟩ | exact ⟨x0_12, x1_12, y0_12, y1_12, z0_12, z1_12⟩ | exact ⟨x0_11, x1_11, y0_11, y1_11, z0_11, z1_11⟩ | exact ⟨x0_10, x1_10, y0_10, y1_10, z0_10, z1_10⟩ | exact ⟨x0_9, x1_9, y0_9, y1_9, z0_9, z1_9⟩ | exact ⟨x0_8, x1_8, y0_8, y1_8, z0_8, z1_8⟩ | exact ⟨x0, x1, y0, y1, z0, z1⟩ | go_keep) (fun hHeld => ?_)
          clear hK K
          try simp only [List.getElem_toArray, List.getElem_cons_zero, List.getElem_cons_succ, Act.put, List.setIfInBounds_toArray, List.set_cons_zero, List.set_cons_succ]
          refine wpAnyH_take (i := 48) (v := ?_) rfl (by kernel_rfl) (by kernel_rfl) (by kernel_rfl) (fun _ _ _ h => h) (Or.inl ⟨by rfl, ?_⟩) (by assumption) ?_
          rotate_left
          · (intro w hSw; (try dsimp only at hSw); go_simp; (try simp only [hwe]); try with_reducible rfl)
          try simp only [List.getElem_toArray, List.getElem_cons_zero, List.getElem_cons_succ, Act.put, List.setIfInBounds_toArray, List.set_cons_zero, List.set_cons_succ]
          refine wpAnyH_take (i := 49) (v := ?_) rfl (by kernel_rfl) (by kernel_rfl) (by kernel_rfl) (fun _ _ _ h => h) (Or.inl ⟨by rfl, ?_⟩) (by assumption) ?_
          rotate_left
          · (intro w hSw; (try dsimp only at hSw); go_simp; try with_reducible rfl)
          try simp only [List.getElem_toArray, List.getElem_cons_zero, List.getElem_cons_succ, Act.put, List.setIfInBounds_toArray, List.set_cons_zero, List.set_cons_succ]
          refine wpAnyH_take (i := 50) (v := ?_) rfl (by kernel_rfl) (by kernel_rfl) (by kernel_rfl) (fun _ _ _ h => h) (Or.inl ⟨by rfl, ?_⟩) (by assumption) ?_
          rotate_left
          · (intro w hSw; (try dsimp only at hSw); go_simp; try with_reducible rfl)
          try simp only [List.getElem_toArray, List.getElem_cons_zero, List.getElem_cons_succ, Act.put, List.setIfInBounds_toArray, List.set_cons_zero, List.set_cons_succ]
          refine wpAnyH_take (i := 51) (v := ?_) rfl (by kernel_rfl) (by kernel_rfl) (by kernel_rfl) (fun _ _ _ h => h) (Or.inl ⟨by rfl, ?_⟩) (by assumption) ?_
          rotate_left
          · (intro w hSw; (try dsimp only at hSw); go_simp; try with_reducible rfl)
          try simp only [List.getElem_toArray, List.getElem_cons_zero, List.getElem_cons_succ, Act.put, List.setIfInBounds_toArray, List.set_cons_zero, List.set_cons_succ]
          refine wpAnyH_done (by kernel_rfl) ?_ _
          go_wp2_with fail
          go_ret
          exact ⟨rfl, by first | exact B.out | exact B.out.drew⟩
      · rw [Bool.not_eq_true] at hv
        have HI := Lib.hid (fun va vb w ha hb => implProductClass N va zs M vb ys w ha hb)
        have HS := Lib.hid (fun va vb w ha hb => specProductClass N va zs M vb ys w ha hb)
        rw [pdN_no hv, pdL_no hv, hv] at HI HS
        generalize ([] : List Int) = RL at *
        clear hv
        have x0 := X.out.out.at0
        have x1 := X.out.out.at1
        have y0 := Y.out.out.at0
        have y1 := Y.out.out.at1
        go_wp2_with fail
        clear x0 x1 y0 y1
        refine (HI.out _ _ _ I1.out.rd I2.out.rd).mono ?_
        rintro e w3 ⟨a3, c3, rfl, hin3, hb3⟩
        have hz3 := hb3.size
        replace X := Lib.hid (X.out.next hb3 X.out.lt)
        replace Y := Lib.hid (Y.out.next hb3 Y.out.lt)
        replace I1 := Lib.hid (I1.out.below hb3 (Nat.le_refl _))
        replace I2 := Lib.hid (I2.out.below hb3 (Nat.le_refl _))
        replace B := Lib.hid (B.out.trans (hb3.mono B.out.size))
        have IR := Lib.hid (hin3.mono (Nat.zero_le _))
        clear hin3 hb3
        have Z := Lib.hid (Bx.new 0 (.slice a3 RL.length c3) w3)
        replace X := Lib.hid (X.out.alloc (Obj.cells #[.int .i64 0, .slice a3 RL.length c3] 25))
        replace Y := Lib.hid (Y.out.alloc (Obj.cells #[.int .i64 0, .slice a3 RL.length c3] 25))
        replace I1 := Lib.hid (I1.out.alloc (Obj.cells #[.int .i64 0, .slice a3 RL.length c3] 25))
        replace I2 := Lib.hid (I2.out.alloc (Obj.cells #[.int .i64 0, .slice a3 RL.length c3] 25))
        replace IR := Lib.hid (IR.out.alloc (Obj.cells #[.int .i64 0, .slice a3 RL.length c3] 25))
        replace B := Lib.hid (B.out.alloc B.out.size (Obj.cells #[.int .i64 0, .slice a3 RL.length c3] 25))
        have x0 := X.out.out.at0
        have x1 := X.out.out.at1
        have y0 := Y.out.out.at0
        have y1 := Y.out.out.at1
        go_wp2_with fail
        clear x0 x1 y0 y1
        generalize (w3.alloc (Obj.cells #[.int .i64 0, .slice a3 RL.length c3] 25)) = w4 at *
        generalize ho3 : w3.heap.size = o3 at *
        refine (HS.out _ _ _ ⟨_, I1.out⟩ ⟨_, I2.out⟩).mono ?_
        rintro e w5 ⟨a5, c5, rfl, hin5, hb5⟩
        have hz5 := hb5.size
        replace X := Lib.hid (X.out.next hb5 X.out.lt)
        replace Y := Lib.hid (Y.out.next hb5 Y.out.lt)
        replace Z := Lib.hid (Z.out.next hb5 Z.out.lt)
        replace I1 := Lib.hid (I1.out.below hb5 (Nat.le_refl _))
        replace I2 := Lib.hid (I2.out.below hb5 (Nat.le_refl _))
        replace IR := Lib.hid (IR.out.below hb5 (Nat.le_refl _))
        replace B := Lib.hid (B.out.trans (hb5.mono B.out.size))
        have IS := Lib.hid (hin5.mono (Nat.zero_le _))
        clear hin5 hb5
        have V := Lib.hid (Bx.new 0 (.slice a5 RL.length c5) w5)
        replace X := Lib.hid (X.out.alloc (Obj.cells #[.int .i64 0, .slice a5 RL.length c5] 25))
        replace Y := Lib.hid (Y.out.alloc (Obj.cells #[.int .i64 0, .slice a5 RL.length c5] 25))
        replace Z := Lib.hid (Z.out.alloc (Obj.cells #[.int .i64 0, .slice a5 RL.length c5] 25))
        replace I1 := Lib.hid (I1.out.alloc (Obj.cells #[.int .i64 0, .slice a5 RL.length c5] 25))
        replace I2 := Lib.hid (I2.out.alloc (Obj.cells #[.int .i64 0, .slice a5 RL.length c5] 25))
        replace IR := Lib.hid (IR.out.alloc (Obj.cells #[.int .i64 0, .slice a5 RL.length c5] 25))
        replace IS := Lib.hid (IS.out.alloc (Obj.cells #[.int .i64 0, .slice a5 RL.length c5] 25))
        replace B := Lib.hid (B.out.alloc B.out.size (Obj.cells #[.int .i64 0, .slice a5 RL.length c5] 25))
        have x0 := X.out.out.at0
        have x1 := X.out.out.at1
        have y0 := Y.out.out.at0
        have y1 := Y.out.out.at1
        have z0 := Z.out.out.at0
        have z1 := Z.out.out.at1
        go_wp2_with fail
        clear x0 x1 y0 y1 z0 z1
        generalize (w5.alloc (Obj.cells #[.int .i64 0, .slice a5 RL.length c5] 25)) = w6 at *
        generalize ho4 : w5.heap.size = o4 at *
        refine (lawsEqualClass _ _ _ _ _ _ _ _ IR.out.rd IS.out.rd).mono ?_
        rintro e w7 ⟨rfl, hb7⟩
        have hz7 := hb7.size
        replace X := Lib.hid (X.out.next hb7 X.out.lt)
        replace Y := Lib.hid (Y.out.next hb7 Y.out.lt)
        replace Z := Lib.hid (Z.out.next hb7 Z.out.lt)
        replace V := Lib.hid (V.out.next hb7 V.out.lt)
        replace I1 := Lib.hid (I1.out.below hb7 (Nat.le_refl _))
        replace I2 := Lib.hid (I2.out.below hb7 (Nat.le_refl _))
        replace IR := Lib.hid (IR.out.below hb7 (Nat.le_refl _))
        replace IS := Lib.hid (IS.out.below hb7 (Nat.le_refl _))
        replace B := Lib.hid (B.out.trans (hb7.mono B.out.size))
        clear hb7
        have x0 := X.out.out.at0
        have x1 := X.out.out.at1
        have y0 := Y.out.out.at0
        have y1 := Y.out.out.at1
        have z0 := Z.out.out.at0
        have z1 := Z.out.out.at1
        have v0 := V.out.out.at0
        have v1 := V.out.out.at1
        go_wp2_with fail
        clear x0 x1 y0 y1 z0 z1 v0 v1
        refine (lawsEqualClass _ _ _ _ _ _ _ _ IR.out.rd IS.out.rd).mono ?_
        rintro e w8 ⟨rfl, hb8⟩
        have hz8 := hb8.size
        replace X := Lib.hid (X.out.next hb8 X.out.lt)
        replace Y := Lib.hid (Y.out.next hb8 Y.out.lt)
        replace Z := Lib.hid (Z.out.next hb8 Z.out.lt)
        replace V := Lib.hid (V.out.next hb8 V.out.lt)
        replace I1 := Lib.hid (I1.out.below hb8 (Nat.le_refl _))
        replace I2 := Lib.hid (I2.out.below hb8 (Nat.le_refl _))
        replace IR := Lib.hid (IR.out.below hb8 (Nat.le_refl _))
        replace IS := Lib.hid (IS.out.below hb8 (Nat.le_refl _))
        replace B := Lib.hid (B.out.trans (hb8.mono B.out.size))
        clear hb8
        have x0 := X.out.out.at0
        have x1 := X.out.out.at1
        have y0 := Y.out.out.at0
        have y1 := Y.out.out.at1
        have z0 := Z.out.out.at0
        have z1 := Z.out.out.at1
        have v0 := V.out.out.at0
        have v1 := V.out.out.at1
        go_wp2_with fail
        clear x0 x1 y0 y1 z0 z1 v0 v1
        go_ret
        exact ⟨rfl, by first | exact B.out | exact B.out.drew⟩
  · go_enter Tryd.func10, Tryd.ntmps10
    go_wp2_with fail
    go_ret
    exact ⟨rfl, Below.refl _ _⟩

end Go.Proofs.YtnoppclajhfnjabDoor
