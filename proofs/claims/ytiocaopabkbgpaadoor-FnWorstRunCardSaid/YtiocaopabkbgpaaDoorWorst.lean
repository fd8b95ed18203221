/- WorstRun, the program's. Conditions: Sets is a slice of ints; the table setsWith is laid. -/
import Derived.Deep.Cut
import Derived.Deep.RegionHeld3
import Derived.Test.YtiocaopabkbgpaaDoorAppE
import Derived.Test.YtiocaopabkbgpaaDoorMarkE
import Derived.Test.YtiocaopabkbgpaaDoorZM
namespace Go.Proofs.YtiocaopabkbgpaaDoor
open Go.RowKit

/-- a cell of one value in a block of its own -/
structure Cel (q : Nat) (x : Value) (w : World) : Prop where
  at0 : w.cell? ⟨q, 0, none⟩ = some x
  free0 : w.frozen? ⟨q, 0, none⟩ = false
theorem Cel.lt {q : Nat} {x : Value} {w : World} (h : Cel q x w) : q < w.heap.size := World.block_lt_of_cell? w _ h.at0
theorem Cel.next {q B : Nat} {x : Value} {w w' : World} (h : Cel q x w) (hb : Below B w w') (hq : q < B) : Cel q x w' :=
  ⟨(hb.cell (p := ⟨q, 0, none⟩) hq).trans h.at0, (hb.frozen (p := ⟨q, 0, none⟩) hq).trans h.free0⟩
theorem Cel.kept {q : Nat} {x : Value} {r : Option Nat} {w w' : World} (h : Cel q x w) (hg : w.grownBy w' r) (hne : some q ≠ r) : Cel q x w' := by
  have hb := hg.block q h.lt hne
  exact ⟨(World.cell?_of_block (w := w) (a := ⟨q, 0, none⟩) hb).trans h.at0, (World.frozen?_of_block (w := w) (a := ⟨q, 0, none⟩) hb).trans h.free0⟩

set_option maxHeartbeats 1600000 in
set_option maxRecDepth 100000 in
theorem implWR1 (l1 l2 : List Nat) (h1 : ∀ t ∈ l1, t < 32) (h2 : ∀ t ∈ l2, t < 32) (e1 : l1.length ≤ 32) (e2 : l2.length ≤ 32) (o : Nat) (due : Int) (hd0 : 0 < due) (hd1 : due ≤ 32) (w : World) (hsw : SW w) (hc : w.cell? ⟨o, 0, none⟩ = some (.int .i64 due)) :
    Calls Tryd.prog 88 #[.int .u32 (fm l1), .int .u32 (fm l2), .pointer (some ⟨o, 0, none⟩)] w fun e w' => e = .returned (.bool (decide (due - 1 ≤ min (mst l1) (mst l2)))) ∧ Below w.heap.size w w' := by
  have ho : o < w.heap.size := World.block_lt_of_cell? w _ hc
  have HSW := Lib.hid hsw
  have HQ1 := Lib.hid (fun w h => implMistakeDepth l1 h1 e1 w h)
  have HQ2 := Lib.hid (fun w h => implMistakeDepth l2 h2 e2 w h)
  clear hsw h1 h2
  generalize fm l1 = F1 at *
  generalize fm l2 = F2 at *
  generalize mst l1 = D1 at *
  generalize mst l2 = D2 at *
  obtain ⟨M, hM⟩ : ∃ M, M = min D1 D2 := ⟨_, rfl⟩
  rw [← hM]
  have HWd := Lib.hid (show IntKind.i64.wrap (due - 1) = due - 1 by rw [IntKind.wrap_i64]; omega)
  rcases Int.lt_trichotomy D1 D2 with hlt | hlt | hlt
  all_goals
    have HM := Lib.hid hM
    clear hM
    go_enter Tryd.func88, Tryd.ntmps88
    go_wp2_with fail
    go_region_held3 (fun w' => w'.cell? ⟨o, 0, none⟩ = some (.int .i64 due)) (first | exact hc | exact hc3 | exact hc2 | go_keep) (first
      | (go_at_call 76; refine (HQ1.out _ (by first | exact HSW.out | exact SW.heap HSW.out rfl)).mono ?_; rintro e w2 ⟨rfl, hb2⟩; have B2 := Lib.hid (show Below w.heap.size w w2 from Below.trans (by first | exact Below.refl _ _ | exact (Below.refl _ _).drew) hb2); have hc2 := (B2.out.cell (p := ⟨o, 0, none⟩) ho).trans hc; clear hb2)
      | (go_at_call 76; refine (HQ2.out _ (HSW.out.next B2.out)).mono ?_; rintro e w3 ⟨rfl, hb3⟩; have B3 := Lib.hid (show Below w.heap.size w w3 from B2.out.trans (hb3.mono B2.out.size)); have hc3 := (B3.out.cell (p := ⟨o, 0, none⟩) ho).trans hc; clear hb3))
    all_goals
      go_wp2_with fail
      go_ret
      exact ⟨ret_bool (by rw [HM.out, HWd.out, decide_eq_decide]; first | omega | (rw [if_neg (by omega)]; omega) | (rw [if_pos hlt]; omega)), B3.out⟩

set_option maxHeartbeats 1600000 in
set_option maxRecDepth 100000 in
theorem implSplitWR (l : List Nat) (h32 : ∀ t ∈ l, t < 32) (hl : l.length ≤ 32) (o : Nat) (due : Int) (hd0 : 0 < due) (hd1 : due ≤ 32) (w : World) (hsw : SW w) (hc : w.cell? ⟨o, 0, none⟩ = some (.int .i64 due)) :
    Calls Tryd.prog 87 #[.int .u32 (fm l), .func (Fn.func 88) #[] #[.pointer (some ⟨o, 0, none⟩)]] w fun e w' => e = .returned (.tuple #[.int .i64 (fstN (fun x => decide (due - 1 ≤ min (mst (wth x l)) (mst (wto x l))))), .bool (fstB (fun x => decide (due - 1 ≤ min (mst (wth x l)) (mst (wto x l)))))]) ∧ Below w.heap.size w w' := by
  have ho : o < w.heap.size := World.block_lt_of_cell? w _ hc
  have HSW := Lib.hid hsw
  have HCC := Lib.hid hc
  have H32 := Lib.hid h32
  obtain ⟨P, hP⟩ : ∃ P : Nat → Bool, P = (fun x => decide (due - 1 ≤ min (mst (wth x l)) (mst (wto x l)))) := ⟨_, rfl⟩
  rw [← hP]
  have HP := Lib.hid hP
  clear hsw h32 hc hP
  go_enter Tryd.func87, Tryd.ntmps87
  go_wp2_with fail
  go_loopw [7] (fun i wr => ∃ k : Nat, k ≤ 5 ∧ i = .int .i64 k ∧ Hid (∀ j, j < k → P j = false) ∧ Below w.heap.size w wr) (fun i _ => 5 - (intOf i).toNat)
  case atStart => exact ⟨0, Nat.zero_le _, rfl, Lib.hid fun j hj => by omega, Below.refl _ _⟩
  case round =>
    obtain ⟨k, hk, rfl, HB, hbe⟩ := hrel
    have HBE := Lib.hid hbe
    have SW2 := Lib.hid (HSW.out.next hbe)
    have hz := hbe.size
    have C2 := Lib.hid ((hbe.cell (p := ⟨o, 0, none⟩) ho).trans HCC.out)
    clear hbe
    by_cases hlt : k < 5
    · have hkI : (k : Int) < 5 := by omega
      go_wp2_with fail
      refine (implSplit l k hlt _ SW2.out).mono ?_
      rintro e w4 ⟨rfl, d, rfl⟩
      have B4 := Lib.hid (below_drewN HBE.out d)
      have SW4 := Lib.hid (HSW.out.next B4.out)
      have C4 := Lib.hid ((B4.out.cell (p := ⟨o, 0, none⟩) ho).trans HCC.out)
      have hz4 := B4.out.size
      generalize (wr.drewN d) = w4 at *
      have h1 := List.length_filter_le (fun s => hasX k s) l
      have h2 := List.length_filter_le (fun s => !hasX k s) l
      have HF := Lib.hid (implWR1 (wth k l) (wto k l) (wth_lt H32.out) (wto_lt H32.out) (by unfold wth; omega) (by unfold wto; omega) o due hd0 hd1 w4 SW4.out C4.out)
      rw [show decide (due - 1 ≤ min (mst (wth k l)) (mst (wto k l))) = P k by rw [HP.out]] at HF
      clear h1 h2
      generalize fm (wth k l) = F1 at *
      generalize fm (wto k l) = F2 at *
      by_cases hp : P k = true
      · have HR := Lib.hid (fst5_at hlt hp HB.out)
        rw [hp] at HF
        clear hp
        go_wp2_with fail
        refine HF.out.mono ?_
        rintro e w5 ⟨rfl, hb5⟩
        have B5 := Lib.hid (B4.out.trans (hb5.mono hz4))
        clear hb5
        go_wp2_with fail
        refine bodyPost_ret (v := .tuple #[.int .i64 (k : Int), .bool true]) (by simp [results, Tryd.results87, go_sem]) rfl ?_
        exact ⟨by rw [fstN, fstB, HR.out]; rfl, B5.out⟩
      · rw [Bool.not_eq_true] at hp
        have HB2 := Lib.hid (show ∀ j, j < k + 1 → P j = false from fun j hj => by
          by_cases e : j = k
          · subst e; exact hp
          · exact HB.out j (by omega))
        rw [hp] at HF
        clear hp
        go_wp2_with fail
        refine HF.out.mono ?_
        rintro e w5 ⟨rfl, hb5⟩
        have B5 := Lib.hid (B4.out.trans (hb5.mono hz4))
        clear hb5
        go_wp2_with fail
        go_roundw
        case rel => exact ⟨k + 1, by omega, by go_num, HB2, B5.out⟩
        case measure => simp [intOf]; omega
    · obtain rfl : k = 5 := by omega
      have HR := Lib.hid (fst5_none HB.out)
      go_wp2_with fail
      refine bodyPost_ret (v := .tuple #[.int .i64 0, .bool false]) (by simp [results, Tryd.results87, go_sem]) rfl ?_
      exact ⟨by rw [fstN, fstB, HR.out]; rfl, HBE.out⟩


set_option maxHeartbeats 12800000 in
set_option maxRecDepth 100000 in
theorem implWorstRun (n : Int) (v : Value) (zs : List Int) (w : World) (h : Rd w v zs) (hsw : SW w) :
    Calls Tryd.prog 40 #[.agg #[.int .i64 n, v]] w (RetEx (worL n zs) w) := by
  have H := Lib.hid h
  have HSW := Lib.hid hsw
  clear hsw
  obtain ⟨a, b, off, cap, rfl, _, _, _⟩ := h
  have B0 := Lib.hid (Box.made n (.slice a zs.length cap) w 25)
  by_cases hv : vldB n zs = true
  · obtain ⟨m, ns, rfl, rfl, hc⟩ := vldB_cls hv
    have hm := hc.pts
    have HV := Lib.hid hv
    have HT := Lib.hid (show worL m (toI ns) = wE ns (mst ns).toNat by rw [worL, if_pos hv, toNat_toI])
    have HC := Lib.hid hc
    have hl := hc.length
    rw [toI_length] at H B0 ⊢
    clear hv hc
    go_enter Tryd.func40, Tryd.ntmps40
    go_wp2_with fail
    refine (implValid m _ (toI ns) _ (H.out.below (k := w.heap.size) (by go_grown) (Nat.le_refl _))).mono ?_
    rintro e w1 ⟨rfl, hb⟩
    rw [HV.out]
    have hs1 : w.heap.size < w1.heap.size := by have := hb.size; simp at this; omega
    have B1 := Lib.hid (B0.out.next (by simp) hb)
    clear hb
    have R1 := Lib.hid (H.out.below B1.out.below (Nat.le_refl _))
    have c0 := B1.out.at0
    have c1 := B1.out.at1
    go_wp2_with fail
    refine (implFamilyOf m _ ns HC.out.lt32 _ R1.out).mono ?_
    rintro e w2 ⟨rfl, hb2⟩
    have B2 := Lib.hid (B1.out.next hs1 hb2)
    have SW2 := Lib.hid (HSW.out.next B2.out.below)
    have hz2 := hb2.size
    clear hb2 c0 c1
    go_wp2_with fail
    refine (implMistakeDepth ns HC.out.lt32 hl _ SW2.out).mono ?_
    rintro e w3 ⟨rfl, hb3⟩
    have B3 := Lib.hid (B2.out.next (by omega) hb3)
    have hz3 := hb3.size
    have hs3 : w.heap.size < w3.heap.size := by omega
    have HTop := Lib.hid (mst_top ns)
    have HDm := Lib.hid (fun k hk => wL_mst (l := ns) hl k hk)
    obtain ⟨D, hD⟩ : ∃ D, D = mst ns := ⟨_, rfl⟩
    have hDt := HTop.out
    rw [← hD] at hDt HT HDm ⊢
    clear hb3 hD HTop
    have HCel := Lib.hid (show Cel w3.heap.size (.int .i64 D) (w3.alloc (Obj.cells #[.int .i64 D] 3)) from ⟨by simp [go_sem], by simp [go_sem]⟩)
    go_wp2_with fail
    go_loopw [3, 4, 5] (fun r f p wr => ∃ (k : Nat) (a' : Option Addr) (c' q : Nat), ((k : Int) ≤ D ∨ k = 0) ∧ r = .slice a' k c' ∧ f = .int .u32 (fm (wL ns k)) ∧ p = .pointer (some ⟨q, 0, none⟩) ∧ ExS w3.heap.size wr (.slice a' k c') (wE ns k) ∧ Cel q (.int .i64 (D - k)) wr ∧ Hid (∀ g, (Value.slice a' k c').ownBlock = some g → g < q) ∧ w3.heap.size ≤ q ∧ Below w3.heap.size w3 wr) (fun r _ _ _ => match r with | .slice _ k _ => 40 - k | _ => 0)
    case atStart => exact ⟨0, none, 0, _, .inr rfl, rfl, rfl, rfl, ExS.nil _ _, by simpa using HCel.out, Lib.hid (fun g hg => by cases hg), Nat.le_refl _, by go_grown⟩
    case round =>
      obtain ⟨k, a', c', q, hk, rfl, rfl, rfl, hin, hcel, HOwn, hq3, hbe⟩ := hrel
      have HIN := Lib.hid hin
      have HCe := Lib.hid hcel
      have BE := Lib.hid hbe
      have hz := hbe.size
      have hqlt := hcel.lt
      have SWr := Lib.hid (HSW.out.next (B3.out.next hs3 hbe).below)
      have m0 := hcel.at0
      clear hin hcel hbe
      by_cases hlt : (k : Int) < D
      · have hmk := HDm.out k (by omega)
        obtain ⟨hsub, hln⟩ := wL_sub ns k
        obtain ⟨x, hx5, hf5, hwX, hwp, _⟩ := w_step (l := wL ns k) (by omega) (by omega)
        have HSub := Lib.hid (fun t ht => HC.out.lt32 t (hsub t ht))
        have HFS := Lib.hid (fun w h1 h2 => implSplitWR (wL ns k) HSub.out (by omega) q (D - k) (by omega) (by omega) w h1 h2)
        rw [show (fun x => decide (D - (k : Int) - 1 ≤ min (mst (wth x (wL ns k))) (mst (wto x (wL ns k))))) = wP (wL ns k) by funext y; rw [wP, hmk], fstN, fstB, hf5] at HFS
        have HG := Lib.hid (fun w h => implGuessOpt (wL ns k) x hx5 HSub.out (by omega) w h)
        have HEx := Lib.hid (show wEx (wL ns k) = ((x : Int), !gOpt (wL ns k) x) by rw [wEx, hwX])
        have HL' := Lib.hid (show wL ns (k + 1) = kp (wL ns k) (wEx (wL ns k)) from rfl)
        have HE' := Lib.hid (show wE ns (k + 1) = wE ns k ++ [wEx (wL ns k)] from rfl)
        rw [HEx.out] at HL' HE'
        have HAl := Lib.hid (wE_len ns k)
        have HFit := Lib.hid (fun b w h => implFitting (wL ns k) x b hx5 w h)
        clear hsub hf5 hwX hwp hmk
        generalize wL ns k = L at *
        generalize wE ns k = E at *
        generalize gOpt L x = gb at *
        go_wp2_with fail
        refine (HFS.out _ SWr.out (by exact m0)).mono ?_
        rintro e w4 ⟨rfl, hb4⟩
        have B4 := Lib.hid hb4
        have hz4 := hb4.size
        have SW4 := Lib.hid (SWr.out.next hb4)
        clear hb4 m0
        go_wp2_with fail
        refine (HG.out _ SW4.out).mono ?_
        rintro e w5 ⟨rfl, hb5⟩
        have B5 := Lib.hid (B4.out.trans (hb5.mono hz4))
        have hz5 := B5.out.size
        clear hb5
        have HWe := Lib.hid (show Below w5.heap.size w5 (w5.alloc (Obj.cells #[.int .i64 (x : Int), .bool (!gb)] 59)) from (Below.refl _ _).alloc (Nat.le_refl _) _)
        have HWz := Lib.hid (show (w5.alloc (Obj.cells #[.int .i64 (x : Int), .bool (!gb)] 59)).heap.size = w5.heap.size + 1 by simp)
        have e0 : (w5.alloc (Obj.cells #[.int .i64 (x : Int), .bool (!gb)] 59)).cell? ⟨w5.heap.size, 0, none⟩ = some (.int .i64 (x : Int)) := by simp [go_sem]
        have e1 : (w5.alloc (Obj.cells #[.int .i64 (x : Int), .bool (!gb)] 59)).cell? ⟨w5.heap.size, 1, none⟩ = some (.bool (!gb)) := by simp [go_sem]
        have HE0 := Lib.hid e0
        have HE1 := Lib.hid e1
        clear e0 e1
        go_upto_region 11 with (fail)
        generalize (w5.alloc (Obj.cells #[.int .i64 (x : Int), .bool (!gb)] 59)) = we at *
        have e0 := HE0.out
        have e1 := HE1.out
        have hze := HWz.out
        have HBe := Lib.hid (B5.out.trans (HWe.out.mono hz5))
        have INe := Lib.hid (HIN.out.below HBe.out (Nat.le_refl _))
        have CEe := Lib.hid (HCe.out.next HBe.out hqlt)
        generalize (!gb) = lb at *
        go_wp2_with (at_builtin; refine wpList_appE rfl (.tmp 34) (.tmp 36) rfl w3.heap.size _ E rfl (by exact INe.out.alloc _) _ (x : Int) lb rfl ⟨by rw [← hze, World.cell?_alloc_at _ _ _ _ rfl]; rfl, by rw [← hze, World.cell?_alloc_at _ _ _ _ rfl]; rfl⟩ (by rw [HAl.out]; omega) (by simp; omega) ?_; intro a1 c1 w6 hin6 hb6 hg6; have I6 := Lib.hid hin6; have HB6 := Lib.hid (show Below w3.heap.size we w6 from Below.trans ((Below.refl _ _).alloc (by omega) _) hb6); have HG6 := Lib.hid (show we.grownBy w6 (Value.slice a' k c').ownBlock from grownBy_trans (World.grownBy_alloc _ _ _) hg6); clear hin6 hb6 hg6 e0 e1; have e0 : w6.cell? ⟨w5.heap.size, 0, none⟩ = some (.int .i64 (x : Int)) := HG6.out.cell HE0.out (show some w5.heap.size ≠ _ from fun e => by have := HOwn.out _ e.symm; omega); have e1 : w6.cell? ⟨w5.heap.size, 1, none⟩ = some (.bool lb) := HG6.out.cell HE1.out (show some w5.heap.size ≠ _ from fun e => by have := HOwn.out _ e.symm; omega))
        have CE6 := Lib.hid (CEe.out.kept HG6.out (fun e => by have := HOwn.out _ e.symm; omega))
        have BW6 := Lib.hid (show Below w3.heap.size w3 w6 from (BE.out.trans (HBe.out.mono hz)).trans HB6.out)
        have hz6 := HG6.out.size
        have SW6 := Lib.hid (HSW.out.next (B3.out.next hs3 BW6.out).below)
        have L6 := Lib.hid (fun g hg => (I6.out.lt g hg).2)
        refine (HFit.out lb _ SW6.out).mono ?_
        rintro e w7 ⟨rfl, hb7⟩
        have hz7 := hb7.size
        have CE7 := Lib.hid (CE6.out.next hb7 (by omega))
        have I7 := Lib.hid (I6.out.below hb7 (Nat.le_refl _))
        have BW7 := Lib.hid (BW6.out.trans (hb7.mono BW6.out.size))
        have m7 := CE7.out.at0
        clear hb7 e0 e1
        have C8 := Lib.hid (show Cel w7.heap.size (.int .i64 (D - k - 1)) (w7.alloc (Obj.cells #[.int .i64 (D - k - 1)] 3)) from ⟨by simp [go_sem], by simp [go_sem]⟩)
        have I8 := Lib.hid (I7.out.alloc (Obj.cells #[.int .i64 (D - k - 1)] 3))
        have B8 := Lib.hid (BW7.out.alloc BW7.out.size (Obj.cells #[.int .i64 (D - k - 1)] 3))
        go_wp2_with fail
        go_roundw
        case rel =>
          refine ⟨k + 1, a1, c1, w7.heap.size, .inl (by omega), by rw [HAl.out], by rw [HL'.out], rfl, ?_, ?_, ?_, by omega, B8.out⟩
          · have h8 := I8.out
            rw [HAl.out] at h8
            rw [HE'.out]
            exact h8
          · rw [show (D - ((k + 1 : Nat) : Int)) = D - k - 1 by omega]
            exact C8.out
          · refine Lib.hid (fun g hg => ?_)
            have := L6.out g (by rw [HAl.out]; exact hg)
            omega
        case measure => have := HAl.out; simp; omega
      · have HK := Lib.hid (show k = D.toNat by omega)
        go_wp2_with fail
        go_ret
        refine ⟨a', c', ?_, ?_, (B3.out.next hs3 BE.out).below⟩
        · rw [HT.out, wE_len, ← HK.out]
          rfl
        · rw [HT.out, wE_len, ← HK.out]
          exact HIN.out.mono (by omega)
  · have HT := Lib.hid (show worL n zs = [] by rw [worL, if_neg hv])
    rw [Bool.not_eq_true] at hv
    have HV := Lib.hid hv
    clear hv
    go_enter Tryd.func40, Tryd.ntmps40
    go_wp2_with fail
    refine (implValid n _ zs _ (H.out.below (k := w.heap.size) (by go_grown) (Nat.le_refl _))).mono ?_
    rintro e w1 ⟨rfl, hb⟩
    rw [HV.out]
    have B1 := Lib.hid (B0.out.next (by simp) hb)
    clear hb
    go_wp2_with fail
    go_ret
    rw [HT.out]
    exact ⟨none, 0, rfl, ExS.nil _ _, B1.out.below⟩

end Go.Proofs.YtiocaopabkbgpaaDoor
