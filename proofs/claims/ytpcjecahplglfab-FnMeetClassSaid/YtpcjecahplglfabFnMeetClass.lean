/- FnMeetClass's walk: what both have each has. Conditions: the code is a slice of bytes. -/
import Derived.Deep.Cut
import Derived.Deep.CutRange
import Derived.Deep.RegionHeld3
import Derived.Test.YtpcjecahplglfabComplS
import Derived.Test.YtpcjecahplglfabDrawsTw
import Derived.Test.YtpcjecahplglfabLawHc
import Derived.Test.YtpcjecahplglfabUni
import Derived.Test.YtpcjecahplglfabZD
import Derived.Test.YtpcjecahplglfabZG
import Derived.Test.YtpcjecahplglfabZJ
namespace Go.Proofs.Ytpcjecahplglfab
open Go.RowKit

theorem eqB_self (xs : List Int) : eqB xs xs = true := eqB_of rfl (fun _ _ => rfl)
theorem atL_cls {m : Nat} {k : Int} {xs ys : List Nat} (hm : m ≤ 5) : Cls m (atL k m xs ys) := ⟨hm, (range_asc _).filter _, fun _ ht => List.mem_range.1 (List.mem_filter.1 ht).1⟩
theorem cmpl_meet {m : Nat} {ns ms : List Nat} : atL 1 m (cmpl m ns) (cmpl m ms) = cmpl m (atL 2 m ns ms) := by
  show List.filter (fun x => decide (1 ≤ cnt2 (cmpl m ns) (cmpl m ms) x)) (List.range (2 ^ m)) = List.filter (fun s => !decide (s ∈ atL 2 m ns ms)) (List.range (2 ^ m))
  apply List.filter_congr
  intro x hx
  have h1 : x ∈ cmpl m ns ↔ ¬ x ∈ ns := by rw [cmpl, List.mem_filter]; simp [List.mem_range.1 hx]
  have h2 : x ∈ cmpl m ms ↔ ¬ x ∈ ms := by rw [cmpl, List.mem_filter]; simp [List.mem_range.1 hx]
  have h3 : x ∈ atL 2 m ns ms ↔ x ∈ ns ∧ x ∈ ms := by
    rw [atL, List.mem_filter, decide_eq_true_eq]
    by_cases a : x ∈ ns <;> by_cases b : x ∈ ms <;> simp [cnt2, a, b, List.mem_range.1 hx]
  simp only [cnt2, h1, h2, h3]
  by_cases a : x ∈ ns <;> by_cases b : x ∈ ms <;> simp [a, b]


set_option maxHeartbeats 12800000 in
set_option maxRecDepth 100000 in
theorem walkFnMeetClass (a : Option Addr) (b off n cap : Nat) (w : World) (hc : n ≤ cap) (hcap : cap ≤ maxLen) (h : Byt w a b off n) :
    Calls Try.prog 6 #[.slice a n cap] w fun e w' => e = .returned (.bool true) ∧ Below w.heap.size w w' := by
  by_cases hn : n ≤ 1048576
  · have HD := Lib.hid (dDrawMeetClass a b off n cap w hc hn hcap h)
    clear h
    go_enter Try.func6, Try.ntmps6
    go_upto_region 3 with (fail)
    go_cut [3, 4] from 14 to 18 (fun p q wq => ∃ (N M : Int) (zs ys : List Int) (a1 b1 : Option Addr) (c1 d1 o1 o2 : Nat), p = .pointer (some ⟨o1, 0, none⟩) ∧ q = .pointer (some ⟨o2, 0, none⟩) ∧ (-8 ≤ N ∧ N ≤ 8 ∧ zs.length ≤ 34) ∧ (-8 ≤ M ∧ M ≤ 8 ∧ ys.length ≤ 34) ∧ Bx N (.slice a1 zs.length c1) o1 wq ∧ Bx M (.slice b1 ys.length d1) o2 wq ∧ Ints 0 wq (.slice a1 zs.length c1) zs ∧ Ints 0 wq (.slice b1 ys.length d1) ys ∧ Below w.heap.size w wq)
    case first =>
      go_wp2_with fail
      refine HD.out.mono ?_
      rintro e w1 ⟨N, M, zs, ys, a1, b1, c1, d1, rfl, hb1, hb2, h1, h2, hb⟩
      have I1 := Lib.hid (h1.mono (Nat.zero_le _))
      have I2 := Lib.hid (h2.mono (Nat.zero_le _))
      have B := Lib.hid hb
      have hbs := hb.size
      clear h1 h2 hb HD
      go_wp2_with fail
      go_meet
      exact ⟨N, M, zs, ys, a1, b1, c1, d1, _, _, rfl, rfl, hb1, hb2, (Bx.new _ _ _).alloc _, heap_alloc_at (by simp), (I1.out.alloc _).alloc _, (I2.out.alloc _).alloc _, (B.out.alloc hbs _).alloc (by simp; omega) _⟩
    case rest =>
      obtain ⟨N, M, zs, ys, a1, b1, c1, d1, o, p, rfl, rfl, hbd1, hbd2, hx1, hx2, h1, h2, hb⟩ := hcut
      obtain ⟨w2, rfl⟩ : ∃ w2, w2 = wc := ⟨_, rfl⟩
      have X := Lib.hid hx1
      have Y := Lib.hid hx2
      have I1 := Lib.hid h1
      have I2 := Lib.hid h2
      have B := Lib.hid hb
      clear hx1 hx2 h1 h2 hb HD
      by_cases hv : twoB N zs M ys = true
      · have hv' := hv
        simp only [twoB, Bool.and_eq_true, decide_eq_true_eq] at hv'
        obtain ⟨hva, hvb, hMN⟩ := hv'
        subst hMN
        obtain ⟨m, ns, rfl, rfl, hca⟩ := vldB_cls hva
        obtain ⟨m', ms, hm', rfl, hcb⟩ := vldB_cls hvb
        obtain rfl : m = m' := by omega
        have hm := hca.pts
        obtain ⟨R, hR⟩ : ∃ R, R = atL 2 m ns ms := ⟨_, rfl⟩
        have hcR : Cls m R := by rw [hR]; exact atL_cls hm
        have hvR := cls_vldB hcR
        have eN : iaN (m : Int) (toI ns) (m : Int) (toI ms) = m := by rw [iaN, if_pos hv]
        have eC : iaL 2 (m : Int) (toI ns) (m : Int) (toI ms) = toI R := by rw [iaL, if_pos hv, toNat_toI, toNat_toI, Int.toNat_natCast, hR]
        have HI := Lib.hid (fun va vb w ha hb => implMeetClass (m : Int) va (toI ns) (m : Int) vb (toI ms) w ha hb)
        have HS := Lib.hid (fun va vb w ha hb => specMeetClass (m : Int) va (toI ns) (m : Int) vb (toI ms) w ha hb)
        rw [eN, eC, hv] at HI HS
        obtain ⟨A, hA⟩ : ∃ A, A = cmpl m ns := ⟨_, rfl⟩
        obtain ⟨D, hD⟩ : ∃ D, D = cmpl m ms := ⟨_, rfl⟩
        obtain ⟨E, hE⟩ : ∃ E, E = cmpl m R := ⟨_, rfl⟩
        have hcA : Cls m A := by rw [hA]; exact cmpl_cls hca
        have hcD : Cls m D := by rw [hD]; exact cmpl_cls hcb
        have e2 : twoB (m : Int) (toI A) (m : Int) (toI D) = true := by rw [twoB, cls_vldB hcA, cls_vldB hcD]; simp
        have HCA := Lib.hid (fun v w h => implComplementClass (m : Int) v (toI ns) w h)
        have HCB := Lib.hid (fun v w h => implComplementClass (m : Int) v (toI ms) w h)
        have HCR := Lib.hid (fun v w h => implComplementClass (m : Int) v (toI R) w h)
        have HU := Lib.hid (fun va vb w ha hb => implUnionClass (m : Int) va (toI A) (m : Int) vb (toI D) w ha hb)
        have HMA := Lib.hid (fun v1 v2 w h1 h2 => lawsAmong v1 v2 R ns w h1 h2 (by rw [hR, atL_two hca]; intro x hx; exact (List.mem_filter.1 hx).1))
        have HMB := Lib.hid (fun v1 v2 w h1 h2 => lawsAmong v1 v2 R ms w h1 h2 (by rw [hR, atL_two hca]; intro x hx; exact of_decide_eq_true (List.mem_filter.1 hx).2))
        rw [show cmN (m : Int) (toI ns) = m by rw [cmN, if_pos hva], show cmL (m : Int) (toI ns) = toI A by rw [cmL, if_pos hva, toNat_toI, Int.toNat_natCast, hA]] at HCA
        rw [show cmN (m : Int) (toI ms) = m by rw [cmN, if_pos hvb], show cmL (m : Int) (toI ms) = toI D by rw [cmL, if_pos hvb, toNat_toI, Int.toNat_natCast, hD]] at HCB
        rw [show cmN (m : Int) (toI R) = m by rw [cmN, if_pos hvR], show cmL (m : Int) (toI R) = toI E by rw [cmL, if_pos hvR, toNat_toI, Int.toNat_natCast, hE]] at HCR
        rw [show iaN (m : Int) (toI A) (m : Int) (toI D) = m by rw [iaN, if_pos e2], show iaL 1 (m : Int) (toI A) (m : Int) (toI D) = toI E by rw [iaL, if_pos e2, toNat_toI, toNat_toI, Int.toNat_natCast, hA, hD, hE, hR, cmpl_meet], e2] at HU
        clear hcA hcD e2 hA hD hE hv hva hvb hcR hvR eN eC hR hca hcb
        generalize toI ns = zs at *
        generalize toI ms = ys at *
        generalize toI R = RL at *
        generalize toI A = AL at *
        generalize toI D = DL at *
        generalize toI E = EL at *
        have x0 := X.out.out.at0
        have x1 := X.out.out.at1
        have y0 := Y.out.out.at0
        have y1 := Y.out.out.at1
        go_wp2_with fail
        clear x0 x1 y0 y1
        refine (HI.out _ _ _ I1.out.rd I2.out.rd).mono ?_
        rintro e w3 ⟨a3, c3, rfl, hin3, hb3⟩
        have hz3 := hb3.size
        replace X := Lib.hid (X.out.next hb3 X.out.lt)
        replace Y := Lib.hid (Y.out.next hb3 Y.out.lt)
        replace I1 := Lib.hid (I1.out.below hb3 (Nat.le_refl _))
        replace I2 := Lib.hid (I2.out.below hb3 (Nat.le_refl _))
        replace B := Lib.hid (B.out.trans (hb3.mono B.out.size))
        have IR := Lib.hid (hin3.mono (Nat.zero_le _))
        clear hin3 hb3
        have Z := Lib.hid (Bx.new (m : Int) (.slice a3 RL.length c3) w3)
        replace X := Lib.hid (X.out.alloc (Obj.cells #[.int .i64 (m : Int), .slice a3 RL.length c3] 26))
        replace Y := Lib.hid (Y.out.alloc (Obj.cells #[.int .i64 (m : Int), .slice a3 RL.length c3] 26))
        replace I1 := Lib.hid (I1.out.alloc (Obj.cells #[.int .i64 (m : Int), .slice a3 RL.length c3] 26))
        replace I2 := Lib.hid (I2.out.alloc (Obj.cells #[.int .i64 (m : Int), .slice a3 RL.length c3] 26))
        replace IR := Lib.hid (IR.out.alloc (Obj.cells #[.int .i64 (m : Int), .slice a3 RL.length c3] 26))
        replace B := Lib.hid (B.out.alloc B.out.size (Obj.cells #[.int .i64 (m : Int), .slice a3 RL.length c3] 26))
        have x0 := X.out.out.at0
        have x1 := X.out.out.at1
        have y0 := Y.out.out.at0
        have y1 := Y.out.out.at1
        go_wp2_with fail
        clear x0 x1 y0 y1
        generalize (w3.alloc (Obj.cells #[.int .i64 (m : Int), .slice a3 RL.length c3] 26)) = w4 at *
        generalize ho3 : w3.heap.size = o3 at *
        refine (HS.out _ _ _ ⟨_, I1.out⟩ ⟨_, I2.out⟩).mono ?_
        rintro e w5 ⟨a5, c5, rfl, hin5, hb5⟩
        have hz5 := hb5.size
        replace X := Lib.hid (X.out.next hb5 X.out.lt)
        replace Y := Lib.hid (Y.out.next hb5 Y.out.lt)
        replace Z := Lib.hid (Z.out.next hb5 Z.out.lt)
        replace I1 := Lib.hid (I1.out.below hb5 (Nat.le_refl _))
        replace I2 := Lib.hid (I2.out.below hb5 (Nat.le_refl _))
        replace IR := Lib.hid (IR.out.below hb5 (Nat.le_refl _))
        replace B := Lib.hid (B.out.trans (hb5.mono B.out.size))
        have IS := Lib.hid (hin5.mono (Nat.zero_le _))
        clear hin5 hb5
        have V := Lib.hid (Bx.new (m : Int) (.slice a5 RL.length c5) w5)
        replace X := Lib.hid (X.out.alloc (Obj.cells #[.int .i64 (m : Int), .slice a5 RL.length c5] 26))
        replace Y := Lib.hid (Y.out.alloc (Obj.cells #[.int .i64 (m : Int), .slice a5 RL.length c5] 26))
        replace Z := Lib.hid (Z.out.alloc (Obj.cells #[.int .i64 (m : Int), .slice a5 RL.length c5] 26))
        replace I1 := Lib.hid (I1.out.alloc (Obj.cells #[.int .i64 (m : Int), .slice a5 RL.length c5] 26))
        replace I2 := Lib.hid (I2.out.alloc (Obj.cells #[.int .i64 (m : Int), .slice a5 RL.length c5] 26))
        replace IR := Lib.hid (IR.out.alloc (Obj.cells #[.int .i64 (m : Int), .slice a5 RL.length c5] 26))
        replace IS := Lib.hid (IS.out.alloc (Obj.cells #[.int .i64 (m : Int), .slice a5 RL.length c5] 26))
        replace B := Lib.hid (B.out.alloc B.out.size (Obj.cells #[.int .i64 (m : Int), .slice a5 RL.length c5] 26))
        have x0 := X.out.out.at0
        have x1 := X.out.out.at1
        have y0 := Y.out.out.at0
        have y1 := Y.out.out.at1
        have z0 := Z.out.out.at0
        have z1 := Z.out.out.at1
        go_wp2_with fail
        clear x0 x1 y0 y1 z0 z1
        generalize (w5.alloc (Obj.cells #[.int .i64 (m : Int), .slice a5 RL.length c5] 26)) = w6 at *
        generalize ho4 : w5.heap.size = o4 at *
        refine (lawsEqualClass _ _ _ _ _ _ _ _ IR.out.rd IS.out.rd).mono ?_
        rintro e w7 ⟨rfl, hb7⟩
        have hz7 := hb7.size
        replace X := Lib.hid (X.out.next hb7 X.out.lt)
        replace Y := Lib.hid (Y.out.next hb7 Y.out.lt)
        replace Z := Lib.hid (Z.out.next hb7 Z.out.lt)
        replace V := Lib.hid (V.out.next hb7 V.out.lt)
        replace I1 := Lib.hid (I1.out.below hb7 (Nat.le_refl _))
        replace I2 := Lib.hid (I2.out.below hb7 (Nat.le_refl _))
        replace IR := Lib.hid (IR.out.below hb7 (Nat.le_refl _))
        replace IS := Lib.hid (IS.out.below hb7 (Nat.le_refl _))
        replace B := Lib.hid (B.out.trans (hb7.mono B.out.size))
        clear hb7
        have x0 := X.out.out.at0
        have x1 := X.out.out.at1
        have y0 := Y.out.out.at0
        have y1 := Y.out.out.at1
        have z0 := Z.out.out.at0
        have z1 := Z.out.out.at1
        have v0 := V.out.out.at0
        have v1 := V.out.out.at1
        go_wp2_with fail
        clear x0 x1 y0 y1 z0 z1 v0 v1
        clear HI HS IS V
        have XS := Lib.hid (show ∀ w', Below w7.heap.size w7 w' → (fun w' => w'.cell? ⟨o, 0, none⟩ = some (Value.int .i64 (m : Int)) ∧ w'.cell? ⟨o, 1, none⟩ = some (.slice a1 zs.length c1) ∧ w'.cell? ⟨p, 0, none⟩ = some (Value.int .i64 (m : Int)) ∧ w'.cell? ⟨p, 1, none⟩ = some (.slice b1 ys.length d1)) w' from fun w' hb => ⟨(X.out.next hb X.out.lt).out.at0, (X.out.next hb X.out.lt).out.at1, (Y.out.next hb Y.out.lt).out.at0, (Y.out.next hb Y.out.lt).out.at1⟩)
        have x0 := X.out.out.at0
        have x1 := X.out.out.at1
        have y0 := Y.out.out.at0
        have y1 := Y.out.out.at1
        have z0 := Z.out.out.at0
        have z1 := Z.out.out.at1
        go_upto_region 8 with (fail)
        go_cut [9, 10] from 52 to 59 (fun p' q' wq => ∃ o' a' c', p' = .pointer (some ⟨o', 0, none⟩) ∧ q' = .bool true ∧ Bx (m : Int) (.slice a' EL.length c') o' wq ∧ Ints w7.heap.size wq (.slice a' EL.length c') EL ∧ Below w7.heap.size w7 wq)
        case first =>
          clear x0 x1 y0 y1 z0 z1
          have Bw := Lib.hid (show Below w7.heap.size w7 w7.drew from (Below.refl _ _).drew)
          have Bw00 := Lib.hid Bw.out
          refine wp_region_held_drew (S := fun w' => w'.cell? ⟨o, 0, none⟩ = some (Value.int .i64 (m : Int)) ∧ w'.cell? ⟨o, 1, none⟩ = some (.slice a1 zs.length c1) ∧ w'.cell? ⟨p, 0, none⟩ = some (Value.int .i64 (m : Int)) ∧ w'.cell? ⟨p, 1, none⟩ = some (.slice b1 ys.length d1)) (by kernel_rfl) (by exact XS.out _ Bw.out) (fun hHeld => ?_)
          generalize w7.drew = v0 at *
          refine wpAnyH_take (i := 0) (v := ?_) rfl (by kernel_rfl) (by kernel_rfl) (by kernel_rfl) (fun _ _ _ h => h) (Or.inl ⟨by rfl, ?_⟩) (by assumption) ?_
          rotate_left
          · (intro w hSw; (try dsimp only at hSw); go_simp; try with_reducible rfl)
          try simp only [List.getElem_toArray, List.getElem_cons_zero, Act.put, List.setIfInBounds_toArray, List.set_cons_zero, List.set_cons_succ]
          refine wpAnyH_take (i := 2) (v := ?_) rfl (by kernel_rfl) (by kernel_rfl) (by kernel_rfl) (fun _ _ _ h => h) (Or.inl ⟨by rfl, ?_⟩) (by assumption) ?_
          rotate_left
          · (intro w hSw; (try dsimp only at hSw); go_simp; try with_reducible rfl)
          try simp only [List.getElem_toArray, List.getElem_cons_zero, List.getElem_cons_succ, Act.put, List.setIfInBounds_toArray, List.set_cons_zero, List.set_cons_succ]
          refine wpAnyH_ready (rs := [1, 8]) (by kernel_rfl) (by simp) ?_
          refine AllReadyH.cons rfl (fun K hK => ?_) (AllReadyH.cons rfl (fun K hK => ?_) AllReadyH.nil)
          · skip
            try simp only [List.getElem_toArray]
            go_simp
            refine (HCA.out _ _ (I1.out.rd.below Bw.out (Nat.le_refl _))).mono ?_
            rintro e v1 ⟨a1', c1', rfl, hin1, hb1⟩
            have Bo1 := Lib.hid Bw.out
            replace Bw := Lib.hid (Bw.out.trans (hb1.mono Bw.out.size))
            have Bw00 := Lib.hid Bw.out
            have T1 := Lib.hid (hin1.mono (Nat.zero_le _))
            clear hin1 hb1
            refine hK.out _ _ (by first | exact XS.out _ Bw.out | exact XS.out _ ((Bw.out.setCell ho' _).setCell ho' _) | exact XS.out _ (Bw00.out.alloc ho' _)) (fun hHeld => ?_)
            clear hK K
            try simp only [List.getElem_toArray, List.getElem_cons_zero, List.getElem_cons_succ, Act.put, List.setIfInBounds_toArray, List.set_cons_zero, List.set_cons_succ]
            refine wpAnyH_ready (rs := [3, 8]) (by kernel_rfl) (by simp) ?_
            refine AllReadyH.cons rfl (fun K hK => ?_) (AllReadyH.cons rfl (fun K hK => ?_) AllReadyH.nil)
            · skip
              try simp only [List.getElem_toArray]
              go_simp
              refine (HCB.out _ _ (I2.out.rd.below Bw.out (Nat.le_refl _))).mono ?_
              rintro e v2 ⟨a2', c2', rfl, hin2, hb2⟩
              replace T1 := Lib.hid (T1.out.below hb2 (Nat.le_refl _))
              have Bo2 := Lib.hid Bw.out
              replace Bw := Lib.hid (Bw.out.trans (hb2.mono Bw.out.size))
              have Bw00 := Lib.hid Bw.out
              have T3 := Lib.hid (hin2.mono (Nat.zero_le _))
              clear hin2 hb2
              refine hK.out _ _ (by first | exact XS.out _ Bw.out | exact XS.out _ ((Bw.out.setCell ho' _).setCell ho' _) | exact XS.out _ (Bw00.out.alloc ho' _)) (fun hHeld => ?_)
              clear hK K
              try simp only [List.getElem_toArray, List.getElem_cons_zero, List.getElem_cons_succ, Act.put, List.setIfInBounds_toArray, List.set_cons_zero, List.set_cons_succ]
              refine wpAnyH_ready (rs := [4, 8]) (by kernel_rfl) (by simp) ?_
              refine AllReadyH.cons rfl (fun K hK => ?_) (AllReadyH.cons rfl (fun K hK => ?_) AllReadyH.nil)
              · skip
                try simp only [List.getElem_toArray]
                go_simp
                refine (HU.out _ _ _ T1.out.rd T3.out.rd).mono ?_
                rintro e v3 ⟨a3', c3', rfl, hin3, hb3⟩
                replace T1 := Lib.hid (T1.out.below hb3 (Nat.le_refl _))
                replace T3 := Lib.hid (T3.out.below hb3 (Nat.le_refl _))
                have Bo3 := Lib.hid Bw.out
                replace Bw := Lib.hid (Bw.out.trans (hb3.mono Bw.out.size))
                have Bw00 := Lib.hid Bw.out
                have T4 := Lib.hid (hin3.mono (B' := w7.heap.size) Bo3.out.size)
                clear hin3 hb3
                refine hK.out _ _ (by first | exact XS.out _ Bw.out | exact XS.out _ ((Bw.out.setCell ho' _).setCell ho' _) | exact XS.out _ (Bw00.out.alloc ho' _)) (fun hHeld => ?_)
                clear hK K
                try simp only [List.getElem_toArray, List.getElem_cons_zero, List.getElem_cons_succ, Act.put, List.setIfInBounds_toArray, List.set_cons_zero, List.set_cons_succ]
                refine wpAnyH_take (i := 5) (v := ?_) rfl (by kernel_rfl) (by kernel_rfl) (by kernel_rfl) (fun _ _ _ h => h) (Or.inl ⟨by rfl, ?_⟩) (by assumption) ?_
                rotate_left
                · (intro w hSw; (try dsimp only at hSw); go_simp; try with_reducible rfl)
                try simp only [List.getElem_toArray, List.getElem_cons_zero, List.getElem_cons_succ, Act.put, List.setIfInBounds_toArray, List.set_cons_zero, List.set_cons_succ]
                refine wpAnyH_take (i := 6) (v := ?_) rfl (by kernel_rfl) (by kernel_rfl) (by kernel_rfl) (fun _ _ _ h => h) (Or.inl ⟨by rfl, ?_⟩) (by assumption) ?_
                rotate_left
                · (intro w hSw; (try dsimp only at hSw); go_simp; try with_reducible rfl)
                try simp only [List.getElem_toArray, List.getElem_cons_zero, List.getElem_cons_succ, Act.put, List.setIfInBounds_toArray, List.set_cons_zero, List.set_cons_succ]
                refine wpAnyH_take (i := 7) (v := ?_) rfl (by kernel_rfl) (by kernel_rfl) (by kernel_rfl) (fun _ _ _ h => h) (Or.inl ⟨by rfl, ?_⟩) (by assumption) ?_
                rotate_left
                · (intro w hSw; (try dsimp only at hSw); go_simp; try with_reducible rfl)
                try simp only [List.getElem_toArray, List.getElem_cons_zero, List.getElem_cons_succ, Act.put, List.setIfInBounds_toArray, List.set_cons_zero, List.set_cons_succ]
                refine wpAnyH_ready (rs := [8]) (by kernel_rfl) (by simp) ?_
                refine AllReadyH.cons rfl (fun K hK => ?_) AllReadyH.nil
                have T40 := Lib.hid T4.out
                try simp only [List.getElem_toArray]
                have XN := Lib.hid (Bx.new 0 (.slice none 0 0) v3)
                have ho' : w7.heap.size ≤ v3.heap.size := Bw.out.size
                replace T1 := Lib.hid (T1.out.alloc (Obj.cells #[.int .i64 0, .slice none 0 0] 26))
                replace T3 := Lib.hid (T3.out.alloc (Obj.cells #[.int .i64 0, .slice none 0 0] 26))
                replace T4 := Lib.hid (T4.out.alloc (Obj.cells #[.int .i64 0, .slice none 0 0] 26))
                replace Bw := Lib.hid (Bw.out.alloc Bw.out.size (Obj.cells #[.int .i64 0, .slice none 0 0] 26))
                go_simp
                refine hK.out _ _ (by first | exact XS.out _ Bw.out | exact XS.out _ ((Bw.out.setCell ho' _).setCell ho' _) | exact XS.out _ (Bw00.out.alloc ho' _)) (fun hHeld => ?_)
                clear hK K
                try simp only [List.getElem_toArray, List.getElem_cons_zero, List.getElem_cons_succ, Act.put, List.setIfInBounds_toArray, List.set_cons_zero, List.set_cons_succ]
                refine wpAnyH_ready (rs := [9]) (by kernel_rfl) (by simp) ?_
                refine AllReadyH.cons rfl (fun K hK => ?_) AllReadyH.nil
                try simp only [List.getElem_toArray]
                have x0 := XN.out.out.at0
                have x1 := XN.out.out.at1
                have q0 := XN.out.out.free0
                have q1 := XN.out.out.free1
                go_simp
                clear x0 x1 q0 q1
                refine hK.out _ _ (by first | exact XS.out _ Bw.out | exact XS.out _ ((Bw.out.setCell ho' _).setCell ho' _) | exact XS.out _ (Bw00.out.alloc ho' _)) (fun hHeld => ?_)
                clear hK K
                try simp only [List.getElem_toArray, List.getElem_cons_zero, List.getElem_cons_succ, Act.put, List.setIfInBounds_toArray, List.set_cons_zero, List.set_cons_succ]
                refine wpAnyH_take (i := 10) (v := ?_) rfl (by kernel_rfl) (by kernel_rfl) (by kernel_rfl) (fun _ _ _ h => h) (Or.inl ⟨by rfl, ?_⟩) (by assumption) ?_
                rotate_left
                · (intro w hSw; (try dsimp only at hSw); go_simp; try with_reducible rfl)
                try simp only [List.getElem_toArray, List.getElem_cons_zero, List.getElem_cons_succ, Act.put, List.setIfInBounds_toArray, List.set_cons_zero, List.set_cons_succ]
                refine wpAnyH_done (by kernel_rfl) ?_ _
                go_wp2_with fail
                go_meet
                first
                  | exact ⟨_, _, _, rfl, rfl, (XN.out.setN (m : Int)).set _, (T4.out.bx XN.out 0 _).bx (XN.out.setN (m : Int)) 1 _, (Bw.out.setCell ho' _).setCell ho' _⟩
                  | exact ⟨_, _, _, rfl, rfl, Bx.new _ _ _, T40.out.alloc _, Bw00.out.alloc ho' _⟩
              · skip
                try simp only [List.getElem_toArray]
                have XN := Lib.hid (Bx.new 0 (.slice none 0 0) v2)
                have ho' : w7.heap.size ≤ v2.heap.size := Bw.out.size
                replace T1 := Lib.hid (T1.out.alloc (Obj.cells #[.int .i64 0, .slice none 0 0] 26))
                replace T3 := Lib.hid (T3.out.alloc (Obj.cells #[.int .i64 0, .slice none 0 0] 26))
                replace Bw := Lib.hid (Bw.out.alloc Bw.out.size (Obj.cells #[.int .i64 0, .slice none 0 0] 26))
                go_simp
                refine hK.out _ _ (by first | exact XS.out _ Bw.out | exact XS.out _ ((Bw.out.setCell ho' _).setCell ho' _) | exact XS.out _ (Bw00.out.alloc ho' _)) (fun hHeld => ?_)
                clear hK K
                try simp only [List.getElem_toArray, List.getElem_cons_zero, List.getElem_cons_succ, Act.put, List.setIfInBounds_toArray, List.set_cons_zero, List.set_cons_succ]
                refine wpAnyH_ready (rs := [4]) (by kernel_rfl) (by simp) ?_
                refine AllReadyH.cons rfl (fun K hK => ?_) AllReadyH.nil
                try simp only [List.getElem_toArray]
                go_simp
                refine (HU.out _ _ _ T1.out.rd T3.out.rd).mono ?_
                rintro e v7 ⟨a7', c7', rfl, hin7, hb7⟩
                replace XN := Lib.hid (XN.out.next hb7 XN.out.lt)
                replace T1 := Lib.hid (T1.out.below hb7 (Nat.le_refl _))
                replace T3 := Lib.hid (T3.out.below hb7 (Nat.le_refl _))
                have Bo7 := Lib.hid Bw.out
                replace Bw := Lib.hid (Bw.out.trans (hb7.mono Bw.out.size))
                have Bw00 := Lib.hid Bw.out
                have T4 := Lib.hid (hin7.mono (B' := w7.heap.size) Bo7.out.size)
                clear hin7 hb7
                refine hK.out _ _ (by first | exact XS.out _ Bw.out | exact XS.out _ ((Bw.out.setCell ho' _).setCell ho' _) | exact XS.out _ (Bw00.out.alloc ho' _)) (fun hHeld => ?_)
                clear hK K
                try simp only [List.getElem_toArray, List.getElem_cons_zero, List.getElem_cons_succ, Act.put, List.setIfInBounds_toArray, List.set_cons_zero, List.set_cons_succ]
                refine wpAnyH_take (i := 5) (v := ?_) rfl (by kernel_rfl) (by kernel_rfl) (by kernel_rfl) (fun _ _ _ h => h) (Or.inl ⟨by rfl, ?_⟩) (by assumption) ?_
                rotate_left
                · (intro w hSw; (try dsimp only at hSw); go_simp; try with_reducible rfl)
                try simp only [List.getElem_toArray, List.getElem_cons_zero, List.getElem_cons_succ, Act.put, List.setIfInBounds_toArray, List.set_cons_zero, List.set_cons_succ]
                refine wpAnyH_take (i := 6) (v := ?_) rfl (by kernel_rfl) (by kernel_rfl) (by kernel_rfl) (fun _ _ _ h => h) (Or.inl ⟨by rfl, ?_⟩) (by assumption) ?_
                rotate_left
                · (intro w hSw; (try dsimp only at hSw); go_simp; try with_reducible rfl)
                try simp only [List.getElem_toArray, List.getElem_cons_zero, List.getElem_cons_succ, Act.put, List.setIfInBounds_toArray, List.set_cons_zero, List.set_cons_succ]
                refine wpAnyH_take (i := 7) (v := ?_) rfl (by kernel_rfl) (by kernel_rfl) (by kernel_rfl) (fun _ _ _ h => h) (Or.inl ⟨by rfl, ?_⟩) (by assumption) ?_
                rotate_left
                · (intro w hSw; (try dsimp only at hSw); go_simp; try with_reducible rfl)
                try simp only [List.getElem_toArray, List.getElem_cons_zero, List.getElem_cons_succ, Act.put, List.setIfInBounds_toArray, List.set_cons_zero, List.set_cons_succ]
                refine wpAnyH_ready (rs := [9]) (by kernel_rfl) (by simp) ?_
                refine AllReadyH.cons rfl (fun K hK => ?_) AllReadyH.nil
                try simp only [List.getElem_toArray]
                have x0 := XN.out.out.at0
                have x1 := XN.out.out.at1
                have q0 := XN.out.out.free0
                have q1 := XN.out.out.free1
                go_simp
                clear x0 x1 q0 q1
                refine hK.out _ _ (by first | exact XS.out _ Bw.out | exact XS.out _ ((Bw.out.setCell ho' _).setCell ho' _) | exact XS.out _ (Bw00.out.alloc ho' _)) (fun hHeld => ?_)
                clear hK K
                try simp only [List.getElem_toArray, List.getElem_cons_zero, List.getElem_cons_succ, Act.put, List.setIfInBounds_toArray, List.set_cons_zero, List.set_cons_succ]
                refine wpAnyH_take (i := 10) (v := ?_) rfl (by kernel_rfl) (by kernel_rfl) (by kernel_rfl) (fun _ _ _ h => h) (Or.inl ⟨by rfl, ?_⟩) (by assumption) ?_
                rotate_left
                · (intro w hSw; (try dsimp only at hSw); go_simp; try with_reducible rfl)
                try simp only [List.getElem_toArray, List.getElem_cons_zero, List.getElem_cons_succ, Act.put, List.setIfInBounds_toArray, List.set_cons_zero, List.set_cons_succ]
                refine wpAnyH_done (by kernel_rfl) ?_ _
                go_wp2_with fail
                go_meet
                first
                  | exact ⟨_, _, _, rfl, rfl, (XN.out.setN (m : Int)).set _, (T4.out.bx XN.out 0 _).bx (XN.out.setN (m : Int)) 1 _, (Bw.out.setCell ho' _).setCell ho' _⟩
                  | exact ⟨_, _, _, rfl, rfl, Bx.new _ _ _, T40.out.alloc _, Bw00.out.alloc ho' _⟩
            · skip
              try simp only [List.getElem_toArray]
              have XN := Lib.hid (Bx.new 0 (.slice none 0 0) v1)
              have ho' : w7.heap.size ≤ v1.heap.size := Bw.out.size
              replace T1 := Lib.hid (T1.out.alloc (Obj.cells #[.int .i64 0, .slice none 0 0] 26))
              replace Bw := Lib.hid (Bw.out.alloc Bw.out.size (Obj.cells #[.int .i64 0, .slice none 0 0] 26))
              go_simp
              refine hK.out _ _ (by first | exact XS.out _ Bw.out | exact XS.out _ ((Bw.out.setCell ho' _).setCell ho' _) | exact XS.out _ (Bw00.out.alloc ho' _)) (fun hHeld => ?_)
              clear hK K
              try simp only [List.getElem_toArray, List.getElem_cons_zero, List.getElem_cons_succ, Act.put, List.setIfInBounds_toArray, List.set_cons_zero, List.set_cons_succ]
              refine wpAnyH_ready (rs := [3]) (by kernel_rfl) (by simp) ?_
              refine AllReadyH.cons rfl (fun K hK => ?_) AllReadyH.nil
              try simp only [List.getElem_toArray]
              go_simp
              refine (HCB.out _ _ (I2.out.rd.below Bw.out (Nat.le_refl _))).mono ?_
              rintro e v10 ⟨a10', c10', rfl, hin10, hb10⟩
              replace XN := Lib.hid (XN.out.next hb10 XN.out.lt)
              replace T1 := Lib.hid (T1.out.below hb10 (Nat.le_refl _))
              have Bo10 := Lib.hid Bw.out
              replace Bw := Lib.hid (Bw.out.trans (hb10.mono Bw.out.size))
              have Bw00 := Lib.hid Bw.out
              have T3 := Lib.hid (hin10.mono (Nat.zero_le _))
              clear hin10 hb10
              refine hK.out _ _ (by first | exact XS.out _ Bw.out | exact XS.out _ ((Bw.out.setCell ho' _).setCell ho' _) | exact XS.out _ (Bw00.out.alloc ho' _)) (fun hHeld => ?_)
              clear hK K
              try simp only [List.getElem_toArray, List.getElem_cons_zero, List.getElem_cons_succ, Act.put, List.setIfInBounds_toArray, List.set_cons_zero, List.set_cons_succ]
              refine wpAnyH_ready (rs := [4]) (by kernel_rfl) (by simp) ?_
              refine AllReadyH.cons rfl (fun K hK => ?_) AllReadyH.nil
              try simp only [List.getElem_toArray]
              go_simp
              refine (HU.out _ _ _ T1.out.rd T3.out.rd).mono ?_
              rintro e v11 ⟨a11', c11', rfl, hin11, hb11⟩
              replace XN := Lib.hid (XN.out.next hb11 XN.out.lt)
              replace T1 := Lib.hid (T1.out.below hb11 (Nat.le_refl _))
              replace T3 := Lib.hid (T3.out.below hb11 (Nat.le_refl _))
              have Bo11 := Lib.hid Bw.out
              replace Bw := Lib.hid (Bw.out.trans (hb11.mono Bw.out.size))
              have Bw00 := Lib.hid Bw.out
              have T4 := Lib.hid (hin11.mono (B' := w7.heap.size) Bo11.out.size)
              clear hin11 hb11
              refine hK.out _ _ (by first | exact XS.out _ Bw.out | exact XS.out _ ((Bw.out.setCell ho' _).setCell ho' _) | exact XS.out _ (Bw00.out.alloc ho' _)) (fun hHeld => ?_)
              clear hK K
              try simp only [List.getElem_toArray, List.getElem_cons_zero, List.getElem_cons_succ, Act.put, List.setIfInBounds_toArray, List.set_cons_zero, List.set_cons_succ]
              refine wpAnyH_take (i := 5) (v := ?_) rfl (by kernel_rfl) (by kernel_rfl) (by kernel_rfl) (fun _ _ _ h => h) (Or.inl ⟨by rfl, ?_⟩) (by assumption) ?_
              rotate_left
              · (intro w hSw; (try dsimp only at hSw); go_simp; try with_reducible rfl)
              try simp only [List.getElem_toArray, List.getElem_cons_zero, List.getElem_cons_succ, Act.put, List.setIfInBounds_toArray, List.set_cons_zero, List.set_cons_succ]
              refine wpAnyH_take (i := 6) (v := ?_) rfl (by kernel_rfl) (by kernel_rfl) (by kernel_rfl) (fun _ _ _ h => h) (Or.inl ⟨by rfl, ?_⟩) (by assumption) ?_
              rotate_left
              · (intro w hSw; (try dsimp only at hSw); go_simp; try with_reducible rfl)
              try simp only [List.getElem_toArray, List.getElem_cons_zero, List.getElem_cons_succ, Act.put, List.setIfInBounds_toArray, List.set_cons_zero, List.set_cons_succ]
              refine wpAnyH_take (i := 7) (v := ?_) rfl (by kernel_rfl) (by kernel_rfl) (by kernel_rfl) (fun _ _ _ h => h) (Or.inl ⟨by rfl, ?_⟩) (by assumption) ?_
              rotate_left
              · (intro w hSw; (try dsimp only at hSw); go_simp; try with_reducible rfl)
              try simp only [List.getElem_toArray, List.getElem_cons_zero, List.getElem_cons_succ, Act.put, List.setIfInBounds_toArray, List.set_cons_zero, List.set_cons_succ]
              refine wpAnyH_ready (rs := [9]) (by kernel_rfl) (by simp) ?_
              refine AllReadyH.cons rfl (fun K hK => ?_) AllReadyH.nil
              try simp only [List.getElem_toArray]
              have x0 := XN.out.out.at0
              have x1 := XN.out.out.at1
              have q0 := XN.out.out.free0
              have q1 := XN.out.out.free1
              go_simp
              clear x0 x1 q0 q1
              refine hK.out _ _ (by first | exact XS.out _ Bw.out | exact XS.out _ ((Bw.out.setCell ho' _).setCell ho' _) | exact XS.out _ (Bw00.out.alloc ho' _)) (fun hHeld => ?_)
              clear hK K
              try simp only [List.getElem_toArray, List.getElem_cons_zero, List.getElem_cons_succ, Act.put, List.setIfInBounds_toArray, List.set_cons_zero, List.set_cons_succ]
              refine wpAnyH_take (i := 10) (v := ?_) rfl (by kernel_rfl) (by kernel_rfl) (by kernel_rfl) (fun _ _ _ h => h) (Or.inl ⟨by rfl, ?_⟩) (by assumption) ?_
              rotate_left
              · (intro w hSw; (try dsimp only at hSw); go_simp; try with_reducible rfl)
              try simp only [List.getElem_toArray, List.getElem_cons_zero, List.getElem_cons_succ, Act.put, List.setIfInBounds_toArray, List.set_cons_zero, List.set_cons_succ]
              refine wpAnyH_done (by kernel_rfl) ?_ _
              go_wp2_with fail
              go_meet
              first
                | exact ⟨_, _, _, rfl, rfl, (XN.out.setN (m : Int)).set _, (T4.out.bx XN.out 0 _).bx (XN.out.setN (m : Int)) 1 _, (Bw.out.setCell ho' _).setCell ho' _⟩
                | exact ⟨_, _, _, rfl, rfl, Bx.new _ _ _, T40.out.alloc _, Bw00.out.alloc ho' _⟩
          · skip
            try simp only [List.getElem_toArray]
            have XN := Lib.hid (Bx.new 0 (.slice none 0 0) v0)
            have ho' : w7.heap.size ≤ v0.heap.size := Bw.out.size
            replace Bw := Lib.hid (Bw.out.alloc Bw.out.size (Obj.cells #[.int .i64 0, .slice none 0 0] 26))
            go_simp
            refine hK.out _ _ (by first | exact XS.out _ Bw.out | exact XS.out _ ((Bw.out.setCell ho' _).setCell ho' _) | exact XS.out _ (Bw00.out.alloc ho' _)) (fun hHeld => ?_)
            clear hK K
            try simp only [List.getElem_toArray, List.getElem_cons_zero, List.getElem_cons_succ, Act.put, List.setIfInBounds_toArray, List.set_cons_zero, List.set_cons_succ]
            refine wpAnyH_ready (rs := [1]) (by kernel_rfl) (by simp) ?_
            refine AllReadyH.cons rfl (fun K hK => ?_) AllReadyH.nil
            try simp only [List.getElem_toArray]
            go_simp
            refine (HCA.out _ _ (I1.out.rd.below Bw.out (Nat.le_refl _))).mono ?_
            rintro e v14 ⟨a14', c14', rfl, hin14, hb14⟩
            replace XN := Lib.hid (XN.out.next hb14 XN.out.lt)
            have Bo14 := Lib.hid Bw.out
            replace Bw := Lib.hid (Bw.out.trans (hb14.mono Bw.out.size))
            have Bw00 := Lib.hid Bw.out
            have T1 := Lib.hid (hin14.mono (Nat.zero_le _))
            clear hin14 hb14
            refine hK.out _ _ (by first | exact XS.out _ Bw.out | exact XS.out _ ((Bw.out.setCell ho' _).setCell ho' _) | exact XS.out _ (Bw00.out.alloc ho' _)) (fun hHeld => ?_)
            clear hK K
            try simp only [List.getElem_toArray, List.getElem_cons_zero, List.getElem_cons_succ, Act.put, List.setIfInBounds_toArray, List.set_cons_zero, List.set_cons_succ]
            refine wpAnyH_ready (rs := [3]) (by kernel_rfl) (by simp) ?_
            refine AllReadyH.cons rfl (fun K hK => ?_) AllReadyH.nil
            try simp only [List.getElem_toArray]
            go_simp
            refine (HCB.out _ _ (I2.out.rd.below Bw.out (Nat.le_refl _))).mono ?_
            rintro e v15 ⟨a15', c15', rfl, hin15, hb15⟩
            replace XN := Lib.hid (XN.out.next hb15 XN.out.lt)
            replace T1 := Lib.hid (T1.out.below hb15 (Nat.le_refl _))
            have Bo15 := Lib.hid Bw.out
            replace Bw := Lib.hid (Bw.out.trans (hb15.mono Bw.out.size))
            have Bw00 := Lib.hid Bw.out
            have T3 := Lib.hid (hin15.mono (Nat.zero_le _))
            clear hin15 hb15
            refine hK.out _ _ (by first | exact XS.out _ Bw.out | exact XS.out _ ((Bw.out.setCell ho' _).setCell ho' _) | exact XS.out _ (Bw00.out.alloc ho' _)) (fun hHeld => ?_)
            clear hK K
            try simp only [List.getElem_toArray, List.getElem_cons_zero, List.getElem_cons_succ, Act.put, List.setIfInBounds_toArray, List.set_cons_zero, List.set_cons_succ]
            refine wpAnyH_ready (rs := [4]) (by kernel_rfl) (by simp) ?_
            refine AllReadyH.cons rfl (fun K hK => ?_) AllReadyH.nil
            try simp only [List.getElem_toArray]
            go_simp
            refine (HU.out _ _ _ T1.out.rd T3.out.rd).mono ?_
            rintro e v16 ⟨a16', c16', rfl, hin16, hb16⟩
            replace XN := Lib.hid (XN.out.next hb16 XN.out.lt)
            replace T1 := Lib.hid (T1.out.below hb16 (Nat.le_refl _))
            replace T3 := Lib.hid (T3.out.below hb16 (Nat.le_refl _))
            have Bo16 := Lib.hid Bw.out
            replace Bw := Lib.hid (Bw.out.trans (hb16.mono Bw.out.size))
            have Bw00 := Lib.hid Bw.out
            have T4 := Lib.hid (hin16.mono (B' := w7.heap.size) Bo16.out.size)
            clear hin16 hb16
            refine hK.out _ _ (by first | exact XS.out _ Bw.out | exact XS.out _ ((Bw.out.setCell ho' _).setCell ho' _) | exact XS.out _ (Bw00.out.alloc ho' _)) (fun hHeld => ?_)
            clear hK K
            try simp only [List.getElem_toArray, List.getElem_cons_zero, List.getElem_cons_succ, Act.put, List.setIfInBounds_toArray, List.set_cons_zero, List.set_cons_succ]
            refine wpAnyH_take (i := 5) (v := ?_) rfl (by kernel_rfl) (by kernel_rfl) (by kernel_rfl) (fun _ _ _ h => h) (Or.inl ⟨by rfl, ?_⟩) (by assumption) ?_
            rotate_left
            · (intro w hSw; (try dsimp only at hSw); go_simp; try with_reducible rfl)
            try simp only [List.getElem_toArray, List.getElem_cons_zero, List.getElem_cons_succ, Act.put, List.setIfInBounds_toArray, List.set_cons_zero, List.set_cons_succ]
            refine wpAnyH_take (i := 6) (v := ?_) rfl (by kernel_rfl) (by kernel_rfl) (by kernel_rfl) (fun _ _ _ h => h) (Or.inl ⟨by rfl, ?_⟩) (by assumption) ?_
            rotate_left
            · (intro w hSw; (try dsimp only at hSw); go_simp; try with_reducible rfl)
            try simp only [List.getElem_toArray, List.getElem_cons_zero, List.getElem_cons_succ, Act.put, List.setIfInBounds_toArray, List.set_cons_zero, List.set_cons_succ]
            refine wpAnyH_take (i := 7) (v := ?_) rfl (by kernel_rfl) (by kernel_rfl) (by kernel_rfl) (fun _ _ _ h => h) (Or.inl ⟨by rfl, ?_⟩) (by assumption) ?_
            rotate_left
            · (intro w hSw; (try dsimp only at hSw); go_simp; try with_reducible rfl)
            try simp only [List.getElem_toArray, List.getElem_cons_zero, List.getElem_cons_succ, Act.put, List.setIfInBounds_toArray, List.set_cons_zero, List.set_cons_succ]
            refine wpAnyH_ready (rs := [9]) (by kernel_rfl) (by simp) ?_
            refine AllReadyH.cons rfl (fun K hK => ?_) AllReadyH.nil
            try simp only [List.getElem_toArray]
            have x0 := XN.out.out.at0
            have x1 := XN.out.out.at1
            have q0 := XN.out.out.free0
            have q1 := XN.out.out.free1
            go_simp
            clear x0 x1 q0 q1
            refine hK.out _ _ (by first | exact XS.out _ Bw.out | exact XS.out _ ((Bw.out.setCell ho' _).setCell ho' _) | exact XS.out _ (Bw00.out.alloc ho' _)) (fun hHeld => ?_)
            clear hK K
            try simp only [List.getElem_toArray, List.getElem_cons_zero, List.getElem_cons_succ, Act.put, List.setIfInBounds_toArray, List.set_cons_zero, List.set_cons_succ]
            refine wpAnyH_take (i := 10) (v := ?_) rfl (by kernel_rfl) (by kernel_rfl) (by kernel_rfl) (fun _ _ _ h => h) (Or.inl ⟨by rfl, ?_⟩) (by assumption) ?_
            rotate_left
            · (intro w hSw; (try dsimp only at hSw); go_simp; try with_reducible rfl)
            try simp only [List.getElem_toArray, List.getElem_cons_zero, List.getElem_cons_succ, Act.put, List.setIfInBounds_toArray, List.set_cons_zero, List.set_cons_succ]
            refine wpAnyH_done (by kernel_rfl) ?_ _
            go_wp2_with fail
            go_meet
            first
              | exact ⟨_, _, _, rfl, rfl, (XN.out.setN (m : Int)).set _, (T4.out.bx XN.out 0 _).bx (XN.out.setN (m : Int)) 1 _, (Bw.out.setCell ho' _).setCell ho' _⟩
              | exact ⟨_, _, _, rfl, rfl, Bx.new _ _ _, T40.out.alloc _, Bw00.out.alloc ho' _⟩
        case rest =>
          clear x0 x1 y0 y1 z0 z1
          obtain ⟨o5, a8, c8, rfl, rfl, hbx, hin8, hb8⟩ := hcut
          obtain ⟨w8, rfl⟩ : ∃ w', w' = wc := ⟨_, rfl⟩
          have hz8 := hb8.size
          replace X := Lib.hid (X.out.next hb8 X.out.lt)
          replace Y := Lib.hid (Y.out.next hb8 Y.out.lt)
          replace Z := Lib.hid (Z.out.next hb8 Z.out.lt)
          replace I1 := Lib.hid (I1.out.below hb8 (Nat.le_refl _))
          replace I2 := Lib.hid (I2.out.below hb8 (Nat.le_refl _))
          replace IR := Lib.hid (IR.out.below hb8 (Nat.le_refl _))
          replace B := Lib.hid (B.out.trans (hb8.mono B.out.size))
          have U := Lib.hid hbx
          have IU := Lib.hid (hin8.mono (Nat.zero_le _))
          clear hin8 hb8 hbx XS
          have x0 := X.out.out.at0
          have x1 := X.out.out.at1
          have y0 := Y.out.out.at0
          have y1 := Y.out.out.at1
          have z0 := Z.out.out.at0
          have z1 := Z.out.out.at1
          have u0 := U.out.out.at0
          have u1 := U.out.out.at1
          go_wp2_with fail
          refine wp_region_held_drew (S := fun w' => w'.cell? ⟨o, 0, none⟩ = some (Value.int .i64 (m : Int)) ∧ w'.cell? ⟨o, 1, none⟩ = some (.slice a1 zs.length c1) ∧ w'.cell? ⟨p, 0, none⟩ = some (Value.int .i64 (m : Int)) ∧ w'.cell? ⟨p, 1, none⟩ = some (.slice b1 ys.length d1) ∧ w'.cell? ⟨o3, 0, none⟩ = some (Value.int .i64 (m : Int)) ∧ w'.cell? ⟨o3, 1, none⟩ = some (.slice a3 RL.length c3) ∧ w'.cell? ⟨o5, 0, none⟩ = some (Value.int .i64 (m : Int)) ∧ w'.cell? ⟨o5, 1, none⟩ = some (.slice a8 EL.length c8)) (by kernel_rfl) (by first | exact ⟨x0, x1, y0, y1, z0, z1, u0, u1⟩ | go_keep) (fun hHeld => ?_)
          refine wpAnyH_take (i := 0) (v := ?_) rfl (by kernel_rfl) (by kernel_rfl) (by kernel_rfl) (fun _ _ _ h => h) (Or.inl ⟨by rfl, ?_⟩) (by assumption) ?_
          rotate_left
          · (intro w hSw; (try dsimp only at hSw); go_simp; try with_reducible rfl)
          try simp only [List.getElem_toArray, List.getElem_cons_zero, Act.put, List.setIfInBounds_toArray, List.set_cons_zero, List.set_cons_succ]
          refine wpAnyH_take (i := 1) (v := ?_) rfl (by kernel_rfl) (by kernel_rfl) (by kernel_rfl) (fun _ _ _ h => h) (Or.inl ⟨by rfl, ?_⟩) (by assumption) ?_
          rotate_left
          · (intro w hSw; (try dsimp only at hSw); go_simp; try with_reducible rfl)
          try simp only [List.getElem_toArray, List.getElem_cons_zero, List.getElem_cons_succ, Act.put, List.setIfInBounds_toArray, List.set_cons_zero, List.set_cons_succ]
          refine wpAnyH_take (i := 2) (v := ?_) rfl (by kernel_rfl) (by kernel_rfl) (by kernel_rfl) (fun _ _ _ h => h) (Or.inl ⟨by rfl, ?_⟩) (by assumption) ?_
          rotate_left
          · (intro w hSw; (try dsimp only at hSw); go_simp; try with_reducible rfl)
          try simp only [List.getElem_toArray, List.getElem_cons_zero, List.getElem_cons_succ, Act.put, List.setIfInBounds_toArray, List.set_cons_zero, List.set_cons_succ]
          refine wpAnyH_take (i := 3) (v := ?_) rfl (by kernel_rfl) (by kernel_rfl) (by kernel_rfl) (fun _ _ _ h => h) (Or.inl ⟨by rfl, ?_⟩) (by assumption) ?_
          rotate_left
          · (intro w hSw; (try dsimp only at hSw); go_simp; try with_reducible rfl)
          try simp only [List.getElem_toArray, List.getElem_cons_zero, List.getElem_cons_succ, Act.put, List.setIfInBounds_toArray, List.set_cons_zero, List.set_cons_succ]
          refine wpAnyH_ready (rs := [4]) (by kernel_rfl) (by simp) ?_
          refine AllReadyH.cons rfl (fun K hK => ?_) AllReadyH.nil
          try simp only [List.getElem_toArray]
          go_simp
          (go_at_call 26; refine (HMA.out _ _ _ (by first | exact IR.out.rd | exact IR.out.rd.below (k := w8.heap.size) ((Below.refl _ _).drew) (Nat.le_refl _)) (by first | exact I1.out.rd | exact I1.out.rd.below (k := w8.heap.size) ((Below.refl _ _).drew) (Nat.le_refl _))).mono ?_; rintro e w99 ⟨rfl, hw99⟩; subst w99)
          refine hK.out _ _ (by first | exact ⟨x0, x1, y0, y1, z0, z1, u0, u1⟩ | go_keep) (fun hHeld => ?_)
          clear hK K
          try simp only [List.getElem_toArray, List.getElem_cons_zero, List.getElem_cons_succ, Act.put, List.setIfInBounds_toArray, List.set_cons_zero, List.set_cons_succ]
          refine wpAnyH_take (i := 5) (v := ?_) rfl (by kernel_rfl) (by kernel_rfl) (by kernel_rfl) (fun _ _ _ h => h) (Or.inl ⟨by rfl, ?_⟩) (by assumption) ?_
          rotate_left
          · (intro w hSw; (try dsimp only at hSw); go_simp; try with_reducible rfl)
          try simp only [List.getElem_toArray, List.getElem_cons_zero, List.getElem_cons_succ, Act.put, List.setIfInBounds_toArray, List.set_cons_zero, List.set_cons_succ]
          refine wpAnyH_take (i := 6) (v := ?_) rfl (by kernel_rfl) (by kernel_rfl) (by kernel_rfl) (fun _ _ _ h => h) (Or.inl ⟨by rfl, ?_⟩) (by assumption) ?_
          rotate_left
          · (intro w hSw; (try dsimp only at hSw); go_simp; try with_reducible rfl)
          try simp only [List.getElem_toArray, List.getElem_cons_zero, List.getElem_cons_succ, Act.put, List.setIfInBounds_toArray, List.set_cons_zero, List.set_cons_succ]
          refine wpAnyH_take (i := 7) (v := ?_) rfl (by kernel_rfl) (by kernel_rfl) (by kernel_rfl) (fun _ _ _ h => h) (Or.inl ⟨by rfl, ?_⟩) (by assumption) ?_
          rotate_left
          · (intro w hSw; (try dsimp only at hSw); go_simp; try with_reducible rfl)
          try simp only [List.getElem_toArray, List.getElem_cons_zero, List.getElem_cons_succ, Act.put, List.setIfInBounds_toArray, List.set_cons_zero, List.set_cons_succ]
          refine wpAnyH_take (i := 8) (v := ?_) rfl (by kernel_rfl) (by kernel_rfl) (by kernel_rfl) (fun _ _ _ h => h) (Or.inl ⟨by rfl, ?_⟩) (by assumption) ?_
          rotate_left
          · (intro w hSw; (try dsimp only at hSw); go_simp; try with_reducible rfl)
          try simp only [List.getElem_toArray, List.getElem_cons_zero, List.getElem_cons_succ, Act.put, List.setIfInBounds_toArray, List.set_cons_zero, List.set_cons_succ]
          refine wpAnyH_take (i := 9) (v := ?_) rfl (by kernel_rfl) (by kernel_rfl) (by kernel_rfl) (fun _ _ _ h => h) (Or.inl ⟨by rfl, ?_⟩) (by assumption) ?_
          rotate_left
          · (intro w hSw; (try dsimp only at hSw); go_simp; try with_reducible rfl)
          try simp only [List.getElem_toArray, List.getElem_cons_zero, List.getElem_cons_succ, Act.put, List.setIfInBounds_toArray, List.set_cons_zero, List.set_cons_succ]
          refine wpAnyH_ready (rs := [10]) (by kernel_rfl) (by simp) ?_
          refine AllReadyH.cons rfl (fun K hK => ?_) AllReadyH.nil
          try simp only [List.getElem_toArray]
          go_simp
          (go_at_call 26; refine (HMB.out _ _ _ (by first | exact IR.out.rd | exact IR.out.rd.below (k := w8.heap.size) ((Below.refl _ _).drew) (Nat.le_refl _)) (by first | exact I2.out.rd | exact I2.out.rd.below (k := w8.heap.size) ((Below.refl _ _).drew) (Nat.le_refl _))).mono ?_; rintro e w99 ⟨rfl, hw99⟩; subst w99)
          refine hK.out _ _ (by first | exact ⟨x0, x1, y0, y1, z0, z1, u0, u1⟩ | go_keep) (fun hHeld => ?_)
          clear hK K
          try simp only [List.getElem_toArray, List.getElem_cons_zero, List.getElem_cons_succ, Act.put, List.setIfInBounds_toArray, List.set_cons_zero, List.set_cons_succ]
          refine wpAnyH_take (i := 11) (v := ?_) rfl (by kernel_rfl) (by kernel_rfl) (by kernel_rfl) (fun _ _ _ h => h) (Or.inl ⟨by rfl, ?_⟩) (by assumption) ?_
          rotate_left
          · (intro w hSw; (try dsimp only at hSw); go_simp; try with_reducible rfl)
          try simp only [List.getElem_toArray, List.getElem_cons_zero, List.getElem_cons_succ, Act.put, List.setIfInBounds_toArray, List.set_cons_zero, List.set_cons_succ]
          refine wpAnyH_take (i := 12) (v := ?_) rfl (by kernel_rfl) (by kernel_rfl) (by kernel_rfl) (fun _ _ _ h => h) (Or.inl ⟨by rfl, ?_⟩) (by assumption) ?_
          rotate_left
          · (intro w hSw; (try dsimp only at hSw); go_simp; try with_reducible rfl)
          try simp only [List.getElem_toArray, List.getElem_cons_zero, List.getElem_cons_succ, Act.put, List.setIfInBounds_toArray, List.set_cons_zero, List.set_cons_succ]
          refine wpAnyH_take (i := 13) (v := ?_) rfl (by kernel_rfl) (by kernel_rfl) (by kernel_rfl) (fun _ _ _ h => h) (Or.inl ⟨by rfl, ?_⟩) (by assumption) ?_
          rotate_left
          · (intro w hSw; (try dsimp only at hSw); go_simp; try with_reducible rfl)
          try simp only [List.getElem_toArray, List.getElem_cons_zero, List.getElem_cons_succ, Act.put, List.setIfInBounds_toArray, List.set_cons_zero, List.set_cons_succ]
          refine wpAnyH_take (i := 14) (v := ?_) rfl (by kernel_rfl) (by kernel_rfl) (by kernel_rfl) (fun _ _ _ h => h) (Or.inl ⟨by rfl, ?_⟩) (by assumption) ?_
          rotate_left
          · (intro w hSw; (try dsimp only at hSw); go_simp; try with_reducible rfl)
          try simp only [List.getElem_toArray, List.getElem_cons_zero, List.getElem_cons_succ, Act.put, List.setIfInBounds_toArray, List.set_cons_zero, List.set_cons_succ]
          refine wpAnyH_take (i := 15) (v := ?_) rfl (by kernel_rfl) (by kernel_rfl) (by kernel_rfl) (fun _ _ _ h => h) (Or.inl ⟨by rfl, ?_⟩) (by assumption) ?_
          rotate_left
          · (intro w hSw; (try dsimp only at hSw); go_simp; try with_reducible rfl)
          try simp only [List.getElem_toArray, List.getElem_cons_zero, List.getElem_cons_succ, Act.put, List.setIfInBounds_toArray, List.set_cons_zero, List.set_cons_succ]
          refine wpAnyH_take (i := 16) (v := ?_) rfl (by kernel_rfl) (by kernel_rfl) (by kernel_rfl) (fun _ _ _ h => h) (Or.inl ⟨by rfl, ?_⟩) (by assumption) ?_
          rotate_left
          · (intro w hSw; (try dsimp only at hSw); go_simp; try with_reducible rfl)
          try simp only [List.getElem_toArray, List.getElem_cons_zero, List.getElem_cons_succ, Act.put, List.setIfInBounds_toArray, List.set_cons_zero, List.set_cons_succ]
          refine wpAnyH_take (i := 18) (v := ?_) rfl (by kernel_rfl) (by kernel_rfl) (by kernel_rfl) (fun _ _ _ h => h) (Or.inl ⟨by rfl, ?_⟩) (by assumption) ?_
          rotate_left
          · (intro w hSw; (try dsimp only at hSw); go_simp; try with_reducible rfl)
          try simp only [List.getElem_toArray, List.getElem_cons_zero, List.getElem_cons_succ, Act.put, List.setIfInBounds_toArray, List.set_cons_zero, List.set_cons_succ]
          refine wpAnyH_ready (rs := [17]) (by kernel_rfl) (by simp) ?_
          refine AllReadyH.cons rfl (fun K hK => ?_) AllReadyH.nil
          try simp only [List.getElem_toArray]
          go_simp
          (go_at_call 25; refine (HCR.out _ _ (by first | exact IR.out.rd | exact IR.out.rd.below (k := w8.heap.size) ((Below.refl _ _).drew) (Nat.le_refl _))).mono ?_; rintro e w9 ⟨a9, c9, rfl, hin9, hbd⟩; have hb9 : Below w8.heap.size w8 w9 := (by first | exact hbd | exact ⟨hbd.os, hbd.tape, hbd.output, hbd.size, hbd.block⟩); clear hbd; have hz9 := hb9.size; replace X := Lib.hid (X.out.next hb9 X.out.lt); replace Y := Lib.hid (Y.out.next hb9 Y.out.lt); replace Z := Lib.hid (Z.out.next hb9 Z.out.lt); replace U := Lib.hid (U.out.next hb9 U.out.lt); replace I1 := Lib.hid (I1.out.below hb9 (Nat.le_refl _)); replace I2 := Lib.hid (I2.out.below hb9 (Nat.le_refl _)); replace IR := Lib.hid (IR.out.below hb9 (Nat.le_refl _)); replace IU := Lib.hid (IU.out.below hb9 (Nat.le_refl _)); replace B := Lib.hid (B.out.trans (hb9.mono B.out.size)); have IE := Lib.hid (hin9.mono (Nat.zero_le _)); clear hin9; clear hb9; have x0_9 := X.out.out.at0; have x1_9 := X.out.out.at1; have y0_9 := Y.out.out.at0; have y1_9 := Y.out.out.at1; have z0_9 := Z.out.out.at0; have z1_9 := Z.out.out.at1; have u0_9 := U.out.out.at0; have u1_9 := U.out.out.at1)
          refine hK.out _ _ (by first | exact ⟨x0_9, x1_9, y0_9, y1_9, z0_9, z1_9, u0_9, u1_9⟩ | exact ⟨x0, x1, y0, y1, z0, z1, u0, u1⟩ | go_keep) (fun hHeld => ?_)
          clear hK K
          try simp only [List.getElem_toArray, List.getElem_cons_zero, List.getElem_cons_succ, Act.put, List.setIfInBounds_toArray, List.set_cons_zero, List.set_cons_succ]
          refine wpAnyH_ready (rs := [19]) (by kernel_rfl) (by simp) ?_
          refine AllReadyH.cons rfl (fun K hK => ?_) AllReadyH.nil
          try simp only [List.getElem_toArray]
          go_simp
          (go_at_call 20; refine (lawsEqualClass _ _ _ _ _ _ _ _ (by first | exact IE.out.rd | exact IE.out.rd.below (k := w9.heap.size) ((Below.refl _ _).drew) (Nat.le_refl _)) (by first | exact IU.out.rd | exact IU.out.rd.below (k := w9.heap.size) ((Below.refl _ _).drew) (Nat.le_refl _))).mono ?_; rintro e w10 ⟨rfl, hbd⟩; have hb10 : Below w9.heap.size w9 w10 := (by first | exact hbd | exact ⟨hbd.os, hbd.tape, hbd.output, hbd.size, hbd.block⟩); clear hbd; have hz10 := hb10.size; replace X := Lib.hid (X.out.next hb10 X.out.lt); replace Y := Lib.hid (Y.out.next hb10 Y.out.lt); replace Z := Lib.hid (Z.out.next hb10 Z.out.lt); replace U := Lib.hid (U.out.next hb10 U.out.lt); replace I1 := Lib.hid (I1.out.below hb10 (Nat.le_refl _)); replace I2 := Lib.hid (I2.out.below hb10 (Nat.le_refl _)); replace IR := Lib.hid (IR.out.below hb10 (Nat.le_refl _)); replace IU := Lib.hid (IU.out.below hb10 (Nat.le_refl _)); replace IE := Lib.hid (IE.out.below hb10 (Nat.le_refl _)); replace B := Lib.hid (B.out.trans (hb10.mono B.out.size)); clear hb10; have x0_10 := X.out.out.at0; have x1_10 := X.out.out.at1; have y0_10 := Y.out.out.at0; have y1_10 := Y.out.out.at1; have z0_10 := Z.out.out.at0; have z1_10 := Z.out.out.at1; have u0_10 := U.out.out.at0; have u1_10 := U.out.out.at1)
          refine hK.out _ _ (by first | exact ⟨x0_10, x1_10, y0_10, y1_10, z0_10, z1_10, u0_10, u1_10⟩ | exact ⟨x0_9, x1_9, y0_9, y1_9, z0_9, z1_9, u0_9, u1_9⟩ | exact ⟨x0, x1, y0, y1, z0, z1, u0, u1⟩ | go_keep) (fun hHeld => ?_)
          clear hK K
          try simp only [List.getElem_toArray, List.getElem_cons_zero, List.getElem_cons_succ, Act.put, List.setIfInBounds_toArray, List.set_cons_zero, List.set_cons_succ]
          refine wpAnyH_take (i := 20) (v := ?_) rfl (by kernel_rfl) (by kernel_rfl) (by kernel_rfl) (fun _ _ _ h => h) (Or.inl ⟨by rfl, ?_⟩) (by assumption) ?_
          rotate_left
          · (intro w hSw; (try dsimp only at hSw); go_simp; try with_reducible rfl)
          try simp only [List.getElem_toArray, List.getElem_cons_zero, List.getElem_cons_succ, Act.put, List.setIfInBounds_toArray, List.set_cons_zero, List.set_cons_succ]
          refine wpAnyH_take (i := 21) (v := ?_) rfl (by kernel_rfl) (by kernel_rfl) (by kernel_rfl) (fun _ _ _ h => h) (Or.inl ⟨by rfl, ?_⟩) (by assumption) ?_
          rotate_left
          · (intro w hSw; (try dsimp only at hSw); go_simp; try with_reducible rfl)
          try simp only [List.getElem_toArray, List.getElem_cons_zero, List.getElem_cons_succ, Act.put, List.setIfInBounds_toArray, List.set_cons_zero, List.set_cons_succ]
          refine wpAnyH_done (by kernel_rfl) ?_ _
          go_wp2_with fail
          go_ret
          exact ⟨rfl, B.out⟩
      · rw [Bool.not_eq_true] at hv
        have HI := Lib.hid (fun va vb w ha hb => implMeetClass N va zs M vb ys w ha hb)
        have HS := Lib.hid (fun va vb w ha hb => specMeetClass N va zs M vb ys w ha hb)
        rw [iaN_no hv, iaL_no hv, hv] at HI HS
        obtain ⟨RL, hRL⟩ : ∃ RL : List Int, RL = [] := ⟨_, rfl⟩
        rw [← hRL] at HI HS
        clear hRL hv
        have x0 := X.out.out.at0
        have x1 := X.out.out.at1
        have y0 := Y.out.out.at0
        have y1 := Y.out.out.at1
        go_wp2_with fail
        clear x0 x1 y0 y1
        refine (HI.out _ _ _ I1.out.rd I2.out.rd).mono ?_
        rintro e w3 ⟨a3, c3, rfl, hin3, hb3⟩
        have hz3 := hb3.size
        replace X := Lib.hid (X.out.next hb3 X.out.lt)
        replace Y := Lib.hid (Y.out.next hb3 Y.out.lt)
        replace I1 := Lib.hid (I1.out.below hb3 (Nat.le_refl _))
        replace I2 := Lib.hid (I2.out.below hb3 (Nat.le_refl _))
        replace B := Lib.hid (B.out.trans (hb3.mono B.out.size))
        have IR := Lib.hid (hin3.mono (Nat.zero_le _))
        clear hin3 hb3
        have Z := Lib.hid (Bx.new (0 : Int) (.slice a3 RL.length c3) w3)
        replace X := Lib.hid (X.out.alloc (Obj.cells #[.int .i64 (0 : Int), .slice a3 RL.length c3] 26))
        replace Y := Lib.hid (Y.out.alloc (Obj.cells #[.int .i64 (0 : Int), .slice a3 RL.length c3] 26))
        replace I1 := Lib.hid (I1.out.alloc (Obj.cells #[.int .i64 (0 : Int), .slice a3 RL.length c3] 26))
        replace I2 := Lib.hid (I2.out.alloc (Obj.cells #[.int .i64 (0 : Int), .slice a3 RL.length c3] 26))
        replace IR := Lib.hid (IR.out.alloc (Obj.cells #[.int .i64 (0 : Int), .slice a3 RL.length c3] 26))
        replace B := Lib.hid (B.out.alloc B.out.size (Obj.cells #[.int .i64 (0 : Int), .slice a3 RL.length c3] 26))
        have x0 := X.out.out.at0
        have x1 := X.out.out.at1
        have y0 := Y.out.out.at0
        have y1 := Y.out.out.at1
        go_wp2_with fail
        clear x0 x1 y0 y1
        generalize (w3.alloc (Obj.cells #[.int .i64 (0 : Int), .slice a3 RL.length c3] 26)) = w4 at *
        generalize ho3 : w3.heap.size = o3 at *
        refine (HS.out _ _ _ ⟨_, I1.out⟩ ⟨_, I2.out⟩).mono ?_
        rintro e w5 ⟨a5, c5, rfl, hin5, hb5⟩
        have hz5 := hb5.size
        replace X := Lib.hid (X.out.next hb5 X.out.lt)
        replace Y := Lib.hid (Y.out.next hb5 Y.out.lt)
        replace Z := Lib.hid (Z.out.next hb5 Z.out.lt)
        replace I1 := Lib.hid (I1.out.below hb5 (Nat.le_refl _))
        replace I2 := Lib.hid (I2.out.below hb5 (Nat.le_refl _))
        replace IR := Lib.hid (IR.out.below hb5 (Nat.le_refl _))
        replace B := Lib.hid (B.out.trans (hb5.mono B.out.size))
        have IS := Lib.hid (hin5.mono (Nat.zero_le _))
        clear hin5 hb5
        have V := Lib.hid (Bx.new (0 : Int) (.slice a5 RL.length c5) w5)
        replace X := Lib.hid (X.out.alloc (Obj.cells #[.int .i64 (0 : Int), .slice a5 RL.length c5] 26))
        replace Y := Lib.hid (Y.out.alloc (Obj.cells #[.int .i64 (0 : Int), .slice a5 RL.length c5] 26))
        replace Z := Lib.hid (Z.out.alloc (Obj.cells #[.int .i64 (0 : Int), .slice a5 RL.length c5] 26))
        replace I1 := Lib.hid (I1.out.alloc (Obj.cells #[.int .i64 (0 : Int), .slice a5 RL.length c5] 26))
        replace I2 := Lib.hid (I2.out.alloc (Obj.cells #[.int .i64 (0 : Int), .slice a5 RL.length c5] 26))
        replace IR := Lib.hid (IR.out.alloc (Obj.cells #[.int .i64 (0 : Int), .slice a5 RL.length c5] 26))
        replace IS := Lib.hid (IS.out.alloc (Obj.cells #[.int .i64 (0 : Int), .slice a5 RL.length c5] 26))
        replace B := Lib.hid (B.out.alloc B.out.size (Obj.cells #[.int .i64 (0 : Int), .slice a5 RL.length c5] 26))
        have x0 := X.out.out.at0
        have x1 := X.out.out.at1
        have y0 := Y.out.out.at0
        have y1 := Y.out.out.at1
        have z0 := Z.out.out.at0
        have z1 := Z.out.out.at1
        go_wp2_with fail
        clear x0 x1 y0 y1 z0 z1
        generalize (w5.alloc (Obj.cells #[.int .i64 (0 : Int), .slice a5 RL.length c5] 26)) = w6 at *
        generalize ho4 : w5.heap.size = o4 at *
        refine (lawsEqualClass _ _ _ _ _ _ _ _ IR.out.rd IS.out.rd).mono ?_
        rintro e w7 ⟨rfl, hb7⟩
        have hz7 := hb7.size
        replace X := Lib.hid (X.out.next hb7 X.out.lt)
        replace Y := Lib.hid (Y.out.next hb7 Y.out.lt)
        replace Z := Lib.hid (Z.out.next hb7 Z.out.lt)
        replace V := Lib.hid (V.out.next hb7 V.out.lt)
        replace I1 := Lib.hid (I1.out.below hb7 (Nat.le_refl _))
        replace I2 := Lib.hid (I2.out.below hb7 (Nat.le_refl _))
        replace IR := Lib.hid (IR.out.below hb7 (Nat.le_refl _))
        replace IS := Lib.hid (IS.out.below hb7 (Nat.le_refl _))
        replace B := Lib.hid (B.out.trans (hb7.mono B.out.size))
        clear hb7
        have x0 := X.out.out.at0
        have x1 := X.out.out.at1
        have y0 := Y.out.out.at0
        have y1 := Y.out.out.at1
        have z0 := Z.out.out.at0
        have z1 := Z.out.out.at1
        have v0 := V.out.out.at0
        have v1 := V.out.out.at1
        go_wp2_with fail
        clear x0 x1 y0 y1 z0 z1 v0 v1
        refine (lawsEqualClass _ _ _ _ _ _ _ _ IR.out.rd IS.out.rd).mono ?_
        rintro e w8 ⟨rfl, hb8⟩
        have hz8 := hb8.size
        replace X := Lib.hid (X.out.next hb8 X.out.lt)
        replace Y := Lib.hid (Y.out.next hb8 Y.out.lt)
        replace Z := Lib.hid (Z.out.next hb8 Z.out.lt)
        replace V := Lib.hid (V.out.next hb8 V.out.lt)
        replace I1 := Lib.hid (I1.out.below hb8 (Nat.le_refl _))
        replace I2 := Lib.hid (I2.out.below hb8 (Nat.le_refl _))
        replace IR := Lib.hid (IR.out.below hb8 (Nat.le_refl _))
        replace IS := Lib.hid (IS.out.below hb8 (Nat.le_refl _))
        replace B := Lib.hid (B.out.trans (hb8.mono B.out.size))
        clear hb8
        have x0 := X.out.out.at0
        have x1 := X.out.out.at1
        have y0 := Y.out.out.at0
        have y1 := Y.out.out.at1
        have z0 := Z.out.out.at0
        have z1 := Z.out.out.at1
        have v0 := V.out.out.at0
        have v1 := V.out.out.at1
        go_wp2_with fail
        clear x0 x1 y0 y1 z0 z1 v0 v1
        go_ret
        exact ⟨rfl, B.out⟩
  · go_enter Try.func6, Try.ntmps6
    go_wp2_with fail
    go_ret
    exact ⟨rfl, Below.refl _ _⟩

end Go.Proofs.Ytpcjecahplglfab
