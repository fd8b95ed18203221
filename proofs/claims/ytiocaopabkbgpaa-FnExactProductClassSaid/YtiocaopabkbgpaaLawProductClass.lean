/- FnExactProductClass's walk: the law answers true. Conditions: what its arguments' slices hold. -/
import Derived.Deep.Cut
import Derived.Deep.CutRange
import Derived.Deep.RegionHeld3
import Derived.Test.YtiocaopabkbgpaaBxl
import Derived.Test.YtiocaopabkbgpaaHeldC
import Derived.Test.YtiocaopabkbgpaaProdS
namespace Go.Proofs.Ytiocaopabkbgpaa
open Go.RowKit

set_option maxHeartbeats 12800000 in
set_option maxRecDepth 100000 in
theorem walkExactProductClass (na : Int) (va : Value) (xs : List Int) (nb : Int) (vb : Value) (ys : List Int) (w : World) (ha : Rd w va xs) (hb : Rd w vb ys) :
    Calls Try.prog 5 #[.agg #[.int .i64 na, va], .agg #[.int .i64 nb, vb]] w fun e w' => e = .returned (.bool true) ∧ Below w.heap.size w w' := by
  have HA := Lib.hid ha
  have HB := Lib.hid hb
  obtain ⟨a, _, _, ca, rfl, _, ha3, _⟩ := ha
  obtain ⟨b, _, _, cb, rfl, _, hb3, _⟩ := hb
  have B := Lib.hid (show Below w.heap.size w ((w.alloc (Obj.cells #[.int .i64 na, .slice a xs.length ca] 35)).alloc (Obj.cells #[.int .i64 nb, .slice b ys.length cb] 35)) from (((Below.refl _ _).alloc (Nat.le_refl _) _).alloc (by simp) _))
  have HZ := Lib.hid (show ((w.alloc (Obj.cells #[.int .i64 na, .slice a xs.length ca] 35)).alloc (Obj.cells #[.int .i64 nb, .slice b ys.length cb] 35)).heap.size = w.heap.size + 2 by simp)
  have XA := Lib.hid (show Bxl na (.slice a xs.length ca) w.heap.size ((w.alloc (Obj.cells #[.int .i64 na, .slice a xs.length ca] 35)).alloc (Obj.cells #[.int .i64 nb, .slice b ys.length cb] 35)) from (Bxl.new na (.slice a xs.length ca) w).alloc _)
  have XB := Lib.hid (show Bxl nb (.slice b ys.length cb) (w.heap.size + 1) ((w.alloc (Obj.cells #[.int .i64 na, .slice a xs.length ca] 35)).alloc (Obj.cells #[.int .i64 nb, .slice b ys.length cb] 35)) from heap_alloc_at (by simp))
  by_cases hsz : xs.length ≤ 1048576
  · have HL := Lib.hid (show left' 1048576 xs.length = 1048576 - xs.length by rw [left', if_neg (by omega)])
    by_cases hsy' : ys.length ≤ 1048576 - xs.length
    · have HL2 := Lib.hid (show left' (1048576 - (xs.length : Int)) ys.length = 1048576 - (xs.length : Int) - ys.length by rw [left', if_neg (by omega)])
      have hsy : ys.length ≤ 1048576 := by omega
      have hR := pdL_len na xs nb ys
      have HS := Lib.hid (fun va vb w ha hb => specProductClass na va xs nb vb ys w ha hb)
      have HI := Lib.hid (fun va vb w ha hb => implProductClass na va xs nb vb ys w ha hb)
      generalize pdL na xs nb ys = R at *
      generalize pdN na xs nb ys = N at *
      generalize twoP na xs nb ys = K at *
      go_enter Try.func5, Try.ntmps5
      go_wp2_with fail
      generalize ((w.alloc (Obj.cells #[.int .i64 na, .slice a xs.length ca] 35)).alloc (Obj.cells #[.int .i64 nb, .slice b ys.length cb] 35)) = w0 at *
      have hz0 := HZ.out
      clear HZ
      generalize hoB : w.heap.size + 1 = oB at *
      refine (szClass _ _ _ _ _ _ (by omega) (by omega) ha3).mono ?_
      rintro e w1 ⟨rfl, hb1⟩
      rw [HL.out]
      have hz1 := hb1.size
      replace XA := Lib.hid (XA.out.next hb1 XA.out.lt)
      replace XB := Lib.hid (XB.out.next hb1 XB.out.lt)
      replace B := Lib.hid (B.out.trans (hb1.mono B.out.size))
      clear hb1
      have xa0 := XA.out.out.at0
      have xa1 := XA.out.out.at1
      have xb0 := XB.out.out.at0
      have xb1 := XB.out.out.at1
      go_wp2_with fail
      clear xa0 xa1 xb0 xb1
      refine (szClass _ _ _ _ _ _ (by omega) (by omega) hb3).mono ?_
      rintro e w2 ⟨rfl, hb2⟩
      rw [HL2.out]
      have hz2 := hb2.size
      replace XA := Lib.hid (XA.out.next hb2 XA.out.lt)
      replace XB := Lib.hid (XB.out.next hb2 XB.out.lt)
      replace B := Lib.hid (B.out.trans (hb2.mono B.out.size))
      clear hb2
      have HAW := Lib.hid (HA.out.below B.out (Nat.le_refl _))
      have HBW := Lib.hid (HB.out.below B.out (Nat.le_refl _))
      have XS := Lib.hid (show ∀ w', Below w2.heap.size w2 w' → (fun w' => w'.cell? ⟨w.heap.size, 0, none⟩ = some (Value.int .i64 na) ∧ w'.cell? ⟨w.heap.size, 1, none⟩ = some (.slice a xs.length ca) ∧ w'.cell? ⟨oB, 0, none⟩ = some (Value.int .i64 nb) ∧ w'.cell? ⟨oB, 1, none⟩ = some (.slice b ys.length cb)) w' from fun w' hb => ⟨(XA.out.next hb XA.out.lt).out.at0, (XA.out.next hb XA.out.lt).out.at1, (XB.out.next hb XB.out.lt).out.at0, (XB.out.next hb XB.out.lt).out.at1⟩)
      have xa0 := XA.out.out.at0
      have xa1 := XA.out.out.at1
      have xb0 := XB.out.out.at0
      have xb1 := XB.out.out.at1
      go_upto_region 8 with (fail)
      go_cut [6, 7] from 27 to 34 (fun p q wq => ∃ o a' c', p = .pointer (some ⟨o, 0, none⟩) ∧ q = .bool K ∧ Bx N (.slice a' R.length c') o wq ∧ Ints w2.heap.size wq (.slice a' R.length c') R ∧ Below w2.heap.size w2 wq)
      case first =>
        clear xa0 xa1 xb0 xb1
        have Bw := Lib.hid (show Below w2.heap.size w2 w2.drew from (Below.refl _ _).drew)
        have Bw00 := Lib.hid Bw.out
        refine wp_region_held_drew (S := fun w' => w'.cell? ⟨w.heap.size, 0, none⟩ = some (Value.int .i64 na) ∧ w'.cell? ⟨w.heap.size, 1, none⟩ = some (.slice a xs.length ca) ∧ w'.cell? ⟨oB, 0, none⟩ = some (Value.int .i64 nb) ∧ w'.cell? ⟨oB, 1, none⟩ = some (.slice b ys.length cb)) (by kernel_rfl) (by exact XS.out _ Bw.out) (fun hHeld => ?_)
        generalize w2.drew = v0 at *
        refine wpAnyH_take (i := 0) (v := ?_) rfl (by kernel_rfl) (by kernel_rfl) (by kernel_rfl) (fun _ _ _ h => h) (Or.inl ⟨by rfl, ?_⟩) (by assumption) ?_
        rotate_left
        · (intro w hSw; (try dsimp only at hSw); go_simp; try with_reducible rfl)
        try simp only [List.getElem_toArray, List.getElem_cons_zero, Act.put, List.setIfInBounds_toArray, List.set_cons_zero, List.set_cons_succ]
        refine wpAnyH_take (i := 2) (v := ?_) rfl (by kernel_rfl) (by kernel_rfl) (by kernel_rfl) (fun _ _ _ h => h) (Or.inl ⟨by rfl, ?_⟩) (by assumption) ?_
        rotate_left
        · (intro w hSw; (try dsimp only at hSw); go_simp; try with_reducible rfl)
        try simp only [List.getElem_toArray, List.getElem_cons_zero, List.getElem_cons_succ, Act.put, List.setIfInBounds_toArray, List.set_cons_zero, List.set_cons_succ]
        refine wpAnyH_ready (rs := [1, 8]) (by kernel_rfl) (by simp) ?_
        refine AllReadyH.cons rfl (fun K hK => ?_) (AllReadyH.cons rfl (fun K hK => ?_) AllReadyH.nil)
        · skip
          try simp only [List.getElem_toArray]
          go_simp
          refine (toClass na _ xs _ (HAW.out.below Bw.out (Nat.le_refl _)) hsz).mono ?_
          rintro e v1 ⟨a1, c1, rfl, hin1, hb1⟩
          have Bw1_ := Lib.hid Bw.out
          replace Bw := Lib.hid (Bw.out.trans (hb1.mono Bw.out.size))
          have Bw00 := Lib.hid Bw.out
          have T1 := Lib.hid (hin1.mono (Nat.zero_le _))
          clear hin1 hb1
          refine hK.out _ _ (by first | exact XS.out _ Bw.out | exact XS.out _ ((Bw.out.setCell ho _).setCell ho _) | exact XS.out _ (Bw00.out.alloc ho _)) (fun hHeld => ?_)
          clear hK K
          try simp only [List.getElem_toArray, List.getElem_cons_zero, List.getElem_cons_succ, Act.put, List.setIfInBounds_toArray, List.set_cons_zero, List.set_cons_succ]
          refine wpAnyH_ready (rs := [3, 8]) (by kernel_rfl) (by simp) ?_
          refine AllReadyH.cons rfl (fun K hK => ?_) (AllReadyH.cons rfl (fun K hK => ?_) AllReadyH.nil)
          · skip
            try simp only [List.getElem_toArray]
            go_simp
            refine (toClass nb _ ys _ (HBW.out.below Bw.out (Nat.le_refl _)) hsy).mono ?_
            rintro e v2 ⟨a2, c2, rfl, hin2, hb2⟩
            replace T1 := Lib.hid (T1.out.below hb2 (Nat.le_refl _))
            have Bw2_ := Lib.hid Bw.out
            replace Bw := Lib.hid (Bw.out.trans (hb2.mono Bw.out.size))
            have Bw00 := Lib.hid Bw.out
            have T3 := Lib.hid (hin2.mono (Nat.zero_le _))
            clear hin2 hb2
            refine hK.out _ _ (by first | exact XS.out _ Bw.out | exact XS.out _ ((Bw.out.setCell ho _).setCell ho _) | exact XS.out _ (Bw00.out.alloc ho _)) (fun hHeld => ?_)
            clear hK K
            try simp only [List.getElem_toArray, List.getElem_cons_zero, List.getElem_cons_succ, Act.put, List.setIfInBounds_toArray, List.set_cons_zero, List.set_cons_succ]
            refine wpAnyH_ready (rs := [4, 8]) (by kernel_rfl) (by simp) ?_
            refine AllReadyH.cons rfl (fun K hK => ?_) (AllReadyH.cons rfl (fun K hK => ?_) AllReadyH.nil)
            · skip
              try simp only [List.getElem_toArray]
              go_simp
              refine (HS.out _ _ _ ⟨_, T1.out⟩ ⟨_, T3.out⟩).mono ?_
              rintro e v3 ⟨a3, c3, rfl, hin3, hb3⟩
              replace T1 := Lib.hid (T1.out.below hb3 (Nat.le_refl _))
              replace T3 := Lib.hid (T3.out.below hb3 (Nat.le_refl _))
              have Bw3_ := Lib.hid Bw.out
              replace Bw := Lib.hid (Bw.out.trans (hb3.mono Bw.out.size))
              have Bw00 := Lib.hid Bw.out
              have T4 := Lib.hid (hin3.mono (B' := w2.heap.size) Bw3_.out.size)
              clear hin3 hb3
              refine hK.out _ _ (by first | exact XS.out _ Bw.out | exact XS.out _ ((Bw.out.setCell ho _).setCell ho _) | exact XS.out _ (Bw00.out.alloc ho _)) (fun hHeld => ?_)
              clear hK K
              try simp only [List.getElem_toArray, List.getElem_cons_zero, List.getElem_cons_succ, Act.put, List.setIfInBounds_toArray, List.set_cons_zero, List.set_cons_succ]
              refine wpAnyH_take (i := 5) (v := ?_) rfl (by kernel_rfl) (by kernel_rfl) (by kernel_rfl) (fun _ _ _ h => h) (Or.inl ⟨by rfl, ?_⟩) (by assumption) ?_
              rotate_left
              · (intro w hSw; (try dsimp only at hSw); go_simp; try with_reducible rfl)
              try simp only [List.getElem_toArray, List.getElem_cons_zero, List.getElem_cons_succ, Act.put, List.setIfInBounds_toArray, List.set_cons_zero, List.set_cons_succ]
              refine wpAnyH_take (i := 6) (v := ?_) rfl (by kernel_rfl) (by kernel_rfl) (by kernel_rfl) (fun _ _ _ h => h) (Or.inl ⟨by rfl, ?_⟩) (by assumption) ?_
              rotate_left
              · (intro w hSw; (try dsimp only at hSw); go_simp; try with_reducible rfl)
              try simp only [List.getElem_toArray, List.getElem_cons_zero, List.getElem_cons_succ, Act.put, List.setIfInBounds_toArray, List.set_cons_zero, List.set_cons_succ]
              refine wpAnyH_take (i := 7) (v := ?_) rfl (by kernel_rfl) (by kernel_rfl) (by kernel_rfl) (fun _ _ _ h => h) (Or.inl ⟨by rfl, ?_⟩) (by assumption) ?_
              rotate_left
              · (intro w hSw; (try dsimp only at hSw); go_simp; try with_reducible rfl)
              try simp only [List.getElem_toArray, List.getElem_cons_zero, List.getElem_cons_succ, Act.put, List.setIfInBounds_toArray, List.set_cons_zero, List.set_cons_succ]
              refine wpAnyH_ready (rs := [8]) (by kernel_rfl) (by simp) ?_
              refine AllReadyH.cons rfl (fun K hK => ?_) AllReadyH.nil
              have T40 := Lib.hid T4.out
              try simp only [List.getElem_toArray]
              have X := Lib.hid (Bx.new 0 (.slice none 0 0) v3)
              have ho : w2.heap.size ≤ v3.heap.size := Bw.out.size
              replace T1 := Lib.hid (T1.out.alloc (Obj.cells #[.int .i64 0, .slice none 0 0] 25))
              replace T3 := Lib.hid (T3.out.alloc (Obj.cells #[.int .i64 0, .slice none 0 0] 25))
              replace T4 := Lib.hid (T4.out.alloc (Obj.cells #[.int .i64 0, .slice none 0 0] 25))
              replace Bw := Lib.hid (Bw.out.alloc Bw.out.size (Obj.cells #[.int .i64 0, .slice none 0 0] 25))
              go_simp
              refine hK.out _ _ (by first | exact XS.out _ Bw.out | exact XS.out _ ((Bw.out.setCell ho _).setCell ho _) | exact XS.out _ (Bw00.out.alloc ho _)) (fun hHeld => ?_)
              clear hK K
              try simp only [List.getElem_toArray, List.getElem_cons_zero, List.getElem_cons_succ, Act.put, List.setIfInBounds_toArray, List.set_cons_zero, List.set_cons_succ]
              refine wpAnyH_ready (rs := [9]) (by kernel_rfl) (by simp) ?_
              refine AllReadyH.cons rfl (fun K hK => ?_) AllReadyH.nil
              try simp only [List.getElem_toArray]
              have x0 := X.out.out.at0
              have x1 := X.out.out.at1
              have q0 := X.out.out.free0
              have q1 := X.out.out.free1
              go_simp
              clear x0 x1 q0 q1
              refine hK.out _ _ (by first | exact XS.out _ Bw.out | exact XS.out _ ((Bw.out.setCell ho _).setCell ho _) | exact XS.out _ (Bw00.out.alloc ho _)) (fun hHeld => ?_)
              clear hK K
              try simp only [List.getElem_toArray, List.getElem_cons_zero, List.getElem_cons_succ, Act.put, List.setIfInBounds_toArray, List.set_cons_zero, List.set_cons_succ]
              refine wpAnyH_take (i := 10) (v := ?_) rfl (by kernel_rfl) (by kernel_rfl) (by kernel_rfl) (fun _ _ _ h => h) (Or.inl ⟨by rfl, ?_⟩) (by assumption) ?_
              rotate_left
              · (intro w hSw; (try dsimp only at hSw); go_simp; try with_reducible rfl)
              try simp only [List.getElem_toArray, List.getElem_cons_zero, List.getElem_cons_succ, Act.put, List.setIfInBounds_toArray, List.set_cons_zero, List.set_cons_succ]
              refine wpAnyH_done (by kernel_rfl) ?_ _
              go_wp2_with fail
              go_meet
              first
                | exact ⟨_, _, _, rfl, rfl, (X.out.setN N).set _, (T4.out.bx X.out 0 _).bx (X.out.setN N) 1 _, (Bw.out.setCell ho _).setCell ho _⟩
                | exact ⟨_, _, _, rfl, rfl, Bx.new _ _ _, T40.out.alloc _, Bw00.out.alloc ho _⟩
            · skip
              try simp only [List.getElem_toArray]
              have X := Lib.hid (Bx.new 0 (.slice none 0 0) v2)
              have ho : w2.heap.size ≤ v2.heap.size := Bw.out.size
              replace T1 := Lib.hid (T1.out.alloc (Obj.cells #[.int .i64 0, .slice none 0 0] 25))
              replace T3 := Lib.hid (T3.out.alloc (Obj.cells #[.int .i64 0, .slice none 0 0] 25))
              replace Bw := Lib.hid (Bw.out.alloc Bw.out.size (Obj.cells #[.int .i64 0, .slice none 0 0] 25))
              go_simp
              refine hK.out _ _ (by first | exact XS.out _ Bw.out | exact XS.out _ ((Bw.out.setCell ho _).setCell ho _) | exact XS.out _ (Bw00.out.alloc ho _)) (fun hHeld => ?_)
              clear hK K
              try simp only [List.getElem_toArray, List.getElem_cons_zero, List.getElem_cons_succ, Act.put, List.setIfInBounds_toArray, List.set_cons_zero, List.set_cons_succ]
              refine wpAnyH_ready (rs := [4]) (by kernel_rfl) (by simp) ?_
              refine AllReadyH.cons rfl (fun K hK => ?_) AllReadyH.nil
              try simp only [List.getElem_toArray]
              go_simp
              refine (HS.out _ _ _ ⟨_, T1.out⟩ ⟨_, T3.out⟩).mono ?_
              rintro e v7 ⟨a7, c7, rfl, hin7, hb7⟩
              replace X := Lib.hid (X.out.next hb7 X.out.lt)
              replace T1 := Lib.hid (T1.out.below hb7 (Nat.le_refl _))
              replace T3 := Lib.hid (T3.out.below hb7 (Nat.le_refl _))
              have Bw7_ := Lib.hid Bw.out
              replace Bw := Lib.hid (Bw.out.trans (hb7.mono Bw.out.size))
              have Bw00 := Lib.hid Bw.out
              have T4 := Lib.hid (hin7.mono (B' := w2.heap.size) Bw7_.out.size)
              clear hin7 hb7
              refine hK.out _ _ (by first | exact XS.out _ Bw.out | exact XS.out _ ((Bw.out.setCell ho _).setCell ho _) | exact XS.out _ (Bw00.out.alloc ho _)) (fun hHeld => ?_)
              clear hK K
              try simp only [List.getElem_toArray, List.getElem_cons_zero, List.getElem_cons_succ, Act.put, List.setIfInBounds_toArray, List.set_cons_zero, List.set_cons_succ]
              refine wpAnyH_take (i := 5) (v := ?_) rfl (by kernel_rfl) (by kernel_rfl) (by kernel_rfl) (fun _ _ _ h => h) (Or.inl ⟨by rfl, ?_⟩) (by assumption) ?_
              rotate_left
              · (intro w hSw; (try dsimp only at hSw); go_simp; try with_reducible rfl)
              try simp only [List.getElem_toArray, List.getElem_cons_zero, List.getElem_cons_succ, Act.put, List.setIfInBounds_toArray, List.set_cons_zero, List.set_cons_succ]
              refine wpAnyH_take (i := 6) (v := ?_) rfl (by kernel_rfl) (by kernel_rfl) (by kernel_rfl) (fun _ _ _ h => h) (Or.inl ⟨by rfl, ?_⟩) (by assumption) ?_
              rotate_left
              · (intro w hSw; (try dsimp only at hSw); go_simp; try with_reducible rfl)
              try simp only [List.getElem_toArray, List.getElem_cons_zero, List.getElem_cons_succ, Act.put, List.setIfInBounds_toArray, List.set_cons_zero, List.set_cons_succ]
              refine wpAnyH_take (i := 7) (v := ?_) rfl (by kernel_rfl) (by kernel_rfl) (by kernel_rfl) (fun _ _ _ h => h) (Or.inl ⟨by rfl, ?_⟩) (by assumption) ?_
              rotate_left
              · (intro w hSw; (try dsimp only at hSw); go_simp; try with_reducible rfl)
              try simp only [List.getElem_toArray, List.getElem_cons_zero, List.getElem_cons_succ, Act.put, List.setIfInBounds_toArray, List.set_cons_zero, List.set_cons_succ]
              refine wpAnyH_ready (rs := [9]) (by kernel_rfl) (by simp) ?_
              refine AllReadyH.cons rfl (fun K hK => ?_) AllReadyH.nil
              try simp only [List.getElem_toArray]
              have x0 := X.out.out.at0
              have x1 := X.out.out.at1
              have q0 := X.out.out.free0
              have q1 := X.out.out.free1
              go_simp
              clear x0 x1 q0 q1
              refine hK.out _ _ (by first | exact XS.out _ Bw.out | exact XS.out _ ((Bw.out.setCell ho _).setCell ho _) | exact XS.out _ (Bw00.out.alloc ho _)) (fun hHeld => ?_)
              clear hK K
              try simp only [List.getElem_toArray, List.getElem_cons_zero, List.getElem_cons_succ, Act.put, List.setIfInBounds_toArray, List.set_cons_zero, List.set_cons_succ]
              refine wpAnyH_take (i := 10) (v := ?_) rfl (by kernel_rfl) (by kernel_rfl) (by kernel_rfl) (fun _ _ _ h => h) (Or.inl ⟨by rfl, ?_⟩) (by assumption) ?_
              rotate_left
              · (intro w hSw; (try dsimp only at hSw); go_simp; try with_reducible rfl)
              try simp only [List.getElem_toArray, List.getElem_cons_zero, List.getElem_cons_succ, Act.put, List.setIfInBounds_toArray, List.set_cons_zero, List.set_cons_succ]
              refine wpAnyH_done (by kernel_rfl) ?_ _
              go_wp2_with fail
              go_meet
              first
                | exact ⟨_, _, _, rfl, rfl, (X.out.setN N).set _, (T4.out.bx X.out 0 _).bx (X.out.setN N) 1 _, (Bw.out.setCell ho _).setCell ho _⟩
                | exact ⟨_, _, _, rfl, rfl, Bx.new _ _ _, T40.out.alloc _, Bw00.out.alloc ho _⟩
          · skip
            try simp only [List.getElem_toArray]
            have X := Lib.hid (Bx.new 0 (.slice none 0 0) v1)
            have ho : w2.heap.size ≤ v1.heap.size := Bw.out.size
            replace T1 := Lib.hid (T1.out.alloc (Obj.cells #[.int .i64 0, .slice none 0 0] 25))
            replace Bw := Lib.hid (Bw.out.alloc Bw.out.size (Obj.cells #[.int .i64 0, .slice none 0 0] 25))
            go_simp
            refine hK.out _ _ (by first | exact XS.out _ Bw.out | exact XS.out _ ((Bw.out.setCell ho _).setCell ho _) | exact XS.out _ (Bw00.out.alloc ho _)) (fun hHeld => ?_)
            clear hK K
            try simp only [List.getElem_toArray, List.getElem_cons_zero, List.getElem_cons_succ, Act.put, List.setIfInBounds_toArray, List.set_cons_zero, List.set_cons_succ]
            refine wpAnyH_ready (rs := [3]) (by kernel_rfl) (by simp) ?_
            refine AllReadyH.cons rfl (fun K hK => ?_) AllReadyH.nil
            try simp only [List.getElem_toArray]
            go_simp
            refine (toClass nb _ ys _ (HBW.out.below Bw.out (Nat.le_refl _)) hsy).mono ?_
            rintro e v10 ⟨a10, c10, rfl, hin10, hb10⟩
            replace X := Lib.hid (X.out.next hb10 X.out.lt)
            replace T1 := Lib.hid (T1.out.below hb10 (Nat.le_refl _))
            have Bw10_ := Lib.hid Bw.out
            replace Bw := Lib.hid (Bw.out.trans (hb10.mono Bw.out.size))
            have Bw00 := Lib.hid Bw.out
            have T3 := Lib.hid (hin10.mono (Nat.zero_le _))
            clear hin10 hb10
            refine hK.out _ _ (by first | exact XS.out _ Bw.out | exact XS.out _ ((Bw.out.setCell ho _).setCell ho _) | exact XS.out _ (Bw00.out.alloc ho _)) (fun hHeld => ?_)
            clear hK K
            try simp only [List.getElem_toArray, List.getElem_cons_zero, List.getElem_cons_succ, Act.put, List.setIfInBounds_toArray, List.set_cons_zero, List.set_cons_succ]
            refine wpAnyH_ready (rs := [4]) (by kernel_rfl) (by simp) ?_
            refine AllReadyH.cons rfl (fun K hK => ?_) AllReadyH.nil
            try simp only [List.getElem_toArray]
            go_simp
            refine (HS.out _ _ _ ⟨_, T1.out⟩ ⟨_, T3.out⟩).mono ?_
            rintro e v11 ⟨a11, c11, rfl, hin11, hb11⟩
            replace X := Lib.hid (X.out.next hb11 X.out.lt)
            replace T1 := Lib.hid (T1.out.below hb11 (Nat.le_refl _))
            replace T3 := Lib.hid (T3.out.below hb11 (Nat.le_refl _))
            have Bw11_ := Lib.hid Bw.out
            replace Bw := Lib.hid (Bw.out.trans (hb11.mono Bw.out.size))
            have Bw00 := Lib.hid Bw.out
            have T4 := Lib.hid (hin11.mono (B' := w2.heap.size) Bw11_.out.size)
            clear hin11 hb11
            refine hK.out _ _ (by first | exact XS.out _ Bw.out | exact XS.out _ ((Bw.out.setCell ho _).setCell ho _) | exact XS.out _ (Bw00.out.alloc ho _)) (fun hHeld => ?_)
            clear hK K
            try simp only [List.getElem_toArray, List.getElem_cons_zero, List.getElem_cons_succ, Act.put, List.setIfInBounds_toArray, List.set_cons_zero, List.set_cons_succ]
            refine wpAnyH_take (i := 5) (v := ?_) rfl (by kernel_rfl) (by kernel_rfl) (by kernel_rfl) (fun _ _ _ h => h) (Or.inl ⟨by rfl, ?_⟩) (by assumption) ?_
            rotate_left
            · (intro w hSw; (try dsimp only at hSw); go_simp; try with_reducible rfl)
            try simp only [List.getElem_toArray, List.getElem_cons_zero, List.getElem_cons_succ, Act.put, List.setIfInBounds_toArray, List.set_cons_zero, List.set_cons_succ]
            refine wpAnyH_take (i := 6) (v := ?_) rfl (by kernel_rfl) (by kernel_rfl) (by kernel_rfl) (fun _ _ _ h => h) (Or.inl ⟨by rfl, ?_⟩) (by assumption) ?_
            rotate_left
            · (intro w hSw; (try dsimp only at hSw); go_simp; try with_reducible rfl)
            try simp only [List.getElem_toArray, List.getElem_cons_zero, List.getElem_cons_succ, Act.put, List.setIfInBounds_toArray, List.set_cons_zero, List.set_cons_succ]
            refine wpAnyH_take (i := 7) (v := ?_) rfl (by kernel_rfl) (by kernel_rfl) (by kernel_rfl) (fun _ _ _ h => h) (Or.inl ⟨by rfl, ?_⟩) (by assumption) ?_
            rotate_left
            · (intro w hSw; (try dsimp only at hSw); go_simp; try with_reducible rfl)
            try simp only [List.getElem_toArray, List.getElem_cons_zero, List.getElem_cons_succ, Act.put, List.setIfInBounds_toArray, List.set_cons_zero, List.set_cons_succ]
            refine wpAnyH_ready (rs := [9]) (by kernel_rfl) (by simp) ?_
            refine AllReadyH.cons rfl (fun K hK => ?_) AllReadyH.nil
            try simp only [List.getElem_toArray]
            have x0 := X.out.out.at0
            have x1 := X.out.out.at1
            have q0 := X.out.out.free0
            have q1 := X.out.out.free1
            go_simp
            clear x0 x1 q0 q1
            refine hK.out _ _ (by first | exact XS.out _ Bw.out | exact XS.out _ ((Bw.out.setCell ho _).setCell ho _) | exact XS.out _ (Bw00.out.alloc ho _)) (fun hHeld => ?_)
            clear hK K
            try simp only [List.getElem_toArray, List.getElem_cons_zero, List.getElem_cons_succ, Act.put, List.setIfInBounds_toArray, List.set_cons_zero, List.set_cons_succ]
            refine wpAnyH_take (i := 10) (v := ?_) rfl (by kernel_rfl) (by kernel_rfl) (by kernel_rfl) (fun _ _ _ h => h) (Or.inl ⟨by rfl, ?_⟩) (by assumption) ?_
            rotate_left
            · (intro w hSw; (try dsimp only at hSw); go_simp; try with_reducible rfl)
            try simp only [List.getElem_toArray, List.getElem_cons_zero, List.getElem_cons_succ, Act.put, List.setIfInBounds_toArray, List.set_cons_zero, List.set_cons_succ]
            refine wpAnyH_done (by kernel_rfl) ?_ _
            go_wp2_with fail
            go_meet
            first
              | exact ⟨_, _, _, rfl, rfl, (X.out.setN N).set _, (T4.out.bx X.out 0 _).bx (X.out.setN N) 1 _, (Bw.out.setCell ho _).setCell ho _⟩
              | exact ⟨_, _, _, rfl, rfl, Bx.new _ _ _, T40.out.alloc _, Bw00.out.alloc ho _⟩
        · skip
          try simp only [List.getElem_toArray]
          have X := Lib.hid (Bx.new 0 (.slice none 0 0) v0)
          have ho : w2.heap.size ≤ v0.heap.size := Bw.out.size
          replace Bw := Lib.hid (Bw.out.alloc Bw.out.size (Obj.cells #[.int .i64 0, .slice none 0 0] 25))
          go_simp
          refine hK.out _ _ (by first | exact XS.out _ Bw.out | exact XS.out _ ((Bw.out.setCell ho _).setCell ho _) | exact XS.out _ (Bw00.out.alloc ho _)) (fun hHeld => ?_)
          clear hK K
          try simp only [List.getElem_toArray, List.getElem_cons_zero, List.getElem_cons_succ, Act.put, List.setIfInBounds_toArray, List.set_cons_zero, List.set_cons_succ]
          refine wpAnyH_ready (rs := [1]) (by kernel_rfl) (by simp) ?_
          refine AllReadyH.cons rfl (fun K hK => ?_) AllReadyH.nil
          try simp only [List.getElem_toArray]
          go_simp
          refine (toClass na _ xs _ (HAW.out.below Bw.out (Nat.le_refl _)) hsz).mono ?_
          rintro e v14 ⟨a14, c14, rfl, hin14, hb14⟩
          replace X := Lib.hid (X.out.next hb14 X.out.lt)
          have Bw14_ := Lib.hid Bw.out
          replace Bw := Lib.hid (Bw.out.trans (hb14.mono Bw.out.size))
          have Bw00 := Lib.hid Bw.out
          have T1 := Lib.hid (hin14.mono (Nat.zero_le _))
          clear hin14 hb14
          refine hK.out _ _ (by first | exact XS.out _ Bw.out | exact XS.out _ ((Bw.out.setCell ho _).setCell ho _) | exact XS.out _ (Bw00.out.alloc ho _)) (fun hHeld => ?_)
          clear hK K
          try simp only [List.getElem_toArray, List.getElem_cons_zero, List.getElem_cons_succ, Act.put, List.setIfInBounds_toArray, List.set_cons_zero, List.set_cons_succ]
          refine wpAnyH_ready (rs := [3]) (by kernel_rfl) (by simp) ?_
          refine AllReadyH.cons rfl (fun K hK => ?_) AllReadyH.nil
          try simp only [List.getElem_toArray]
          go_simp
          refine (toClass nb _ ys _ (HBW.out.below Bw.out (Nat.le_refl _)) hsy).mono ?_
          rintro e v15 ⟨a15, c15, rfl, hin15, hb15⟩
          replace X := Lib.hid (X.out.next hb15 X.out.lt)
          replace T1 := Lib.hid (T1.out.below hb15 (Nat.le_refl _))
          have Bw15_ := Lib.hid Bw.out
          replace Bw := Lib.hid (Bw.out.trans (hb15.mono Bw.out.size))
          have Bw00 := Lib.hid Bw.out
          have T3 := Lib.hid (hin15.mono (Nat.zero_le _))
          clear hin15 hb15
          refine hK.out _ _ (by first | exact XS.out _ Bw.out | exact XS.out _ ((Bw.out.setCell ho _).setCell ho _) | exact XS.out _ (Bw00.out.alloc ho _)) (fun hHeld => ?_)
          clear hK K
          try simp only [List.getElem_toArray, List.getElem_cons_zero, List.getElem_cons_succ, Act.put, List.setIfInBounds_toArray, List.set_cons_zero, List.set_cons_succ]
          refine wpAnyH_ready (rs := [4]) (by kernel_rfl) (by simp) ?_
          refine AllReadyH.cons rfl (fun K hK => ?_) AllReadyH.nil
          try simp only [List.getElem_toArray]
          go_simp
          refine (HS.out _ _ _ ⟨_, T1.out⟩ ⟨_, T3.out⟩).mono ?_
          rintro e v16 ⟨a16, c16, rfl, hin16, hb16⟩
          replace X := Lib.hid (X.out.next hb16 X.out.lt)
          replace T1 := Lib.hid (T1.out.below hb16 (Nat.le_refl _))
          replace T3 := Lib.hid (T3.out.below hb16 (Nat.le_refl _))
          have Bw16_ := Lib.hid Bw.out
          replace Bw := Lib.hid (Bw.out.trans (hb16.mono Bw.out.size))
          have Bw00 := Lib.hid Bw.out
          have T4 := Lib.hid (hin16.mono (B' := w2.heap.size) Bw16_.out.size)
          clear hin16 hb16
          refine hK.out _ _ (by first | exact XS.out _ Bw.out | exact XS.out _ ((Bw.out.setCell ho _).setCell ho _) | exact XS.out _ (Bw00.out.alloc ho _)) (fun hHeld => ?_)
          clear hK K
          try simp only [List.getElem_toArray, List.getElem_cons_zero, List.getElem_cons_succ, Act.put, List.setIfInBounds_toArray, List.set_cons_zero, List.set_cons_succ]
          refine wpAnyH_take (i := 5) (v := ?_) rfl (by kernel_rfl) (by kernel_rfl) (by kernel_rfl) (fun _ _ _ h => h) (Or.inl ⟨by rfl, ?_⟩) (by assumption) ?_
          rotate_left
          · (intro w hSw; (try dsimp only at hSw); go_simp; try with_reducible rfl)
          try simp only [List.getElem_toArray, List.getElem_cons_zero, List.getElem_cons_succ, Act.put, List.setIfInBounds_toArray, List.set_cons_zero, List.set_cons_succ]
          refine wpAnyH_take (i := 6) (v := ?_) rfl (by kernel_rfl) (by kernel_rfl) (by kernel_rfl) (fun _ _ _ h => h) (Or.inl ⟨by rfl, ?_⟩) (by assumption) ?_
          rotate_left
          · (intro w hSw; (try dsimp only at hSw); go_simp; try with_reducible rfl)
          try simp only [List.getElem_toArray, List.getElem_cons_zero, List.getElem_cons_succ, Act.put, List.setIfInBounds_toArray, List.set_cons_zero, List.set_cons_succ]
          refine wpAnyH_take (i := 7) (v := ?_) rfl (by kernel_rfl) (by kernel_rfl) (by kernel_rfl) (fun _ _ _ h => h) (Or.inl ⟨by rfl, ?_⟩) (by assumption) ?_
          rotate_left
          · (intro w hSw; (try dsimp only at hSw); go_simp; try with_reducible rfl)
          try simp only [List.getElem_toArray, List.getElem_cons_zero, List.getElem_cons_succ, Act.put, List.setIfInBounds_toArray, List.set_cons_zero, List.set_cons_succ]
          refine wpAnyH_ready (rs := [9]) (by kernel_rfl) (by simp) ?_
          refine AllReadyH.cons rfl (fun K hK => ?_) AllReadyH.nil
          try simp only [List.getElem_toArray]
          have x0 := X.out.out.at0
          have x1 := X.out.out.at1
          have q0 := X.out.out.free0
          have q1 := X.out.out.free1
          go_simp
          clear x0 x1 q0 q1
          refine hK.out _ _ (by first | exact XS.out _ Bw.out | exact XS.out _ ((Bw.out.setCell ho _).setCell ho _) | exact XS.out _ (Bw00.out.alloc ho _)) (fun hHeld => ?_)
          clear hK K
          try simp only [List.getElem_toArray, List.getElem_cons_zero, List.getElem_cons_succ, Act.put, List.setIfInBounds_toArray, List.set_cons_zero, List.set_cons_succ]
          refine wpAnyH_take (i := 10) (v := ?_) rfl (by kernel_rfl) (by kernel_rfl) (by kernel_rfl) (fun _ _ _ h => h) (Or.inl ⟨by rfl, ?_⟩) (by assumption) ?_
          rotate_left
          · (intro w hSw; (try dsimp only at hSw); go_simp; try with_reducible rfl)
          try simp only [List.getElem_toArray, List.getElem_cons_zero, List.getElem_cons_succ, Act.put, List.setIfInBounds_toArray, List.set_cons_zero, List.set_cons_succ]
          refine wpAnyH_done (by kernel_rfl) ?_ _
          go_wp2_with fail
          go_meet
          first
            | exact ⟨_, _, _, rfl, rfl, (X.out.setN N).set _, (T4.out.bx X.out 0 _).bx (X.out.setN N) 1 _, (Bw.out.setCell ho _).setCell ho _⟩
            | exact ⟨_, _, _, rfl, rfl, Bx.new _ _ _, T40.out.alloc _, Bw00.out.alloc ho _⟩
      case rest =>
        clear xa0 xa1 xb0 xb1
        obtain ⟨oX6, a3, c3, rfl, rfl, hbx, hin3, hb3⟩ := hcut
        obtain ⟨w3, rfl⟩ : ∃ w', w' = wc := ⟨_, rfl⟩
        have hz3 := hb3.size
        replace XA := Lib.hid (XA.out.next hb3 XA.out.lt)
        replace XB := Lib.hid (XB.out.next hb3 XB.out.lt)
        replace B := Lib.hid (B.out.trans (hb3.mono B.out.size))
        have X6 := Lib.hid hbx
        have I6 := Lib.hid (hin3.mono (Nat.zero_le _))
        have LI6 := Lib.hid (fun r hr => hin3.lt r hr)
        clear hin3 hb3 hbx HAW HBW XS
        have xa0 := XA.out.out.at0
        have xa1 := XA.out.out.at1
        have xb0 := XB.out.out.at0
        have xb1 := XB.out.out.at1
        have x60 := X6.out.out.at0
        have x61 := X6.out.out.at1
        go_wp2_with fail
        clear xa0 xa1 xb0 xb1 x60 x61
        refine (toClass na _ xs _ (HA.out.below B.out (Nat.le_refl _)) hsz).mono ?_
        rintro e w4 ⟨a4, c4, rfl, hin4, hb4⟩
        have hz4 := hb4.size
        replace XA := Lib.hid (XA.out.next hb4 XA.out.lt)
        replace XB := Lib.hid (XB.out.next hb4 XB.out.lt)
        replace X6 := Lib.hid (X6.out.next hb4 X6.out.lt)
        replace I6 := Lib.hid (I6.out.below hb4 (Nat.le_refl _))
        replace B := Lib.hid (B.out.trans (hb4.mono B.out.size))
        have I8 := Lib.hid (hin4.mono (Nat.zero_le _))
        have LI8 := Lib.hid (fun r hr => hin4.lt r hr)
        clear hin4 hb4
        have X8 := Lib.hid (Bx.new na (.slice a4 xs.length c4) w4)
        replace XA := Lib.hid (XA.out.alloc (Obj.cells #[.int .i64 na, .slice a4 xs.length c4] 25))
        replace XB := Lib.hid (XB.out.alloc (Obj.cells #[.int .i64 na, .slice a4 xs.length c4] 25))
        replace X6 := Lib.hid (X6.out.alloc (Obj.cells #[.int .i64 na, .slice a4 xs.length c4] 25))
        replace I6 := Lib.hid (I6.out.alloc (Obj.cells #[.int .i64 na, .slice a4 xs.length c4] 25))
        replace I8 := Lib.hid (I8.out.alloc (Obj.cells #[.int .i64 na, .slice a4 xs.length c4] 25))
        replace B := Lib.hid (B.out.alloc B.out.size (Obj.cells #[.int .i64 na, .slice a4 xs.length c4] 25))
        have HZ := Lib.hid (show (w4.alloc (Obj.cells #[.int .i64 na, .slice a4 xs.length c4] 25)).heap.size = w4.heap.size + 1 by simp)
        have xa0 := XA.out.out.at0
        have xa1 := XA.out.out.at1
        have xb0 := XB.out.out.at0
        have xb1 := XB.out.out.at1
        have x60 := X6.out.out.at0
        have x61 := X6.out.out.at1
        go_wp2_with fail
        clear xa0 xa1 xb0 xb1 x60 x61
        generalize (w4.alloc (Obj.cells #[.int .i64 na, .slice a4 xs.length c4] 25)) = w5 at *
        have hz5 := HZ.out
        clear HZ
        generalize hOX8 : w4.heap.size = oX8 at *
        refine (toClass nb _ ys _ (HB.out.below B.out (Nat.le_refl _)) hsy).mono ?_
        rintro e w6 ⟨a6, c6, rfl, hin6, hb6⟩
        have hz6 := hb6.size
        replace XA := Lib.hid (XA.out.next hb6 XA.out.lt)
        replace XB := Lib.hid (XB.out.next hb6 XB.out.lt)
        replace X6 := Lib.hid (X6.out.next hb6 X6.out.lt)
        replace X8 := Lib.hid (X8.out.next hb6 X8.out.lt)
        replace I6 := Lib.hid (I6.out.below hb6 (Nat.le_refl _))
        replace I8 := Lib.hid (I8.out.below hb6 (Nat.le_refl _))
        replace B := Lib.hid (B.out.trans (hb6.mono B.out.size))
        have I9 := Lib.hid (hin6.mono (Nat.zero_le _))
        have LI9 := Lib.hid (fun r hr => hin6.lt r hr)
        clear hin6 hb6
        have X9 := Lib.hid (Bx.new nb (.slice a6 ys.length c6) w6)
        replace XA := Lib.hid (XA.out.alloc (Obj.cells #[.int .i64 nb, .slice a6 ys.length c6] 25))
        replace XB := Lib.hid (XB.out.alloc (Obj.cells #[.int .i64 nb, .slice a6 ys.length c6] 25))
        replace X6 := Lib.hid (X6.out.alloc (Obj.cells #[.int .i64 nb, .slice a6 ys.length c6] 25))
        replace X8 := Lib.hid (X8.out.alloc (Obj.cells #[.int .i64 nb, .slice a6 ys.length c6] 25))
        replace I6 := Lib.hid (I6.out.alloc (Obj.cells #[.int .i64 nb, .slice a6 ys.length c6] 25))
        replace I8 := Lib.hid (I8.out.alloc (Obj.cells #[.int .i64 nb, .slice a6 ys.length c6] 25))
        replace I9 := Lib.hid (I9.out.alloc (Obj.cells #[.int .i64 nb, .slice a6 ys.length c6] 25))
        replace B := Lib.hid (B.out.alloc B.out.size (Obj.cells #[.int .i64 nb, .slice a6 ys.length c6] 25))
        have HZ := Lib.hid (show (w6.alloc (Obj.cells #[.int .i64 nb, .slice a6 ys.length c6] 25)).heap.size = w6.heap.size + 1 by simp)
        have xa0 := XA.out.out.at0
        have xa1 := XA.out.out.at1
        have xb0 := XB.out.out.at0
        have xb1 := XB.out.out.at1
        have x60 := X6.out.out.at0
        have x61 := X6.out.out.at1
        have x80 := X8.out.out.at0
        have x81 := X8.out.out.at1
        go_wp2_with fail
        clear xa0 xa1 xb0 xb1 x60 x61 x80 x81
        generalize (w6.alloc (Obj.cells #[.int .i64 nb, .slice a6 ys.length c6] 25)) = w7 at *
        have hz7 := HZ.out
        clear HZ
        generalize hOX9 : w6.heap.size = oX9 at *
        refine (HI.out _ _ _ I8.out.rd I9.out.rd).mono ?_
        rintro e w8 ⟨a8, c8, rfl, hin8, hb8⟩
        have hz8 := hb8.size
        replace XA := Lib.hid (XA.out.next hb8 XA.out.lt)
        replace XB := Lib.hid (XB.out.next hb8 XB.out.lt)
        replace X6 := Lib.hid (X6.out.next hb8 X6.out.lt)
        replace X8 := Lib.hid (X8.out.next hb8 X8.out.lt)
        replace X9 := Lib.hid (X9.out.next hb8 X9.out.lt)
        replace I6 := Lib.hid (I6.out.below hb8 (Nat.le_refl _))
        replace I8 := Lib.hid (I8.out.below hb8 (Nat.le_refl _))
        replace I9 := Lib.hid (I9.out.below hb8 (Nat.le_refl _))
        replace B := Lib.hid (B.out.trans (hb8.mono B.out.size))
        have I10 := Lib.hid (hin8.mono (Nat.zero_le _))
        have LI10 := Lib.hid (fun r hr => hin8.lt r hr)
        clear hin8 hb8
        have X10 := Lib.hid (Bx.new N (.slice a8 R.length c8) w8)
        replace XA := Lib.hid (XA.out.alloc (Obj.cells #[.int .i64 N, .slice a8 R.length c8] 25))
        replace XB := Lib.hid (XB.out.alloc (Obj.cells #[.int .i64 N, .slice a8 R.length c8] 25))
        replace X6 := Lib.hid (X6.out.alloc (Obj.cells #[.int .i64 N, .slice a8 R.length c8] 25))
        replace X8 := Lib.hid (X8.out.alloc (Obj.cells #[.int .i64 N, .slice a8 R.length c8] 25))
        replace X9 := Lib.hid (X9.out.alloc (Obj.cells #[.int .i64 N, .slice a8 R.length c8] 25))
        replace I6 := Lib.hid (I6.out.alloc (Obj.cells #[.int .i64 N, .slice a8 R.length c8] 25))
        replace I8 := Lib.hid (I8.out.alloc (Obj.cells #[.int .i64 N, .slice a8 R.length c8] 25))
        replace I9 := Lib.hid (I9.out.alloc (Obj.cells #[.int .i64 N, .slice a8 R.length c8] 25))
        replace I10 := Lib.hid (I10.out.alloc (Obj.cells #[.int .i64 N, .slice a8 R.length c8] 25))
        replace B := Lib.hid (B.out.alloc B.out.size (Obj.cells #[.int .i64 N, .slice a8 R.length c8] 25))
        have HZ := Lib.hid (show (w8.alloc (Obj.cells #[.int .i64 N, .slice a8 R.length c8] 25)).heap.size = w8.heap.size + 1 by simp)
        have xa0 := XA.out.out.at0
        have xa1 := XA.out.out.at1
        have xb0 := XB.out.out.at0
        have xb1 := XB.out.out.at1
        have x60 := X6.out.out.at0
        have x61 := X6.out.out.at1
        have x80 := X8.out.out.at0
        have x81 := X8.out.out.at1
        have x90 := X9.out.out.at0
        have x91 := X9.out.out.at1
        go_wp2_with fail
        clear xa0 xa1 xb0 xb1 x60 x61 x80 x81 x90 x91
        generalize (w8.alloc (Obj.cells #[.int .i64 N, .slice a8 R.length c8] 25)) = w9 at *
        have hz9 := HZ.out
        clear HZ
        generalize hOX10 : w8.heap.size = oX10 at *
        refine (eqClass N N _ _ R R _ I10.out.rd I6.out.rd).mono ?_
        rintro e w10 ⟨rfl, hb10⟩
        rw [show (decide (N = N) && eqB R R) = true by simp [eqB]]
        have hz10 := hb10.size
        replace XA := Lib.hid (XA.out.next hb10 XA.out.lt)
        replace XB := Lib.hid (XB.out.next hb10 XB.out.lt)
        replace X6 := Lib.hid (X6.out.next hb10 X6.out.lt)
        replace X8 := Lib.hid (X8.out.next hb10 X8.out.lt)
        replace X9 := Lib.hid (X9.out.next hb10 X9.out.lt)
        replace X10 := Lib.hid (X10.out.next hb10 X10.out.lt)
        replace I6 := Lib.hid (I6.out.below hb10 (Nat.le_refl _))
        replace I8 := Lib.hid (I8.out.below hb10 (Nat.le_refl _))
        replace I9 := Lib.hid (I9.out.below hb10 (Nat.le_refl _))
        replace I10 := Lib.hid (I10.out.below hb10 (Nat.le_refl _))
        replace B := Lib.hid (B.out.trans (hb10.mono B.out.size))
        clear hb10
        have xa0 := XA.out.out.at0
        have xa1 := XA.out.out.at1
        have xb0 := XB.out.out.at0
        have xb1 := XB.out.out.at1
        have x60 := X6.out.out.at0
        have x61 := X6.out.out.at1
        have x80 := X8.out.out.at0
        have x81 := X8.out.out.at1
        have x90 := X9.out.out.at0
        have x91 := X9.out.out.at1
        have x100 := X10.out.out.at0
        have x101 := X10.out.out.at1
        go_wp2_with fail
        clear xa0 xa1 xb0 xb1 x60 x61 x80 x81 x90 x91 x100 x101
        have xa0 := XA.out.out.at0
        have xa1 := XA.out.out.at1
        have xb0 := XB.out.out.at0
        have xb1 := XB.out.out.at1
        have x60 := X6.out.out.at0
        have x61 := X6.out.out.at1
        have x80 := X8.out.out.at0
        have x81 := X8.out.out.at1
        have x90 := X9.out.out.at0
        have x91 := X9.out.out.at1
        have x100 := X10.out.out.at0
        have x101 := X10.out.out.at1
        go_wp2_with fail
        refine wp_region_held_drew (S := fun w' => w'.cell? ⟨w.heap.size, 0, none⟩ = some (Value.int .i64 na) ∧ w'.cell? ⟨w.heap.size, 1, none⟩ = some (.slice a xs.length ca) ∧ w'.cell? ⟨oB, 0, none⟩ = some (Value.int .i64 nb) ∧ w'.cell? ⟨oB, 1, none⟩ = some (.slice b ys.length cb) ∧ w'.cell? ⟨oX8, 0, none⟩ = some (Value.int .i64 na) ∧ w'.cell? ⟨oX8, 1, none⟩ = some (.slice a4 xs.length c4) ∧ w'.cell? ⟨oX9, 0, none⟩ = some (Value.int .i64 nb) ∧ w'.cell? ⟨oX9, 1, none⟩ = some (.slice a6 ys.length c6)) (by kernel_rfl) (by first | exact ⟨xa0, xa1, xb0, xb1, x80, x81, x90, x91⟩ | go_keep) (fun hHeld => ?_)
        refine wpAnyH_take (i := 0) (v := ?_) rfl (by kernel_rfl) (by kernel_rfl) (by kernel_rfl) (fun _ _ _ h => h) (Or.inl ⟨by rfl, ?_⟩) (by assumption) ?_
        rotate_left
        · (intro w hSw; (try dsimp only at hSw); go_simp; try with_reducible rfl)
        try simp only [List.getElem_toArray, List.getElem_cons_zero, Act.put, List.setIfInBounds_toArray, List.set_cons_zero, List.set_cons_succ]
        refine wpAnyH_take (i := 1) (v := ?_) rfl (by kernel_rfl) (by kernel_rfl) (by kernel_rfl) (fun _ _ _ h => h) (Or.inl ⟨by rfl, ?_⟩) (by assumption) ?_
        rotate_left
        · (intro w hSw; (try dsimp only at hSw); go_simp; try with_reducible rfl)
        try simp only [List.getElem_toArray, List.getElem_cons_zero, List.getElem_cons_succ, Act.put, List.setIfInBounds_toArray, List.set_cons_zero, List.set_cons_succ]
        clear xa0 xa1 xb0 xb1 x60 x61 x80 x81 x90 x91 x100 x101
        refine wpAnyH_ready (rs := [2]) (by kernel_rfl) (by simp) ?_
        refine AllReadyH.cons rfl (fun K hK => ?_) AllReadyH.nil
        try simp only [List.getElem_toArray]
        go_simp
        have BD := Lib.hid (show Below w10.heap.size w10 w10.drew from (Below.refl _ _).drew)
        have BR := Lib.hid (B.out.trans (BD.out.mono B.out.size))
        refine (toClass na _ xs _ (HA.out.below BR.out (Nat.le_refl _)) hsz).mono ?_
        rintro e w11 ⟨a11, c11, rfl, hin11, hb'⟩
        have hb11 : Below w10.heap.size w10 w11 := BD.out.trans hb'
        clear hb' BD BR
        have hz11 := hb11.size
        replace XA := Lib.hid (XA.out.next hb11 XA.out.lt)
        replace XB := Lib.hid (XB.out.next hb11 XB.out.lt)
        replace X6 := Lib.hid (X6.out.next hb11 X6.out.lt)
        replace X8 := Lib.hid (X8.out.next hb11 X8.out.lt)
        replace X9 := Lib.hid (X9.out.next hb11 X9.out.lt)
        replace X10 := Lib.hid (X10.out.next hb11 X10.out.lt)
        replace I6 := Lib.hid (I6.out.below hb11 (Nat.le_refl _))
        replace I8 := Lib.hid (I8.out.below hb11 (Nat.le_refl _))
        replace I9 := Lib.hid (I9.out.below hb11 (Nat.le_refl _))
        replace I10 := Lib.hid (I10.out.below hb11 (Nat.le_refl _))
        replace B := Lib.hid (B.out.trans (hb11.mono B.out.size))
        have IT := Lib.hid (hin11.mono (Nat.zero_le _))
        clear hin11 hb11
        have xa0 := XA.out.out.at0
        have xa1 := XA.out.out.at1
        have xb0 := XB.out.out.at0
        have xb1 := XB.out.out.at1
        have x60 := X6.out.out.at0
        have x61 := X6.out.out.at1
        have x80 := X8.out.out.at0
        have x81 := X8.out.out.at1
        have x90 := X9.out.out.at0
        have x91 := X9.out.out.at1
        have x100 := X10.out.out.at0
        have x101 := X10.out.out.at1
        refine hK.out _ _ (by first | exact ⟨xa0, xa1, xb0, xb1, x80, x81, x90, x91⟩ | go_keep) (fun hHeld => ?_)
        clear hK K
        try simp only [List.getElem_toArray, List.getElem_cons_zero, List.getElem_cons_succ, Act.put, List.setIfInBounds_toArray, List.set_cons_zero, List.set_cons_succ]
        clear xa0 xa1 xb0 xb1 x60 x61 x80 x81 x90 x91 x100 x101
        refine wpAnyH_ready (rs := [3]) (by kernel_rfl) (by simp) ?_
        refine AllReadyH.cons rfl (fun K hK => ?_) AllReadyH.nil
        try simp only [List.getElem_toArray]
        go_simp
        refine (eqClass na na _ _ xs xs _ I8.out.rd IT.out.rd).mono ?_
        rintro e w12 ⟨rfl, hb12⟩
        rw [show (decide (na = na) && eqB xs xs) = true by simp [eqB]]
        have hz12 := hb12.size
        replace XA := Lib.hid (XA.out.next hb12 XA.out.lt)
        replace XB := Lib.hid (XB.out.next hb12 XB.out.lt)
        replace X6 := Lib.hid (X6.out.next hb12 X6.out.lt)
        replace X8 := Lib.hid (X8.out.next hb12 X8.out.lt)
        replace X9 := Lib.hid (X9.out.next hb12 X9.out.lt)
        replace X10 := Lib.hid (X10.out.next hb12 X10.out.lt)
        replace I6 := Lib.hid (I6.out.below hb12 (Nat.le_refl _))
        replace I8 := Lib.hid (I8.out.below hb12 (Nat.le_refl _))
        replace I9 := Lib.hid (I9.out.below hb12 (Nat.le_refl _))
        replace I10 := Lib.hid (I10.out.below hb12 (Nat.le_refl _))
        replace IT := Lib.hid (IT.out.below hb12 (Nat.le_refl _))
        replace B := Lib.hid (B.out.trans (hb12.mono B.out.size))
        clear hb12 IT
        have xa0 := XA.out.out.at0
        have xa1 := XA.out.out.at1
        have xb0 := XB.out.out.at0
        have xb1 := XB.out.out.at1
        have x60 := X6.out.out.at0
        have x61 := X6.out.out.at1
        have x80 := X8.out.out.at0
        have x81 := X8.out.out.at1
        have x90 := X9.out.out.at0
        have x91 := X9.out.out.at1
        have x100 := X10.out.out.at0
        have x101 := X10.out.out.at1
        refine hK.out _ _ (by first | exact ⟨xa0, xa1, xb0, xb1, x80, x81, x90, x91⟩ | go_keep) (fun hHeld => ?_)
        clear hK K
        try simp only [List.getElem_toArray, List.getElem_cons_zero, List.getElem_cons_succ, Act.put, List.setIfInBounds_toArray, List.set_cons_zero, List.set_cons_succ]
        refine wpAnyH_take (i := 4) (v := ?_) rfl (by kernel_rfl) (by kernel_rfl) (by kernel_rfl) (fun _ _ _ h => h) (Or.inl ⟨by rfl, ?_⟩) (by assumption) ?_
        rotate_left
        · (intro w hSw; (try dsimp only at hSw); go_simp; try with_reducible rfl)
        try simp only [List.getElem_toArray, List.getElem_cons_zero, List.getElem_cons_succ, Act.put, List.setIfInBounds_toArray, List.set_cons_zero, List.set_cons_succ]
        refine wpAnyH_done (by kernel_rfl) ?_ _
        go_wp2_with fail
        clear xa0 xa1 xb0 xb1 x60 x61 x80 x81 x90 x91 x100 x101
        have xa0 := XA.out.out.at0
        have xa1 := XA.out.out.at1
        have xb0 := XB.out.out.at0
        have xb1 := XB.out.out.at1
        have x60 := X6.out.out.at0
        have x61 := X6.out.out.at1
        have x80 := X8.out.out.at0
        have x81 := X8.out.out.at1
        have x90 := X9.out.out.at0
        have x91 := X9.out.out.at1
        have x100 := X10.out.out.at0
        have x101 := X10.out.out.at1
        go_wp2_with fail
        refine wp_region_held_drew (S := fun w' => w'.cell? ⟨w.heap.size, 0, none⟩ = some (Value.int .i64 na) ∧ w'.cell? ⟨w.heap.size, 1, none⟩ = some (.slice a xs.length ca) ∧ w'.cell? ⟨oB, 0, none⟩ = some (Value.int .i64 nb) ∧ w'.cell? ⟨oB, 1, none⟩ = some (.slice b ys.length cb) ∧ w'.cell? ⟨oX8, 0, none⟩ = some (Value.int .i64 na) ∧ w'.cell? ⟨oX8, 1, none⟩ = some (.slice a4 xs.length c4) ∧ w'.cell? ⟨oX9, 0, none⟩ = some (Value.int .i64 nb) ∧ w'.cell? ⟨oX9, 1, none⟩ = some (.slice a6 ys.length c6)) (by kernel_rfl) (by first | exact ⟨xa0, xa1, xb0, xb1, x80, x81, x90, x91⟩ | go_keep) (fun hHeld => ?_)
        refine wpAnyH_take (i := 0) (v := ?_) rfl (by kernel_rfl) (by kernel_rfl) (by kernel_rfl) (fun _ _ _ h => h) (Or.inl ⟨by rfl, ?_⟩) (by assumption) ?_
        rotate_left
        · (intro w hSw; (try dsimp only at hSw); go_simp; try with_reducible rfl)
        try simp only [List.getElem_toArray, List.getElem_cons_zero, Act.put, List.setIfInBounds_toArray, List.set_cons_zero, List.set_cons_succ]
        refine wpAnyH_take (i := 1) (v := ?_) rfl (by kernel_rfl) (by kernel_rfl) (by kernel_rfl) (fun _ _ _ h => h) (Or.inl ⟨by rfl, ?_⟩) (by assumption) ?_
        rotate_left
        · (intro w hSw; (try dsimp only at hSw); go_simp; try with_reducible rfl)
        try simp only [List.getElem_toArray, List.getElem_cons_zero, List.getElem_cons_succ, Act.put, List.setIfInBounds_toArray, List.set_cons_zero, List.set_cons_succ]
        clear xa0 xa1 xb0 xb1 x60 x61 x80 x81 x90 x91 x100 x101
        refine wpAnyH_ready (rs := [2]) (by kernel_rfl) (by simp) ?_
        refine AllReadyH.cons rfl (fun K hK => ?_) AllReadyH.nil
        try simp only [List.getElem_toArray]
        go_simp
        have BD := Lib.hid (show Below w12.heap.size w12 w12.drew from (Below.refl _ _).drew)
        have BR := Lib.hid (B.out.trans (BD.out.mono B.out.size))
        refine (toClass nb _ ys _ (HB.out.below BR.out (Nat.le_refl _)) hsy).mono ?_
        rintro e w13 ⟨a13, c13, rfl, hin13, hb'⟩
        have hb13 : Below w12.heap.size w12 w13 := BD.out.trans hb'
        clear hb' BD BR
        have hz13 := hb13.size
        replace XA := Lib.hid (XA.out.next hb13 XA.out.lt)
        replace XB := Lib.hid (XB.out.next hb13 XB.out.lt)
        replace X6 := Lib.hid (X6.out.next hb13 X6.out.lt)
        replace X8 := Lib.hid (X8.out.next hb13 X8.out.lt)
        replace X9 := Lib.hid (X9.out.next hb13 X9.out.lt)
        replace X10 := Lib.hid (X10.out.next hb13 X10.out.lt)
        replace I6 := Lib.hid (I6.out.below hb13 (Nat.le_refl _))
        replace I8 := Lib.hid (I8.out.below hb13 (Nat.le_refl _))
        replace I9 := Lib.hid (I9.out.below hb13 (Nat.le_refl _))
        replace I10 := Lib.hid (I10.out.below hb13 (Nat.le_refl _))
        replace B := Lib.hid (B.out.trans (hb13.mono B.out.size))
        have IT := Lib.hid (hin13.mono (Nat.zero_le _))
        clear hin13 hb13
        have xa0 := XA.out.out.at0
        have xa1 := XA.out.out.at1
        have xb0 := XB.out.out.at0
        have xb1 := XB.out.out.at1
        have x60 := X6.out.out.at0
        have x61 := X6.out.out.at1
        have x80 := X8.out.out.at0
        have x81 := X8.out.out.at1
        have x90 := X9.out.out.at0
        have x91 := X9.out.out.at1
        have x100 := X10.out.out.at0
        have x101 := X10.out.out.at1
        refine hK.out _ _ (by first | exact ⟨xa0, xa1, xb0, xb1, x80, x81, x90, x91⟩ | go_keep) (fun hHeld => ?_)
        clear hK K
        try simp only [List.getElem_toArray, List.getElem_cons_zero, List.getElem_cons_succ, Act.put, List.setIfInBounds_toArray, List.set_cons_zero, List.set_cons_succ]
        clear xa0 xa1 xb0 xb1 x60 x61 x80 x81 x90 x91 x100 x101
        refine wpAnyH_ready (rs := [3]) (by kernel_rfl) (by simp) ?_
        refine AllReadyH.cons rfl (fun K hK => ?_) AllReadyH.nil
        try simp only [List.getElem_toArray]
        go_simp
        refine (eqClass nb nb _ _ ys ys _ I9.out.rd IT.out.rd).mono ?_
        rintro e w14 ⟨rfl, hb14⟩
        rw [show (decide (nb = nb) && eqB ys ys) = true by simp [eqB]]
        have hz14 := hb14.size
        replace XA := Lib.hid (XA.out.next hb14 XA.out.lt)
        replace XB := Lib.hid (XB.out.next hb14 XB.out.lt)
        replace X6 := Lib.hid (X6.out.next hb14 X6.out.lt)
        replace X8 := Lib.hid (X8.out.next hb14 X8.out.lt)
        replace X9 := Lib.hid (X9.out.next hb14 X9.out.lt)
        replace X10 := Lib.hid (X10.out.next hb14 X10.out.lt)
        replace I6 := Lib.hid (I6.out.below hb14 (Nat.le_refl _))
        replace I8 := Lib.hid (I8.out.below hb14 (Nat.le_refl _))
        replace I9 := Lib.hid (I9.out.below hb14 (Nat.le_refl _))
        replace I10 := Lib.hid (I10.out.below hb14 (Nat.le_refl _))
        replace IT := Lib.hid (IT.out.below hb14 (Nat.le_refl _))
        replace B := Lib.hid (B.out.trans (hb14.mono B.out.size))
        clear hb14 IT
        have xa0 := XA.out.out.at0
        have xa1 := XA.out.out.at1
        have xb0 := XB.out.out.at0
        have xb1 := XB.out.out.at1
        have x60 := X6.out.out.at0
        have x61 := X6.out.out.at1
        have x80 := X8.out.out.at0
        have x81 := X8.out.out.at1
        have x90 := X9.out.out.at0
        have x91 := X9.out.out.at1
        have x100 := X10.out.out.at0
        have x101 := X10.out.out.at1
        refine hK.out _ _ (by first | exact ⟨xa0, xa1, xb0, xb1, x80, x81, x90, x91⟩ | go_keep) (fun hHeld => ?_)
        clear hK K
        try simp only [List.getElem_toArray, List.getElem_cons_zero, List.getElem_cons_succ, Act.put, List.setIfInBounds_toArray, List.set_cons_zero, List.set_cons_succ]
        refine wpAnyH_take (i := 4) (v := ?_) rfl (by kernel_rfl) (by kernel_rfl) (by kernel_rfl) (fun _ _ _ h => h) (Or.inl ⟨by rfl, ?_⟩) (by assumption) ?_
        rotate_left
        · (intro w hSw; (try dsimp only at hSw); go_simp; try with_reducible rfl)
        try simp only [List.getElem_toArray, List.getElem_cons_zero, List.getElem_cons_succ, Act.put, List.setIfInBounds_toArray, List.set_cons_zero, List.set_cons_succ]
        refine wpAnyH_done (by kernel_rfl) ?_ _
        go_wp2_with fail
        clear xa0 xa1 xb0 xb1 x60 x61 x80 x81 x90 x91 x100 x101
        refine (markClass na a4 xs.length c4 xs 1 _ I8.out (by omega) hsz).mono ?_
        rintro e w15 ⟨rfl, hin15, hg15⟩
        have hz15 := hg15.size
        replace XA := Lib.hid (XA.out.kept hg15 (XA.out.not_row I8.out))
        replace XB := Lib.hid (XB.out.kept hg15 (XB.out.not_row I8.out))
        replace X6 := Lib.hid (X6.out.kept hg15 (X6.out.not_row I8.out))
        replace X8 := Lib.hid (X8.out.kept hg15 (X8.out.not_row I8.out))
        replace X9 := Lib.hid (X9.out.kept hg15 (X9.out.not_row I8.out))
        replace X10 := Lib.hid (X10.out.kept hg15 (X10.out.not_row I8.out))
        replace I6 := Lib.hid (I6.out.kept hg15 (own_apart (fun r hr => (LI6.out r hr).2) (fun r hr => by have := (LI8.out r hr).1; omega)))
        replace I9 := Lib.hid (I9.out.kept hg15 (own_apart' (fun r hr => (LI8.out r hr).2) (fun r hr => by have := (LI9.out r hr).1; omega)))
        replace I10 := Lib.hid (I10.out.kept hg15 (own_apart' (fun r hr => (LI8.out r hr).2) (fun r hr => by have := (LI10.out r hr).1; omega)))
        replace B := Lib.hid (B.out.grown hg15 (by omega) (fun r hr => by have := (LI8.out r hr).1; omega))
        clear I8 LI8 hin15 hg15
        have xa0 := XA.out.out.at0
        have xa1 := XA.out.out.at1
        have xb0 := XB.out.out.at0
        have xb1 := XB.out.out.at1
        have x60 := X6.out.out.at0
        have x61 := X6.out.out.at1
        have x80 := X8.out.out.at0
        have x81 := X8.out.out.at1
        have x90 := X9.out.out.at0
        have x91 := X9.out.out.at1
        have x100 := X10.out.out.at0
        have x101 := X10.out.out.at1
        go_wp2_with fail
        clear xa0 xa1 xb0 xb1 x60 x61 x80 x81 x90 x91 x100 x101
        refine (markClass nb a6 ys.length c6 ys (1 + xs.length) _ I9.out (by omega) hsy).mono ?_
        rintro e w16 ⟨rfl, hin16, hg16⟩
        have hz16 := hg16.size
        replace XA := Lib.hid (XA.out.kept hg16 (XA.out.not_row I9.out))
        replace XB := Lib.hid (XB.out.kept hg16 (XB.out.not_row I9.out))
        replace X6 := Lib.hid (X6.out.kept hg16 (X6.out.not_row I9.out))
        replace X8 := Lib.hid (X8.out.kept hg16 (X8.out.not_row I9.out))
        replace X9 := Lib.hid (X9.out.kept hg16 (X9.out.not_row I9.out))
        replace X10 := Lib.hid (X10.out.kept hg16 (X10.out.not_row I9.out))
        replace I6 := Lib.hid (I6.out.kept hg16 (own_apart (fun r hr => (LI6.out r hr).2) (fun r hr => by have := (LI9.out r hr).1; omega)))
        replace I10 := Lib.hid (I10.out.kept hg16 (own_apart' (fun r hr => (LI9.out r hr).2) (fun r hr => by have := (LI10.out r hr).1; omega)))
        replace B := Lib.hid (B.out.grown hg16 (by omega) (fun r hr => by have := (LI9.out r hr).1; omega))
        clear I9 LI9 hin16 hg16
        have xa0 := XA.out.out.at0
        have xa1 := XA.out.out.at1
        have xb0 := XB.out.out.at0
        have xb1 := XB.out.out.at1
        have x60 := X6.out.out.at0
        have x61 := X6.out.out.at1
        have x80 := X8.out.out.at0
        have x81 := X8.out.out.at1
        have x90 := X9.out.out.at0
        have x91 := X9.out.out.at1
        have x100 := X10.out.out.at0
        have x101 := X10.out.out.at1
        go_wp2_with fail
        clear xa0 xa1 xb0 xb1 x60 x61 x80 x81 x90 x91 x100 x101
        refine (eqClass N N _ _ R R _ I10.out.rd I6.out.rd).mono ?_
        rintro e w17 ⟨rfl, hb17⟩
        rw [show (decide (N = N) && eqB R R) = true by simp [eqB]]
        have hz17 := hb17.size
        replace XA := Lib.hid (XA.out.next hb17 XA.out.lt)
        replace XB := Lib.hid (XB.out.next hb17 XB.out.lt)
        replace X6 := Lib.hid (X6.out.next hb17 X6.out.lt)
        replace X8 := Lib.hid (X8.out.next hb17 X8.out.lt)
        replace X9 := Lib.hid (X9.out.next hb17 X9.out.lt)
        replace X10 := Lib.hid (X10.out.next hb17 X10.out.lt)
        replace I6 := Lib.hid (I6.out.below hb17 (Nat.le_refl _))
        replace I10 := Lib.hid (I10.out.below hb17 (Nat.le_refl _))
        replace B := Lib.hid (B.out.trans (hb17.mono B.out.size))
        clear hb17
        have xa0 := XA.out.out.at0
        have xa1 := XA.out.out.at1
        have xb0 := XB.out.out.at0
        have xb1 := XB.out.out.at1
        have x60 := X6.out.out.at0
        have x61 := X6.out.out.at1
        have x80 := X8.out.out.at0
        have x81 := X8.out.out.at1
        have x90 := X9.out.out.at0
        have x91 := X9.out.out.at1
        have x100 := X10.out.out.at0
        have x101 := X10.out.out.at1
        go_wp2_with fail
        clear xa0 xa1 xb0 xb1 x60 x61 x80 x81 x90 x91 x100 x101
        refine (markClass N a8 R.length c8 R 1 _ I10.out (by omega) hR).mono ?_
        rintro e w18 ⟨rfl, hin18, hg18⟩
        have hz18 := hg18.size
        replace XA := Lib.hid (XA.out.kept hg18 (XA.out.not_row I10.out))
        replace XB := Lib.hid (XB.out.kept hg18 (XB.out.not_row I10.out))
        replace X6 := Lib.hid (X6.out.kept hg18 (X6.out.not_row I10.out))
        replace X8 := Lib.hid (X8.out.kept hg18 (X8.out.not_row I10.out))
        replace X9 := Lib.hid (X9.out.kept hg18 (X9.out.not_row I10.out))
        replace X10 := Lib.hid (X10.out.kept hg18 (X10.out.not_row I10.out))
        replace I6 := Lib.hid (I6.out.kept hg18 (own_apart (fun r hr => (LI6.out r hr).2) (fun r hr => by have := (LI10.out r hr).1; omega)))
        replace B := Lib.hid (B.out.grown hg18 (by omega) (fun r hr => by have := (LI10.out r hr).1; omega))
        replace I10 := Lib.hid hin18
        clear hin18 hg18
        have xa0 := XA.out.out.at0
        have xa1 := XA.out.out.at1
        have xb0 := XB.out.out.at0
        have xb1 := XB.out.out.at1
        have x60 := X6.out.out.at0
        have x61 := X6.out.out.at1
        have x80 := X8.out.out.at0
        have x81 := X8.out.out.at1
        have x90 := X9.out.out.at0
        have x91 := X9.out.out.at1
        have x100 := X10.out.out.at0
        have x101 := X10.out.out.at1
        go_wp2_with fail
        clear xa0 xa1 xb0 xb1 x60 x61 x80 x81 x90 x91 x100 x101
        refine (heldClass N _ R.length 1 _ I10.out.rd (by omega) hR).mono ?_
        rintro e w19 ⟨rfl, hb19⟩
        have hz19 := hb19.size
        replace XA := Lib.hid (XA.out.next hb19 XA.out.lt)
        replace XB := Lib.hid (XB.out.next hb19 XB.out.lt)
        replace X6 := Lib.hid (X6.out.next hb19 X6.out.lt)
        replace X8 := Lib.hid (X8.out.next hb19 X8.out.lt)
        replace X9 := Lib.hid (X9.out.next hb19 X9.out.lt)
        replace X10 := Lib.hid (X10.out.next hb19 X10.out.lt)
        replace I6 := Lib.hid (I6.out.below hb19 (Nat.le_refl _))
        replace I10 := Lib.hid (I10.out.below hb19 (Nat.le_refl _))
        replace B := Lib.hid (B.out.trans (hb19.mono B.out.size))
        clear hb19
        have xa0 := XA.out.out.at0
        have xa1 := XA.out.out.at1
        have xb0 := XB.out.out.at0
        have xb1 := XB.out.out.at1
        have x60 := X6.out.out.at0
        have x61 := X6.out.out.at1
        have x80 := X8.out.out.at0
        have x81 := X8.out.out.at1
        have x90 := X9.out.out.at0
        have x91 := X9.out.out.at1
        have x100 := X10.out.out.at0
        have x101 := X10.out.out.at1
        go_wp2_with fail
        clear xa0 xa1 xb0 xb1 x60 x61 x80 x81 x90 x91 x100 x101
        clear X8 X9
        have HAW := Lib.hid (HA.out.below B.out (Nat.le_refl _))
        have HBW := Lib.hid (HB.out.below B.out (Nat.le_refl _))
        have XS := Lib.hid (show ∀ w', Below w19.heap.size w19 w' → (fun w' => w'.cell? ⟨w.heap.size, 0, none⟩ = some (Value.int .i64 na) ∧ w'.cell? ⟨w.heap.size, 1, none⟩ = some (.slice a xs.length ca) ∧ w'.cell? ⟨oB, 0, none⟩ = some (Value.int .i64 nb) ∧ w'.cell? ⟨oB, 1, none⟩ = some (.slice b ys.length cb)) w' from fun w' hb => ⟨(XA.out.next hb XA.out.lt).out.at0, (XA.out.next hb XA.out.lt).out.at1, (XB.out.next hb XB.out.lt).out.at0, (XB.out.next hb XB.out.lt).out.at1⟩)
        have xa0 := XA.out.out.at0
        have xa1 := XA.out.out.at1
        have xb0 := XB.out.out.at0
        have xb1 := XB.out.out.at1
        have x60 := X6.out.out.at0
        have x61 := X6.out.out.at1
        have x100 := X10.out.out.at0
        have x101 := X10.out.out.at1
        go_upto_region 31 with (fail)
        go_cut [15, 16] from 94 to 101 (fun p q wq => ∃ o a' c', p = .pointer (some ⟨o, 0, none⟩) ∧ q = .bool K ∧ Bx N (.slice a' R.length c') o wq ∧ Ints w19.heap.size wq (.slice a' R.length c') R ∧ Below w19.heap.size w19 wq)
        case first =>
          clear xa0 xa1 xb0 xb1 x60 x61 x100 x101
          have Bw := Lib.hid (show Below w19.heap.size w19 w19.drew from (Below.refl _ _).drew)
          have Bw00 := Lib.hid Bw.out
          refine wp_region_held_drew (S := fun w' => w'.cell? ⟨w.heap.size, 0, none⟩ = some (Value.int .i64 na) ∧ w'.cell? ⟨w.heap.size, 1, none⟩ = some (.slice a xs.length ca) ∧ w'.cell? ⟨oB, 0, none⟩ = some (Value.int .i64 nb) ∧ w'.cell? ⟨oB, 1, none⟩ = some (.slice b ys.length cb)) (by kernel_rfl) (by exact XS.out _ Bw.out) (fun hHeld => ?_)
          generalize w19.drew = v0 at *
          refine wpAnyH_take (i := 0) (v := ?_) rfl (by kernel_rfl) (by kernel_rfl) (by kernel_rfl) (fun _ _ _ h => h) (Or.inl ⟨by rfl, ?_⟩) (by assumption) ?_
          rotate_left
          · (intro w hSw; (try dsimp only at hSw); go_simp; try with_reducible rfl)
          try simp only [List.getElem_toArray, List.getElem_cons_zero, Act.put, List.setIfInBounds_toArray, List.set_cons_zero, List.set_cons_succ]
          refine wpAnyH_take (i := 2) (v := ?_) rfl (by kernel_rfl) (by kernel_rfl) (by kernel_rfl) (fun _ _ _ h => h) (Or.inl ⟨by rfl, ?_⟩) (by assumption) ?_
          rotate_left
          · (intro w hSw; (try dsimp only at hSw); go_simp; try with_reducible rfl)
          try simp only [List.getElem_toArray, List.getElem_cons_zero, List.getElem_cons_succ, Act.put, List.setIfInBounds_toArray, List.set_cons_zero, List.set_cons_succ]
          refine wpAnyH_ready (rs := [1, 8]) (by kernel_rfl) (by simp) ?_
          refine AllReadyH.cons rfl (fun K hK => ?_) (AllReadyH.cons rfl (fun K hK => ?_) AllReadyH.nil)
          · skip
            try simp only [List.getElem_toArray]
            go_simp
            refine (toClass na _ xs _ (HAW.out.below Bw.out (Nat.le_refl _)) hsz).mono ?_
            rintro e v1 ⟨a1, c1, rfl, hin1, hb1⟩
            have Bw1_ := Lib.hid Bw.out
            replace Bw := Lib.hid (Bw.out.trans (hb1.mono Bw.out.size))
            have Bw00 := Lib.hid Bw.out
            have T1 := Lib.hid (hin1.mono (Nat.zero_le _))
            clear hin1 hb1
            refine hK.out _ _ (by first | exact XS.out _ Bw.out | exact XS.out _ ((Bw.out.setCell ho _).setCell ho _) | exact XS.out _ (Bw00.out.alloc ho _)) (fun hHeld => ?_)
            clear hK K
            try simp only [List.getElem_toArray, List.getElem_cons_zero, List.getElem_cons_succ, Act.put, List.setIfInBounds_toArray, List.set_cons_zero, List.set_cons_succ]
            refine wpAnyH_ready (rs := [3, 8]) (by kernel_rfl) (by simp) ?_
            refine AllReadyH.cons rfl (fun K hK => ?_) (AllReadyH.cons rfl (fun K hK => ?_) AllReadyH.nil)
            · skip
              try simp only [List.getElem_toArray]
              go_simp
              refine (toClass nb _ ys _ (HBW.out.below Bw.out (Nat.le_refl _)) hsy).mono ?_
              rintro e v2 ⟨a2, c2, rfl, hin2, hb2⟩
              replace T1 := Lib.hid (T1.out.below hb2 (Nat.le_refl _))
              have Bw2_ := Lib.hid Bw.out
              replace Bw := Lib.hid (Bw.out.trans (hb2.mono Bw.out.size))
              have Bw00 := Lib.hid Bw.out
              have T3 := Lib.hid (hin2.mono (Nat.zero_le _))
              clear hin2 hb2
              refine hK.out _ _ (by first | exact XS.out _ Bw.out | exact XS.out _ ((Bw.out.setCell ho _).setCell ho _) | exact XS.out _ (Bw00.out.alloc ho _)) (fun hHeld => ?_)
              clear hK K
              try simp only [List.getElem_toArray, List.getElem_cons_zero, List.getElem_cons_succ, Act.put, List.setIfInBounds_toArray, List.set_cons_zero, List.set_cons_succ]
              refine wpAnyH_ready (rs := [4, 8]) (by kernel_rfl) (by simp) ?_
              refine AllReadyH.cons rfl (fun K hK => ?_) (AllReadyH.cons rfl (fun K hK => ?_) AllReadyH.nil)
              · skip
                try simp only [List.getElem_toArray]
                go_simp
                refine (HI.out _ _ _ T1.out.rd T3.out.rd).mono ?_
                rintro e v3 ⟨a3, c3, rfl, hin3, hb3⟩
                replace T1 := Lib.hid (T1.out.below hb3 (Nat.le_refl _))
                replace T3 := Lib.hid (T3.out.below hb3 (Nat.le_refl _))
                have Bw3_ := Lib.hid Bw.out
                replace Bw := Lib.hid (Bw.out.trans (hb3.mono Bw.out.size))
                have Bw00 := Lib.hid Bw.out
                have T4 := Lib.hid (hin3.mono (B' := w19.heap.size) Bw3_.out.size)
                clear hin3 hb3
                refine hK.out _ _ (by first | exact XS.out _ Bw.out | exact XS.out _ ((Bw.out.setCell ho _).setCell ho _) | exact XS.out _ (Bw00.out.alloc ho _)) (fun hHeld => ?_)
                clear hK K
                try simp only [List.getElem_toArray, List.getElem_cons_zero, List.getElem_cons_succ, Act.put, List.setIfInBounds_toArray, List.set_cons_zero, List.set_cons_succ]
                refine wpAnyH_take (i := 5) (v := ?_) rfl (by kernel_rfl) (by kernel_rfl) (by kernel_rfl) (fun _ _ _ h => h) (Or.inl ⟨by rfl, ?_⟩) (by assumption) ?_
                rotate_left
                · (intro w hSw; (try dsimp only at hSw); go_simp; try with_reducible rfl)
                try simp only [List.getElem_toArray, List.getElem_cons_zero, List.getElem_cons_succ, Act.put, List.setIfInBounds_toArray, List.set_cons_zero, List.set_cons_succ]
                refine wpAnyH_take (i := 6) (v := ?_) rfl (by kernel_rfl) (by kernel_rfl) (by kernel_rfl) (fun _ _ _ h => h) (Or.inl ⟨by rfl, ?_⟩) (by assumption) ?_
                rotate_left
                · (intro w hSw; (try dsimp only at hSw); go_simp; try with_reducible rfl)
                try simp only [List.getElem_toArray, List.getElem_cons_zero, List.getElem_cons_succ, Act.put, List.setIfInBounds_toArray, List.set_cons_zero, List.set_cons_succ]
                refine wpAnyH_take (i := 7) (v := ?_) rfl (by kernel_rfl) (by kernel_rfl) (by kernel_rfl) (fun _ _ _ h => h) (Or.inl ⟨by rfl, ?_⟩) (by assumption) ?_
                rotate_left
                · (intro w hSw; (try dsimp only at hSw); go_simp; try with_reducible rfl)
                try simp only [List.getElem_toArray, List.getElem_cons_zero, List.getElem_cons_succ, Act.put, List.setIfInBounds_toArray, List.set_cons_zero, List.set_cons_succ]
                refine wpAnyH_ready (rs := [8]) (by kernel_rfl) (by simp) ?_
                refine AllReadyH.cons rfl (fun K hK => ?_) AllReadyH.nil
                have T40 := Lib.hid T4.out
                try simp only [List.getElem_toArray]
                have X := Lib.hid (Bx.new 0 (.slice none 0 0) v3)
                have ho : w19.heap.size ≤ v3.heap.size := Bw.out.size
                replace T1 := Lib.hid (T1.out.alloc (Obj.cells #[.int .i64 0, .slice none 0 0] 25))
                replace T3 := Lib.hid (T3.out.alloc (Obj.cells #[.int .i64 0, .slice none 0 0] 25))
                replace T4 := Lib.hid (T4.out.alloc (Obj.cells #[.int .i64 0, .slice none 0 0] 25))
                replace Bw := Lib.hid (Bw.out.alloc Bw.out.size (Obj.cells #[.int .i64 0, .slice none 0 0] 25))
                go_simp
                refine hK.out _ _ (by first | exact XS.out _ Bw.out | exact XS.out _ ((Bw.out.setCell ho _).setCell ho _) | exact XS.out _ (Bw00.out.alloc ho _)) (fun hHeld => ?_)
                clear hK K
                try simp only [List.getElem_toArray, List.getElem_cons_zero, List.getElem_cons_succ, Act.put, List.setIfInBounds_toArray, List.set_cons_zero, List.set_cons_succ]
                refine wpAnyH_ready (rs := [9]) (by kernel_rfl) (by simp) ?_
                refine AllReadyH.cons rfl (fun K hK => ?_) AllReadyH.nil
                try simp only [List.getElem_toArray]
                have x0 := X.out.out.at0
                have x1 := X.out.out.at1
                have q0 := X.out.out.free0
                have q1 := X.out.out.free1
                go_simp
                clear x0 x1 q0 q1
                refine hK.out _ _ (by first | exact XS.out _ Bw.out | exact XS.out _ ((Bw.out.setCell ho _).setCell ho _) | exact XS.out _ (Bw00.out.alloc ho _)) (fun hHeld => ?_)
                clear hK K
                try simp only [List.getElem_toArray, List.getElem_cons_zero, List.getElem_cons_succ, Act.put, List.setIfInBounds_toArray, List.set_cons_zero, List.set_cons_succ]
                refine wpAnyH_take (i := 10) (v := ?_) rfl (by kernel_rfl) (by kernel_rfl) (by kernel_rfl) (fun _ _ _ h => h) (Or.inl ⟨by rfl, ?_⟩) (by assumption) ?_
                rotate_left
                · (intro w hSw; (try dsimp only at hSw); go_simp; try with_reducible rfl)
                try simp only [List.getElem_toArray, List.getElem_cons_zero, List.getElem_cons_succ, Act.put, List.setIfInBounds_toArray, List.set_cons_zero, List.set_cons_succ]
                refine wpAnyH_done (by kernel_rfl) ?_ _
                go_wp2_with fail
                go_meet
                first
                  | exact ⟨_, _, _, rfl, rfl, (X.out.setN N).set _, (T4.out.bx X.out 0 _).bx (X.out.setN N) 1 _, (Bw.out.setCell ho _).setCell ho _⟩
                  | exact ⟨_, _, _, rfl, rfl, Bx.new _ _ _, T40.out.alloc _, Bw00.out.alloc ho _⟩
              · skip
                try simp only [List.getElem_toArray]
                have X := Lib.hid (Bx.new 0 (.slice none 0 0) v2)
                have ho : w19.heap.size ≤ v2.heap.size := Bw.out.size
                replace T1 := Lib.hid (T1.out.alloc (Obj.cells #[.int .i64 0, .slice none 0 0] 25))
                replace T3 := Lib.hid (T3.out.alloc (Obj.cells #[.int .i64 0, .slice none 0 0] 25))
                replace Bw := Lib.hid (Bw.out.alloc Bw.out.size (Obj.cells #[.int .i64 0, .slice none 0 0] 25))
                go_simp
                refine hK.out _ _ (by first | exact XS.out _ Bw.out | exact XS.out _ ((Bw.out.setCell ho _).setCell ho _) | exact XS.out _ (Bw00.out.alloc ho _)) (fun hHeld => ?_)
                clear hK K
                try simp only [List.getElem_toArray, List.getElem_cons_zero, List.getElem_cons_succ, Act.put, List.setIfInBounds_toArray, List.set_cons_zero, List.set_cons_succ]
                refine wpAnyH_ready (rs := [4]) (by kernel_rfl) (by simp) ?_
                refine AllReadyH.cons rfl (fun K hK => ?_) AllReadyH.nil
                try simp only [List.getElem_toArray]
                go_simp
                refine (HI.out _ _ _ T1.out.rd T3.out.rd).mono ?_
                rintro e v7 ⟨a7, c7, rfl, hin7, hb7⟩
                replace X := Lib.hid (X.out.next hb7 X.out.lt)
                replace T1 := Lib.hid (T1.out.below hb7 (Nat.le_refl _))
                replace T3 := Lib.hid (T3.out.below hb7 (Nat.le_refl _))
                have Bw7_ := Lib.hid Bw.out
                replace Bw := Lib.hid (Bw.out.trans (hb7.mono Bw.out.size))
                have Bw00 := Lib.hid Bw.out
                have T4 := Lib.hid (hin7.mono (B' := w19.heap.size) Bw7_.out.size)
                clear hin7 hb7
                refine hK.out _ _ (by first | exact XS.out _ Bw.out | exact XS.out _ ((Bw.out.setCell ho _).setCell ho _) | exact XS.out _ (Bw00.out.alloc ho _)) (fun hHeld => ?_)
                clear hK K
                try simp only [List.getElem_toArray, List.getElem_cons_zero, List.getElem_cons_succ, Act.put, List.setIfInBounds_toArray, List.set_cons_zero, List.set_cons_succ]
                refine wpAnyH_take (i := 5) (v := ?_) rfl (by kernel_rfl) (by kernel_rfl) (by kernel_rfl) (fun _ _ _ h => h) (Or.inl ⟨by rfl, ?_⟩) (by assumption) ?_
                rotate_left
                · (intro w hSw; (try dsimp only at hSw); go_simp; try with_reducible rfl)
                try simp only [List.getElem_toArray, List.getElem_cons_zero, List.getElem_cons_succ, Act.put, List.setIfInBounds_toArray, List.set_cons_zero, List.set_cons_succ]
                refine wpAnyH_take (i := 6) (v := ?_) rfl (by kernel_rfl) (by kernel_rfl) (by kernel_rfl) (fun _ _ _ h => h) (Or.inl ⟨by rfl, ?_⟩) (by assumption) ?_
                rotate_left
                · (intro w hSw; (try dsimp only at hSw); go_simp; try with_reducible rfl)
                try simp only [List.getElem_toArray, List.getElem_cons_zero, List.getElem_cons_succ, Act.put, List.setIfInBounds_toArray, List.set_cons_zero, List.set_cons_succ]
                refine wpAnyH_take (i := 7) (v := ?_) rfl (by kernel_rfl) (by kernel_rfl) (by kernel_rfl) (fun _ _ _ h => h) (Or.inl ⟨by rfl, ?_⟩) (by assumption) ?_
                rotate_left
                · (intro w hSw; (try dsimp only at hSw); go_simp; try with_reducible rfl)
                try simp only [List.getElem_toArray, List.getElem_cons_zero, List.getElem_cons_succ, Act.put, List.setIfInBounds_toArray, List.set_cons_zero, List.set_cons_succ]
                refine wpAnyH_ready (rs := [9]) (by kernel_rfl) (by simp) ?_
                refine AllReadyH.cons rfl (fun K hK => ?_) AllReadyH.nil
                try simp only [List.getElem_toArray]
                have x0 := X.out.out.at0
                have x1 := X.out.out.at1
                have q0 := X.out.out.free0
                have q1 := X.out.out.free1
                go_simp
                clear x0 x1 q0 q1
                refine hK.out _ _ (by first | exact XS.out _ Bw.out | exact XS.out _ ((Bw.out.setCell ho _).setCell ho _) | exact XS.out _ (Bw00.out.alloc ho _)) (fun hHeld => ?_)
                clear hK K
                try simp only [List.getElem_toArray, List.getElem_cons_zero, List.getElem_cons_succ, Act.put, List.setIfInBounds_toArray, List.set_cons_zero, List.set_cons_succ]
                refine wpAnyH_take (i := 10) (v := ?_) rfl (by kernel_rfl) (by kernel_rfl) (by kernel_rfl) (fun _ _ _ h => h) (Or.inl ⟨by rfl, ?_⟩) (by assumption) ?_
                rotate_left
                · (intro w hSw; (try dsimp only at hSw); go_simp; try with_reducible rfl)
                try simp only [List.getElem_toArray, List.getElem_cons_zero, List.getElem_cons_succ, Act.put, List.setIfInBounds_toArray, List.set_cons_zero, List.set_cons_succ]
                refine wpAnyH_done (by kernel_rfl) ?_ _
                go_wp2_with fail
                go_meet
                first
                  | exact ⟨_, _, _, rfl, rfl, (X.out.setN N).set _, (T4.out.bx X.out 0 _).bx (X.out.setN N) 1 _, (Bw.out.setCell ho _).setCell ho _⟩
                  | exact ⟨_, _, _, rfl, rfl, Bx.new _ _ _, T40.out.alloc _, Bw00.out.alloc ho _⟩
            · skip
              try simp only [List.getElem_toArray]
              have X := Lib.hid (Bx.new 0 (.slice none 0 0) v1)
              have ho : w19.heap.size ≤ v1.heap.size := Bw.out.size
              replace T1 := Lib.hid (T1.out.alloc (Obj.cells #[.int .i64 0, .slice none 0 0] 25))
              replace Bw := Lib.hid (Bw.out.alloc Bw.out.size (Obj.cells #[.int .i64 0, .slice none 0 0] 25))
              go_simp
              refine hK.out _ _ (by first | exact XS.out _ Bw.out | exact XS.out _ ((Bw.out.setCell ho _).setCell ho _) | exact XS.out _ (Bw00.out.alloc ho _)) (fun hHeld => ?_)
              clear hK K
              try simp only [List.getElem_toArray, List.getElem_cons_zero, List.getElem_cons_succ, Act.put, List.setIfInBounds_toArray, List.set_cons_zero, List.set_cons_succ]
              refine wpAnyH_ready (rs := [3]) (by kernel_rfl) (by simp) ?_
              refine AllReadyH.cons rfl (fun K hK => ?_) AllReadyH.nil
              try simp only [List.getElem_toArray]
              go_simp
              refine (toClass nb _ ys _ (HBW.out.below Bw.out (Nat.le_refl _)) hsy).mono ?_
              rintro e v10 ⟨a10, c10, rfl, hin10, hb10⟩
              replace X := Lib.hid (X.out.next hb10 X.out.lt)
              replace T1 := Lib.hid (T1.out.below hb10 (Nat.le_refl _))
              have Bw10_ := Lib.hid Bw.out
              replace Bw := Lib.hid (Bw.out.trans (hb10.mono Bw.out.size))
              have Bw00 := Lib.hid Bw.out
              have T3 := Lib.hid (hin10.mono (Nat.zero_le _))
              clear hin10 hb10
              refine hK.out _ _ (by first | exact XS.out _ Bw.out | exact XS.out _ ((Bw.out.setCell ho _).setCell ho _) | exact XS.out _ (Bw00.out.alloc ho _)) (fun hHeld => ?_)
              clear hK K
              try simp only [List.getElem_toArray, List.getElem_cons_zero, List.getElem_cons_succ, Act.put, List.setIfInBounds_toArray, List.set_cons_zero, List.set_cons_succ]
              refine wpAnyH_ready (rs := [4]) (by kernel_rfl) (by simp) ?_
              refine AllReadyH.cons rfl (fun K hK => ?_) AllReadyH.nil
              try simp only [List.getElem_toArray]
              go_simp
              refine (HI.out _ _ _ T1.out.rd T3.out.rd).mono ?_
              rintro e v11 ⟨a11, c11, rfl, hin11, hb11⟩
              replace X := Lib.hid (X.out.next hb11 X.out.lt)
              replace T1 := Lib.hid (T1.out.below hb11 (Nat.le_refl _))
              replace T3 := Lib.hid (T3.out.below hb11 (Nat.le_refl _))
              have Bw11_ := Lib.hid Bw.out
              replace Bw := Lib.hid (Bw.out.trans (hb11.mono Bw.out.size))
              have Bw00 := Lib.hid Bw.out
              have T4 := Lib.hid (hin11.mono (B' := w19.heap.size) Bw11_.out.size)
              clear hin11 hb11
              refine hK.out _ _ (by first | exact XS.out _ Bw.out | exact XS.out _ ((Bw.out.setCell ho _).setCell ho _) | exact XS.out _ (Bw00.out.alloc ho _)) (fun hHeld => ?_)
              clear hK K
              try simp only [List.getElem_toArray, List.getElem_cons_zero, List.getElem_cons_succ, Act.put, List.setIfInBounds_toArray, List.set_cons_zero, List.set_cons_succ]
              refine wpAnyH_take (i := 5) (v := ?_) rfl (by kernel_rfl) (by kernel_rfl) (by kernel_rfl) (fun _ _ _ h => h) (Or.inl ⟨by rfl, ?_⟩) (by assumption) ?_
              rotate_left
              · (intro w hSw; (try dsimp only at hSw); go_simp; try with_reducible rfl)
              try simp only [List.getElem_toArray, List.getElem_cons_zero, List.getElem_cons_succ, Act.put, List.setIfInBounds_toArray, List.set_cons_zero, List.set_cons_succ]
              refine wpAnyH_take (i := 6) (v := ?_) rfl (by kernel_rfl) (by kernel_rfl) (by kernel_rfl) (fun _ _ _ h => h) (Or.inl ⟨by rfl, ?_⟩) (by assumption) ?_
              rotate_left
              · (intro w hSw; (try dsimp only at hSw); go_simp; try with_reducible rfl)
              try simp only [List.getElem_toArray, List.getElem_cons_zero, List.getElem_cons_succ, Act.put, List.setIfInBounds_toArray, List.set_cons_zero, List.set_cons_succ]
              refine wpAnyH_take (i := 7) (v := ?_) rfl (by kernel_rfl) (by kernel_rfl) (by kernel_rfl) (fun _ _ _ h => h) (Or.inl ⟨by rfl, ?_⟩) (by assumption) ?_
              rotate_left
              · (intro w hSw; (try dsimp only at hSw); go_simp; try with_reducible rfl)
              try simp only [List.getElem_toArray, List.getElem_cons_zero, List.getElem_cons_succ, Act.put, List.setIfInBounds_toArray, List.set_cons_zero, List.set_cons_succ]
              refine wpAnyH_ready (rs := [9]) (by kernel_rfl) (by simp) ?_
              refine AllReadyH.cons rfl (fun K hK => ?_) AllReadyH.nil
              try simp only [List.getElem_toArray]
              have x0 := X.out.out.at0
              have x1 := X.out.out.at1
              have q0 := X.out.out.free0
              have q1 := X.out.out.free1
              go_simp
              clear x0 x1 q0 q1
              refine hK.out _ _ (by first | exact XS.out _ Bw.out | exact XS.out _ ((Bw.out.setCell ho _).setCell ho _) | exact XS.out _ (Bw00.out.alloc ho _)) (fun hHeld => ?_)
              clear hK K
              try simp only [List.getElem_toArray, List.getElem_cons_zero, List.getElem_cons_succ, Act.put, List.setIfInBounds_toArray, List.set_cons_zero, List.set_cons_succ]
              refine wpAnyH_take (i := 10) (v := ?_) rfl (by kernel_rfl) (by kernel_rfl) (by kernel_rfl) (fun _ _ _ h => h) (Or.inl ⟨by rfl, ?_⟩) (by assumption) ?_
              rotate_left
              · (intro w hSw; (try dsimp only at hSw); go_simp; try with_reducible rfl)
              try simp only [List.getElem_toArray, List.getElem_cons_zero, List.getElem_cons_succ, Act.put, List.setIfInBounds_toArray, List.set_cons_zero, List.set_cons_succ]
              refine wpAnyH_done (by kernel_rfl) ?_ _
              go_wp2_with fail
              go_meet
              first
                | exact ⟨_, _, _, rfl, rfl, (X.out.setN N).set _, (T4.out.bx X.out 0 _).bx (X.out.setN N) 1 _, (Bw.out.setCell ho _).setCell ho _⟩
                | exact ⟨_, _, _, rfl, rfl, Bx.new _ _ _, T40.out.alloc _, Bw00.out.alloc ho _⟩
          · skip
            try simp only [List.getElem_toArray]
            have X := Lib.hid (Bx.new 0 (.slice none 0 0) v0)
            have ho : w19.heap.size ≤ v0.heap.size := Bw.out.size
            replace Bw := Lib.hid (Bw.out.alloc Bw.out.size (Obj.cells #[.int .i64 0, .slice none 0 0] 25))
            go_simp
            refine hK.out _ _ (by first | exact XS.out _ Bw.out | exact XS.out _ ((Bw.out.setCell ho _).setCell ho _) | exact XS.out _ (Bw00.out.alloc ho _)) (fun hHeld => ?_)
            clear hK K
            try simp only [List.getElem_toArray, List.getElem_cons_zero, List.getElem_cons_succ, Act.put, List.setIfInBounds_toArray, List.set_cons_zero, List.set_cons_succ]
            refine wpAnyH_ready (rs := [1]) (by kernel_rfl) (by simp) ?_
            refine AllReadyH.cons rfl (fun K hK => ?_) AllReadyH.nil
            try simp only [List.getElem_toArray]
            go_simp
            refine (toClass na _ xs _ (HAW.out.below Bw.out (Nat.le_refl _)) hsz).mono ?_
            rintro e v14 ⟨a14, c14, rfl, hin14, hb14⟩
            replace X := Lib.hid (X.out.next hb14 X.out.lt)
            have Bw14_ := Lib.hid Bw.out
            replace Bw := Lib.hid (Bw.out.trans (hb14.mono Bw.out.size))
            have Bw00 := Lib.hid Bw.out
            have T1 := Lib.hid (hin14.mono (Nat.zero_le _))
            clear hin14 hb14
            refine hK.out _ _ (by first | exact XS.out _ Bw.out | exact XS.out _ ((Bw.out.setCell ho _).setCell ho _) | exact XS.out _ (Bw00.out.alloc ho _)) (fun hHeld => ?_)
            clear hK K
            try simp only [List.getElem_toArray, List.getElem_cons_zero, List.getElem_cons_succ, Act.put, List.setIfInBounds_toArray, List.set_cons_zero, List.set_cons_succ]
            refine wpAnyH_ready (rs := [3]) (by kernel_rfl) (by simp) ?_
            refine AllReadyH.cons rfl (fun K hK => ?_) AllReadyH.nil
            try simp only [List.getElem_toArray]
            go_simp
            refine (toClass nb _ ys _ (HBW.out.below Bw.out (Nat.le_refl _)) hsy).mono ?_
            rintro e v15 ⟨a15, c15, rfl, hin15, hb15⟩
            replace X := Lib.hid (X.out.next hb15 X.out.lt)
            replace T1 := Lib.hid (T1.out.below hb15 (Nat.le_refl _))
            have Bw15_ := Lib.hid Bw.out
            replace Bw := Lib.hid (Bw.out.trans (hb15.mono Bw.out.size))
            have Bw00 := Lib.hid Bw.out
            have T3 := Lib.hid (hin15.mono (Nat.zero_le _))
            clear hin15 hb15
            refine hK.out _ _ (by first | exact XS.out _ Bw.out | exact XS.out _ ((Bw.out.setCell ho _).setCell ho _) | exact XS.out _ (Bw00.out.alloc ho _)) (fun hHeld => ?_)
            clear hK K
            try simp only [List.getElem_toArray, List.getElem_cons_zero, List.getElem_cons_succ, Act.put, List.setIfInBounds_toArray, List.set_cons_zero, List.set_cons_succ]
            refine wpAnyH_ready (rs := [4]) (by kernel_rfl) (by simp) ?_
            refine AllReadyH.cons rfl (fun K hK => ?_) AllReadyH.nil
            try simp only [List.getElem_toArray]
            go_simp
            refine (HI.out _ _ _ T1.out.rd T3.out.rd).mono ?_
            rintro e v16 ⟨a16, c16, rfl, hin16, hb16⟩
            replace X := Lib.hid (X.out.next hb16 X.out.lt)
            replace T1 := Lib.hid (T1.out.below hb16 (Nat.le_refl _))
            replace T3 := Lib.hid (T3.out.below hb16 (Nat.le_refl _))
            have Bw16_ := Lib.hid Bw.out
            replace Bw := Lib.hid (Bw.out.trans (hb16.mono Bw.out.size))
            have Bw00 := Lib.hid Bw.out
            have T4 := Lib.hid (hin16.mono (B' := w19.heap.size) Bw16_.out.size)
            clear hin16 hb16
            refine hK.out _ _ (by first | exact XS.out _ Bw.out | exact XS.out _ ((Bw.out.setCell ho _).setCell ho _) | exact XS.out _ (Bw00.out.alloc ho _)) (fun hHeld => ?_)
            clear hK K
            try simp only [List.getElem_toArray, List.getElem_cons_zero, List.getElem_cons_succ, Act.put, List.setIfInBounds_toArray, List.set_cons_zero, List.set_cons_succ]
            refine wpAnyH_take (i := 5) (v := ?_) rfl (by kernel_rfl) (by kernel_rfl) (by kernel_rfl) (fun _ _ _ h => h) (Or.inl ⟨by rfl, ?_⟩) (by assumption) ?_
            rotate_left
            · (intro w hSw; (try dsimp only at hSw); go_simp; try with_reducible rfl)
            try simp only [List.getElem_toArray, List.getElem_cons_zero, List.getElem_cons_succ, Act.put, List.setIfInBounds_toArray, List.set_cons_zero, List.set_cons_succ]
            refine wpAnyH_take (i := 6) (v := ?_) rfl (by kernel_rfl) (by kernel_rfl) (by kernel_rfl) (fun _ _ _ h => h) (Or.inl ⟨by rfl, ?_⟩) (by assumption) ?_
            rotate_left
            · (intro w hSw; (try dsimp only at hSw); go_simp; try with_reducible rfl)
            try simp only [List.getElem_toArray, List.getElem_cons_zero, List.getElem_cons_succ, Act.put, List.setIfInBounds_toArray, List.set_cons_zero, List.set_cons_succ]
            refine wpAnyH_take (i := 7) (v := ?_) rfl (by kernel_rfl) (by kernel_rfl) (by kernel_rfl) (fun _ _ _ h => h) (Or.inl ⟨by rfl, ?_⟩) (by assumption) ?_
            rotate_left
            · (intro w hSw; (try dsimp only at hSw); go_simp; try with_reducible rfl)
            try simp only [List.getElem_toArray, List.getElem_cons_zero, List.getElem_cons_succ, Act.put, List.setIfInBounds_toArray, List.set_cons_zero, List.set_cons_succ]
            refine wpAnyH_ready (rs := [9]) (by kernel_rfl) (by simp) ?_
            refine AllReadyH.cons rfl (fun K hK => ?_) AllReadyH.nil
            try simp only [List.getElem_toArray]
            have x0 := X.out.out.at0
            have x1 := X.out.out.at1
            have q0 := X.out.out.free0
            have q1 := X.out.out.free1
            go_simp
            clear x0 x1 q0 q1
            refine hK.out _ _ (by first | exact XS.out _ Bw.out | exact XS.out _ ((Bw.out.setCell ho _).setCell ho _) | exact XS.out _ (Bw00.out.alloc ho _)) (fun hHeld => ?_)
            clear hK K
            try simp only [List.getElem_toArray, List.getElem_cons_zero, List.getElem_cons_succ, Act.put, List.setIfInBounds_toArray, List.set_cons_zero, List.set_cons_succ]
            refine wpAnyH_take (i := 10) (v := ?_) rfl (by kernel_rfl) (by kernel_rfl) (by kernel_rfl) (fun _ _ _ h => h) (Or.inl ⟨by rfl, ?_⟩) (by assumption) ?_
            rotate_left
            · (intro w hSw; (try dsimp only at hSw); go_simp; try with_reducible rfl)
            try simp only [List.getElem_toArray, List.getElem_cons_zero, List.getElem_cons_succ, Act.put, List.setIfInBounds_toArray, List.set_cons_zero, List.set_cons_succ]
            refine wpAnyH_done (by kernel_rfl) ?_ _
            go_wp2_with fail
            go_meet
            first
              | exact ⟨_, _, _, rfl, rfl, (X.out.setN N).set _, (T4.out.bx X.out 0 _).bx (X.out.setN N) 1 _, (Bw.out.setCell ho _).setCell ho _⟩
              | exact ⟨_, _, _, rfl, rfl, Bx.new _ _ _, T40.out.alloc _, Bw00.out.alloc ho _⟩
        case rest =>
          clear xa0 xa1 xb0 xb1 x60 x61 x100 x101
          obtain ⟨oX15, a20, c20, rfl, rfl, hbx, hin20, hb20⟩ := hcut
          obtain ⟨w20, rfl⟩ : ∃ w', w' = wc := ⟨_, rfl⟩
          have hz20 := hb20.size
          replace XA := Lib.hid (XA.out.next hb20 XA.out.lt)
          replace XB := Lib.hid (XB.out.next hb20 XB.out.lt)
          replace X6 := Lib.hid (X6.out.next hb20 X6.out.lt)
          replace X10 := Lib.hid (X10.out.next hb20 X10.out.lt)
          replace I6 := Lib.hid (I6.out.below hb20 (Nat.le_refl _))
          replace I10 := Lib.hid (I10.out.below hb20 (Nat.le_refl _))
          replace B := Lib.hid (B.out.trans (hb20.mono B.out.size))
          have X15 := Lib.hid hbx
          have I15 := Lib.hid (hin20.mono (Nat.zero_le _))
          have LI15 := Lib.hid (fun r hr => hin20.lt r hr)
          clear hin20 hb20 hbx HAW HBW XS
          have xa0 := XA.out.out.at0
          have xa1 := XA.out.out.at1
          have xb0 := XB.out.out.at0
          have xb1 := XB.out.out.at1
          have x60 := X6.out.out.at0
          have x61 := X6.out.out.at1
          have x100 := X10.out.out.at0
          have x101 := X10.out.out.at1
          have x150 := X15.out.out.at0
          have x151 := X15.out.out.at1
          go_wp2_with fail
          clear xa0 xa1 xb0 xb1 x60 x61 x100 x101 x150 x151
          refine (eqClass N N _ _ R R _ I15.out.rd I6.out.rd).mono ?_
          rintro e w21 ⟨rfl, hb21⟩
          rw [show (decide (N = N) && eqB R R) = true by simp [eqB]]
          have hz21 := hb21.size
          replace XA := Lib.hid (XA.out.next hb21 XA.out.lt)
          replace XB := Lib.hid (XB.out.next hb21 XB.out.lt)
          replace X6 := Lib.hid (X6.out.next hb21 X6.out.lt)
          replace X10 := Lib.hid (X10.out.next hb21 X10.out.lt)
          replace X15 := Lib.hid (X15.out.next hb21 X15.out.lt)
          replace I6 := Lib.hid (I6.out.below hb21 (Nat.le_refl _))
          replace I10 := Lib.hid (I10.out.below hb21 (Nat.le_refl _))
          replace I15 := Lib.hid (I15.out.below hb21 (Nat.le_refl _))
          replace B := Lib.hid (B.out.trans (hb21.mono B.out.size))
          clear hb21
          have xa0 := XA.out.out.at0
          have xa1 := XA.out.out.at1
          have xb0 := XB.out.out.at0
          have xb1 := XB.out.out.at1
          have x60 := X6.out.out.at0
          have x61 := X6.out.out.at1
          have x100 := X10.out.out.at0
          have x101 := X10.out.out.at1
          have x150 := X15.out.out.at0
          have x151 := X15.out.out.at1
          go_wp2_with fail
          clear xa0 xa1 xb0 xb1 x60 x61 x100 x101 x150 x151
          refine (heldClass N _ R.length 1 _ I10.out.rd (by omega) hR).mono ?_
          rintro e w22 ⟨rfl, hb22⟩
          have hz22 := hb22.size
          replace XA := Lib.hid (XA.out.next hb22 XA.out.lt)
          replace XB := Lib.hid (XB.out.next hb22 XB.out.lt)
          replace X6 := Lib.hid (X6.out.next hb22 X6.out.lt)
          replace X10 := Lib.hid (X10.out.next hb22 X10.out.lt)
          replace X15 := Lib.hid (X15.out.next hb22 X15.out.lt)
          replace I6 := Lib.hid (I6.out.below hb22 (Nat.le_refl _))
          replace I10 := Lib.hid (I10.out.below hb22 (Nat.le_refl _))
          replace I15 := Lib.hid (I15.out.below hb22 (Nat.le_refl _))
          replace B := Lib.hid (B.out.trans (hb22.mono B.out.size))
          clear hb22
          have xa0 := XA.out.out.at0
          have xa1 := XA.out.out.at1
          have xb0 := XB.out.out.at0
          have xb1 := XB.out.out.at1
          have x60 := X6.out.out.at0
          have x61 := X6.out.out.at1
          have x100 := X10.out.out.at0
          have x101 := X10.out.out.at1
          have x150 := X15.out.out.at0
          have x151 := X15.out.out.at1
          go_wp2_with fail
          clear xa0 xa1 xb0 xb1 x60 x61 x100 x101 x150 x151
          go_ret
          exact ⟨rfl, B.out⟩
    · have HL2 := Lib.hid (show left' (1048576 - (xs.length : Int)) ys.length = -1 by rw [left', if_pos (by omega)])
      go_enter Try.func5, Try.ntmps5
      go_wp2_with fail
      generalize ((w.alloc (Obj.cells #[.int .i64 na, .slice a xs.length ca] 35)).alloc (Obj.cells #[.int .i64 nb, .slice b ys.length cb] 35)) = w0 at *
      refine (szClass _ _ _ _ _ _ (by omega) (by omega) ha3).mono ?_
      rintro e w1 ⟨rfl, hb1⟩
      rw [HL.out]
      have hz0 := HZ.out
      have hz1 := hb1.size
      replace XB := Lib.hid (XB.out.next hb1 XB.out.lt)
      replace B := Lib.hid (B.out.trans (hb1.mono B.out.size))
      clear hb1 XA
      have xb0 := XB.out.out.at0
      have xb1 := XB.out.out.at1
      go_wp2_with fail
      refine (szClass _ _ _ _ _ _ (by omega) (by omega) hb3).mono ?_
      rintro e w2 ⟨rfl, hb2⟩
      rw [HL2.out]
      replace B := Lib.hid (B.out.trans (hb2.mono B.out.size))
      clear hb2 xb0 xb1
      go_wp2_with fail
      go_ret
      exact ⟨rfl, B.out⟩
  · have HL := Lib.hid (show left' 1048576 xs.length = -1 by rw [left', if_pos (by omega)])
    go_enter Try.func5, Try.ntmps5
    go_wp2_with fail
    generalize ((w.alloc (Obj.cells #[.int .i64 na, .slice a xs.length ca] 35)).alloc (Obj.cells #[.int .i64 nb, .slice b ys.length cb] 35)) = w0 at *
    refine (szClass _ _ _ _ _ _ (by omega) (by omega) ha3).mono ?_
    rintro e w1 ⟨rfl, hb1⟩
    rw [HL.out]
    replace B := Lib.hid (B.out.trans (hb1.mono B.out.size))
    clear hb1
    go_wp2_with fail
    go_ret
    exact ⟨rfl, B.out⟩

end Go.Proofs.Ytiocaopabkbgpaa
