/- FnLinkOf's walk: links have a point less to shatter. Conditions: the code is a slice of bytes. -/
import Derived.Test.YtbjaacppomobeaaDrawsLk
import Derived.Test.YtbjaacppomobeaaEdg
import Derived.Test.YtbjaacppomobeaaLawHc
import Derived.Test.YtbjaacppomobeaaLink
import Derived.Test.YtbjaacppomobeaaLinkS
import Derived.Test.YtbjaacppomobeaaLnkM
import Derived.Test.YtbjaacppomobeaaZC
import Derived.Test.YtbjaacppomobeaaZH
import Derived.Test.YtbjaacppomobeaaZJ
import Derived.Test.YtbjaacppomobeaaZK
namespace Go.Proofs.Ytbjaacppomobeaa
open Go.RowKit

theorem eqB_self (xs : List Int) : eqB xs xs = true := eqB_of rfl (fun _ _ => rfl)
theorem lkf_bad {n : Int} {zs : List Int} {x : Int} (h : ptB n zs x = false) : rmN n zs x = 0 ∧ lnkL n zs x = [] := by rw [rmN, lnkL, h]; exact ⟨rfl, rfl⟩


set_option maxHeartbeats 6400000 in
set_option maxRecDepth 100000 in
theorem walkFnLinkOf (a : Option Addr) (b off n cap : Nat) (w : World) (hc : n ≤ cap) (hcap : cap ≤ maxLen) (h : Byt w a b off n) :
    Calls Try.prog 6 #[.slice a n cap] w fun e w' => e = .returned (.bool true) ∧ Below w.heap.size w w' := by
  by_cases hn : n ≤ 1048576
  · have HD := Lib.hid (dDrawLinkOf a b off n cap w hc hn hcap h)
    clear h
    go_enter Try.func6, Try.ntmps6
    go_wp2_with fail
    refine HD.out.mono ?_
    rintro e w1 ⟨N, zs, s, hbd, a1, c1, rfl, hin, hb⟩
    generalize hL : zs.length = L at *
    have X := Lib.hid (Bx.new N (.slice a1 L c1) w1)
    have I1 := Lib.hid ((hin.mono (Nat.zero_le _)).alloc (Obj.cells #[.int .i64 N, .slice a1 L c1] 28))
    have B := Lib.hid (hb.alloc hb.size (Obj.cells #[.int .i64 N, .slice a1 L c1] 28))
    have HZ2 := Lib.hid (show (w1.alloc (Obj.cells #[.int .i64 N, .slice a1 L c1] 28)).heap.size = w1.heap.size + 1 by simp)
    have hz1 := hb.size
    clear hin hb HD
    go_wp2_with fail
    generalize (w1.alloc (Obj.cells #[.int .i64 N, .slice a1 L c1] 28)) = w2 at *
    have hz2 := HZ2.out
    generalize ho : w1.heap.size = o at *
    obtain ⟨hN0, hN1, hL34⟩ := hbd
    by_cases hv : vldB N zs = true
    · obtain ⟨m, ns, rfl, rfl, hcl⟩ := vldB_cls hv
      have hL2 : ns.length = L := by rw [← hL, toI_length]
      have hm := hcl.pts
      have HI := Lib.hid (fun v w h => implLinkOf (m : Int) v (toI ns) s w h)
      have HS := Lib.hid (fun v w h => specLinkOf (m : Int) v (toI ns) s w h)
      have HV := Lib.hid (fun v w h => implValid (m : Int) v (toI ns) w h)
      rw [hv] at HV
      by_cases hs0 : s < 0
      · have hd1 : decide (s < 0) = true := decide_eq_true hs0
        have hp : ptB (m : Int) (toI ns) s = false := by
          simp only [ptB, Bool.and_eq_false_iff, decide_eq_false_iff_not]
          omega
        rw [(lkf_bad hp).1, (lkf_bad hp).2] at HI HS
        clear hp hv hcl
        refine (HI.out _ _ I1.out.rd).mono ?_
        rintro e w3 ⟨a3, c3, rfl, hin3, hb3⟩
        rw [show ([] : List Int).length = 0 from rfl] at hin3 ⊢
        have hz3 := hb3.size
        replace X := Lib.hid (X.out.next hb3 X.out.lt)
        replace I1 := Lib.hid (I1.out.below hb3 (Nat.le_refl _))
        replace B := Lib.hid (B.out.trans (hb3.mono B.out.size))
        have IG := Lib.hid (hin3.mono (Nat.zero_le _))
        clear hin3 hb3
        have Y := Lib.hid (Bx.new 0 (.slice a3 0 c3) w3)
        replace X := Lib.hid (X.out.alloc (Obj.cells #[.int .i64 0, .slice a3 0 c3] 28))
        replace I1 := Lib.hid (I1.out.alloc (Obj.cells #[.int .i64 0, .slice a3 0 c3] 28))
        replace IG := Lib.hid (IG.out.alloc (Obj.cells #[.int .i64 0, .slice a3 0 c3] 28))
        replace B := Lib.hid (B.out.alloc B.out.size (Obj.cells #[.int .i64 0, .slice a3 0 c3] 28))
        have HZ := Lib.hid (show (w3.alloc (Obj.cells #[.int .i64 0, .slice a3 0 c3] 28)).heap.size = w3.heap.size + 1 by simp)
        go_wp2_with fail
        generalize (w3.alloc (Obj.cells #[.int .i64 0, .slice a3 0 c3] 28)) = w4 at *
        have hz4 := HZ.out
        clear HZ
        generalize ho2 : w3.heap.size = o2 at *
        have x0 := X.out.out.at0
        have x1 := X.out.out.at1
        have y0 := Y.out.out.at0
        have y1 := Y.out.out.at1
        go_wp2_with fail
        refine wp_region_held_drew (S := fun w' => w'.cell? ⟨o, 0, none⟩ = some (.int .i64 (m : Int)) ∧ w'.cell? ⟨o, 1, none⟩ = some (.slice a1 L c1) ∧ w'.cell? ⟨o2, 0, none⟩ = some (.int .i64 0) ∧ w'.cell? ⟨o2, 1, none⟩ = some (.slice a3 0 c3)) (by kernel_rfl) (by first | exact ⟨x0, x1, y0, y1⟩ | go_keep) (fun hHeld => ?_)
        refine wpAnyH_take (i := 0) (v := ?_) rfl (by kernel_rfl) (by kernel_rfl) (by kernel_rfl) (fun _ _ _ h => h) (Or.inl ⟨by rfl, ?_⟩) (by assumption) ?_
        rotate_left
        · (intro w hSw; (try dsimp only at hSw); go_simp; try with_reducible rfl)
        try simp only [List.getElem_toArray, List.getElem_cons_zero, Act.put, List.setIfInBounds_toArray, List.set_cons_zero, List.set_cons_succ]
        refine wpAnyH_take (i := 1) (v := ?_) rfl (by kernel_rfl) (by kernel_rfl) (by kernel_rfl) (fun _ _ _ h => h) (Or.inl ⟨by rfl, ?_⟩) (by assumption) ?_
        rotate_left
        · (intro w hSw; (try dsimp only at hSw); go_simp; try with_reducible rfl)
        try simp only [List.getElem_toArray, List.getElem_cons_zero, List.getElem_cons_succ, Act.put, List.setIfInBounds_toArray, List.set_cons_zero, List.set_cons_succ]
        refine wpAnyH_take (i := 2) (v := ?_) rfl (by kernel_rfl) (by kernel_rfl) (by kernel_rfl) (fun _ _ _ h => h) (Or.inl ⟨by rfl, ?_⟩) (by assumption) ?_
        rotate_left
        · (intro w hSw; (try dsimp only at hSw); go_simp; try with_reducible rfl)
        try simp only [List.getElem_toArray, List.getElem_cons_zero, List.getElem_cons_succ, Act.put, List.setIfInBounds_toArray, List.set_cons_zero, List.set_cons_succ]
        refine wpAnyH_ready (rs := [3]) (by kernel_rfl) (by simp) ?_
        refine AllReadyH.cons rfl (fun K hK => ?_) AllReadyH.nil
        try simp only [List.getElem_toArray]
        go_simp
        (go_at_call 37; refine (HS.out _ _ (by first | exact I1.out.rd | exact I1.out.rd.below (k := w4.heap.size) ((Below.refl _ _).drew) (Nat.le_refl _))).mono ?_; rintro e w5 ⟨a5, c5, rfl, hin5, hbd⟩; rw [show ([] : List Int).length = 0 from rfl] at hin5 ⊢; have hb5 : Below w4.heap.size w4 w5 := (by first | exact hbd | exact ⟨hbd.os, hbd.tape, hbd.output, hbd.size, hbd.block⟩); clear hbd; have hz5 := hb5.size; replace X := Lib.hid (X.out.next hb5 X.out.lt); replace Y := Lib.hid (Y.out.next hb5 Y.out.lt); replace I1 := Lib.hid (I1.out.below hb5 (Nat.le_refl _)); replace IG := Lib.hid (IG.out.below hb5 (Nat.le_refl _)); replace B := Lib.hid (B.out.trans (hb5.mono B.out.size)); have IS := Lib.hid (hin5.mono (Nat.zero_le _)); clear hin5; clear hb5; have x0_5 := X.out.out.at0; have x1_5 := X.out.out.at1; have y0_5 := Y.out.out.at0; have y1_5 := Y.out.out.at1)
        refine hK.out _ _ (by first | exact ⟨x0_5, x1_5, y0_5, y1_5⟩ | exact ⟨x0, x1, y0, y1⟩ | go_keep) (fun hHeld => ?_)
        clear hK K
        try simp only [List.getElem_toArray, List.getElem_cons_zero, List.getElem_cons_succ, Act.put, List.setIfInBounds_toArray, List.set_cons_zero, List.set_cons_succ]
        refine wpAnyH_ready (rs := [4]) (by kernel_rfl) (by simp) ?_
        refine AllReadyH.cons rfl (fun K hK => ?_) AllReadyH.nil
        try simp only [List.getElem_toArray]
        go_simp
        (go_at_call 30; refine (lawsEqualClass _ _ _ _ _ _ _ _ (by first | exact IG.out.rd | exact IG.out.rd.below (k := w5.heap.size) ((Below.refl _ _).drew) (Nat.le_refl _)) (by first | exact IS.out.rd | exact IS.out.rd.below (k := w5.heap.size) ((Below.refl _ _).drew) (Nat.le_refl _))).mono ?_; rintro e w6 ⟨rfl, hbd⟩; have hb6 : Below w5.heap.size w5 w6 := (by first | exact hbd | exact ⟨hbd.os, hbd.tape, hbd.output, hbd.size, hbd.block⟩); clear hbd; have hz6 := hb6.size; replace X := Lib.hid (X.out.next hb6 X.out.lt); replace Y := Lib.hid (Y.out.next hb6 Y.out.lt); replace I1 := Lib.hid (I1.out.below hb6 (Nat.le_refl _)); replace IG := Lib.hid (IG.out.below hb6 (Nat.le_refl _)); replace IS := Lib.hid (IS.out.below hb6 (Nat.le_refl _)); replace B := Lib.hid (B.out.trans (hb6.mono B.out.size)); clear hb6; have x0_6 := X.out.out.at0; have x1_6 := X.out.out.at1; have y0_6 := Y.out.out.at0; have y1_6 := Y.out.out.at1)
        refine hK.out _ _ (by first | exact ⟨x0_6, x1_6, y0_6, y1_6⟩ | exact ⟨x0_5, x1_5, y0_5, y1_5⟩ | exact ⟨x0, x1, y0, y1⟩ | go_keep) (fun hHeld => ?_)
        clear hK K
        try simp only [List.getElem_toArray, List.getElem_cons_zero, List.getElem_cons_succ, Act.put, List.setIfInBounds_toArray, List.set_cons_zero, List.set_cons_succ]
        refine wpAnyH_take (i := 5) (v := ?_) rfl (by kernel_rfl) (by kernel_rfl) (by kernel_rfl) (fun _ _ _ h => h) (Or.inl ⟨by rfl, ?_⟩) (by assumption) ?_
        rotate_left
        · (intro w hSw; (try dsimp only at hSw); go_simp; try with_reducible rfl)
        try simp only [List.getElem_toArray, List.getElem_cons_zero, List.getElem_cons_succ, Act.put, List.setIfInBounds_toArray, List.set_cons_zero, List.set_cons_succ]
        refine wpAnyH_take (i := 6) (v := ?_) rfl (by kernel_rfl) (by kernel_rfl) (by kernel_rfl) (fun _ _ _ h => h) (Or.inl ⟨by rfl, ?_⟩) (by assumption) ?_
        rotate_left
        · (intro w hSw; (try dsimp only at hSw); go_simp; try with_reducible rfl)
        try simp only [List.getElem_toArray, List.getElem_cons_zero, List.getElem_cons_succ, Act.put, List.setIfInBounds_toArray, List.set_cons_zero, List.set_cons_succ]
        refine wpAnyH_take (i := 7) (v := ?_) rfl (by kernel_rfl) (by kernel_rfl) (by kernel_rfl) (fun _ _ _ h => h) (Or.inl ⟨by rfl, ?_⟩) (by assumption) ?_
        rotate_left
        · (intro w hSw; (try dsimp only at hSw); go_simp; try with_reducible rfl)
        try simp only [List.getElem_toArray, List.getElem_cons_zero, List.getElem_cons_succ, Act.put, List.setIfInBounds_toArray, List.set_cons_zero, List.set_cons_succ]
        refine wpAnyH_ready (rs := [8]) (by kernel_rfl) (by simp) ?_
        refine AllReadyH.cons rfl (fun K hK => ?_) AllReadyH.nil
        try simp only [List.getElem_toArray]
        go_simp
        (go_at_call 24; refine (HV.out _ _ (by first | exact I1.out.rd | exact I1.out.rd.below (k := w6.heap.size) ((Below.refl _ _).drew) (Nat.le_refl _))).mono ?_; rintro e w7 ⟨rfl, hbd⟩; have hb7 : Below w6.heap.size w6 w7 := (by first | exact hbd | exact ⟨hbd.os, hbd.tape, hbd.output, hbd.size, hbd.block⟩); clear hbd; have hz7 := hb7.size; replace X := Lib.hid (X.out.next hb7 X.out.lt); replace Y := Lib.hid (Y.out.next hb7 Y.out.lt); replace I1 := Lib.hid (I1.out.below hb7 (Nat.le_refl _)); replace IG := Lib.hid (IG.out.below hb7 (Nat.le_refl _)); replace IS := Lib.hid (IS.out.below hb7 (Nat.le_refl _)); replace B := Lib.hid (B.out.trans (hb7.mono B.out.size)); clear hb7; have x0_7 := X.out.out.at0; have x1_7 := X.out.out.at1; have y0_7 := Y.out.out.at0; have y1_7 := Y.out.out.at1)
        refine hK.out _ _ (by first | exact ⟨x0_7, x1_7, y0_7, y1_7⟩ | exact ⟨x0_6, x1_6, y0_6, y1_6⟩ | exact ⟨x0_5, x1_5, y0_5, y1_5⟩ | exact ⟨x0, x1, y0, y1⟩ | go_keep) (fun hHeld => ?_)
        clear hK K
        try simp only [List.getElem_toArray, List.getElem_cons_zero, List.getElem_cons_succ, Act.put, List.setIfInBounds_toArray, List.set_cons_zero, List.set_cons_succ]
        refine wpAnyH_take (i := 9) (v := ?_) rfl (by kernel_rfl) (by kernel_rfl) (by kernel_rfl) (fun _ _ _ h => h) (Or.inl ⟨by rfl, ?_⟩) (by assumption) ?_
        rotate_left
        · (intro w hSw; (try dsimp only at hSw); go_simp; try with_reducible rfl)
        try simp only [List.getElem_toArray, List.getElem_cons_zero, List.getElem_cons_succ, Act.put, List.setIfInBounds_toArray, List.set_cons_zero, List.set_cons_succ]
        refine wpAnyH_take (i := 10) (v := ?_) rfl (by kernel_rfl) (by kernel_rfl) (by kernel_rfl) (fun _ _ _ h => h) (Or.inl ⟨by rfl, ?_⟩) (by assumption) ?_
        rotate_left
        · (intro w hSw; (try dsimp only at hSw); go_simp; try with_reducible rfl)
        try simp only [List.getElem_toArray, List.getElem_cons_zero, List.getElem_cons_succ, Act.put, List.setIfInBounds_toArray, List.set_cons_zero, List.set_cons_succ]
        refine wpAnyH_take (i := 11) (v := ?_) rfl (by kernel_rfl) (by kernel_rfl) (by kernel_rfl) (fun _ _ _ h => h) (Or.inl ⟨by rfl, ?_⟩) (by assumption) ?_
        rotate_left
        · (intro w hSw; (try dsimp only at hSw); go_simp; try with_reducible rfl)
        try simp only [List.getElem_toArray, List.getElem_cons_zero, List.getElem_cons_succ, Act.put, List.setIfInBounds_toArray, List.set_cons_zero, List.set_cons_succ]
        refine wpAnyH_take (i := 12) (v := ?_) rfl (by kernel_rfl) (by kernel_rfl) (by kernel_rfl) (fun _ _ _ h => h) (Or.inl ⟨by rfl, ?_⟩) (by assumption) ?_
        rotate_left
        · (intro w hSw; (try dsimp only at hSw); go_simp; try with_reducible rfl)
        try simp only [List.getElem_toArray, List.getElem_cons_zero, List.getElem_cons_succ, Act.put, List.setIfInBounds_toArray, List.set_cons_zero, List.set_cons_succ]
        refine wpAnyH_take (i := 13) (v := ?_) rfl (by kernel_rfl) (by kernel_rfl) (by kernel_rfl) (fun _ _ _ h => h) (Or.inl ⟨by rfl, ?_⟩) (by assumption) ?_
        rotate_left
        · (intro w hSw; (try dsimp only at hSw); go_simp; try with_reducible rfl)
        try simp only [List.getElem_toArray, List.getElem_cons_zero, List.getElem_cons_succ, Act.put, List.setIfInBounds_toArray, List.set_cons_zero, List.set_cons_succ]
        refine wpAnyH_take (i := 14) (v := ?_) rfl (by kernel_rfl) (by kernel_rfl) (by kernel_rfl) (fun _ _ _ h => h) (Or.inl ⟨by rfl, ?_⟩) (by assumption) ?_
        rotate_left
        · (intro w hSw; (try dsimp only at hSw); go_simp; try with_reducible rfl)
        try simp only [List.getElem_toArray, List.getElem_cons_zero, List.getElem_cons_succ, Act.put, List.setIfInBounds_toArray, List.set_cons_zero, List.set_cons_succ]
        refine wpAnyH_take (i := 15) (v := ?_) rfl (by kernel_rfl) (by kernel_rfl) (by kernel_rfl) (fun _ _ _ h => h) (Or.inl ⟨by rfl, ?_⟩) (by assumption) ?_
        rotate_left
        · (intro w hSw; (try dsimp only at hSw); go_simp; try with_reducible rfl)
        try simp only [List.getElem_toArray, List.getElem_cons_zero, List.getElem_cons_succ, Act.put, List.setIfInBounds_toArray, List.set_cons_zero, List.set_cons_succ]
        refine wpAnyH_take (i := 16) (v := undef) rfl (by kernel_rfl) (by kernel_rfl) (by kernel_rfl) (fun _ _ _ h => h) (Or.inr ⟨by rfl, rfl⟩) (by assumption) ?_
        try simp only [List.getElem_toArray, List.getElem_cons_zero, List.getElem_cons_succ, Act.put, List.setIfInBounds_toArray, List.set_cons_zero, List.set_cons_succ]
        refine wpAnyH_take (i := 17) (v := undef) rfl (by kernel_rfl) (by kernel_rfl) (by kernel_rfl) (fun _ _ _ h => h) (Or.inr ⟨by rfl, rfl⟩) (by assumption) ?_
        try simp only [List.getElem_toArray, List.getElem_cons_zero, List.getElem_cons_succ, Act.put, List.setIfInBounds_toArray, List.set_cons_zero, List.set_cons_succ]
        refine wpAnyH_take (i := 18) (v := undef) rfl (by kernel_rfl) (by kernel_rfl) (by kernel_rfl) (fun _ _ _ h => h) (Or.inr ⟨by rfl, rfl⟩) (by assumption) ?_
        try simp only [List.getElem_toArray, List.getElem_cons_zero, List.getElem_cons_succ, Act.put, List.setIfInBounds_toArray, List.set_cons_zero, List.set_cons_succ]
        refine wpAnyH_take (i := 19) (v := undef) rfl (by kernel_rfl) (by kernel_rfl) (by kernel_rfl) (fun _ _ _ h => h) (Or.inr ⟨by rfl, rfl⟩) (by assumption) ?_
        try simp only [List.getElem_toArray, List.getElem_cons_zero, List.getElem_cons_succ, Act.put, List.setIfInBounds_toArray, List.set_cons_zero, List.set_cons_succ]
        refine wpAnyH_take (i := 20) (v := ?_) rfl (by kernel_rfl) (by kernel_rfl) (by kernel_rfl) (fun _ _ _ h => h) (Or.inl ⟨by rfl, ?_⟩) (by assumption) ?_
        rotate_left
        · (intro w hSw; (try dsimp only at hSw); go_simp; try with_reducible rfl)
        try simp only [List.getElem_toArray, List.getElem_cons_zero, List.getElem_cons_succ, Act.put, List.setIfInBounds_toArray, List.set_cons_zero, List.set_cons_succ]
        refine wpAnyH_done (by kernel_rfl) ?_ _
        clear IS
        have x0 := X.out.out.at0
        have x1 := X.out.out.at1
        have y0 := Y.out.out.at0
        have y1 := Y.out.out.at1
        go_wp2_with fail
        refine wp_region_held_drew (S := fun w' => w'.cell? ⟨o, 0, none⟩ = some (.int .i64 (m : Int)) ∧ w'.cell? ⟨o, 1, none⟩ = some (.slice a1 L c1) ∧ w'.cell? ⟨o2, 0, none⟩ = some (.int .i64 0) ∧ w'.cell? ⟨o2, 1, none⟩ = some (.slice a3 0 c3)) (by kernel_rfl) (by first | exact ⟨x0, x1, y0, y1⟩ | go_keep) (fun hHeld => ?_)
        refine wpAnyH_take (i := 0) (v := ?_) rfl (by kernel_rfl) (by kernel_rfl) (by kernel_rfl) (fun _ _ _ h => h) (Or.inl ⟨by rfl, ?_⟩) (by assumption) ?_
        rotate_left
        · (intro w hSw; (try dsimp only at hSw); go_simp; try with_reducible rfl)
        try simp only [List.getElem_toArray, List.getElem_cons_zero, Act.put, List.setIfInBounds_toArray, List.set_cons_zero, List.set_cons_succ]
        refine wpAnyH_take (i := 1) (v := ?_) rfl (by kernel_rfl) (by kernel_rfl) (by kernel_rfl) (fun _ _ _ h => h) (Or.inl ⟨by rfl, ?_⟩) (by assumption) ?_
        rotate_left
        · (intro w hSw; (try dsimp only at hSw); go_simp; try with_reducible rfl)
        try simp only [List.getElem_toArray, List.getElem_cons_zero, List.getElem_cons_succ, Act.put, List.setIfInBounds_toArray, List.set_cons_zero, List.set_cons_succ]
        refine wpAnyH_take (i := 2) (v := ?_) rfl (by kernel_rfl) (by kernel_rfl) (by kernel_rfl) (fun _ _ _ h => h) (Or.inl ⟨by rfl, ?_⟩) (by assumption) ?_
        rotate_left
        · (intro w hSw; (try dsimp only at hSw); go_simp; try with_reducible rfl)
        try simp only [List.getElem_toArray, List.getElem_cons_zero, List.getElem_cons_succ, Act.put, List.setIfInBounds_toArray, List.set_cons_zero, List.set_cons_succ]
        refine wpAnyH_ready (rs := [3]) (by kernel_rfl) (by simp) ?_
        refine AllReadyH.cons rfl (fun K hK => ?_) AllReadyH.nil
        try simp only [List.getElem_toArray]
        go_simp
        (go_at_call 37; refine (HS.out _ _ (by first | exact I1.out.rd | exact I1.out.rd.below (k := w7.heap.size) ((Below.refl _ _).drew) (Nat.le_refl _))).mono ?_; rintro e w8 ⟨a8, c8, rfl, hin8, hbd⟩; rw [show ([] : List Int).length = 0 from rfl] at hin8 ⊢; have hb8 : Below w7.heap.size w7 w8 := (by first | exact hbd | exact ⟨hbd.os, hbd.tape, hbd.output, hbd.size, hbd.block⟩); clear hbd; have hz8 := hb8.size; replace X := Lib.hid (X.out.next hb8 X.out.lt); replace Y := Lib.hid (Y.out.next hb8 Y.out.lt); replace I1 := Lib.hid (I1.out.below hb8 (Nat.le_refl _)); replace IG := Lib.hid (IG.out.below hb8 (Nat.le_refl _)); replace B := Lib.hid (B.out.trans (hb8.mono B.out.size)); have IS := Lib.hid (hin8.mono (Nat.zero_le _)); clear hin8; clear hb8; have x0_8 := X.out.out.at0; have x1_8 := X.out.out.at1; have y0_8 := Y.out.out.at0; have y1_8 := Y.out.out.at1)
        refine hK.out _ _ (by first | exact ⟨x0_8, x1_8, y0_8, y1_8⟩ | exact ⟨x0, x1, y0, y1⟩ | go_keep) (fun hHeld => ?_)
        clear hK K
        try simp only [List.getElem_toArray, List.getElem_cons_zero, List.getElem_cons_succ, Act.put, List.setIfInBounds_toArray, List.set_cons_zero, List.set_cons_succ]
        refine wpAnyH_ready (rs := [4]) (by kernel_rfl) (by simp) ?_
        refine AllReadyH.cons rfl (fun K hK => ?_) AllReadyH.nil
        try simp only [List.getElem_toArray]
        go_simp
        (go_at_call 30; refine (lawsEqualClass _ _ _ _ _ _ _ _ (by first | exact IG.out.rd | exact IG.out.rd.below (k := w8.heap.size) ((Below.refl _ _).drew) (Nat.le_refl _)) (by first | exact IS.out.rd | exact IS.out.rd.below (k := w8.heap.size) ((Below.refl _ _).drew) (Nat.le_refl _))).mono ?_; rintro e w9 ⟨rfl, hbd⟩; have hb9 : Below w8.heap.size w8 w9 := (by first | exact hbd | exact ⟨hbd.os, hbd.tape, hbd.output, hbd.size, hbd.block⟩); clear hbd; have hz9 := hb9.size; replace X := Lib.hid (X.out.next hb9 X.out.lt); replace Y := Lib.hid (Y.out.next hb9 Y.out.lt); replace I1 := Lib.hid (I1.out.below hb9 (Nat.le_refl _)); replace IG := Lib.hid (IG.out.below hb9 (Nat.le_refl _)); replace IS := Lib.hid (IS.out.below hb9 (Nat.le_refl _)); replace B := Lib.hid (B.out.trans (hb9.mono B.out.size)); clear hb9; have x0_9 := X.out.out.at0; have x1_9 := X.out.out.at1; have y0_9 := Y.out.out.at0; have y1_9 := Y.out.out.at1)
        refine hK.out _ _ (by first | exact ⟨x0_9, x1_9, y0_9, y1_9⟩ | exact ⟨x0_8, x1_8, y0_8, y1_8⟩ | exact ⟨x0, x1, y0, y1⟩ | go_keep) (fun hHeld => ?_)
        clear hK K
        try simp only [List.getElem_toArray, List.getElem_cons_zero, List.getElem_cons_succ, Act.put, List.setIfInBounds_toArray, List.set_cons_zero, List.set_cons_succ]
        refine wpAnyH_take (i := 5) (v := ?_) rfl (by kernel_rfl) (by kernel_rfl) (by kernel_rfl) (fun _ _ _ h => h) (Or.inl ⟨by rfl, ?_⟩) (by assumption) ?_
        rotate_left
        · (intro w hSw; (try dsimp only at hSw); go_simp; try with_reducible rfl)
        try simp only [List.getElem_toArray, List.getElem_cons_zero, List.getElem_cons_succ, Act.put, List.setIfInBounds_toArray, List.set_cons_zero, List.set_cons_succ]
        refine wpAnyH_done (by kernel_rfl) ?_ _
        go_wp2_with fail
        go_ret
        exact ⟨rfl, by first | exact B.out | exact B.out.drew⟩
      · have hd1 : decide (s < 0) = false := decide_eq_false hs0
        by_cases hs1 : (m : Int) ≤ s
        · have hd2 : decide ((m : Int) ≤ s) = true := decide_eq_true hs1
          have hp : ptB (m : Int) (toI ns) s = false := by
            simp only [ptB, Bool.and_eq_false_iff, decide_eq_false_iff_not]
            omega
          rw [(lkf_bad hp).1, (lkf_bad hp).2] at HI HS
          clear hp hv hcl
          refine (HI.out _ _ I1.out.rd).mono ?_
          rintro e w3 ⟨a3, c3, rfl, hin3, hb3⟩
          rw [show ([] : List Int).length = 0 from rfl] at hin3 ⊢
          have hz3 := hb3.size
          replace X := Lib.hid (X.out.next hb3 X.out.lt)
          replace I1 := Lib.hid (I1.out.below hb3 (Nat.le_refl _))
          replace B := Lib.hid (B.out.trans (hb3.mono B.out.size))
          have IG := Lib.hid (hin3.mono (Nat.zero_le _))
          clear hin3 hb3
          have Y := Lib.hid (Bx.new 0 (.slice a3 0 c3) w3)
          replace X := Lib.hid (X.out.alloc (Obj.cells #[.int .i64 0, .slice a3 0 c3] 28))
          replace I1 := Lib.hid (I1.out.alloc (Obj.cells #[.int .i64 0, .slice a3 0 c3] 28))
          replace IG := Lib.hid (IG.out.alloc (Obj.cells #[.int .i64 0, .slice a3 0 c3] 28))
          replace B := Lib.hid (B.out.alloc B.out.size (Obj.cells #[.int .i64 0, .slice a3 0 c3] 28))
          have HZ := Lib.hid (show (w3.alloc (Obj.cells #[.int .i64 0, .slice a3 0 c3] 28)).heap.size = w3.heap.size + 1 by simp)
          go_wp2_with fail
          generalize (w3.alloc (Obj.cells #[.int .i64 0, .slice a3 0 c3] 28)) = w4 at *
          have hz4 := HZ.out
          clear HZ
          generalize ho2 : w3.heap.size = o2 at *
          have x0 := X.out.out.at0
          have x1 := X.out.out.at1
          have y0 := Y.out.out.at0
          have y1 := Y.out.out.at1
          go_wp2_with fail
          refine wp_region_held_drew (S := fun w' => w'.cell? ⟨o, 0, none⟩ = some (.int .i64 (m : Int)) ∧ w'.cell? ⟨o, 1, none⟩ = some (.slice a1 L c1) ∧ w'.cell? ⟨o2, 0, none⟩ = some (.int .i64 0) ∧ w'.cell? ⟨o2, 1, none⟩ = some (.slice a3 0 c3)) (by kernel_rfl) (by first | exact ⟨x0, x1, y0, y1⟩ | go_keep) (fun hHeld => ?_)
          refine wpAnyH_take (i := 0) (v := ?_) rfl (by kernel_rfl) (by kernel_rfl) (by kernel_rfl) (fun _ _ _ h => h) (Or.inl ⟨by rfl, ?_⟩) (by assumption) ?_
          rotate_left
          · (intro w hSw; (try dsimp only at hSw); go_simp; try with_reducible rfl)
          try simp only [List.getElem_toArray, List.getElem_cons_zero, Act.put, List.setIfInBounds_toArray, List.set_cons_zero, List.set_cons_succ]
          refine wpAnyH_take (i := 1) (v := ?_) rfl (by kernel_rfl) (by kernel_rfl) (by kernel_rfl) (fun _ _ _ h => h) (Or.inl ⟨by rfl, ?_⟩) (by assumption) ?_
          rotate_left
          · (intro w hSw; (try dsimp only at hSw); go_simp; try with_reducible rfl)
          try simp only [List.getElem_toArray, List.getElem_cons_zero, List.getElem_cons_succ, Act.put, List.setIfInBounds_toArray, List.set_cons_zero, List.set_cons_succ]
          refine wpAnyH_take (i := 2) (v := ?_) rfl (by kernel_rfl) (by kernel_rfl) (by kernel_rfl) (fun _ _ _ h => h) (Or.inl ⟨by rfl, ?_⟩) (by assumption) ?_
          rotate_left
          · (intro w hSw; (try dsimp only at hSw); go_simp; try with_reducible rfl)
          try simp only [List.getElem_toArray, List.getElem_cons_zero, List.getElem_cons_succ, Act.put, List.setIfInBounds_toArray, List.set_cons_zero, List.set_cons_succ]
          refine wpAnyH_ready (rs := [3]) (by kernel_rfl) (by simp) ?_
          refine AllReadyH.cons rfl (fun K hK => ?_) AllReadyH.nil
          try simp only [List.getElem_toArray]
          go_simp
          (go_at_call 37; refine (HS.out _ _ (by first | exact I1.out.rd | exact I1.out.rd.below (k := w4.heap.size) ((Below.refl _ _).drew) (Nat.le_refl _))).mono ?_; rintro e w5 ⟨a5, c5, rfl, hin5, hbd⟩; rw [show ([] : List Int).length = 0 from rfl] at hin5 ⊢; have hb5 : Below w4.heap.size w4 w5 := (by first | exact hbd | exact ⟨hbd.os, hbd.tape, hbd.output, hbd.size, hbd.block⟩); clear hbd; have hz5 := hb5.size; replace X := Lib.hid (X.out.next hb5 X.out.lt); replace Y := Lib.hid (Y.out.next hb5 Y.out.lt); replace I1 := Lib.hid (I1.out.below hb5 (Nat.le_refl _)); replace IG := Lib.hid (IG.out.below hb5 (Nat.le_refl _)); replace B := Lib.hid (B.out.trans (hb5.mono B.out.size)); have IS := Lib.hid (hin5.mono (Nat.zero_le _)); clear hin5; clear hb5; have x0_5 := X.out.out.at0; have x1_5 := X.out.out.at1; have y0_5 := Y.out.out.at0; have y1_5 := Y.out.out.at1)
          refine hK.out _ _ (by first | exact ⟨x0_5, x1_5, y0_5, y1_5⟩ | exact ⟨x0, x1, y0, y1⟩ | go_keep) (fun hHeld => ?_)
          clear hK K
          try simp only [List.getElem_toArray, List.getElem_cons_zero, List.getElem_cons_succ, Act.put, List.setIfInBounds_toArray, List.set_cons_zero, List.set_cons_succ]
          refine wpAnyH_ready (rs := [4]) (by kernel_rfl) (by simp) ?_
          refine AllReadyH.cons rfl (fun K hK => ?_) AllReadyH.nil
          try simp only [List.getElem_toArray]
          go_simp
          (go_at_call 30; refine (lawsEqualClass _ _ _ _ _ _ _ _ (by first | exact IG.out.rd | exact IG.out.rd.below (k := w5.heap.size) ((Below.refl _ _).drew) (Nat.le_refl _)) (by first | exact IS.out.rd | exact IS.out.rd.below (k := w5.heap.size) ((Below.refl _ _).drew) (Nat.le_refl _))).mono ?_; rintro e w6 ⟨rfl, hbd⟩; have hb6 : Below w5.heap.size w5 w6 := (by first | exact hbd | exact ⟨hbd.os, hbd.tape, hbd.output, hbd.size, hbd.block⟩); clear hbd; have hz6 := hb6.size; replace X := Lib.hid (X.out.next hb6 X.out.lt); replace Y := Lib.hid (Y.out.next hb6 Y.out.lt); replace I1 := Lib.hid (I1.out.below hb6 (Nat.le_refl _)); replace IG := Lib.hid (IG.out.below hb6 (Nat.le_refl _)); replace IS := Lib.hid (IS.out.below hb6 (Nat.le_refl _)); replace B := Lib.hid (B.out.trans (hb6.mono B.out.size)); clear hb6; have x0_6 := X.out.out.at0; have x1_6 := X.out.out.at1; have y0_6 := Y.out.out.at0; have y1_6 := Y.out.out.at1)
          refine hK.out _ _ (by first | exact ⟨x0_6, x1_6, y0_6, y1_6⟩ | exact ⟨x0_5, x1_5, y0_5, y1_5⟩ | exact ⟨x0, x1, y0, y1⟩ | go_keep) (fun hHeld => ?_)
          clear hK K
          try simp only [List.getElem_toArray, List.getElem_cons_zero, List.getElem_cons_succ, Act.put, List.setIfInBounds_toArray, List.set_cons_zero, List.set_cons_succ]
          refine wpAnyH_take (i := 5) (v := ?_) rfl (by kernel_rfl) (by kernel_rfl) (by kernel_rfl) (fun _ _ _ h => h) (Or.inl ⟨by rfl, ?_⟩) (by assumption) ?_
          rotate_left
          · (intro w hSw; (try dsimp only at hSw); go_simp; try with_reducible rfl)
          try simp only [List.getElem_toArray, List.getElem_cons_zero, List.getElem_cons_succ, Act.put, List.setIfInBounds_toArray, List.set_cons_zero, List.set_cons_succ]
          refine wpAnyH_take (i := 6) (v := ?_) rfl (by kernel_rfl) (by kernel_rfl) (by kernel_rfl) (fun _ _ _ h => h) (Or.inl ⟨by rfl, ?_⟩) (by assumption) ?_
          rotate_left
          · (intro w hSw; (try dsimp only at hSw); go_simp; try with_reducible rfl)
          try simp only [List.getElem_toArray, List.getElem_cons_zero, List.getElem_cons_succ, Act.put, List.setIfInBounds_toArray, List.set_cons_zero, List.set_cons_succ]
          refine wpAnyH_take (i := 7) (v := ?_) rfl (by kernel_rfl) (by kernel_rfl) (by kernel_rfl) (fun _ _ _ h => h) (Or.inl ⟨by rfl, ?_⟩) (by assumption) ?_
          rotate_left
          · (intro w hSw; (try dsimp only at hSw); go_simp; try with_reducible rfl)
          try simp only [List.getElem_toArray, List.getElem_cons_zero, List.getElem_cons_succ, Act.put, List.setIfInBounds_toArray, List.set_cons_zero, List.set_cons_succ]
          refine wpAnyH_ready (rs := [8]) (by kernel_rfl) (by simp) ?_
          refine AllReadyH.cons rfl (fun K hK => ?_) AllReadyH.nil
          try simp only [List.getElem_toArray]
          go_simp
          (go_at_call 24; refine (HV.out _ _ (by first | exact I1.out.rd | exact I1.out.rd.below (k := w6.heap.size) ((Below.refl _ _).drew) (Nat.le_refl _))).mono ?_; rintro e w7 ⟨rfl, hbd⟩; have hb7 : Below w6.heap.size w6 w7 := (by first | exact hbd | exact ⟨hbd.os, hbd.tape, hbd.output, hbd.size, hbd.block⟩); clear hbd; have hz7 := hb7.size; replace X := Lib.hid (X.out.next hb7 X.out.lt); replace Y := Lib.hid (Y.out.next hb7 Y.out.lt); replace I1 := Lib.hid (I1.out.below hb7 (Nat.le_refl _)); replace IG := Lib.hid (IG.out.below hb7 (Nat.le_refl _)); replace IS := Lib.hid (IS.out.below hb7 (Nat.le_refl _)); replace B := Lib.hid (B.out.trans (hb7.mono B.out.size)); clear hb7; have x0_7 := X.out.out.at0; have x1_7 := X.out.out.at1; have y0_7 := Y.out.out.at0; have y1_7 := Y.out.out.at1)
          refine hK.out _ _ (by first | exact ⟨x0_7, x1_7, y0_7, y1_7⟩ | exact ⟨x0_6, x1_6, y0_6, y1_6⟩ | exact ⟨x0_5, x1_5, y0_5, y1_5⟩ | exact ⟨x0, x1, y0, y1⟩ | go_keep) (fun hHeld => ?_)
          clear hK K
          try simp only [List.getElem_toArray, List.getElem_cons_zero, List.getElem_cons_succ, Act.put, List.setIfInBounds_toArray, List.set_cons_zero, List.set_cons_succ]
          refine wpAnyH_take (i := 9) (v := ?_) rfl (by kernel_rfl) (by kernel_rfl) (by kernel_rfl) (fun _ _ _ h => h) (Or.inl ⟨by rfl, ?_⟩) (by assumption) ?_
          rotate_left
          · (intro w hSw; (try dsimp only at hSw); go_simp; try with_reducible rfl)
          try simp only [List.getElem_toArray, List.getElem_cons_zero, List.getElem_cons_succ, Act.put, List.setIfInBounds_toArray, List.set_cons_zero, List.set_cons_succ]
          refine wpAnyH_take (i := 10) (v := ?_) rfl (by kernel_rfl) (by kernel_rfl) (by kernel_rfl) (fun _ _ _ h => h) (Or.inl ⟨by rfl, ?_⟩) (by assumption) ?_
          rotate_left
          · (intro w hSw; (try dsimp only at hSw); go_simp; try with_reducible rfl)
          try simp only [List.getElem_toArray, List.getElem_cons_zero, List.getElem_cons_succ, Act.put, List.setIfInBounds_toArray, List.set_cons_zero, List.set_cons_succ]
          refine wpAnyH_take (i := 11) (v := ?_) rfl (by kernel_rfl) (by kernel_rfl) (by kernel_rfl) (fun _ _ _ h => h) (Or.inl ⟨by rfl, ?_⟩) (by assumption) ?_
          rotate_left
          · (intro w hSw; (try dsimp only at hSw); go_simp; try with_reducible rfl)
          try simp only [List.getElem_toArray, List.getElem_cons_zero, List.getElem_cons_succ, Act.put, List.setIfInBounds_toArray, List.set_cons_zero, List.set_cons_succ]
          refine wpAnyH_take (i := 12) (v := ?_) rfl (by kernel_rfl) (by kernel_rfl) (by kernel_rfl) (fun _ _ _ h => h) (Or.inl ⟨by rfl, ?_⟩) (by assumption) ?_
          rotate_left
          · (intro w hSw; (try dsimp only at hSw); go_simp; try with_reducible rfl)
          try simp only [List.getElem_toArray, List.getElem_cons_zero, List.getElem_cons_succ, Act.put, List.setIfInBounds_toArray, List.set_cons_zero, List.set_cons_succ]
          refine wpAnyH_take (i := 13) (v := ?_) rfl (by kernel_rfl) (by kernel_rfl) (by kernel_rfl) (fun _ _ _ h => h) (Or.inl ⟨by rfl, ?_⟩) (by assumption) ?_
          rotate_left
          · (intro w hSw; (try dsimp only at hSw); go_simp; try with_reducible rfl)
          try simp only [List.getElem_toArray, List.getElem_cons_zero, List.getElem_cons_succ, Act.put, List.setIfInBounds_toArray, List.set_cons_zero, List.set_cons_succ]
          refine wpAnyH_take (i := 14) (v := ?_) rfl (by kernel_rfl) (by kernel_rfl) (by kernel_rfl) (fun _ _ _ h => h) (Or.inl ⟨by rfl, ?_⟩) (by assumption) ?_
          rotate_left
          · (intro w hSw; (try dsimp only at hSw); go_simp; try with_reducible rfl)
          try simp only [List.getElem_toArray, List.getElem_cons_zero, List.getElem_cons_succ, Act.put, List.setIfInBounds_toArray, List.set_cons_zero, List.set_cons_succ]
          refine wpAnyH_take (i := 15) (v := ?_) rfl (by kernel_rfl) (by kernel_rfl) (by kernel_rfl) (fun _ _ _ h => h) (Or.inl ⟨by rfl, ?_⟩) (by assumption) ?_
          rotate_left
          · (intro w hSw; (try dsimp only at hSw); go_simp; try with_reducible rfl)
          try simp only [List.getElem_toArray, List.getElem_cons_zero, List.getElem_cons_succ, Act.put, List.setIfInBounds_toArray, List.set_cons_zero, List.set_cons_succ]
          refine wpAnyH_take (i := 16) (v := ?_) rfl (by kernel_rfl) (by kernel_rfl) (by kernel_rfl) (fun _ _ _ h => h) (Or.inl ⟨by rfl, ?_⟩) (by assumption) ?_
          rotate_left
          · (intro w hSw; (try dsimp only at hSw); go_simp; try with_reducible rfl)
          try simp only [List.getElem_toArray, List.getElem_cons_zero, List.getElem_cons_succ, Act.put, List.setIfInBounds_toArray, List.set_cons_zero, List.set_cons_succ]
          refine wpAnyH_take (i := 17) (v := ?_) rfl (by kernel_rfl) (by kernel_rfl) (by kernel_rfl) (fun _ _ _ h => h) (Or.inl ⟨by rfl, ?_⟩) (by assumption) ?_
          rotate_left
          · (intro w hSw; (try dsimp only at hSw); go_simp; try with_reducible rfl)
          try simp only [List.getElem_toArray, List.getElem_cons_zero, List.getElem_cons_succ, Act.put, List.setIfInBounds_toArray, List.set_cons_zero, List.set_cons_succ]
          refine wpAnyH_take (i := 18) (v := ?_) rfl (by kernel_rfl) (by kernel_rfl) (by kernel_rfl) (fun _ _ _ h => h) (Or.inl ⟨by rfl, ?_⟩) (by assumption) ?_
          rotate_left
          · (intro w hSw; (try dsimp only at hSw); go_simp; try with_reducible rfl)
          try simp only [List.getElem_toArray, List.getElem_cons_zero, List.getElem_cons_succ, Act.put, List.setIfInBounds_toArray, List.set_cons_zero, List.set_cons_succ]
          refine wpAnyH_take (i := 19) (v := ?_) rfl (by kernel_rfl) (by kernel_rfl) (by kernel_rfl) (fun _ _ _ h => h) (Or.inl ⟨by rfl, ?_⟩) (by assumption) ?_
          rotate_left
          · (intro w hSw; (try dsimp only at hSw); go_simp; try with_reducible rfl)
          try simp only [List.getElem_toArray, List.getElem_cons_zero, List.getElem_cons_succ, Act.put, List.setIfInBounds_toArray, List.set_cons_zero, List.set_cons_succ]
          refine wpAnyH_take (i := 20) (v := ?_) rfl (by kernel_rfl) (by kernel_rfl) (by kernel_rfl) (fun _ _ _ h => h) (Or.inl ⟨by rfl, ?_⟩) (by assumption) ?_
          rotate_left
          · (intro w hSw; (try dsimp only at hSw); go_simp; try with_reducible rfl)
          try simp only [List.getElem_toArray, List.getElem_cons_zero, List.getElem_cons_succ, Act.put, List.setIfInBounds_toArray, List.set_cons_zero, List.set_cons_succ]
          refine wpAnyH_done (by kernel_rfl) ?_ _
          clear IS
          have x0 := X.out.out.at0
          have x1 := X.out.out.at1
          have y0 := Y.out.out.at0
          have y1 := Y.out.out.at1
          go_wp2_with fail
          refine wp_region_held_drew (S := fun w' => w'.cell? ⟨o, 0, none⟩ = some (.int .i64 (m : Int)) ∧ w'.cell? ⟨o, 1, none⟩ = some (.slice a1 L c1) ∧ w'.cell? ⟨o2, 0, none⟩ = some (.int .i64 0) ∧ w'.cell? ⟨o2, 1, none⟩ = some (.slice a3 0 c3)) (by kernel_rfl) (by first | exact ⟨x0, x1, y0, y1⟩ | go_keep) (fun hHeld => ?_)
          refine wpAnyH_take (i := 0) (v := ?_) rfl (by kernel_rfl) (by kernel_rfl) (by kernel_rfl) (fun _ _ _ h => h) (Or.inl ⟨by rfl, ?_⟩) (by assumption) ?_
          rotate_left
          · (intro w hSw; (try dsimp only at hSw); go_simp; try with_reducible rfl)
          try simp only [List.getElem_toArray, List.getElem_cons_zero, Act.put, List.setIfInBounds_toArray, List.set_cons_zero, List.set_cons_succ]
          refine wpAnyH_take (i := 1) (v := ?_) rfl (by kernel_rfl) (by kernel_rfl) (by kernel_rfl) (fun _ _ _ h => h) (Or.inl ⟨by rfl, ?_⟩) (by assumption) ?_
          rotate_left
          · (intro w hSw; (try dsimp only at hSw); go_simp; try with_reducible rfl)
          try simp only [List.getElem_toArray, List.getElem_cons_zero, List.getElem_cons_succ, Act.put, List.setIfInBounds_toArray, List.set_cons_zero, List.set_cons_succ]
          refine wpAnyH_take (i := 2) (v := ?_) rfl (by kernel_rfl) (by kernel_rfl) (by kernel_rfl) (fun _ _ _ h => h) (Or.inl ⟨by rfl, ?_⟩) (by assumption) ?_
          rotate_left
          · (intro w hSw; (try dsimp only at hSw); go_simp; try with_reducible rfl)
          try simp only [List.getElem_toArray, List.getElem_cons_zero, List.getElem_cons_succ, Act.put, List.setIfInBounds_toArray, List.set_cons_zero, List.set_cons_succ]
          refine wpAnyH_ready (rs := [3]) (by kernel_rfl) (by simp) ?_
          refine AllReadyH.cons rfl (fun K hK => ?_) AllReadyH.nil
          try simp only [List.getElem_toArray]
          go_simp
          (go_at_call 37; refine (HS.out _ _ (by first | exact I1.out.rd | exact I1.out.rd.below (k := w7.heap.size) ((Below.refl _ _).drew) (Nat.le_refl _))).mono ?_; rintro e w8 ⟨a8, c8, rfl, hin8, hbd⟩; rw [show ([] : List Int).length = 0 from rfl] at hin8 ⊢; have hb8 : Below w7.heap.size w7 w8 := (by first | exact hbd | exact ⟨hbd.os, hbd.tape, hbd.output, hbd.size, hbd.block⟩); clear hbd; have hz8 := hb8.size; replace X := Lib.hid (X.out.next hb8 X.out.lt); replace Y := Lib.hid (Y.out.next hb8 Y.out.lt); replace I1 := Lib.hid (I1.out.below hb8 (Nat.le_refl _)); replace IG := Lib.hid (IG.out.below hb8 (Nat.le_refl _)); replace B := Lib.hid (B.out.trans (hb8.mono B.out.size)); have IS := Lib.hid (hin8.mono (Nat.zero_le _)); clear hin8; clear hb8; have x0_8 := X.out.out.at0; have x1_8 := X.out.out.at1; have y0_8 := Y.out.out.at0; have y1_8 := Y.out.out.at1)
          refine hK.out _ _ (by first | exact ⟨x0_8, x1_8, y0_8, y1_8⟩ | exact ⟨x0, x1, y0, y1⟩ | go_keep) (fun hHeld => ?_)
          clear hK K
          try simp only [List.getElem_toArray, List.getElem_cons_zero, List.getElem_cons_succ, Act.put, List.setIfInBounds_toArray, List.set_cons_zero, List.set_cons_succ]
          refine wpAnyH_ready (rs := [4]) (by kernel_rfl) (by simp) ?_
          refine AllReadyH.cons rfl (fun K hK => ?_) AllReadyH.nil
          try simp only [List.getElem_toArray]
          go_simp
          (go_at_call 30; refine (lawsEqualClass _ _ _ _ _ _ _ _ (by first | exact IG.out.rd | exact IG.out.rd.below (k := w8.heap.size) ((Below.refl _ _).drew) (Nat.le_refl _)) (by first | exact IS.out.rd | exact IS.out.rd.below (k := w8.heap.size) ((Below.refl _ _).drew) (Nat.le_refl _))).mono ?_; rintro e w9 ⟨rfl, hbd⟩; have hb9 : Below w8.heap.size w8 w9 := (by first | exact hbd | exact ⟨hbd.os, hbd.tape, hbd.output, hbd.size, hbd.block⟩); clear hbd; have hz9 := hb9.size; replace X := Lib.hid (X.out.next hb9 X.out.lt); replace Y := Lib.hid (Y.out.next hb9 Y.out.lt); replace I1 := Lib.hid (I1.out.below hb9 (Nat.le_refl _)); replace IG := Lib.hid (IG.out.below hb9 (Nat.le_refl _)); replace IS := Lib.hid (IS.out.below hb9 (Nat.le_refl _)); replace B := Lib.hid (B.out.trans (hb9.mono B.out.size)); clear hb9; have x0_9 := X.out.out.at0; have x1_9 := X.out.out.at1; have y0_9 := Y.out.out.at0; have y1_9 := Y.out.out.at1)
          refine hK.out _ _ (by first | exact ⟨x0_9, x1_9, y0_9, y1_9⟩ | exact ⟨x0_8, x1_8, y0_8, y1_8⟩ | exact ⟨x0, x1, y0, y1⟩ | go_keep) (fun hHeld => ?_)
          clear hK K
          try simp only [List.getElem_toArray, List.getElem_cons_zero, List.getElem_cons_succ, Act.put, List.setIfInBounds_toArray, List.set_cons_zero, List.set_cons_succ]
          refine wpAnyH_take (i := 5) (v := ?_) rfl (by kernel_rfl) (by kernel_rfl) (by kernel_rfl) (fun _ _ _ h => h) (Or.inl ⟨by rfl, ?_⟩) (by assumption) ?_
          rotate_left
          · (intro w hSw; (try dsimp only at hSw); go_simp; try with_reducible rfl)
          try simp only [List.getElem_toArray, List.getElem_cons_zero, List.getElem_cons_succ, Act.put, List.setIfInBounds_toArray, List.set_cons_zero, List.set_cons_succ]
          refine wpAnyH_done (by kernel_rfl) ?_ _
          go_wp2_with fail
          go_ret
          exact ⟨rfl, by first | exact B.out | exact B.out.drew⟩
        · have hd2 : decide ((m : Int) ≤ s) = false := decide_eq_false hs1
          obtain ⟨x, rfl⟩ := Int.eq_ofNat_of_zero_le (show 0 ≤ s by omega)
          have hxn : x < m := by omega
          obtain ⟨G, hG⟩ : ∃ G, G = lnkN x ns := ⟨_, rfl⟩
          obtain ⟨R, hR⟩ : ∃ R, R = rmvL x ns := ⟨_, rfl⟩
          obtain ⟨p, hp⟩ : ∃ p, p = m - 1 := ⟨_, rfl⟩
          have hpt : ∀ y : Nat, y < m → ptB (m : Int) (toI ns) (y : Int) = true := fun y hy => by
            simp only [ptB, hv, Bool.true_and, Bool.and_eq_true, decide_eq_true_eq]
            omega
          have eN : ∀ y : Nat, y < m → rmN (m : Int) (toI ns) (y : Int) = (p : Int) := fun y hy => by rw [rmN, if_pos (hpt y hy)]; omega
          have eK : ∀ y : Nat, y < m → lnkL (m : Int) (toI ns) (y : Int) = toI (lnkN y ns) := fun y hy => by rw [lnkL, if_pos (hpt y hy), toNat_toI, Int.toNat_natCast, lnkN]
          have eR : rmL (m : Int) (toI ns) (x : Int) = toI R := by rw [rmL, if_pos (hpt x hxn), toNat_toI, Int.toNat_natCast, hR, rmvL]
          have hcG : Cls p G := by
            obtain ⟨n', rfl⟩ : ∃ n', m = n' + 1 := ⟨m - 1, by omega⟩
            rw [hG, hp]; exact lnkN_cls hcl (by omega)
          have hvG := cls_vldB hcG
          have hvc : ns ≠ [] → vcL p G < vcL m ns := by rw [hG, hp]; exact lnk_vc hcl hxn
          have HA := Lib.hid (fun v1 v2 w h1 h2 => lawsAmong v1 v2 G R w h1 h2 (by rw [hG, hR]; exact lnk_among hcl hxn))
          have HLk := Lib.hid (show ∀ y : Nat, y < m → ∀ v w, Rd w v (toI ns) → Calls Try.prog 36 #[.agg #[.int .i64 (m : Int), v], .int .i64 (y : Int)] w (RetClass (p : Int) (toI (lnkN y ns)) w) from fun y hy v w h => by
            have h2 := implLinkOf (m : Int) v (toI ns) (y : Int) w h
            rw [eN y hy, eK y hy] at h2
            exact h2)
          have HRm := Lib.hid (fun v w h => implRemovePoint (m : Int) v (toI ns) (x : Int) w h)
          have HC := Lib.hid (fun v w h => implVCDimension (m : Int) v (toI ns) w h)
          have HCG := Lib.hid (fun v w h => implVCDimension (p : Int) v (toI G) w h)
          have HEN := Lib.hid (fun v w h => implEdgesOf (m : Int) v (toI ns) w h)
          rw [vcB_in hv] at HC
          rw [vcB_in hvG] at HCG
          rw [egL_in hv] at HEN
          rw [eN x hxn, eR] at HRm
          rw [eN x hxn, eK x hxn, ← hG] at HI HS
          have hG32 : G.length ≤ 32 := hcG.length
          have hR32 : R.length ≤ 32 := by
            obtain ⟨n', rfl⟩ : ∃ n', m = n' + 1 := ⟨m - 1, by omega⟩
            rw [hR]; exact (rmvL_cls hcl (by omega)).length
          obtain ⟨E, hE⟩ : ∃ E, E = lkTo ns m := ⟨_, rfl⟩
          have hE160 : E ≤ 160 := by
            have h1 := lkTo_le hcl m (Nat.le_refl m)
            omega
          have HE := Lib.hid hE.symm
          have He0 := Lib.hid ((lk_all hcl).symm.trans hE.symm)
          have HST := Lib.hid (fun (j : Nat) (hj : j < m) => show ∃ a b q : Nat, lkTo ns j = a ∧ (lnkN j ns).length = b ∧ lkTo ns (j + 1) = q ∧ q = a + b ∧ a ≤ 160 ∧ b ≤ 32 from ⟨_, _, _, rfl, rfl, rfl, lkTo_succ ns j, by have := lkTo_le hcl j (by omega); omega, lnk_32 hcl hj⟩)
          have HGl := Lib.hid (toI_length G)
          have HRl := Lib.hid (toI_length R)
          have HLt := Lib.hid (fun y => toI_length (lnkN y ns))
          have hne : 0 < L → vcL p G < vcL m ns := fun h => hvc (fun e => by rw [e] at hL2; simp at hL2; omega)
          generalize egTo ns ns.length = eg0 at *
          generalize vcL p G = V0 at *
          generalize vcL m ns = V1 at *
          have hmI : (m : Int) < 9 := by omega
          have hd3 : decide (m ≤ x) = false := decide_eq_false (by omega)
          have hd4 : ¬ m ≤ x := by omega
          have hfd : ∀ (a : Option Addr) (l c : Nat) (w : World), Sem.run Try.prog (Instr.field 28 (.agg #[.int .i64 (p : Int), .slice a l c]) 1) w = .ok (.slice a l c) w := fun _ _ _ _ => by kernel_rfl
          have hfe : ∀ (a : Option Addr) (l c : Nat) (w : World), (Instr.field 28 (.agg #[.int .i64 (p : Int), .slice a l c]) 1).run Try.prog w = .ok (.slice a l c) w := fun _ _ _ _ => by kernel_rfl
          clear hvc hpt eN eK eR hcG hG hR hvG hv hcl hE hp
          refine (HI.out _ _ I1.out.rd).mono ?_
          rintro e w3 ⟨a3, c3, rfl, hin3, hb3⟩
          rw [HGl.out] at hin3 ⊢
          have hz3 := hb3.size
          replace X := Lib.hid (X.out.next hb3 X.out.lt)
          replace I1 := Lib.hid (I1.out.below hb3 (Nat.le_refl _))
          replace B := Lib.hid (B.out.trans (hb3.mono B.out.size))
          have IG := Lib.hid (hin3.mono (Nat.zero_le _))
          clear hin3 hb3
          have Y := Lib.hid (Bx.new (p : Int) (.slice a3 G.length c3) w3)
          replace X := Lib.hid (X.out.alloc (Obj.cells #[.int .i64 (p : Int), .slice a3 G.length c3] 28))
          replace I1 := Lib.hid (I1.out.alloc (Obj.cells #[.int .i64 (p : Int), .slice a3 G.length c3] 28))
          replace IG := Lib.hid (IG.out.alloc (Obj.cells #[.int .i64 (p : Int), .slice a3 G.length c3] 28))
          replace B := Lib.hid (B.out.alloc B.out.size (Obj.cells #[.int .i64 (p : Int), .slice a3 G.length c3] 28))
          have HZ := Lib.hid (show (w3.alloc (Obj.cells #[.int .i64 (p : Int), .slice a3 G.length c3] 28)).heap.size = w3.heap.size + 1 by simp)
          go_wp2_with fail
          generalize (w3.alloc (Obj.cells #[.int .i64 (p : Int), .slice a3 G.length c3] 28)) = w4 at *
          have hz4 := HZ.out
          clear HZ
          generalize ho2 : w3.heap.size = o2 at *
          have x0 := X.out.out.at0
          have x1 := X.out.out.at1
          have y0 := Y.out.out.at0
          have y1 := Y.out.out.at1
          go_wp2_with fail
          refine wp_region_held_drew (S := fun w' => w'.cell? ⟨o, 0, none⟩ = some (.int .i64 (m : Int)) ∧ w'.cell? ⟨o, 1, none⟩ = some (.slice a1 L c1) ∧ w'.cell? ⟨o2, 0, none⟩ = some (.int .i64 (p : Int)) ∧ w'.cell? ⟨o2, 1, none⟩ = some (.slice a3 G.length c3)) (by kernel_rfl) (by first | exact ⟨x0, x1, y0, y1⟩ | go_keep) (fun hHeld => ?_)
          refine wpAnyH_take (i := 0) (v := ?_) rfl (by kernel_rfl) (by kernel_rfl) (by kernel_rfl) (fun _ _ _ h => h) (Or.inl ⟨by rfl, ?_⟩) (by assumption) ?_
          rotate_left
          · (intro w hSw; (try dsimp only at hSw); go_simp; try with_reducible rfl)
          try simp only [List.getElem_toArray, List.getElem_cons_zero, Act.put, List.setIfInBounds_toArray, List.set_cons_zero, List.set_cons_succ]
          refine wpAnyH_take (i := 1) (v := ?_) rfl (by kernel_rfl) (by kernel_rfl) (by kernel_rfl) (fun _ _ _ h => h) (Or.inl ⟨by rfl, ?_⟩) (by assumption) ?_
          rotate_left
          · (intro w hSw; (try dsimp only at hSw); go_simp; try with_reducible rfl)
          try simp only [List.getElem_toArray, List.getElem_cons_zero, List.getElem_cons_succ, Act.put, List.setIfInBounds_toArray, List.set_cons_zero, List.set_cons_succ]
          refine wpAnyH_take (i := 2) (v := ?_) rfl (by kernel_rfl) (by kernel_rfl) (by kernel_rfl) (fun _ _ _ h => h) (Or.inl ⟨by rfl, ?_⟩) (by assumption) ?_
          rotate_left
          · (intro w hSw; (try dsimp only at hSw); go_simp; try with_reducible rfl)
          try simp only [List.getElem_toArray, List.getElem_cons_zero, List.getElem_cons_succ, Act.put, List.setIfInBounds_toArray, List.set_cons_zero, List.set_cons_succ]
          refine wpAnyH_ready (rs := [3]) (by kernel_rfl) (by simp) ?_
          refine AllReadyH.cons rfl (fun K hK => ?_) AllReadyH.nil
          try simp only [List.getElem_toArray]
          go_simp
          (go_at_call 37; refine (HS.out _ _ (by first | exact I1.out.rd | exact I1.out.rd.below (k := w4.heap.size) ((Below.refl _ _).drew) (Nat.le_refl _))).mono ?_; rintro e w5 ⟨a5, c5, rfl, hin5, hbd⟩; rw [HGl.out] at hin5 ⊢; have hb5 : Below w4.heap.size w4 w5 := (by first | exact hbd | exact ⟨hbd.os, hbd.tape, hbd.output, hbd.size, hbd.block⟩); clear hbd; have hz5 := hb5.size; replace X := Lib.hid (X.out.next hb5 X.out.lt); replace Y := Lib.hid (Y.out.next hb5 Y.out.lt); replace I1 := Lib.hid (I1.out.below hb5 (Nat.le_refl _)); replace IG := Lib.hid (IG.out.below hb5 (Nat.le_refl _)); replace B := Lib.hid (B.out.trans (hb5.mono B.out.size)); have IS := Lib.hid (hin5.mono (Nat.zero_le _)); clear hin5; clear hb5; have x0_5 := X.out.out.at0; have x1_5 := X.out.out.at1; have y0_5 := Y.out.out.at0; have y1_5 := Y.out.out.at1)
          refine hK.out _ _ (by first | exact ⟨x0_5, x1_5, y0_5, y1_5⟩ | exact ⟨x0, x1, y0, y1⟩ | go_keep) (fun hHeld => ?_)
          clear hK K
          try simp only [List.getElem_toArray, List.getElem_cons_zero, List.getElem_cons_succ, Act.put, List.setIfInBounds_toArray, List.set_cons_zero, List.set_cons_succ]
          refine wpAnyH_ready (rs := [4]) (by kernel_rfl) (by simp) ?_
          refine AllReadyH.cons rfl (fun K hK => ?_) AllReadyH.nil
          try simp only [List.getElem_toArray]
          go_simp
          (go_at_call 30; refine (lawsEqualClass _ _ _ _ _ _ _ _ (by first | exact IG.out.rd | exact IG.out.rd.below (k := w5.heap.size) ((Below.refl _ _).drew) (Nat.le_refl _)) (by first | exact IS.out.rd | exact IS.out.rd.below (k := w5.heap.size) ((Below.refl _ _).drew) (Nat.le_refl _))).mono ?_; rintro e w6 ⟨rfl, hbd⟩; have hb6 : Below w5.heap.size w5 w6 := (by first | exact hbd | exact ⟨hbd.os, hbd.tape, hbd.output, hbd.size, hbd.block⟩); clear hbd; have hz6 := hb6.size; replace X := Lib.hid (X.out.next hb6 X.out.lt); replace Y := Lib.hid (Y.out.next hb6 Y.out.lt); replace I1 := Lib.hid (I1.out.below hb6 (Nat.le_refl _)); replace IG := Lib.hid (IG.out.below hb6 (Nat.le_refl _)); replace IS := Lib.hid (IS.out.below hb6 (Nat.le_refl _)); replace B := Lib.hid (B.out.trans (hb6.mono B.out.size)); clear hb6; have x0_6 := X.out.out.at0; have x1_6 := X.out.out.at1; have y0_6 := Y.out.out.at0; have y1_6 := Y.out.out.at1)
          refine hK.out _ _ (by first | exact ⟨x0_6, x1_6, y0_6, y1_6⟩ | exact ⟨x0_5, x1_5, y0_5, y1_5⟩ | exact ⟨x0, x1, y0, y1⟩ | go_keep) (fun hHeld => ?_)
          clear hK K
          try simp only [List.getElem_toArray, List.getElem_cons_zero, List.getElem_cons_succ, Act.put, List.setIfInBounds_toArray, List.set_cons_zero, List.set_cons_succ]
          refine wpAnyH_take (i := 5) (v := ?_) rfl (by kernel_rfl) (by kernel_rfl) (by kernel_rfl) (fun _ _ _ h => h) (Or.inl ⟨by rfl, ?_⟩) (by assumption) ?_
          rotate_left
          · (intro w hSw; (try dsimp only at hSw); go_simp; try with_reducible rfl)
          try simp only [List.getElem_toArray, List.getElem_cons_zero, List.getElem_cons_succ, Act.put, List.setIfInBounds_toArray, List.set_cons_zero, List.set_cons_succ]
          refine wpAnyH_take (i := 6) (v := ?_) rfl (by kernel_rfl) (by kernel_rfl) (by kernel_rfl) (fun _ _ _ h => h) (Or.inl ⟨by rfl, ?_⟩) (by assumption) ?_
          rotate_left
          · (intro w hSw; (try dsimp only at hSw); go_simp; try with_reducible rfl)
          try simp only [List.getElem_toArray, List.getElem_cons_zero, List.getElem_cons_succ, Act.put, List.setIfInBounds_toArray, List.set_cons_zero, List.set_cons_succ]
          refine wpAnyH_take (i := 7) (v := ?_) rfl (by kernel_rfl) (by kernel_rfl) (by kernel_rfl) (fun _ _ _ h => h) (Or.inl ⟨by rfl, ?_⟩) (by assumption) ?_
          rotate_left
          · (intro w hSw; (try dsimp only at hSw); go_simp; try with_reducible rfl)
          try simp only [List.getElem_toArray, List.getElem_cons_zero, List.getElem_cons_succ, Act.put, List.setIfInBounds_toArray, List.set_cons_zero, List.set_cons_succ]
          refine wpAnyH_ready (rs := [8]) (by kernel_rfl) (by simp) ?_
          refine AllReadyH.cons rfl (fun K hK => ?_) AllReadyH.nil
          try simp only [List.getElem_toArray]
          go_simp
          (go_at_call 24; refine (HV.out _ _ (by first | exact I1.out.rd | exact I1.out.rd.below (k := w6.heap.size) ((Below.refl _ _).drew) (Nat.le_refl _))).mono ?_; rintro e w7 ⟨rfl, hbd⟩; have hb7 : Below w6.heap.size w6 w7 := (by first | exact hbd | exact ⟨hbd.os, hbd.tape, hbd.output, hbd.size, hbd.block⟩); clear hbd; have hz7 := hb7.size; replace X := Lib.hid (X.out.next hb7 X.out.lt); replace Y := Lib.hid (Y.out.next hb7 Y.out.lt); replace I1 := Lib.hid (I1.out.below hb7 (Nat.le_refl _)); replace IG := Lib.hid (IG.out.below hb7 (Nat.le_refl _)); replace IS := Lib.hid (IS.out.below hb7 (Nat.le_refl _)); replace B := Lib.hid (B.out.trans (hb7.mono B.out.size)); clear hb7; have x0_7 := X.out.out.at0; have x1_7 := X.out.out.at1; have y0_7 := Y.out.out.at0; have y1_7 := Y.out.out.at1)
          refine hK.out _ _ (by first | exact ⟨x0_7, x1_7, y0_7, y1_7⟩ | exact ⟨x0_6, x1_6, y0_6, y1_6⟩ | exact ⟨x0_5, x1_5, y0_5, y1_5⟩ | exact ⟨x0, x1, y0, y1⟩ | go_keep) (fun hHeld => ?_)
          clear hK K
          try simp only [List.getElem_toArray, List.getElem_cons_zero, List.getElem_cons_succ, Act.put, List.setIfInBounds_toArray, List.set_cons_zero, List.set_cons_succ]
          refine wpAnyH_take (i := 9) (v := ?_) rfl (by kernel_rfl) (by kernel_rfl) (by kernel_rfl) (fun _ _ _ h => h) (Or.inl ⟨by rfl, ?_⟩) (by assumption) ?_
          rotate_left
          · (intro w hSw; (try dsimp only at hSw); go_simp; try with_reducible rfl)
          try simp only [List.getElem_toArray, List.getElem_cons_zero, List.getElem_cons_succ, Act.put, List.setIfInBounds_toArray, List.set_cons_zero, List.set_cons_succ]
          refine wpAnyH_take (i := 10) (v := ?_) rfl (by kernel_rfl) (by kernel_rfl) (by kernel_rfl) (fun _ _ _ h => h) (Or.inl ⟨by rfl, ?_⟩) (by assumption) ?_
          rotate_left
          · (intro w hSw; (try dsimp only at hSw); go_simp; try with_reducible rfl)
          try simp only [List.getElem_toArray, List.getElem_cons_zero, List.getElem_cons_succ, Act.put, List.setIfInBounds_toArray, List.set_cons_zero, List.set_cons_succ]
          refine wpAnyH_take (i := 11) (v := ?_) rfl (by kernel_rfl) (by kernel_rfl) (by kernel_rfl) (fun _ _ _ h => h) (Or.inl ⟨by rfl, ?_⟩) (by assumption) ?_
          rotate_left
          · (intro w hSw; (try dsimp only at hSw); go_simp; try with_reducible rfl)
          try simp only [List.getElem_toArray, List.getElem_cons_zero, List.getElem_cons_succ, Act.put, List.setIfInBounds_toArray, List.set_cons_zero, List.set_cons_succ]
          refine wpAnyH_take (i := 12) (v := ?_) rfl (by kernel_rfl) (by kernel_rfl) (by kernel_rfl) (fun _ _ _ h => h) (Or.inl ⟨by rfl, ?_⟩) (by assumption) ?_
          rotate_left
          · (intro w hSw; (try dsimp only at hSw); go_simp; try with_reducible rfl)
          try simp only [List.getElem_toArray, List.getElem_cons_zero, List.getElem_cons_succ, Act.put, List.setIfInBounds_toArray, List.set_cons_zero, List.set_cons_succ]
          refine wpAnyH_take (i := 13) (v := ?_) rfl (by kernel_rfl) (by kernel_rfl) (by kernel_rfl) (fun _ _ _ h => h) (Or.inl ⟨by rfl, ?_⟩) (by assumption) ?_
          rotate_left
          · (intro w hSw; (try dsimp only at hSw); go_simp; try with_reducible rfl)
          try simp only [List.getElem_toArray, List.getElem_cons_zero, List.getElem_cons_succ, Act.put, List.setIfInBounds_toArray, List.set_cons_zero, List.set_cons_succ]
          refine wpAnyH_take (i := 14) (v := ?_) rfl (by kernel_rfl) (by kernel_rfl) (by kernel_rfl) (fun _ _ _ h => h) (Or.inl ⟨by rfl, ?_⟩) (by assumption) ?_
          rotate_left
          · (intro w hSw; (try dsimp only at hSw); go_simp; try with_reducible rfl)
          try simp only [List.getElem_toArray, List.getElem_cons_zero, List.getElem_cons_succ, Act.put, List.setIfInBounds_toArray, List.set_cons_zero, List.set_cons_succ]
          refine wpAnyH_take (i := 15) (v := ?_) rfl (by kernel_rfl) (by kernel_rfl) (by kernel_rfl) (fun _ _ _ h => h) (Or.inl ⟨by rfl, ?_⟩) (by assumption) ?_
          rotate_left
          · (intro w hSw; (try dsimp only at hSw); go_simp; try with_reducible rfl)
          try simp only [List.getElem_toArray, List.getElem_cons_zero, List.getElem_cons_succ, Act.put, List.setIfInBounds_toArray, List.set_cons_zero, List.set_cons_succ]
          refine wpAnyH_take (i := 16) (v := ?_) rfl (by kernel_rfl) (by kernel_rfl) (by kernel_rfl) (fun _ _ _ h => h) (Or.inl ⟨by rfl, ?_⟩) (by assumption) ?_
          rotate_left
          · (intro w hSw; (try dsimp only at hSw); go_simp; try with_reducible rfl)
          try simp only [List.getElem_toArray, List.getElem_cons_zero, List.getElem_cons_succ, Act.put, List.setIfInBounds_toArray, List.set_cons_zero, List.set_cons_succ]
          refine wpAnyH_take (i := 17) (v := ?_) rfl (by kernel_rfl) (by kernel_rfl) (by kernel_rfl) (fun _ _ _ h => h) (Or.inl ⟨by rfl, ?_⟩) (by assumption) ?_
          rotate_left
          · (intro w hSw; (try dsimp only at hSw); go_simp; try with_reducible rfl)
          try simp only [List.getElem_toArray, List.getElem_cons_zero, List.getElem_cons_succ, Act.put, List.setIfInBounds_toArray, List.set_cons_zero, List.set_cons_succ]
          refine wpAnyH_take (i := 18) (v := ?_) rfl (by kernel_rfl) (by kernel_rfl) (by kernel_rfl) (fun _ _ _ h => h) (Or.inl ⟨by rfl, ?_⟩) (by assumption) ?_
          rotate_left
          · (intro w hSw; (try dsimp only at hSw); go_simp; try with_reducible rfl)
          try simp only [List.getElem_toArray, List.getElem_cons_zero, List.getElem_cons_succ, Act.put, List.setIfInBounds_toArray, List.set_cons_zero, List.set_cons_succ]
          refine wpAnyH_take (i := 19) (v := ?_) rfl (by kernel_rfl) (by kernel_rfl) (by kernel_rfl) (fun _ _ _ h => h) (Or.inl ⟨by rfl, ?_⟩) (by assumption) ?_
          rotate_left
          · (intro w hSw; (try dsimp only at hSw); go_simp; try with_reducible rfl)
          try simp only [List.getElem_toArray, List.getElem_cons_zero, List.getElem_cons_succ, Act.put, List.setIfInBounds_toArray, List.set_cons_zero, List.set_cons_succ]
          refine wpAnyH_take (i := 20) (v := ?_) rfl (by kernel_rfl) (by kernel_rfl) (by kernel_rfl) (fun _ _ _ h => h) (Or.inl ⟨by rfl, ?_⟩) (by assumption) ?_
          rotate_left
          · (intro w hSw; (try dsimp only at hSw); go_simp; try with_reducible rfl)
          try simp only [List.getElem_toArray, List.getElem_cons_zero, List.getElem_cons_succ, Act.put, List.setIfInBounds_toArray, List.set_cons_zero, List.set_cons_succ]
          refine wpAnyH_done (by kernel_rfl) ?_ _
          clear IS HI HS HV
          have x0 := X.out.out.at0
          go_wp2_with fail
          clear x0
          go_loopw [6, 7] (fun q i wr => ∃ j : Nat, j ≤ m ∧ i = .int .i64 j ∧ q = .int .i64 (lkTo ns j : Nat) ∧ Below w7.heap.size w7 wr) (fun _ i _ => m - (intOf i).toNat)
          case atStart => exact ⟨0, Nat.zero_le _, rfl, rfl, by first | exact Below.refl _ _ | exact (Below.refl _ _).drew⟩
          case round =>
            obtain ⟨j, hj, rfl, rfl, hbe⟩ := hrel
            have HBE := Lib.hid hbe
            have hzr := hbe.size
            replace X := Lib.hid (X.out.next hbe X.out.lt)
            replace Y := Lib.hid (Y.out.next hbe Y.out.lt)
            replace I1 := Lib.hid (I1.out.below hbe (Nat.le_refl _))
            replace IG := Lib.hid (IG.out.below hbe (Nat.le_refl _))
            replace B := Lib.hid (B.out.trans (hbe.mono B.out.size))
            clear hbe
            obtain ⟨w8, hwr⟩ : ∃ w8, w8 = wr := ⟨_, rfl⟩
            subst hwr
            by_cases hlt : j < m
            · have HK := Lib.hid (HLk.out j hlt)
              have HKl := Lib.hid (HLt.out j)
              obtain ⟨a, b, q, ea, eb, eq, hq, ha, hb⟩ := HST.out j hlt
              have HQ := Lib.hid eq
              rw [eb] at HKl
              rw [ea]
              generalize lnkN j ns = lk at *
              have hltI : (j : Int) < (m : Int) := by omega
              have hwab : IntKind.i64.wrap ((a : Int) + (b : Int)) = (q : Int) := by rw [IntKind.wrap_i64]; omega
              have hqab : (q : Int) = (a : Int) + (b : Int) := by omega
              have HQI := Lib.hid hqab
              clear HST ea eb eq hq hqab HA HRm HC HCG HEN
              have x0 := X.out.out.at0
              have x1 := X.out.out.at1
              go_wp2_with fail
              refine (HK.out _ _ I1.out.rd).mono ?_
              rintro e w97 ⟨a9, c9, rfl, hin9, hb9⟩
              rw [HKl.out]
              have H9 := Lib.hid (HBE.out.trans (hb9.mono HBE.out.size))
              clear hin9 hb9
              go_wp2_with fail
              go_roundw
              case rel => exact ⟨j + 1, by omega, by go_num, by rw [HQ.out], H9.out⟩
              case measure => simp [intOf]; omega
            · obtain rfl : j = m := by omega
              rw [HE.out]
              clear HST HLk
              by_cases hL0 : L = 0
              · subst hL0
                have x0 := X.out.out.at0
                have x1 := X.out.out.at1
                have y0 := Y.out.out.at0
                have y1 := Y.out.out.at1
                go_wp2_with fail
                refine wp_region_held_drew (S := fun w' => w'.cell? ⟨o, 0, none⟩ = some (.int .i64 (j : Int)) ∧ w'.cell? ⟨o, 1, none⟩ = some (.slice a1 0 c1) ∧ w'.cell? ⟨o2, 0, none⟩ = some (.int .i64 (p : Int)) ∧ w'.cell? ⟨o2, 1, none⟩ = some (.slice a3 G.length c3)) (by kernel_rfl) (by first | exact ⟨x0, x1, y0, y1⟩ | go_keep) (fun hHeld => ?_)
                refine wpAnyH_take (i := 0) (v := ?_) rfl (by kernel_rfl) (by kernel_rfl) (by kernel_rfl) (fun _ _ _ h => h) (Or.inl ⟨by rfl, ?_⟩) (by assumption) ?_
                rotate_left
                · (intro w hSw; (try dsimp only at hSw); go_simp; try with_reducible rfl)
                try simp only [List.getElem_toArray, List.getElem_cons_zero, Act.put, List.setIfInBounds_toArray, List.set_cons_zero, List.set_cons_succ]
                refine wpAnyH_take (i := 1) (v := ?_) rfl (by kernel_rfl) (by kernel_rfl) (by kernel_rfl) (fun _ _ _ h => h) (Or.inl ⟨by rfl, ?_⟩) (by assumption) ?_
                rotate_left
                · (intro w hSw; (try dsimp only at hSw); go_simp; try with_reducible rfl)
                try simp only [List.getElem_toArray, List.getElem_cons_zero, List.getElem_cons_succ, Act.put, List.setIfInBounds_toArray, List.set_cons_zero, List.set_cons_succ]
                refine wpAnyH_take (i := 2) (v := ?_) rfl (by kernel_rfl) (by kernel_rfl) (by kernel_rfl) (fun _ _ _ h => h) (Or.inl ⟨by rfl, ?_⟩) (by assumption) ?_
                rotate_left
                · (intro w hSw; (try dsimp only at hSw); go_simp; try with_reducible rfl)
                try simp only [List.getElem_toArray, List.getElem_cons_zero, List.getElem_cons_succ, Act.put, List.setIfInBounds_toArray, List.set_cons_zero, List.set_cons_succ]
                refine wpAnyH_take (i := 3) (v := ?_) rfl (by kernel_rfl) (by kernel_rfl) (by kernel_rfl) (fun _ _ _ h => h) (Or.inl ⟨by rfl, ?_⟩) (by assumption) ?_
                rotate_left
                · (intro w hSw; (try dsimp only at hSw); go_simp; try with_reducible rfl)
                try simp only [List.getElem_toArray, List.getElem_cons_zero, List.getElem_cons_succ, Act.put, List.setIfInBounds_toArray, List.set_cons_zero, List.set_cons_succ]
                refine wpAnyH_take (i := 4) (v := ?_) rfl (by kernel_rfl) (by kernel_rfl) (by kernel_rfl) (fun _ _ _ h => h) (Or.inl ⟨by rfl, ?_⟩) (by assumption) ?_
                rotate_left
                · (intro w hSw; (try dsimp only at hSw); go_simp; try with_reducible rfl)
                try simp only [List.getElem_toArray, List.getElem_cons_zero, List.getElem_cons_succ, Act.put, List.setIfInBounds_toArray, List.set_cons_zero, List.set_cons_succ]
                refine wpAnyH_take (i := 5) (v := undef) rfl (by kernel_rfl) (by kernel_rfl) (by kernel_rfl) (fun _ _ _ h => h) (Or.inr ⟨by rfl, rfl⟩) (by assumption) ?_
                try simp only [List.getElem_toArray, List.getElem_cons_zero, List.getElem_cons_succ, Act.put, List.setIfInBounds_toArray, List.set_cons_zero, List.set_cons_succ]
                refine wpAnyH_take (i := 6) (v := undef) rfl (by kernel_rfl) (by kernel_rfl) (by kernel_rfl) (fun _ _ _ h => h) (Or.inr ⟨by rfl, rfl⟩) (by assumption) ?_
                try simp only [List.getElem_toArray, List.getElem_cons_zero, List.getElem_cons_succ, Act.put, List.setIfInBounds_toArray, List.set_cons_zero, List.set_cons_succ]
                refine wpAnyH_take (i := 7) (v := undef) rfl (by kernel_rfl) (by kernel_rfl) (by kernel_rfl) (fun _ _ _ h => h) (Or.inr ⟨by rfl, rfl⟩) (by assumption) ?_
                try simp only [List.getElem_toArray, List.getElem_cons_zero, List.getElem_cons_succ, Act.put, List.setIfInBounds_toArray, List.set_cons_zero, List.set_cons_succ]
                refine wpAnyH_take (i := 8) (v := undef) rfl (by kernel_rfl) (by kernel_rfl) (by kernel_rfl) (fun _ _ _ h => h) (Or.inr ⟨by rfl, rfl⟩) (by assumption) ?_
                try simp only [List.getElem_toArray, List.getElem_cons_zero, List.getElem_cons_succ, Act.put, List.setIfInBounds_toArray, List.set_cons_zero, List.set_cons_succ]
                refine wpAnyH_take (i := 9) (v := undef) rfl (by kernel_rfl) (by kernel_rfl) (by kernel_rfl) (fun _ _ _ h => h) (Or.inr ⟨by rfl, rfl⟩) (by assumption) ?_
                try simp only [List.getElem_toArray, List.getElem_cons_zero, List.getElem_cons_succ, Act.put, List.setIfInBounds_toArray, List.set_cons_zero, List.set_cons_succ]
                refine wpAnyH_take (i := 10) (v := ?_) rfl (by kernel_rfl) (by kernel_rfl) (by kernel_rfl) (fun _ _ _ h => h) (Or.inl ⟨by rfl, ?_⟩) (by assumption) ?_
                rotate_left
                · (intro w hSw; (try dsimp only at hSw); go_simp; try with_reducible rfl)
                try simp only [List.getElem_toArray, List.getElem_cons_zero, List.getElem_cons_succ, Act.put, List.setIfInBounds_toArray, List.set_cons_zero, List.set_cons_succ]
                refine wpAnyH_take (i := 11) (v := ?_) rfl (by kernel_rfl) (by kernel_rfl) (by kernel_rfl) (fun _ _ _ h => h) (Or.inl ⟨by rfl, ?_⟩) (by assumption) ?_
                rotate_left
                · (intro w hSw; (try dsimp only at hSw); go_simp; try with_reducible rfl)
                try simp only [List.getElem_toArray, List.getElem_cons_zero, List.getElem_cons_succ, Act.put, List.setIfInBounds_toArray, List.set_cons_zero, List.set_cons_succ]
                refine wpAnyH_take (i := 12) (v := ?_) rfl (by kernel_rfl) (by kernel_rfl) (by kernel_rfl) (fun _ _ _ h => h) (Or.inl ⟨by rfl, ?_⟩) (by assumption) ?_
                rotate_left
                · (intro w hSw; (try dsimp only at hSw); go_simp; try with_reducible rfl)
                try simp only [List.getElem_toArray, List.getElem_cons_zero, List.getElem_cons_succ, Act.put, List.setIfInBounds_toArray, List.set_cons_zero, List.set_cons_succ]
                refine wpAnyH_take (i := 13) (v := ?_) rfl (by kernel_rfl) (by kernel_rfl) (by kernel_rfl) (fun _ _ _ h => h) (Or.inl ⟨by rfl, ?_⟩) (by assumption) ?_
                rotate_left
                · (intro w hSw; (try dsimp only at hSw); go_simp; try with_reducible rfl)
                try simp only [List.getElem_toArray, List.getElem_cons_zero, List.getElem_cons_succ, Act.put, List.setIfInBounds_toArray, List.set_cons_zero, List.set_cons_succ]
                refine wpAnyH_take (i := 14) (v := ?_) rfl (by kernel_rfl) (by kernel_rfl) (by kernel_rfl) (fun _ _ _ h => h) (Or.inl ⟨by rfl, ?_⟩) (by assumption) ?_
                rotate_left
                · (intro w hSw; (try dsimp only at hSw); go_simp; try with_reducible rfl)
                try simp only [List.getElem_toArray, List.getElem_cons_zero, List.getElem_cons_succ, Act.put, List.setIfInBounds_toArray, List.set_cons_zero, List.set_cons_succ]
                refine wpAnyH_take (i := 15) (v := ?_) rfl (by kernel_rfl) (by kernel_rfl) (by kernel_rfl) (fun _ _ _ h => h) (Or.inl ⟨by rfl, ?_⟩) (by assumption) ?_
                rotate_left
                · (intro w hSw; (try dsimp only at hSw); go_simp; try with_reducible rfl)
                try simp only [List.getElem_toArray, List.getElem_cons_zero, List.getElem_cons_succ, Act.put, List.setIfInBounds_toArray, List.set_cons_zero, List.set_cons_succ]
                refine wpAnyH_ready (rs := [16]) (by kernel_rfl) (by simp) ?_
                refine AllReadyH.cons rfl (fun K hK => ?_) AllReadyH.nil
                try simp only [List.getElem_toArray]
                go_simp
                (go_at_call 38; refine (HRm.out _ _ (by first | exact I1.out.rd | exact I1.out.rd.below (k := w8.heap.size) ((Below.refl _ _).drew) (Nat.le_refl _))).mono ?_; rintro e w9 ⟨a9, c9, rfl, hin9, hbd⟩; rw [HRl.out] at hin9 ⊢; have hb9 : Below w8.heap.size w8 w9 := (by first | exact hbd | exact ⟨hbd.os, hbd.tape, hbd.output, hbd.size, hbd.block⟩); clear hbd; have hz9 := hb9.size; replace X := Lib.hid (X.out.next hb9 X.out.lt); replace Y := Lib.hid (Y.out.next hb9 Y.out.lt); replace I1 := Lib.hid (I1.out.below hb9 (Nat.le_refl _)); replace IG := Lib.hid (IG.out.below hb9 (Nat.le_refl _)); replace B := Lib.hid (B.out.trans (hb9.mono B.out.size)); have IR := Lib.hid (hin9.mono (Nat.zero_le _)); clear hin9; clear hb9; have x0_9 := X.out.out.at0; have x1_9 := X.out.out.at1; have y0_9 := Y.out.out.at0; have y1_9 := Y.out.out.at1)
                refine hK.out _ _ (by first | exact ⟨x0_9, x1_9, y0_9, y1_9⟩ | exact ⟨x0, x1, y0, y1⟩ | go_keep) (fun hHeld => ?_)
                clear hK K
                try simp only [List.getElem_toArray, List.getElem_cons_zero, List.getElem_cons_succ, Act.put, List.setIfInBounds_toArray, List.set_cons_zero, List.set_cons_succ]
                refine wpAnyH_take (i := 17) (v := ?_) rfl (by kernel_rfl) (by kernel_rfl) (by kernel_rfl) (fun _ _ _ h => h) (Or.inl ⟨by rfl, ?_⟩) (by assumption) ?_
                rotate_left
                · (intro w hSw; (try dsimp only at hSw); go_simp; try with_reducible rfl)
                try simp only [List.getElem_toArray, List.getElem_cons_zero, List.getElem_cons_succ, Act.put, List.setIfInBounds_toArray, List.set_cons_zero, List.set_cons_succ]
                refine wpAnyH_ready (rs := [18]) (by kernel_rfl) (by simp) ?_
                refine AllReadyH.cons rfl (fun K hK => ?_) AllReadyH.nil
                try simp only [List.getElem_toArray]
                go_simp
                (go_at_call 32; refine (HA.out _ _ _ (by first | exact IG.out.rd | exact IG.out.rd.below (k := w9.heap.size) ((Below.refl _ _).drew) (Nat.le_refl _)) (by first | exact IR.out.rd | exact IR.out.rd.below (k := w9.heap.size) ((Below.refl _ _).drew) (Nat.le_refl _))).mono ?_; rintro e w98 ⟨rfl, hw98⟩; subst w98)
                refine hK.out _ _ (by first | exact ⟨x0_9, x1_9, y0_9, y1_9⟩ | exact ⟨x0, x1, y0, y1⟩ | go_keep) (fun hHeld => ?_)
                clear hK K
                try simp only [List.getElem_toArray, List.getElem_cons_zero, List.getElem_cons_succ, Act.put, List.setIfInBounds_toArray, List.set_cons_zero, List.set_cons_succ]
                refine wpAnyH_take (i := 19) (v := ?_) rfl (by kernel_rfl) (by kernel_rfl) (by kernel_rfl) (fun _ _ _ h => h) (Or.inl ⟨by rfl, ?_⟩) (by assumption) ?_
                rotate_left
                · (intro w hSw; (try dsimp only at hSw); go_simp; try with_reducible rfl)
                try simp only [List.getElem_toArray, List.getElem_cons_zero, List.getElem_cons_succ, Act.put, List.setIfInBounds_toArray, List.set_cons_zero, List.set_cons_succ]
                refine wpAnyH_take (i := 20) (v := ?_) rfl (by kernel_rfl) (by kernel_rfl) (by kernel_rfl) (fun _ _ _ h => h) (Or.inl ⟨by rfl, ?_⟩) (by assumption) ?_
                rotate_left
                · (intro w hSw; (try dsimp only at hSw); go_simp; try with_reducible rfl)
                try simp only [List.getElem_toArray, List.getElem_cons_zero, List.getElem_cons_succ, Act.put, List.setIfInBounds_toArray, List.set_cons_zero, List.set_cons_succ]
                refine wpAnyH_take (i := 21) (v := ?_) rfl (by kernel_rfl) (by kernel_rfl) (by kernel_rfl) (fun _ _ _ h => h) (Or.inl ⟨by rfl, ?_⟩) (by assumption) ?_
                rotate_left
                · (intro w hSw; (try dsimp only at hSw); go_simp; try with_reducible rfl)
                try simp only [List.getElem_toArray, List.getElem_cons_zero, List.getElem_cons_succ, Act.put, List.setIfInBounds_toArray, List.set_cons_zero, List.set_cons_succ]
                refine wpAnyH_take (i := 22) (v := ?_) rfl (by kernel_rfl) (by kernel_rfl) (by kernel_rfl) (fun _ _ _ h => h) (Or.inl ⟨by rfl, ?_⟩) (by assumption) ?_
                rotate_left
                · (intro w hSw; (try dsimp only at hSw); go_simp; try with_reducible rfl)
                try simp only [List.getElem_toArray, List.getElem_cons_zero, List.getElem_cons_succ, Act.put, List.setIfInBounds_toArray, List.set_cons_zero, List.set_cons_succ]
                refine wpAnyH_ready (rs := [23]) (by kernel_rfl) (by simp) ?_
                refine AllReadyH.cons rfl (fun K hK => ?_) AllReadyH.nil
                try simp only [List.getElem_toArray]
                go_simp
                (go_at_call 16; refine (HEN.out _ _ (by first | exact I1.out.rd | exact I1.out.rd.below (k := w9.heap.size) ((Below.refl _ _).drew) (Nat.le_refl _))).mono ?_; rintro e w10 ⟨a10, c10, rfl, hin10, hbd⟩; rw [He0.out]; clear hin10; have hb10 : Below w9.heap.size w9 w10 := (by first | exact hbd | exact ⟨hbd.os, hbd.tape, hbd.output, hbd.size, hbd.block⟩); clear hbd; have hz10 := hb10.size; replace X := Lib.hid (X.out.next hb10 X.out.lt); replace Y := Lib.hid (Y.out.next hb10 Y.out.lt); replace I1 := Lib.hid (I1.out.below hb10 (Nat.le_refl _)); replace IG := Lib.hid (IG.out.below hb10 (Nat.le_refl _)); replace IR := Lib.hid (IR.out.below hb10 (Nat.le_refl _)); replace B := Lib.hid (B.out.trans (hb10.mono B.out.size)); clear hb10; have x0_10 := X.out.out.at0; have x1_10 := X.out.out.at1; have y0_10 := Y.out.out.at0; have y1_10 := Y.out.out.at1)
                refine hK.out _ _ (by first | exact ⟨x0_10, x1_10, y0_10, y1_10⟩ | exact ⟨x0_9, x1_9, y0_9, y1_9⟩ | exact ⟨x0, x1, y0, y1⟩ | go_keep) (fun hHeld => ?_)
                clear hK K
                try simp only [List.getElem_toArray, List.getElem_cons_zero, List.getElem_cons_succ, Act.put, List.setIfInBounds_toArray, List.set_cons_zero, List.set_cons_succ]
                refine wpAnyH_take (i := 24) (v := ?_) rfl (by kernel_rfl) (by kernel_rfl) (by kernel_rfl) (fun _ _ _ h => h) (Or.inl ⟨by rfl, ?_⟩) (by assumption) ?_
                rotate_left
                · (intro w hSw; (try dsimp only at hSw); go_simp; try with_reducible rfl)
                try simp only [List.getElem_toArray, List.getElem_cons_zero, List.getElem_cons_succ, Act.put, List.setIfInBounds_toArray, List.set_cons_zero, List.set_cons_succ]
                refine wpAnyH_take (i := 25) (v := ?_) rfl (by kernel_rfl) (by kernel_rfl) (by kernel_rfl) (fun _ _ _ h => h) (Or.inl ⟨by rfl, ?_⟩) (by assumption) ?_
                rotate_left
                · (intro w hSw; (try dsimp only at hSw); go_simp; try with_reducible rfl)
                try simp only [List.getElem_toArray, List.getElem_cons_zero, List.getElem_cons_succ, Act.put, List.setIfInBounds_toArray, List.set_cons_zero, List.set_cons_succ]
                refine wpAnyH_take (i := 26) (v := ?_) rfl (by kernel_rfl) (by kernel_rfl) (by kernel_rfl) (fun _ _ _ h => h) (Or.inl ⟨by rfl, ?_⟩) (by assumption) ?_
                rotate_left
                · (intro w hSw; (try dsimp only at hSw); go_simp; try with_reducible rfl)
                try simp only [List.getElem_toArray, List.getElem_cons_zero, List.getElem_cons_succ, Act.put, List.setIfInBounds_toArray, List.set_cons_zero, List.set_cons_succ]
                refine wpAnyH_take (i := 27) (v := ?_) rfl (by kernel_rfl) (by kernel_rfl) (by kernel_rfl) (fun _ _ _ h => h) (Or.inl ⟨by rfl, ?_⟩) (by assumption) ?_
                rotate_left
                · (intro w hSw; (try dsimp only at hSw); go_simp; try with_reducible rfl)
                try simp only [List.getElem_toArray, List.getElem_cons_zero, List.getElem_cons_succ, Act.put, List.setIfInBounds_toArray, List.set_cons_zero, List.set_cons_succ]
                refine wpAnyH_done (by kernel_rfl) ?_ _
                go_wp2_with fail
                go_ret
                exact ⟨rfl, by first | exact B.out | exact B.out.drew⟩
              · have hvv : V0 < V1 := hne (by omega)
                have hLn : ¬ L = 0 := hL0
                have hLb : ((L : Int) == 0) = false := by simp; omega
                clear hne hL0
                have x0 := X.out.out.at0
                have x1 := X.out.out.at1
                have y0 := Y.out.out.at0
                have y1 := Y.out.out.at1
                go_wp2_with fail
                refine wp_region_held_drew (S := fun w' => w'.cell? ⟨o, 0, none⟩ = some (.int .i64 (j : Int)) ∧ w'.cell? ⟨o, 1, none⟩ = some (.slice a1 L c1) ∧ w'.cell? ⟨o2, 0, none⟩ = some (.int .i64 (p : Int)) ∧ w'.cell? ⟨o2, 1, none⟩ = some (.slice a3 G.length c3)) (by kernel_rfl) (by first | exact ⟨x0, x1, y0, y1⟩ | go_keep) (fun hHeld => ?_)
                refine wpAnyH_take (i := 0) (v := ?_) rfl (by kernel_rfl) (by kernel_rfl) (by kernel_rfl) (fun _ _ _ h => h) (Or.inl ⟨by rfl, ?_⟩) (by assumption) ?_
                rotate_left
                · (intro w hSw; (try dsimp only at hSw); go_simp; try with_reducible rfl)
                try simp only [List.getElem_toArray, List.getElem_cons_zero, Act.put, List.setIfInBounds_toArray, List.set_cons_zero, List.set_cons_succ]
                refine wpAnyH_take (i := 1) (v := ?_) rfl (by kernel_rfl) (by kernel_rfl) (by kernel_rfl) (fun _ _ _ h => h) (Or.inl ⟨by rfl, ?_⟩) (by assumption) ?_
                rotate_left
                · (intro w hSw; (try dsimp only at hSw); go_simp; try with_reducible rfl)
                try simp only [List.getElem_toArray, List.getElem_cons_zero, List.getElem_cons_succ, Act.put, List.setIfInBounds_toArray, List.set_cons_zero, List.set_cons_succ]
                refine wpAnyH_take (i := 2) (v := ?_) rfl (by kernel_rfl) (by kernel_rfl) (by kernel_rfl) (fun _ _ _ h => h) (Or.inl ⟨by rfl, ?_⟩) (by assumption) ?_
                rotate_left
                · (intro w hSw; (try dsimp only at hSw); go_simp; try with_reducible rfl)
                try simp only [List.getElem_toArray, List.getElem_cons_zero, List.getElem_cons_succ, Act.put, List.setIfInBounds_toArray, List.set_cons_zero, List.set_cons_succ]
                refine wpAnyH_take (i := 3) (v := ?_) rfl (by kernel_rfl) (by kernel_rfl) (by kernel_rfl) (fun _ _ _ h => h) (Or.inl ⟨by rfl, ?_⟩) (by assumption) ?_
                rotate_left
                · (intro w hSw; (try dsimp only at hSw); go_simp; try with_reducible rfl)
                try simp only [List.getElem_toArray, List.getElem_cons_zero, List.getElem_cons_succ, Act.put, List.setIfInBounds_toArray, List.set_cons_zero, List.set_cons_succ]
                refine wpAnyH_take (i := 4) (v := ?_) rfl (by kernel_rfl) (by kernel_rfl) (by kernel_rfl) (fun _ _ _ h => h) (Or.inl ⟨by rfl, ?_⟩) (by assumption) ?_
                rotate_left
                · (intro w hSw; (try dsimp only at hSw); go_simp; try with_reducible rfl)
                try simp only [List.getElem_toArray, List.getElem_cons_zero, List.getElem_cons_succ, Act.put, List.setIfInBounds_toArray, List.set_cons_zero, List.set_cons_succ]
                refine wpAnyH_take (i := 5) (v := ?_) rfl (by kernel_rfl) (by kernel_rfl) (by kernel_rfl) (fun _ _ _ h => h) (Or.inl ⟨by rfl, ?_⟩) (by assumption) ?_
                rotate_left
                · (intro w hSw; (try dsimp only at hSw); go_simp; try with_reducible rfl)
                try simp only [List.getElem_toArray, List.getElem_cons_zero, List.getElem_cons_succ, Act.put, List.setIfInBounds_toArray, List.set_cons_zero, List.set_cons_succ]
                refine wpAnyH_take (i := 7) (v := ?_) rfl (by kernel_rfl) (by kernel_rfl) (by kernel_rfl) (fun _ _ _ h => h) (Or.inl ⟨by rfl, ?_⟩) (by assumption) ?_
                rotate_left
                · (intro w hSw; (try dsimp only at hSw); go_simp; try with_reducible rfl)
                try simp only [List.getElem_toArray, List.getElem_cons_zero, List.getElem_cons_succ, Act.put, List.setIfInBounds_toArray, List.set_cons_zero, List.set_cons_succ]
                refine wpAnyH_ready (rs := [6]) (by kernel_rfl) (by simp) ?_
                refine AllReadyH.cons rfl (fun K hK => ?_) AllReadyH.nil
                try simp only [List.getElem_toArray]
                go_simp
                (go_at_call 27; refine (HCG.out _ _ (by first | exact IG.out.rd | exact IG.out.rd.below (k := w8.heap.size) ((Below.refl _ _).drew) (Nat.le_refl _))).mono ?_; rintro e w9 ⟨rfl, hbd⟩; have hb9 : Below w8.heap.size w8 w9 := (by first | exact hbd | exact ⟨hbd.os, hbd.tape, hbd.output, hbd.size, hbd.block⟩); clear hbd; have hz9 := hb9.size; replace X := Lib.hid (X.out.next hb9 X.out.lt); replace Y := Lib.hid (Y.out.next hb9 Y.out.lt); replace I1 := Lib.hid (I1.out.below hb9 (Nat.le_refl _)); replace IG := Lib.hid (IG.out.below hb9 (Nat.le_refl _)); replace B := Lib.hid (B.out.trans (hb9.mono B.out.size)); clear hb9; have x0_9 := X.out.out.at0; have x1_9 := X.out.out.at1; have y0_9 := Y.out.out.at0; have y1_9 := Y.out.out.at1)
                refine hK.out _ _ (by first | exact ⟨x0_9, x1_9, y0_9, y1_9⟩ | exact ⟨x0, x1, y0, y1⟩ | go_keep) (fun hHeld => ?_)
                clear hK K
                try simp only [List.getElem_toArray, List.getElem_cons_zero, List.getElem_cons_succ, Act.put, List.setIfInBounds_toArray, List.set_cons_zero, List.set_cons_succ]
                refine wpAnyH_ready (rs := [8]) (by kernel_rfl) (by simp) ?_
                refine AllReadyH.cons rfl (fun K hK => ?_) AllReadyH.nil
                try simp only [List.getElem_toArray]
                go_simp
                (go_at_call 27; refine (HC.out _ _ (by first | exact I1.out.rd | exact I1.out.rd.below (k := w9.heap.size) ((Below.refl _ _).drew) (Nat.le_refl _))).mono ?_; rintro e w10 ⟨rfl, hbd⟩; have hb10 : Below w9.heap.size w9 w10 := (by first | exact hbd | exact ⟨hbd.os, hbd.tape, hbd.output, hbd.size, hbd.block⟩); clear hbd; have hz10 := hb10.size; replace X := Lib.hid (X.out.next hb10 X.out.lt); replace Y := Lib.hid (Y.out.next hb10 Y.out.lt); replace I1 := Lib.hid (I1.out.below hb10 (Nat.le_refl _)); replace IG := Lib.hid (IG.out.below hb10 (Nat.le_refl _)); replace B := Lib.hid (B.out.trans (hb10.mono B.out.size)); clear hb10; have x0_10 := X.out.out.at0; have x1_10 := X.out.out.at1; have y0_10 := Y.out.out.at0; have y1_10 := Y.out.out.at1)
                refine hK.out _ _ (by first | exact ⟨x0_10, x1_10, y0_10, y1_10⟩ | exact ⟨x0_9, x1_9, y0_9, y1_9⟩ | exact ⟨x0, x1, y0, y1⟩ | go_keep) (fun hHeld => ?_)
                clear hK K
                try simp only [List.getElem_toArray, List.getElem_cons_zero, List.getElem_cons_succ, Act.put, List.setIfInBounds_toArray, List.set_cons_zero, List.set_cons_succ]
                refine wpAnyH_take (i := 9) (v := ?_) rfl (by kernel_rfl) (by kernel_rfl) (by kernel_rfl) (fun _ _ _ h => h) (Or.inl ⟨by rfl, ?_⟩) (by assumption) ?_
                rotate_left
                · (intro w hSw; (try dsimp only at hSw); go_simp; try with_reducible rfl)
                try simp only [List.getElem_toArray, List.getElem_cons_zero, List.getElem_cons_succ, Act.put, List.setIfInBounds_toArray, List.set_cons_zero, List.set_cons_succ]
                refine wpAnyH_take (i := 10) (v := ?_) rfl (by kernel_rfl) (by kernel_rfl) (by kernel_rfl) (fun _ _ _ h => h) (Or.inl ⟨by rfl, ?_⟩) (by assumption) ?_
                rotate_left
                · (intro w hSw; (try dsimp only at hSw); go_simp; try with_reducible rfl)
                try simp only [List.getElem_toArray, List.getElem_cons_zero, List.getElem_cons_succ, Act.put, List.setIfInBounds_toArray, List.set_cons_zero, List.set_cons_succ]
                refine wpAnyH_take (i := 11) (v := ?_) rfl (by kernel_rfl) (by kernel_rfl) (by kernel_rfl) (fun _ _ _ h => h) (Or.inl ⟨by rfl, ?_⟩) (by assumption) ?_
                rotate_left
                · (intro w hSw; (try dsimp only at hSw); go_simp; try with_reducible rfl)
                try simp only [List.getElem_toArray, List.getElem_cons_zero, List.getElem_cons_succ, Act.put, List.setIfInBounds_toArray, List.set_cons_zero, List.set_cons_succ]
                refine wpAnyH_take (i := 12) (v := ?_) rfl (by kernel_rfl) (by kernel_rfl) (by kernel_rfl) (fun _ _ _ h => h) (Or.inl ⟨by rfl, ?_⟩) (by assumption) ?_
                rotate_left
                · (intro w hSw; (try dsimp only at hSw); go_simp; try with_reducible rfl)
                try simp only [List.getElem_toArray, List.getElem_cons_zero, List.getElem_cons_succ, Act.put, List.setIfInBounds_toArray, List.set_cons_zero, List.set_cons_succ]
                refine wpAnyH_take (i := 13) (v := ?_) rfl (by kernel_rfl) (by kernel_rfl) (by kernel_rfl) (fun _ _ _ h => h) (Or.inl ⟨by rfl, ?_⟩) (by assumption) ?_
                rotate_left
                · (intro w hSw; (try dsimp only at hSw); go_simp; try with_reducible rfl)
                try simp only [List.getElem_toArray, List.getElem_cons_zero, List.getElem_cons_succ, Act.put, List.setIfInBounds_toArray, List.set_cons_zero, List.set_cons_succ]
                refine wpAnyH_take (i := 14) (v := ?_) rfl (by kernel_rfl) (by kernel_rfl) (by kernel_rfl) (fun _ _ _ h => h) (Or.inl ⟨by rfl, ?_⟩) (by assumption) ?_
                rotate_left
                · (intro w hSw; (try dsimp only at hSw); go_simp; try with_reducible rfl)
                try simp only [List.getElem_toArray, List.getElem_cons_zero, List.getElem_cons_succ, Act.put, List.setIfInBounds_toArray, List.set_cons_zero, List.set_cons_succ]
                refine wpAnyH_take (i := 15) (v := ?_) rfl (by kernel_rfl) (by kernel_rfl) (by kernel_rfl) (fun _ _ _ h => h) (Or.inl ⟨by rfl, ?_⟩) (by assumption) ?_
                rotate_left
                · (intro w hSw; (try dsimp only at hSw); go_simp; try with_reducible rfl)
                try simp only [List.getElem_toArray, List.getElem_cons_zero, List.getElem_cons_succ, Act.put, List.setIfInBounds_toArray, List.set_cons_zero, List.set_cons_succ]
                refine wpAnyH_ready (rs := [16]) (by kernel_rfl) (by simp) ?_
                refine AllReadyH.cons rfl (fun K hK => ?_) AllReadyH.nil
                try simp only [List.getElem_toArray]
                go_simp
                (go_at_call 38; refine (HRm.out _ _ (by first | exact I1.out.rd | exact I1.out.rd.below (k := w10.heap.size) ((Below.refl _ _).drew) (Nat.le_refl _))).mono ?_; rintro e w11 ⟨a11, c11, rfl, hin11, hbd⟩; rw [HRl.out] at hin11 ⊢; have hb11 : Below w10.heap.size w10 w11 := (by first | exact hbd | exact ⟨hbd.os, hbd.tape, hbd.output, hbd.size, hbd.block⟩); clear hbd; have hz11 := hb11.size; replace X := Lib.hid (X.out.next hb11 X.out.lt); replace Y := Lib.hid (Y.out.next hb11 Y.out.lt); replace I1 := Lib.hid (I1.out.below hb11 (Nat.le_refl _)); replace IG := Lib.hid (IG.out.below hb11 (Nat.le_refl _)); replace B := Lib.hid (B.out.trans (hb11.mono B.out.size)); have IR := Lib.hid (hin11.mono (Nat.zero_le _)); clear hin11; clear hb11; have x0_11 := X.out.out.at0; have x1_11 := X.out.out.at1; have y0_11 := Y.out.out.at0; have y1_11 := Y.out.out.at1)
                refine hK.out _ _ (by first | exact ⟨x0_11, x1_11, y0_11, y1_11⟩ | exact ⟨x0_10, x1_10, y0_10, y1_10⟩ | exact ⟨x0_9, x1_9, y0_9, y1_9⟩ | exact ⟨x0, x1, y0, y1⟩ | go_keep) (fun hHeld => ?_)
                clear hK K
                try simp only [List.getElem_toArray, List.getElem_cons_zero, List.getElem_cons_succ, Act.put, List.setIfInBounds_toArray, List.set_cons_zero, List.set_cons_succ]
                refine wpAnyH_take (i := 17) (v := ?_) rfl (by kernel_rfl) (by kernel_rfl) (by kernel_rfl) (fun _ _ _ h => h) (Or.inl ⟨by rfl, ?_⟩) (by assumption) ?_
                rotate_left
                · (intro w hSw; (try dsimp only at hSw); go_simp; try with_reducible rfl)
                try simp only [List.getElem_toArray, List.getElem_cons_zero, List.getElem_cons_succ, Act.put, List.setIfInBounds_toArray, List.set_cons_zero, List.set_cons_succ]
                refine wpAnyH_ready (rs := [18]) (by kernel_rfl) (by simp) ?_
                refine AllReadyH.cons rfl (fun K hK => ?_) AllReadyH.nil
                try simp only [List.getElem_toArray]
                go_simp
                (go_at_call 32; refine (HA.out _ _ _ (by first | exact IG.out.rd | exact IG.out.rd.below (k := w11.heap.size) ((Below.refl _ _).drew) (Nat.le_refl _)) (by first | exact IR.out.rd | exact IR.out.rd.below (k := w11.heap.size) ((Below.refl _ _).drew) (Nat.le_refl _))).mono ?_; rintro e w98 ⟨rfl, hw98⟩; subst w98)
                refine hK.out _ _ (by first | exact ⟨x0_11, x1_11, y0_11, y1_11⟩ | exact ⟨x0_10, x1_10, y0_10, y1_10⟩ | exact ⟨x0_9, x1_9, y0_9, y1_9⟩ | exact ⟨x0, x1, y0, y1⟩ | go_keep) (fun hHeld => ?_)
                clear hK K
                try simp only [List.getElem_toArray, List.getElem_cons_zero, List.getElem_cons_succ, Act.put, List.setIfInBounds_toArray, List.set_cons_zero, List.set_cons_succ]
                refine wpAnyH_take (i := 19) (v := ?_) rfl (by kernel_rfl) (by kernel_rfl) (by kernel_rfl) (fun _ _ _ h => h) (Or.inl ⟨by rfl, ?_⟩) (by assumption) ?_
                rotate_left
                · (intro w hSw; (try dsimp only at hSw); go_simp; try with_reducible rfl)
                try simp only [List.getElem_toArray, List.getElem_cons_zero, List.getElem_cons_succ, Act.put, List.setIfInBounds_toArray, List.set_cons_zero, List.set_cons_succ]
                refine wpAnyH_take (i := 20) (v := ?_) rfl (by kernel_rfl) (by kernel_rfl) (by kernel_rfl) (fun _ _ _ h => h) (Or.inl ⟨by rfl, ?_⟩) (by assumption) ?_
                rotate_left
                · (intro w hSw; (try dsimp only at hSw); go_simp; try with_reducible rfl)
                try simp only [List.getElem_toArray, List.getElem_cons_zero, List.getElem_cons_succ, Act.put, List.setIfInBounds_toArray, List.set_cons_zero, List.set_cons_succ]
                refine wpAnyH_take (i := 21) (v := ?_) rfl (by kernel_rfl) (by kernel_rfl) (by kernel_rfl) (fun _ _ _ h => h) (Or.inl ⟨by rfl, ?_⟩) (by assumption) ?_
                rotate_left
                · (intro w hSw; (try dsimp only at hSw); go_simp; try with_reducible rfl)
                try simp only [List.getElem_toArray, List.getElem_cons_zero, List.getElem_cons_succ, Act.put, List.setIfInBounds_toArray, List.set_cons_zero, List.set_cons_succ]
                refine wpAnyH_take (i := 22) (v := ?_) rfl (by kernel_rfl) (by kernel_rfl) (by kernel_rfl) (fun _ _ _ h => h) (Or.inl ⟨by rfl, ?_⟩) (by assumption) ?_
                rotate_left
                · (intro w hSw; (try dsimp only at hSw); go_simp; try with_reducible rfl)
                try simp only [List.getElem_toArray, List.getElem_cons_zero, List.getElem_cons_succ, Act.put, List.setIfInBounds_toArray, List.set_cons_zero, List.set_cons_succ]
                refine wpAnyH_ready (rs := [23]) (by kernel_rfl) (by simp) ?_
                refine AllReadyH.cons rfl (fun K hK => ?_) AllReadyH.nil
                try simp only [List.getElem_toArray]
                go_simp
                (go_at_call 16; refine (HEN.out _ _ (by first | exact I1.out.rd | exact I1.out.rd.below (k := w11.heap.size) ((Below.refl _ _).drew) (Nat.le_refl _))).mono ?_; rintro e w12 ⟨a12, c12, rfl, hin12, hbd⟩; rw [He0.out]; clear hin12; have hb12 : Below w11.heap.size w11 w12 := (by first | exact hbd | exact ⟨hbd.os, hbd.tape, hbd.output, hbd.size, hbd.block⟩); clear hbd; have hz12 := hb12.size; replace X := Lib.hid (X.out.next hb12 X.out.lt); replace Y := Lib.hid (Y.out.next hb12 Y.out.lt); replace I1 := Lib.hid (I1.out.below hb12 (Nat.le_refl _)); replace IG := Lib.hid (IG.out.below hb12 (Nat.le_refl _)); replace IR := Lib.hid (IR.out.below hb12 (Nat.le_refl _)); replace B := Lib.hid (B.out.trans (hb12.mono B.out.size)); clear hb12; have x0_12 := X.out.out.at0; have x1_12 := X.out.out.at1; have y0_12 := Y.out.out.at0; have y1_12 := Y.out.out.at1)
                refine hK.out _ _ (by first | exact ⟨x0_12, x1_12, y0_12, y1_12⟩ | exact ⟨x0_11, x1_11, y0_11, y1_11⟩ | exact ⟨x0_10, x1_10, y0_10, y1_10⟩ | exact ⟨x0_9, x1_9, y0_9, y1_9⟩ | exact ⟨x0, x1, y0, y1⟩ | go_keep) (fun hHeld => ?_)
                clear hK K
                try simp only [List.getElem_toArray, List.getElem_cons_zero, List.getElem_cons_succ, Act.put, List.setIfInBounds_toArray, List.set_cons_zero, List.set_cons_succ]
                refine wpAnyH_take (i := 24) (v := ?_) rfl (by kernel_rfl) (by kernel_rfl) (by kernel_rfl) (fun _ _ _ h => h) (Or.inl ⟨by rfl, ?_⟩) (by assumption) ?_
                rotate_left
                · (intro w hSw; (try dsimp only at hSw); go_simp; try with_reducible rfl)
                try simp only [List.getElem_toArray, List.getElem_cons_zero, List.getElem_cons_succ, Act.put, List.setIfInBounds_toArray, List.set_cons_zero, List.set_cons_succ]
                refine wpAnyH_take (i := 25) (v := ?_) rfl (by kernel_rfl) (by kernel_rfl) (by kernel_rfl) (fun _ _ _ h => h) (Or.inl ⟨by rfl, ?_⟩) (by assumption) ?_
                rotate_left
                · (intro w hSw; (try dsimp only at hSw); go_simp; try with_reducible rfl)
                try simp only [List.getElem_toArray, List.getElem_cons_zero, List.getElem_cons_succ, Act.put, List.setIfInBounds_toArray, List.set_cons_zero, List.set_cons_succ]
                refine wpAnyH_take (i := 26) (v := ?_) rfl (by kernel_rfl) (by kernel_rfl) (by kernel_rfl) (fun _ _ _ h => h) (Or.inl ⟨by rfl, ?_⟩) (by assumption) ?_
                rotate_left
                · (intro w hSw; (try dsimp only at hSw); go_simp; try with_reducible rfl)
                try simp only [List.getElem_toArray, List.getElem_cons_zero, List.getElem_cons_succ, Act.put, List.setIfInBounds_toArray, List.set_cons_zero, List.set_cons_succ]
                refine wpAnyH_take (i := 27) (v := ?_) rfl (by kernel_rfl) (by kernel_rfl) (by kernel_rfl) (fun _ _ _ h => h) (Or.inl ⟨by rfl, ?_⟩) (by assumption) ?_
                rotate_left
                · (intro w hSw; (try dsimp only at hSw); go_simp; try with_reducible rfl)
                try simp only [List.getElem_toArray, List.getElem_cons_zero, List.getElem_cons_succ, Act.put, List.setIfInBounds_toArray, List.set_cons_zero, List.set_cons_succ]
                refine wpAnyH_done (by kernel_rfl) ?_ _
                go_wp2_with fail
                go_ret
                exact ⟨rfl, by first | exact B.out | exact B.out.drew⟩
    · rw [Bool.not_eq_true] at hv
      have hp : ptB N zs s = false := by simp [ptB, hv]
      have HI := Lib.hid (fun v w h => implLinkOf N v zs s w h)
      have HS := Lib.hid (fun v w h => specLinkOf N v zs s w h)
      have HV := Lib.hid (fun v w h => implValid N v zs w h)
      rw [(lkf_bad hp).1, (lkf_bad hp).2] at HI HS
      rw [hv] at HV
      clear hp hv
      refine (HI.out _ _ I1.out.rd).mono ?_
      rintro e w3 ⟨a3, c3, rfl, hin3, hb3⟩
      rw [show ([] : List Int).length = 0 from rfl] at hin3 ⊢
      have hz3 := hb3.size
      replace X := Lib.hid (X.out.next hb3 X.out.lt)
      replace I1 := Lib.hid (I1.out.below hb3 (Nat.le_refl _))
      replace B := Lib.hid (B.out.trans (hb3.mono B.out.size))
      have IG := Lib.hid (hin3.mono (Nat.zero_le _))
      clear hin3 hb3
      have Y := Lib.hid (Bx.new 0 (.slice a3 0 c3) w3)
      replace X := Lib.hid (X.out.alloc (Obj.cells #[.int .i64 0, .slice a3 0 c3] 28))
      replace I1 := Lib.hid (I1.out.alloc (Obj.cells #[.int .i64 0, .slice a3 0 c3] 28))
      replace IG := Lib.hid (IG.out.alloc (Obj.cells #[.int .i64 0, .slice a3 0 c3] 28))
      replace B := Lib.hid (B.out.alloc B.out.size (Obj.cells #[.int .i64 0, .slice a3 0 c3] 28))
      have HZ := Lib.hid (show (w3.alloc (Obj.cells #[.int .i64 0, .slice a3 0 c3] 28)).heap.size = w3.heap.size + 1 by simp)
      go_wp2_with fail
      generalize (w3.alloc (Obj.cells #[.int .i64 0, .slice a3 0 c3] 28)) = w4 at *
      have hz4 := HZ.out
      clear HZ
      generalize ho2 : w3.heap.size = o2 at *
      have x0 := X.out.out.at0
      have x1 := X.out.out.at1
      have y0 := Y.out.out.at0
      have y1 := Y.out.out.at1
      go_wp2_with fail
      refine wp_region_held_drew (S := fun w' => w'.cell? ⟨o, 0, none⟩ = some (.int .i64 N) ∧ w'.cell? ⟨o, 1, none⟩ = some (.slice a1 L c1) ∧ w'.cell? ⟨o2, 0, none⟩ = some (.int .i64 0) ∧ w'.cell? ⟨o2, 1, none⟩ = some (.slice a3 0 c3)) (by kernel_rfl) (by first | exact ⟨x0, x1, y0, y1⟩ | go_keep) (fun hHeld => ?_)
      refine wpAnyH_take (i := 0) (v := ?_) rfl (by kernel_rfl) (by kernel_rfl) (by kernel_rfl) (fun _ _ _ h => h) (Or.inl ⟨by rfl, ?_⟩) (by assumption) ?_
      rotate_left
      · (intro w hSw; (try dsimp only at hSw); go_simp; try with_reducible rfl)
      try simp only [List.getElem_toArray, List.getElem_cons_zero, Act.put, List.setIfInBounds_toArray, List.set_cons_zero, List.set_cons_succ]
      refine wpAnyH_take (i := 1) (v := ?_) rfl (by kernel_rfl) (by kernel_rfl) (by kernel_rfl) (fun _ _ _ h => h) (Or.inl ⟨by rfl, ?_⟩) (by assumption) ?_
      rotate_left
      · (intro w hSw; (try dsimp only at hSw); go_simp; try with_reducible rfl)
      try simp only [List.getElem_toArray, List.getElem_cons_zero, List.getElem_cons_succ, Act.put, List.setIfInBounds_toArray, List.set_cons_zero, List.set_cons_succ]
      refine wpAnyH_take (i := 2) (v := ?_) rfl (by kernel_rfl) (by kernel_rfl) (by kernel_rfl) (fun _ _ _ h => h) (Or.inl ⟨by rfl, ?_⟩) (by assumption) ?_
      rotate_left
      · (intro w hSw; (try dsimp only at hSw); go_simp; try with_reducible rfl)
      try simp only [List.getElem_toArray, List.getElem_cons_zero, List.getElem_cons_succ, Act.put, List.setIfInBounds_toArray, List.set_cons_zero, List.set_cons_succ]
      refine wpAnyH_ready (rs := [3]) (by kernel_rfl) (by simp) ?_
      refine AllReadyH.cons rfl (fun K hK => ?_) AllReadyH.nil
      try simp only [List.getElem_toArray]
      go_simp
      (go_at_call 37; refine (HS.out _ _ (by first | exact I1.out.rd | exact I1.out.rd.below (k := w4.heap.size) ((Below.refl _ _).drew) (Nat.le_refl _))).mono ?_; rintro e w5 ⟨a5, c5, rfl, hin5, hbd⟩; rw [show ([] : List Int).length = 0 from rfl] at hin5 ⊢; have hb5 : Below w4.heap.size w4 w5 := (by first | exact hbd | exact ⟨hbd.os, hbd.tape, hbd.output, hbd.size, hbd.block⟩); clear hbd; have hz5 := hb5.size; replace X := Lib.hid (X.out.next hb5 X.out.lt); replace Y := Lib.hid (Y.out.next hb5 Y.out.lt); replace I1 := Lib.hid (I1.out.below hb5 (Nat.le_refl _)); replace IG := Lib.hid (IG.out.below hb5 (Nat.le_refl _)); replace B := Lib.hid (B.out.trans (hb5.mono B.out.size)); have IS := Lib.hid (hin5.mono (Nat.zero_le _)); clear hin5; clear hb5; have x0_5 := X.out.out.at0; have x1_5 := X.out.out.at1; have y0_5 := Y.out.out.at0; have y1_5 := Y.out.out.at1)
      refine hK.out _ _ (by first | exact ⟨x0_5, x1_5, y0_5, y1_5⟩ | exact ⟨x0, x1, y0, y1⟩ | go_keep) (fun hHeld => ?_)
      clear hK K
      try simp only [List.getElem_toArray, List.getElem_cons_zero, List.getElem_cons_succ, Act.put, List.setIfInBounds_toArray, List.set_cons_zero, List.set_cons_succ]
      refine wpAnyH_ready (rs := [4]) (by kernel_rfl) (by simp) ?_
      refine AllReadyH.cons rfl (fun K hK => ?_) AllReadyH.nil
      try simp only [List.getElem_toArray]
      go_simp
      (go_at_call 30; refine (lawsEqualClass _ _ _ _ _ _ _ _ (by first | exact IG.out.rd | exact IG.out.rd.below (k := w5.heap.size) ((Below.refl _ _).drew) (Nat.le_refl _)) (by first | exact IS.out.rd | exact IS.out.rd.below (k := w5.heap.size) ((Below.refl _ _).drew) (Nat.le_refl _))).mono ?_; rintro e w6 ⟨rfl, hbd⟩; have hb6 : Below w5.heap.size w5 w6 := (by first | exact hbd | exact ⟨hbd.os, hbd.tape, hbd.output, hbd.size, hbd.block⟩); clear hbd; have hz6 := hb6.size; replace X := Lib.hid (X.out.next hb6 X.out.lt); replace Y := Lib.hid (Y.out.next hb6 Y.out.lt); replace I1 := Lib.hid (I1.out.below hb6 (Nat.le_refl _)); replace IG := Lib.hid (IG.out.below hb6 (Nat.le_refl _)); replace IS := Lib.hid (IS.out.below hb6 (Nat.le_refl _)); replace B := Lib.hid (B.out.trans (hb6.mono B.out.size)); clear hb6; have x0_6 := X.out.out.at0; have x1_6 := X.out.out.at1; have y0_6 := Y.out.out.at0; have y1_6 := Y.out.out.at1)
      refine hK.out _ _ (by first | exact ⟨x0_6, x1_6, y0_6, y1_6⟩ | exact ⟨x0_5, x1_5, y0_5, y1_5⟩ | exact ⟨x0, x1, y0, y1⟩ | go_keep) (fun hHeld => ?_)
      clear hK K
      try simp only [List.getElem_toArray, List.getElem_cons_zero, List.getElem_cons_succ, Act.put, List.setIfInBounds_toArray, List.set_cons_zero, List.set_cons_succ]
      refine wpAnyH_take (i := 5) (v := ?_) rfl (by kernel_rfl) (by kernel_rfl) (by kernel_rfl) (fun _ _ _ h => h) (Or.inl ⟨by rfl, ?_⟩) (by assumption) ?_
      rotate_left
      · (intro w hSw; (try dsimp only at hSw); go_simp; try with_reducible rfl)
      try simp only [List.getElem_toArray, List.getElem_cons_zero, List.getElem_cons_succ, Act.put, List.setIfInBounds_toArray, List.set_cons_zero, List.set_cons_succ]
      refine wpAnyH_take (i := 6) (v := ?_) rfl (by kernel_rfl) (by kernel_rfl) (by kernel_rfl) (fun _ _ _ h => h) (Or.inl ⟨by rfl, ?_⟩) (by assumption) ?_
      rotate_left
      · (intro w hSw; (try dsimp only at hSw); go_simp; try with_reducible rfl)
      try simp only [List.getElem_toArray, List.getElem_cons_zero, List.getElem_cons_succ, Act.put, List.setIfInBounds_toArray, List.set_cons_zero, List.set_cons_succ]
      refine wpAnyH_take (i := 7) (v := ?_) rfl (by kernel_rfl) (by kernel_rfl) (by kernel_rfl) (fun _ _ _ h => h) (Or.inl ⟨by rfl, ?_⟩) (by assumption) ?_
      rotate_left
      · (intro w hSw; (try dsimp only at hSw); go_simp; try with_reducible rfl)
      try simp only [List.getElem_toArray, List.getElem_cons_zero, List.getElem_cons_succ, Act.put, List.setIfInBounds_toArray, List.set_cons_zero, List.set_cons_succ]
      refine wpAnyH_ready (rs := [8]) (by kernel_rfl) (by simp) ?_
      refine AllReadyH.cons rfl (fun K hK => ?_) AllReadyH.nil
      try simp only [List.getElem_toArray]
      go_simp
      (go_at_call 24; refine (HV.out _ _ (by first | exact I1.out.rd | exact I1.out.rd.below (k := w6.heap.size) ((Below.refl _ _).drew) (Nat.le_refl _))).mono ?_; rintro e w7 ⟨rfl, hbd⟩; have hb7 : Below w6.heap.size w6 w7 := (by first | exact hbd | exact ⟨hbd.os, hbd.tape, hbd.output, hbd.size, hbd.block⟩); clear hbd; have hz7 := hb7.size; replace X := Lib.hid (X.out.next hb7 X.out.lt); replace Y := Lib.hid (Y.out.next hb7 Y.out.lt); replace I1 := Lib.hid (I1.out.below hb7 (Nat.le_refl _)); replace IG := Lib.hid (IG.out.below hb7 (Nat.le_refl _)); replace IS := Lib.hid (IS.out.below hb7 (Nat.le_refl _)); replace B := Lib.hid (B.out.trans (hb7.mono B.out.size)); clear hb7; have x0_7 := X.out.out.at0; have x1_7 := X.out.out.at1; have y0_7 := Y.out.out.at0; have y1_7 := Y.out.out.at1)
      refine hK.out _ _ (by first | exact ⟨x0_7, x1_7, y0_7, y1_7⟩ | exact ⟨x0_6, x1_6, y0_6, y1_6⟩ | exact ⟨x0_5, x1_5, y0_5, y1_5⟩ | exact ⟨x0, x1, y0, y1⟩ | go_keep) (fun hHeld => ?_)
      clear hK K
      try simp only [List.getElem_toArray, List.getElem_cons_zero, List.getElem_cons_succ, Act.put, List.setIfInBounds_toArray, List.set_cons_zero, List.set_cons_succ]
      refine wpAnyH_take (i := 9) (v := ?_) rfl (by kernel_rfl) (by kernel_rfl) (by kernel_rfl) (fun _ _ _ h => h) (Or.inl ⟨by rfl, ?_⟩) (by assumption) ?_
      rotate_left
      · (intro w hSw; (try dsimp only at hSw); go_simp; try with_reducible rfl)
      try simp only [List.getElem_toArray, List.getElem_cons_zero, List.getElem_cons_succ, Act.put, List.setIfInBounds_toArray, List.set_cons_zero, List.set_cons_succ]
      refine wpAnyH_take (i := 10) (v := ?_) rfl (by kernel_rfl) (by kernel_rfl) (by kernel_rfl) (fun _ _ _ h => h) (Or.inl ⟨by rfl, ?_⟩) (by assumption) ?_
      rotate_left
      · (intro w hSw; (try dsimp only at hSw); go_simp; try with_reducible rfl)
      try simp only [List.getElem_toArray, List.getElem_cons_zero, List.getElem_cons_succ, Act.put, List.setIfInBounds_toArray, List.set_cons_zero, List.set_cons_succ]
      refine wpAnyH_take (i := 11) (v := ?_) rfl (by kernel_rfl) (by kernel_rfl) (by kernel_rfl) (fun _ _ _ h => h) (Or.inl ⟨by rfl, ?_⟩) (by assumption) ?_
      rotate_left
      · (intro w hSw; (try dsimp only at hSw); go_simp; try with_reducible rfl)
      try simp only [List.getElem_toArray, List.getElem_cons_zero, List.getElem_cons_succ, Act.put, List.setIfInBounds_toArray, List.set_cons_zero, List.set_cons_succ]
      refine wpAnyH_take (i := 12) (v := undef) rfl (by kernel_rfl) (by kernel_rfl) (by kernel_rfl) (fun _ _ _ h => h) (Or.inr ⟨by rfl, rfl⟩) (by assumption) ?_
      try simp only [List.getElem_toArray, List.getElem_cons_zero, List.getElem_cons_succ, Act.put, List.setIfInBounds_toArray, List.set_cons_zero, List.set_cons_succ]
      refine wpAnyH_take (i := 13) (v := undef) rfl (by kernel_rfl) (by kernel_rfl) (by kernel_rfl) (fun _ _ _ h => h) (Or.inr ⟨by rfl, rfl⟩) (by assumption) ?_
      try simp only [List.getElem_toArray, List.getElem_cons_zero, List.getElem_cons_succ, Act.put, List.setIfInBounds_toArray, List.set_cons_zero, List.set_cons_succ]
      refine wpAnyH_take (i := 14) (v := ?_) rfl (by kernel_rfl) (by kernel_rfl) (by kernel_rfl) (fun _ _ _ h => h) (Or.inl ⟨by rfl, ?_⟩) (by assumption) ?_
      rotate_left
      · (intro w hSw; (try dsimp only at hSw); go_simp; try with_reducible rfl)
      try simp only [List.getElem_toArray, List.getElem_cons_zero, List.getElem_cons_succ, Act.put, List.setIfInBounds_toArray, List.set_cons_zero, List.set_cons_succ]
      refine wpAnyH_take (i := 15) (v := ?_) rfl (by kernel_rfl) (by kernel_rfl) (by kernel_rfl) (fun _ _ _ h => h) (Or.inl ⟨by rfl, ?_⟩) (by assumption) ?_
      rotate_left
      · (intro w hSw; (try dsimp only at hSw); go_simp; try with_reducible rfl)
      try simp only [List.getElem_toArray, List.getElem_cons_zero, List.getElem_cons_succ, Act.put, List.setIfInBounds_toArray, List.set_cons_zero, List.set_cons_succ]
      refine wpAnyH_take (i := 16) (v := undef) rfl (by kernel_rfl) (by kernel_rfl) (by kernel_rfl) (fun _ _ _ h => h) (Or.inr ⟨by rfl, rfl⟩) (by assumption) ?_
      try simp only [List.getElem_toArray, List.getElem_cons_zero, List.getElem_cons_succ, Act.put, List.setIfInBounds_toArray, List.set_cons_zero, List.set_cons_succ]
      refine wpAnyH_take (i := 17) (v := undef) rfl (by kernel_rfl) (by kernel_rfl) (by kernel_rfl) (fun _ _ _ h => h) (Or.inr ⟨by rfl, rfl⟩) (by assumption) ?_
      try simp only [List.getElem_toArray, List.getElem_cons_zero, List.getElem_cons_succ, Act.put, List.setIfInBounds_toArray, List.set_cons_zero, List.set_cons_succ]
      refine wpAnyH_take (i := 18) (v := undef) rfl (by kernel_rfl) (by kernel_rfl) (by kernel_rfl) (fun _ _ _ h => h) (Or.inr ⟨by rfl, rfl⟩) (by assumption) ?_
      try simp only [List.getElem_toArray, List.getElem_cons_zero, List.getElem_cons_succ, Act.put, List.setIfInBounds_toArray, List.set_cons_zero, List.set_cons_succ]
      refine wpAnyH_take (i := 19) (v := undef) rfl (by kernel_rfl) (by kernel_rfl) (by kernel_rfl) (fun _ _ _ h => h) (Or.inr ⟨by rfl, rfl⟩) (by assumption) ?_
      try simp only [List.getElem_toArray, List.getElem_cons_zero, List.getElem_cons_succ, Act.put, List.setIfInBounds_toArray, List.set_cons_zero, List.set_cons_succ]
      refine wpAnyH_take (i := 20) (v := ?_) rfl (by kernel_rfl) (by kernel_rfl) (by kernel_rfl) (fun _ _ _ h => h) (Or.inl ⟨by rfl, ?_⟩) (by assumption) ?_
      rotate_left
      · (intro w hSw; (try dsimp only at hSw); go_simp; try with_reducible rfl)
      try simp only [List.getElem_toArray, List.getElem_cons_zero, List.getElem_cons_succ, Act.put, List.setIfInBounds_toArray, List.set_cons_zero, List.set_cons_succ]
      refine wpAnyH_done (by kernel_rfl) ?_ _
      clear IS
      have x0 := X.out.out.at0
      have x1 := X.out.out.at1
      have y0 := Y.out.out.at0
      have y1 := Y.out.out.at1
      go_wp2_with fail
      refine wp_region_held_drew (S := fun w' => w'.cell? ⟨o, 0, none⟩ = some (.int .i64 N) ∧ w'.cell? ⟨o, 1, none⟩ = some (.slice a1 L c1) ∧ w'.cell? ⟨o2, 0, none⟩ = some (.int .i64 0) ∧ w'.cell? ⟨o2, 1, none⟩ = some (.slice a3 0 c3)) (by kernel_rfl) (by first | exact ⟨x0, x1, y0, y1⟩ | go_keep) (fun hHeld => ?_)
      refine wpAnyH_take (i := 0) (v := ?_) rfl (by kernel_rfl) (by kernel_rfl) (by kernel_rfl) (fun _ _ _ h => h) (Or.inl ⟨by rfl, ?_⟩) (by assumption) ?_
      rotate_left
      · (intro w hSw; (try dsimp only at hSw); go_simp; try with_reducible rfl)
      try simp only [List.getElem_toArray, List.getElem_cons_zero, Act.put, List.setIfInBounds_toArray, List.set_cons_zero, List.set_cons_succ]
      refine wpAnyH_take (i := 1) (v := ?_) rfl (by kernel_rfl) (by kernel_rfl) (by kernel_rfl) (fun _ _ _ h => h) (Or.inl ⟨by rfl, ?_⟩) (by assumption) ?_
      rotate_left
      · (intro w hSw; (try dsimp only at hSw); go_simp; try with_reducible rfl)
      try simp only [List.getElem_toArray, List.getElem_cons_zero, List.getElem_cons_succ, Act.put, List.setIfInBounds_toArray, List.set_cons_zero, List.set_cons_succ]
      refine wpAnyH_take (i := 2) (v := ?_) rfl (by kernel_rfl) (by kernel_rfl) (by kernel_rfl) (fun _ _ _ h => h) (Or.inl ⟨by rfl, ?_⟩) (by assumption) ?_
      rotate_left
      · (intro w hSw; (try dsimp only at hSw); go_simp; try with_reducible rfl)
      try simp only [List.getElem_toArray, List.getElem_cons_zero, List.getElem_cons_succ, Act.put, List.setIfInBounds_toArray, List.set_cons_zero, List.set_cons_succ]
      refine wpAnyH_ready (rs := [3]) (by kernel_rfl) (by simp) ?_
      refine AllReadyH.cons rfl (fun K hK => ?_) AllReadyH.nil
      try simp only [List.getElem_toArray]
      go_simp
      (go_at_call 37; refine (HS.out _ _ (by first | exact I1.out.rd | exact I1.out.rd.below (k := w7.heap.size) ((Below.refl _ _).drew) (Nat.le_refl _))).mono ?_; rintro e w8 ⟨a8, c8, rfl, hin8, hbd⟩; rw [show ([] : List Int).length = 0 from rfl] at hin8 ⊢; have hb8 : Below w7.heap.size w7 w8 := (by first | exact hbd | exact ⟨hbd.os, hbd.tape, hbd.output, hbd.size, hbd.block⟩); clear hbd; have hz8 := hb8.size; replace X := Lib.hid (X.out.next hb8 X.out.lt); replace Y := Lib.hid (Y.out.next hb8 Y.out.lt); replace I1 := Lib.hid (I1.out.below hb8 (Nat.le_refl _)); replace IG := Lib.hid (IG.out.below hb8 (Nat.le_refl _)); replace B := Lib.hid (B.out.trans (hb8.mono B.out.size)); have IS := Lib.hid (hin8.mono (Nat.zero_le _)); clear hin8; clear hb8; have x0_8 := X.out.out.at0; have x1_8 := X.out.out.at1; have y0_8 := Y.out.out.at0; have y1_8 := Y.out.out.at1)
      refine hK.out _ _ (by first | exact ⟨x0_8, x1_8, y0_8, y1_8⟩ | exact ⟨x0, x1, y0, y1⟩ | go_keep) (fun hHeld => ?_)
      clear hK K
      try simp only [List.getElem_toArray, List.getElem_cons_zero, List.getElem_cons_succ, Act.put, List.setIfInBounds_toArray, List.set_cons_zero, List.set_cons_succ]
      refine wpAnyH_ready (rs := [4]) (by kernel_rfl) (by simp) ?_
      refine AllReadyH.cons rfl (fun K hK => ?_) AllReadyH.nil
      try simp only [List.getElem_toArray]
      go_simp
      (go_at_call 30; refine (lawsEqualClass _ _ _ _ _ _ _ _ (by first | exact IG.out.rd | exact IG.out.rd.below (k := w8.heap.size) ((Below.refl _ _).drew) (Nat.le_refl _)) (by first | exact IS.out.rd | exact IS.out.rd.below (k := w8.heap.size) ((Below.refl _ _).drew) (Nat.le_refl _))).mono ?_; rintro e w9 ⟨rfl, hbd⟩; have hb9 : Below w8.heap.size w8 w9 := (by first | exact hbd | exact ⟨hbd.os, hbd.tape, hbd.output, hbd.size, hbd.block⟩); clear hbd; have hz9 := hb9.size; replace X := Lib.hid (X.out.next hb9 X.out.lt); replace Y := Lib.hid (Y.out.next hb9 Y.out.lt); replace I1 := Lib.hid (I1.out.below hb9 (Nat.le_refl _)); replace IG := Lib.hid (IG.out.below hb9 (Nat.le_refl _)); replace IS := Lib.hid (IS.out.below hb9 (Nat.le_refl _)); replace B := Lib.hid (B.out.trans (hb9.mono B.out.size)); clear hb9; have x0_9 := X.out.out.at0; have x1_9 := X.out.out.at1; have y0_9 := Y.out.out.at0; have y1_9 := Y.out.out.at1)
      refine hK.out _ _ (by first | exact ⟨x0_9, x1_9, y0_9, y1_9⟩ | exact ⟨x0_8, x1_8, y0_8, y1_8⟩ | exact ⟨x0, x1, y0, y1⟩ | go_keep) (fun hHeld => ?_)
      clear hK K
      try simp only [List.getElem_toArray, List.getElem_cons_zero, List.getElem_cons_succ, Act.put, List.setIfInBounds_toArray, List.set_cons_zero, List.set_cons_succ]
      refine wpAnyH_take (i := 5) (v := ?_) rfl (by kernel_rfl) (by kernel_rfl) (by kernel_rfl) (fun _ _ _ h => h) (Or.inl ⟨by rfl, ?_⟩) (by assumption) ?_
      rotate_left
      · (intro w hSw; (try dsimp only at hSw); go_simp; try with_reducible rfl)
      try simp only [List.getElem_toArray, List.getElem_cons_zero, List.getElem_cons_succ, Act.put, List.setIfInBounds_toArray, List.set_cons_zero, List.set_cons_succ]
      refine wpAnyH_done (by kernel_rfl) ?_ _
      go_wp2_with fail
      go_ret
      exact ⟨rfl, by first | exact B.out | exact B.out.drew⟩
  · go_enter Try.func6, Try.ntmps6
    go_wp2_with fail
    go_ret
    exact ⟨rfl, Below.refl _ _⟩

end Go.Proofs.Ytbjaacppomobeaa
