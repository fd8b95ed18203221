/- FnShiftClass's walk: shifts keep the number of sets and shatter no more. Conditions: the code is a slice of bytes. -/
import Derived.Test.YtbjaacppomobeaaDrawsB
import Derived.Test.YtbjaacppomobeaaEdg
import Derived.Test.YtbjaacppomobeaaLawHc
import Derived.Test.YtbjaacppomobeaaShat
import Derived.Test.YtbjaacppomobeaaShfM
import Derived.Test.YtbjaacppomobeaaShift
import Derived.Test.YtbjaacppomobeaaShiftS
import Derived.Test.YtbjaacppomobeaaStrong
import Derived.Test.YtbjaacppomobeaaZJ
import Derived.Test.YtbjaacppomobeaaZK
namespace Go.Proofs.Ytbjaacppomobeaa
open Go.RowKit

theorem eqB_self (xs : List Int) : eqB xs xs = true := eqB_of rfl (fun _ _ => rfl)
theorem shf_bad {n : Int} {zs : List Int} {x : Int} (h : ptB n zs x = false) : shN n zs x = 0 ∧ shL n zs x = [] := by rw [shN, shL, h]; exact ⟨rfl, rfl⟩
theorem sh_both' {m x : Nat} {ns : List Nat} (h : Cls m ns) (hx : x < m) {s : Nat} (hs : s < 2 ^ m) : (sht (sh1 x ns) s = true → sht ns s = true) ∧ (strg ns s = true → strg (sh1 x ns) s = true) := by
  obtain ⟨n, rfl⟩ : ∃ n, m = n + 1 := ⟨m - 1, by omega⟩
  exact sh_both h (by omega) hs
theorem sh_edges' {m x : Nat} {ns : List Nat} (h : Cls m ns) (hx : x < m) : (egTo ns ns.length).length ≤ (egTo (sh1 x ns) (sh1 x ns).length).length := by
  obtain ⟨n, rfl⟩ : ∃ n, m = n + 1 := ⟨m - 1, by omega⟩
  exact sh_edges h (by omega)


set_option maxHeartbeats 6400000 in
set_option maxRecDepth 100000 in
theorem walkFnShiftClass (a : Option Addr) (b off n cap : Nat) (w : World) (hc : n ≤ cap) (hcap : cap ≤ maxLen) (h : Byt w a b off n) :
    Calls Try.prog 5 #[.slice a n cap] w fun e w' => e = .returned (.bool true) ∧ Below w.heap.size w w' := by
  by_cases hn : n ≤ 1048576
  · have HD := Lib.hid (dDrawShiftClass a b off n cap w hc hn hcap h)
    clear h
    go_enter Try.func5, Try.ntmps5
    go_wp2_with fail
    refine HD.out.mono ?_
    rintro e w1 ⟨N, zs, s, hbd, a1, c1, rfl, hin, hb⟩
    generalize hL : zs.length = L at *
    have X := Lib.hid (Bx.new N (.slice a1 L c1) w1)
    have I1 := Lib.hid ((hin.mono (Nat.zero_le _)).alloc (Obj.cells #[.int .i64 N, .slice a1 L c1] 28))
    have B := Lib.hid (hb.alloc hb.size (Obj.cells #[.int .i64 N, .slice a1 L c1] 28))
    have HZ2 := Lib.hid (show (w1.alloc (Obj.cells #[.int .i64 N, .slice a1 L c1] 28)).heap.size = w1.heap.size + 1 by simp)
    have hz1 := hb.size
    clear hin hb HD
    go_wp2_with fail
    generalize (w1.alloc (Obj.cells #[.int .i64 N, .slice a1 L c1] 28)) = w2 at *
    have hz2 := HZ2.out
    generalize ho : w1.heap.size = o at *
    obtain ⟨hN0, hN1, hL34⟩ := hbd
    by_cases hv : vldB N zs = true
    · obtain ⟨m, ns, rfl, rfl, hcl⟩ := vldB_cls hv
      have hL2 : ns.length = L := by rw [← hL, toI_length]
      have hm := hcl.pts
      have HI := Lib.hid (fun v w h => implShiftClass (m : Int) v (toI ns) s w h)
      have HS := Lib.hid (fun v w h => specShiftClass (m : Int) v (toI ns) s w h)
      have HV := Lib.hid (fun v w h => implValid (m : Int) v (toI ns) w h)
      rw [hv] at HV
      by_cases hs0 : s < 0
      · have hd1 : decide (s < 0) = true := decide_eq_true hs0
        have hp : ptB (m : Int) (toI ns) s = false := by
          simp only [ptB, Bool.and_eq_false_iff, decide_eq_false_iff_not]
          omega
        rw [(shf_bad hp).1, (shf_bad hp).2] at HI HS
        clear hp hv hcl
        refine (HI.out _ _ I1.out.rd).mono ?_
        rintro e w3 ⟨a3, c3, rfl, hin3, hb3⟩
        rw [show ([] : List Int).length = 0 from rfl] at hin3 ⊢
        have hz3 := hb3.size
        replace X := Lib.hid (X.out.next hb3 X.out.lt)
        replace I1 := Lib.hid (I1.out.below hb3 (Nat.le_refl _))
        replace B := Lib.hid (B.out.trans (hb3.mono B.out.size))
        have IG := Lib.hid (hin3.mono (Nat.zero_le _))
        clear hin3 hb3
        have Y := Lib.hid (Bx.new 0 (.slice a3 0 c3) w3)
        replace X := Lib.hid (X.out.alloc (Obj.cells #[.int .i64 0, .slice a3 0 c3] 28))
        replace I1 := Lib.hid (I1.out.alloc (Obj.cells #[.int .i64 0, .slice a3 0 c3] 28))
        replace IG := Lib.hid (IG.out.alloc (Obj.cells #[.int .i64 0, .slice a3 0 c3] 28))
        replace B := Lib.hid (B.out.alloc B.out.size (Obj.cells #[.int .i64 0, .slice a3 0 c3] 28))
        have HZ := Lib.hid (show (w3.alloc (Obj.cells #[.int .i64 0, .slice a3 0 c3] 28)).heap.size = w3.heap.size + 1 by simp)
        go_wp2_with fail
        generalize (w3.alloc (Obj.cells #[.int .i64 0, .slice a3 0 c3] 28)) = w4 at *
        have hz4 := HZ.out
        clear HZ
        generalize ho2 : w3.heap.size = o2 at *
        have x0 := X.out.out.at0
        have x1 := X.out.out.at1
        have y0 := Y.out.out.at0
        have y1 := Y.out.out.at1
        go_wp2_with fail
        refine wp_region_held_drew (S := fun w' => w'.cell? ⟨o, 0, none⟩ = some (.int .i64 (m : Int)) ∧ w'.cell? ⟨o, 1, none⟩ = some (.slice a1 L c1) ∧ w'.cell? ⟨o2, 0, none⟩ = some (.int .i64 0) ∧ w'.cell? ⟨o2, 1, none⟩ = some (.slice a3 0 c3)) (by kernel_rfl) (by first | exact ⟨x0, x1, y0, y1⟩ | go_keep) (fun hHeld => ?_)
        refine wpAnyH_take (i := 0) (v := ?_) rfl (by kernel_rfl) (by kernel_rfl) (by kernel_rfl) (fun _ _ _ h => h) (Or.inl ⟨by rfl, ?_⟩) (by assumption) ?_
        rotate_left
        · (intro w hSw; (try dsimp only at hSw); go_simp; try with_reducible rfl)
        try simp only [List.getElem_toArray, List.getElem_cons_zero, Act.put, List.setIfInBounds_toArray, List.set_cons_zero, List.set_cons_succ]
        refine wpAnyH_take (i := 1) (v := ?_) rfl (by kernel_rfl) (by kernel_rfl) (by kernel_rfl) (fun _ _ _ h => h) (Or.inl ⟨by rfl, ?_⟩) (by assumption) ?_
        rotate_left
        · (intro w hSw; (try dsimp only at hSw); go_simp; try with_reducible rfl)
        try simp only [List.getElem_toArray, List.getElem_cons_zero, List.getElem_cons_succ, Act.put, List.setIfInBounds_toArray, List.set_cons_zero, List.set_cons_succ]
        refine wpAnyH_take (i := 2) (v := ?_) rfl (by kernel_rfl) (by kernel_rfl) (by kernel_rfl) (fun _ _ _ h => h) (Or.inl ⟨by rfl, ?_⟩) (by assumption) ?_
        rotate_left
        · (intro w hSw; (try dsimp only at hSw); go_simp; try with_reducible rfl)
        try simp only [List.getElem_toArray, List.getElem_cons_zero, List.getElem_cons_succ, Act.put, List.setIfInBounds_toArray, List.set_cons_zero, List.set_cons_succ]
        refine wpAnyH_ready (rs := [3]) (by kernel_rfl) (by simp) ?_
        refine AllReadyH.cons rfl (fun K hK => ?_) AllReadyH.nil
        try simp only [List.getElem_toArray]
        go_simp
        (go_at_call 31; refine (HS.out _ _ (by first | exact I1.out.rd | exact I1.out.rd.below (k := w4.heap.size) ((Below.refl _ _).drew) (Nat.le_refl _))).mono ?_; rintro e w5 ⟨a5, c5, rfl, hin5, hbd⟩; rw [show ([] : List Int).length = 0 from rfl] at hin5 ⊢; have hb5 : Below w4.heap.size w4 w5 := (by first | exact hbd | exact ⟨hbd.os, hbd.tape, hbd.output, hbd.size, hbd.block⟩); clear hbd; have hz5 := hb5.size; replace X := Lib.hid (X.out.next hb5 X.out.lt); replace Y := Lib.hid (Y.out.next hb5 Y.out.lt); replace I1 := Lib.hid (I1.out.below hb5 (Nat.le_refl _)); replace IG := Lib.hid (IG.out.below hb5 (Nat.le_refl _)); replace B := Lib.hid (B.out.trans (hb5.mono B.out.size)); have IS := Lib.hid (hin5.mono (Nat.zero_le _)); clear hin5; clear hb5; have x0_5 := X.out.out.at0; have x1_5 := X.out.out.at1; have y0_5 := Y.out.out.at0; have y1_5 := Y.out.out.at1)
        refine hK.out _ _ (by first | exact ⟨x0_5, x1_5, y0_5, y1_5⟩ | exact ⟨x0, x1, y0, y1⟩ | go_keep) (fun hHeld => ?_)
        clear hK K
        try simp only [List.getElem_toArray, List.getElem_cons_zero, List.getElem_cons_succ, Act.put, List.setIfInBounds_toArray, List.set_cons_zero, List.set_cons_succ]
        refine wpAnyH_ready (rs := [4]) (by kernel_rfl) (by simp) ?_
        refine AllReadyH.cons rfl (fun K hK => ?_) AllReadyH.nil
        try simp only [List.getElem_toArray]
        go_simp
        (go_at_call 30; refine (lawsEqualClass _ _ _ _ _ _ _ _ (by first | exact IG.out.rd | exact IG.out.rd.below (k := w5.heap.size) ((Below.refl _ _).drew) (Nat.le_refl _)) (by first | exact IS.out.rd | exact IS.out.rd.below (k := w5.heap.size) ((Below.refl _ _).drew) (Nat.le_refl _))).mono ?_; rintro e w6 ⟨rfl, hbd⟩; have hb6 : Below w5.heap.size w5 w6 := (by first | exact hbd | exact ⟨hbd.os, hbd.tape, hbd.output, hbd.size, hbd.block⟩); clear hbd; have hz6 := hb6.size; replace X := Lib.hid (X.out.next hb6 X.out.lt); replace Y := Lib.hid (Y.out.next hb6 Y.out.lt); replace I1 := Lib.hid (I1.out.below hb6 (Nat.le_refl _)); replace IG := Lib.hid (IG.out.below hb6 (Nat.le_refl _)); replace IS := Lib.hid (IS.out.below hb6 (Nat.le_refl _)); replace B := Lib.hid (B.out.trans (hb6.mono B.out.size)); clear hb6; have x0_6 := X.out.out.at0; have x1_6 := X.out.out.at1; have y0_6 := Y.out.out.at0; have y1_6 := Y.out.out.at1)
        refine hK.out _ _ (by first | exact ⟨x0_6, x1_6, y0_6, y1_6⟩ | exact ⟨x0_5, x1_5, y0_5, y1_5⟩ | exact ⟨x0, x1, y0, y1⟩ | go_keep) (fun hHeld => ?_)
        clear hK K
        try simp only [List.getElem_toArray, List.getElem_cons_zero, List.getElem_cons_succ, Act.put, List.setIfInBounds_toArray, List.set_cons_zero, List.set_cons_succ]
        refine wpAnyH_take (i := 5) (v := ?_) rfl (by kernel_rfl) (by kernel_rfl) (by kernel_rfl) (fun _ _ _ h => h) (Or.inl ⟨by rfl, ?_⟩) (by assumption) ?_
        rotate_left
        · (intro w hSw; (try dsimp only at hSw); go_simp; try with_reducible rfl)
        try simp only [List.getElem_toArray, List.getElem_cons_zero, List.getElem_cons_succ, Act.put, List.setIfInBounds_toArray, List.set_cons_zero, List.set_cons_succ]
        refine wpAnyH_take (i := 6) (v := ?_) rfl (by kernel_rfl) (by kernel_rfl) (by kernel_rfl) (fun _ _ _ h => h) (Or.inl ⟨by rfl, ?_⟩) (by assumption) ?_
        rotate_left
        · (intro w hSw; (try dsimp only at hSw); go_simp; try with_reducible rfl)
        try simp only [List.getElem_toArray, List.getElem_cons_zero, List.getElem_cons_succ, Act.put, List.setIfInBounds_toArray, List.set_cons_zero, List.set_cons_succ]
        refine wpAnyH_take (i := 7) (v := ?_) rfl (by kernel_rfl) (by kernel_rfl) (by kernel_rfl) (fun _ _ _ h => h) (Or.inl ⟨by rfl, ?_⟩) (by assumption) ?_
        rotate_left
        · (intro w hSw; (try dsimp only at hSw); go_simp; try with_reducible rfl)
        try simp only [List.getElem_toArray, List.getElem_cons_zero, List.getElem_cons_succ, Act.put, List.setIfInBounds_toArray, List.set_cons_zero, List.set_cons_succ]
        refine wpAnyH_ready (rs := [8]) (by kernel_rfl) (by simp) ?_
        refine AllReadyH.cons rfl (fun K hK => ?_) AllReadyH.nil
        try simp only [List.getElem_toArray]
        go_simp
        (go_at_call 24; refine (HV.out _ _ (by first | exact I1.out.rd | exact I1.out.rd.below (k := w6.heap.size) ((Below.refl _ _).drew) (Nat.le_refl _))).mono ?_; rintro e w7 ⟨rfl, hbd⟩; have hb7 : Below w6.heap.size w6 w7 := (by first | exact hbd | exact ⟨hbd.os, hbd.tape, hbd.output, hbd.size, hbd.block⟩); clear hbd; have hz7 := hb7.size; replace X := Lib.hid (X.out.next hb7 X.out.lt); replace Y := Lib.hid (Y.out.next hb7 Y.out.lt); replace I1 := Lib.hid (I1.out.below hb7 (Nat.le_refl _)); replace IG := Lib.hid (IG.out.below hb7 (Nat.le_refl _)); replace IS := Lib.hid (IS.out.below hb7 (Nat.le_refl _)); replace B := Lib.hid (B.out.trans (hb7.mono B.out.size)); clear hb7; have x0_7 := X.out.out.at0; have x1_7 := X.out.out.at1; have y0_7 := Y.out.out.at0; have y1_7 := Y.out.out.at1)
        refine hK.out _ _ (by first | exact ⟨x0_7, x1_7, y0_7, y1_7⟩ | exact ⟨x0_6, x1_6, y0_6, y1_6⟩ | exact ⟨x0_5, x1_5, y0_5, y1_5⟩ | exact ⟨x0, x1, y0, y1⟩ | go_keep) (fun hHeld => ?_)
        clear hK K
        try simp only [List.getElem_toArray, List.getElem_cons_zero, List.getElem_cons_succ, Act.put, List.setIfInBounds_toArray, List.set_cons_zero, List.set_cons_succ]
        refine wpAnyH_take (i := 9) (v := ?_) rfl (by kernel_rfl) (by kernel_rfl) (by kernel_rfl) (fun _ _ _ h => h) (Or.inl ⟨by rfl, ?_⟩) (by assumption) ?_
        rotate_left
        · (intro w hSw; (try dsimp only at hSw); go_simp; try with_reducible rfl)
        try simp only [List.getElem_toArray, List.getElem_cons_zero, List.getElem_cons_succ, Act.put, List.setIfInBounds_toArray, List.set_cons_zero, List.set_cons_succ]
        refine wpAnyH_take (i := 10) (v := ?_) rfl (by kernel_rfl) (by kernel_rfl) (by kernel_rfl) (fun _ _ _ h => h) (Or.inl ⟨by rfl, ?_⟩) (by assumption) ?_
        rotate_left
        · (intro w hSw; (try dsimp only at hSw); go_simp; try with_reducible rfl)
        try simp only [List.getElem_toArray, List.getElem_cons_zero, List.getElem_cons_succ, Act.put, List.setIfInBounds_toArray, List.set_cons_zero, List.set_cons_succ]
        refine wpAnyH_take (i := 11) (v := ?_) rfl (by kernel_rfl) (by kernel_rfl) (by kernel_rfl) (fun _ _ _ h => h) (Or.inl ⟨by rfl, ?_⟩) (by assumption) ?_
        rotate_left
        · (intro w hSw; (try dsimp only at hSw); go_simp; try with_reducible rfl)
        try simp only [List.getElem_toArray, List.getElem_cons_zero, List.getElem_cons_succ, Act.put, List.setIfInBounds_toArray, List.set_cons_zero, List.set_cons_succ]
        refine wpAnyH_take (i := 12) (v := ?_) rfl (by kernel_rfl) (by kernel_rfl) (by kernel_rfl) (fun _ _ _ h => h) (Or.inl ⟨by rfl, ?_⟩) (by assumption) ?_
        rotate_left
        · (intro w hSw; (try dsimp only at hSw); go_simp; try with_reducible rfl)
        try simp only [List.getElem_toArray, List.getElem_cons_zero, List.getElem_cons_succ, Act.put, List.setIfInBounds_toArray, List.set_cons_zero, List.set_cons_succ]
        refine wpAnyH_take (i := 13) (v := ?_) rfl (by kernel_rfl) (by kernel_rfl) (by kernel_rfl) (fun _ _ _ h => h) (Or.inl ⟨by rfl, ?_⟩) (by assumption) ?_
        rotate_left
        · (intro w hSw; (try dsimp only at hSw); go_simp; try with_reducible rfl)
        try simp only [List.getElem_toArray, List.getElem_cons_zero, List.getElem_cons_succ, Act.put, List.setIfInBounds_toArray, List.set_cons_zero, List.set_cons_succ]
        refine wpAnyH_take (i := 14) (v := ?_) rfl (by kernel_rfl) (by kernel_rfl) (by kernel_rfl) (fun _ _ _ h => h) (Or.inl ⟨by rfl, ?_⟩) (by assumption) ?_
        rotate_left
        · (intro w hSw; (try dsimp only at hSw); go_simp; try with_reducible rfl)
        try simp only [List.getElem_toArray, List.getElem_cons_zero, List.getElem_cons_succ, Act.put, List.setIfInBounds_toArray, List.set_cons_zero, List.set_cons_succ]
        refine wpAnyH_take (i := 15) (v := ?_) rfl (by kernel_rfl) (by kernel_rfl) (by kernel_rfl) (fun _ _ _ h => h) (Or.inl ⟨by rfl, ?_⟩) (by assumption) ?_
        rotate_left
        · (intro w hSw; (try dsimp only at hSw); go_simp; try with_reducible rfl)
        try simp only [List.getElem_toArray, List.getElem_cons_zero, List.getElem_cons_succ, Act.put, List.setIfInBounds_toArray, List.set_cons_zero, List.set_cons_succ]
        refine wpAnyH_take (i := 16) (v := undef) rfl (by kernel_rfl) (by kernel_rfl) (by kernel_rfl) (fun _ _ _ h => h) (Or.inr ⟨by rfl, rfl⟩) (by assumption) ?_
        try simp only [List.getElem_toArray, List.getElem_cons_zero, List.getElem_cons_succ, Act.put, List.setIfInBounds_toArray, List.set_cons_zero, List.set_cons_succ]
        refine wpAnyH_take (i := 17) (v := undef) rfl (by kernel_rfl) (by kernel_rfl) (by kernel_rfl) (fun _ _ _ h => h) (Or.inr ⟨by rfl, rfl⟩) (by assumption) ?_
        try simp only [List.getElem_toArray, List.getElem_cons_zero, List.getElem_cons_succ, Act.put, List.setIfInBounds_toArray, List.set_cons_zero, List.set_cons_succ]
        refine wpAnyH_take (i := 18) (v := undef) rfl (by kernel_rfl) (by kernel_rfl) (by kernel_rfl) (fun _ _ _ h => h) (Or.inr ⟨by rfl, rfl⟩) (by assumption) ?_
        try simp only [List.getElem_toArray, List.getElem_cons_zero, List.getElem_cons_succ, Act.put, List.setIfInBounds_toArray, List.set_cons_zero, List.set_cons_succ]
        refine wpAnyH_take (i := 19) (v := undef) rfl (by kernel_rfl) (by kernel_rfl) (by kernel_rfl) (fun _ _ _ h => h) (Or.inr ⟨by rfl, rfl⟩) (by assumption) ?_
        try simp only [List.getElem_toArray, List.getElem_cons_zero, List.getElem_cons_succ, Act.put, List.setIfInBounds_toArray, List.set_cons_zero, List.set_cons_succ]
        refine wpAnyH_take (i := 20) (v := ?_) rfl (by kernel_rfl) (by kernel_rfl) (by kernel_rfl) (fun _ _ _ h => h) (Or.inl ⟨by rfl, ?_⟩) (by assumption) ?_
        rotate_left
        · (intro w hSw; (try dsimp only at hSw); go_simp; try with_reducible rfl)
        try simp only [List.getElem_toArray, List.getElem_cons_zero, List.getElem_cons_succ, Act.put, List.setIfInBounds_toArray, List.set_cons_zero, List.set_cons_succ]
        refine wpAnyH_done (by kernel_rfl) ?_ _
        clear IS
        have x0 := X.out.out.at0
        have x1 := X.out.out.at1
        have y0 := Y.out.out.at0
        have y1 := Y.out.out.at1
        go_wp2_with fail
        refine wp_region_held_drew (S := fun w' => w'.cell? ⟨o, 0, none⟩ = some (.int .i64 (m : Int)) ∧ w'.cell? ⟨o, 1, none⟩ = some (.slice a1 L c1) ∧ w'.cell? ⟨o2, 0, none⟩ = some (.int .i64 0) ∧ w'.cell? ⟨o2, 1, none⟩ = some (.slice a3 0 c3)) (by kernel_rfl) (by first | exact ⟨x0, x1, y0, y1⟩ | go_keep) (fun hHeld => ?_)
        refine wpAnyH_take (i := 0) (v := ?_) rfl (by kernel_rfl) (by kernel_rfl) (by kernel_rfl) (fun _ _ _ h => h) (Or.inl ⟨by rfl, ?_⟩) (by assumption) ?_
        rotate_left
        · (intro w hSw; (try dsimp only at hSw); go_simp; try with_reducible rfl)
        try simp only [List.getElem_toArray, List.getElem_cons_zero, Act.put, List.setIfInBounds_toArray, List.set_cons_zero, List.set_cons_succ]
        refine wpAnyH_take (i := 1) (v := ?_) rfl (by kernel_rfl) (by kernel_rfl) (by kernel_rfl) (fun _ _ _ h => h) (Or.inl ⟨by rfl, ?_⟩) (by assumption) ?_
        rotate_left
        · (intro w hSw; (try dsimp only at hSw); go_simp; try with_reducible rfl)
        try simp only [List.getElem_toArray, List.getElem_cons_zero, List.getElem_cons_succ, Act.put, List.setIfInBounds_toArray, List.set_cons_zero, List.set_cons_succ]
        refine wpAnyH_take (i := 2) (v := ?_) rfl (by kernel_rfl) (by kernel_rfl) (by kernel_rfl) (fun _ _ _ h => h) (Or.inl ⟨by rfl, ?_⟩) (by assumption) ?_
        rotate_left
        · (intro w hSw; (try dsimp only at hSw); go_simp; try with_reducible rfl)
        try simp only [List.getElem_toArray, List.getElem_cons_zero, List.getElem_cons_succ, Act.put, List.setIfInBounds_toArray, List.set_cons_zero, List.set_cons_succ]
        refine wpAnyH_ready (rs := [3]) (by kernel_rfl) (by simp) ?_
        refine AllReadyH.cons rfl (fun K hK => ?_) AllReadyH.nil
        try simp only [List.getElem_toArray]
        go_simp
        (go_at_call 31; refine (HS.out _ _ (by first | exact I1.out.rd | exact I1.out.rd.below (k := w7.heap.size) ((Below.refl _ _).drew) (Nat.le_refl _))).mono ?_; rintro e w8 ⟨a8, c8, rfl, hin8, hbd⟩; rw [show ([] : List Int).length = 0 from rfl] at hin8 ⊢; have hb8 : Below w7.heap.size w7 w8 := (by first | exact hbd | exact ⟨hbd.os, hbd.tape, hbd.output, hbd.size, hbd.block⟩); clear hbd; have hz8 := hb8.size; replace X := Lib.hid (X.out.next hb8 X.out.lt); replace Y := Lib.hid (Y.out.next hb8 Y.out.lt); replace I1 := Lib.hid (I1.out.below hb8 (Nat.le_refl _)); replace IG := Lib.hid (IG.out.below hb8 (Nat.le_refl _)); replace B := Lib.hid (B.out.trans (hb8.mono B.out.size)); have IS := Lib.hid (hin8.mono (Nat.zero_le _)); clear hin8; clear hb8; have x0_8 := X.out.out.at0; have x1_8 := X.out.out.at1; have y0_8 := Y.out.out.at0; have y1_8 := Y.out.out.at1)
        refine hK.out _ _ (by first | exact ⟨x0_8, x1_8, y0_8, y1_8⟩ | exact ⟨x0, x1, y0, y1⟩ | go_keep) (fun hHeld => ?_)
        clear hK K
        try simp only [List.getElem_toArray, List.getElem_cons_zero, List.getElem_cons_succ, Act.put, List.setIfInBounds_toArray, List.set_cons_zero, List.set_cons_succ]
        refine wpAnyH_ready (rs := [4]) (by kernel_rfl) (by simp) ?_
        refine AllReadyH.cons rfl (fun K hK => ?_) AllReadyH.nil
        try simp only [List.getElem_toArray]
        go_simp
        (go_at_call 30; refine (lawsEqualClass _ _ _ _ _ _ _ _ (by first | exact IG.out.rd | exact IG.out.rd.below (k := w8.heap.size) ((Below.refl _ _).drew) (Nat.le_refl _)) (by first | exact IS.out.rd | exact IS.out.rd.below (k := w8.heap.size) ((Below.refl _ _).drew) (Nat.le_refl _))).mono ?_; rintro e w9 ⟨rfl, hbd⟩; have hb9 : Below w8.heap.size w8 w9 := (by first | exact hbd | exact ⟨hbd.os, hbd.tape, hbd.output, hbd.size, hbd.block⟩); clear hbd; have hz9 := hb9.size; replace X := Lib.hid (X.out.next hb9 X.out.lt); replace Y := Lib.hid (Y.out.next hb9 Y.out.lt); replace I1 := Lib.hid (I1.out.below hb9 (Nat.le_refl _)); replace IG := Lib.hid (IG.out.below hb9 (Nat.le_refl _)); replace IS := Lib.hid (IS.out.below hb9 (Nat.le_refl _)); replace B := Lib.hid (B.out.trans (hb9.mono B.out.size)); clear hb9; have x0_9 := X.out.out.at0; have x1_9 := X.out.out.at1; have y0_9 := Y.out.out.at0; have y1_9 := Y.out.out.at1)
        refine hK.out _ _ (by first | exact ⟨x0_9, x1_9, y0_9, y1_9⟩ | exact ⟨x0_8, x1_8, y0_8, y1_8⟩ | exact ⟨x0, x1, y0, y1⟩ | go_keep) (fun hHeld => ?_)
        clear hK K
        try simp only [List.getElem_toArray, List.getElem_cons_zero, List.getElem_cons_succ, Act.put, List.setIfInBounds_toArray, List.set_cons_zero, List.set_cons_succ]
        refine wpAnyH_take (i := 5) (v := ?_) rfl (by kernel_rfl) (by kernel_rfl) (by kernel_rfl) (fun _ _ _ h => h) (Or.inl ⟨by rfl, ?_⟩) (by assumption) ?_
        rotate_left
        · (intro w hSw; (try dsimp only at hSw); go_simp; try with_reducible rfl)
        try simp only [List.getElem_toArray, List.getElem_cons_zero, List.getElem_cons_succ, Act.put, List.setIfInBounds_toArray, List.set_cons_zero, List.set_cons_succ]
        refine wpAnyH_done (by kernel_rfl) ?_ _
        go_wp2_with fail
        go_ret
        exact ⟨rfl, by first | exact B.out | exact B.out.drew⟩
      · have hd1 : decide (s < 0) = false := decide_eq_false hs0
        by_cases hs1 : (m : Int) ≤ s
        · have hd2 : decide ((m : Int) ≤ s) = true := decide_eq_true hs1
          have hp : ptB (m : Int) (toI ns) s = false := by
            simp only [ptB, Bool.and_eq_false_iff, decide_eq_false_iff_not]
            omega
          rw [(shf_bad hp).1, (shf_bad hp).2] at HI HS
          clear hp hv hcl
          refine (HI.out _ _ I1.out.rd).mono ?_
          rintro e w3 ⟨a3, c3, rfl, hin3, hb3⟩
          rw [show ([] : List Int).length = 0 from rfl] at hin3 ⊢
          have hz3 := hb3.size
          replace X := Lib.hid (X.out.next hb3 X.out.lt)
          replace I1 := Lib.hid (I1.out.below hb3 (Nat.le_refl _))
          replace B := Lib.hid (B.out.trans (hb3.mono B.out.size))
          have IG := Lib.hid (hin3.mono (Nat.zero_le _))
          clear hin3 hb3
          have Y := Lib.hid (Bx.new 0 (.slice a3 0 c3) w3)
          replace X := Lib.hid (X.out.alloc (Obj.cells #[.int .i64 0, .slice a3 0 c3] 28))
          replace I1 := Lib.hid (I1.out.alloc (Obj.cells #[.int .i64 0, .slice a3 0 c3] 28))
          replace IG := Lib.hid (IG.out.alloc (Obj.cells #[.int .i64 0, .slice a3 0 c3] 28))
          replace B := Lib.hid (B.out.alloc B.out.size (Obj.cells #[.int .i64 0, .slice a3 0 c3] 28))
          have HZ := Lib.hid (show (w3.alloc (Obj.cells #[.int .i64 0, .slice a3 0 c3] 28)).heap.size = w3.heap.size + 1 by simp)
          go_wp2_with fail
          generalize (w3.alloc (Obj.cells #[.int .i64 0, .slice a3 0 c3] 28)) = w4 at *
          have hz4 := HZ.out
          clear HZ
          generalize ho2 : w3.heap.size = o2 at *
          have x0 := X.out.out.at0
          have x1 := X.out.out.at1
          have y0 := Y.out.out.at0
          have y1 := Y.out.out.at1
          go_wp2_with fail
          refine wp_region_held_drew (S := fun w' => w'.cell? ⟨o, 0, none⟩ = some (.int .i64 (m : Int)) ∧ w'.cell? ⟨o, 1, none⟩ = some (.slice a1 L c1) ∧ w'.cell? ⟨o2, 0, none⟩ = some (.int .i64 0) ∧ w'.cell? ⟨o2, 1, none⟩ = some (.slice a3 0 c3)) (by kernel_rfl) (by first | exact ⟨x0, x1, y0, y1⟩ | go_keep) (fun hHeld => ?_)
          refine wpAnyH_take (i := 0) (v := ?_) rfl (by kernel_rfl) (by kernel_rfl) (by kernel_rfl) (fun _ _ _ h => h) (Or.inl ⟨by rfl, ?_⟩) (by assumption) ?_
          rotate_left
          · (intro w hSw; (try dsimp only at hSw); go_simp; try with_reducible rfl)
          try simp only [List.getElem_toArray, List.getElem_cons_zero, Act.put, List.setIfInBounds_toArray, List.set_cons_zero, List.set_cons_succ]
          refine wpAnyH_take (i := 1) (v := ?_) rfl (by kernel_rfl) (by kernel_rfl) (by kernel_rfl) (fun _ _ _ h => h) (Or.inl ⟨by rfl, ?_⟩) (by assumption) ?_
          rotate_left
          · (intro w hSw; (try dsimp only at hSw); go_simp; try with_reducible rfl)
          try simp only [List.getElem_toArray, List.getElem_cons_zero, List.getElem_cons_succ, Act.put, List.setIfInBounds_toArray, List.set_cons_zero, List.set_cons_succ]
          refine wpAnyH_take (i := 2) (v := ?_) rfl (by kernel_rfl) (by kernel_rfl) (by kernel_rfl) (fun _ _ _ h => h) (Or.inl ⟨by rfl, ?_⟩) (by assumption) ?_
          rotate_left
          · (intro w hSw; (try dsimp only at hSw); go_simp; try with_reducible rfl)
          try simp only [List.getElem_toArray, List.getElem_cons_zero, List.getElem_cons_succ, Act.put, List.setIfInBounds_toArray, List.set_cons_zero, List.set_cons_succ]
          refine wpAnyH_ready (rs := [3]) (by kernel_rfl) (by simp) ?_
          refine AllReadyH.cons rfl (fun K hK => ?_) AllReadyH.nil
          try simp only [List.getElem_toArray]
          go_simp
          (go_at_call 31; refine (HS.out _ _ (by first | exact I1.out.rd | exact I1.out.rd.below (k := w4.heap.size) ((Below.refl _ _).drew) (Nat.le_refl _))).mono ?_; rintro e w5 ⟨a5, c5, rfl, hin5, hbd⟩; rw [show ([] : List Int).length = 0 from rfl] at hin5 ⊢; have hb5 : Below w4.heap.size w4 w5 := (by first | exact hbd | exact ⟨hbd.os, hbd.tape, hbd.output, hbd.size, hbd.block⟩); clear hbd; have hz5 := hb5.size; replace X := Lib.hid (X.out.next hb5 X.out.lt); replace Y := Lib.hid (Y.out.next hb5 Y.out.lt); replace I1 := Lib.hid (I1.out.below hb5 (Nat.le_refl _)); replace IG := Lib.hid (IG.out.below hb5 (Nat.le_refl _)); replace B := Lib.hid (B.out.trans (hb5.mono B.out.size)); have IS := Lib.hid (hin5.mono (Nat.zero_le _)); clear hin5; clear hb5; have x0_5 := X.out.out.at0; have x1_5 := X.out.out.at1; have y0_5 := Y.out.out.at0; have y1_5 := Y.out.out.at1)
          refine hK.out _ _ (by first | exact ⟨x0_5, x1_5, y0_5, y1_5⟩ | exact ⟨x0, x1, y0, y1⟩ | go_keep) (fun hHeld => ?_)
          clear hK K
          try simp only [List.getElem_toArray, List.getElem_cons_zero, List.getElem_cons_succ, Act.put, List.setIfInBounds_toArray, List.set_cons_zero, List.set_cons_succ]
          refine wpAnyH_ready (rs := [4]) (by kernel_rfl) (by simp) ?_
          refine AllReadyH.cons rfl (fun K hK => ?_) AllReadyH.nil
          try simp only [List.getElem_toArray]
          go_simp
          (go_at_call 30; refine (lawsEqualClass _ _ _ _ _ _ _ _ (by first | exact IG.out.rd | exact IG.out.rd.below (k := w5.heap.size) ((Below.refl _ _).drew) (Nat.le_refl _)) (by first | exact IS.out.rd | exact IS.out.rd.below (k := w5.heap.size) ((Below.refl _ _).drew) (Nat.le_refl _))).mono ?_; rintro e w6 ⟨rfl, hbd⟩; have hb6 : Below w5.heap.size w5 w6 := (by first | exact hbd | exact ⟨hbd.os, hbd.tape, hbd.output, hbd.size, hbd.block⟩); clear hbd; have hz6 := hb6.size; replace X := Lib.hid (X.out.next hb6 X.out.lt); replace Y := Lib.hid (Y.out.next hb6 Y.out.lt); replace I1 := Lib.hid (I1.out.below hb6 (Nat.le_refl _)); replace IG := Lib.hid (IG.out.below hb6 (Nat.le_refl _)); replace IS := Lib.hid (IS.out.below hb6 (Nat.le_refl _)); replace B := Lib.hid (B.out.trans (hb6.mono B.out.size)); clear hb6; have x0_6 := X.out.out.at0; have x1_6 := X.out.out.at1; have y0_6 := Y.out.out.at0; have y1_6 := Y.out.out.at1)
          refine hK.out _ _ (by first | exact ⟨x0_6, x1_6, y0_6, y1_6⟩ | exact ⟨x0_5, x1_5, y0_5, y1_5⟩ | exact ⟨x0, x1, y0, y1⟩ | go_keep) (fun hHeld => ?_)
          clear hK K
          try simp only [List.getElem_toArray, List.getElem_cons_zero, List.getElem_cons_succ, Act.put, List.setIfInBounds_toArray, List.set_cons_zero, List.set_cons_succ]
          refine wpAnyH_take (i := 5) (v := ?_) rfl (by kernel_rfl) (by kernel_rfl) (by kernel_rfl) (fun _ _ _ h => h) (Or.inl ⟨by rfl, ?_⟩) (by assumption) ?_
          rotate_left
          · (intro w hSw; (try dsimp only at hSw); go_simp; try with_reducible rfl)
          try simp only [List.getElem_toArray, List.getElem_cons_zero, List.getElem_cons_succ, Act.put, List.setIfInBounds_toArray, List.set_cons_zero, List.set_cons_succ]
          refine wpAnyH_take (i := 6) (v := ?_) rfl (by kernel_rfl) (by kernel_rfl) (by kernel_rfl) (fun _ _ _ h => h) (Or.inl ⟨by rfl, ?_⟩) (by assumption) ?_
          rotate_left
          · (intro w hSw; (try dsimp only at hSw); go_simp; try with_reducible rfl)
          try simp only [List.getElem_toArray, List.getElem_cons_zero, List.getElem_cons_succ, Act.put, List.setIfInBounds_toArray, List.set_cons_zero, List.set_cons_succ]
          refine wpAnyH_take (i := 7) (v := ?_) rfl (by kernel_rfl) (by kernel_rfl) (by kernel_rfl) (fun _ _ _ h => h) (Or.inl ⟨by rfl, ?_⟩) (by assumption) ?_
          rotate_left
          · (intro w hSw; (try dsimp only at hSw); go_simp; try with_reducible rfl)
          try simp only [List.getElem_toArray, List.getElem_cons_zero, List.getElem_cons_succ, Act.put, List.setIfInBounds_toArray, List.set_cons_zero, List.set_cons_succ]
          refine wpAnyH_ready (rs := [8]) (by kernel_rfl) (by simp) ?_
          refine AllReadyH.cons rfl (fun K hK => ?_) AllReadyH.nil
          try simp only [List.getElem_toArray]
          go_simp
          (go_at_call 24; refine (HV.out _ _ (by first | exact I1.out.rd | exact I1.out.rd.below (k := w6.heap.size) ((Below.refl _ _).drew) (Nat.le_refl _))).mono ?_; rintro e w7 ⟨rfl, hbd⟩; have hb7 : Below w6.heap.size w6 w7 := (by first | exact hbd | exact ⟨hbd.os, hbd.tape, hbd.output, hbd.size, hbd.block⟩); clear hbd; have hz7 := hb7.size; replace X := Lib.hid (X.out.next hb7 X.out.lt); replace Y := Lib.hid (Y.out.next hb7 Y.out.lt); replace I1 := Lib.hid (I1.out.below hb7 (Nat.le_refl _)); replace IG := Lib.hid (IG.out.below hb7 (Nat.le_refl _)); replace IS := Lib.hid (IS.out.below hb7 (Nat.le_refl _)); replace B := Lib.hid (B.out.trans (hb7.mono B.out.size)); clear hb7; have x0_7 := X.out.out.at0; have x1_7 := X.out.out.at1; have y0_7 := Y.out.out.at0; have y1_7 := Y.out.out.at1)
          refine hK.out _ _ (by first | exact ⟨x0_7, x1_7, y0_7, y1_7⟩ | exact ⟨x0_6, x1_6, y0_6, y1_6⟩ | exact ⟨x0_5, x1_5, y0_5, y1_5⟩ | exact ⟨x0, x1, y0, y1⟩ | go_keep) (fun hHeld => ?_)
          clear hK K
          try simp only [List.getElem_toArray, List.getElem_cons_zero, List.getElem_cons_succ, Act.put, List.setIfInBounds_toArray, List.set_cons_zero, List.set_cons_succ]
          refine wpAnyH_take (i := 9) (v := ?_) rfl (by kernel_rfl) (by kernel_rfl) (by kernel_rfl) (fun _ _ _ h => h) (Or.inl ⟨by rfl, ?_⟩) (by assumption) ?_
          rotate_left
          · (intro w hSw; (try dsimp only at hSw); go_simp; try with_reducible rfl)
          try simp only [List.getElem_toArray, List.getElem_cons_zero, List.getElem_cons_succ, Act.put, List.setIfInBounds_toArray, List.set_cons_zero, List.set_cons_succ]
          refine wpAnyH_take (i := 10) (v := ?_) rfl (by kernel_rfl) (by kernel_rfl) (by kernel_rfl) (fun _ _ _ h => h) (Or.inl ⟨by rfl, ?_⟩) (by assumption) ?_
          rotate_left
          · (intro w hSw; (try dsimp only at hSw); go_simp; try with_reducible rfl)
          try simp only [List.getElem_toArray, List.getElem_cons_zero, List.getElem_cons_succ, Act.put, List.setIfInBounds_toArray, List.set_cons_zero, List.set_cons_succ]
          refine wpAnyH_take (i := 11) (v := ?_) rfl (by kernel_rfl) (by kernel_rfl) (by kernel_rfl) (fun _ _ _ h => h) (Or.inl ⟨by rfl, ?_⟩) (by assumption) ?_
          rotate_left
          · (intro w hSw; (try dsimp only at hSw); go_simp; try with_reducible rfl)
          try simp only [List.getElem_toArray, List.getElem_cons_zero, List.getElem_cons_succ, Act.put, List.setIfInBounds_toArray, List.set_cons_zero, List.set_cons_succ]
          refine wpAnyH_take (i := 12) (v := ?_) rfl (by kernel_rfl) (by kernel_rfl) (by kernel_rfl) (fun _ _ _ h => h) (Or.inl ⟨by rfl, ?_⟩) (by assumption) ?_
          rotate_left
          · (intro w hSw; (try dsimp only at hSw); go_simp; try with_reducible rfl)
          try simp only [List.getElem_toArray, List.getElem_cons_zero, List.getElem_cons_succ, Act.put, List.setIfInBounds_toArray, List.set_cons_zero, List.set_cons_succ]
          refine wpAnyH_take (i := 13) (v := ?_) rfl (by kernel_rfl) (by kernel_rfl) (by kernel_rfl) (fun _ _ _ h => h) (Or.inl ⟨by rfl, ?_⟩) (by assumption) ?_
          rotate_left
          · (intro w hSw; (try dsimp only at hSw); go_simp; try with_reducible rfl)
          try simp only [List.getElem_toArray, List.getElem_cons_zero, List.getElem_cons_succ, Act.put, List.setIfInBounds_toArray, List.set_cons_zero, List.set_cons_succ]
          refine wpAnyH_take (i := 14) (v := ?_) rfl (by kernel_rfl) (by kernel_rfl) (by kernel_rfl) (fun _ _ _ h => h) (Or.inl ⟨by rfl, ?_⟩) (by assumption) ?_
          rotate_left
          · (intro w hSw; (try dsimp only at hSw); go_simp; try with_reducible rfl)
          try simp only [List.getElem_toArray, List.getElem_cons_zero, List.getElem_cons_succ, Act.put, List.setIfInBounds_toArray, List.set_cons_zero, List.set_cons_succ]
          refine wpAnyH_take (i := 15) (v := ?_) rfl (by kernel_rfl) (by kernel_rfl) (by kernel_rfl) (fun _ _ _ h => h) (Or.inl ⟨by rfl, ?_⟩) (by assumption) ?_
          rotate_left
          · (intro w hSw; (try dsimp only at hSw); go_simp; try with_reducible rfl)
          try simp only [List.getElem_toArray, List.getElem_cons_zero, List.getElem_cons_succ, Act.put, List.setIfInBounds_toArray, List.set_cons_zero, List.set_cons_succ]
          refine wpAnyH_take (i := 16) (v := ?_) rfl (by kernel_rfl) (by kernel_rfl) (by kernel_rfl) (fun _ _ _ h => h) (Or.inl ⟨by rfl, ?_⟩) (by assumption) ?_
          rotate_left
          · (intro w hSw; (try dsimp only at hSw); go_simp; try with_reducible rfl)
          try simp only [List.getElem_toArray, List.getElem_cons_zero, List.getElem_cons_succ, Act.put, List.setIfInBounds_toArray, List.set_cons_zero, List.set_cons_succ]
          refine wpAnyH_take (i := 17) (v := ?_) rfl (by kernel_rfl) (by kernel_rfl) (by kernel_rfl) (fun _ _ _ h => h) (Or.inl ⟨by rfl, ?_⟩) (by assumption) ?_
          rotate_left
          · (intro w hSw; (try dsimp only at hSw); go_simp; try with_reducible rfl)
          try simp only [List.getElem_toArray, List.getElem_cons_zero, List.getElem_cons_succ, Act.put, List.setIfInBounds_toArray, List.set_cons_zero, List.set_cons_succ]
          refine wpAnyH_take (i := 18) (v := ?_) rfl (by kernel_rfl) (by kernel_rfl) (by kernel_rfl) (fun _ _ _ h => h) (Or.inl ⟨by rfl, ?_⟩) (by assumption) ?_
          rotate_left
          · (intro w hSw; (try dsimp only at hSw); go_simp; try with_reducible rfl)
          try simp only [List.getElem_toArray, List.getElem_cons_zero, List.getElem_cons_succ, Act.put, List.setIfInBounds_toArray, List.set_cons_zero, List.set_cons_succ]
          refine wpAnyH_take (i := 19) (v := ?_) rfl (by kernel_rfl) (by kernel_rfl) (by kernel_rfl) (fun _ _ _ h => h) (Or.inl ⟨by rfl, ?_⟩) (by assumption) ?_
          rotate_left
          · (intro w hSw; (try dsimp only at hSw); go_simp; try with_reducible rfl)
          try simp only [List.getElem_toArray, List.getElem_cons_zero, List.getElem_cons_succ, Act.put, List.setIfInBounds_toArray, List.set_cons_zero, List.set_cons_succ]
          refine wpAnyH_take (i := 20) (v := ?_) rfl (by kernel_rfl) (by kernel_rfl) (by kernel_rfl) (fun _ _ _ h => h) (Or.inl ⟨by rfl, ?_⟩) (by assumption) ?_
          rotate_left
          · (intro w hSw; (try dsimp only at hSw); go_simp; try with_reducible rfl)
          try simp only [List.getElem_toArray, List.getElem_cons_zero, List.getElem_cons_succ, Act.put, List.setIfInBounds_toArray, List.set_cons_zero, List.set_cons_succ]
          refine wpAnyH_done (by kernel_rfl) ?_ _
          clear IS
          have x0 := X.out.out.at0
          have x1 := X.out.out.at1
          have y0 := Y.out.out.at0
          have y1 := Y.out.out.at1
          go_wp2_with fail
          refine wp_region_held_drew (S := fun w' => w'.cell? ⟨o, 0, none⟩ = some (.int .i64 (m : Int)) ∧ w'.cell? ⟨o, 1, none⟩ = some (.slice a1 L c1) ∧ w'.cell? ⟨o2, 0, none⟩ = some (.int .i64 0) ∧ w'.cell? ⟨o2, 1, none⟩ = some (.slice a3 0 c3)) (by kernel_rfl) (by first | exact ⟨x0, x1, y0, y1⟩ | go_keep) (fun hHeld => ?_)
          refine wpAnyH_take (i := 0) (v := ?_) rfl (by kernel_rfl) (by kernel_rfl) (by kernel_rfl) (fun _ _ _ h => h) (Or.inl ⟨by rfl, ?_⟩) (by assumption) ?_
          rotate_left
          · (intro w hSw; (try dsimp only at hSw); go_simp; try with_reducible rfl)
          try simp only [List.getElem_toArray, List.getElem_cons_zero, Act.put, List.setIfInBounds_toArray, List.set_cons_zero, List.set_cons_succ]
          refine wpAnyH_take (i := 1) (v := ?_) rfl (by kernel_rfl) (by kernel_rfl) (by kernel_rfl) (fun _ _ _ h => h) (Or.inl ⟨by rfl, ?_⟩) (by assumption) ?_
          rotate_left
          · (intro w hSw; (try dsimp only at hSw); go_simp; try with_reducible rfl)
          try simp only [List.getElem_toArray, List.getElem_cons_zero, List.getElem_cons_succ, Act.put, List.setIfInBounds_toArray, List.set_cons_zero, List.set_cons_succ]
          refine wpAnyH_take (i := 2) (v := ?_) rfl (by kernel_rfl) (by kernel_rfl) (by kernel_rfl) (fun _ _ _ h => h) (Or.inl ⟨by rfl, ?_⟩) (by assumption) ?_
          rotate_left
          · (intro w hSw; (try dsimp only at hSw); go_simp; try with_reducible rfl)
          try simp only [List.getElem_toArray, List.getElem_cons_zero, List.getElem_cons_succ, Act.put, List.setIfInBounds_toArray, List.set_cons_zero, List.set_cons_succ]
          refine wpAnyH_ready (rs := [3]) (by kernel_rfl) (by simp) ?_
          refine AllReadyH.cons rfl (fun K hK => ?_) AllReadyH.nil
          try simp only [List.getElem_toArray]
          go_simp
          (go_at_call 31; refine (HS.out _ _ (by first | exact I1.out.rd | exact I1.out.rd.below (k := w7.heap.size) ((Below.refl _ _).drew) (Nat.le_refl _))).mono ?_; rintro e w8 ⟨a8, c8, rfl, hin8, hbd⟩; rw [show ([] : List Int).length = 0 from rfl] at hin8 ⊢; have hb8 : Below w7.heap.size w7 w8 := (by first | exact hbd | exact ⟨hbd.os, hbd.tape, hbd.output, hbd.size, hbd.block⟩); clear hbd; have hz8 := hb8.size; replace X := Lib.hid (X.out.next hb8 X.out.lt); replace Y := Lib.hid (Y.out.next hb8 Y.out.lt); replace I1 := Lib.hid (I1.out.below hb8 (Nat.le_refl _)); replace IG := Lib.hid (IG.out.below hb8 (Nat.le_refl _)); replace B := Lib.hid (B.out.trans (hb8.mono B.out.size)); have IS := Lib.hid (hin8.mono (Nat.zero_le _)); clear hin8; clear hb8; have x0_8 := X.out.out.at0; have x1_8 := X.out.out.at1; have y0_8 := Y.out.out.at0; have y1_8 := Y.out.out.at1)
          refine hK.out _ _ (by first | exact ⟨x0_8, x1_8, y0_8, y1_8⟩ | exact ⟨x0, x1, y0, y1⟩ | go_keep) (fun hHeld => ?_)
          clear hK K
          try simp only [List.getElem_toArray, List.getElem_cons_zero, List.getElem_cons_succ, Act.put, List.setIfInBounds_toArray, List.set_cons_zero, List.set_cons_succ]
          refine wpAnyH_ready (rs := [4]) (by kernel_rfl) (by simp) ?_
          refine AllReadyH.cons rfl (fun K hK => ?_) AllReadyH.nil
          try simp only [List.getElem_toArray]
          go_simp
          (go_at_call 30; refine (lawsEqualClass _ _ _ _ _ _ _ _ (by first | exact IG.out.rd | exact IG.out.rd.below (k := w8.heap.size) ((Below.refl _ _).drew) (Nat.le_refl _)) (by first | exact IS.out.rd | exact IS.out.rd.below (k := w8.heap.size) ((Below.refl _ _).drew) (Nat.le_refl _))).mono ?_; rintro e w9 ⟨rfl, hbd⟩; have hb9 : Below w8.heap.size w8 w9 := (by first | exact hbd | exact ⟨hbd.os, hbd.tape, hbd.output, hbd.size, hbd.block⟩); clear hbd; have hz9 := hb9.size; replace X := Lib.hid (X.out.next hb9 X.out.lt); replace Y := Lib.hid (Y.out.next hb9 Y.out.lt); replace I1 := Lib.hid (I1.out.below hb9 (Nat.le_refl _)); replace IG := Lib.hid (IG.out.below hb9 (Nat.le_refl _)); replace IS := Lib.hid (IS.out.below hb9 (Nat.le_refl _)); replace B := Lib.hid (B.out.trans (hb9.mono B.out.size)); clear hb9; have x0_9 := X.out.out.at0; have x1_9 := X.out.out.at1; have y0_9 := Y.out.out.at0; have y1_9 := Y.out.out.at1)
          refine hK.out _ _ (by first | exact ⟨x0_9, x1_9, y0_9, y1_9⟩ | exact ⟨x0_8, x1_8, y0_8, y1_8⟩ | exact ⟨x0, x1, y0, y1⟩ | go_keep) (fun hHeld => ?_)
          clear hK K
          try simp only [List.getElem_toArray, List.getElem_cons_zero, List.getElem_cons_succ, Act.put, List.setIfInBounds_toArray, List.set_cons_zero, List.set_cons_succ]
          refine wpAnyH_take (i := 5) (v := ?_) rfl (by kernel_rfl) (by kernel_rfl) (by kernel_rfl) (fun _ _ _ h => h) (Or.inl ⟨by rfl, ?_⟩) (by assumption) ?_
          rotate_left
          · (intro w hSw; (try dsimp only at hSw); go_simp; try with_reducible rfl)
          try simp only [List.getElem_toArray, List.getElem_cons_zero, List.getElem_cons_succ, Act.put, List.setIfInBounds_toArray, List.set_cons_zero, List.set_cons_succ]
          refine wpAnyH_done (by kernel_rfl) ?_ _
          go_wp2_with fail
          go_ret
          exact ⟨rfl, by first | exact B.out | exact B.out.drew⟩
        · have hd2 : decide ((m : Int) ≤ s) = false := decide_eq_false hs1
          obtain ⟨x, rfl⟩ := Int.eq_ofNat_of_zero_le (show 0 ≤ s by omega)
          have hxn : x < m := by omega
          obtain ⟨G, hG⟩ : ∃ G, G = sh1 x ns := ⟨_, rfl⟩
          obtain ⟨eN, eL⟩ := shN_in hcl hxn
          rw [← hG] at eL
          have hcG : Cls m G := by rw [hG]; exact hcl.sh1 x
          have hvG := cls_vldB hcG
          have hGL : G.length = L := by rw [hG, ← hL2]; exact sh1_len hcl
          have hbt : ∀ s, s < 2 ^ m → (sht G s = true → sht ns s = true) ∧ (strg ns s = true → strg G s = true) := by rw [hG]; exact fun s hs => sh_both' hcl hxn hs
          have hee : (egTo ns ns.length).length ≤ (egTo G G.length).length := by rw [hG]; exact sh_edges' hcl hxn
          have HA := Lib.hid (fun v1 v2 w h1 h2 => lawsAmong v1 v2 ((List.range (2 ^ m)).filter (sht G)) ((List.range (2 ^ m)).filter (sht ns)) w h1 h2 (fun s hs => by rw [List.mem_filter, List.mem_range] at hs ⊢; exact ⟨hs.1, (hbt s hs.1).1 hs.2⟩))
          have HB := Lib.hid (fun v1 v2 w h1 h2 => lawsAmong v1 v2 ((List.range (2 ^ m)).filter (strg ns)) ((List.range (2 ^ m)).filter (strg G)) w h1 h2 (fun s hs => by rw [List.mem_filter, List.mem_range] at hs ⊢; exact ⟨hs.1, (hbt s hs.1).2 hs.2⟩))
          have HTG := Lib.hid (fun v w h => implShatteredSets (m : Int) v (toI G) w h)
          have HTN := Lib.hid (fun v w h => implShatteredSets (m : Int) v (toI ns) w h)
          have HDG := Lib.hid (fun v w h => implStrongSets (m : Int) v (toI G) w h)
          have HDN := Lib.hid (fun v w h => implStrongSets (m : Int) v (toI ns) w h)
          have HEG := Lib.hid (fun v w h => implEdgesOf (m : Int) v (toI G) w h)
          have HEN := Lib.hid (fun v w h => implEdgesOf (m : Int) v (toI ns) w h)
          rw [eN, eL] at HI HS
          rw [shatL_in hvG] at HTG
          rw [shatL_in hv] at HTN
          rw [strongL_in hvG] at HDG
          rw [strongL_in hv] at HDN
          rw [egL_in hvG] at HEG
          rw [egL_in hv] at HEN
          have HGl := Lib.hid ((toI_length G).trans hGL)
          obtain ⟨E1, hE1⟩ : ∃ E1, E1 = (egTo G G.length).length := ⟨_, rfl⟩
          obtain ⟨E0, hE0⟩ : ∃ E0, E0 = (egTo ns ns.length).length := ⟨_, rfl⟩
          have heI : (E0 : Int) ≤ (E1 : Int) := by omega
          have He1 := Lib.hid hE1.symm
          have He0 := Lib.hid hE0.symm
          generalize egTo G G.length = eg1 at *
          generalize egTo ns ns.length = eg0 at *
          generalize (List.range (2 ^ m)).filter (sht G) = TG at *
          generalize (List.range (2 ^ m)).filter (sht ns) = TN at *
          generalize (List.range (2 ^ m)).filter (strg G) = DG at *
          generalize (List.range (2 ^ m)).filter (strg ns) = DN at *
          clear hee hbt hE1 hE0 eN eL hcG hG hvG hv hcl
          refine (HI.out _ _ I1.out.rd).mono ?_
          rintro e w3 ⟨a3, c3, rfl, hin3, hb3⟩
          rw [HGl.out] at hin3 ⊢
          have hz3 := hb3.size
          replace X := Lib.hid (X.out.next hb3 X.out.lt)
          replace I1 := Lib.hid (I1.out.below hb3 (Nat.le_refl _))
          replace B := Lib.hid (B.out.trans (hb3.mono B.out.size))
          have IG := Lib.hid (hin3.mono (Nat.zero_le _))
          clear hin3 hb3
          have Y := Lib.hid (Bx.new (m : Int) (.slice a3 L c3) w3)
          replace X := Lib.hid (X.out.alloc (Obj.cells #[.int .i64 (m : Int), .slice a3 L c3] 28))
          replace I1 := Lib.hid (I1.out.alloc (Obj.cells #[.int .i64 (m : Int), .slice a3 L c3] 28))
          replace IG := Lib.hid (IG.out.alloc (Obj.cells #[.int .i64 (m : Int), .slice a3 L c3] 28))
          replace B := Lib.hid (B.out.alloc B.out.size (Obj.cells #[.int .i64 (m : Int), .slice a3 L c3] 28))
          have HZ := Lib.hid (show (w3.alloc (Obj.cells #[.int .i64 (m : Int), .slice a3 L c3] 28)).heap.size = w3.heap.size + 1 by simp)
          go_wp2_with fail
          generalize (w3.alloc (Obj.cells #[.int .i64 (m : Int), .slice a3 L c3] 28)) = w4 at *
          have hz4 := HZ.out
          clear HZ
          generalize ho2 : w3.heap.size = o2 at *
          have x0 := X.out.out.at0
          have x1 := X.out.out.at1
          have y0 := Y.out.out.at0
          have y1 := Y.out.out.at1
          go_wp2_with fail
          refine wp_region_held_drew (S := fun w' => w'.cell? ⟨o, 0, none⟩ = some (.int .i64 (m : Int)) ∧ w'.cell? ⟨o, 1, none⟩ = some (.slice a1 L c1) ∧ w'.cell? ⟨o2, 0, none⟩ = some (.int .i64 (m : Int)) ∧ w'.cell? ⟨o2, 1, none⟩ = some (.slice a3 L c3)) (by kernel_rfl) (by first | exact ⟨x0, x1, y0, y1⟩ | go_keep) (fun hHeld => ?_)
          refine wpAnyH_take (i := 0) (v := ?_) rfl (by kernel_rfl) (by kernel_rfl) (by kernel_rfl) (fun _ _ _ h => h) (Or.inl ⟨by rfl, ?_⟩) (by assumption) ?_
          rotate_left
          · (intro w hSw; (try dsimp only at hSw); go_simp; try with_reducible rfl)
          try simp only [List.getElem_toArray, List.getElem_cons_zero, Act.put, List.setIfInBounds_toArray, List.set_cons_zero, List.set_cons_succ]
          refine wpAnyH_take (i := 1) (v := ?_) rfl (by kernel_rfl) (by kernel_rfl) (by kernel_rfl) (fun _ _ _ h => h) (Or.inl ⟨by rfl, ?_⟩) (by assumption) ?_
          rotate_left
          · (intro w hSw; (try dsimp only at hSw); go_simp; try with_reducible rfl)
          try simp only [List.getElem_toArray, List.getElem_cons_zero, List.getElem_cons_succ, Act.put, List.setIfInBounds_toArray, List.set_cons_zero, List.set_cons_succ]
          refine wpAnyH_take (i := 2) (v := ?_) rfl (by kernel_rfl) (by kernel_rfl) (by kernel_rfl) (fun _ _ _ h => h) (Or.inl ⟨by rfl, ?_⟩) (by assumption) ?_
          rotate_left
          · (intro w hSw; (try dsimp only at hSw); go_simp; try with_reducible rfl)
          try simp only [List.getElem_toArray, List.getElem_cons_zero, List.getElem_cons_succ, Act.put, List.setIfInBounds_toArray, List.set_cons_zero, List.set_cons_succ]
          refine wpAnyH_ready (rs := [3]) (by kernel_rfl) (by simp) ?_
          refine AllReadyH.cons rfl (fun K hK => ?_) AllReadyH.nil
          try simp only [List.getElem_toArray]
          go_simp
          (go_at_call 31; refine (HS.out _ _ (by first | exact I1.out.rd | exact I1.out.rd.below (k := w4.heap.size) ((Below.refl _ _).drew) (Nat.le_refl _))).mono ?_; rintro e w5 ⟨a5, c5, rfl, hin5, hbd⟩; rw [HGl.out] at hin5 ⊢; have hb5 : Below w4.heap.size w4 w5 := (by first | exact hbd | exact ⟨hbd.os, hbd.tape, hbd.output, hbd.size, hbd.block⟩); clear hbd; have hz5 := hb5.size; replace X := Lib.hid (X.out.next hb5 X.out.lt); replace Y := Lib.hid (Y.out.next hb5 Y.out.lt); replace I1 := Lib.hid (I1.out.below hb5 (Nat.le_refl _)); replace IG := Lib.hid (IG.out.below hb5 (Nat.le_refl _)); replace B := Lib.hid (B.out.trans (hb5.mono B.out.size)); have IS := Lib.hid (hin5.mono (Nat.zero_le _)); clear hin5; clear hb5; have x0_5 := X.out.out.at0; have x1_5 := X.out.out.at1; have y0_5 := Y.out.out.at0; have y1_5 := Y.out.out.at1)
          refine hK.out _ _ (by first | exact ⟨x0_5, x1_5, y0_5, y1_5⟩ | exact ⟨x0, x1, y0, y1⟩ | go_keep) (fun hHeld => ?_)
          clear hK K
          try simp only [List.getElem_toArray, List.getElem_cons_zero, List.getElem_cons_succ, Act.put, List.setIfInBounds_toArray, List.set_cons_zero, List.set_cons_succ]
          refine wpAnyH_ready (rs := [4]) (by kernel_rfl) (by simp) ?_
          refine AllReadyH.cons rfl (fun K hK => ?_) AllReadyH.nil
          try simp only [List.getElem_toArray]
          go_simp
          (go_at_call 30; refine (lawsEqualClass _ _ _ _ _ _ _ _ (by first | exact IG.out.rd | exact IG.out.rd.below (k := w5.heap.size) ((Below.refl _ _).drew) (Nat.le_refl _)) (by first | exact IS.out.rd | exact IS.out.rd.below (k := w5.heap.size) ((Below.refl _ _).drew) (Nat.le_refl _))).mono ?_; rintro e w6 ⟨rfl, hbd⟩; have hb6 : Below w5.heap.size w5 w6 := (by first | exact hbd | exact ⟨hbd.os, hbd.tape, hbd.output, hbd.size, hbd.block⟩); clear hbd; have hz6 := hb6.size; replace X := Lib.hid (X.out.next hb6 X.out.lt); replace Y := Lib.hid (Y.out.next hb6 Y.out.lt); replace I1 := Lib.hid (I1.out.below hb6 (Nat.le_refl _)); replace IG := Lib.hid (IG.out.below hb6 (Nat.le_refl _)); replace IS := Lib.hid (IS.out.below hb6 (Nat.le_refl _)); replace B := Lib.hid (B.out.trans (hb6.mono B.out.size)); clear hb6; have x0_6 := X.out.out.at0; have x1_6 := X.out.out.at1; have y0_6 := Y.out.out.at0; have y1_6 := Y.out.out.at1)
          refine hK.out _ _ (by first | exact ⟨x0_6, x1_6, y0_6, y1_6⟩ | exact ⟨x0_5, x1_5, y0_5, y1_5⟩ | exact ⟨x0, x1, y0, y1⟩ | go_keep) (fun hHeld => ?_)
          clear hK K
          try simp only [List.getElem_toArray, List.getElem_cons_zero, List.getElem_cons_succ, Act.put, List.setIfInBounds_toArray, List.set_cons_zero, List.set_cons_succ]
          refine wpAnyH_take (i := 5) (v := ?_) rfl (by kernel_rfl) (by kernel_rfl) (by kernel_rfl) (fun _ _ _ h => h) (Or.inl ⟨by rfl, ?_⟩) (by assumption) ?_
          rotate_left
          · (intro w hSw; (try dsimp only at hSw); go_simp; try with_reducible rfl)
          try simp only [List.getElem_toArray, List.getElem_cons_zero, List.getElem_cons_succ, Act.put, List.setIfInBounds_toArray, List.set_cons_zero, List.set_cons_succ]
          refine wpAnyH_take (i := 6) (v := ?_) rfl (by kernel_rfl) (by kernel_rfl) (by kernel_rfl) (fun _ _ _ h => h) (Or.inl ⟨by rfl, ?_⟩) (by assumption) ?_
          rotate_left
          · (intro w hSw; (try dsimp only at hSw); go_simp; try with_reducible rfl)
          try simp only [List.getElem_toArray, List.getElem_cons_zero, List.getElem_cons_succ, Act.put, List.setIfInBounds_toArray, List.set_cons_zero, List.set_cons_succ]
          refine wpAnyH_take (i := 7) (v := ?_) rfl (by kernel_rfl) (by kernel_rfl) (by kernel_rfl) (fun _ _ _ h => h) (Or.inl ⟨by rfl, ?_⟩) (by assumption) ?_
          rotate_left
          · (intro w hSw; (try dsimp only at hSw); go_simp; try with_reducible rfl)
          try simp only [List.getElem_toArray, List.getElem_cons_zero, List.getElem_cons_succ, Act.put, List.setIfInBounds_toArray, List.set_cons_zero, List.set_cons_succ]
          refine wpAnyH_ready (rs := [8]) (by kernel_rfl) (by simp) ?_
          refine AllReadyH.cons rfl (fun K hK => ?_) AllReadyH.nil
          try simp only [List.getElem_toArray]
          go_simp
          (go_at_call 24; refine (HV.out _ _ (by first | exact I1.out.rd | exact I1.out.rd.below (k := w6.heap.size) ((Below.refl _ _).drew) (Nat.le_refl _))).mono ?_; rintro e w7 ⟨rfl, hbd⟩; have hb7 : Below w6.heap.size w6 w7 := (by first | exact hbd | exact ⟨hbd.os, hbd.tape, hbd.output, hbd.size, hbd.block⟩); clear hbd; have hz7 := hb7.size; replace X := Lib.hid (X.out.next hb7 X.out.lt); replace Y := Lib.hid (Y.out.next hb7 Y.out.lt); replace I1 := Lib.hid (I1.out.below hb7 (Nat.le_refl _)); replace IG := Lib.hid (IG.out.below hb7 (Nat.le_refl _)); replace IS := Lib.hid (IS.out.below hb7 (Nat.le_refl _)); replace B := Lib.hid (B.out.trans (hb7.mono B.out.size)); clear hb7; have x0_7 := X.out.out.at0; have x1_7 := X.out.out.at1; have y0_7 := Y.out.out.at0; have y1_7 := Y.out.out.at1)
          refine hK.out _ _ (by first | exact ⟨x0_7, x1_7, y0_7, y1_7⟩ | exact ⟨x0_6, x1_6, y0_6, y1_6⟩ | exact ⟨x0_5, x1_5, y0_5, y1_5⟩ | exact ⟨x0, x1, y0, y1⟩ | go_keep) (fun hHeld => ?_)
          clear hK K
          try simp only [List.getElem_toArray, List.getElem_cons_zero, List.getElem_cons_succ, Act.put, List.setIfInBounds_toArray, List.set_cons_zero, List.set_cons_succ]
          refine wpAnyH_take (i := 9) (v := ?_) rfl (by kernel_rfl) (by kernel_rfl) (by kernel_rfl) (fun _ _ _ h => h) (Or.inl ⟨by rfl, ?_⟩) (by assumption) ?_
          rotate_left
          · (intro w hSw; (try dsimp only at hSw); go_simp; try with_reducible rfl)
          try simp only [List.getElem_toArray, List.getElem_cons_zero, List.getElem_cons_succ, Act.put, List.setIfInBounds_toArray, List.set_cons_zero, List.set_cons_succ]
          refine wpAnyH_take (i := 10) (v := ?_) rfl (by kernel_rfl) (by kernel_rfl) (by kernel_rfl) (fun _ _ _ h => h) (Or.inl ⟨by rfl, ?_⟩) (by assumption) ?_
          rotate_left
          · (intro w hSw; (try dsimp only at hSw); go_simp; try with_reducible rfl)
          try simp only [List.getElem_toArray, List.getElem_cons_zero, List.getElem_cons_succ, Act.put, List.setIfInBounds_toArray, List.set_cons_zero, List.set_cons_succ]
          refine wpAnyH_take (i := 11) (v := ?_) rfl (by kernel_rfl) (by kernel_rfl) (by kernel_rfl) (fun _ _ _ h => h) (Or.inl ⟨by rfl, ?_⟩) (by assumption) ?_
          rotate_left
          · (intro w hSw; (try dsimp only at hSw); go_simp; try with_reducible rfl)
          try simp only [List.getElem_toArray, List.getElem_cons_zero, List.getElem_cons_succ, Act.put, List.setIfInBounds_toArray, List.set_cons_zero, List.set_cons_succ]
          refine wpAnyH_take (i := 12) (v := ?_) rfl (by kernel_rfl) (by kernel_rfl) (by kernel_rfl) (fun _ _ _ h => h) (Or.inl ⟨by rfl, ?_⟩) (by assumption) ?_
          rotate_left
          · (intro w hSw; (try dsimp only at hSw); go_simp; try with_reducible rfl)
          try simp only [List.getElem_toArray, List.getElem_cons_zero, List.getElem_cons_succ, Act.put, List.setIfInBounds_toArray, List.set_cons_zero, List.set_cons_succ]
          refine wpAnyH_take (i := 13) (v := ?_) rfl (by kernel_rfl) (by kernel_rfl) (by kernel_rfl) (fun _ _ _ h => h) (Or.inl ⟨by rfl, ?_⟩) (by assumption) ?_
          rotate_left
          · (intro w hSw; (try dsimp only at hSw); go_simp; try with_reducible rfl)
          try simp only [List.getElem_toArray, List.getElem_cons_zero, List.getElem_cons_succ, Act.put, List.setIfInBounds_toArray, List.set_cons_zero, List.set_cons_succ]
          refine wpAnyH_take (i := 14) (v := ?_) rfl (by kernel_rfl) (by kernel_rfl) (by kernel_rfl) (fun _ _ _ h => h) (Or.inl ⟨by rfl, ?_⟩) (by assumption) ?_
          rotate_left
          · (intro w hSw; (try dsimp only at hSw); go_simp; try with_reducible rfl)
          try simp only [List.getElem_toArray, List.getElem_cons_zero, List.getElem_cons_succ, Act.put, List.setIfInBounds_toArray, List.set_cons_zero, List.set_cons_succ]
          refine wpAnyH_take (i := 15) (v := ?_) rfl (by kernel_rfl) (by kernel_rfl) (by kernel_rfl) (fun _ _ _ h => h) (Or.inl ⟨by rfl, ?_⟩) (by assumption) ?_
          rotate_left
          · (intro w hSw; (try dsimp only at hSw); go_simp; try with_reducible rfl)
          try simp only [List.getElem_toArray, List.getElem_cons_zero, List.getElem_cons_succ, Act.put, List.setIfInBounds_toArray, List.set_cons_zero, List.set_cons_succ]
          refine wpAnyH_take (i := 16) (v := ?_) rfl (by kernel_rfl) (by kernel_rfl) (by kernel_rfl) (fun _ _ _ h => h) (Or.inl ⟨by rfl, ?_⟩) (by assumption) ?_
          rotate_left
          · (intro w hSw; (try dsimp only at hSw); go_simp; try with_reducible rfl)
          try simp only [List.getElem_toArray, List.getElem_cons_zero, List.getElem_cons_succ, Act.put, List.setIfInBounds_toArray, List.set_cons_zero, List.set_cons_succ]
          refine wpAnyH_take (i := 17) (v := ?_) rfl (by kernel_rfl) (by kernel_rfl) (by kernel_rfl) (fun _ _ _ h => h) (Or.inl ⟨by rfl, ?_⟩) (by assumption) ?_
          rotate_left
          · (intro w hSw; (try dsimp only at hSw); go_simp; try with_reducible rfl)
          try simp only [List.getElem_toArray, List.getElem_cons_zero, List.getElem_cons_succ, Act.put, List.setIfInBounds_toArray, List.set_cons_zero, List.set_cons_succ]
          refine wpAnyH_take (i := 18) (v := ?_) rfl (by kernel_rfl) (by kernel_rfl) (by kernel_rfl) (fun _ _ _ h => h) (Or.inl ⟨by rfl, ?_⟩) (by assumption) ?_
          rotate_left
          · (intro w hSw; (try dsimp only at hSw); go_simp; try with_reducible rfl)
          try simp only [List.getElem_toArray, List.getElem_cons_zero, List.getElem_cons_succ, Act.put, List.setIfInBounds_toArray, List.set_cons_zero, List.set_cons_succ]
          refine wpAnyH_take (i := 19) (v := ?_) rfl (by kernel_rfl) (by kernel_rfl) (by kernel_rfl) (fun _ _ _ h => h) (Or.inl ⟨by rfl, ?_⟩) (by assumption) ?_
          rotate_left
          · (intro w hSw; (try dsimp only at hSw); go_simp; try with_reducible rfl)
          try simp only [List.getElem_toArray, List.getElem_cons_zero, List.getElem_cons_succ, Act.put, List.setIfInBounds_toArray, List.set_cons_zero, List.set_cons_succ]
          refine wpAnyH_take (i := 20) (v := ?_) rfl (by kernel_rfl) (by kernel_rfl) (by kernel_rfl) (fun _ _ _ h => h) (Or.inl ⟨by rfl, ?_⟩) (by assumption) ?_
          rotate_left
          · (intro w hSw; (try dsimp only at hSw); go_simp; try with_reducible rfl)
          try simp only [List.getElem_toArray, List.getElem_cons_zero, List.getElem_cons_succ, Act.put, List.setIfInBounds_toArray, List.set_cons_zero, List.set_cons_succ]
          refine wpAnyH_done (by kernel_rfl) ?_ _
          clear IS HI HS HV
          have x0 := X.out.out.at0
          have x1 := X.out.out.at1
          have y0 := Y.out.out.at0
          have y1 := Y.out.out.at1
          go_wp2_with fail
          refine wp_region_held_drew (S := fun w' => w'.cell? ⟨o, 0, none⟩ = some (.int .i64 (m : Int)) ∧ w'.cell? ⟨o, 1, none⟩ = some (.slice a1 L c1) ∧ w'.cell? ⟨o2, 0, none⟩ = some (.int .i64 (m : Int)) ∧ w'.cell? ⟨o2, 1, none⟩ = some (.slice a3 L c3)) (by kernel_rfl) (by first | exact ⟨x0, x1, y0, y1⟩ | go_keep) (fun hHeld => ?_)
          refine wpAnyH_take (i := 0) (v := ?_) rfl (by kernel_rfl) (by kernel_rfl) (by kernel_rfl) (fun _ _ _ h => h) (Or.inl ⟨by rfl, ?_⟩) (by assumption) ?_
          rotate_left
          · (intro w hSw; (try dsimp only at hSw); go_simp; try with_reducible rfl)
          try simp only [List.getElem_toArray, List.getElem_cons_zero, Act.put, List.setIfInBounds_toArray, List.set_cons_zero, List.set_cons_succ]
          refine wpAnyH_take (i := 1) (v := ?_) rfl (by kernel_rfl) (by kernel_rfl) (by kernel_rfl) (fun _ _ _ h => h) (Or.inl ⟨by rfl, ?_⟩) (by assumption) ?_
          rotate_left
          · (intro w hSw; (try dsimp only at hSw); go_simp; try with_reducible rfl)
          try simp only [List.getElem_toArray, List.getElem_cons_zero, List.getElem_cons_succ, Act.put, List.setIfInBounds_toArray, List.set_cons_zero, List.set_cons_succ]
          refine wpAnyH_take (i := 2) (v := ?_) rfl (by kernel_rfl) (by kernel_rfl) (by kernel_rfl) (fun _ _ _ h => h) (Or.inl ⟨by rfl, ?_⟩) (by assumption) ?_
          rotate_left
          · (intro w hSw; (try dsimp only at hSw); go_simp; try with_reducible rfl)
          try simp only [List.getElem_toArray, List.getElem_cons_zero, List.getElem_cons_succ, Act.put, List.setIfInBounds_toArray, List.set_cons_zero, List.set_cons_succ]
          refine wpAnyH_take (i := 3) (v := ?_) rfl (by kernel_rfl) (by kernel_rfl) (by kernel_rfl) (fun _ _ _ h => h) (Or.inl ⟨by rfl, ?_⟩) (by assumption) ?_
          rotate_left
          · (intro w hSw; (try dsimp only at hSw); go_simp; try with_reducible rfl)
          try simp only [List.getElem_toArray, List.getElem_cons_zero, List.getElem_cons_succ, Act.put, List.setIfInBounds_toArray, List.set_cons_zero, List.set_cons_succ]
          refine wpAnyH_take (i := 4) (v := ?_) rfl (by kernel_rfl) (by kernel_rfl) (by kernel_rfl) (fun _ _ _ h => h) (Or.inl ⟨by rfl, ?_⟩) (by assumption) ?_
          rotate_left
          · (intro w hSw; (try dsimp only at hSw); go_simp; try with_reducible rfl)
          try simp only [List.getElem_toArray, List.getElem_cons_zero, List.getElem_cons_succ, Act.put, List.setIfInBounds_toArray, List.set_cons_zero, List.set_cons_succ]
          refine wpAnyH_take (i := 5) (v := ?_) rfl (by kernel_rfl) (by kernel_rfl) (by kernel_rfl) (fun _ _ _ h => h) (Or.inl ⟨by rfl, ?_⟩) (by assumption) ?_
          rotate_left
          · (intro w hSw; (try dsimp only at hSw); go_simp; try with_reducible rfl)
          try simp only [List.getElem_toArray, List.getElem_cons_zero, List.getElem_cons_succ, Act.put, List.setIfInBounds_toArray, List.set_cons_zero, List.set_cons_succ]
          refine wpAnyH_take (i := 6) (v := ?_) rfl (by kernel_rfl) (by kernel_rfl) (by kernel_rfl) (fun _ _ _ h => h) (Or.inl ⟨by rfl, ?_⟩) (by assumption) ?_
          rotate_left
          · (intro w hSw; (try dsimp only at hSw); go_simp; try with_reducible rfl)
          try simp only [List.getElem_toArray, List.getElem_cons_zero, List.getElem_cons_succ, Act.put, List.setIfInBounds_toArray, List.set_cons_zero, List.set_cons_succ]
          refine wpAnyH_take (i := 7) (v := ?_) rfl (by kernel_rfl) (by kernel_rfl) (by kernel_rfl) (fun _ _ _ h => h) (Or.inl ⟨by rfl, ?_⟩) (by assumption) ?_
          rotate_left
          · (intro w hSw; (try dsimp only at hSw); go_simp; try with_reducible rfl)
          try simp only [List.getElem_toArray, List.getElem_cons_zero, List.getElem_cons_succ, Act.put, List.setIfInBounds_toArray, List.set_cons_zero, List.set_cons_succ]
          refine wpAnyH_take (i := 8) (v := ?_) rfl (by kernel_rfl) (by kernel_rfl) (by kernel_rfl) (fun _ _ _ h => h) (Or.inl ⟨by rfl, ?_⟩) (by assumption) ?_
          rotate_left
          · (intro w hSw; (try dsimp only at hSw); go_simp; try with_reducible rfl)
          try simp only [List.getElem_toArray, List.getElem_cons_zero, List.getElem_cons_succ, Act.put, List.setIfInBounds_toArray, List.set_cons_zero, List.set_cons_succ]
          refine wpAnyH_take (i := 10) (v := ?_) rfl (by kernel_rfl) (by kernel_rfl) (by kernel_rfl) (fun _ _ _ h => h) (Or.inl ⟨by rfl, ?_⟩) (by assumption) ?_
          rotate_left
          · (intro w hSw; (try dsimp only at hSw); go_simp; try with_reducible rfl)
          try simp only [List.getElem_toArray, List.getElem_cons_zero, List.getElem_cons_succ, Act.put, List.setIfInBounds_toArray, List.set_cons_zero, List.set_cons_succ]
          refine wpAnyH_ready (rs := [9]) (by kernel_rfl) (by simp) ?_
          refine AllReadyH.cons rfl (fun K hK => ?_) AllReadyH.nil
          try simp only [List.getElem_toArray]
          go_simp
          (go_at_call 33; refine (HTG.out _ _ (by first | exact IG.out.rd | exact IG.out.rd.below (k := w7.heap.size) ((Below.refl _ _).drew) (Nat.le_refl _))).mono ?_; rintro e w8 ⟨a8, c8, rfl, hin8, hbd⟩; have hb8 : Below w7.heap.size w7 w8 := (by first | exact hbd | exact ⟨hbd.os, hbd.tape, hbd.output, hbd.size, hbd.block⟩); clear hbd; have hz8 := hb8.size; replace X := Lib.hid (X.out.next hb8 X.out.lt); replace Y := Lib.hid (Y.out.next hb8 Y.out.lt); replace I1 := Lib.hid (I1.out.below hb8 (Nat.le_refl _)); replace IG := Lib.hid (IG.out.below hb8 (Nat.le_refl _)); replace B := Lib.hid (B.out.trans (hb8.mono B.out.size)); have J1 := Lib.hid (hin8.mono (Nat.zero_le _)); clear hin8; clear hb8; have x0_8 := X.out.out.at0; have x1_8 := X.out.out.at1; have y0_8 := Y.out.out.at0; have y1_8 := Y.out.out.at1)
          refine hK.out _ _ (by first | exact ⟨x0_8, x1_8, y0_8, y1_8⟩ | exact ⟨x0, x1, y0, y1⟩ | go_keep) (fun hHeld => ?_)
          clear hK K
          try simp only [List.getElem_toArray, List.getElem_cons_zero, List.getElem_cons_succ, Act.put, List.setIfInBounds_toArray, List.set_cons_zero, List.set_cons_succ]
          refine wpAnyH_ready (rs := [11]) (by kernel_rfl) (by simp) ?_
          refine AllReadyH.cons rfl (fun K hK => ?_) AllReadyH.nil
          try simp only [List.getElem_toArray]
          go_simp
          (go_at_call 33; refine (HTN.out _ _ (by first | exact I1.out.rd | exact I1.out.rd.below (k := w8.heap.size) ((Below.refl _ _).drew) (Nat.le_refl _))).mono ?_; rintro e w9 ⟨a9, c9, rfl, hin9, hbd⟩; have hb9 : Below w8.heap.size w8 w9 := (by first | exact hbd | exact ⟨hbd.os, hbd.tape, hbd.output, hbd.size, hbd.block⟩); clear hbd; have hz9 := hb9.size; replace X := Lib.hid (X.out.next hb9 X.out.lt); replace Y := Lib.hid (Y.out.next hb9 Y.out.lt); replace I1 := Lib.hid (I1.out.below hb9 (Nat.le_refl _)); replace IG := Lib.hid (IG.out.below hb9 (Nat.le_refl _)); replace J1 := Lib.hid (J1.out.below hb9 (Nat.le_refl _)); replace B := Lib.hid (B.out.trans (hb9.mono B.out.size)); have J2 := Lib.hid (hin9.mono (Nat.zero_le _)); clear hin9; clear hb9; have x0_9 := X.out.out.at0; have x1_9 := X.out.out.at1; have y0_9 := Y.out.out.at0; have y1_9 := Y.out.out.at1)
          refine hK.out _ _ (by first | exact ⟨x0_9, x1_9, y0_9, y1_9⟩ | exact ⟨x0_8, x1_8, y0_8, y1_8⟩ | exact ⟨x0, x1, y0, y1⟩ | go_keep) (fun hHeld => ?_)
          clear hK K
          try simp only [List.getElem_toArray, List.getElem_cons_zero, List.getElem_cons_succ, Act.put, List.setIfInBounds_toArray, List.set_cons_zero, List.set_cons_succ]
          refine wpAnyH_ready (rs := [12]) (by kernel_rfl) (by simp) ?_
          refine AllReadyH.cons rfl (fun K hK => ?_) AllReadyH.nil
          try simp only [List.getElem_toArray]
          go_simp
          (go_at_call 32; refine (HA.out _ _ _ (by first | exact J1.out.rd | exact J1.out.rd.below (k := w9.heap.size) ((Below.refl _ _).drew) (Nat.le_refl _)) (by first | exact J2.out.rd | exact J2.out.rd.below (k := w9.heap.size) ((Below.refl _ _).drew) (Nat.le_refl _))).mono ?_; rintro e w98 ⟨rfl, hw98⟩; subst w98)
          refine hK.out _ _ (by first | exact ⟨x0_9, x1_9, y0_9, y1_9⟩ | exact ⟨x0_8, x1_8, y0_8, y1_8⟩ | exact ⟨x0, x1, y0, y1⟩ | go_keep) (fun hHeld => ?_)
          clear hK K
          try simp only [List.getElem_toArray, List.getElem_cons_zero, List.getElem_cons_succ, Act.put, List.setIfInBounds_toArray, List.set_cons_zero, List.set_cons_succ]
          refine wpAnyH_take (i := 13) (v := ?_) rfl (by kernel_rfl) (by kernel_rfl) (by kernel_rfl) (fun _ _ _ h => h) (Or.inl ⟨by rfl, ?_⟩) (by assumption) ?_
          rotate_left
          · (intro w hSw; (try dsimp only at hSw); go_simp; try with_reducible rfl)
          try simp only [List.getElem_toArray, List.getElem_cons_zero, List.getElem_cons_succ, Act.put, List.setIfInBounds_toArray, List.set_cons_zero, List.set_cons_succ]
          refine wpAnyH_take (i := 14) (v := ?_) rfl (by kernel_rfl) (by kernel_rfl) (by kernel_rfl) (fun _ _ _ h => h) (Or.inl ⟨by rfl, ?_⟩) (by assumption) ?_
          rotate_left
          · (intro w hSw; (try dsimp only at hSw); go_simp; try with_reducible rfl)
          try simp only [List.getElem_toArray, List.getElem_cons_zero, List.getElem_cons_succ, Act.put, List.setIfInBounds_toArray, List.set_cons_zero, List.set_cons_succ]
          refine wpAnyH_take (i := 15) (v := ?_) rfl (by kernel_rfl) (by kernel_rfl) (by kernel_rfl) (fun _ _ _ h => h) (Or.inl ⟨by rfl, ?_⟩) (by assumption) ?_
          rotate_left
          · (intro w hSw; (try dsimp only at hSw); go_simp; try with_reducible rfl)
          try simp only [List.getElem_toArray, List.getElem_cons_zero, List.getElem_cons_succ, Act.put, List.setIfInBounds_toArray, List.set_cons_zero, List.set_cons_succ]
          refine wpAnyH_take (i := 17) (v := ?_) rfl (by kernel_rfl) (by kernel_rfl) (by kernel_rfl) (fun _ _ _ h => h) (Or.inl ⟨by rfl, ?_⟩) (by assumption) ?_
          rotate_left
          · (intro w hSw; (try dsimp only at hSw); go_simp; try with_reducible rfl)
          try simp only [List.getElem_toArray, List.getElem_cons_zero, List.getElem_cons_succ, Act.put, List.setIfInBounds_toArray, List.set_cons_zero, List.set_cons_succ]
          refine wpAnyH_ready (rs := [16]) (by kernel_rfl) (by simp) ?_
          refine AllReadyH.cons rfl (fun K hK => ?_) AllReadyH.nil
          try simp only [List.getElem_toArray]
          go_simp
          (go_at_call 34; refine (HDN.out _ _ (by first | exact I1.out.rd | exact I1.out.rd.below (k := w9.heap.size) ((Below.refl _ _).drew) (Nat.le_refl _))).mono ?_; rintro e w10 ⟨a10, c10, rfl, hin10, hbd⟩; have hb10 : Below w9.heap.size w9 w10 := (by first | exact hbd | exact ⟨hbd.os, hbd.tape, hbd.output, hbd.size, hbd.block⟩); clear hbd; have hz10 := hb10.size; replace X := Lib.hid (X.out.next hb10 X.out.lt); replace Y := Lib.hid (Y.out.next hb10 Y.out.lt); replace I1 := Lib.hid (I1.out.below hb10 (Nat.le_refl _)); replace IG := Lib.hid (IG.out.below hb10 (Nat.le_refl _)); replace J1 := Lib.hid (J1.out.below hb10 (Nat.le_refl _)); replace J2 := Lib.hid (J2.out.below hb10 (Nat.le_refl _)); replace B := Lib.hid (B.out.trans (hb10.mono B.out.size)); have J3 := Lib.hid (hin10.mono (Nat.zero_le _)); clear hin10; clear hb10; have x0_10 := X.out.out.at0; have x1_10 := X.out.out.at1; have y0_10 := Y.out.out.at0; have y1_10 := Y.out.out.at1)
          refine hK.out _ _ (by first | exact ⟨x0_10, x1_10, y0_10, y1_10⟩ | exact ⟨x0_9, x1_9, y0_9, y1_9⟩ | exact ⟨x0_8, x1_8, y0_8, y1_8⟩ | exact ⟨x0, x1, y0, y1⟩ | go_keep) (fun hHeld => ?_)
          clear hK K
          try simp only [List.getElem_toArray, List.getElem_cons_zero, List.getElem_cons_succ, Act.put, List.setIfInBounds_toArray, List.set_cons_zero, List.set_cons_succ]
          refine wpAnyH_ready (rs := [18]) (by kernel_rfl) (by simp) ?_
          refine AllReadyH.cons rfl (fun K hK => ?_) AllReadyH.nil
          try simp only [List.getElem_toArray]
          go_simp
          (go_at_call 34; refine (HDG.out _ _ (by first | exact IG.out.rd | exact IG.out.rd.below (k := w10.heap.size) ((Below.refl _ _).drew) (Nat.le_refl _))).mono ?_; rintro e w11 ⟨a11, c11, rfl, hin11, hbd⟩; have hb11 : Below w10.heap.size w10 w11 := (by first | exact hbd | exact ⟨hbd.os, hbd.tape, hbd.output, hbd.size, hbd.block⟩); clear hbd; have hz11 := hb11.size; replace X := Lib.hid (X.out.next hb11 X.out.lt); replace Y := Lib.hid (Y.out.next hb11 Y.out.lt); replace I1 := Lib.hid (I1.out.below hb11 (Nat.le_refl _)); replace IG := Lib.hid (IG.out.below hb11 (Nat.le_refl _)); replace J1 := Lib.hid (J1.out.below hb11 (Nat.le_refl _)); replace J2 := Lib.hid (J2.out.below hb11 (Nat.le_refl _)); replace J3 := Lib.hid (J3.out.below hb11 (Nat.le_refl _)); replace B := Lib.hid (B.out.trans (hb11.mono B.out.size)); have J4 := Lib.hid (hin11.mono (Nat.zero_le _)); clear hin11; clear hb11; have x0_11 := X.out.out.at0; have x1_11 := X.out.out.at1; have y0_11 := Y.out.out.at0; have y1_11 := Y.out.out.at1)
          refine hK.out _ _ (by first | exact ⟨x0_11, x1_11, y0_11, y1_11⟩ | exact ⟨x0_10, x1_10, y0_10, y1_10⟩ | exact ⟨x0_9, x1_9, y0_9, y1_9⟩ | exact ⟨x0_8, x1_8, y0_8, y1_8⟩ | exact ⟨x0, x1, y0, y1⟩ | go_keep) (fun hHeld => ?_)
          clear hK K
          try simp only [List.getElem_toArray, List.getElem_cons_zero, List.getElem_cons_succ, Act.put, List.setIfInBounds_toArray, List.set_cons_zero, List.set_cons_succ]
          refine wpAnyH_ready (rs := [19]) (by kernel_rfl) (by simp) ?_
          refine AllReadyH.cons rfl (fun K hK => ?_) AllReadyH.nil
          try simp only [List.getElem_toArray]
          go_simp
          (go_at_call 32; refine (HB.out _ _ _ (by first | exact J3.out.rd | exact J3.out.rd.below (k := w11.heap.size) ((Below.refl _ _).drew) (Nat.le_refl _)) (by first | exact J4.out.rd | exact J4.out.rd.below (k := w11.heap.size) ((Below.refl _ _).drew) (Nat.le_refl _))).mono ?_; rintro e w98 ⟨rfl, hw98⟩; subst w98)
          refine hK.out _ _ (by first | exact ⟨x0_11, x1_11, y0_11, y1_11⟩ | exact ⟨x0_10, x1_10, y0_10, y1_10⟩ | exact ⟨x0_9, x1_9, y0_9, y1_9⟩ | exact ⟨x0_8, x1_8, y0_8, y1_8⟩ | exact ⟨x0, x1, y0, y1⟩ | go_keep) (fun hHeld => ?_)
          clear hK K
          try simp only [List.getElem_toArray, List.getElem_cons_zero, List.getElem_cons_succ, Act.put, List.setIfInBounds_toArray, List.set_cons_zero, List.set_cons_succ]
          refine wpAnyH_take (i := 20) (v := ?_) rfl (by kernel_rfl) (by kernel_rfl) (by kernel_rfl) (fun _ _ _ h => h) (Or.inl ⟨by rfl, ?_⟩) (by assumption) ?_
          rotate_left
          · (intro w hSw; (try dsimp only at hSw); go_simp; try with_reducible rfl)
          try simp only [List.getElem_toArray, List.getElem_cons_zero, List.getElem_cons_succ, Act.put, List.setIfInBounds_toArray, List.set_cons_zero, List.set_cons_succ]
          refine wpAnyH_take (i := 21) (v := ?_) rfl (by kernel_rfl) (by kernel_rfl) (by kernel_rfl) (fun _ _ _ h => h) (Or.inl ⟨by rfl, ?_⟩) (by assumption) ?_
          rotate_left
          · (intro w hSw; (try dsimp only at hSw); go_simp; try with_reducible rfl)
          try simp only [List.getElem_toArray, List.getElem_cons_zero, List.getElem_cons_succ, Act.put, List.setIfInBounds_toArray, List.set_cons_zero, List.set_cons_succ]
          refine wpAnyH_take (i := 22) (v := ?_) rfl (by kernel_rfl) (by kernel_rfl) (by kernel_rfl) (fun _ _ _ h => h) (Or.inl ⟨by rfl, ?_⟩) (by assumption) ?_
          rotate_left
          · (intro w hSw; (try dsimp only at hSw); go_simp; try with_reducible rfl)
          try simp only [List.getElem_toArray, List.getElem_cons_zero, List.getElem_cons_succ, Act.put, List.setIfInBounds_toArray, List.set_cons_zero, List.set_cons_succ]
          refine wpAnyH_take (i := 25) (v := ?_) rfl (by kernel_rfl) (by kernel_rfl) (by kernel_rfl) (fun _ _ _ h => h) (Or.inl ⟨by rfl, ?_⟩) (by assumption) ?_
          rotate_left
          · (intro w hSw; (try dsimp only at hSw); go_simp; try with_reducible rfl)
          try simp only [List.getElem_toArray, List.getElem_cons_zero, List.getElem_cons_succ, Act.put, List.setIfInBounds_toArray, List.set_cons_zero, List.set_cons_succ]
          refine wpAnyH_ready (rs := [23]) (by kernel_rfl) (by simp) ?_
          refine AllReadyH.cons rfl (fun K hK => ?_) AllReadyH.nil
          try simp only [List.getElem_toArray]
          go_simp
          (go_at_call 16; refine (HEG.out _ _ (by first | exact IG.out.rd | exact IG.out.rd.below (k := w11.heap.size) ((Below.refl _ _).drew) (Nat.le_refl _))).mono ?_; rintro e w12 ⟨a12, c12, rfl, hin12, hbd⟩; rw [He1.out]; clear hin12; have hb12 : Below w11.heap.size w11 w12 := (by first | exact hbd | exact ⟨hbd.os, hbd.tape, hbd.output, hbd.size, hbd.block⟩); clear hbd; have hz12 := hb12.size; replace X := Lib.hid (X.out.next hb12 X.out.lt); replace Y := Lib.hid (Y.out.next hb12 Y.out.lt); replace I1 := Lib.hid (I1.out.below hb12 (Nat.le_refl _)); replace IG := Lib.hid (IG.out.below hb12 (Nat.le_refl _)); replace J1 := Lib.hid (J1.out.below hb12 (Nat.le_refl _)); replace J2 := Lib.hid (J2.out.below hb12 (Nat.le_refl _)); replace J3 := Lib.hid (J3.out.below hb12 (Nat.le_refl _)); replace J4 := Lib.hid (J4.out.below hb12 (Nat.le_refl _)); replace B := Lib.hid (B.out.trans (hb12.mono B.out.size)); clear hb12; have x0_12 := X.out.out.at0; have x1_12 := X.out.out.at1; have y0_12 := Y.out.out.at0; have y1_12 := Y.out.out.at1)
          refine hK.out _ _ (by first | exact ⟨x0_12, x1_12, y0_12, y1_12⟩ | exact ⟨x0_11, x1_11, y0_11, y1_11⟩ | exact ⟨x0_10, x1_10, y0_10, y1_10⟩ | exact ⟨x0_9, x1_9, y0_9, y1_9⟩ | exact ⟨x0_8, x1_8, y0_8, y1_8⟩ | exact ⟨x0, x1, y0, y1⟩ | go_keep) (fun hHeld => ?_)
          clear hK K
          try simp only [List.getElem_toArray, List.getElem_cons_zero, List.getElem_cons_succ, Act.put, List.setIfInBounds_toArray, List.set_cons_zero, List.set_cons_succ]
          refine wpAnyH_take (i := 24) (v := ?_) rfl (by kernel_rfl) (by kernel_rfl) (by kernel_rfl) (fun _ _ _ h => h) (Or.inl ⟨by rfl, ?_⟩) (by assumption) ?_
          rotate_left
          · (intro w hSw; (try dsimp only at hSw); go_simp; try with_reducible rfl)
          try simp only [List.getElem_toArray, List.getElem_cons_zero, List.getElem_cons_succ, Act.put, List.setIfInBounds_toArray, List.set_cons_zero, List.set_cons_succ]
          refine wpAnyH_ready (rs := [26]) (by kernel_rfl) (by simp) ?_
          refine AllReadyH.cons rfl (fun K hK => ?_) AllReadyH.nil
          try simp only [List.getElem_toArray]
          go_simp
          (go_at_call 16; refine (HEN.out _ _ (by first | exact I1.out.rd | exact I1.out.rd.below (k := w12.heap.size) ((Below.refl _ _).drew) (Nat.le_refl _))).mono ?_; rintro e w13 ⟨a13, c13, rfl, hin13, hbd⟩; rw [He0.out]; clear hin13; have hb13 : Below w12.heap.size w12 w13 := (by first | exact hbd | exact ⟨hbd.os, hbd.tape, hbd.output, hbd.size, hbd.block⟩); clear hbd; have hz13 := hb13.size; replace X := Lib.hid (X.out.next hb13 X.out.lt); replace Y := Lib.hid (Y.out.next hb13 Y.out.lt); replace I1 := Lib.hid (I1.out.below hb13 (Nat.le_refl _)); replace IG := Lib.hid (IG.out.below hb13 (Nat.le_refl _)); replace J1 := Lib.hid (J1.out.below hb13 (Nat.le_refl _)); replace J2 := Lib.hid (J2.out.below hb13 (Nat.le_refl _)); replace J3 := Lib.hid (J3.out.below hb13 (Nat.le_refl _)); replace J4 := Lib.hid (J4.out.below hb13 (Nat.le_refl _)); replace B := Lib.hid (B.out.trans (hb13.mono B.out.size)); clear hb13; have x0_13 := X.out.out.at0; have x1_13 := X.out.out.at1; have y0_13 := Y.out.out.at0; have y1_13 := Y.out.out.at1)
          refine hK.out _ _ (by first | exact ⟨x0_13, x1_13, y0_13, y1_13⟩ | exact ⟨x0_12, x1_12, y0_12, y1_12⟩ | exact ⟨x0_11, x1_11, y0_11, y1_11⟩ | exact ⟨x0_10, x1_10, y0_10, y1_10⟩ | exact ⟨x0_9, x1_9, y0_9, y1_9⟩ | exact ⟨x0_8, x1_8, y0_8, y1_8⟩ | exact ⟨x0, x1, y0, y1⟩ | go_keep) (fun hHeld => ?_)
          clear hK K
          try simp only [List.getElem_toArray, List.getElem_cons_zero, List.getElem_cons_succ, Act.put, List.setIfInBounds_toArray, List.set_cons_zero, List.set_cons_succ]
          refine wpAnyH_take (i := 27) (v := ?_) rfl (by kernel_rfl) (by kernel_rfl) (by kernel_rfl) (fun _ _ _ h => h) (Or.inl ⟨by rfl, ?_⟩) (by assumption) ?_
          rotate_left
          · (intro w hSw; (try dsimp only at hSw); go_simp; try with_reducible rfl)
          try simp only [List.getElem_toArray, List.getElem_cons_zero, List.getElem_cons_succ, Act.put, List.setIfInBounds_toArray, List.set_cons_zero, List.set_cons_succ]
          refine wpAnyH_take (i := 28) (v := ?_) rfl (by kernel_rfl) (by kernel_rfl) (by kernel_rfl) (fun _ _ _ h => h) (Or.inl ⟨by rfl, ?_⟩) (by assumption) ?_
          rotate_left
          · (intro w hSw; (try dsimp only at hSw); go_simp; try with_reducible rfl)
          try simp only [List.getElem_toArray, List.getElem_cons_zero, List.getElem_cons_succ, Act.put, List.setIfInBounds_toArray, List.set_cons_zero, List.set_cons_succ]
          refine wpAnyH_take (i := 29) (v := ?_) rfl (by kernel_rfl) (by kernel_rfl) (by kernel_rfl) (fun _ _ _ h => h) (Or.inl ⟨by rfl, ?_⟩) (by assumption) ?_
          rotate_left
          · (intro w hSw; (try dsimp only at hSw); go_simp; try with_reducible rfl)
          try simp only [List.getElem_toArray, List.getElem_cons_zero, List.getElem_cons_succ, Act.put, List.setIfInBounds_toArray, List.set_cons_zero, List.set_cons_succ]
          refine wpAnyH_take (i := 30) (v := ?_) rfl (by kernel_rfl) (by kernel_rfl) (by kernel_rfl) (fun _ _ _ h => h) (Or.inl ⟨by rfl, ?_⟩) (by assumption) ?_
          rotate_left
          · (intro w hSw; (try dsimp only at hSw); go_simp; try with_reducible rfl)
          try simp only [List.getElem_toArray, List.getElem_cons_zero, List.getElem_cons_succ, Act.put, List.setIfInBounds_toArray, List.set_cons_zero, List.set_cons_succ]
          refine wpAnyH_done (by kernel_rfl) ?_ _
          go_wp2_with fail
          go_ret
          exact ⟨rfl, by first | exact B.out | exact B.out.drew⟩
    · rw [Bool.not_eq_true] at hv
      have hp : ptB N zs s = false := by simp [ptB, hv]
      have HI := Lib.hid (fun v w h => implShiftClass N v zs s w h)
      have HS := Lib.hid (fun v w h => specShiftClass N v zs s w h)
      have HV := Lib.hid (fun v w h => implValid N v zs w h)
      rw [(shf_bad hp).1, (shf_bad hp).2] at HI HS
      rw [hv] at HV
      clear hp hv
      refine (HI.out _ _ I1.out.rd).mono ?_
      rintro e w3 ⟨a3, c3, rfl, hin3, hb3⟩
      rw [show ([] : List Int).length = 0 from rfl] at hin3 ⊢
      have hz3 := hb3.size
      replace X := Lib.hid (X.out.next hb3 X.out.lt)
      replace I1 := Lib.hid (I1.out.below hb3 (Nat.le_refl _))
      replace B := Lib.hid (B.out.trans (hb3.mono B.out.size))
      have IG := Lib.hid (hin3.mono (Nat.zero_le _))
      clear hin3 hb3
      have Y := Lib.hid (Bx.new 0 (.slice a3 0 c3) w3)
      replace X := Lib.hid (X.out.alloc (Obj.cells #[.int .i64 0, .slice a3 0 c3] 28))
      replace I1 := Lib.hid (I1.out.alloc (Obj.cells #[.int .i64 0, .slice a3 0 c3] 28))
      replace IG := Lib.hid (IG.out.alloc (Obj.cells #[.int .i64 0, .slice a3 0 c3] 28))
      replace B := Lib.hid (B.out.alloc B.out.size (Obj.cells #[.int .i64 0, .slice a3 0 c3] 28))
      have HZ := Lib.hid (show (w3.alloc (Obj.cells #[.int .i64 0, .slice a3 0 c3] 28)).heap.size = w3.heap.size + 1 by simp)
      go_wp2_with fail
      generalize (w3.alloc (Obj.cells #[.int .i64 0, .slice a3 0 c3] 28)) = w4 at *
      have hz4 := HZ.out
      clear HZ
      generalize ho2 : w3.heap.size = o2 at *
      have x0 := X.out.out.at0
      have x1 := X.out.out.at1
      have y0 := Y.out.out.at0
      have y1 := Y.out.out.at1
      go_wp2_with fail
      refine wp_region_held_drew (S := fun w' => w'.cell? ⟨o, 0, none⟩ = some (.int .i64 N) ∧ w'.cell? ⟨o, 1, none⟩ = some (.slice a1 L c1) ∧ w'.cell? ⟨o2, 0, none⟩ = some (.int .i64 0) ∧ w'.cell? ⟨o2, 1, none⟩ = some (.slice a3 0 c3)) (by kernel_rfl) (by first | exact ⟨x0, x1, y0, y1⟩ | go_keep) (fun hHeld => ?_)
      refine wpAnyH_take (i := 0) (v := ?_) rfl (by kernel_rfl) (by kernel_rfl) (by kernel_rfl) (fun _ _ _ h => h) (Or.inl ⟨by rfl, ?_⟩) (by assumption) ?_
      rotate_left
      · (intro w hSw; (try dsimp only at hSw); go_simp; try with_reducible rfl)
      try simp only [List.getElem_toArray, List.getElem_cons_zero, Act.put, List.setIfInBounds_toArray, List.set_cons_zero, List.set_cons_succ]
      refine wpAnyH_take (i := 1) (v := ?_) rfl (by kernel_rfl) (by kernel_rfl) (by kernel_rfl) (fun _ _ _ h => h) (Or.inl ⟨by rfl, ?_⟩) (by assumption) ?_
      rotate_left
      · (intro w hSw; (try dsimp only at hSw); go_simp; try with_reducible rfl)
      try simp only [List.getElem_toArray, List.getElem_cons_zero, List.getElem_cons_succ, Act.put, List.setIfInBounds_toArray, List.set_cons_zero, List.set_cons_succ]
      refine wpAnyH_take (i := 2) (v := ?_) rfl (by kernel_rfl) (by kernel_rfl) (by kernel_rfl) (fun _ _ _ h => h) (Or.inl ⟨by rfl, ?_⟩) (by assumption) ?_
      rotate_left
      · (intro w hSw; (try dsimp only at hSw); go_simp; try with_reducible rfl)
      try simp only [List.getElem_toArray, List.getElem_cons_zero, List.getElem_cons_succ, Act.put, List.setIfInBounds_toArray, List.set_cons_zero, List.set_cons_succ]
      refine wpAnyH_ready (rs := [3]) (by kernel_rfl) (by simp) ?_
      refine AllReadyH.cons rfl (fun K hK => ?_) AllReadyH.nil
      try simp only [List.getElem_toArray]
      go_simp
      (go_at_call 31; refine (HS.out _ _ (by first | exact I1.out.rd | exact I1.out.rd.below (k := w4.heap.size) ((Below.refl _ _).drew) (Nat.le_refl _))).mono ?_; rintro e w5 ⟨a5, c5, rfl, hin5, hbd⟩; rw [show ([] : List Int).length = 0 from rfl] at hin5 ⊢; have hb5 : Below w4.heap.size w4 w5 := (by first | exact hbd | exact ⟨hbd.os, hbd.tape, hbd.output, hbd.size, hbd.block⟩); clear hbd; have hz5 := hb5.size; replace X := Lib.hid (X.out.next hb5 X.out.lt); replace Y := Lib.hid (Y.out.next hb5 Y.out.lt); replace I1 := Lib.hid (I1.out.below hb5 (Nat.le_refl _)); replace IG := Lib.hid (IG.out.below hb5 (Nat.le_refl _)); replace B := Lib.hid (B.out.trans (hb5.mono B.out.size)); have IS := Lib.hid (hin5.mono (Nat.zero_le _)); clear hin5; clear hb5; have x0_5 := X.out.out.at0; have x1_5 := X.out.out.at1; have y0_5 := Y.out.out.at0; have y1_5 := Y.out.out.at1)
      refine hK.out _ _ (by first | exact ⟨x0_5, x1_5, y0_5, y1_5⟩ | exact ⟨x0, x1, y0, y1⟩ | go_keep) (fun hHeld => ?_)
      clear hK K
      try simp only [List.getElem_toArray, List.getElem_cons_zero, List.getElem_cons_succ, Act.put, List.setIfInBounds_toArray, List.set_cons_zero, List.set_cons_succ]
      refine wpAnyH_ready (rs := [4]) (by kernel_rfl) (by simp) ?_
      refine AllReadyH.cons rfl (fun K hK => ?_) AllReadyH.nil
      try simp only [List.getElem_toArray]
      go_simp
      (go_at_call 30; refine (lawsEqualClass _ _ _ _ _ _ _ _ (by first | exact IG.out.rd | exact IG.out.rd.below (k := w5.heap.size) ((Below.refl _ _).drew) (Nat.le_refl _)) (by first | exact IS.out.rd | exact IS.out.rd.below (k := w5.heap.size) ((Below.refl _ _).drew) (Nat.le_refl _))).mono ?_; rintro e w6 ⟨rfl, hbd⟩; have hb6 : Below w5.heap.size w5 w6 := (by first | exact hbd | exact ⟨hbd.os, hbd.tape, hbd.output, hbd.size, hbd.block⟩); clear hbd; have hz6 := hb6.size; replace X := Lib.hid (X.out.next hb6 X.out.lt); replace Y := Lib.hid (Y.out.next hb6 Y.out.lt); replace I1 := Lib.hid (I1.out.below hb6 (Nat.le_refl _)); replace IG := Lib.hid (IG.out.below hb6 (Nat.le_refl _)); replace IS := Lib.hid (IS.out.below hb6 (Nat.le_refl _)); replace B := Lib.hid (B.out.trans (hb6.mono B.out.size)); clear hb6; have x0_6 := X.out.out.at0; have x1_6 := X.out.out.at1; have y0_6 := Y.out.out.at0; have y1_6 := Y.out.out.at1)
      refine hK.out _ _ (by first | exact ⟨x0_6, x1_6, y0_6, y1_6⟩ | exact ⟨x0_5, x1_5, y0_5, y1_5⟩ | exact ⟨x0, x1, y0, y1⟩ | go_keep) (fun hHeld => ?_)
      clear hK K
      try simp only [List.getElem_toArray, List.getElem_cons_zero, List.getElem_cons_succ, Act.put, List.setIfInBounds_toArray, List.set_cons_zero, List.set_cons_succ]
      refine wpAnyH_take (i := 5) (v := ?_) rfl (by kernel_rfl) (by kernel_rfl) (by kernel_rfl) (fun _ _ _ h => h) (Or.inl ⟨by rfl, ?_⟩) (by assumption) ?_
      rotate_left
      · (intro w hSw; (try dsimp only at hSw); go_simp; try with_reducible rfl)
      try simp only [List.getElem_toArray, List.getElem_cons_zero, List.getElem_cons_succ, Act.put, List.setIfInBounds_toArray, List.set_cons_zero, List.set_cons_succ]
      refine wpAnyH_take (i := 6) (v := ?_) rfl (by kernel_rfl) (by kernel_rfl) (by kernel_rfl) (fun _ _ _ h => h) (Or.inl ⟨by rfl, ?_⟩) (by assumption) ?_
      rotate_left
      · (intro w hSw; (try dsimp only at hSw); go_simp; try with_reducible rfl)
      try simp only [List.getElem_toArray, List.getElem_cons_zero, List.getElem_cons_succ, Act.put, List.setIfInBounds_toArray, List.set_cons_zero, List.set_cons_succ]
      refine wpAnyH_take (i := 7) (v := ?_) rfl (by kernel_rfl) (by kernel_rfl) (by kernel_rfl) (fun _ _ _ h => h) (Or.inl ⟨by rfl, ?_⟩) (by assumption) ?_
      rotate_left
      · (intro w hSw; (try dsimp only at hSw); go_simp; try with_reducible rfl)
      try simp only [List.getElem_toArray, List.getElem_cons_zero, List.getElem_cons_succ, Act.put, List.setIfInBounds_toArray, List.set_cons_zero, List.set_cons_succ]
      refine wpAnyH_ready (rs := [8]) (by kernel_rfl) (by simp) ?_
      refine AllReadyH.cons rfl (fun K hK => ?_) AllReadyH.nil
      try simp only [List.getElem_toArray]
      go_simp
      (go_at_call 24; refine (HV.out _ _ (by first | exact I1.out.rd | exact I1.out.rd.below (k := w6.heap.size) ((Below.refl _ _).drew) (Nat.le_refl _))).mono ?_; rintro e w7 ⟨rfl, hbd⟩; have hb7 : Below w6.heap.size w6 w7 := (by first | exact hbd | exact ⟨hbd.os, hbd.tape, hbd.output, hbd.size, hbd.block⟩); clear hbd; have hz7 := hb7.size; replace X := Lib.hid (X.out.next hb7 X.out.lt); replace Y := Lib.hid (Y.out.next hb7 Y.out.lt); replace I1 := Lib.hid (I1.out.below hb7 (Nat.le_refl _)); replace IG := Lib.hid (IG.out.below hb7 (Nat.le_refl _)); replace IS := Lib.hid (IS.out.below hb7 (Nat.le_refl _)); replace B := Lib.hid (B.out.trans (hb7.mono B.out.size)); clear hb7; have x0_7 := X.out.out.at0; have x1_7 := X.out.out.at1; have y0_7 := Y.out.out.at0; have y1_7 := Y.out.out.at1)
      refine hK.out _ _ (by first | exact ⟨x0_7, x1_7, y0_7, y1_7⟩ | exact ⟨x0_6, x1_6, y0_6, y1_6⟩ | exact ⟨x0_5, x1_5, y0_5, y1_5⟩ | exact ⟨x0, x1, y0, y1⟩ | go_keep) (fun hHeld => ?_)
      clear hK K
      try simp only [List.getElem_toArray, List.getElem_cons_zero, List.getElem_cons_succ, Act.put, List.setIfInBounds_toArray, List.set_cons_zero, List.set_cons_succ]
      refine wpAnyH_take (i := 9) (v := ?_) rfl (by kernel_rfl) (by kernel_rfl) (by kernel_rfl) (fun _ _ _ h => h) (Or.inl ⟨by rfl, ?_⟩) (by assumption) ?_
      rotate_left
      · (intro w hSw; (try dsimp only at hSw); go_simp; try with_reducible rfl)
      try simp only [List.getElem_toArray, List.getElem_cons_zero, List.getElem_cons_succ, Act.put, List.setIfInBounds_toArray, List.set_cons_zero, List.set_cons_succ]
      refine wpAnyH_take (i := 10) (v := ?_) rfl (by kernel_rfl) (by kernel_rfl) (by kernel_rfl) (fun _ _ _ h => h) (Or.inl ⟨by rfl, ?_⟩) (by assumption) ?_
      rotate_left
      · (intro w hSw; (try dsimp only at hSw); go_simp; try with_reducible rfl)
      try simp only [List.getElem_toArray, List.getElem_cons_zero, List.getElem_cons_succ, Act.put, List.setIfInBounds_toArray, List.set_cons_zero, List.set_cons_succ]
      refine wpAnyH_take (i := 11) (v := ?_) rfl (by kernel_rfl) (by kernel_rfl) (by kernel_rfl) (fun _ _ _ h => h) (Or.inl ⟨by rfl, ?_⟩) (by assumption) ?_
      rotate_left
      · (intro w hSw; (try dsimp only at hSw); go_simp; try with_reducible rfl)
      try simp only [List.getElem_toArray, List.getElem_cons_zero, List.getElem_cons_succ, Act.put, List.setIfInBounds_toArray, List.set_cons_zero, List.set_cons_succ]
      refine wpAnyH_take (i := 12) (v := undef) rfl (by kernel_rfl) (by kernel_rfl) (by kernel_rfl) (fun _ _ _ h => h) (Or.inr ⟨by rfl, rfl⟩) (by assumption) ?_
      try simp only [List.getElem_toArray, List.getElem_cons_zero, List.getElem_cons_succ, Act.put, List.setIfInBounds_toArray, List.set_cons_zero, List.set_cons_succ]
      refine wpAnyH_take (i := 13) (v := undef) rfl (by kernel_rfl) (by kernel_rfl) (by kernel_rfl) (fun _ _ _ h => h) (Or.inr ⟨by rfl, rfl⟩) (by assumption) ?_
      try simp only [List.getElem_toArray, List.getElem_cons_zero, List.getElem_cons_succ, Act.put, List.setIfInBounds_toArray, List.set_cons_zero, List.set_cons_succ]
      refine wpAnyH_take (i := 14) (v := ?_) rfl (by kernel_rfl) (by kernel_rfl) (by kernel_rfl) (fun _ _ _ h => h) (Or.inl ⟨by rfl, ?_⟩) (by assumption) ?_
      rotate_left
      · (intro w hSw; (try dsimp only at hSw); go_simp; try with_reducible rfl)
      try simp only [List.getElem_toArray, List.getElem_cons_zero, List.getElem_cons_succ, Act.put, List.setIfInBounds_toArray, List.set_cons_zero, List.set_cons_succ]
      refine wpAnyH_take (i := 15) (v := ?_) rfl (by kernel_rfl) (by kernel_rfl) (by kernel_rfl) (fun _ _ _ h => h) (Or.inl ⟨by rfl, ?_⟩) (by assumption) ?_
      rotate_left
      · (intro w hSw; (try dsimp only at hSw); go_simp; try with_reducible rfl)
      try simp only [List.getElem_toArray, List.getElem_cons_zero, List.getElem_cons_succ, Act.put, List.setIfInBounds_toArray, List.set_cons_zero, List.set_cons_succ]
      refine wpAnyH_take (i := 16) (v := undef) rfl (by kernel_rfl) (by kernel_rfl) (by kernel_rfl) (fun _ _ _ h => h) (Or.inr ⟨by rfl, rfl⟩) (by assumption) ?_
      try simp only [List.getElem_toArray, List.getElem_cons_zero, List.getElem_cons_succ, Act.put, List.setIfInBounds_toArray, List.set_cons_zero, List.set_cons_succ]
      refine wpAnyH_take (i := 17) (v := undef) rfl (by kernel_rfl) (by kernel_rfl) (by kernel_rfl) (fun _ _ _ h => h) (Or.inr ⟨by rfl, rfl⟩) (by assumption) ?_
      try simp only [List.getElem_toArray, List.getElem_cons_zero, List.getElem_cons_succ, Act.put, List.setIfInBounds_toArray, List.set_cons_zero, List.set_cons_succ]
      refine wpAnyH_take (i := 18) (v := undef) rfl (by kernel_rfl) (by kernel_rfl) (by kernel_rfl) (fun _ _ _ h => h) (Or.inr ⟨by rfl, rfl⟩) (by assumption) ?_
      try simp only [List.getElem_toArray, List.getElem_cons_zero, List.getElem_cons_succ, Act.put, List.setIfInBounds_toArray, List.set_cons_zero, List.set_cons_succ]
      refine wpAnyH_take (i := 19) (v := undef) rfl (by kernel_rfl) (by kernel_rfl) (by kernel_rfl) (fun _ _ _ h => h) (Or.inr ⟨by rfl, rfl⟩) (by assumption) ?_
      try simp only [List.getElem_toArray, List.getElem_cons_zero, List.getElem_cons_succ, Act.put, List.setIfInBounds_toArray, List.set_cons_zero, List.set_cons_succ]
      refine wpAnyH_take (i := 20) (v := ?_) rfl (by kernel_rfl) (by kernel_rfl) (by kernel_rfl) (fun _ _ _ h => h) (Or.inl ⟨by rfl, ?_⟩) (by assumption) ?_
      rotate_left
      · (intro w hSw; (try dsimp only at hSw); go_simp; try with_reducible rfl)
      try simp only [List.getElem_toArray, List.getElem_cons_zero, List.getElem_cons_succ, Act.put, List.setIfInBounds_toArray, List.set_cons_zero, List.set_cons_succ]
      refine wpAnyH_done (by kernel_rfl) ?_ _
      clear IS
      have x0 := X.out.out.at0
      have x1 := X.out.out.at1
      have y0 := Y.out.out.at0
      have y1 := Y.out.out.at1
      go_wp2_with fail
      refine wp_region_held_drew (S := fun w' => w'.cell? ⟨o, 0, none⟩ = some (.int .i64 N) ∧ w'.cell? ⟨o, 1, none⟩ = some (.slice a1 L c1) ∧ w'.cell? ⟨o2, 0, none⟩ = some (.int .i64 0) ∧ w'.cell? ⟨o2, 1, none⟩ = some (.slice a3 0 c3)) (by kernel_rfl) (by first | exact ⟨x0, x1, y0, y1⟩ | go_keep) (fun hHeld => ?_)
      refine wpAnyH_take (i := 0) (v := ?_) rfl (by kernel_rfl) (by kernel_rfl) (by kernel_rfl) (fun _ _ _ h => h) (Or.inl ⟨by rfl, ?_⟩) (by assumption) ?_
      rotate_left
      · (intro w hSw; (try dsimp only at hSw); go_simp; try with_reducible rfl)
      try simp only [List.getElem_toArray, List.getElem_cons_zero, Act.put, List.setIfInBounds_toArray, List.set_cons_zero, List.set_cons_succ]
      refine wpAnyH_take (i := 1) (v := ?_) rfl (by kernel_rfl) (by kernel_rfl) (by kernel_rfl) (fun _ _ _ h => h) (Or.inl ⟨by rfl, ?_⟩) (by assumption) ?_
      rotate_left
      · (intro w hSw; (try dsimp only at hSw); go_simp; try with_reducible rfl)
      try simp only [List.getElem_toArray, List.getElem_cons_zero, List.getElem_cons_succ, Act.put, List.setIfInBounds_toArray, List.set_cons_zero, List.set_cons_succ]
      refine wpAnyH_take (i := 2) (v := ?_) rfl (by kernel_rfl) (by kernel_rfl) (by kernel_rfl) (fun _ _ _ h => h) (Or.inl ⟨by rfl, ?_⟩) (by assumption) ?_
      rotate_left
      · (intro w hSw; (try dsimp only at hSw); go_simp; try with_reducible rfl)
      try simp only [List.getElem_toArray, List.getElem_cons_zero, List.getElem_cons_succ, Act.put, List.setIfInBounds_toArray, List.set_cons_zero, List.set_cons_succ]
      refine wpAnyH_ready (rs := [3]) (by kernel_rfl) (by simp) ?_
      refine AllReadyH.cons rfl (fun K hK => ?_) AllReadyH.nil
      try simp only [List.getElem_toArray]
      go_simp
      (go_at_call 31; refine (HS.out _ _ (by first | exact I1.out.rd | exact I1.out.rd.below (k := w7.heap.size) ((Below.refl _ _).drew) (Nat.le_refl _))).mono ?_; rintro e w8 ⟨a8, c8, rfl, hin8, hbd⟩; rw [show ([] : List Int).length = 0 from rfl] at hin8 ⊢; have hb8 : Below w7.heap.size w7 w8 := (by first | exact hbd | exact ⟨hbd.os, hbd.tape, hbd.output, hbd.size, hbd.block⟩); clear hbd; have hz8 := hb8.size; replace X := Lib.hid (X.out.next hb8 X.out.lt); replace Y := Lib.hid (Y.out.next hb8 Y.out.lt); replace I1 := Lib.hid (I1.out.below hb8 (Nat.le_refl _)); replace IG := Lib.hid (IG.out.below hb8 (Nat.le_refl _)); replace B := Lib.hid (B.out.trans (hb8.mono B.out.size)); have IS := Lib.hid (hin8.mono (Nat.zero_le _)); clear hin8; clear hb8; have x0_8 := X.out.out.at0; have x1_8 := X.out.out.at1; have y0_8 := Y.out.out.at0; have y1_8 := Y.out.out.at1)
      refine hK.out _ _ (by first | exact ⟨x0_8, x1_8, y0_8, y1_8⟩ | exact ⟨x0, x1, y0, y1⟩ | go_keep) (fun hHeld => ?_)
      clear hK K
      try simp only [List.getElem_toArray, List.getElem_cons_zero, List.getElem_cons_succ, Act.put, List.setIfInBounds_toArray, List.set_cons_zero, List.set_cons_succ]
      refine wpAnyH_ready (rs := [4]) (by kernel_rfl) (by simp) ?_
      refine AllReadyH.cons rfl (fun K hK => ?_) AllReadyH.nil
      try simp only [List.getElem_toArray]
      go_simp
      (go_at_call 30; refine (lawsEqualClass _ _ _ _ _ _ _ _ (by first | exact IG.out.rd | exact IG.out.rd.below (k := w8.heap.size) ((Below.refl _ _).drew) (Nat.le_refl _)) (by first | exact IS.out.rd | exact IS.out.rd.below (k := w8.heap.size) ((Below.refl _ _).drew) (Nat.le_refl _))).mono ?_; rintro e w9 ⟨rfl, hbd⟩; have hb9 : Below w8.heap.size w8 w9 := (by first | exact hbd | exact ⟨hbd.os, hbd.tape, hbd.output, hbd.size, hbd.block⟩); clear hbd; have hz9 := hb9.size; replace X := Lib.hid (X.out.next hb9 X.out.lt); replace Y := Lib.hid (Y.out.next hb9 Y.out.lt); replace I1 := Lib.hid (I1.out.below hb9 (Nat.le_refl _)); replace IG := Lib.hid (IG.out.below hb9 (Nat.le_refl _)); replace IS := Lib.hid (IS.out.below hb9 (Nat.le_refl _)); replace B := Lib.hid (B.out.trans (hb9.mono B.out.size)); clear hb9; have x0_9 := X.out.out.at0; have x1_9 := X.out.out.at1; have y0_9 := Y.out.out.at0; have y1_9 := Y.out.out.at1)
      refine hK.out _ _ (by first | exact ⟨x0_9, x1_9, y0_9, y1_9⟩ | exact ⟨x0_8, x1_8, y0_8, y1_8⟩ | exact ⟨x0, x1, y0, y1⟩ | go_keep) (fun hHeld => ?_)
      clear hK K
      try simp only [List.getElem_toArray, List.getElem_cons_zero, List.getElem_cons_succ, Act.put, List.setIfInBounds_toArray, List.set_cons_zero, List.set_cons_succ]
      refine wpAnyH_take (i := 5) (v := ?_) rfl (by kernel_rfl) (by kernel_rfl) (by kernel_rfl) (fun _ _ _ h => h) (Or.inl ⟨by rfl, ?_⟩) (by assumption) ?_
      rotate_left
      · (intro w hSw; (try dsimp only at hSw); go_simp; try with_reducible rfl)
      try simp only [List.getElem_toArray, List.getElem_cons_zero, List.getElem_cons_succ, Act.put, List.setIfInBounds_toArray, List.set_cons_zero, List.set_cons_succ]
      refine wpAnyH_done (by kernel_rfl) ?_ _
      go_wp2_with fail
      go_ret
      exact ⟨rfl, by first | exact B.out | exact B.out.drew⟩
  · go_enter Try.func5, Try.ntmps5
    go_wp2_with fail
    go_ret
    exact ⟨rfl, Below.refl _ _⟩

end Go.Proofs.Ytbjaacppomobeaa
