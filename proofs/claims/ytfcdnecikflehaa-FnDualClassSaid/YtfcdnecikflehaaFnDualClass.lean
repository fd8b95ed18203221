/- FnDualClass's walk: the dimension of the dual is less than two to the dimension and one more. Conditions: the code is a slice of bytes. -/
import Derived.Test.YtfcdnecikflehaaDrawsDu
import Derived.Test.YtfcdnecikflehaaDualS
import Derived.Test.YtfcdnecikflehaaLawHc
import Derived.Test.YtfcdnecikflehaaZC
import Derived.Test.YtfcdnecikflehaaZI
import Derived.Test.YtfcdnecikflehaaZJ
import Derived.Test.YtfcdnecikflehaaZK
namespace Go.Proofs.Ytfcdnecikflehaa
open Go.RowKit

theorem eqB_self (xs : List Int) : eqB xs xs = true := eqB_of rfl (fun _ _ => rfl)
theorem du_bad {n : Int} {zs : List Int} (h : ¬ (vldB n zs = true ∧ zs.length ≤ 5)) : duN n zs = 0 ∧ duL n zs = [] := by rw [duN, duL, if_neg h, if_neg h]; exact ⟨rfl, rfl⟩
theorem du_in {m : Nat} {ns : List Nat} (h : Cls m ns) (hl : ns.length ≤ 5) : duN m (toI ns) = ns.length ∧ duL m (toI ns) = toI (duaL m ns) := by
  have hv := cls_vldB h
  rw [duN, duL, if_pos ⟨hv, by rw [toI_length]; exact hl⟩, if_pos ⟨hv, by rw [toI_length]; exact hl⟩, toI_length, toNat_toI, Int.toNat_natCast, duaL]
  exact ⟨rfl, rfl⟩


set_option maxHeartbeats 6400000 in
set_option maxRecDepth 100000 in
theorem walkFnDualClass (a : Option Addr) (b off n cap : Nat) (w : World) (hc : n ≤ cap) (hcap : cap ≤ maxLen) (h : Byt w a b off n) :
    Calls Try.prog 3 #[.slice a n cap] w fun e w' => e = .returned (.bool true) ∧ Below w.heap.size w w' := by
  by_cases hn : n ≤ 1048576
  · have HD := Lib.hid (dDrawDualClass a b off n cap w hc hn hcap h)
    clear h
    go_enter Try.func3, Try.ntmps3
    go_wp2_with fail
    refine HD.out.mono ?_
    rintro e w1 ⟨N, zs, hbd, a1, c1, rfl, hin, hb⟩
    generalize hL : zs.length = L at *
    have X := Lib.hid (Bx.new N (.slice a1 L c1) w1)
    have I1 := Lib.hid ((hin.mono (Nat.zero_le _)).alloc (Obj.cells #[.int .i64 N, .slice a1 L c1] 25))
    have B := Lib.hid (hb.alloc hb.size (Obj.cells #[.int .i64 N, .slice a1 L c1] 25))
    have HZ2 := Lib.hid (show (w1.alloc (Obj.cells #[.int .i64 N, .slice a1 L c1] 25)).heap.size = w1.heap.size + 1 by simp)
    have hz1 := hb.size
    clear hin hb HD
    go_wp2_with fail
    generalize (w1.alloc (Obj.cells #[.int .i64 N, .slice a1 L c1] 25)) = w2 at *
    have hz2 := HZ2.out
    generalize ho : w1.heap.size = o at *
    obtain ⟨hN0, hN1, hL34⟩ := hbd
    by_cases hv : vldB N zs = true
    · obtain ⟨m, ns, rfl, rfl, hcl⟩ := vldB_cls hv
      have hL2 : ns.length = L := by rw [← hL, toI_length]
      have hm := hcl.pts
      have HI := Lib.hid (fun v w h => implDualClass (m : Int) v (toI ns) w h)
      have HS := Lib.hid (fun v w h => specDualClass (m : Int) v (toI ns) w h)
      have HV := Lib.hid (fun v w h => implValid (m : Int) v (toI ns) w h)
      rw [hv] at HV
      by_cases h5 : 5 < L
      · have hd1 : decide ((5 : Int) < (L : Int)) = true := decide_eq_true (by omega)
        have hp : ¬ (vldB (m : Int) (toI ns) = true ∧ (toI ns).length ≤ 5) := by omega
        rw [(du_bad hp).1, (du_bad hp).2] at HI HS
        clear hp hv hcl
        refine (HI.out _ _ I1.out.rd).mono ?_
        rintro e w3 ⟨a3, c3, rfl, hin3, hb3⟩
        rw [show ([] : List Int).length = 0 from rfl] at hin3 ⊢
        have hz3 := hb3.size
        replace X := Lib.hid (X.out.next hb3 X.out.lt)
        replace I1 := Lib.hid (I1.out.below hb3 (Nat.le_refl _))
        replace B := Lib.hid (B.out.trans (hb3.mono B.out.size))
        have IG := Lib.hid (hin3.mono (Nat.zero_le _))
        clear hin3 hb3
        have Y := Lib.hid (Bx.new 0 (.slice a3 0 c3) w3)
        replace X := Lib.hid (X.out.alloc (Obj.cells #[.int .i64 0, .slice a3 0 c3] 25))
        replace I1 := Lib.hid (I1.out.alloc (Obj.cells #[.int .i64 0, .slice a3 0 c3] 25))
        replace IG := Lib.hid (IG.out.alloc (Obj.cells #[.int .i64 0, .slice a3 0 c3] 25))
        replace B := Lib.hid (B.out.alloc B.out.size (Obj.cells #[.int .i64 0, .slice a3 0 c3] 25))
        have HZ := Lib.hid (show (w3.alloc (Obj.cells #[.int .i64 0, .slice a3 0 c3] 25)).heap.size = w3.heap.size + 1 by simp)
        go_wp2_with fail
        generalize (w3.alloc (Obj.cells #[.int .i64 0, .slice a3 0 c3] 25)) = w4 at *
        have hz4 := HZ.out
        clear HZ
        generalize ho2 : w3.heap.size = o2 at *
        have x0 := X.out.out.at0
        have x1 := X.out.out.at1
        have y0 := Y.out.out.at0
        have y1 := Y.out.out.at1
        go_wp2_with fail
        refine wp_region_held_drew (S := fun w' => w'.cell? ⟨o, 0, none⟩ = some (.int .i64 (m : Int)) ∧ w'.cell? ⟨o, 1, none⟩ = some (.slice a1 L c1) ∧ w'.cell? ⟨o2, 0, none⟩ = some (.int .i64 0) ∧ w'.cell? ⟨o2, 1, none⟩ = some (.slice a3 0 c3)) (by kernel_rfl) (by first | exact ⟨x0, x1, y0, y1⟩ | go_keep) (fun hHeld => ?_)
        refine wpAnyH_take (i := 0) (v := ?_) rfl (by kernel_rfl) (by kernel_rfl) (by kernel_rfl) (fun _ _ _ h => h) (Or.inl ⟨by rfl, ?_⟩) (by assumption) ?_
        rotate_left
        · (intro w hSw; (try dsimp only at hSw); go_simp; try with_reducible rfl)
        try simp only [List.getElem_toArray, List.getElem_cons_zero, Act.put, List.setIfInBounds_toArray, List.set_cons_zero, List.set_cons_succ]
        refine wpAnyH_take (i := 1) (v := ?_) rfl (by kernel_rfl) (by kernel_rfl) (by kernel_rfl) (fun _ _ _ h => h) (Or.inl ⟨by rfl, ?_⟩) (by assumption) ?_
        rotate_left
        · (intro w hSw; (try dsimp only at hSw); go_simp; try with_reducible rfl)
        try simp only [List.getElem_toArray, List.getElem_cons_zero, List.getElem_cons_succ, Act.put, List.setIfInBounds_toArray, List.set_cons_zero, List.set_cons_succ]
        refine wpAnyH_ready (rs := [2]) (by kernel_rfl) (by simp) ?_
        refine AllReadyH.cons rfl (fun K hK => ?_) AllReadyH.nil
        try simp only [List.getElem_toArray]
        go_simp
        (go_at_call 9; refine (HS.out _ _ (by first | exact I1.out.rd | exact I1.out.rd.below (k := w4.heap.size) ((Below.refl _ _).drew) (Nat.le_refl _))).mono ?_; rintro e w5 ⟨a5, c5, rfl, hin5, hbd⟩; rw [show ([] : List Int).length = 0 from rfl] at hin5 ⊢; have hb5 : Below w4.heap.size w4 w5 := (by first | exact hbd | exact ⟨hbd.os, hbd.tape, hbd.output, hbd.size, hbd.block⟩); clear hbd; have hz5 := hb5.size; replace X := Lib.hid (X.out.next hb5 X.out.lt); replace Y := Lib.hid (Y.out.next hb5 Y.out.lt); replace I1 := Lib.hid (I1.out.below hb5 (Nat.le_refl _)); replace IG := Lib.hid (IG.out.below hb5 (Nat.le_refl _)); replace B := Lib.hid (B.out.trans (hb5.mono B.out.size)); have IS := Lib.hid (hin5.mono (Nat.zero_le _)); clear hin5; clear hb5; have x0_5 := X.out.out.at0; have x1_5 := X.out.out.at1; have y0_5 := Y.out.out.at0; have y1_5 := Y.out.out.at1)
        refine hK.out _ _ (by first | exact ⟨x0_5, x1_5, y0_5, y1_5⟩ | exact ⟨x0, x1, y0, y1⟩ | go_keep) (fun hHeld => ?_)
        clear hK K
        try simp only [List.getElem_toArray, List.getElem_cons_zero, List.getElem_cons_succ, Act.put, List.setIfInBounds_toArray, List.set_cons_zero, List.set_cons_succ]
        refine wpAnyH_ready (rs := [3]) (by kernel_rfl) (by simp) ?_
        refine AllReadyH.cons rfl (fun K hK => ?_) AllReadyH.nil
        try simp only [List.getElem_toArray]
        go_simp
        (go_at_call 8; refine (lawsEqualClass _ _ _ _ _ _ _ _ (by first | exact IG.out.rd | exact IG.out.rd.below (k := w5.heap.size) ((Below.refl _ _).drew) (Nat.le_refl _)) (by first | exact IS.out.rd | exact IS.out.rd.below (k := w5.heap.size) ((Below.refl _ _).drew) (Nat.le_refl _))).mono ?_; rintro e w6 ⟨rfl, hbd⟩; have hb6 : Below w5.heap.size w5 w6 := (by first | exact hbd | exact ⟨hbd.os, hbd.tape, hbd.output, hbd.size, hbd.block⟩); clear hbd; have hz6 := hb6.size; replace X := Lib.hid (X.out.next hb6 X.out.lt); replace Y := Lib.hid (Y.out.next hb6 Y.out.lt); replace I1 := Lib.hid (I1.out.below hb6 (Nat.le_refl _)); replace IG := Lib.hid (IG.out.below hb6 (Nat.le_refl _)); replace IS := Lib.hid (IS.out.below hb6 (Nat.le_refl _)); replace B := Lib.hid (B.out.trans (hb6.mono B.out.size)); clear hb6; have x0_6 := X.out.out.at0; have x1_6 := X.out.out.at1; have y0_6 := Y.out.out.at0; have y1_6 := Y.out.out.at1)
        refine hK.out _ _ (by first | exact ⟨x0_6, x1_6, y0_6, y1_6⟩ | exact ⟨x0_5, x1_5, y0_5, y1_5⟩ | exact ⟨x0, x1, y0, y1⟩ | go_keep) (fun hHeld => ?_)
        clear hK K
        try simp only [List.getElem_toArray, List.getElem_cons_zero, List.getElem_cons_succ, Act.put, List.setIfInBounds_toArray, List.set_cons_zero, List.set_cons_succ]
        refine wpAnyH_take (i := 4) (v := ?_) rfl (by kernel_rfl) (by kernel_rfl) (by kernel_rfl) (fun _ _ _ h => h) (Or.inl ⟨by rfl, ?_⟩) (by assumption) ?_
        rotate_left
        · (intro w hSw; (try dsimp only at hSw); go_simp; try with_reducible rfl)
        try simp only [List.getElem_toArray, List.getElem_cons_zero, List.getElem_cons_succ, Act.put, List.setIfInBounds_toArray, List.set_cons_zero, List.set_cons_succ]
        refine wpAnyH_take (i := 5) (v := ?_) rfl (by kernel_rfl) (by kernel_rfl) (by kernel_rfl) (fun _ _ _ h => h) (Or.inl ⟨by rfl, ?_⟩) (by assumption) ?_
        rotate_left
        · (intro w hSw; (try dsimp only at hSw); go_simp; try with_reducible rfl)
        try simp only [List.getElem_toArray, List.getElem_cons_zero, List.getElem_cons_succ, Act.put, List.setIfInBounds_toArray, List.set_cons_zero, List.set_cons_succ]
        refine wpAnyH_take (i := 6) (v := ?_) rfl (by kernel_rfl) (by kernel_rfl) (by kernel_rfl) (fun _ _ _ h => h) (Or.inl ⟨by rfl, ?_⟩) (by assumption) ?_
        rotate_left
        · (intro w hSw; (try dsimp only at hSw); go_simp; try with_reducible rfl)
        try simp only [List.getElem_toArray, List.getElem_cons_zero, List.getElem_cons_succ, Act.put, List.setIfInBounds_toArray, List.set_cons_zero, List.set_cons_succ]
        refine wpAnyH_ready (rs := [7]) (by kernel_rfl) (by simp) ?_
        refine AllReadyH.cons rfl (fun K hK => ?_) AllReadyH.nil
        try simp only [List.getElem_toArray]
        go_simp
        (go_at_call 10; refine (HV.out _ _ (by first | exact I1.out.rd | exact I1.out.rd.below (k := w6.heap.size) ((Below.refl _ _).drew) (Nat.le_refl _))).mono ?_; rintro e w7 ⟨rfl, hbd⟩; have hb7 : Below w6.heap.size w6 w7 := (by first | exact hbd | exact ⟨hbd.os, hbd.tape, hbd.output, hbd.size, hbd.block⟩); clear hbd; have hz7 := hb7.size; replace X := Lib.hid (X.out.next hb7 X.out.lt); replace Y := Lib.hid (Y.out.next hb7 Y.out.lt); replace I1 := Lib.hid (I1.out.below hb7 (Nat.le_refl _)); replace IG := Lib.hid (IG.out.below hb7 (Nat.le_refl _)); replace IS := Lib.hid (IS.out.below hb7 (Nat.le_refl _)); replace B := Lib.hid (B.out.trans (hb7.mono B.out.size)); clear hb7; have x0_7 := X.out.out.at0; have x1_7 := X.out.out.at1; have y0_7 := Y.out.out.at0; have y1_7 := Y.out.out.at1)
        refine hK.out _ _ (by first | exact ⟨x0_7, x1_7, y0_7, y1_7⟩ | exact ⟨x0_6, x1_6, y0_6, y1_6⟩ | exact ⟨x0_5, x1_5, y0_5, y1_5⟩ | exact ⟨x0, x1, y0, y1⟩ | go_keep) (fun hHeld => ?_)
        clear hK K
        try simp only [List.getElem_toArray, List.getElem_cons_zero, List.getElem_cons_succ, Act.put, List.setIfInBounds_toArray, List.set_cons_zero, List.set_cons_succ]
        refine wpAnyH_take (i := 8) (v := ?_) rfl (by kernel_rfl) (by kernel_rfl) (by kernel_rfl) (fun _ _ _ h => h) (Or.inl ⟨by rfl, ?_⟩) (by assumption) ?_
        rotate_left
        · (intro w hSw; (try dsimp only at hSw); go_simp; try with_reducible rfl)
        try simp only [List.getElem_toArray, List.getElem_cons_zero, List.getElem_cons_succ, Act.put, List.setIfInBounds_toArray, List.set_cons_zero, List.set_cons_succ]
        refine wpAnyH_take (i := 9) (v := ?_) rfl (by kernel_rfl) (by kernel_rfl) (by kernel_rfl) (fun _ _ _ h => h) (Or.inl ⟨by rfl, ?_⟩) (by assumption) ?_
        rotate_left
        · (intro w hSw; (try dsimp only at hSw); go_simp; try with_reducible rfl)
        try simp only [List.getElem_toArray, List.getElem_cons_zero, List.getElem_cons_succ, Act.put, List.setIfInBounds_toArray, List.set_cons_zero, List.set_cons_succ]
        refine wpAnyH_take (i := 10) (v := ?_) rfl (by kernel_rfl) (by kernel_rfl) (by kernel_rfl) (fun _ _ _ h => h) (Or.inl ⟨by rfl, ?_⟩) (by assumption) ?_
        rotate_left
        · (intro w hSw; (try dsimp only at hSw); go_simp; try with_reducible rfl)
        try simp only [List.getElem_toArray, List.getElem_cons_zero, List.getElem_cons_succ, Act.put, List.setIfInBounds_toArray, List.set_cons_zero, List.set_cons_succ]
        refine wpAnyH_take (i := 11) (v := ?_) rfl (by kernel_rfl) (by kernel_rfl) (by kernel_rfl) (fun _ _ _ h => h) (Or.inl ⟨by rfl, ?_⟩) (by assumption) ?_
        rotate_left
        · (intro w hSw; (try dsimp only at hSw); go_simp; try with_reducible rfl)
        try simp only [List.getElem_toArray, List.getElem_cons_zero, List.getElem_cons_succ, Act.put, List.setIfInBounds_toArray, List.set_cons_zero, List.set_cons_succ]
        refine wpAnyH_take (i := 12) (v := ?_) rfl (by kernel_rfl) (by kernel_rfl) (by kernel_rfl) (fun _ _ _ h => h) (Or.inl ⟨by rfl, ?_⟩) (by assumption) ?_
        rotate_left
        · (intro w hSw; (try dsimp only at hSw); go_simp; try with_reducible rfl)
        try simp only [List.getElem_toArray, List.getElem_cons_zero, List.getElem_cons_succ, Act.put, List.setIfInBounds_toArray, List.set_cons_zero, List.set_cons_succ]
        refine wpAnyH_take (i := 13) (v := ?_) rfl (by kernel_rfl) (by kernel_rfl) (by kernel_rfl) (fun _ _ _ h => h) (Or.inl ⟨by rfl, ?_⟩) (by assumption) ?_
        rotate_left
        · (intro w hSw; (try dsimp only at hSw); go_simp; try with_reducible rfl)
        try simp only [List.getElem_toArray, List.getElem_cons_zero, List.getElem_cons_succ, Act.put, List.setIfInBounds_toArray, List.set_cons_zero, List.set_cons_succ]
        refine wpAnyH_take (i := 14) (v := ?_) rfl (by kernel_rfl) (by kernel_rfl) (by kernel_rfl) (fun _ _ _ h => h) (Or.inl ⟨by rfl, ?_⟩) (by assumption) ?_
        rotate_left
        · (intro w hSw; (try dsimp only at hSw); go_simp; try with_reducible rfl)
        try simp only [List.getElem_toArray, List.getElem_cons_zero, List.getElem_cons_succ, Act.put, List.setIfInBounds_toArray, List.set_cons_zero, List.set_cons_succ]
        refine wpAnyH_take (i := 15) (v := ?_) rfl (by kernel_rfl) (by kernel_rfl) (by kernel_rfl) (fun _ _ _ h => h) (Or.inl ⟨by rfl, ?_⟩) (by assumption) ?_
        rotate_left
        · (intro w hSw; (try dsimp only at hSw); go_simp; try with_reducible rfl)
        try simp only [List.getElem_toArray, List.getElem_cons_zero, List.getElem_cons_succ, Act.put, List.setIfInBounds_toArray, List.set_cons_zero, List.set_cons_succ]
        refine wpAnyH_done (by kernel_rfl) ?_ _
        clear IS
        have x0 := X.out.out.at0
        have x1 := X.out.out.at1
        have y0 := Y.out.out.at0
        have y1 := Y.out.out.at1
        go_wp2_with fail
        refine wp_region_held_drew (S := fun w' => w'.cell? ⟨o, 0, none⟩ = some (.int .i64 (m : Int)) ∧ w'.cell? ⟨o, 1, none⟩ = some (.slice a1 L c1) ∧ w'.cell? ⟨o2, 0, none⟩ = some (.int .i64 0) ∧ w'.cell? ⟨o2, 1, none⟩ = some (.slice a3 0 c3)) (by kernel_rfl) (by first | exact ⟨x0, x1, y0, y1⟩ | go_keep) (fun hHeld => ?_)
        refine wpAnyH_take (i := 0) (v := ?_) rfl (by kernel_rfl) (by kernel_rfl) (by kernel_rfl) (fun _ _ _ h => h) (Or.inl ⟨by rfl, ?_⟩) (by assumption) ?_
        rotate_left
        · (intro w hSw; (try dsimp only at hSw); go_simp; try with_reducible rfl)
        try simp only [List.getElem_toArray, List.getElem_cons_zero, Act.put, List.setIfInBounds_toArray, List.set_cons_zero, List.set_cons_succ]
        refine wpAnyH_take (i := 1) (v := ?_) rfl (by kernel_rfl) (by kernel_rfl) (by kernel_rfl) (fun _ _ _ h => h) (Or.inl ⟨by rfl, ?_⟩) (by assumption) ?_
        rotate_left
        · (intro w hSw; (try dsimp only at hSw); go_simp; try with_reducible rfl)
        try simp only [List.getElem_toArray, List.getElem_cons_zero, List.getElem_cons_succ, Act.put, List.setIfInBounds_toArray, List.set_cons_zero, List.set_cons_succ]
        refine wpAnyH_ready (rs := [2]) (by kernel_rfl) (by simp) ?_
        refine AllReadyH.cons rfl (fun K hK => ?_) AllReadyH.nil
        try simp only [List.getElem_toArray]
        go_simp
        (go_at_call 9; refine (HS.out _ _ (by first | exact I1.out.rd | exact I1.out.rd.below (k := w7.heap.size) ((Below.refl _ _).drew) (Nat.le_refl _))).mono ?_; rintro e w8 ⟨a8, c8, rfl, hin8, hbd⟩; rw [show ([] : List Int).length = 0 from rfl] at hin8 ⊢; have hb8 : Below w7.heap.size w7 w8 := (by first | exact hbd | exact ⟨hbd.os, hbd.tape, hbd.output, hbd.size, hbd.block⟩); clear hbd; have hz8 := hb8.size; replace X := Lib.hid (X.out.next hb8 X.out.lt); replace Y := Lib.hid (Y.out.next hb8 Y.out.lt); replace I1 := Lib.hid (I1.out.below hb8 (Nat.le_refl _)); replace IG := Lib.hid (IG.out.below hb8 (Nat.le_refl _)); replace B := Lib.hid (B.out.trans (hb8.mono B.out.size)); have IS := Lib.hid (hin8.mono (Nat.zero_le _)); clear hin8; clear hb8; have x0_8 := X.out.out.at0; have x1_8 := X.out.out.at1; have y0_8 := Y.out.out.at0; have y1_8 := Y.out.out.at1)
        refine hK.out _ _ (by first | exact ⟨x0_8, x1_8, y0_8, y1_8⟩ | exact ⟨x0, x1, y0, y1⟩ | go_keep) (fun hHeld => ?_)
        clear hK K
        try simp only [List.getElem_toArray, List.getElem_cons_zero, List.getElem_cons_succ, Act.put, List.setIfInBounds_toArray, List.set_cons_zero, List.set_cons_succ]
        refine wpAnyH_ready (rs := [3]) (by kernel_rfl) (by simp) ?_
        refine AllReadyH.cons rfl (fun K hK => ?_) AllReadyH.nil
        try simp only [List.getElem_toArray]
        go_simp
        (go_at_call 8; refine (lawsEqualClass _ _ _ _ _ _ _ _ (by first | exact IG.out.rd | exact IG.out.rd.below (k := w8.heap.size) ((Below.refl _ _).drew) (Nat.le_refl _)) (by first | exact IS.out.rd | exact IS.out.rd.below (k := w8.heap.size) ((Below.refl _ _).drew) (Nat.le_refl _))).mono ?_; rintro e w9 ⟨rfl, hbd⟩; have hb9 : Below w8.heap.size w8 w9 := (by first | exact hbd | exact ⟨hbd.os, hbd.tape, hbd.output, hbd.size, hbd.block⟩); clear hbd; have hz9 := hb9.size; replace X := Lib.hid (X.out.next hb9 X.out.lt); replace Y := Lib.hid (Y.out.next hb9 Y.out.lt); replace I1 := Lib.hid (I1.out.below hb9 (Nat.le_refl _)); replace IG := Lib.hid (IG.out.below hb9 (Nat.le_refl _)); replace IS := Lib.hid (IS.out.below hb9 (Nat.le_refl _)); replace B := Lib.hid (B.out.trans (hb9.mono B.out.size)); clear hb9; have x0_9 := X.out.out.at0; have x1_9 := X.out.out.at1; have y0_9 := Y.out.out.at0; have y1_9 := Y.out.out.at1)
        refine hK.out _ _ (by first | exact ⟨x0_9, x1_9, y0_9, y1_9⟩ | exact ⟨x0_8, x1_8, y0_8, y1_8⟩ | exact ⟨x0, x1, y0, y1⟩ | go_keep) (fun hHeld => ?_)
        clear hK K
        try simp only [List.getElem_toArray, List.getElem_cons_zero, List.getElem_cons_succ, Act.put, List.setIfInBounds_toArray, List.set_cons_zero, List.set_cons_succ]
        refine wpAnyH_take (i := 4) (v := ?_) rfl (by kernel_rfl) (by kernel_rfl) (by kernel_rfl) (fun _ _ _ h => h) (Or.inl ⟨by rfl, ?_⟩) (by assumption) ?_
        rotate_left
        · (intro w hSw; (try dsimp only at hSw); go_simp; try with_reducible rfl)
        try simp only [List.getElem_toArray, List.getElem_cons_zero, List.getElem_cons_succ, Act.put, List.setIfInBounds_toArray, List.set_cons_zero, List.set_cons_succ]
        refine wpAnyH_done (by kernel_rfl) ?_ _
        go_wp2_with fail
        go_ret
        exact ⟨rfl, by first | exact B.out | exact B.out.drew⟩
      · have hd1 : decide ((5 : Int) < (L : Int)) = false := decide_eq_false (by omega)
        have h5l : ns.length ≤ 5 := by omega
        obtain ⟨G, hG⟩ : ∃ G, G = duaL m ns := ⟨_, rfl⟩
        obtain ⟨eN, eL⟩ := du_in hcl h5l
        rw [← hG] at eL
        rw [hL2] at eN
        have hcG : Cls L G := by rw [hG, ← hL2]; exact duaL_cls h5l
        have hGm : G.length ≤ m := by rw [hG]; exact duaL_len
        have hvc := dual_vc hcl h5l
        rw [← hG, hL2] at hvc
        have hvG := cls_vldB hcG
        have hbN := vcL_bd m ns
        have HVG := Lib.hid (fun v w h => implVCDimension (L : Int) v (toI G) w h)
        have HVN := Lib.hid (fun v w h => implVCDimension (m : Int) v (toI ns) w h)
        rw [vcB_in hvG] at HVG
        rw [vcB_in hv] at HVN
        rw [eN, eL] at HI HS
        obtain ⟨GL, hGL⟩ : ∃ GL, GL = G.length := ⟨_, rfl⟩
        have HGl := Lib.hid (show (toI G).length = GL by rw [toI_length, hGL])
        have hd3 : decide (GL ≤ m) = true := decide_eq_true (by omega)
        generalize vcL L G = VG at *
        generalize vcL m ns = VN at *
        have HPW := Lib.hid (fun w => lawsPower (VN + 1) w (by omega) (by omega))
        obtain ⟨Q, hQ⟩ : ∃ Q, Q = (2 : Int) ^ (VN + 1).toNat := ⟨_, rfl⟩
        rw [← hQ] at hvc HPW
        have hd2 : decide (VG < Q) = true := decide_eq_true hvc
        have hwV : IntKind.i64.wrap (VN + 1) = VN + 1 := by rw [IntKind.wrap_i64]; omega
        clear hvc hQ eN eL hcG hG hvG hv hcl hGL hGm
        refine (HI.out _ _ I1.out.rd).mono ?_
        rintro e w3 ⟨a3, c3, rfl, hin3, hb3⟩
        rw [HGl.out] at hin3 ⊢
        have hz3 := hb3.size
        replace X := Lib.hid (X.out.next hb3 X.out.lt)
        replace I1 := Lib.hid (I1.out.below hb3 (Nat.le_refl _))
        replace B := Lib.hid (B.out.trans (hb3.mono B.out.size))
        have IG := Lib.hid (hin3.mono (Nat.zero_le _))
        clear hin3 hb3
        have Y := Lib.hid (Bx.new (L : Int) (.slice a3 GL c3) w3)
        replace X := Lib.hid (X.out.alloc (Obj.cells #[.int .i64 (L : Int), .slice a3 GL c3] 25))
        replace I1 := Lib.hid (I1.out.alloc (Obj.cells #[.int .i64 (L : Int), .slice a3 GL c3] 25))
        replace IG := Lib.hid (IG.out.alloc (Obj.cells #[.int .i64 (L : Int), .slice a3 GL c3] 25))
        replace B := Lib.hid (B.out.alloc B.out.size (Obj.cells #[.int .i64 (L : Int), .slice a3 GL c3] 25))
        have HZ := Lib.hid (show (w3.alloc (Obj.cells #[.int .i64 (L : Int), .slice a3 GL c3] 25)).heap.size = w3.heap.size + 1 by simp)
        go_wp2_with fail
        generalize (w3.alloc (Obj.cells #[.int .i64 (L : Int), .slice a3 GL c3] 25)) = w4 at *
        have hz4 := HZ.out
        clear HZ
        generalize ho2 : w3.heap.size = o2 at *
        have x0 := X.out.out.at0
        have x1 := X.out.out.at1
        have y0 := Y.out.out.at0
        have y1 := Y.out.out.at1
        go_wp2_with fail
        refine wp_region_held_drew (S := fun w' => w'.cell? ⟨o, 0, none⟩ = some (.int .i64 (m : Int)) ∧ w'.cell? ⟨o, 1, none⟩ = some (.slice a1 L c1) ∧ w'.cell? ⟨o2, 0, none⟩ = some (.int .i64 (L : Int)) ∧ w'.cell? ⟨o2, 1, none⟩ = some (.slice a3 GL c3)) (by kernel_rfl) (by first | exact ⟨x0, x1, y0, y1⟩ | go_keep) (fun hHeld => ?_)
        refine wpAnyH_take (i := 0) (v := ?_) rfl (by kernel_rfl) (by kernel_rfl) (by kernel_rfl) (fun _ _ _ h => h) (Or.inl ⟨by rfl, ?_⟩) (by assumption) ?_
        rotate_left
        · (intro w hSw; (try dsimp only at hSw); go_simp; try with_reducible rfl)
        try simp only [List.getElem_toArray, List.getElem_cons_zero, Act.put, List.setIfInBounds_toArray, List.set_cons_zero, List.set_cons_succ]
        refine wpAnyH_take (i := 1) (v := ?_) rfl (by kernel_rfl) (by kernel_rfl) (by kernel_rfl) (fun _ _ _ h => h) (Or.inl ⟨by rfl, ?_⟩) (by assumption) ?_
        rotate_left
        · (intro w hSw; (try dsimp only at hSw); go_simp; try with_reducible rfl)
        try simp only [List.getElem_toArray, List.getElem_cons_zero, List.getElem_cons_succ, Act.put, List.setIfInBounds_toArray, List.set_cons_zero, List.set_cons_succ]
        refine wpAnyH_ready (rs := [2]) (by kernel_rfl) (by simp) ?_
        refine AllReadyH.cons rfl (fun K hK => ?_) AllReadyH.nil
        try simp only [List.getElem_toArray]
        go_simp
        (go_at_call 9; refine (HS.out _ _ (by first | exact I1.out.rd | exact I1.out.rd.below (k := w4.heap.size) ((Below.refl _ _).drew) (Nat.le_refl _))).mono ?_; rintro e w5 ⟨a5, c5, rfl, hin5, hbd⟩; rw [HGl.out] at hin5 ⊢; have hb5 : Below w4.heap.size w4 w5 := (by first | exact hbd | exact ⟨hbd.os, hbd.tape, hbd.output, hbd.size, hbd.block⟩); clear hbd; have hz5 := hb5.size; replace X := Lib.hid (X.out.next hb5 X.out.lt); replace Y := Lib.hid (Y.out.next hb5 Y.out.lt); replace I1 := Lib.hid (I1.out.below hb5 (Nat.le_refl _)); replace IG := Lib.hid (IG.out.below hb5 (Nat.le_refl _)); replace B := Lib.hid (B.out.trans (hb5.mono B.out.size)); have IS := Lib.hid (hin5.mono (Nat.zero_le _)); clear hin5; clear hb5; have x0_5 := X.out.out.at0; have x1_5 := X.out.out.at1; have y0_5 := Y.out.out.at0; have y1_5 := Y.out.out.at1)
        refine hK.out _ _ (by first | exact ⟨x0_5, x1_5, y0_5, y1_5⟩ | exact ⟨x0, x1, y0, y1⟩ | go_keep) (fun hHeld => ?_)
        clear hK K
        try simp only [List.getElem_toArray, List.getElem_cons_zero, List.getElem_cons_succ, Act.put, List.setIfInBounds_toArray, List.set_cons_zero, List.set_cons_succ]
        refine wpAnyH_ready (rs := [3]) (by kernel_rfl) (by simp) ?_
        refine AllReadyH.cons rfl (fun K hK => ?_) AllReadyH.nil
        try simp only [List.getElem_toArray]
        go_simp
        (go_at_call 8; refine (lawsEqualClass _ _ _ _ _ _ _ _ (by first | exact IG.out.rd | exact IG.out.rd.below (k := w5.heap.size) ((Below.refl _ _).drew) (Nat.le_refl _)) (by first | exact IS.out.rd | exact IS.out.rd.below (k := w5.heap.size) ((Below.refl _ _).drew) (Nat.le_refl _))).mono ?_; rintro e w6 ⟨rfl, hbd⟩; have hb6 : Below w5.heap.size w5 w6 := (by first | exact hbd | exact ⟨hbd.os, hbd.tape, hbd.output, hbd.size, hbd.block⟩); clear hbd; have hz6 := hb6.size; replace X := Lib.hid (X.out.next hb6 X.out.lt); replace Y := Lib.hid (Y.out.next hb6 Y.out.lt); replace I1 := Lib.hid (I1.out.below hb6 (Nat.le_refl _)); replace IG := Lib.hid (IG.out.below hb6 (Nat.le_refl _)); replace IS := Lib.hid (IS.out.below hb6 (Nat.le_refl _)); replace B := Lib.hid (B.out.trans (hb6.mono B.out.size)); clear hb6; have x0_6 := X.out.out.at0; have x1_6 := X.out.out.at1; have y0_6 := Y.out.out.at0; have y1_6 := Y.out.out.at1)
        refine hK.out _ _ (by first | exact ⟨x0_6, x1_6, y0_6, y1_6⟩ | exact ⟨x0_5, x1_5, y0_5, y1_5⟩ | exact ⟨x0, x1, y0, y1⟩ | go_keep) (fun hHeld => ?_)
        clear hK K
        try simp only [List.getElem_toArray, List.getElem_cons_zero, List.getElem_cons_succ, Act.put, List.setIfInBounds_toArray, List.set_cons_zero, List.set_cons_succ]
        refine wpAnyH_take (i := 4) (v := ?_) rfl (by kernel_rfl) (by kernel_rfl) (by kernel_rfl) (fun _ _ _ h => h) (Or.inl ⟨by rfl, ?_⟩) (by assumption) ?_
        rotate_left
        · (intro w hSw; (try dsimp only at hSw); go_simp; try with_reducible rfl)
        try simp only [List.getElem_toArray, List.getElem_cons_zero, List.getElem_cons_succ, Act.put, List.setIfInBounds_toArray, List.set_cons_zero, List.set_cons_succ]
        refine wpAnyH_take (i := 5) (v := ?_) rfl (by kernel_rfl) (by kernel_rfl) (by kernel_rfl) (fun _ _ _ h => h) (Or.inl ⟨by rfl, ?_⟩) (by assumption) ?_
        rotate_left
        · (intro w hSw; (try dsimp only at hSw); go_simp; try with_reducible rfl)
        try simp only [List.getElem_toArray, List.getElem_cons_zero, List.getElem_cons_succ, Act.put, List.setIfInBounds_toArray, List.set_cons_zero, List.set_cons_succ]
        refine wpAnyH_take (i := 6) (v := ?_) rfl (by kernel_rfl) (by kernel_rfl) (by kernel_rfl) (fun _ _ _ h => h) (Or.inl ⟨by rfl, ?_⟩) (by assumption) ?_
        rotate_left
        · (intro w hSw; (try dsimp only at hSw); go_simp; try with_reducible rfl)
        try simp only [List.getElem_toArray, List.getElem_cons_zero, List.getElem_cons_succ, Act.put, List.setIfInBounds_toArray, List.set_cons_zero, List.set_cons_succ]
        refine wpAnyH_ready (rs := [7]) (by kernel_rfl) (by simp) ?_
        refine AllReadyH.cons rfl (fun K hK => ?_) AllReadyH.nil
        try simp only [List.getElem_toArray]
        go_simp
        (go_at_call 10; refine (HV.out _ _ (by first | exact I1.out.rd | exact I1.out.rd.below (k := w6.heap.size) ((Below.refl _ _).drew) (Nat.le_refl _))).mono ?_; rintro e w7 ⟨rfl, hbd⟩; have hb7 : Below w6.heap.size w6 w7 := (by first | exact hbd | exact ⟨hbd.os, hbd.tape, hbd.output, hbd.size, hbd.block⟩); clear hbd; have hz7 := hb7.size; replace X := Lib.hid (X.out.next hb7 X.out.lt); replace Y := Lib.hid (Y.out.next hb7 Y.out.lt); replace I1 := Lib.hid (I1.out.below hb7 (Nat.le_refl _)); replace IG := Lib.hid (IG.out.below hb7 (Nat.le_refl _)); replace IS := Lib.hid (IS.out.below hb7 (Nat.le_refl _)); replace B := Lib.hid (B.out.trans (hb7.mono B.out.size)); clear hb7; have x0_7 := X.out.out.at0; have x1_7 := X.out.out.at1; have y0_7 := Y.out.out.at0; have y1_7 := Y.out.out.at1)
        refine hK.out _ _ (by first | exact ⟨x0_7, x1_7, y0_7, y1_7⟩ | exact ⟨x0_6, x1_6, y0_6, y1_6⟩ | exact ⟨x0_5, x1_5, y0_5, y1_5⟩ | exact ⟨x0, x1, y0, y1⟩ | go_keep) (fun hHeld => ?_)
        clear hK K
        try simp only [List.getElem_toArray, List.getElem_cons_zero, List.getElem_cons_succ, Act.put, List.setIfInBounds_toArray, List.set_cons_zero, List.set_cons_succ]
        refine wpAnyH_take (i := 8) (v := ?_) rfl (by kernel_rfl) (by kernel_rfl) (by kernel_rfl) (fun _ _ _ h => h) (Or.inl ⟨by rfl, ?_⟩) (by assumption) ?_
        rotate_left
        · (intro w hSw; (try dsimp only at hSw); go_simp; try with_reducible rfl)
        try simp only [List.getElem_toArray, List.getElem_cons_zero, List.getElem_cons_succ, Act.put, List.setIfInBounds_toArray, List.set_cons_zero, List.set_cons_succ]
        refine wpAnyH_take (i := 9) (v := ?_) rfl (by kernel_rfl) (by kernel_rfl) (by kernel_rfl) (fun _ _ _ h => h) (Or.inl ⟨by rfl, ?_⟩) (by assumption) ?_
        rotate_left
        · (intro w hSw; (try dsimp only at hSw); go_simp; try with_reducible rfl)
        try simp only [List.getElem_toArray, List.getElem_cons_zero, List.getElem_cons_succ, Act.put, List.setIfInBounds_toArray, List.set_cons_zero, List.set_cons_succ]
        refine wpAnyH_take (i := 10) (v := ?_) rfl (by kernel_rfl) (by kernel_rfl) (by kernel_rfl) (fun _ _ _ h => h) (Or.inl ⟨by rfl, ?_⟩) (by assumption) ?_
        rotate_left
        · (intro w hSw; (try dsimp only at hSw); go_simp; try with_reducible rfl)
        try simp only [List.getElem_toArray, List.getElem_cons_zero, List.getElem_cons_succ, Act.put, List.setIfInBounds_toArray, List.set_cons_zero, List.set_cons_succ]
        refine wpAnyH_take (i := 11) (v := ?_) rfl (by kernel_rfl) (by kernel_rfl) (by kernel_rfl) (fun _ _ _ h => h) (Or.inl ⟨by rfl, ?_⟩) (by assumption) ?_
        rotate_left
        · (intro w hSw; (try dsimp only at hSw); go_simp; try with_reducible rfl)
        try simp only [List.getElem_toArray, List.getElem_cons_zero, List.getElem_cons_succ, Act.put, List.setIfInBounds_toArray, List.set_cons_zero, List.set_cons_succ]
        refine wpAnyH_take (i := 12) (v := ?_) rfl (by kernel_rfl) (by kernel_rfl) (by kernel_rfl) (fun _ _ _ h => h) (Or.inl ⟨by rfl, ?_⟩) (by assumption) ?_
        rotate_left
        · (intro w hSw; (try dsimp only at hSw); go_simp; try with_reducible rfl)
        try simp only [List.getElem_toArray, List.getElem_cons_zero, List.getElem_cons_succ, Act.put, List.setIfInBounds_toArray, List.set_cons_zero, List.set_cons_succ]
        refine wpAnyH_take (i := 13) (v := ?_) rfl (by kernel_rfl) (by kernel_rfl) (by kernel_rfl) (fun _ _ _ h => h) (Or.inl ⟨by rfl, ?_⟩) (by assumption) ?_
        rotate_left
        · (intro w hSw; (try dsimp only at hSw); go_simp; try with_reducible rfl)
        try simp only [List.getElem_toArray, List.getElem_cons_zero, List.getElem_cons_succ, Act.put, List.setIfInBounds_toArray, List.set_cons_zero, List.set_cons_succ]
        refine wpAnyH_take (i := 14) (v := ?_) rfl (by kernel_rfl) (by kernel_rfl) (by kernel_rfl) (fun _ _ _ h => h) (Or.inl ⟨by rfl, ?_⟩) (by assumption) ?_
        rotate_left
        · (intro w hSw; (try dsimp only at hSw); go_simp; try with_reducible rfl)
        try simp only [List.getElem_toArray, List.getElem_cons_zero, List.getElem_cons_succ, Act.put, List.setIfInBounds_toArray, List.set_cons_zero, List.set_cons_succ]
        refine wpAnyH_take (i := 15) (v := ?_) rfl (by kernel_rfl) (by kernel_rfl) (by kernel_rfl) (fun _ _ _ h => h) (Or.inl ⟨by rfl, ?_⟩) (by assumption) ?_
        rotate_left
        · (intro w hSw; (try dsimp only at hSw); go_simp; try with_reducible rfl)
        try simp only [List.getElem_toArray, List.getElem_cons_zero, List.getElem_cons_succ, Act.put, List.setIfInBounds_toArray, List.set_cons_zero, List.set_cons_succ]
        refine wpAnyH_done (by kernel_rfl) ?_ _
        clear IS HI HS HV
        have x0 := X.out.out.at0
        have x1 := X.out.out.at1
        have y0 := Y.out.out.at0
        have y1 := Y.out.out.at1
        go_wp2_with fail
        refine wp_region_held_drew (S := fun w' => w'.cell? ⟨o, 0, none⟩ = some (.int .i64 (m : Int)) ∧ w'.cell? ⟨o, 1, none⟩ = some (.slice a1 L c1) ∧ w'.cell? ⟨o2, 0, none⟩ = some (.int .i64 (L : Int)) ∧ w'.cell? ⟨o2, 1, none⟩ = some (.slice a3 GL c3)) (by kernel_rfl) (by first | exact ⟨x0, x1, y0, y1⟩ | go_keep) (fun hHeld => ?_)
        refine wpAnyH_take (i := 0) (v := ?_) rfl (by kernel_rfl) (by kernel_rfl) (by kernel_rfl) (fun _ _ _ h => h) (Or.inl ⟨by rfl, ?_⟩) (by assumption) ?_
        rotate_left
        · (intro w hSw; (try dsimp only at hSw); go_simp; try with_reducible rfl)
        try simp only [List.getElem_toArray, List.getElem_cons_zero, Act.put, List.setIfInBounds_toArray, List.set_cons_zero, List.set_cons_succ]
        refine wpAnyH_take (i := 2) (v := ?_) rfl (by kernel_rfl) (by kernel_rfl) (by kernel_rfl) (fun _ _ _ h => h) (Or.inl ⟨by rfl, ?_⟩) (by assumption) ?_
        rotate_left
        · (intro w hSw; (try dsimp only at hSw); go_simp; try with_reducible rfl)
        try simp only [List.getElem_toArray, List.getElem_cons_zero, List.getElem_cons_succ, Act.put, List.setIfInBounds_toArray, List.set_cons_zero, List.set_cons_succ]
        refine wpAnyH_ready (rs := [1]) (by kernel_rfl) (by simp) ?_
        refine AllReadyH.cons rfl (fun K hK => ?_) AllReadyH.nil
        try simp only [List.getElem_toArray]
        go_simp
        (go_at_call 11; refine (HVG.out _ _ (by first | exact IG.out.rd | exact IG.out.rd.below (k := w7.heap.size) ((Below.refl _ _).drew) (Nat.le_refl _))).mono ?_; rintro e w8 ⟨rfl, hbd⟩; have hb8 : Below w7.heap.size w7 w8 := (by first | exact hbd | exact ⟨hbd.os, hbd.tape, hbd.output, hbd.size, hbd.block⟩); clear hbd; have hz8 := hb8.size; replace X := Lib.hid (X.out.next hb8 X.out.lt); replace Y := Lib.hid (Y.out.next hb8 Y.out.lt); replace I1 := Lib.hid (I1.out.below hb8 (Nat.le_refl _)); replace IG := Lib.hid (IG.out.below hb8 (Nat.le_refl _)); replace B := Lib.hid (B.out.trans (hb8.mono B.out.size)); clear hb8; have x0_8 := X.out.out.at0; have x1_8 := X.out.out.at1; have y0_8 := Y.out.out.at0; have y1_8 := Y.out.out.at1)
        refine hK.out _ _ (by first | exact ⟨x0_8, x1_8, y0_8, y1_8⟩ | exact ⟨x0, x1, y0, y1⟩ | go_keep) (fun hHeld => ?_)
        clear hK K
        try simp only [List.getElem_toArray, List.getElem_cons_zero, List.getElem_cons_succ, Act.put, List.setIfInBounds_toArray, List.set_cons_zero, List.set_cons_succ]
        refine wpAnyH_ready (rs := [3]) (by kernel_rfl) (by simp) ?_
        refine AllReadyH.cons rfl (fun K hK => ?_) AllReadyH.nil
        try simp only [List.getElem_toArray]
        go_simp
        (go_at_call 11; refine (HVN.out _ _ (by first | exact I1.out.rd | exact I1.out.rd.below (k := w8.heap.size) ((Below.refl _ _).drew) (Nat.le_refl _))).mono ?_; rintro e w9 ⟨rfl, hbd⟩; have hb9 : Below w8.heap.size w8 w9 := (by first | exact hbd | exact ⟨hbd.os, hbd.tape, hbd.output, hbd.size, hbd.block⟩); clear hbd; have hz9 := hb9.size; replace X := Lib.hid (X.out.next hb9 X.out.lt); replace Y := Lib.hid (Y.out.next hb9 Y.out.lt); replace I1 := Lib.hid (I1.out.below hb9 (Nat.le_refl _)); replace IG := Lib.hid (IG.out.below hb9 (Nat.le_refl _)); replace B := Lib.hid (B.out.trans (hb9.mono B.out.size)); clear hb9; have x0_9 := X.out.out.at0; have x1_9 := X.out.out.at1; have y0_9 := Y.out.out.at0; have y1_9 := Y.out.out.at1)
        refine hK.out _ _ (by first | exact ⟨x0_9, x1_9, y0_9, y1_9⟩ | exact ⟨x0_8, x1_8, y0_8, y1_8⟩ | exact ⟨x0, x1, y0, y1⟩ | go_keep) (fun hHeld => ?_)
        clear hK K
        try simp only [List.getElem_toArray, List.getElem_cons_zero, List.getElem_cons_succ, Act.put, List.setIfInBounds_toArray, List.set_cons_zero, List.set_cons_succ]
        refine wpAnyH_take (i := 4) (v := ?_) rfl (by kernel_rfl) (by kernel_rfl) (by kernel_rfl) (fun _ _ _ h => h) (Or.inl ⟨by rfl, ?_⟩) (by assumption) ?_
        rotate_left
        · (intro w hSw; (try dsimp only at hSw); go_simp; try with_reducible rfl)
        try simp only [List.getElem_toArray, List.getElem_cons_zero, List.getElem_cons_succ, Act.put, List.setIfInBounds_toArray, List.set_cons_zero, List.set_cons_succ]
        refine wpAnyH_ready (rs := [5]) (by kernel_rfl) (by simp) ?_
        refine AllReadyH.cons rfl (fun K hK => ?_) AllReadyH.nil
        try simp only [List.getElem_toArray]
        go_simp
        (go_at_call 12; refine (HPW.out _).mono ?_; rintro e w99 ⟨rfl, hw99⟩; subst w99)
        refine hK.out _ _ (by first | exact ⟨x0_9, x1_9, y0_9, y1_9⟩ | exact ⟨x0_8, x1_8, y0_8, y1_8⟩ | exact ⟨x0, x1, y0, y1⟩ | go_keep) (fun hHeld => ?_)
        clear hK K
        try simp only [List.getElem_toArray, List.getElem_cons_zero, List.getElem_cons_succ, Act.put, List.setIfInBounds_toArray, List.set_cons_zero, List.set_cons_succ]
        refine wpAnyH_take (i := 6) (v := ?_) rfl (by kernel_rfl) (by kernel_rfl) (by kernel_rfl) (fun _ _ _ h => h) (Or.inl ⟨by rfl, ?_⟩) (by assumption) ?_
        rotate_left
        · (intro w hSw; (try dsimp only at hSw); go_simp; try with_reducible rfl)
        try simp only [List.getElem_toArray, List.getElem_cons_zero, List.getElem_cons_succ, Act.put, List.setIfInBounds_toArray, List.set_cons_zero, List.set_cons_succ]
        refine wpAnyH_take (i := 7) (v := ?_) rfl (by kernel_rfl) (by kernel_rfl) (by kernel_rfl) (fun _ _ _ h => h) (Or.inl ⟨by rfl, ?_⟩) (by assumption) ?_
        rotate_left
        · (intro w hSw; (try dsimp only at hSw); go_simp; try with_reducible rfl)
        try simp only [List.getElem_toArray, List.getElem_cons_zero, List.getElem_cons_succ, Act.put, List.setIfInBounds_toArray, List.set_cons_zero, List.set_cons_succ]
        refine wpAnyH_take (i := 8) (v := ?_) rfl (by kernel_rfl) (by kernel_rfl) (by kernel_rfl) (fun _ _ _ h => h) (Or.inl ⟨by rfl, ?_⟩) (by assumption) ?_
        rotate_left
        · (intro w hSw; (try dsimp only at hSw); go_simp; try with_reducible rfl)
        try simp only [List.getElem_toArray, List.getElem_cons_zero, List.getElem_cons_succ, Act.put, List.setIfInBounds_toArray, List.set_cons_zero, List.set_cons_succ]
        refine wpAnyH_take (i := 9) (v := ?_) rfl (by kernel_rfl) (by kernel_rfl) (by kernel_rfl) (fun _ _ _ h => h) (Or.inl ⟨by rfl, ?_⟩) (by assumption) ?_
        rotate_left
        · (intro w hSw; (try dsimp only at hSw); go_simp; try with_reducible rfl)
        try simp only [List.getElem_toArray, List.getElem_cons_zero, List.getElem_cons_succ, Act.put, List.setIfInBounds_toArray, List.set_cons_zero, List.set_cons_succ]
        refine wpAnyH_take (i := 10) (v := ?_) rfl (by kernel_rfl) (by kernel_rfl) (by kernel_rfl) (fun _ _ _ h => h) (Or.inl ⟨by rfl, ?_⟩) (by assumption) ?_
        rotate_left
        · (intro w hSw; (try dsimp only at hSw); go_simp; try with_reducible rfl)
        try simp only [List.getElem_toArray, List.getElem_cons_zero, List.getElem_cons_succ, Act.put, List.setIfInBounds_toArray, List.set_cons_zero, List.set_cons_succ]
        refine wpAnyH_take (i := 11) (v := ?_) rfl (by kernel_rfl) (by kernel_rfl) (by kernel_rfl) (fun _ _ _ h => h) (Or.inl ⟨by rfl, ?_⟩) (by assumption) ?_
        rotate_left
        · (intro w hSw; (try dsimp only at hSw); go_simp; try with_reducible rfl)
        try simp only [List.getElem_toArray, List.getElem_cons_zero, List.getElem_cons_succ, Act.put, List.setIfInBounds_toArray, List.set_cons_zero, List.set_cons_succ]
        refine wpAnyH_take (i := 12) (v := ?_) rfl (by kernel_rfl) (by kernel_rfl) (by kernel_rfl) (fun _ _ _ h => h) (Or.inl ⟨by rfl, ?_⟩) (by assumption) ?_
        rotate_left
        · (intro w hSw; (try dsimp only at hSw); go_simp; try with_reducible rfl)
        try simp only [List.getElem_toArray, List.getElem_cons_zero, List.getElem_cons_succ, Act.put, List.setIfInBounds_toArray, List.set_cons_zero, List.set_cons_succ]
        refine wpAnyH_take (i := 13) (v := ?_) rfl (by kernel_rfl) (by kernel_rfl) (by kernel_rfl) (fun _ _ _ h => h) (Or.inl ⟨by rfl, ?_⟩) (by assumption) ?_
        rotate_left
        · (intro w hSw; (try dsimp only at hSw); go_simp; try with_reducible rfl)
        try simp only [List.getElem_toArray, List.getElem_cons_zero, List.getElem_cons_succ, Act.put, List.setIfInBounds_toArray, List.set_cons_zero, List.set_cons_succ]
        refine wpAnyH_take (i := 14) (v := ?_) rfl (by kernel_rfl) (by kernel_rfl) (by kernel_rfl) (fun _ _ _ h => h) (Or.inl ⟨by rfl, ?_⟩) (by assumption) ?_
        rotate_left
        · (intro w hSw; (try dsimp only at hSw); go_simp; try with_reducible rfl)
        try simp only [List.getElem_toArray, List.getElem_cons_zero, List.getElem_cons_succ, Act.put, List.setIfInBounds_toArray, List.set_cons_zero, List.set_cons_succ]
        refine wpAnyH_take (i := 15) (v := ?_) rfl (by kernel_rfl) (by kernel_rfl) (by kernel_rfl) (fun _ _ _ h => h) (Or.inl ⟨by rfl, ?_⟩) (by assumption) ?_
        rotate_left
        · (intro w hSw; (try dsimp only at hSw); go_simp; try with_reducible rfl)
        try simp only [List.getElem_toArray, List.getElem_cons_zero, List.getElem_cons_succ, Act.put, List.setIfInBounds_toArray, List.set_cons_zero, List.set_cons_succ]
        refine wpAnyH_take (i := 16) (v := ?_) rfl (by kernel_rfl) (by kernel_rfl) (by kernel_rfl) (fun _ _ _ h => h) (Or.inl ⟨by rfl, ?_⟩) (by assumption) ?_
        rotate_left
        · (intro w hSw; (try dsimp only at hSw); go_simp; try with_reducible rfl)
        try simp only [List.getElem_toArray, List.getElem_cons_zero, List.getElem_cons_succ, Act.put, List.setIfInBounds_toArray, List.set_cons_zero, List.set_cons_succ]
        refine wpAnyH_take (i := 17) (v := ?_) rfl (by kernel_rfl) (by kernel_rfl) (by kernel_rfl) (fun _ _ _ h => h) (Or.inl ⟨by rfl, ?_⟩) (by assumption) ?_
        rotate_left
        · (intro w hSw; (try dsimp only at hSw); go_simp; try with_reducible rfl)
        try simp only [List.getElem_toArray, List.getElem_cons_zero, List.getElem_cons_succ, Act.put, List.setIfInBounds_toArray, List.set_cons_zero, List.set_cons_succ]
        refine wpAnyH_take (i := 18) (v := ?_) rfl (by kernel_rfl) (by kernel_rfl) (by kernel_rfl) (fun _ _ _ h => h) (Or.inl ⟨by rfl, ?_⟩) (by assumption) ?_
        rotate_left
        · (intro w hSw; (try dsimp only at hSw); go_simp; try with_reducible rfl)
        try simp only [List.getElem_toArray, List.getElem_cons_zero, List.getElem_cons_succ, Act.put, List.setIfInBounds_toArray, List.set_cons_zero, List.set_cons_succ]
        refine wpAnyH_take (i := 19) (v := ?_) rfl (by kernel_rfl) (by kernel_rfl) (by kernel_rfl) (fun _ _ _ h => h) (Or.inl ⟨by rfl, ?_⟩) (by assumption) ?_
        rotate_left
        · (intro w hSw; (try dsimp only at hSw); go_simp; try with_reducible rfl)
        try simp only [List.getElem_toArray, List.getElem_cons_zero, List.getElem_cons_succ, Act.put, List.setIfInBounds_toArray, List.set_cons_zero, List.set_cons_succ]
        refine wpAnyH_take (i := 20) (v := ?_) rfl (by kernel_rfl) (by kernel_rfl) (by kernel_rfl) (fun _ _ _ h => h) (Or.inl ⟨by rfl, ?_⟩) (by assumption) ?_
        rotate_left
        · (intro w hSw; (try dsimp only at hSw); go_simp; try with_reducible rfl)
        try simp only [List.getElem_toArray, List.getElem_cons_zero, List.getElem_cons_succ, Act.put, List.setIfInBounds_toArray, List.set_cons_zero, List.set_cons_succ]
        refine wpAnyH_take (i := 21) (v := ?_) rfl (by kernel_rfl) (by kernel_rfl) (by kernel_rfl) (fun _ _ _ h => h) (Or.inl ⟨by rfl, ?_⟩) (by assumption) ?_
        rotate_left
        · (intro w hSw; (try dsimp only at hSw); go_simp; try with_reducible rfl)
        try simp only [List.getElem_toArray, List.getElem_cons_zero, List.getElem_cons_succ, Act.put, List.setIfInBounds_toArray, List.set_cons_zero, List.set_cons_succ]
        refine wpAnyH_take (i := 22) (v := ?_) rfl (by kernel_rfl) (by kernel_rfl) (by kernel_rfl) (fun _ _ _ h => h) (Or.inl ⟨by rfl, ?_⟩) (by assumption) ?_
        rotate_left
        · (intro w hSw; (try dsimp only at hSw); go_simp; try with_reducible rfl)
        try simp only [List.getElem_toArray, List.getElem_cons_zero, List.getElem_cons_succ, Act.put, List.setIfInBounds_toArray, List.set_cons_zero, List.set_cons_succ]
        refine wpAnyH_take (i := 23) (v := ?_) rfl (by kernel_rfl) (by kernel_rfl) (by kernel_rfl) (fun _ _ _ h => h) (Or.inl ⟨by rfl, ?_⟩) (by assumption) ?_
        rotate_left
        · (intro w hSw; (try dsimp only at hSw); go_simp; try with_reducible rfl)
        try simp only [List.getElem_toArray, List.getElem_cons_zero, List.getElem_cons_succ, Act.put, List.setIfInBounds_toArray, List.set_cons_zero, List.set_cons_succ]
        refine wpAnyH_done (by kernel_rfl) ?_ _
        go_wp2_with fail
        go_ret
        exact ⟨rfl, by first | exact B.out | exact B.out.drew⟩
    · rw [Bool.not_eq_true] at hv
      have hp : ¬ (vldB N zs = true ∧ zs.length ≤ 5) := by rw [hv]; simp
      have HI := Lib.hid (fun v w h => implDualClass N v zs w h)
      have HS := Lib.hid (fun v w h => specDualClass N v zs w h)
      have HV := Lib.hid (fun v w h => implValid N v zs w h)
      rw [(du_bad hp).1, (du_bad hp).2] at HI HS
      rw [hv] at HV
      clear hp hv
      refine (HI.out _ _ I1.out.rd).mono ?_
      rintro e w3 ⟨a3, c3, rfl, hin3, hb3⟩
      rw [show ([] : List Int).length = 0 from rfl] at hin3 ⊢
      have hz3 := hb3.size
      replace X := Lib.hid (X.out.next hb3 X.out.lt)
      replace I1 := Lib.hid (I1.out.below hb3 (Nat.le_refl _))
      replace B := Lib.hid (B.out.trans (hb3.mono B.out.size))
      have IG := Lib.hid (hin3.mono (Nat.zero_le _))
      clear hin3 hb3
      have Y := Lib.hid (Bx.new 0 (.slice a3 0 c3) w3)
      replace X := Lib.hid (X.out.alloc (Obj.cells #[.int .i64 0, .slice a3 0 c3] 25))
      replace I1 := Lib.hid (I1.out.alloc (Obj.cells #[.int .i64 0, .slice a3 0 c3] 25))
      replace IG := Lib.hid (IG.out.alloc (Obj.cells #[.int .i64 0, .slice a3 0 c3] 25))
      replace B := Lib.hid (B.out.alloc B.out.size (Obj.cells #[.int .i64 0, .slice a3 0 c3] 25))
      have HZ := Lib.hid (show (w3.alloc (Obj.cells #[.int .i64 0, .slice a3 0 c3] 25)).heap.size = w3.heap.size + 1 by simp)
      go_wp2_with fail
      generalize (w3.alloc (Obj.cells #[.int .i64 0, .slice a3 0 c3] 25)) = w4 at *
      have hz4 := HZ.out
      clear HZ
      generalize ho2 : w3.heap.size = o2 at *
      have x0 := X.out.out.at0
      have x1 := X.out.out.at1
      have y0 := Y.out.out.at0
      have y1 := Y.out.out.at1
      go_wp2_with fail
      refine wp_region_held_drew (S := fun w' => w'.cell? ⟨o, 0, none⟩ = some (.int .i64 N) ∧ w'.cell? ⟨o, 1, none⟩ = some (.slice a1 L c1) ∧ w'.cell? ⟨o2, 0, none⟩ = some (.int .i64 0) ∧ w'.cell? ⟨o2, 1, none⟩ = some (.slice a3 0 c3)) (by kernel_rfl) (by first | exact ⟨x0, x1, y0, y1⟩ | go_keep) (fun hHeld => ?_)
      refine wpAnyH_take (i := 0) (v := ?_) rfl (by kernel_rfl) (by kernel_rfl) (by kernel_rfl) (fun _ _ _ h => h) (Or.inl ⟨by rfl, ?_⟩) (by assumption) ?_
      rotate_left
      · (intro w hSw; (try dsimp only at hSw); go_simp; try with_reducible rfl)
      try simp only [List.getElem_toArray, List.getElem_cons_zero, Act.put, List.setIfInBounds_toArray, List.set_cons_zero, List.set_cons_succ]
      refine wpAnyH_take (i := 1) (v := ?_) rfl (by kernel_rfl) (by kernel_rfl) (by kernel_rfl) (fun _ _ _ h => h) (Or.inl ⟨by rfl, ?_⟩) (by assumption) ?_
      rotate_left
      · (intro w hSw; (try dsimp only at hSw); go_simp; try with_reducible rfl)
      try simp only [List.getElem_toArray, List.getElem_cons_zero, List.getElem_cons_succ, Act.put, List.setIfInBounds_toArray, List.set_cons_zero, List.set_cons_succ]
      refine wpAnyH_ready (rs := [2]) (by kernel_rfl) (by simp) ?_
      refine AllReadyH.cons rfl (fun K hK => ?_) AllReadyH.nil
      try simp only [List.getElem_toArray]
      go_simp
      (go_at_call 9; refine (HS.out _ _ (by first | exact I1.out.rd | exact I1.out.rd.below (k := w4.heap.size) ((Below.refl _ _).drew) (Nat.le_refl _))).mono ?_; rintro e w5 ⟨a5, c5, rfl, hin5, hbd⟩; rw [show ([] : List Int).length = 0 from rfl] at hin5 ⊢; have hb5 : Below w4.heap.size w4 w5 := (by first | exact hbd | exact ⟨hbd.os, hbd.tape, hbd.output, hbd.size, hbd.block⟩); clear hbd; have hz5 := hb5.size; replace X := Lib.hid (X.out.next hb5 X.out.lt); replace Y := Lib.hid (Y.out.next hb5 Y.out.lt); replace I1 := Lib.hid (I1.out.below hb5 (Nat.le_refl _)); replace IG := Lib.hid (IG.out.below hb5 (Nat.le_refl _)); replace B := Lib.hid (B.out.trans (hb5.mono B.out.size)); have IS := Lib.hid (hin5.mono (Nat.zero_le _)); clear hin5; clear hb5; have x0_5 := X.out.out.at0; have x1_5 := X.out.out.at1; have y0_5 := Y.out.out.at0; have y1_5 := Y.out.out.at1)
      refine hK.out _ _ (by first | exact ⟨x0_5, x1_5, y0_5, y1_5⟩ | exact ⟨x0, x1, y0, y1⟩ | go_keep) (fun hHeld => ?_)
      clear hK K
      try simp only [List.getElem_toArray, List.getElem_cons_zero, List.getElem_cons_succ, Act.put, List.setIfInBounds_toArray, List.set_cons_zero, List.set_cons_succ]
      refine wpAnyH_ready (rs := [3]) (by kernel_rfl) (by simp) ?_
      refine AllReadyH.cons rfl (fun K hK => ?_) AllReadyH.nil
      try simp only [List.getElem_toArray]
      go_simp
      (go_at_call 8; refine (lawsEqualClass _ _ _ _ _ _ _ _ (by first | exact IG.out.rd | exact IG.out.rd.below (k := w5.heap.size) ((Below.refl _ _).drew) (Nat.le_refl _)) (by first | exact IS.out.rd | exact IS.out.rd.below (k := w5.heap.size) ((Below.refl _ _).drew) (Nat.le_refl _))).mono ?_; rintro e w6 ⟨rfl, hbd⟩; have hb6 : Below w5.heap.size w5 w6 := (by first | exact hbd | exact ⟨hbd.os, hbd.tape, hbd.output, hbd.size, hbd.block⟩); clear hbd; have hz6 := hb6.size; replace X := Lib.hid (X.out.next hb6 X.out.lt); replace Y := Lib.hid (Y.out.next hb6 Y.out.lt); replace I1 := Lib.hid (I1.out.below hb6 (Nat.le_refl _)); replace IG := Lib.hid (IG.out.below hb6 (Nat.le_refl _)); replace IS := Lib.hid (IS.out.below hb6 (Nat.le_refl _)); replace B := Lib.hid (B.out.trans (hb6.mono B.out.size)); clear hb6; have x0_6 := X.out.out.at0; have x1_6 := X.out.out.at1; have y0_6 := Y.out.out.at0; have y1_6 := Y.out.out.at1)
      refine hK.out _ _ (by first | exact ⟨x0_6, x1_6, y0_6, y1_6⟩ | exact ⟨x0_5, x1_5, y0_5, y1_5⟩ | exact ⟨x0, x1, y0, y1⟩ | go_keep) (fun hHeld => ?_)
      clear hK K
      try simp only [List.getElem_toArray, List.getElem_cons_zero, List.getElem_cons_succ, Act.put, List.setIfInBounds_toArray, List.set_cons_zero, List.set_cons_succ]
      refine wpAnyH_take (i := 4) (v := ?_) rfl (by kernel_rfl) (by kernel_rfl) (by kernel_rfl) (fun _ _ _ h => h) (Or.inl ⟨by rfl, ?_⟩) (by assumption) ?_
      rotate_left
      · (intro w hSw; (try dsimp only at hSw); go_simp; try with_reducible rfl)
      try simp only [List.getElem_toArray, List.getElem_cons_zero, List.getElem_cons_succ, Act.put, List.setIfInBounds_toArray, List.set_cons_zero, List.set_cons_succ]
      refine wpAnyH_take (i := 5) (v := ?_) rfl (by kernel_rfl) (by kernel_rfl) (by kernel_rfl) (fun _ _ _ h => h) (Or.inl ⟨by rfl, ?_⟩) (by assumption) ?_
      rotate_left
      · (intro w hSw; (try dsimp only at hSw); go_simp; try with_reducible rfl)
      try simp only [List.getElem_toArray, List.getElem_cons_zero, List.getElem_cons_succ, Act.put, List.setIfInBounds_toArray, List.set_cons_zero, List.set_cons_succ]
      refine wpAnyH_take (i := 6) (v := ?_) rfl (by kernel_rfl) (by kernel_rfl) (by kernel_rfl) (fun _ _ _ h => h) (Or.inl ⟨by rfl, ?_⟩) (by assumption) ?_
      rotate_left
      · (intro w hSw; (try dsimp only at hSw); go_simp; try with_reducible rfl)
      try simp only [List.getElem_toArray, List.getElem_cons_zero, List.getElem_cons_succ, Act.put, List.setIfInBounds_toArray, List.set_cons_zero, List.set_cons_succ]
      refine wpAnyH_ready (rs := [7]) (by kernel_rfl) (by simp) ?_
      refine AllReadyH.cons rfl (fun K hK => ?_) AllReadyH.nil
      try simp only [List.getElem_toArray]
      go_simp
      (go_at_call 10; refine (HV.out _ _ (by first | exact I1.out.rd | exact I1.out.rd.below (k := w6.heap.size) ((Below.refl _ _).drew) (Nat.le_refl _))).mono ?_; rintro e w7 ⟨rfl, hbd⟩; have hb7 : Below w6.heap.size w6 w7 := (by first | exact hbd | exact ⟨hbd.os, hbd.tape, hbd.output, hbd.size, hbd.block⟩); clear hbd; have hz7 := hb7.size; replace X := Lib.hid (X.out.next hb7 X.out.lt); replace Y := Lib.hid (Y.out.next hb7 Y.out.lt); replace I1 := Lib.hid (I1.out.below hb7 (Nat.le_refl _)); replace IG := Lib.hid (IG.out.below hb7 (Nat.le_refl _)); replace IS := Lib.hid (IS.out.below hb7 (Nat.le_refl _)); replace B := Lib.hid (B.out.trans (hb7.mono B.out.size)); clear hb7; have x0_7 := X.out.out.at0; have x1_7 := X.out.out.at1; have y0_7 := Y.out.out.at0; have y1_7 := Y.out.out.at1)
      refine hK.out _ _ (by first | exact ⟨x0_7, x1_7, y0_7, y1_7⟩ | exact ⟨x0_6, x1_6, y0_6, y1_6⟩ | exact ⟨x0_5, x1_5, y0_5, y1_5⟩ | exact ⟨x0, x1, y0, y1⟩ | go_keep) (fun hHeld => ?_)
      clear hK K
      try simp only [List.getElem_toArray, List.getElem_cons_zero, List.getElem_cons_succ, Act.put, List.setIfInBounds_toArray, List.set_cons_zero, List.set_cons_succ]
      refine wpAnyH_take (i := 8) (v := ?_) rfl (by kernel_rfl) (by kernel_rfl) (by kernel_rfl) (fun _ _ _ h => h) (Or.inl ⟨by rfl, ?_⟩) (by assumption) ?_
      rotate_left
      · (intro w hSw; (try dsimp only at hSw); go_simp; try with_reducible rfl)
      try simp only [List.getElem_toArray, List.getElem_cons_zero, List.getElem_cons_succ, Act.put, List.setIfInBounds_toArray, List.set_cons_zero, List.set_cons_succ]
      refine wpAnyH_take (i := 9) (v := ?_) rfl (by kernel_rfl) (by kernel_rfl) (by kernel_rfl) (fun _ _ _ h => h) (Or.inl ⟨by rfl, ?_⟩) (by assumption) ?_
      rotate_left
      · (intro w hSw; (try dsimp only at hSw); go_simp; try with_reducible rfl)
      try simp only [List.getElem_toArray, List.getElem_cons_zero, List.getElem_cons_succ, Act.put, List.setIfInBounds_toArray, List.set_cons_zero, List.set_cons_succ]
      refine wpAnyH_take (i := 10) (v := ?_) rfl (by kernel_rfl) (by kernel_rfl) (by kernel_rfl) (fun _ _ _ h => h) (Or.inl ⟨by rfl, ?_⟩) (by assumption) ?_
      rotate_left
      · (intro w hSw; (try dsimp only at hSw); go_simp; try with_reducible rfl)
      try simp only [List.getElem_toArray, List.getElem_cons_zero, List.getElem_cons_succ, Act.put, List.setIfInBounds_toArray, List.set_cons_zero, List.set_cons_succ]
      refine wpAnyH_take (i := 11) (v := undef) rfl (by kernel_rfl) (by kernel_rfl) (by kernel_rfl) (fun _ _ _ h => h) (Or.inr ⟨by rfl, rfl⟩) (by assumption) ?_
      try simp only [List.getElem_toArray, List.getElem_cons_zero, List.getElem_cons_succ, Act.put, List.setIfInBounds_toArray, List.set_cons_zero, List.set_cons_succ]
      refine wpAnyH_take (i := 12) (v := undef) rfl (by kernel_rfl) (by kernel_rfl) (by kernel_rfl) (fun _ _ _ h => h) (Or.inr ⟨by rfl, rfl⟩) (by assumption) ?_
      try simp only [List.getElem_toArray, List.getElem_cons_zero, List.getElem_cons_succ, Act.put, List.setIfInBounds_toArray, List.set_cons_zero, List.set_cons_succ]
      refine wpAnyH_take (i := 13) (v := undef) rfl (by kernel_rfl) (by kernel_rfl) (by kernel_rfl) (fun _ _ _ h => h) (Or.inr ⟨by rfl, rfl⟩) (by assumption) ?_
      try simp only [List.getElem_toArray, List.getElem_cons_zero, List.getElem_cons_succ, Act.put, List.setIfInBounds_toArray, List.set_cons_zero, List.set_cons_succ]
      refine wpAnyH_take (i := 14) (v := undef) rfl (by kernel_rfl) (by kernel_rfl) (by kernel_rfl) (fun _ _ _ h => h) (Or.inr ⟨by rfl, rfl⟩) (by assumption) ?_
      try simp only [List.getElem_toArray, List.getElem_cons_zero, List.getElem_cons_succ, Act.put, List.setIfInBounds_toArray, List.set_cons_zero, List.set_cons_succ]
      refine wpAnyH_take (i := 15) (v := ?_) rfl (by kernel_rfl) (by kernel_rfl) (by kernel_rfl) (fun _ _ _ h => h) (Or.inl ⟨by rfl, ?_⟩) (by assumption) ?_
      rotate_left
      · (intro w hSw; (try dsimp only at hSw); go_simp; try with_reducible rfl)
      try simp only [List.getElem_toArray, List.getElem_cons_zero, List.getElem_cons_succ, Act.put, List.setIfInBounds_toArray, List.set_cons_zero, List.set_cons_succ]
      refine wpAnyH_done (by kernel_rfl) ?_ _
      clear IS
      have x0 := X.out.out.at0
      have x1 := X.out.out.at1
      have y0 := Y.out.out.at0
      have y1 := Y.out.out.at1
      go_wp2_with fail
      refine wp_region_held_drew (S := fun w' => w'.cell? ⟨o, 0, none⟩ = some (.int .i64 N) ∧ w'.cell? ⟨o, 1, none⟩ = some (.slice a1 L c1) ∧ w'.cell? ⟨o2, 0, none⟩ = some (.int .i64 0) ∧ w'.cell? ⟨o2, 1, none⟩ = some (.slice a3 0 c3)) (by kernel_rfl) (by first | exact ⟨x0, x1, y0, y1⟩ | go_keep) (fun hHeld => ?_)
      refine wpAnyH_take (i := 0) (v := ?_) rfl (by kernel_rfl) (by kernel_rfl) (by kernel_rfl) (fun _ _ _ h => h) (Or.inl ⟨by rfl, ?_⟩) (by assumption) ?_
      rotate_left
      · (intro w hSw; (try dsimp only at hSw); go_simp; try with_reducible rfl)
      try simp only [List.getElem_toArray, List.getElem_cons_zero, Act.put, List.setIfInBounds_toArray, List.set_cons_zero, List.set_cons_succ]
      refine wpAnyH_take (i := 1) (v := ?_) rfl (by kernel_rfl) (by kernel_rfl) (by kernel_rfl) (fun _ _ _ h => h) (Or.inl ⟨by rfl, ?_⟩) (by assumption) ?_
      rotate_left
      · (intro w hSw; (try dsimp only at hSw); go_simp; try with_reducible rfl)
      try simp only [List.getElem_toArray, List.getElem_cons_zero, List.getElem_cons_succ, Act.put, List.setIfInBounds_toArray, List.set_cons_zero, List.set_cons_succ]
      refine wpAnyH_ready (rs := [2]) (by kernel_rfl) (by simp) ?_
      refine AllReadyH.cons rfl (fun K hK => ?_) AllReadyH.nil
      try simp only [List.getElem_toArray]
      go_simp
      (go_at_call 9; refine (HS.out _ _ (by first | exact I1.out.rd | exact I1.out.rd.below (k := w7.heap.size) ((Below.refl _ _).drew) (Nat.le_refl _))).mono ?_; rintro e w8 ⟨a8, c8, rfl, hin8, hbd⟩; rw [show ([] : List Int).length = 0 from rfl] at hin8 ⊢; have hb8 : Below w7.heap.size w7 w8 := (by first | exact hbd | exact ⟨hbd.os, hbd.tape, hbd.output, hbd.size, hbd.block⟩); clear hbd; have hz8 := hb8.size; replace X := Lib.hid (X.out.next hb8 X.out.lt); replace Y := Lib.hid (Y.out.next hb8 Y.out.lt); replace I1 := Lib.hid (I1.out.below hb8 (Nat.le_refl _)); replace IG := Lib.hid (IG.out.below hb8 (Nat.le_refl _)); replace B := Lib.hid (B.out.trans (hb8.mono B.out.size)); have IS := Lib.hid (hin8.mono (Nat.zero_le _)); clear hin8; clear hb8; have x0_8 := X.out.out.at0; have x1_8 := X.out.out.at1; have y0_8 := Y.out.out.at0; have y1_8 := Y.out.out.at1)
      refine hK.out _ _ (by first | exact ⟨x0_8, x1_8, y0_8, y1_8⟩ | exact ⟨x0, x1, y0, y1⟩ | go_keep) (fun hHeld => ?_)
      clear hK K
      try simp only [List.getElem_toArray, List.getElem_cons_zero, List.getElem_cons_succ, Act.put, List.setIfInBounds_toArray, List.set_cons_zero, List.set_cons_succ]
      refine wpAnyH_ready (rs := [3]) (by kernel_rfl) (by simp) ?_
      refine AllReadyH.cons rfl (fun K hK => ?_) AllReadyH.nil
      try simp only [List.getElem_toArray]
      go_simp
      (go_at_call 8; refine (lawsEqualClass _ _ _ _ _ _ _ _ (by first | exact IG.out.rd | exact IG.out.rd.below (k := w8.heap.size) ((Below.refl _ _).drew) (Nat.le_refl _)) (by first | exact IS.out.rd | exact IS.out.rd.below (k := w8.heap.size) ((Below.refl _ _).drew) (Nat.le_refl _))).mono ?_; rintro e w9 ⟨rfl, hbd⟩; have hb9 : Below w8.heap.size w8 w9 := (by first | exact hbd | exact ⟨hbd.os, hbd.tape, hbd.output, hbd.size, hbd.block⟩); clear hbd; have hz9 := hb9.size; replace X := Lib.hid (X.out.next hb9 X.out.lt); replace Y := Lib.hid (Y.out.next hb9 Y.out.lt); replace I1 := Lib.hid (I1.out.below hb9 (Nat.le_refl _)); replace IG := Lib.hid (IG.out.below hb9 (Nat.le_refl _)); replace IS := Lib.hid (IS.out.below hb9 (Nat.le_refl _)); replace B := Lib.hid (B.out.trans (hb9.mono B.out.size)); clear hb9; have x0_9 := X.out.out.at0; have x1_9 := X.out.out.at1; have y0_9 := Y.out.out.at0; have y1_9 := Y.out.out.at1)
      refine hK.out _ _ (by first | exact ⟨x0_9, x1_9, y0_9, y1_9⟩ | exact ⟨x0_8, x1_8, y0_8, y1_8⟩ | exact ⟨x0, x1, y0, y1⟩ | go_keep) (fun hHeld => ?_)
      clear hK K
      try simp only [List.getElem_toArray, List.getElem_cons_zero, List.getElem_cons_succ, Act.put, List.setIfInBounds_toArray, List.set_cons_zero, List.set_cons_succ]
      refine wpAnyH_take (i := 4) (v := ?_) rfl (by kernel_rfl) (by kernel_rfl) (by kernel_rfl) (fun _ _ _ h => h) (Or.inl ⟨by rfl, ?_⟩) (by assumption) ?_
      rotate_left
      · (intro w hSw; (try dsimp only at hSw); go_simp; try with_reducible rfl)
      try simp only [List.getElem_toArray, List.getElem_cons_zero, List.getElem_cons_succ, Act.put, List.setIfInBounds_toArray, List.set_cons_zero, List.set_cons_succ]
      refine wpAnyH_done (by kernel_rfl) ?_ _
      go_wp2_with fail
      go_ret
      exact ⟨rfl, by first | exact B.out | exact B.out.drew⟩
  · go_enter Try.func3, Try.ntmps3
    go_wp2_with fail
    go_ret
    exact ⟨rfl, Below.refl _ _⟩

end Go.Proofs.Ytfcdnecikflehaa
