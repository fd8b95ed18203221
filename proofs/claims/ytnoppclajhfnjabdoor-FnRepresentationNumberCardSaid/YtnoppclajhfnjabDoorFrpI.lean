/- FirstRepresentation, the program's. Conditions: Sets is a slice of ints. -/
import Derived.Deep.RegionHeld3
import Derived.Test.YtnoppclajhfnjabDoorFrp
namespace Go.Proofs.YtnoppclajhfnjabDoor
open Go.RowKit

theorem Rpb.fr0 {n : Int} {v u : Value} {o : Nat} {w : World} (h : Rpb n v u o w) : w.frozen? ⟨o, 0, none⟩ = false := by simp [World.frozen?, show w.heap[o]? = _ from h]
theorem Rpb.fr1 {n : Int} {v u : Value} {o : Nat} {w : World} (h : Rpb n v u o w) : w.frozen? ⟨o, 1, none⟩ = false := by simp [World.frozen?, show w.heap[o]? = _ from h]
theorem Rpb.fr2 {n : Int} {v u : Value} {o : Nat} {w : World} (h : Rpb n v u o w) : w.frozen? ⟨o, 2, none⟩ = false := by simp [World.frozen?, show w.heap[o]? = _ from h]
theorem Rpb.set0 {n : Int} {v u : Value} {o : Nat} {w : World} (h : Rpb n v u o w) (k : Int) : Rpb k v u o (w.setCell ⟨o, 0, none⟩ (.int .i64 k)) := by
  obtain ⟨hlt, hk⟩ := Array.getElem?_eq_some_iff.1 h
  show (w.heap.modify o _)[o]? = _
  rw [Array.getElem?_eq_getElem (by rw [Array.size_modify]; exact hlt), Array.getElem_modify_self, hk]
  rfl
theorem Rpb.set1 {n : Int} {v u : Value} {o : Nat} {w : World} (h : Rpb n v u o w) (x : Value) : Rpb n x u o (w.setCell ⟨o, 1, none⟩ x) := by
  obtain ⟨hlt, hk⟩ := Array.getElem?_eq_some_iff.1 h
  show (w.heap.modify o _)[o]? = _
  rw [Array.getElem?_eq_getElem (by rw [Array.size_modify]; exact hlt), Array.getElem_modify_self, hk]
  rfl
theorem Rpb.set2 {n : Int} {v u : Value} {o : Nat} {w : World} (h : Rpb n v u o w) (x : Value) : Rpb n v x o (w.setCell ⟨o, 2, none⟩ x) := by
  obtain ⟨hlt, hk⟩ := Array.getElem?_eq_some_iff.1 h
  show (w.heap.modify o _)[o]? = _
  rw [Array.getElem?_eq_getElem (by rw [Array.size_modify]; exact hlt), Array.getElem_modify_self, hk]
  rfl
theorem Rpb.kept {n : Int} {v u : Value} {o : Nat} {w w' : World} (h : Rpb n v u o w) (hg : w.grownBy w' none) : Rpb n v u o w' := (hg.block o h.lt (by simp)).trans h
theorem Rpb.keptG {n : Int} {v u : Value} {o g : Nat} {w w' : World} (h : Rpb n v u o w) (hg : w.grownBy w' (some g)) (hne : o ≠ g) : Rpb n v u o w' := (hg.block o h.lt (fun e => hne (Option.some.inj e))).trans h
theorem Ints.offset {B g n cap p j : Nat} {w : World} {zs : List Int} (h : Ints B w (.slice (some ⟨g, 0, none⟩) n cap) zs) (hne : g ≠ p) (x : Value) : Ints B (w.setCell ⟨p, j, none⟩ x) (.slice (some ⟨g, 0, none⟩) n cap) zs :=
  h.kept (grownBy_set w j x) (.inr (show some g ≠ some p from fun e => hne (Option.some.inj e)))

set_option maxHeartbeats 6400000 in
set_option maxRecDepth 100000 in
theorem implFirstRepresentation (n : Int) (v : Value) (zs : List Int) (most : Int) (w : World) (h : Rd w v zs) :
    Calls Tryd.prog 40 #[.agg #[.int .i64 n, v], .int .i64 most] w (RetIB (frpL n zs most) (frpB n zs most) w) := by
  have H := Lib.hid h
  obtain ⟨a, b, off, cap, rfl, _, _, _⟩ := h
  have HV := Lib.hid (fun w h => implValid n (.slice a zs.length cap) zs w h)
  have X := Lib.hid (Bx.new n (.slice a zs.length cap) w)
  have B := Lib.hid (show Below w.heap.size w (w.alloc (Obj.cells #[.int .i64 n, .slice a zs.length cap] 25)) from (Below.refl _ _).alloc (Nat.le_refl _) _)
  by_cases hv : vldB n zs = true
  · rw [hv] at HV
    by_cases hl : zs.length ≤ 7
    · obtain ⟨m, ns, rfl, rfl, hc⟩ := vldB_cls hv
      rw [toI_length] at *
      have HF := Lib.hid (fun g ps0 w1 h hs hgg hgw => implFill m hc.pts (.slice a ns.length cap) ns most g ps0 w w1 hc.lt32 (by omega) h hs hgg hgw)
      have HLA := Lib.hid (fun r (hr : fndP ns most (2 ^ m) ns.length [] = some r) => (fnd_len hr).1)
      rw [frpL, frpB, frpO_in hv hl]
      have hlI : ¬ (7 : Int) < (ns.length : Int) := by omega
      have hld : decide ((7 : Int) < (ns.length : Int)) = false := decide_eq_false hlI
      clear hc hv
      generalize fndP ns most (2 ^ m) ns.length [] = A at *
      go_enter Tryd.func40, Tryd.ntmps40
      go_wp2_with fail
      refine (HV.out _ (H.out.below B.out (Nat.le_refl _))).mono ?_
      rintro e w1 ⟨rfl, hb⟩
      have X1 := Lib.hid (X.out.next hb X.out.lt)
      have B1 := Lib.hid (B.out.trans (hb.mono B.out.size))
      clear hb X B
      have c0 := X1.out.out.at0
      have c1 := X1.out.out.at1
      go_wp2_with fail
      refine wp_region_held_drew (S := fun w' => w'.cell? ⟨w.heap.size, 0, none⟩ = some (.int .i64 (m : Int)) ∧ w'.cell? ⟨w.heap.size, 1, none⟩ = some (.slice a ns.length cap)) (by kernel_rfl) (by exact ⟨c0, c1⟩) (fun hHeld => ?_)
      have XS := Lib.hid (show Bx (m : Int) (.slice a ns.length cap) w.heap.size w1.drew from X1.out)
      have BS := Lib.hid (B1.out.drew)
      clear c0 c1
      generalize w1.drew = v0 at *
      refine wpAnyH_take (i := 0) (v := ?_) rfl (by kernel_rfl) (by kernel_rfl) (by kernel_rfl) (fun _ _ _ h => h) (Or.inl ⟨by rfl, ?_⟩) (by assumption) ?_
      rotate_left
      · (intro w hSw; (try dsimp only at hSw); go_simp; try with_reducible rfl)
      try simp only [List.getElem_toArray, List.getElem_cons_zero, Act.put, List.setIfInBounds_toArray, List.set_cons_zero, List.set_cons_succ]
      refine wpAnyH_take (i := 1) (v := ?_) rfl (by kernel_rfl) (by kernel_rfl) (by kernel_rfl) (fun _ _ _ h => h) (Or.inl ⟨by rfl, ?_⟩) (by assumption) ?_
      rotate_left
      · (intro w hSw; (try dsimp only at hSw); go_simp; try with_reducible rfl)
      try simp only [List.getElem_toArray, List.getElem_cons_zero, List.getElem_cons_succ, Act.put, List.setIfInBounds_toArray, List.set_cons_zero, List.set_cons_succ]
      refine wpAnyH_take (i := 2) (v := ?_) rfl (by kernel_rfl) (by kernel_rfl) (by kernel_rfl) (fun _ _ _ h => h) (Or.inl ⟨by rfl, ?_⟩) (by assumption) ?_
      rotate_left
      · (intro w hSw; (try dsimp only at hSw); go_simp; try with_reducible rfl)
      try simp only [List.getElem_toArray, List.getElem_cons_zero, List.getElem_cons_succ, Act.put, List.setIfInBounds_toArray, List.set_cons_zero, List.set_cons_succ]
      refine wpAnyH_take (i := 3) (v := ?_) rfl (by kernel_rfl) (by kernel_rfl) (by kernel_rfl) (fun _ _ _ h => h) (Or.inl ⟨by rfl, ?_⟩) (by assumption) ?_
      rotate_left
      · (intro w hSw; (try dsimp only at hSw); go_simp; try with_reducible rfl)
      try simp only [List.getElem_toArray, List.getElem_cons_zero, List.getElem_cons_succ, Act.put, List.setIfInBounds_toArray, List.set_cons_zero, List.set_cons_succ]
      refine wpAnyH_ready (rs := [4, 6]) (by kernel_rfl) (by simp) ?_
      refine (AllReadyH.cons rfl (fun K hK => ?_) (AllReadyH.cons rfl (fun K hK => ?_) AllReadyH.nil))
      · skip
        refine step_make rfl (.tmp 19) rfl ns.length rfl (by omega) ?_
        intro v1 hin4 hg4
        have h4s : w.heap.size ≤ v0.heap.size := BS.out.size
        have h4z := hg4.size
        have IM := Lib.hid (show Ints w.heap.size v1 (.slice (some ⟨v0.heap.size, 0, none⟩) ns.length ns.length) (List.replicate ns.length 0) from hin4.mono h4s)
        have HG4 := Lib.hid (show v0.heap.size < v1.heap.size from by have := (IM.out.lt v0.heap.size rfl).2; exact this)
        replace XS := Lib.hid (XS.out.kept hg4 (by simp))
        replace BS := Lib.hid (BS.out.grown hg4 h4s (fun k hk => by cases hk))
        clear hin4 hg4
        generalize hG : v0.heap.size = G at *
        refine hK.out _ _ (by exact ⟨XS.out.out.at0, XS.out.out.at1⟩) (fun hHeld => ?_)
        clear hK K
        try simp only [List.getElem_toArray, List.getElem_cons_zero, List.getElem_cons_succ, Act.put, List.setIfInBounds_toArray, List.set_cons_zero, List.set_cons_succ]
        refine wpAnyH_take (i := 5) (v := ?_) rfl (by kernel_rfl) (by kernel_rfl) (by kernel_rfl) (fun _ _ _ h => h) (Or.inl ⟨by rfl, ?_⟩) (by assumption) ?_
        rotate_left
        · (intro w hSw; (try dsimp only at hSw); go_simp; try with_reducible rfl)
        try simp only [List.getElem_toArray, List.getElem_cons_zero, List.getElem_cons_succ, Act.put, List.setIfInBounds_toArray, List.set_cons_zero, List.set_cons_succ]
        refine wpAnyH_ready (rs := [6]) (by kernel_rfl) (by simp) ?_
        refine (AllReadyH.cons rfl (fun K hK => ?_) AllReadyH.nil)
        try simp only [List.getElem_toArray]
        go_simp
        have h6s : w.heap.size ≤ v1.heap.size := BS.out.size
        have RS := Lib.hid (Rpb.new 0 (.slice none 0 0) (.slice none 0 0) v1)
        have HO6 := Lib.hid (show w.heap.size < v1.heap.size from XS.out.lt)
        have HR6 := Lib.hid (show v1.heap.size < (v1.alloc (Obj.cells #[.int .i64 0, .slice none 0 0, .slice none 0 0] 89)).heap.size by simp)
        replace XS := Lib.hid (XS.out.alloc (Obj.cells #[.int .i64 0, .slice none 0 0, .slice none 0 0] 89))
        replace BS := Lib.hid (BS.out.alloc h6s (Obj.cells #[.int .i64 0, .slice none 0 0, .slice none 0 0] 89))
        replace IM := Lib.hid (IM.out.alloc (Obj.cells #[.int .i64 0, .slice none 0 0, .slice none 0 0] 89))
        generalize hR : v1.heap.size = R at *
        generalize (v1.alloc (Obj.cells #[.int .i64 0, .slice none 0 0, .slice none 0 0] 89)) = v2 at *
        refine hK.out _ _ (by exact ⟨XS.out.out.at0, XS.out.out.at1⟩) (fun hHeld => ?_)
        clear hK K
        try simp only [List.getElem_toArray, List.getElem_cons_zero, List.getElem_cons_succ, Act.put, List.setIfInBounds_toArray, List.set_cons_zero, List.set_cons_succ]
        refine wpAnyH_ready (rs := [7]) (by kernel_rfl) (by simp) ?_
        refine (AllReadyH.cons rfl (fun K hK => ?_) AllReadyH.nil)
        try simp only [List.getElem_toArray]
        have r0 := RS.out.at0
        have r1 := RS.out.at1
        have r2 := RS.out.at2
        have q0 := RS.out.fr0
        have q1 := RS.out.fr1
        have q2 := RS.out.fr2
        go_simp
        clear r0 r1 r2 q0 q1 q2
        have hGR : G ≠ R := by have := HG4.out; omega
        replace XS := Lib.hid (((XS.out.other (p := R) (j := 0) (by have := HO6.out; omega) (.int .i64 (m : Int))).other (p := R) (j := 1) (by have := HO6.out; omega) (.slice a ns.length cap)).other (p := R) (j := 2) (by have := HO6.out; omega) (.slice (some ⟨G, 0, none⟩) ns.length ns.length))
        replace BS := Lib.hid (((BS.out.setCell (p := ⟨R, 0, none⟩) (by have := HO6.out; show w.heap.size ≤ R; omega) (.int .i64 (m : Int))).setCell (p := ⟨R, 1, none⟩) (by have := HO6.out; show w.heap.size ≤ R; omega) (.slice a ns.length cap)).setCell (p := ⟨R, 2, none⟩) (by have := HO6.out; show w.heap.size ≤ R; omega) (.slice (some ⟨G, 0, none⟩) ns.length ns.length))
        replace IM := Lib.hid (((IM.out.offset (p := R) (j := 0) hGR (.int .i64 (m : Int))).offset (p := R) (j := 1) hGR (.slice a ns.length cap)).offset (p := R) (j := 2) hGR (.slice (some ⟨G, 0, none⟩) ns.length ns.length))
        replace RS := Lib.hid (((RS.out.set0 (m : Int)).set1 (.slice a ns.length cap)).set2 (.slice (some ⟨G, 0, none⟩) ns.length ns.length))
        generalize hW9 : World.setCell _ _ _ = v3 at *
        refine hK.out _ _ (by exact ⟨XS.out.out.at0, XS.out.out.at1⟩) (fun hHeld => ?_)
        clear hK K
        try simp only [List.getElem_toArray, List.getElem_cons_zero, List.getElem_cons_succ, Act.put, List.setIfInBounds_toArray, List.set_cons_zero, List.set_cons_succ]
        refine wpAnyH_done (by kernel_rfl) ?_ _
        have hgv : w.heap.size ≤ G := (IM.out.lt G rfl).1
        have hgw : G < v3.heap.size := (IM.out.lt G rfl).2
        have PS := Lib.hid (show Pst (2 ^ m) G ns.length w v3 v3 [] (List.replicate ns.length 0) from ⟨Nat.zero_le _, fun x hx => (by cases hx), List.length_replicate, fun j hj => absurd hj (Nat.not_lt_zero j), IM.out, BS.out, World.grownBy.refl _ _⟩)
        have d0 := RS.out.at0
        have d1 := RS.out.at1
        have d2 := RS.out.at2
        go_wp2_with fail
        refine (HF.out G _ _ H.out PS.out hgv hgw).mono ?_
        rintro e w9 ⟨hb9, hg9, he⟩
        have BE := Lib.hid hb9
        have R9 := Lib.hid (RS.out.keptG hg9 (fun e => hGR e.symm))
        clear d0 d1 d2
        cases A with
        | none =>
          subst he
          go_wp2_with fail
          refine bodyPost_ret (v := .tuple #[.slice none 0 0, .bool false]) (by simp [results, Tryd.results40, go_sem]) rfl ?_
          exact ⟨none, 0, rfl, Ints.nil _ _, BE.out⟩
        | some r =>
          obtain ⟨rfl, hin8⟩ := he
          have I8 := Lib.hid hin8
          have HLn := Lib.hid (show (toI r).length = ns.length by rw [toI_length]; exact HLA.out r rfl)
          clear hin8
          have d0 := R9.out.at0
          have d1 := R9.out.at1
          have d2 := R9.out.at2
          go_wp2_with fail
          refine bodyPost_ret (v := .tuple #[.slice (some ⟨G, 0, none⟩) ns.length ns.length, .bool true]) (by simp [results, Tryd.results40, go_sem]) rfl ?_
          exact ⟨some ⟨G, 0, none⟩, ns.length, by rw [optL, HLn.out]; rfl, by rw [optL, HLn.out]; exact I8.out, BE.out⟩
      · skip
        try simp only [List.getElem_toArray]
        go_simp
        have h6s : w.heap.size ≤ v0.heap.size := BS.out.size
        have RS := Lib.hid (Rpb.new 0 (.slice none 0 0) (.slice none 0 0) v0)
        have HO6 := Lib.hid (show w.heap.size < v0.heap.size from XS.out.lt)
        have HR6 := Lib.hid (show v0.heap.size < (v0.alloc (Obj.cells #[.int .i64 0, .slice none 0 0, .slice none 0 0] 89)).heap.size by simp)
        replace XS := Lib.hid (XS.out.alloc (Obj.cells #[.int .i64 0, .slice none 0 0, .slice none 0 0] 89))
        replace BS := Lib.hid (BS.out.alloc h6s (Obj.cells #[.int .i64 0, .slice none 0 0, .slice none 0 0] 89))
        generalize hR : v0.heap.size = R at *
        generalize (v0.alloc (Obj.cells #[.int .i64 0, .slice none 0 0, .slice none 0 0] 89)) = v1 at *
        refine hK.out _ _ (by exact ⟨XS.out.out.at0, XS.out.out.at1⟩) (fun hHeld => ?_)
        clear hK K
        try simp only [List.getElem_toArray, List.getElem_cons_zero, List.getElem_cons_succ, Act.put, List.setIfInBounds_toArray, List.set_cons_zero, List.set_cons_succ]
        refine wpAnyH_ready (rs := [4]) (by kernel_rfl) (by simp) ?_
        refine (AllReadyH.cons rfl (fun K hK => ?_) AllReadyH.nil)
        refine step_make rfl (.tmp 19) rfl ns.length rfl (by omega) ?_
        intro v2 hin4 hg4
        have h4s : w.heap.size ≤ v1.heap.size := BS.out.size
        have h4z := hg4.size
        have IM := Lib.hid (show Ints w.heap.size v2 (.slice (some ⟨v1.heap.size, 0, none⟩) ns.length ns.length) (List.replicate ns.length 0) from hin4.mono h4s)
        have HG4 := Lib.hid (show v1.heap.size < v2.heap.size from by have := (IM.out.lt v1.heap.size rfl).2; exact this)
        replace XS := Lib.hid (XS.out.kept hg4 (by simp))
        replace BS := Lib.hid (BS.out.grown hg4 h4s (fun k hk => by cases hk))
        replace RS := Lib.hid (RS.out.kept hg4)
        clear hin4 hg4
        generalize hG : v1.heap.size = G at *
        refine hK.out _ _ (by exact ⟨XS.out.out.at0, XS.out.out.at1⟩) (fun hHeld => ?_)
        clear hK K
        try simp only [List.getElem_toArray, List.getElem_cons_zero, List.getElem_cons_succ, Act.put, List.setIfInBounds_toArray, List.set_cons_zero, List.set_cons_succ]
        refine wpAnyH_take (i := 5) (v := ?_) rfl (by kernel_rfl) (by kernel_rfl) (by kernel_rfl) (fun _ _ _ h => h) (Or.inl ⟨by rfl, ?_⟩) (by assumption) ?_
        rotate_left
        · (intro w hSw; (try dsimp only at hSw); go_simp; try with_reducible rfl)
        try simp only [List.getElem_toArray, List.getElem_cons_zero, List.getElem_cons_succ, Act.put, List.setIfInBounds_toArray, List.set_cons_zero, List.set_cons_succ]
        refine wpAnyH_ready (rs := [7]) (by kernel_rfl) (by simp) ?_
        refine (AllReadyH.cons rfl (fun K hK => ?_) AllReadyH.nil)
        try simp only [List.getElem_toArray]
        have r0 := RS.out.at0
        have r1 := RS.out.at1
        have r2 := RS.out.at2
        have q0 := RS.out.fr0
        have q1 := RS.out.fr1
        have q2 := RS.out.fr2
        go_simp
        clear r0 r1 r2 q0 q1 q2
        have hGR : G ≠ R := by have := HR6.out; omega
        replace XS := Lib.hid (((XS.out.other (p := R) (j := 0) (by have := HO6.out; omega) (.int .i64 (m : Int))).other (p := R) (j := 1) (by have := HO6.out; omega) (.slice a ns.length cap)).other (p := R) (j := 2) (by have := HO6.out; omega) (.slice (some ⟨G, 0, none⟩) ns.length ns.length))
        replace BS := Lib.hid (((BS.out.setCell (p := ⟨R, 0, none⟩) (by have := HO6.out; show w.heap.size ≤ R; omega) (.int .i64 (m : Int))).setCell (p := ⟨R, 1, none⟩) (by have := HO6.out; show w.heap.size ≤ R; omega) (.slice a ns.length cap)).setCell (p := ⟨R, 2, none⟩) (by have := HO6.out; show w.heap.size ≤ R; omega) (.slice (some ⟨G, 0, none⟩) ns.length ns.length))
        replace IM := Lib.hid (((IM.out.offset (p := R) (j := 0) hGR (.int .i64 (m : Int))).offset (p := R) (j := 1) hGR (.slice a ns.length cap)).offset (p := R) (j := 2) hGR (.slice (some ⟨G, 0, none⟩) ns.length ns.length))
        replace RS := Lib.hid (((RS.out.set0 (m : Int)).set1 (.slice a ns.length cap)).set2 (.slice (some ⟨G, 0, none⟩) ns.length ns.length))
        generalize hW9 : World.setCell _ _ _ = v3 at *
        refine hK.out _ _ (by exact ⟨XS.out.out.at0, XS.out.out.at1⟩) (fun hHeld => ?_)
        clear hK K
        try simp only [List.getElem_toArray, List.getElem_cons_zero, List.getElem_cons_succ, Act.put, List.setIfInBounds_toArray, List.set_cons_zero, List.set_cons_succ]
        refine wpAnyH_done (by kernel_rfl) ?_ _
        have hgv : w.heap.size ≤ G := (IM.out.lt G rfl).1
        have hgw : G < v3.heap.size := (IM.out.lt G rfl).2
        have PS := Lib.hid (show Pst (2 ^ m) G ns.length w v3 v3 [] (List.replicate ns.length 0) from ⟨Nat.zero_le _, fun x hx => (by cases hx), List.length_replicate, fun j hj => absurd hj (Nat.not_lt_zero j), IM.out, BS.out, World.grownBy.refl _ _⟩)
        have d0 := RS.out.at0
        have d1 := RS.out.at1
        have d2 := RS.out.at2
        go_wp2_with fail
        refine (HF.out G _ _ H.out PS.out hgv hgw).mono ?_
        rintro e w9 ⟨hb9, hg9, he⟩
        have BE := Lib.hid hb9
        have R9 := Lib.hid (RS.out.keptG hg9 (fun e => hGR e.symm))
        clear d0 d1 d2
        cases A with
        | none =>
          subst he
          go_wp2_with fail
          refine bodyPost_ret (v := .tuple #[.slice none 0 0, .bool false]) (by simp [results, Tryd.results40, go_sem]) rfl ?_
          exact ⟨none, 0, rfl, Ints.nil _ _, BE.out⟩
        | some r =>
          obtain ⟨rfl, hin8⟩ := he
          have I8 := Lib.hid hin8
          have HLn := Lib.hid (show (toI r).length = ns.length by rw [toI_length]; exact HLA.out r rfl)
          clear hin8
          have d0 := R9.out.at0
          have d1 := R9.out.at1
          have d2 := R9.out.at2
          go_wp2_with fail
          refine bodyPost_ret (v := .tuple #[.slice (some ⟨G, 0, none⟩) ns.length ns.length, .bool true]) (by simp [results, Tryd.results40, go_sem]) rfl ?_
          exact ⟨some ⟨G, 0, none⟩, ns.length, by rw [optL, HLn.out]; rfl, by rw [optL, HLn.out]; exact I8.out, BE.out⟩
    · rw [frpL, frpB, frpO_many hl]
      have hlI : (7 : Int) < (zs.length : Int) := by omega
      have hld : decide ((7 : Int) < (zs.length : Int)) = true := decide_eq_true hlI
      clear hv
      go_enter Tryd.func40, Tryd.ntmps40
      go_wp2_with fail
      refine (HV.out _ (H.out.below B.out (Nat.le_refl _))).mono ?_
      rintro e w1 ⟨rfl, hb⟩
      have X1 := Lib.hid (X.out.next hb X.out.lt)
      have B1 := Lib.hid (B.out.trans (hb.mono B.out.size))
      clear hb X B
      have c0 := X1.out.out.at0
      have c1 := X1.out.out.at1
      go_wp2_with fail
      refine bodyPost_ret (v := .tuple #[.slice none 0 0, .bool false]) (by simp [results, Tryd.results40, go_sem]) rfl ?_
      exact ⟨none, 0, rfl, Ints.nil _ _, B1.out⟩
  · rw [Bool.not_eq_true] at hv
    rw [hv] at HV
    rw [frpL, frpB, frpO_bad hv]
    clear hv
    go_enter Tryd.func40, Tryd.ntmps40
    go_wp2_with fail
    refine (HV.out _ (H.out.below B.out (Nat.le_refl _))).mono ?_
    rintro e w1 ⟨rfl, hb⟩
    have X1 := Lib.hid (X.out.next hb X.out.lt)
    have B1 := Lib.hid (B.out.trans (hb.mono B.out.size))
    clear hb X B
    have c0 := X1.out.out.at0
    have c1 := X1.out.out.at1
    go_wp2_with fail
    refine bodyPost_ret (v := .tuple #[.slice none 0 0, .bool false]) (by simp [results, Tryd.results40, go_sem]) rfl ?_
    exact ⟨none, 0, rfl, Ints.nil _ _, B1.out⟩

end Go.Proofs.YtnoppclajhfnjabDoor
