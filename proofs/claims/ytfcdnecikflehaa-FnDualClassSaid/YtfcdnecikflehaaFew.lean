/- A class of few sets that the laws draw: fewClass. Conditions: the reader has drawn at most 80000 numbers. -/
import Derived.Test.YtfcdnecikflehaaThin
namespace Go.Proofs.Ytfcdnecikflehaa
open Go.RowKit

/-- the length of the slice in a cell -/
def lenC : Option Value → Nat
  | some (.slice _ n _) => n
  | _ => 0
theorem Cls.erase {m : Nat} {ns : List Nat} (h : Cls m ns) (k : Nat) : Cls m (ns.take k ++ ns.drop (k + 1)) := by
  have hs : List.Sublist (ns.take k ++ ns.drop (k + 1)) ns := by
    have h1 : List.Sublist (ns.take k ++ ns.drop (k + 1)) (ns.take k ++ ns.drop k) := List.Sublist.append (List.Sublist.refl _) (by
      rw [show ns.drop (k + 1) = (ns.drop k).drop 1 by rw [List.drop_drop]]
      exact List.drop_sublist 1 _)
    rw [List.take_append_drop] at h1
    exact h1
  exact ⟨h.pts, h.asc.sublist hs, fun y hy => h.lt y (hs.subset hy)⟩

set_option maxHeartbeats 6400000 in
set_option maxRecDepth 100000 in
theorem specFewClass (B R p : Nat) (hp : p ≤ 80000) (w : World) (h : Rdr B R p w) :
    Calls Try.prog 21 #[.pointer (some ⟨R, 0, none⟩)] w fun e w' => ∃ n : Nat, n ≤ 5 ∧ GotCls B R n (p + 130) w e w' := by
  have hRB := h.1
  have hBw := h.2.1
  have HY := Lib.hid (Bx.new 0 (.slice none 0 0) w)
  have HS := Lib.hid (specSmallClass B R p hp _ (h.alloc (Obj.cells #[.int .i64 0, .slice none 0 0] 25)))
  have HZ := Lib.hid (show (w.alloc (Obj.cells #[.int .i64 0, .slice none 0 0] 25)).heap.size = w.heap.size + 1 by simp)
  have HG0 := Lib.hid (show w.grownBy (w.alloc (Obj.cells #[.int .i64 0, .slice none 0 0] 25)) (some R) from World.grownBy_alloc _ _ _)
  clear h
  go_enter Try.func21, Try.ntmps21
  go_wp2_with fail
  generalize w.alloc (Obj.cells #[.int .i64 0, .slice none 0 0] 25) = w0 at *
  have hz0 := HZ.out
  refine HS.out.mono ?_
  rintro e w1 ⟨m, hm, a1, c1, p1, ns, rfl, hin1, hcls, hp1, hr1, hg1⟩
  have hz1 := hg1.size
  have X1 := Lib.hid (Bx.new m (.slice a1 ns.length c1) w1)
  have Y1 := Lib.hid ((HY.out.kept hg1 (by simp; omega)).alloc (Obj.cells #[.int .i64 m, .slice a1 ns.length c1] 25))
  have I1 := Lib.hid ((hin1.mono (show w.heap.size + 1 ≤ w0.heap.size by omega)).alloc (Obj.cells #[.int .i64 m, .slice a1 ns.length c1] 25))
  have R1 := Lib.hid (hr1.alloc (Obj.cells #[.int .i64 m, .slice a1 ns.length c1] 25))
  have G1 := Lib.hid (grownBy_trans (grownBy_trans HG0.out hg1) (World.grownBy_alloc w1 (Obj.cells #[.int .i64 m, .slice a1 ns.length c1] 25) (some R)))
  have HZ1 := Lib.hid (show (w1.alloc (Obj.cells #[.int .i64 m, .slice a1 ns.length c1] 25)).heap.size = w1.heap.size + 1 by simp)
  have HC := Lib.hid hcls
  clear hin1 hcls hr1 hg1 HS HY HG0
  go_wp2_with fail
  generalize w1.alloc (Obj.cells #[.int .i64 m, .slice a1 ns.length c1] 25) = w2 at *
  have hz2 := HZ1.out
  generalize ho : w1.heap.size = o at *
  have c1' := X1.out.out.at1
  go_loopw [4] (fun kv wr => ∃ (a' : Option Addr) (c' p' : Nat) (ms : List Nat), Cls m ms ∧ Ints (w.heap.size + 1) wr (.slice a' ms.length c') (toI ms) ∧ Bx m (.slice a' ms.length c') o wr ∧ Bx 0 (.slice none 0 0) w.heap.size wr ∧ p' + 2 * ms.length ≤ p + 128 ∧ Rdr B R p' wr ∧ w.grownBy wr (some R)) (fun _ wr => lenC (wr.cell? ⟨o, 1, none⟩))
  case atStart => exact ⟨a1, c1, p1, ns, HC.out, I1.out, X1.out, Y1.out, by have := HC.out.length; omega, R1.out, G1.out⟩
  case round =>
    obtain ⟨a', c', p', ms, hcls, hin, hx, hy, hpp, hr, hg⟩ := hrel
    have HCL := Lib.hid hcls
    have HI := Lib.hid hin
    have HX := Lib.hid hx
    have HY := Lib.hid hy
    have HR := Lib.hid hr
    have HG := Lib.hid hg
    have hzr := hg.size
    have hm32 := hcls.length
    have hor := hx.lt
    have hc1 := hx.out.at1
    have HM := Lib.hid hc1
    clear hcls hin hx hy hr hg
    by_cases h7 : 7 < ms.length
    · have h7I : (7 : Int) < (ms.length : Int) := by omega
      go_wp2_with fail
      refine (specPick B R (p') (ms.length : Int) (by omega) _ HR.out).mono ?_
      rintro e w5 ⟨⟨k, rfl, hk⟩, hr5, hg5⟩
      have hz5 := hg5.size
      have hkl : k < ms.length := by omega
      have X5 := Lib.hid (HX.out.kept hg5 (by simp; omega))
      have Y5 := Lib.hid (HY.out.kept hg5 (by simp; omega))
      have I5 := Lib.hid (HI.out.pick (by omega) hg5)
      have R5 := Lib.hid hr5
      have G5 := Lib.hid (grownBy_trans HG.out hg5)
      clear hr5 hg5
      obtain ⟨a9, g, cap9, hv9, hs1, hs2, -, hs4, -, -⟩ := I5.out.shape
      rw [toI_length] at hv9
      simp only [Value.slice.injEq, true_and] at hv9
      obtain ⟨rfl, rfl⟩ := hv9
      have hne : a' ≠ none := fun hn => by
        have h2 := congrArg List.length (hs2 hn).1
        rw [toI_length, List.length_nil] at h2
        omega
      obtain rfl := hs1.resolve_right hne
      clear hs1 hs2 hs4 hne
      have hcap := I5.out.len_le_cap
      obtain ⟨q, hq⟩ : ∃ q, q = k + 1 := ⟨_, rfl⟩
      have SA := Lib.hid (I5.out.src_take k (by omega) c')
      have ICL := Lib.hid (HCL.out.erase k)
      rw [← hq] at ICL
      have HT2 := Lib.hid (show (toI ms).take k ++ (toI ms).drop q = toI (ms.take k ++ ms.drop q) from by rw [toI_append, toI, toI, toI, List.map_take, List.map_drop])
      obtain ⟨l, hl⟩ : ∃ l, l = ms.length - 1 := ⟨_, rfl⟩
      have HLn := Lib.hid (show (ms.take k ++ ms.drop q).length = l by rw [List.length_append, List.length_take, List.length_drop]; omega)
      have HTl := Lib.hid (show ((toI ms).take k).length = k by rw [List.length_take, toI_length]; omega)
      have hkq : IntKind.i64.wrap ((k : Int) + 1) = (q : Int) := by rw [IntKind.wrap_i64]; omega
      have hkI : (k : Int) < (ms.length : Int) := by omega
      have hkc : (k : Int) ≤ (c' : Int) := by omega
      have hqL : (q : Int) ≤ (ms.length : Int) := by omega
      have hLc : (ms.length : Int) ≤ (c' : Int) := by omega
      have hqN : q ≤ ms.length := by omega
      have hl1 : l + 1 = ms.length := by omega
      have HQ := Lib.hid hq
      have HL1 := Lib.hid hl1
      clear hq hl hl1 hc1
      have x1 := X5.out.out.at1
      have u1 := X5.out.out.free1
      have x1a := (X5.out.alloc (Obj.cells #[] 3)).out.at1
      go_wp2_with fail
      go_region_law (first
        | (refine step_app rfl (.tmp 27) (.tmp 31) rfl w5.heap.size _ [] rfl (by first | exact Ints.lit' (by simp) (by simp) | exact (Ints.lit' (by simp) (by simp)).alloc _) _ _ _ ((toI ms).take k) rfl (by exact SA.out.below (by go_grown)) (by simp; omega) (by first | (simp; done) | (simp; omega)) ?_
           intro a6 c6 w6 hin6 hb6 hg6
           have hW6 : Below w5.heap.size w5 w6 := Below.trans (by go_grown) hb6
           simp only [List.length_nil, Nat.zero_add, List.nil_append] at hin6
           have hs6 : w5.heap.size ≤ w6.heap.size := hW6.size
           have HI6 := Lib.hid hin6
           have HW6 := Lib.hid hW6
           have X6 := Lib.hid (X5.out.next hW6 (by omega))
           have x1b := X6.out.out.at1
           have u1b := X6.out.out.free1
           clear hin6 hb6 hg6 hW6)
        | (refine step_app rfl (.tmp 32) (.tmp 37) rfl w5.heap.size _ ((toI ms).take k) rfl (by first | exact HI6.out | exact (show Ints _ (World.drew _) _ _ from HI6.out)) _ _ _ ((toI ms).drop q) rfl (by first | exact (I5.out.below HW6.out (Nat.le_refl _)).src_drop q (by omega) _ _ (by split <;> simp) (fun h => if_neg (by omega)) | exact (show Ints _ (World.drew _) _ _ from (I5.out.below HW6.out (Nat.le_refl _))).src_drop q (by omega) _ _ (by split <;> simp) (fun h => if_neg (by omega))) (by rw [HTl.out]; omega) (by first | exact hs6 | (simp; omega)) ?_
           intro a7 c7 w7 hin7 hb7 hg7
           have hW7 : Below w5.heap.size w5 w7 := HW6.out.trans (by first | exact hb7 | exact Below.trans ((Below.refl _ _).drew) hb7)
           rw [show ((toI ms).take k).length + (ms.length - q) = l from by rw [HTl.out]; have := HQ.out; have := HL1.out; omega] at hin7 ⊢
           rw [HT2.out] at hin7
           have I7 := Lib.hid hin7
           have HW7 := Lib.hid hW7
           have X7 := Lib.hid (X5.out.next hW7 (by omega))
           have x1c := X7.out.out.at1
           have u1c := X7.out.out.free1
           clear hin7 hb7 hg7 hW7))
      all_goals
        have hz7 := HW7.out.size
        have Y7 := Lib.hid (Y5.out.next HW7.out (by omega))
        have R7 := Lib.hid (R5.out.next HW7.out (by omega))
        have G7 := Lib.hid (grown_next G5.out HW7.out)
        go_wp2_with fail
        go_roundw
        case rel =>
          refine ⟨a7, c7, p' + 1, ms.take k ++ ms.drop q, ICL.out, ?_, ?_, ?_, ?_, ?_, ?_⟩
          · rw [HLn.out]; exact (I7.out.mono (by omega)).bx X7.out 1 _
          · rw [HLn.out]; exact X7.out.set _
          · exact Y7.out.other (by omega) _
          · rw [HLn.out]; show p' + 1 + 2 * l ≤ p + 128; have := HL1.out; omega
          · exact R7.out.set (by omega) _
          · exact grown_set G7.out (by omega) _
        case measure =>
          rw [show (w7.setCell ⟨o, 1, none⟩ (.slice a7 l c7)).cell? ⟨o, 1, none⟩ = some (.slice a7 l c7) from (X7.out.set _).out.at1, HM.out]
          show l < ms.length
          have := HL1.out
          omega
    · by_cases h5 : 5 < ms.length
      · have h7I : ¬ (7 : Int) < (ms.length : Int) := by omega
        have h5I : (5 : Int) < (ms.length : Int) := by omega
        go_wp2_with fail
        refine (specPick B R p' 3 (by omega) _ HR.out).mono ?_
        rintro e w4 ⟨⟨x, rfl, hx3⟩, hr4, hg4⟩
        have hz4 := hg4.size
        have X4 := Lib.hid (HX.out.kept hg4 (by simp; omega))
        have Y4 := Lib.hid (HY.out.kept hg4 (by simp; omega))
        have I4 := Lib.hid (HI.out.pick (by omega) hg4)
        have R4 := Lib.hid hr4
        have G4 := Lib.hid (grownBy_trans HG.out hg4)
        clear hr4 hg4
        by_cases hx0 : x = 0
        · subst hx0
          clear hc1
          have x0 := X4.out.out.at0
          have x1 := X4.out.out.at1
          have r0 := Y4.out.out.at0
          have r1 := Y4.out.out.at1
          have q0 := Y4.out.out.free0
          have q1 := Y4.out.out.free1
          go_wp2_with fail
          refine bodyPost_ret (v := .agg #[.int .i64 (m : Int), .slice a' ms.length c']) (by simp [results, Try.results21, go_sem, r0, r1]) rfl ?_
          refine ⟨m, hm, a', c', p' + 1, ms, rfl, ?_, HCL.out, (by omega), ?_, ?_⟩
          · refine Ints.mono (B := w.heap.size + 1) ?_ (by omega)
            repeat (refine Ints.setCell_below ?_ (by simp) _)
            exact I4.out
          · repeat (refine Rdr.set ?_ (by omega) _)
            exact R4.out
          · repeat (refine grown_set ?_ (Nat.le_refl _) _)
            exact G4.out
        · have hx0I : (0 : Int) < (x : Int) := by omega
          clear hc1
          have hc1 := X4.out.out.at1
          go_wp2_with fail
          refine (specPick B R (p' + 1) (ms.length : Int) (by omega) _ R4.out).mono ?_
          rintro e w5 ⟨⟨k, rfl, hk⟩, hr5, hg5⟩
          have hz5 := hg5.size
          have hkl : k < ms.length := by omega
          have X5 := Lib.hid (X4.out.kept hg5 (by simp; omega))
          have Y5 := Lib.hid (Y4.out.kept hg5 (by simp; omega))
          have I5 := Lib.hid (I4.out.pick (by omega) hg5)
          have R5 := Lib.hid hr5
          have G5 := Lib.hid (grownBy_trans G4.out hg5)
          clear hr5 hg5
          obtain ⟨a9, g, cap9, hv9, hs1, hs2, -, hs4, -, -⟩ := I5.out.shape
          rw [toI_length] at hv9
          simp only [Value.slice.injEq, true_and] at hv9
          obtain ⟨rfl, rfl⟩ := hv9
          have hne : a' ≠ none := fun hn => by
            have h2 := congrArg List.length (hs2 hn).1
            rw [toI_length, List.length_nil] at h2
            omega
          obtain rfl := hs1.resolve_right hne
          clear hs1 hs2 hs4 hne
          have hcap := I5.out.len_le_cap
          obtain ⟨q, hq⟩ : ∃ q, q = k + 1 := ⟨_, rfl⟩
          have SA := Lib.hid (I5.out.src_take k (by omega) c')
          have ICL := Lib.hid (HCL.out.erase k)
          rw [← hq] at ICL
          have HT2 := Lib.hid (show (toI ms).take k ++ (toI ms).drop q = toI (ms.take k ++ ms.drop q) from by rw [toI_append, toI, toI, toI, List.map_take, List.map_drop])
          obtain ⟨l, hl⟩ : ∃ l, l = ms.length - 1 := ⟨_, rfl⟩
          have HLn := Lib.hid (show (ms.take k ++ ms.drop q).length = l by rw [List.length_append, List.length_take, List.length_drop]; omega)
          have HTl := Lib.hid (show ((toI ms).take k).length = k by rw [List.length_take, toI_length]; omega)
          have hkq : IntKind.i64.wrap ((k : Int) + 1) = (q : Int) := by rw [IntKind.wrap_i64]; omega
          have hkI : (k : Int) < (ms.length : Int) := by omega
          have hkc : (k : Int) ≤ (c' : Int) := by omega
          have hqL : (q : Int) ≤ (ms.length : Int) := by omega
          have hLc : (ms.length : Int) ≤ (c' : Int) := by omega
          have hqN : q ≤ ms.length := by omega
          have hl1 : l + 1 = ms.length := by omega
          have HQ := Lib.hid hq
          have HL1 := Lib.hid hl1
          clear hq hl hl1 hc1
          have x1 := X5.out.out.at1
          have u1 := X5.out.out.free1
          have x1a := (X5.out.alloc (Obj.cells #[] 3)).out.at1
          go_wp2_with fail
          go_region_law (first
            | (refine step_app rfl (.tmp 27) (.tmp 31) rfl w5.heap.size _ [] rfl (by first | exact Ints.lit' (by simp) (by simp) | exact (Ints.lit' (by simp) (by simp)).alloc _) _ _ _ ((toI ms).take k) rfl (by exact SA.out.below (by go_grown)) (by simp; omega) (by first | (simp; done) | (simp; omega)) ?_
               intro a6 c6 w6 hin6 hb6 hg6
               have hW6 : Below w5.heap.size w5 w6 := Below.trans (by go_grown) hb6
               simp only [List.length_nil, Nat.zero_add, List.nil_append] at hin6
               have hs6 : w5.heap.size ≤ w6.heap.size := hW6.size
               have HI6 := Lib.hid hin6
               have HW6 := Lib.hid hW6
               have X6 := Lib.hid (X5.out.next hW6 (by omega))
               have x1b := X6.out.out.at1
               have u1b := X6.out.out.free1
               clear hin6 hb6 hg6 hW6)
            | (refine step_app rfl (.tmp 32) (.tmp 37) rfl w5.heap.size _ ((toI ms).take k) rfl (by first | exact HI6.out | exact (show Ints _ (World.drew _) _ _ from HI6.out)) _ _ _ ((toI ms).drop q) rfl (by first | exact (I5.out.below HW6.out (Nat.le_refl _)).src_drop q (by omega) _ _ (by split <;> simp) (fun h => if_neg (by omega)) | exact (show Ints _ (World.drew _) _ _ from (I5.out.below HW6.out (Nat.le_refl _))).src_drop q (by omega) _ _ (by split <;> simp) (fun h => if_neg (by omega))) (by rw [HTl.out]; omega) (by first | exact hs6 | (simp; omega)) ?_
               intro a7 c7 w7 hin7 hb7 hg7
               have hW7 : Below w5.heap.size w5 w7 := HW6.out.trans (by first | exact hb7 | exact Below.trans ((Below.refl _ _).drew) hb7)
               rw [show ((toI ms).take k).length + (ms.length - q) = l from by rw [HTl.out]; have := HQ.out; have := HL1.out; omega] at hin7 ⊢
               rw [HT2.out] at hin7
               have I7 := Lib.hid hin7
               have HW7 := Lib.hid hW7
               have X7 := Lib.hid (X5.out.next hW7 (by omega))
               have x1c := X7.out.out.at1
               have u1c := X7.out.out.free1
               clear hin7 hb7 hg7 hW7))
          all_goals
            have hz7 := HW7.out.size
            have Y7 := Lib.hid (Y5.out.next HW7.out (by omega))
            have R7 := Lib.hid (R5.out.next HW7.out (by omega))
            have G7 := Lib.hid (grown_next G5.out HW7.out)
            go_wp2_with fail
            go_roundw
            case rel =>
              refine ⟨a7, c7, p' + 1 + 1, ms.take k ++ ms.drop q, ICL.out, ?_, ?_, ?_, ?_, ?_, ?_⟩
              · rw [HLn.out]; exact (I7.out.mono (by omega)).bx X7.out 1 _
              · rw [HLn.out]; exact X7.out.set _
              · exact Y7.out.other (by omega) _
              · rw [HLn.out]; show p' + 1 + 1 + 2 * l ≤ p + 128; have := HL1.out; omega
              · exact R7.out.set (by omega) _
              · exact grown_set G7.out (by omega) _
            case measure =>
              rw [show (w7.setCell ⟨o, 1, none⟩ (.slice a7 l c7)).cell? ⟨o, 1, none⟩ = some (.slice a7 l c7) from (X7.out.set _).out.at1, HM.out]
              show l < ms.length
              have := HL1.out
              omega
      · have h7I : ¬ (7 : Int) < (ms.length : Int) := by omega
        have h5I : ¬ (5 : Int) < (ms.length : Int) := by omega
        skip
        have x0 := HX.out.out.at0
        have x1 := HX.out.out.at1
        have r0 := HY.out.out.at0
        have r1 := HY.out.out.at1
        have q0 := HY.out.out.free0
        have q1 := HY.out.out.free1
        go_wp2_with fail
        refine bodyPost_ret (v := .agg #[.int .i64 (m : Int), .slice a' ms.length c']) (by simp [results, Try.results21, go_sem, r0, r1]) rfl ?_
        refine ⟨m, hm, a', c', p', ms, rfl, ?_, HCL.out, (by omega), ?_, ?_⟩
        · refine Ints.mono (B := w.heap.size + 1) ?_ (by omega)
          repeat (refine Ints.setCell_below ?_ (by simp) _)
          exact HI.out
        · repeat (refine Rdr.set ?_ (by omega) _)
          exact HR.out
        · repeat (refine grown_set ?_ (Nat.le_refl _) _)
          exact HG.out

end Go.Proofs.Ytfcdnecikflehaa
