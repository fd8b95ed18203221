/- The model's complementClass and ComplementClass. Conditions: Sets is a slice of small sets. -/
import Derived.Test.YtpkilacappjkhaaZB
import Derived.Test.YtpkilacappjkhaaZD
import Derived.Test.YtpkilacappjkhaaZH
namespace Go.Proofs.Ytpkilacappjkhaa
open Go.RowKit

theorem hasInt_nat (ns : List Nat) (v : Value) (y : Nat) (w : World) (h : Rd w v (toI ns)) :
    Calls Try.prog 41 #[v, .int .i64 (y : Int)] w fun e w' => e = .returned (.bool (decide (y ∈ ns))) ∧ w' = w :=
  (specHasInt v (toI ns) (y : Int) w h).mono fun _ _ ⟨he, hw⟩ => ⟨by rw [he, hasB_nat], hw.symm⟩

set_option maxHeartbeats 3200000 in
set_option maxRecDepth 100000 in
theorem specCompl (m : Nat) (hm : m ≤ 5) (v : Value) (ns : List Nat) (w : World) (h : Rd w v (toI ns)) :
    Calls Try.prog 49 #[.agg #[.int .i64 (m : Int), v]] w (RetClass m (toI (cmpl m ns)) w) := by
  have H := Lib.hid h
  obtain ⟨a, b, off, cap, rfl, h1, h3, h5⟩ := h
  clear h1 h5
  rw [toI_length] at h3 H ⊢
  have hp2 := two_pow_le m (by omega)
  obtain ⟨q, hq⟩ : ∃ q, q = (2 : Int) ^ m := ⟨_, rfl⟩
  have HPW := Lib.hid (fun w => hq ▸ power_q m hm w)
  have hq32 : 0 ≤ q ∧ q ≤ 4096 := by rw [hq]; omega
  have HQ := Lib.hid (show q = ((2 ^ m : Nat) : Int) by rw [hq]; simp)
  have hq32' : q ≤ 32 := by rw [HQ.out]; have := pow_le_32 hm; omega
  obtain ⟨K, hK⟩ : ∃ K, K = (fun s => !decide (s ∈ ns)) := ⟨_, rfl⟩
  have HK := Lib.hid hK
  clear hq hK hp2
  have OB := Lib.hid (show Out m (.slice a ns.length cap) w.heap.size ((((w.alloc (Obj.cells #[.int .i64 (m : Int), .slice a ns.length cap] 25)).alloc (Obj.cells #[.int .i64 0, .slice none 0 0] 25)).alloc (Obj.cells #[] 3)).alloc (Obj.cells #[.int .i64 (m : Int), .slice (some ⟨w.heap.size + 1 + 1, 0, none⟩) 0 0] 25)) from ⟨by simp [go_sem], by simp [go_sem], by simp [go_sem], by simp [go_sem]⟩)
  have OR := Lib.hid (show Out 0 (.slice none 0 0) (w.heap.size + 1) ((((w.alloc (Obj.cells #[.int .i64 (m : Int), .slice a ns.length cap] 25)).alloc (Obj.cells #[.int .i64 0, .slice none 0 0] 25)).alloc (Obj.cells #[] 3)).alloc (Obj.cells #[.int .i64 (m : Int), .slice (some ⟨w.heap.size + 1 + 1, 0, none⟩) 0 0] 25)) from ⟨by simp [go_sem], by simp [go_sem], by simp [go_sem], by simp [go_sem]⟩)
  have BX := Lib.hid (show Bx m (.slice (some ⟨w.heap.size + 1 + 1, 0, none⟩) 0 0) (w.heap.size + 3) ((((w.alloc (Obj.cells #[.int .i64 (m : Int), .slice a ns.length cap] 25)).alloc (Obj.cells #[.int .i64 0, .slice none 0 0] 25)).alloc (Obj.cells #[] 3)).alloc (Obj.cells #[.int .i64 (m : Int), .slice (some ⟨w.heap.size + 1 + 1, 0, none⟩) 0 0] 25)) from heap_alloc_at (by simp))
  have IN := Lib.hid (show Ints (w.heap.size + 2) ((((w.alloc (Obj.cells #[.int .i64 (m : Int), .slice a ns.length cap] 25)).alloc (Obj.cells #[.int .i64 0, .slice none 0 0] 25)).alloc (Obj.cells #[] 3)).alloc (Obj.cells #[.int .i64 (m : Int), .slice (some ⟨w.heap.size + 1 + 1, 0, none⟩) 0 0] 25)) (.slice (some ⟨w.heap.size + 1 + 1, 0, none⟩) 0 0) [] from (Ints.lit' (by simp) (by simp)).alloc _)
  have HB := Lib.hid (show Below w.heap.size w ((((w.alloc (Obj.cells #[.int .i64 (m : Int), .slice a ns.length cap] 25)).alloc (Obj.cells #[.int .i64 0, .slice none 0 0] 25)).alloc (Obj.cells #[] 3)).alloc (Obj.cells #[.int .i64 (m : Int), .slice (some ⟨w.heap.size + 1 + 1, 0, none⟩) 0 0] 25)) by go_grown)
  have HZ := Lib.hid (show (((((w.alloc (Obj.cells #[.int .i64 (m : Int), .slice a ns.length cap] 25)).alloc (Obj.cells #[.int .i64 0, .slice none 0 0] 25)).alloc (Obj.cells #[] 3)).alloc (Obj.cells #[.int .i64 (m : Int), .slice (some ⟨w.heap.size + 1 + 1, 0, none⟩) 0 0] 25))).heap.size = w.heap.size + 4 by simp)
  go_enter Try.func49, Try.ntmps49
  go_wp2_with fail
  generalize ((((w.alloc (Obj.cells #[.int .i64 (m : Int), .slice a ns.length cap] 25)).alloc (Obj.cells #[.int .i64 0, .slice none 0 0] 25)).alloc (Obj.cells #[] 3)).alloc (Obj.cells #[.int .i64 (m : Int), .slice (some ⟨w.heap.size + 1 + 1, 0, none⟩) 0 0] 25)) = w4 at *
  have hz4 := HZ.out
  go_loopw [4] (fun i wr => ∃ (k : Nat) (a' : Option Addr) (c' : Nat), (k : Int) ≤ q ∧ i = .int .i64 k ∧ Bx m (.slice a' ((List.range k).filter K).length c') (w.heap.size + 3) wr ∧ Ints (w.heap.size + 2) wr (.slice a' ((List.range k).filter K).length c') (toI ((List.range k).filter K)) ∧ Below (w.heap.size + 2) w4 wr ∧ w.heap.size + 3 < wr.heap.size) (fun i _ => 64 - (intOf i).toNat)
  case atStart => exact ⟨0, _, _, by omega, rfl, BX.out, IN.out, Below.refl _ _, by omega⟩
  case round =>
    obtain ⟨k, a', c', hk, rfl, hbx, hin, hbe, hsz⟩ := hrel
    have BX2 := Lib.hid hbx
    have IN2 := Lib.hid hin
    have HBE := Lib.hid hbe
    have OB2 := Lib.hid (OB.out.next hbe (by omega))
    have OR2 := Lib.hid (OR.out.next hbe (by omega))
    have HRD := Lib.hid (H.out.below (HB.out.trans (hbe.mono (by omega))) (Nat.le_refl _))
    clear hbx hin hbe
    have d0 := OB2.out.at0
    have d1 := OB2.out.at1
    by_cases hlt : (k : Int) < q
    · have HIX := Lib.hid (hasInt_nat ns (.slice a ns.length cap) k wr HRD.out)
      have hfl := filt_le K k
      by_cases hp : K k = true
      · have HF := Lib.hid (filt_yes hp)
        have HM := Lib.hid (show decide (k ∈ ns) = false by rw [HK.out] at hp; simpa using hp)
        have HAl := Lib.hid (toI_length ((List.range k).filter K))
        clear hp
        generalize (List.range k).filter K = A at *
        go_wp2_with fail
        refine (HPW.out _).mono ?_
        rintro e w5 ⟨rfl, rfl⟩
        go_wp2_with fail
        refine HIX.out.mono ?_
        rintro e w5 ⟨rfl, rfl⟩
        rw [HM.out]
        clear d0 d1
        have e1 := BX2.out.out.at1
        go_wp2_with (at_builtin; refine wpList_app rfl (.tmp 22) (.tmp 24) rfl (w.heap.size + 2) _ (toI A) rfl (by exact IN2.out.alloc _) _ _ _ [(k : Int)] rfl (src_cell (by rw [World.cell?_alloc_at _ _ _ _ rfl]; rfl)) (by rw [HAl.out]; omega) (by simp; omega) ?_; intro a1 c1 w3 hin3 hb3 hg3; have X3 := Lib.hid (((BX2.out.alloc _).kept hg3 (BX2.out.not_row IN2.out))); have I3 := Lib.hid hin3; have B3 := Lib.hid (HBE.out.trans (Below.trans ((Below.refl _ _).alloc (by omega) _) hb3)); have hz3 := X3.out.lt; clear hin3 hb3 hg3; have f1 := X3.out.out.at1; have g1 := X3.out.out.free1)
        rw [HAl.out] at I3
        go_roundw
        case rel => exact ⟨k + 1, a1, c1, by omega, by go_num, by rw [HF.out, HAl.out, List.length_append]; exact X3.out.set _, by rw [HF.out, HAl.out, List.length_append, toI_append]; exact I3.out.bx X3.out 1 _, B3.out.setCell (by simp) _, by simp; omega⟩
        case measure => simp [intOf]; omega
      · rw [Bool.not_eq_true] at hp
        have HF := Lib.hid (filt_no hp)
        have HM := Lib.hid (show decide (k ∈ ns) = true by rw [HK.out] at hp; simpa using hp)
        clear hp
        generalize (List.range k).filter K = A at *
        go_wp2_with fail
        refine (HPW.out _).mono ?_
        rintro e w5 ⟨rfl, rfl⟩
        go_wp2_with fail
        refine HIX.out.mono ?_
        rintro e w5 ⟨rfl, rfl⟩
        rw [HM.out]
        clear d0 d1
        go_wp2_with fail
        go_roundw
        case rel => exact ⟨k + 1, a', c', by omega, by go_num, by rw [HF.out]; exact BX2.out, by rw [HF.out]; exact IN2.out, HBE.out, hsz⟩
        case measure => simp [intOf]; omega
    · have HKe := Lib.hid (show k = 2 ^ m by have := HQ.out; omega)
      have HR := Lib.hid (show (List.range k).filter K = cmpl m ns by rw [HK.out, HKe.out]; rfl)
      rw [HR.out] at BX2 IN2
      have HAl := Lib.hid (toI_length (cmpl m ns))
      generalize cmpl m ns = A at *
      go_wp2_with fail
      refine (HPW.out _).mono ?_
      rintro e w5 ⟨rfl, rfl⟩
      clear d0 d1
      have x0 := BX2.out.out.at0
      have x1 := BX2.out.out.at1
      have r0 := OR2.out.at0
      have r1 := OR2.out.at1
      have q0 := OR2.out.free0
      have q1 := OR2.out.free1
      go_wp2_with fail
      refine bodyPost_ret (v := .agg #[.int .i64 (m : Int), .slice a' A.length c']) (by simp [results, Try.results49, go_sem, r0, r1]) rfl ?_
      refine ⟨a', c', by rw [HAl.out], ?_, ?_⟩
      · rw [HAl.out]
        refine Ints.mono (B := w.heap.size + 2) ?_ (by omega)
        repeat (refine Ints.setCell_below ?_ (by simp) _)
        exact IN2.out
      · have hb0 := HB.out.trans (HBE.out.mono (show w.heap.size ≤ w.heap.size + 2 by omega))
        clear x0 x1 r0 r1 q0 q1
        go_grown



end Go.Proofs.Ytpkilacappjkhaa
