/- A class of few points that the laws draw: smallClass, thinClass. Conditions: the reader has drawn at most 80000 numbers. -/
import Derived.Test.YtpkilacappjkhaaBent
namespace Go.Proofs.Ytpkilacappjkhaa
open Go.RowKit

set_option maxHeartbeats 3200000 in
set_option maxRecDepth 100000 in
theorem specSmallClass (B R p : Nat) (hp : p ≤ 80000) (w : World) (h : Rdr B R p w) :
    Calls Try.prog 27 #[.pointer (some ⟨R, 0, none⟩)] w fun e w' => ∃ n : Nat, n ≤ 5 ∧ GotCls B R n (p + 61) w e w' := by
  have hRB := h.1
  have hBw := h.2.1
  obtain ⟨l, hl⟩ : ∃ l : List Int, l = [3, 4, 3, 2, 1] := ⟨_, rfl⟩
  have hlen : l.length = 5 := by rw [hl]; rfl
  have HY := Lib.hid (show Bx 0 (.slice none 0 0) w.heap.size ((w.alloc (Obj.cells #[.int .i64 0, .slice none 0 0] 25)).alloc (Obj.cells #[.int .i64 3, .int .i64 4, .int .i64 3, .int .i64 2, .int .i64 1] 3)) from (Bx.new _ _ _).alloc _)
  have HR := Lib.hid (show Rdr B R p ((w.alloc (Obj.cells #[.int .i64 0, .slice none 0 0] 25)).alloc (Obj.cells #[.int .i64 3, .int .i64 4, .int .i64 3, .int .i64 2, .int .i64 1] 3)) from (h.alloc _).alloc _)
  have HG := Lib.hid (show w.grownBy ((w.alloc (Obj.cells #[.int .i64 0, .slice none 0 0] 25)).alloc (Obj.cells #[.int .i64 3, .int .i64 4, .int .i64 3, .int .i64 2, .int .i64 1] 3)) (some R) from grownBy_trans (World.grownBy_alloc _ _ _) (World.grownBy_alloc _ _ _))
  have HL := Lib.hid (show Rd ((w.alloc (Obj.cells #[.int .i64 0, .slice none 0 0] 25)).alloc (Obj.cells #[.int .i64 3, .int .i64 4, .int .i64 3, .int .i64 2, .int .i64 1] 3)) (.slice (some ⟨(w.alloc (Obj.cells #[.int .i64 0, .slice none 0 0] 25)).heap.size, 0, none⟩) l.length l.length) l from rdLit _ _ _ (by rw [hl]; rfl) (by omega))
  have HO := Lib.hid (specOne B R p (some ⟨(w.alloc (Obj.cells #[.int .i64 0, .slice none 0 0] 25)).heap.size, 0, none⟩) l.length l (by omega) (by omega) _ HR.out HL.out (fun b' o e => by cases e; simp; omega))
  have HB := Lib.hid (show ∀ i, i < l.length → ∃ m : Nat, m ≤ 5 ∧ l.getD i 0 = (m : Int) from fun i hi => by
    rw [hlen] at hi
    subst hl
    rcases (show i = 0 ∨ i = 1 ∨ i = 2 ∨ i = 3 ∨ i = 4 by omega) with rfl | rfl | rfl | rfl | rfl
    · exact ⟨3, by omega, rfl⟩
    · exact ⟨4, by omega, rfl⟩
    · exact ⟨3, by omega, rfl⟩
    · exact ⟨2, by omega, rfl⟩
    · exact ⟨1, by omega, rfl⟩)
  have HO2 := Lib.hid (show Calls Try.prog 39 #[.pointer (some ⟨R, 0, none⟩), .slice (some ⟨w.heap.size + 1, 0, none⟩) 5 5] _ _ from by
    have h8 := HO.out
    rw [show (w.alloc (Obj.cells #[.int .i64 0, .slice none 0 0] 25)).heap.size = w.heap.size + 1 by simp, hlen] at h8
    exact h8)
  have HZ := Lib.hid (show ((w.alloc (Obj.cells #[.int .i64 0, .slice none 0 0] 25)).alloc (Obj.cells #[.int .i64 3, .int .i64 4, .int .i64 3, .int .i64 2, .int .i64 1] 3)).heap.size = w.heap.size + 2 by simp)
  clear h hl HL HO
  go_enter Try.func27, Try.ntmps27
  go_wp2_with fail
  generalize ((w.alloc (Obj.cells #[.int .i64 0, .slice none 0 0] 25)).alloc (Obj.cells #[.int .i64 3, .int .i64 4, .int .i64 3, .int .i64 2, .int .i64 1] 3)) = w1 at *
  have hz1 := HZ.out
  refine HO2.out.mono ?_
  rintro e w2 ⟨⟨i, hi, rfl⟩, hr2, hg2⟩
  obtain ⟨m, hm, hv⟩ := HB.out i (by omega)
  rw [hv]
  have hz2 := hg2.size
  have HY2 := Lib.hid (HY.out.kept hg2 (by simp; omega))
  have HG2 := Lib.hid (grownBy_trans HG.out hg2)
  have HC := Lib.hid (specClassOf B R (p + 1) m hm (by omega) w2 hr2)
  clear hr2 hg2 hv HO2 HB HY HR HG
  go_wp2_with fail
  refine HC.out.mono ?_
  rintro e w3 ⟨a3, c3, p3, ms, rfl, hin3, hcls, hp3, hr3, hg3⟩
  have hz3 := hg3.size
  have HY3 := Lib.hid (HY2.out.kept hg3 (by simp; omega))
  have HI3 := Lib.hid (hin3.mono (show w.heap.size + 1 ≤ w2.heap.size by omega))
  have HR3 := Lib.hid hr3
  have HG3 := Lib.hid (grownBy_trans HG2.out hg3)
  have HCL := Lib.hid hcls
  clear hin3 hcls hr3 hg3 HC
  have r0 := HY3.out.out.at0
  have r1 := HY3.out.out.at1
  have q0 := HY3.out.out.free0
  have q1 := HY3.out.out.free1
  go_wp2_with fail
  refine bodyPost_ret (v := .agg #[.int .i64 (m : Int), .slice a3 ms.length c3]) (by simp [results, Try.results27, go_sem, r0, r1]) rfl ?_
  refine ⟨m, hm, a3, c3, p3, ms, rfl, ?_, HCL.out, by omega, ?_, ?_⟩
  · refine Ints.mono (B := w.heap.size + 1) ?_ (by omega)
    repeat (refine Ints.setCell_below ?_ (by simp) _)
    exact HI3.out
  · repeat (refine Rdr.set ?_ (by omega) _)
    exact HR3.out
  · repeat (refine grown_set ?_ (Nat.le_refl _) _)
    exact HG3.out

set_option maxHeartbeats 3200000 in
set_option maxRecDepth 100000 in
theorem specThinClass (B R p : Nat) (hp : p ≤ 80000) (w : World) (h : Rdr B R p w) :
    Calls Try.prog 14 #[.pointer (some ⟨R, 0, none⟩)] w (GotAny w.heap.size B R 7 33 (p + 70) w) := by
  have hRB := h.1
  have hBw := h.2.1
  have HY := Lib.hid (show Bx 0 (.slice none 0 0) w.heap.size (w.alloc (Obj.cells #[.int .i64 0, .slice none 0 0] 25)) from Bx.new _ _ _)
  have HG0 := Lib.hid (specSmallClass B R p hp (w.alloc (Obj.cells #[.int .i64 0, .slice none 0 0] 25)) (h.alloc _))
  clear h
  go_enter Try.func14, Try.ntmps14
  go_wp2_with fail
  refine HG0.out.mono ?_
  rintro e w2 ⟨n, hn, a2, c2, p2, ms, rfl, hin2, hcls, hp2, hr2, hg2⟩
  have hz2 : w.heap.size + 1 ≤ w2.heap.size := by have := hg2.size; simpa using this
  have HY2 := Lib.hid (HY.out.kept hg2 (by simp; omega))
  have hl2 := hcls.length
  have HAl := Lib.hid (toI_length ms)
  have HB := Lib.hid (specBent (w.heap.size + 1) B R p2 6 32 (n : Int) a2 c2 (toI ms) (by omega) (by omega) (by omega) (by omega) (by omega) (by rw [toI_length]; exact hl2) (by omega) (by omega) w2 (w.alloc (Obj.cells #[.int .i64 0, .slice none 0 0] 25)) hz2 (by simp) hr2 (by rw [toI_length]; simpa using hin2) hg2)
  rw [HAl.out] at HB
  clear hin2 hcls hr2 HG0
  clear hg2
  go_wp2_with fail
  refine HB.out.mono ?_
  rintro e w3 ⟨n3, a3, c3, p3, zs, rfl, hin3, ⟨hn0, hn1, hl3⟩, hp3, hr3, hg3⟩
  have HI3 := Lib.hid hin3
  have HR3 := Lib.hid hr3
  have HG3 := Lib.hid (grownBy_trans (World.grownBy_alloc _ _ _) hg3)
  have HY3 := Lib.hid (HY.out.kept hg3 (by simp; omega))
  clear hin3 hr3 hg3 HB
  have r0 := HY3.out.out.at0
  have r1 := HY3.out.out.at1
  have q0 := HY3.out.out.free0
  have q1 := HY3.out.out.free1
  go_wp2_with fail
  refine bodyPost_ret (v := .agg #[.int .i64 n3, .slice a3 zs.length c3]) (by simp [results, Try.results14, go_sem, r0, r1]) rfl ?_
  refine ⟨n3, a3, c3, p3, zs, rfl, ?_, ⟨by omega, by omega, by omega⟩, by omega, ?_, ?_⟩
  · refine Ints.mono (B := w.heap.size + 1) ?_ (by omega)
    repeat (refine Ints.setCell_below ?_ (by simp) _)
    exact HI3.out
  · repeat (refine Rdr.set ?_ (by omega) _)
    exact HR3.out
  · repeat (refine grown_set ?_ (Nat.le_refl _) _)
    exact HG3.out

end Go.Proofs.Ytpkilacappjkhaa
