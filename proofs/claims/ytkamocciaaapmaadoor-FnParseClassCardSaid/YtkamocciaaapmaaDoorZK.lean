/- A class that the laws draw, and a set: goodClass, someClass, setOf. Conditions: the reader has drawn at most 80000 numbers. A set of points of a class, most often: setOf. Conditions: the reader has drawn at most 90000 numbers. What the laws of chapter 1 draw. Conditions: the code is a slice of bytes. -/
import Derived.Test.YtkamocciaaapmaaDoorBent
namespace Go.Proofs.YtkamocciaaapmaaDoor
open Go.RowKit

set_option maxHeartbeats 3200000 in
set_option maxRecDepth 100000 in
theorem specGoodClass (B R p : Nat) (hp : p ≤ 80000) (w : World) (h : Rdr B R p w) :
    Calls Tryd.prog 36 #[.pointer (some ⟨R, 0, none⟩)] w fun e w' => ∃ n : Nat, n ≤ 5 ∧ GotCls B R n (p + 61) w e w' := by
  have hRB := h.1
  have hBw := h.2.1
  obtain ⟨l, hl⟩ : ∃ l : List Int, l = [4, 3, 5, 4, 3, 2, 1, 0] := ⟨_, rfl⟩
  have hlen : l.length = 8 := by rw [hl]; rfl
  have HY := Lib.hid (show Bx 0 (.slice none 0 0) w.heap.size ((w.alloc (Obj.cells #[.int .i64 0, .slice none 0 0] 27)).alloc (Obj.cells #[.int .i64 4, .int .i64 3, .int .i64 5, .int .i64 4, .int .i64 3, .int .i64 2, .int .i64 1, .int .i64 0] 3)) from (Bx.new _ _ _).alloc _)
  have HR := Lib.hid (show Rdr B R p ((w.alloc (Obj.cells #[.int .i64 0, .slice none 0 0] 27)).alloc (Obj.cells #[.int .i64 4, .int .i64 3, .int .i64 5, .int .i64 4, .int .i64 3, .int .i64 2, .int .i64 1, .int .i64 0] 3)) from (h.alloc _).alloc _)
  have HG := Lib.hid (show w.grownBy ((w.alloc (Obj.cells #[.int .i64 0, .slice none 0 0] 27)).alloc (Obj.cells #[.int .i64 4, .int .i64 3, .int .i64 5, .int .i64 4, .int .i64 3, .int .i64 2, .int .i64 1, .int .i64 0] 3)) (some R) from grownBy_trans (World.grownBy_alloc _ _ _) (World.grownBy_alloc _ _ _))
  have HL := Lib.hid (show Rd ((w.alloc (Obj.cells #[.int .i64 0, .slice none 0 0] 27)).alloc (Obj.cells #[.int .i64 4, .int .i64 3, .int .i64 5, .int .i64 4, .int .i64 3, .int .i64 2, .int .i64 1, .int .i64 0] 3)) (.slice (some ⟨(w.alloc (Obj.cells #[.int .i64 0, .slice none 0 0] 27)).heap.size, 0, none⟩) l.length l.length) l from rdLit _ _ _ (by rw [hl]; rfl) (by omega))
  have HO := Lib.hid (specOne B R p (some ⟨(w.alloc (Obj.cells #[.int .i64 0, .slice none 0 0] 27)).heap.size, 0, none⟩) l.length l (by omega) (by omega) _ HR.out HL.out (fun b' o e => by cases e; simp; omega))
  have HB := Lib.hid (show ∀ i, i < l.length → ∃ m : Nat, m ≤ 5 ∧ l.getD i 0 = (m : Int) from fun i hi => by
    rw [hlen] at hi
    subst hl
    rcases (show i = 0 ∨ i = 1 ∨ i = 2 ∨ i = 3 ∨ i = 4 ∨ i = 5 ∨ i = 6 ∨ i = 7 by omega) with rfl | rfl | rfl | rfl | rfl | rfl | rfl | rfl
    · exact ⟨4, by omega, rfl⟩
    · exact ⟨3, by omega, rfl⟩
    · exact ⟨5, by omega, rfl⟩
    · exact ⟨4, by omega, rfl⟩
    · exact ⟨3, by omega, rfl⟩
    · exact ⟨2, by omega, rfl⟩
    · exact ⟨1, by omega, rfl⟩
    · exact ⟨0, by omega, rfl⟩)
  have HO2 := Lib.hid (show Calls Tryd.prog 53 #[.pointer (some ⟨R, 0, none⟩), .slice (some ⟨w.heap.size + 1, 0, none⟩) 8 8] _ _ from by
    have h8 := HO.out
    rw [show (w.alloc (Obj.cells #[.int .i64 0, .slice none 0 0] 27)).heap.size = w.heap.size + 1 by simp, hlen] at h8
    exact h8)
  have HZ := Lib.hid (show ((w.alloc (Obj.cells #[.int .i64 0, .slice none 0 0] 27)).alloc (Obj.cells #[.int .i64 4, .int .i64 3, .int .i64 5, .int .i64 4, .int .i64 3, .int .i64 2, .int .i64 1, .int .i64 0] 3)).heap.size = w.heap.size + 2 by simp)
  clear h hl HL HO
  go_enter Tryd.func36, Tryd.ntmps36
  go_wp2_with fail
  generalize ((w.alloc (Obj.cells #[.int .i64 0, .slice none 0 0] 27)).alloc (Obj.cells #[.int .i64 4, .int .i64 3, .int .i64 5, .int .i64 4, .int .i64 3, .int .i64 2, .int .i64 1, .int .i64 0] 3)) = w1 at *
  have hz1 := HZ.out
  refine HO2.out.mono ?_
  rintro e w2 ⟨⟨i, hi, rfl⟩, hr2, hg2⟩
  obtain ⟨m, hm, hv⟩ := HB.out i (by omega)
  rw [hv]
  have hz2 := hg2.size
  have HY2 := Lib.hid (HY.out.kept hg2 (by simp; omega))
  have HG2 := Lib.hid (grownBy_trans HG.out hg2)
  have HC := Lib.hid (specClassOf B R (p + 1) m hm (by omega) w2 hr2)
  clear hr2 hg2 hv HO2 HB HY HR HG
  go_wp2_with fail
  refine HC.out.mono ?_
  rintro e w3 ⟨a3, c3, p3, ms, rfl, hin3, hcls, hp3, hr3, hg3⟩
  have hz3 := hg3.size
  have HY3 := Lib.hid (HY2.out.kept hg3 (by simp; omega))
  have HI3 := Lib.hid (hin3.mono (show w.heap.size + 1 ≤ w2.heap.size by omega))
  have HR3 := Lib.hid hr3
  have HG3 := Lib.hid (grownBy_trans HG2.out hg3)
  have HCL := Lib.hid hcls
  clear hin3 hcls hr3 hg3 HC
  have r0 := HY3.out.out.at0
  have r1 := HY3.out.out.at1
  have q0 := HY3.out.out.free0
  have q1 := HY3.out.out.free1
  go_wp2_with fail
  refine bodyPost_ret (v := .agg #[.int .i64 (m : Int), .slice a3 ms.length c3]) (by simp [results, Tryd.results36, go_sem, r0, r1]) rfl ?_
  refine ⟨m, hm, a3, c3, p3, ms, rfl, ?_, HCL.out, by omega, ?_, ?_⟩
  · refine Ints.mono (B := w.heap.size + 1) ?_ (by omega)
    repeat (refine Ints.setCell_below ?_ (by simp) _)
    exact HI3.out
  · repeat (refine Rdr.set ?_ (by omega) _)
    exact HR3.out
  · repeat (refine grown_set ?_ (Nat.le_refl _) _)
    exact HG3.out

set_option maxHeartbeats 3200000 in
set_option maxRecDepth 100000 in
theorem specSomeClass (B R p : Nat) (hp : p ≤ 80000) (w : World) (h : Rdr B R p w) :
    Calls Tryd.prog 27 #[.pointer (some ⟨R, 0, none⟩)] w (GotAny w.heap.size B R 7 33 (p + 70) w) := by
  have hRB := h.1
  have hBw := h.2.1
  have HY := Lib.hid (show Bx 0 (.slice none 0 0) w.heap.size (w.alloc (Obj.cells #[.int .i64 0, .slice none 0 0] 27)) from Bx.new _ _ _)
  have HG0 := Lib.hid (specGoodClass B R p hp (w.alloc (Obj.cells #[.int .i64 0, .slice none 0 0] 27)) (h.alloc _))
  clear h
  go_enter Tryd.func27, Tryd.ntmps27
  go_wp2_with fail
  refine HG0.out.mono ?_
  rintro e w2 ⟨n, hn, a2, c2, p2, ms, rfl, hin2, hcls, hp2, hr2, hg2⟩
  have hz2 : w.heap.size + 1 ≤ w2.heap.size := by have := hg2.size; simpa using this
  have HY2 := Lib.hid (HY.out.kept hg2 (by simp; omega))
  have hl2 := hcls.length
  have HAl := Lib.hid (toI_length ms)
  have HB := Lib.hid (specBent (w.heap.size + 1) B R p2 6 32 (n : Int) a2 c2 (toI ms) (by omega) (by omega) (by omega) (by omega) (by omega) (by rw [toI_length]; exact hl2) (by omega) (by omega) w2 (w.alloc (Obj.cells #[.int .i64 0, .slice none 0 0] 27)) hz2 (by simp) hr2 (by rw [toI_length]; simpa using hin2) hg2)
  rw [HAl.out] at HB
  clear hin2 hcls hr2 HG0
  clear hg2
  go_wp2_with fail
  refine HB.out.mono ?_
  rintro e w3 ⟨n3, a3, c3, p3, zs, rfl, hin3, ⟨hn0, hn1, hl3⟩, hp3, hr3, hg3⟩
  have HI3 := Lib.hid hin3
  have HR3 := Lib.hid hr3
  have HG3 := Lib.hid (grownBy_trans (World.grownBy_alloc _ _ _) hg3)
  have HY3 := Lib.hid (HY.out.kept hg3 (by simp; omega))
  clear hin3 hr3 hg3 HB
  have r0 := HY3.out.out.at0
  have r1 := HY3.out.out.at1
  have q0 := HY3.out.out.free0
  have q1 := HY3.out.out.free1
  go_wp2_with fail
  refine bodyPost_ret (v := .agg #[.int .i64 n3, .slice a3 zs.length c3]) (by simp [results, Tryd.results27, go_sem, r0, r1]) rfl ?_
  refine ⟨n3, a3, c3, p3, zs, rfl, ?_, ⟨by omega, by omega, by omega⟩, by omega, ?_, ?_⟩
  · refine Ints.mono (B := w.heap.size + 1) ?_ (by omega)
    repeat (refine Ints.setCell_below ?_ (by simp) _)
    exact HI3.out
  · repeat (refine Rdr.set ?_ (by omega) _)
    exact HR3.out
  · repeat (refine grown_set ?_ (Nat.le_refl _) _)
    exact HG3.out

end Go.Proofs.YtkamocciaaapmaaDoor

namespace Go.Proofs.YtkamocciaaapmaaDoor
open Go.RowKit

/-- a drawn number -/
def GotInt (B R k : Nat) (w : World) (e : Ending) (w' : World) : Prop := ∃ (s : Int) (p' : Nat), e = .returned (.int .i64 s) ∧ p' ≤ k ∧ Rdr B R p' w' ∧ w.grownBy w' (some R)


end Go.Proofs.YtkamocciaaapmaaDoor

namespace Go.Proofs.YtkamocciaaapmaaDoor
open Go.RowKit

/-- a class is drawn -/
def GotC (w : World) (e : Ending) (w' : World) : Prop := ∃ (n : Int) (zs : List Int), (-8 ≤ n ∧ n ≤ 8 ∧ zs.length ≤ 34) ∧ RetClass n zs w e w'
/-- a class and a number are drawn -/
def GotCI (w : World) (e : Ending) (w' : World) : Prop := ∃ (n : Int) (zs : List Int) (s : Int), (-8 ≤ n ∧ n ≤ 8 ∧ zs.length ≤ 34) ∧ ∃ a cap, e = .returned (.tuple #[.agg #[.int .i64 n, .slice a zs.length cap], .int .i64 s]) ∧ Ints w.heap.size w' (.slice a zs.length cap) zs ∧ Below w.heap.size w w'
theorem Rdr.bx {B R p o : Nat} {w : World} {n : Int} {a' : Option Addr} {l c : Nat} (h : Rdr B R p w) (hx : Bx n (.slice a' l c) o w) (hne : R ≠ o) (j : Nat) (u : Value) : Rdr B R p (w.setCell ⟨o, j, none⟩ u) := by
  obtain ⟨hRB, hB, a, b, off, k, cap, hn, c0, c1, f1, hbR, hy⟩ := h
  have hbo : 0 < k → b ≠ o := fun h0 e => by
    obtain ⟨x, _, hc⟩ := hy.2 0 h0
    rw [e, World.cell?, show w.heap[(⟨o, off + 0, none⟩ : Addr).block]? = _ from hx] at hc
    rcases (show off = 0 ∨ off = 1 ∨ 2 ≤ off by omega) with rfl | rfl | h2
    · simp at hc
    · simp at hc
    · obtain ⟨q, rfl⟩ : ∃ q, off = q + 2 := ⟨off - 2, by omega⟩
      simp at hc
  exact ⟨hRB, by simpa using hB, a, b, off, k, cap, hn, (World.cell?_setCell_other _ _ _ _ (by intro e; have := congrArg Addr.block e; simp at this; omega)).trans c0, (World.cell?_setCell_other _ _ _ _ (by intro e; have := congrArg Addr.block e; simp at this; omega)).trans c1, by rw [World.frozen?_setCell]; exact f1, hbR, hy.kept (grownBy_set w j _) (fun h0 e => hbo h0 (by cases e; rfl))⟩











end Go.Proofs.YtkamocciaaapmaaDoor
