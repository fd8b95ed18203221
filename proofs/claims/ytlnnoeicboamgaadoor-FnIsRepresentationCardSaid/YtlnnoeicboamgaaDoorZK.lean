/- A class that the laws draw, and a set: goodClass, someClass, setOf. Conditions: the reader has drawn at most 80000 numbers. A set of points of a class, most often: setOf. Conditions: the reader has drawn at most 90000 numbers. What the laws of chapter 1 draw. Conditions: the code is a slice of bytes. -/
import Derived.Test.YtlnnoeicboamgaaDoorBent
namespace Go.Proofs.YtlnnoeicboamgaaDoor
open Go.RowKit



end Go.Proofs.YtlnnoeicboamgaaDoor

namespace Go.Proofs.YtlnnoeicboamgaaDoor
open Go.RowKit

/-- a drawn number -/
def GotInt (B R k : Nat) (w : World) (e : Ending) (w' : World) : Prop := ∃ (s : Int) (p' : Nat), e = .returned (.int .i64 s) ∧ p' ≤ k ∧ Rdr B R p' w' ∧ w.grownBy w' (some R)

set_option maxHeartbeats 3200000 in
set_option maxRecDepth 100000 in
theorem specSetOf (C B R p : Nat) (n : Int) (a : Option Addr) (cap : Nat) (zs : List Int) (hp : p ≤ 90000) (hBC : B ≤ C) (w : World) (h : Rdr B R p w) (hin : Ints C w (.slice a zs.length cap) zs) :
    Calls Tryd.prog 79 #[.pointer (some ⟨R, 0, none⟩), .agg #[.int .i64 n, .slice a zs.length cap]] w (GotInt B R (p + 2) w) := by
  have hRB := h.1
  have hBw := h.2.1
  have HX := Lib.hid (show Bx n (.slice a zs.length cap) w.heap.size (w.alloc (Obj.cells #[.int .i64 n, .slice a zs.length cap] 30)) from Bx.new _ _ _)
  have HI := Lib.hid (show Ints C (w.alloc (Obj.cells #[.int .i64 n, .slice a zs.length cap] 30)) (.slice a zs.length cap) zs from hin.alloc _)
  have HR := Lib.hid (show Rdr B R p (w.alloc (Obj.cells #[.int .i64 n, .slice a zs.length cap] 30)) from h.alloc _)
  have HG := Lib.hid (show w.grownBy (w.alloc (Obj.cells #[.int .i64 n, .slice a zs.length cap] 30)) (some R) from World.grownBy_alloc _ _ _)
  have HZ := Lib.hid (show (w.alloc (Obj.cells #[.int .i64 n, .slice a zs.length cap] 30)).heap.size = w.heap.size + 1 by simp)
  clear h hin
  go_enter Tryd.func79, Tryd.ntmps79
  go_wp2_with fail
  generalize (w.alloc (Obj.cells #[.int .i64 n, .slice a zs.length cap] 30)) = w1 at *
  have hz1 := HZ.out
  refine (specPick B R p 30 (by omega) _ HR.out).mono ?_
  rintro e w2 ⟨⟨x, rfl, hx⟩, hr2, hg2⟩
  have hz2 := hg2.size
  have HX2 := Lib.hid (HX.out.kept hg2 (by simp; omega))
  have HI2 := Lib.hid (HI.out.pick (by omega) hg2)
  have HR2 := Lib.hid hr2
  have HG2 := Lib.hid (grownBy_trans HG.out hg2)
  have hRw2 := HR2.out.2.1
  clear hr2 hg2 HX HI HR HG
  by_cases hx0 : x = 0
  · subst hx0
    have HO := Lib.hid (specOne B R (p + 1) (some ⟨w2.heap.size, 0, none⟩) 4 [-1, 32, 0, 1] (by omega) (by simp) (w2.alloc (Obj.cells #[.int .i64 (-1), .int .i64 32, .int .i64 0, .int .i64 1] 3)) (HR2.out.alloc _) (rdLit w2 [-1, 32, 0, 1] #[.int .i64 (-1), .int .i64 32, .int .i64 0, .int .i64 1] rfl (by simp)) (fun b' o e => by cases e; omega))
    go_wp2_with fail
    refine HO.out.mono ?_
    rintro e w8 ⟨⟨i, hi, rfl⟩, hr8, hg8⟩
    have HR8 := Lib.hid hr8
    have HG8 := Lib.hid (grownBy_trans (grownBy_trans HG2.out (World.grownBy_alloc _ _ _)) hg8)
    clear hr8 hg8 HO
    generalize ([-1, 32, 0, 1] : List Int).getD i 0 = v at *
    go_wp2_with fail
    go_ret
    exact ⟨v, _, rfl, by omega, HR8.out, HG8.out⟩
  · have hxb : ((x : Int) == 0) = false := by simpa using (show ¬ (x : Int) = 0 by omega)
    have x0 := HX2.out.out.at0
    have x1 := HX2.out.out.at1
    have HV := Lib.hid (specValid n (.slice a zs.length cap) zs w2 HI2.out.rd)
    generalize hv : vldB n zs = b at *
    go_wp2_with fail
    refine HV.out.mono ?_
    rintro e w3 ⟨rfl, hb3⟩
    have hz3 := hb3.size
    have HX3 := Lib.hid (HX2.out.next hb3 (by omega))
    have HR3 := Lib.hid (HR2.out.next hb3 hRw2)
    have HG3 := Lib.hid (grown_next HG2.out hb3)
    clear hb3 x0 x1 HV
    cases b
    · have hRw3 := HR3.out.2.1
      have HO := Lib.hid (specOne B R (p + 1) (some ⟨w3.heap.size, 0, none⟩) 4 [-1, 32, 0, 1] (by omega) (by simp) (w3.alloc (Obj.cells #[.int .i64 (-1), .int .i64 32, .int .i64 0, .int .i64 1] 3)) (HR3.out.alloc _) (rdLit w3 [-1, 32, 0, 1] #[.int .i64 (-1), .int .i64 32, .int .i64 0, .int .i64 1] rfl (by simp)) (fun b' o e => by cases e; omega))
      go_wp2_with fail
      refine HO.out.mono ?_
      rintro e w8 ⟨⟨i, hi, rfl⟩, hr8, hg8⟩
      have HR8 := Lib.hid hr8
      have HG8 := Lib.hid (grownBy_trans (grownBy_trans HG3.out (World.grownBy_alloc _ _ _)) hg8)
      clear hr8 hg8 HO
      generalize ([-1, 32, 0, 1] : List Int).getD i 0 = v at *
      go_wp2_with fail
      go_ret
      exact ⟨v, _, rfl, by omega, HR8.out, HG8.out⟩
    · obtain ⟨m, ns, rfl, rfl, hc⟩ := vldB_cls hv
      have hm := hc.pts
      have hp2 := two_pow_le m (by omega)
      obtain ⟨q, hq⟩ : ∃ q, q = (2 : Int) ^ m := ⟨_, rfl⟩
      have HPW := Lib.hid (fun w => hq ▸ power_q m hm w)
      have x0 := HX3.out.out.at0
      have x1 := HX3.out.out.at1
      clear hq hp2 hc hv HI2 HX2
      go_wp2_with fail
      refine (HPW.out _).mono ?_
      rintro e w4 ⟨rfl, hw4⟩
      subst w4
      go_wp2_with fail
      refine (specPick B R (p + 1) q (by omega) _ HR3.out).mono ?_
      rintro e w8 ⟨⟨y, rfl, hy⟩, hr8, hg8⟩
      have HR8 := Lib.hid hr8
      have HG8 := Lib.hid (grownBy_trans HG3.out hg8)
      clear hr8 hg8
      go_wp2_with fail
      go_ret
      exact ⟨(y : Int), _, rfl, by omega, HR8.out, HG8.out⟩

end Go.Proofs.YtlnnoeicboamgaaDoor

namespace Go.Proofs.YtlnnoeicboamgaaDoor
open Go.RowKit

/-- a class is drawn -/
def GotC (w : World) (e : Ending) (w' : World) : Prop := ∃ (n : Int) (zs : List Int), (-8 ≤ n ∧ n ≤ 8 ∧ zs.length ≤ 34) ∧ RetClass n zs w e w'
/-- a class and a number are drawn -/
def GotCI (w : World) (e : Ending) (w' : World) : Prop := ∃ (n : Int) (zs : List Int) (s : Int), (-8 ≤ n ∧ n ≤ 8 ∧ zs.length ≤ 34) ∧ ∃ a cap, e = .returned (.tuple #[.agg #[.int .i64 n, .slice a zs.length cap], .int .i64 s]) ∧ Ints w.heap.size w' (.slice a zs.length cap) zs ∧ Below w.heap.size w w'
theorem Rdr.bx {B R p o : Nat} {w : World} {n : Int} {a' : Option Addr} {l c : Nat} (h : Rdr B R p w) (hx : Bx n (.slice a' l c) o w) (hne : R ≠ o) (j : Nat) (u : Value) : Rdr B R p (w.setCell ⟨o, j, none⟩ u) := by
  obtain ⟨hRB, hB, a, b, off, k, cap, hn, c0, c1, f1, hbR, hy⟩ := h
  have hbo : 0 < k → b ≠ o := fun h0 e => by
    obtain ⟨x, _, hc⟩ := hy.2 0 h0
    rw [e, World.cell?, show w.heap[(⟨o, off + 0, none⟩ : Addr).block]? = _ from hx] at hc
    rcases (show off = 0 ∨ off = 1 ∨ 2 ≤ off by omega) with rfl | rfl | h2
    · simp at hc
    · simp at hc
    · obtain ⟨q, rfl⟩ : ∃ q, off = q + 2 := ⟨off - 2, by omega⟩
      simp at hc
  exact ⟨hRB, by simpa using hB, a, b, off, k, cap, hn, (World.cell?_setCell_other _ _ _ _ (by intro e; have := congrArg Addr.block e; simp at this; omega)).trans c0, (World.cell?_setCell_other _ _ _ _ (by intro e; have := congrArg Addr.block e; simp at this; omega)).trans c1, by rw [World.frozen?_setCell]; exact f1, hbR, hy.kept (grownBy_set w j _) (fun h0 e => hbo h0 (by cases e; rfl))⟩











end Go.Proofs.YtlnnoeicboamgaaDoor
