/- What the law of DualClass draws: a class of few sets, cut at its front, that may be bent. Conditions: the code is a slice of bytes. -/
import Derived.Test.YtfcdnecikflehaaBentC
import Derived.Test.YtfcdnecikflehaaFew
import Derived.Test.YtfcdnecikflehaaZK
namespace Go.Proofs.Ytfcdnecikflehaa
open Go.RowKit

theorem CutI.mono {B B' : Nat} {w : World} {v : Value} {zs : List Int} (h : CutI B w v zs) (hB : B' ≤ B) : CutI B' w v zs := h.map fun _ _ h => h.mono hB
theorem CutI.alloc {B : Nat} {w : World} {v : Value} {zs : List Int} (h : CutI B w v zs) (o : Obj) : CutI B (w.alloc o) v zs := h.map fun _ _ h => h.alloc o
theorem CutI.below {B k : Nat} {w w' : World} {v : Value} {zs : List Int} (h : CutI B w v zs) (hb : Below k w w') (hk : w.heap.size ≤ k) : CutI B w' v zs := h.map fun _ _ h => h.below hb hk
/-- a class, whole or cut at its front, and nothing that was there is changed -/
def GotCut (w : World) (e : Ending) (w' : World) : Prop := ∃ (n : Int) (zs : List Int), (-8 ≤ n ∧ n ≤ 8 ∧ zs.length ≤ 34) ∧ ∃ a cap, e = .returned (.agg #[.int .i64 n, .slice a zs.length cap]) ∧ CutI w.heap.size w' (.slice a zs.length cap) zs ∧ Below w.heap.size w w'
/-- the pieces of a cut: the slice at hand is what is left of the first one -/
def Cut (a1 a' : Option Addr) (c1 c' q l : Nat) : Prop := (a1 = none ∧ a' = none ∧ q = 0 ∧ l = 0 ∧ c' = c1) ∨ ∃ g, a1 = some ⟨g, 0, none⟩ ∧ a' = some ⟨g, q, none⟩ ∧ q + c' = c1

set_option maxHeartbeats 1000000 in
set_option maxRecDepth 100000 in
theorem dDrawDualClass (a : Option Addr) (b off n cap : Nat) (w : World) (hc : n ≤ cap) (hn : n ≤ 1048576) (hcap : cap ≤ maxLen) (h : Byt w a b off n) :
    Calls Try.prog 6 #[.slice a n cap] w (GotCut w) := by
  have HN := Lib.hid (specNewReader a b off n cap (w.alloc (Obj.cells #[.int .i64 0, .slice none 0 0] 25)) hc hn hcap (h.kept (World.grownBy_alloc _ _ none) (by simp)))
  have HY := Lib.hid (Bx.new 0 (.slice none 0 0) w)
  have HB := Lib.hid (show Below w.heap.size w (w.alloc (Obj.cells #[.int .i64 0, .slice none 0 0] 25)) from (Below.refl _ _).alloc (Nat.le_refl _) _)
  have HZ := Lib.hid (show (w.alloc (Obj.cells #[.int .i64 0, .slice none 0 0] 25)).heap.size = w.heap.size + 1 by simp)
  clear h hc hn hcap
  go_enter Try.func6, Try.ntmps6
  go_wp2_with fail
  generalize w.alloc (Obj.cells #[.int .i64 0, .slice none 0 0] 25) = w0 at *
  have hz0 := HZ.out
  refine HN.out.mono ?_
  rintro e w1 ⟨rfl, hr, hg⟩
  have hz1 := hr.2.1
  have hs1 := hg.size
  have HR := Lib.hid hr
  have HY1 := Lib.hid (HY.out.kept hg (by simp))
  have HB1 := Lib.hid (show Below w.heap.size w w1 from HB.out.grown hg (by omega) (fun k hk => by cases hk))
  clear hr hg HN HY HB
  generalize hR : w0.heap.size = R at *
  generalize hB : R + 1 = B at *
  have hRw1 : R ≤ w.heap.size + 1 := by omega
  have hRw2 : w.heap.size + 1 ≤ R := by omega
  have hRB := HR.out.1
  clear hR hB hz0 HZ
  go_wp2_with fail
  refine (specFewClass B R 0 (by omega) _ HR.out).mono ?_
  rintro e w2 ⟨n, hn5, a2, c2, p2, ms, rfl, hin2, hcls, hp2, hr2, hg2⟩
  have hz2 := hg2.size
  have hm32 : ms.length ≤ 32 := by have := hcls.length; omega
  obtain ⟨zs, hzs⟩ : ∃ zs, zs = toI ms := ⟨_, rfl⟩
  have hzl : zs.length = ms.length := by rw [hzs, toI_length]
  rw [← hzs] at hin2
  rw [← hzl] at hin2 hm32 ⊢
  have X2 := Lib.hid (Bx.new (n : Int) (.slice a2 zs.length c2) w2)
  have I2 := Lib.hid (hin2.alloc (Obj.cells #[.int .i64 (n : Int), .slice a2 zs.length c2] 25))
  have R2 := Lib.hid (hr2.alloc (Obj.cells #[.int .i64 (n : Int), .slice a2 zs.length c2] 25))
  have G2 := Lib.hid (grownBy_trans hg2 (World.grownBy_alloc w2 (Obj.cells #[.int .i64 (n : Int), .slice a2 zs.length c2] 25) (some R)))
  have HZ2 := Lib.hid (show (w2.alloc (Obj.cells #[.int .i64 (n : Int), .slice a2 zs.length c2] 25)).heap.size = w2.heap.size + 1 by simp)
  clear hin2 hr2 hg2 hcls hzs hzl HR
  go_wp2_with fail
  generalize w2.alloc (Obj.cells #[.int .i64 (n : Int), .slice a2 zs.length c2] 25) = w3 at *
  have hz3 := HZ2.out
  clear HZ2
  generalize ho : w2.heap.size = o at *
  have HC0 := Lib.hid (show Cut a2 a2 c2 c2 0 zs.length from by
    obtain ⟨a9, g, cap9, hv9, hs1, hs2, -, hs4, -, -⟩ := I2.out.shape
    simp only [Value.slice.injEq, true_and] at hv9
    obtain ⟨rfl, rfl⟩ := hv9
    rcases hs1 with e | e
    · exact Or.inr ⟨g, e, e, Nat.zero_add _⟩
    · exact Or.inl ⟨e, e, rfl, by rw [(hs2 e).1]; rfl, rfl⟩)
  have hcap : zs.length ≤ c2 := by
    rcases HC0.out with ⟨-, -, -, h0, -⟩ | ⟨g, e, -, -⟩
    · omega
    · have h := I2.out
      rw [e] at h
      exact h.len_le_cap
  generalize hL : zs.length = L at *
  have HL := Lib.hid hL
  clear hL
  have c1 := X2.out.out.at1
  go_loopw [] (fun wr => ∃ (a' : Option Addr) (q l c' p' : Nat), Cut a2 a' c2 c' q l ∧ q + l = L ∧ l ≤ c' ∧ Bx n (.slice a' l c') o wr ∧ Ints w1.heap.size wr (.slice a2 L c2) zs ∧ p' + l ≤ 200 ∧ Rdr B R p' wr ∧ w1.grownBy wr (some R)) (fun wr => lenC (wr.cell? ⟨o, 1, none⟩))
  case atStart => exact ⟨a2, 0, L, c2, p2, HC0.out, Nat.zero_add _, hcap, X2.out, I2.out, by omega, R2.out, G2.out⟩
  case round =>
    obtain ⟨a', q, l, c', p', hcut, hql, hlc, hx, hin, hpp, hr, hg⟩ := hrel
    have HQ := Lib.hid hql
    have HCU := Lib.hid hcut
    have HI := Lib.hid hin
    have HX := Lib.hid hx
    have HR := Lib.hid hr
    have HG := Lib.hid hg
    have hzr := hg.size
    have hc1 := hx.out.at1
    have HM := Lib.hid hc1
    clear hx hin hr hg hcut c1
    have hlL : l ≤ L := by omega
    have hqL : q ≤ L := by omega
    clear hql
    by_cases h5 : 5 < l
    · have h5I : (5 : Int) < (l : Int) := by omega
      go_wp2_with fail
      refine (specPick B R p' 8 (by omega) _ HR.out).mono ?_
      rintro e w5 ⟨⟨x, rfl, hx⟩, hr5, hg5⟩
      have hz5 := hg5.size
      have X5 := Lib.hid (HX.out.kept hg5 (by simp; omega))
      have I5 := Lib.hid (HI.out.pick (by omega) hg5)
      have R5 := Lib.hid hr5
      have G5 := Lib.hid (grownBy_trans HG.out hg5)
      clear hr5 hg5 hc1
      by_cases hx0 : x = 0
      · subst hx0
        rcases HCU.out with ⟨rfl, rfl, rfl, rfl, rfl⟩ | ⟨g, rfl, rfl, hqc⟩
        · exact absurd h5 (by omega)
        · obtain ⟨pre, xs, hpx, hpl, hxl⟩ : ∃ pre xs, zs = pre ++ xs ∧ q = pre.length ∧ l = xs.length := ⟨zs.take q, zs.drop q, (List.take_append_drop _ _).symm, by rw [List.length_take]; have := HL.out; omega, by rw [List.length_drop]; have := HL.out; have := HQ.out; omega⟩
          subst hxl
          have HPL := Lib.hid hpl
          have HI9 := Lib.hid (show Ints w1.heap.size w5 (.slice (some ⟨g, 0, none⟩) (q + xs.length) (q + c')) (pre ++ xs) from by rw [hqc, HQ.out, ← hpx]; exact I5.out)
          clear hpx hpl hqc
          have x0 := X5.out.out.at0
          have x1 := X5.out.out.at1
          have HB5 := Lib.hid (specBentC w1.heap.size B R (p' + 1) 6 32 (n : Int) g q pre c' xs HPL.out (by omega) (by omega) (by omega) (by omega) (by omega) (by omega) (by omega) (by omega) (by omega) w5 w1 (by omega) (Nat.le_refl _) R5.out HI9.out G5.out)
          go_wp2_with fail
          refine HB5.out.mono ?_
          rintro e w8 ⟨N', a8, c8, p8, ys, rfl, hin8, ⟨hb1, hb2, hb3⟩, hp8, hr8, hg8⟩
          have hz8 := hg8.size
          have Y8 := Lib.hid (HY1.out.kept hg8 (by simp; omega))
          have B8 := Lib.hid (HB1.out.grown hg8 (by omega) (fun k hk => by cases hk; omega))
          have I8 := Lib.hid hin8
          clear hin8 hg8 hr8
          have r0 := Y8.out.out.at0
          have r1 := Y8.out.out.at1
          have q0 := Y8.out.out.free0
          have q1 := Y8.out.out.free1
          go_wp2_with fail
          refine bodyPost_ret (v := .agg #[.int .i64 N', .slice a8 ys.length c8]) (by simp [results, Try.results6, go_sem, r0, r1]) rfl ?_
          refine ⟨N', ys, ⟨by omega, by omega, by omega⟩, a8, c8, rfl, ?_, ?_⟩
          · refine I8.out.map (fun v zs h => ?_)
            refine Ints.mono (B := w1.heap.size) ?_ (by omega)
            repeat (refine Ints.setCell_below ?_ (by simp; omega) _)
            exact h
          · have hb0 := B8.out
            clear r0 r1 q0 q1
            go_grown
      · have hx0I : (0 : Int) < (x : Int) := by omega
        have x1 := X5.out.out.at1
        have u1 := X5.out.out.free1
        have h1l : (1 : Int) ≤ (l : Int) := by omega
        have hlcI : (l : Int) ≤ (c' : Int) := by omega
        go_wp2_with fail
        go_roundw
        case rel =>
          refine ⟨_, q + 1, l - 1, c' - 1, p' + 1, ?_, by have := HQ.out; omega, by omega, X5.out.set _, Ints.ne I5.out (X5.out.not_row I5.out) _, by omega, R5.out.set (by omega) _, grown_set G5.out (by omega) _⟩
          rcases HCU.out with ⟨-, -, -, h0, -⟩ | ⟨g, e1, e2, e3⟩
          · omega
          · exact Or.inr ⟨g, e1, by rw [e2]; rfl, by omega⟩
        case measure =>
          rw [(X5.out.set _).out.at1, HM.out]
          show l - 1 < l
          omega
    · have h5I : ¬ (5 : Int) < (l : Int) := by omega
      rcases HCU.out with ⟨rfl, rfl, rfl, rfl, rfl⟩ | ⟨g, rfl, rfl, hqc⟩
      · obtain rfl : L = 0 := by have := HQ.out; omega
        obtain rfl : zs = [] := List.eq_nil_of_length_eq_zero HL.out
        have x0 := HX.out.out.at0
        have x1 := HX.out.out.at1
        have HB5 := Lib.hid (specBent w1.heap.size B R (p') 6 32 (n : Int) none c' [] (by omega) (by omega) (by omega) (by omega) (by omega) (by simp) (by omega) (by omega) wr w1 (by omega) (Nat.le_refl _) HR.out HI.out HG.out)
        go_wp2_with fail
        refine HB5.out.mono ?_
        rintro e w8 ⟨N', a8, c8, p8, ys, rfl, hin8, ⟨hb1, hb2, hb3⟩, hp8, hr8, hg8⟩
        have hz8 := hg8.size
        have Y8 := Lib.hid (HY1.out.kept hg8 (by simp; omega))
        have B8 := Lib.hid (HB1.out.grown hg8 (by omega) (fun k hk => by cases hk; omega))
        have I8 := Lib.hid (show CutI _ _ _ _ from Or.inl hin8)
        clear hin8 hg8 hr8
        have r0 := Y8.out.out.at0
        have r1 := Y8.out.out.at1
        have q0 := Y8.out.out.free0
        have q1 := Y8.out.out.free1
        go_wp2_with fail
        refine bodyPost_ret (v := .agg #[.int .i64 N', .slice a8 ys.length c8]) (by simp [results, Try.results6, go_sem, r0, r1]) rfl ?_
        refine ⟨N', ys, ⟨by omega, by omega, by omega⟩, a8, c8, rfl, ?_, ?_⟩
        · refine I8.out.map (fun v zs h => ?_)
          refine Ints.mono (B := w1.heap.size) ?_ (by omega)
          repeat (refine Ints.setCell_below ?_ (by simp; omega) _)
          exact h
        · have hb0 := B8.out
          clear r0 r1 q0 q1
          go_grown
      · obtain ⟨pre, xs, hpx, hpl, hxl⟩ : ∃ pre xs, zs = pre ++ xs ∧ q = pre.length ∧ l = xs.length := ⟨zs.take q, zs.drop q, (List.take_append_drop _ _).symm, by rw [List.length_take]; have := HL.out; omega, by rw [List.length_drop]; have := HL.out; have := HQ.out; omega⟩
        subst hxl
        have HPL := Lib.hid hpl
        have HI9 := Lib.hid (show Ints w1.heap.size wr (.slice (some ⟨g, 0, none⟩) (q + xs.length) (q + c')) (pre ++ xs) from by rw [hqc, HQ.out, ← hpx]; exact HI.out)
        clear hpx hpl hqc
        have x0 := HX.out.out.at0
        have x1 := HX.out.out.at1
        have HB5 := Lib.hid (specBentC w1.heap.size B R (p') 6 32 (n : Int) g q pre c' xs HPL.out (by omega) (by omega) (by omega) (by omega) (by omega) (by omega) (by omega) (by omega) (by omega) wr w1 (by omega) (Nat.le_refl _) HR.out HI9.out HG.out)
        go_wp2_with fail
        refine HB5.out.mono ?_
        rintro e w8 ⟨N', a8, c8, p8, ys, rfl, hin8, ⟨hb1, hb2, hb3⟩, hp8, hr8, hg8⟩
        have hz8 := hg8.size
        have Y8 := Lib.hid (HY1.out.kept hg8 (by simp; omega))
        have B8 := Lib.hid (HB1.out.grown hg8 (by omega) (fun k hk => by cases hk; omega))
        have I8 := Lib.hid hin8
        clear hin8 hg8 hr8
        have r0 := Y8.out.out.at0
        have r1 := Y8.out.out.at1
        have q0 := Y8.out.out.free0
        have q1 := Y8.out.out.free1
        go_wp2_with fail
        refine bodyPost_ret (v := .agg #[.int .i64 N', .slice a8 ys.length c8]) (by simp [results, Try.results6, go_sem, r0, r1]) rfl ?_
        refine ⟨N', ys, ⟨by omega, by omega, by omega⟩, a8, c8, rfl, ?_, ?_⟩
        · refine I8.out.map (fun v zs h => ?_)
          refine Ints.mono (B := w1.heap.size) ?_ (by omega)
          repeat (refine Ints.setCell_below ?_ (by simp; omega) _)
          exact h
        · have hb0 := B8.out
          clear r0 r1 q0 q1
          go_grown

end Go.Proofs.Ytfcdnecikflehaa
