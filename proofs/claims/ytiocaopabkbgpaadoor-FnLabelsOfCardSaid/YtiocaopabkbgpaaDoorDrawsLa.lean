/- What the law of LabelsOf draws: a class, points and a set. Conditions: the code is a slice of bytes. -/
import Derived.Test.YtiocaopabkbgpaaDoorDrawsB
import Derived.Test.YtiocaopabkbgpaaDoorOneLit
import Derived.Test.YtiocaopabkbgpaaDoorOneOf
namespace Go.Proofs.YtiocaopabkbgpaaDoor
open Go.RowKit

/-- a class, numbers and a number are drawn -/
def GotCPS (w : World) (e : Ending) (w' : World) : Prop := ∃ (n : Int) (zs ps : List Int) (s : Int), (-8 ≤ n ∧ n ≤ 8 ∧ zs.length ≤ 34 ∧ ps.length ≤ 13) ∧ ∃ a cap a2 cap2, e = .returned (.tuple #[.agg #[.int .i64 n, .slice a zs.length cap], .slice a2 ps.length cap2, .int .i64 s]) ∧ Ints w.heap.size w' (.slice a zs.length cap) zs ∧ Ints w.heap.size w' (.slice a2 ps.length cap2) ps ∧ Below w.heap.size w w'
theorem Ints.set0 {B g n c : Nat} {w : World} {xs : List Int} (h : Ints B w (.slice (some ⟨g, 0, none⟩) n c) xs) (hn : xs.length = n) (h0 : 0 < n) (v : Int) : ∃ ys : List Int, ys.length = n ∧ Ints B (w.setCell ⟨g, 0, none⟩ (.int .i64 v)) (.slice (some ⟨g, 0, none⟩) n c) ys := by
  subst hn
  obtain ⟨x, xs', rfl⟩ : ∃ x xs', xs = x :: xs' := by
    cases xs with
    | nil => simp at h0
    | cons x xs' => exact ⟨x, xs', rfl⟩
  refine ⟨v :: xs', by simp, ?_⟩
  have h1 := (World.ownsRow.stored (show w.ownsRow B 3 1 (.slice (some ⟨g, 0, none⟩) (x :: xs').length c) (x :: xs').length ((x :: xs').map (Value.int .i64)) from h) 0 (.int .i64 v)).1
  exact h1
theorem Ints.cell0 {B g n c : Nat} {w : World} {xs : List Int} (h : Ints B w (.slice (some ⟨g, 0, none⟩) n c) xs) (hn : xs.length = n) (h0 : 0 < n) : w.cell? ⟨g, 0, none⟩ = some (.int .i64 (xs.getD 0 0)) ∧ w.frozen? ⟨g, 0, none⟩ = false := by
  subst hn
  refine ⟨?_, ?_⟩
  · rw [World.ownsRow.cellAt (show w.ownsRow B 3 1 (.slice (some ⟨g, 0, none⟩) xs.length c) xs.length (xs.map (Value.int .i64)) from h) 0 (by omega)]
    cases xs with
    | nil => simp at h0
    | cons x xs' => simp
  · rcases h.2 with ⟨e, _⟩ | ⟨g2, cp, cu, e, _, hg, _⟩
    · cases e
    · simp only [Value.slice.injEq, Option.some.injEq, Addr.mk.injEq] at e
      obtain ⟨⟨rfl, _⟩, _⟩ := e
      exact frozen_of_row _ _ _ _ _ hg
theorem Ints.row_of {B n c : Nat} {w : World} {a : Option Addr} {xs : List Int} (h : Ints B w (.slice a n c) xs) (ha : a ≠ none) : ∃ g, a = some ⟨g, 0, none⟩ := by
  rcases h.2 with ⟨e, _⟩ | ⟨g, cp, cu, e, _⟩
  · simp only [Value.slice.injEq] at e
    exact absurd e.1 ha
  · simp only [Value.slice.injEq] at e
    exact ⟨g, e.1⟩

set_option maxHeartbeats 6400000 in
set_option maxRecDepth 100000 in
theorem dDrawLabelsOf (a : Option Addr) (b off n cap : Nat) (w : World) (hc : n ≤ cap) (hn : n ≤ 1048576) (hcap : cap ≤ maxLen) (h : Byt w a b off n) :
    Calls Tryd.prog 18 #[.slice a n cap] w (GotCPS w) := by
  have HN := Lib.hid (specNewReader a b off n cap (w.alloc (Obj.cells #[.int .i64 0, .slice none 0 0] 25)) hc hn hcap (h.kept (World.grownBy_alloc _ _ none) (by simp)))
  have HY := Lib.hid (Bx.new 0 (.slice none 0 0) w)
  have HZ := Lib.hid (show (w.alloc (Obj.cells #[.int .i64 0, .slice none 0 0] 25)).heap.size = w.heap.size + 1 by simp)
  clear h
  go_enter Tryd.func18, Tryd.ntmps18
  go_wp2_with fail
  refine HN.out.mono ?_
  rintro e w1 ⟨rfl, hr, hg⟩
  have HS := Lib.hid (specSomeClass _ _ 0 (by omega) w1 hr)
  have hz1 := hr.2.1
  have HG1 := Lib.hid (show w.grownBy w1 none from grownBy_trans (World.grownBy_alloc _ _ _) hg)
  have HY1 := Lib.hid (HY.out.kept hg (by simp))
  rw [HZ.out] at HS hz1
  clear hr hg HN
  go_wp2_with fail
  refine HS.out.mono ?_
  rintro e w2 ⟨m, a2, c2, p2, zs, rfl, hin2, ⟨hn0, hn1, hl2⟩, hp2, hr2, hg2⟩
  have hz2 := hg2.size
  have HI2 := Lib.hid (hin2.mono (show w.heap.size + 2 ≤ w1.heap.size by omega))
  have HY2 := Lib.hid (HY1.out.kept hg2 (by simp))
  have B2 := Lib.hid (show Below w.heap.size w w2 from ((Below.refl _ _).grown HG1.out (Nat.le_refl _) (fun k hk => by cases hk)).grown hg2 (by omega) (fun k hk => by cases hk; omega))
  have HR2 := Lib.hid hr2
  clear hin2 hr2 hg2 HS
  have hrow0 := Lib.hid (show ∀ g, (Value.slice a2 zs.length c2).ownBlock = some g → g < w2.heap.size from fun g hg => (HI2.out.lt g hg).2)
  have HX3 := Lib.hid (show Bx m (.slice a2 zs.length c2) w2.heap.size ((w2.alloc (Obj.cells #[.int .i64 m, .slice a2 zs.length c2] 25)).alloc (Obj.cells #[] 3)) from (Bx.new m (.slice a2 zs.length c2) w2).alloc _)
  have HY3 := Lib.hid (show Bx 0 (.slice none 0 0) w.heap.size ((w2.alloc (Obj.cells #[.int .i64 m, .slice a2 zs.length c2] 25)).alloc (Obj.cells #[] 3)) from (HY2.out.alloc _).alloc _)
  have HI3 := Lib.hid (show Ints (w.heap.size + 2) ((w2.alloc (Obj.cells #[.int .i64 m, .slice a2 zs.length c2] 25)).alloc (Obj.cells #[] 3)) (.slice a2 zs.length c2) zs from (HI2.out.alloc _).alloc _)
  have HP3 := Lib.hid (show Ints (w2.heap.size + 1) ((w2.alloc (Obj.cells #[.int .i64 m, .slice a2 zs.length c2] 25)).alloc (Obj.cells #[] 3)) (.slice (some ⟨w2.heap.size + 1, 0, none⟩) 0 0) [] from Ints.lit' (by simp) (by simp))
  have HR3 := Lib.hid (show Rdr (w.heap.size + 1 + 1) (w.heap.size + 1) p2 ((w2.alloc (Obj.cells #[.int .i64 m, .slice a2 zs.length c2] 25)).alloc (Obj.cells #[] 3)) from (HR2.out.alloc _).alloc _)
  have B3 := Lib.hid (show Below w.heap.size w ((w2.alloc (Obj.cells #[.int .i64 m, .slice a2 zs.length c2] 25)).alloc (Obj.cells #[] 3)) from (B2.out.alloc (by omega) _).alloc (by simp; omega) _)
  have HZ3 := Lib.hid (show ((w2.alloc (Obj.cells #[.int .i64 m, .slice a2 zs.length c2] 25)).alloc (Obj.cells #[] 3)).heap.size = w2.heap.size + 2 by simp)
  go_wp2_with fail
  generalize ((w2.alloc (Obj.cells #[.int .i64 m, .slice a2 zs.length c2] 25)).alloc (Obj.cells #[] 3)) = w3 at *
  generalize ho : w2.heap.size = o at *
  have hz3e := HZ3.out
  have hz3 : o + 2 ≤ w3.heap.size := Nat.le_of_eq HZ3.out.symm
  have hoB : w.heap.size + 2 ≤ o := by omega
  clear HZ3 HI2 HY2 HR2 B2
  refine (specOneLit (w.heap.size + 1 + 1) (w.heap.size + 1) p2 [3, 2, 4, 1, 0, 13] 6 (Obj.cells #[.int .i64 3, .int .i64 2, .int .i64 4, .int .i64 1, .int .i64 0, .int .i64 13] 3) rfl (by omega) (by omega) w3 HR3.out rfl (by omega) _ (by omega)).mono ?_
  clear hz3e
  rintro e w4 ⟨⟨i, hi, rfl⟩, hr4, hg4⟩
  obtain ⟨c, hc13, hcv⟩ : ∃ c : Nat, c ≤ 13 ∧ ([3, 2, 4, 1, 0, 13] : List Int).getD i 0 = (c : Int) := by
    rcases (show i = 0 ∨ i = 1 ∨ i = 2 ∨ i = 3 ∨ i = 4 ∨ i = 5 by omega) with rfl | rfl | rfl | rfl | rfl | rfl
    · exact ⟨3, by omega, rfl⟩
    · exact ⟨2, by omega, rfl⟩
    · exact ⟨4, by omega, rfl⟩
    · exact ⟨1, by omega, rfl⟩
    · exact ⟨0, by omega, rfl⟩
    · exact ⟨13, by omega, rfl⟩
  rw [hcv]
  have hz4 := hg4.size
  have HX4 := Lib.hid (HX3.out.kept hg4 (by simp; omega))
  have HY4 := Lib.hid (HY3.out.kept hg4 (by simp))
  have HI4 := Lib.hid (HI3.out.pick (by omega) hg4)
  have HP4 := Lib.hid (HP3.out.pick (by omega) hg4)
  have HR4 := Lib.hid hr4
  have B4 := Lib.hid (B3.out.grown hg4 (by omega) (fun k hk => by cases hk; omega))
  clear hr4 hg4 HX3 HY3 HI3 HP3 HR3 B3 hcv hi
  go_wp2_with fail
  go_loopw [7, 8] (fun v7 v8 wr => ∃ (k q c' : Nat) (a' : Option Addr) (ps : List Int), v7 = .slice a' ps.length c' ∧ v8 = .int .i64 (k : Int) ∧ k + ps.length ≤ 13 ∧ Bx m (.slice a2 zs.length c2) o wr ∧ Bx 0 (.slice none 0 0) w.heap.size wr ∧ Ints (w.heap.size + 2) wr (.slice a2 zs.length c2) zs ∧ Ints (o + 1) wr (.slice a' ps.length c') ps ∧ q ≤ p2 + 1 + ps.length ∧ Rdr (w.heap.size + 1 + 1) (w.heap.size + 1) q wr ∧ Below w.heap.size w wr ∧ o + 2 ≤ wr.heap.size ∧ a' ≠ none) (fun _ v8 _ => (intOf v8).toNat)
  case atStart => exact ⟨c, _, _, _, [], rfl, rfl, by simpa using hc13, HX4.out, HY4.out, HI4.out, HP4.out, Nat.le_refl _, HR4.out, B4.out, by omega, by simp⟩
  case round =>
    obtain ⟨k, q, c', a', ps, rfl, rfl, hk, hx, hy, hi, hps, hq, hr, hb, hsz, hna⟩ := hrel
    have HX := Lib.hid hx
    have HY := Lib.hid hy
    have HI := Lib.hid hi
    have HP := Lib.hid hps
    have HR := Lib.hid hr
    have HB := Lib.hid hb
    clear hx hy hi hps hr hb HX4 HY4 HI4 HP4 HR4 B4
    generalize hL : ps.length = L at *
    by_cases hk0 : 0 < k
    · by_cases hmx : m < 1
      · have x0 := HX.out.out.at0
        have hmb : decide (m < 1) = true := decide_eq_true hmx
        go_wp2_with fail
        refine (specPick (w.heap.size + 1 + 1) (w.heap.size + 1) q 1 (by omega) _ HR.out).mono ?_
        rintro e w5 ⟨⟨x, rfl, _⟩, hr5, hg5⟩
        have hz5 := hg5.size
        have X5 := Lib.hid (HX.out.kept hg5 (by simp; omega))
        have Y5 := Lib.hid (HY.out.kept hg5 (by simp))
        have I5 := Lib.hid (HI.out.pick (by omega) hg5)
        have P5 := Lib.hid (HP.out.pick (by omega) hg5)
        have R5 := Lib.hid hr5
        have B5 := Lib.hid (HB.out.grown hg5 (by omega) (fun k hk => by cases hk; omega))
        clear hr5 hg5 x0 HX HY HI HP HR HB hmb
        go_wp2_with (at_builtin; refine wpList_app rfl (.tmp 21) (.tmp 27) rfl (o + 1) _ ps rfl (by exact P5.out.alloc _) _ _ _ [(x : Int)] rfl (src_cell (by rw [World.cell?_alloc_at _ _ _ _ rfl]; rfl)) (by omega) (by simp; omega) ?_; intro a1 c1 w9 hin9 hb9 hg9; rw [hL] at hin9 ⊢; have P9 := Lib.hid hin9; have G9 := Lib.hid (show w5.grownBy w9 (Value.slice a' L c').ownBlock from grownBy_trans (World.grownBy_alloc _ _ _) hg9); have B9 := Lib.hid (show Below w.heap.size w w9 from B5.out.trans (((Below.refl _ _).alloc (by omega) _ |>.trans (hb9.mono (by omega))) )); have X9 := Lib.hid (X5.out.kept G9.out (fun e => by have := (P5.out.lt _ e.symm).1; omega)); have Y9 := Lib.hid (Y5.out.kept G9.out (fun e => by have := (P5.out.lt _ e.symm).1; omega)); have R9 := Lib.hid (R5.out.row P5.out (by omega) G9.out); have I9 := Lib.hid (I5.out.kept G9.out (by cases e : (Value.slice a2 zs.length c2).ownBlock with | none => exact .inl rfl | some g => right; intro e2; have h1 := hrow0.out g e; have h2 := (P5.out.lt _ e2.symm).1; omega)); have hz9 := G9.out.size; clear hin9 hb9 hg9)
        go_roundw
        case rel => exact ⟨k - 1, _, c1, a1, ps ++ [(x : Int)], by rw [List.length_append, hL]; rfl, by go_num, by rw [List.length_append, hL]; simp; omega, X9.out, Y9.out, I9.out, by rw [List.length_append, hL]; exact P9.out, by rw [List.length_append, hL]; simp; omega, R9.out, B9.out, by omega, by intro e; subst e; rcases P9.out.2 with ⟨_, h0⟩ | ⟨g, cp, cu, e, _⟩ <;> simp_all⟩
        case measure => simp [intOf]; omega
      · have x0 := HX.out.out.at0
        have hmb : decide (m < 1) = false := decide_eq_false hmx
        go_wp2_with fail
        refine (specPick (w.heap.size + 1 + 1) (w.heap.size + 1) q m (by omega) _ HR.out).mono ?_
        rintro e w5 ⟨⟨x, rfl, _⟩, hr5, hg5⟩
        have hz5 := hg5.size
        have X5 := Lib.hid (HX.out.kept hg5 (by simp; omega))
        have Y5 := Lib.hid (HY.out.kept hg5 (by simp))
        have I5 := Lib.hid (HI.out.pick (by omega) hg5)
        have P5 := Lib.hid (HP.out.pick (by omega) hg5)
        have R5 := Lib.hid hr5
        have B5 := Lib.hid (HB.out.grown hg5 (by omega) (fun k hk => by cases hk; omega))
        clear hr5 hg5 x0 HX HY HI HP HR HB hmb
        go_wp2_with (at_builtin; refine wpList_app rfl (.tmp 21) (.tmp 27) rfl (o + 1) _ ps rfl (by exact P5.out.alloc _) _ _ _ [(x : Int)] rfl (src_cell (by rw [World.cell?_alloc_at _ _ _ _ rfl]; rfl)) (by omega) (by simp; omega) ?_; intro a1 c1 w9 hin9 hb9 hg9; rw [hL] at hin9 ⊢; have P9 := Lib.hid hin9; have G9 := Lib.hid (show w5.grownBy w9 (Value.slice a' L c').ownBlock from grownBy_trans (World.grownBy_alloc _ _ _) hg9); have B9 := Lib.hid (show Below w.heap.size w w9 from B5.out.trans (((Below.refl _ _).alloc (by omega) _ |>.trans (hb9.mono (by omega))) )); have X9 := Lib.hid (X5.out.kept G9.out (fun e => by have := (P5.out.lt _ e.symm).1; omega)); have Y9 := Lib.hid (Y5.out.kept G9.out (fun e => by have := (P5.out.lt _ e.symm).1; omega)); have R9 := Lib.hid (R5.out.row P5.out (by omega) G9.out); have I9 := Lib.hid (I5.out.kept G9.out (by cases e : (Value.slice a2 zs.length c2).ownBlock with | none => exact .inl rfl | some g => right; intro e2; have h1 := hrow0.out g e; have h2 := (P5.out.lt _ e2.symm).1; omega)); have hz9 := G9.out.size; clear hin9 hb9 hg9)
        go_roundw
        case rel => exact ⟨k - 1, _, c1, a1, ps ++ [(x : Int)], by rw [List.length_append, hL]; rfl, by go_num, by rw [List.length_append, hL]; simp; omega, X9.out, Y9.out, I9.out, by rw [List.length_append, hL]; exact P9.out, by rw [List.length_append, hL]; simp; omega, R9.out, B9.out, by omega, by intro e; subst e; rcases P9.out.2 with ⟨_, h0⟩ | ⟨g, cp, cu, e, _⟩ <;> simp_all⟩
        case measure => simp [intOf]; omega
    · obtain rfl : k = 0 := by omega
      obtain ⟨g, rfl⟩ := HP.out.row_of hna
      clear hna
      by_cases hL0 : 0 < L
      · go_wp2_with fail
        refine (specPick (w.heap.size + 1 + 1) (w.heap.size + 1) q 24 (by omega) _ HR.out).mono ?_
        rintro e w6 ⟨⟨y, rfl, _⟩, hr6, hg6⟩
        have hz6 := hg6.size
        have X6 := Lib.hid (HX.out.kept hg6 (by simp; omega))
        have Y6 := Lib.hid (HY.out.kept hg6 (by simp))
        have I6 := Lib.hid (HI.out.pick (by omega) hg6)
        have P6 := Lib.hid (HP.out.pick (by omega) hg6)
        have R6 := Lib.hid hr6
        have B6 := Lib.hid (HB.out.grown hg6 (by omega) (fun k hk => by cases hk; omega))
        clear hr6 hg6 HX HY HI HP HR HB
        by_cases hy0 : y = 0
        · subst hy0
          have x0 := X6.out.out.at0
          have x1 := X6.out.out.at1
          go_wp2_with fail
          refine (specPointOf (w.heap.size + 1 + 1) (w.heap.size + 1) (q + 1) m a2 c2 zs.length (by omega) (by omega) _ R6.out).mono ?_
          rintro e w7 ⟨v, p7, rfl, hp7, hr7, hg7⟩
          have hz7 := hg7.size
          have X7 := Lib.hid (X6.out.kept hg7 (by simp; omega))
          have Y7 := Lib.hid (Y6.out.kept hg7 (by simp))
          have I7 := Lib.hid (I6.out.pick (by omega) hg7)
          have P7 := Lib.hid (P6.out.pick (by omega) hg7)
          have R7 := Lib.hid hr7
          have B7 := Lib.hid (B6.out.grown hg7 (by omega) (fun k hk => by cases hk; omega))
          clear hr7 hg7 x0 x1 X6 Y6 I6 P6 R6 B6
          obtain ⟨d0, f0⟩ := P7.out.cell0 hL hL0
          have hgl := P7.out.lt g rfl
          go_upto_region 10 with (fail)
          obtain ⟨fs, hfs, hP8⟩ := P7.out.set0 hL hL0 v
          have P8 := Lib.hid hP8
          have X8 := Lib.hid (X7.out.other (p := g) (j := 0) (by omega) (.int .i64 v))
          have Y8 := Lib.hid (Y7.out.other (p := g) (j := 0) (by omega) (.int .i64 v))
          have I8 := Lib.hid (I7.out.kept (grownBy_set (g := g) w7 0 (.int .i64 v)) (by cases e : (Value.slice a2 zs.length c2).ownBlock with | none => exact .inl rfl | some g2 => right; intro e2; have h1 := hrow0.out g2 e; cases e2; omega))
          have R8 := Lib.hid (R7.out.set (o := g) (j := 0) (by omega) (.int .i64 v))
          have B8 := Lib.hid (show Below w.heap.size w (w7.setCell ⟨g, 0, none⟩ (.int .i64 v)) from B7.out.setCell (by show w.heap.size ≤ g; omega) _)
          have HZ8 := Lib.hid (show (w7.setCell ⟨g, 0, none⟩ (.int .i64 v)).heap.size = w7.heap.size by simp)
          clear hP8 X7 Y7 I7 P7 R7 B7 d0 f0 hgl
          generalize (w7.setCell ⟨g, 0, none⟩ (.int .i64 v)) = w8 at *
          have hz8 : w7.heap.size ≤ w8.heap.size := Nat.le_of_eq HZ8.out.symm
          clear HZ8 hL
          have x0 := X8.out.out.at0
          have x1 := X8.out.out.at1
          have r0 := Y8.out.out.at0
          have r1 := Y8.out.out.at1
          have q0 := Y8.out.out.free0
          have q1 := Y8.out.out.free1
          have X4 := Lib.hid (show Bx m (.slice a2 zs.length c2) o ((w8.setCell ⟨w.heap.size, 0, none⟩ (.int .i64 m)).setCell ⟨w.heap.size, 1, none⟩ (.slice a2 zs.length c2)) from (X8.out.other (by omega) _).other (by omega) _)
          have Y4 := Lib.hid (show Bx m (.slice a2 zs.length c2) w.heap.size ((w8.setCell ⟨w.heap.size, 0, none⟩ (.int .i64 m)).setCell ⟨w.heap.size, 1, none⟩ (.slice a2 zs.length c2)) from (Y8.out.setN m).set (.slice a2 zs.length c2))
          have I4 := Lib.hid (show Ints (w.heap.size + 2) ((w8.setCell ⟨w.heap.size, 0, none⟩ (.int .i64 m)).setCell ⟨w.heap.size, 1, none⟩ (.slice a2 zs.length c2)) _ _ from (I8.out.setCell_below (a := ⟨w.heap.size, 0, none⟩) (by simp) _).setCell_below (a := ⟨w.heap.size, 1, none⟩) (by simp) _)
          have P4 := Lib.hid (show Ints (o + 1) ((w8.setCell ⟨w.heap.size, 0, none⟩ (.int .i64 m)).setCell ⟨w.heap.size, 1, none⟩ (.slice a2 zs.length c2)) _ fs from (P8.out.setCell_below (a := ⟨w.heap.size, 0, none⟩) (by show w.heap.size < o + 1; omega) _).setCell_below (a := ⟨w.heap.size, 1, none⟩) (by show w.heap.size < o + 1; omega) _)
          have R4 := Lib.hid (show Rdr (w.heap.size + 1 + 1) (w.heap.size + 1) p7 ((w8.setCell ⟨w.heap.size, 0, none⟩ (.int .i64 m)).setCell ⟨w.heap.size, 1, none⟩ (.slice a2 zs.length c2)) from (R8.out.bx Y8.out (by omega) 0 _).bx (Y8.out.setN m) (by omega) 1 _)
          have B4 := Lib.hid (show Below w.heap.size w ((w8.setCell ⟨w.heap.size, 0, none⟩ (.int .i64 m)).setCell ⟨w.heap.size, 1, none⟩ (.slice a2 zs.length c2)) from (B8.out.setCell (Nat.le_refl _) _).setCell (Nat.le_refl _) _)
          have z0 := X4.out.out.at0
          have z1 := X4.out.out.at1
          go_wp2_with fail
          go_region_law (go_simp; go_at_call 65; refine (specOneOf (w.heap.size + 2) (w.heap.size + 1 + 1) (w.heap.size + 1) p7 m a2 c2 zs (by omega) (by omega) _ (by first | exact R8.out | exact R8.out.drew | exact R4.out | exact R4.out.drew) (by first | exact I8.out | exact I4.out) (by omega)).mono ?_; rintro e w5 ⟨s, p5, rfl, hp5, hr5, hg5⟩; (first | (have G5 : w8.grownBy w5 (some (w.heap.size + 1)) := (by first | exact hg5 | exact ⟨hg5.os, hg5.tape, hg5.output, hg5.size, hg5.block⟩); have X5 := Lib.hid (X8.out.kept G5 (by simp; omega)); have Y5 := Lib.hid (Y8.out.kept G5 (by simp)); have I5 := Lib.hid (I8.out.pick (by omega) G5); have P5 := Lib.hid (P8.out.pick (by omega) G5); have B5 := Lib.hid (B8.out.grown G5 (by omega) (fun k hk => by cases hk; omega)); have y0 := Y5.out.out.at0; have y1 := Y5.out.out.at1; have f0 := Y5.out.out.free0; have f1 := Y5.out.out.free1; have u0 := X5.out.out.at0; have u1 := X5.out.out.at1; clear G5 hg5 hr5) | (have G5 : ((w8.setCell ⟨w.heap.size, 0, none⟩ (.int .i64 m)).setCell ⟨w.heap.size, 1, none⟩ (.slice a2 zs.length c2)).grownBy w5 (some (w.heap.size + 1)) := (by first | exact hg5 | exact ⟨hg5.os, hg5.tape, hg5.output, hg5.size, hg5.block⟩); have X5 := Lib.hid (X4.out.kept G5 (by simp; omega)); have Y5 := Lib.hid (Y4.out.kept G5 (by simp)); have I5 := Lib.hid (I4.out.pick (by omega) G5); have P5 := Lib.hid (P4.out.pick (by omega) G5); have B5 := Lib.hid (B4.out.grown G5 (by simp; omega) (fun k hk => by cases hk; omega)); have y0 := Y5.out.out.at0; have y1 := Y5.out.out.at1; have f0 := Y5.out.out.free0; have f1 := Y5.out.out.free1; have u0 := X5.out.out.at0; have u1 := X5.out.out.at1; clear G5 hg5 hr5)))
          all_goals
            go_wp2_with fail
            refine bodyPost_ret (v := .tuple #[.agg #[.int .i64 m, .slice a2 zs.length c2], .slice (some ⟨g, 0, none⟩) L c', .int .i64 s]) (by simp [results, Tryd.results18, go_sem, y0, y1]) rfl ?_
            refine ⟨m, zs, fs, s, ⟨by omega, by omega, by omega, by omega⟩, a2, c2, some ⟨g, 0, none⟩, c', by rw [hfs], ?_, ?_, ?_⟩
            · refine Ints.mono (B := w.heap.size + 1) ?_ (by omega)
              repeat (refine Ints.setCell_below ?_ (by simp) _)
              exact I5.out.mono (by omega)
            · rw [hfs]
              refine Ints.mono (B := o) ?_ (by omega)
              repeat (refine Ints.setCell_below ?_ (by show w.heap.size < o; omega) _)
              exact P5.out.mono (by omega)
            · have hb0 := B5.out
              clear r0 r1 q0 q1 y0 y1 f0 f1 u0 u1 x0 x1 z0 z1
              go_grown
        · have hy1 : ¬ (y : Int) = 0 := by omega
          have hy2 : ((y : Int) == 0) = false := by simpa using hy1
          have hfs := hL
          clear hL
          go_upto_region 10 with (fail)
          have x0 := X6.out.out.at0
          have x1 := X6.out.out.at1
          have r0 := Y6.out.out.at0
          have r1 := Y6.out.out.at1
          have q0 := Y6.out.out.free0
          have q1 := Y6.out.out.free1
          have X4 := Lib.hid (show Bx m (.slice a2 zs.length c2) o ((w6.setCell ⟨w.heap.size, 0, none⟩ (.int .i64 m)).setCell ⟨w.heap.size, 1, none⟩ (.slice a2 zs.length c2)) from (X6.out.other (by omega) _).other (by omega) _)
          have Y4 := Lib.hid (show Bx m (.slice a2 zs.length c2) w.heap.size ((w6.setCell ⟨w.heap.size, 0, none⟩ (.int .i64 m)).setCell ⟨w.heap.size, 1, none⟩ (.slice a2 zs.length c2)) from (Y6.out.setN m).set (.slice a2 zs.length c2))
          have I4 := Lib.hid (show Ints (w.heap.size + 2) ((w6.setCell ⟨w.heap.size, 0, none⟩ (.int .i64 m)).setCell ⟨w.heap.size, 1, none⟩ (.slice a2 zs.length c2)) _ _ from (I6.out.setCell_below (a := ⟨w.heap.size, 0, none⟩) (by simp) _).setCell_below (a := ⟨w.heap.size, 1, none⟩) (by simp) _)
          have P4 := Lib.hid (show Ints (o + 1) ((w6.setCell ⟨w.heap.size, 0, none⟩ (.int .i64 m)).setCell ⟨w.heap.size, 1, none⟩ (.slice a2 zs.length c2)) _ ps from (P6.out.setCell_below (a := ⟨w.heap.size, 0, none⟩) (by show w.heap.size < o + 1; omega) _).setCell_below (a := ⟨w.heap.size, 1, none⟩) (by show w.heap.size < o + 1; omega) _)
          have R4 := Lib.hid (show Rdr (w.heap.size + 1 + 1) (w.heap.size + 1) (q + 1) ((w6.setCell ⟨w.heap.size, 0, none⟩ (.int .i64 m)).setCell ⟨w.heap.size, 1, none⟩ (.slice a2 zs.length c2)) from (R6.out.bx Y6.out (by omega) 0 _).bx (Y6.out.setN m) (by omega) 1 _)
          have B4 := Lib.hid (show Below w.heap.size w ((w6.setCell ⟨w.heap.size, 0, none⟩ (.int .i64 m)).setCell ⟨w.heap.size, 1, none⟩ (.slice a2 zs.length c2)) from (B6.out.setCell (Nat.le_refl _) _).setCell (Nat.le_refl _) _)
          have z0 := X4.out.out.at0
          have z1 := X4.out.out.at1
          go_wp2_with fail
          go_region_law (go_simp; go_at_call 65; refine (specOneOf (w.heap.size + 2) (w.heap.size + 1 + 1) (w.heap.size + 1) (q + 1) m a2 c2 zs (by omega) (by omega) _ (by first | exact R6.out | exact R6.out.drew | exact R4.out | exact R4.out.drew) (by first | exact I6.out | exact I4.out) (by omega)).mono ?_; rintro e w5 ⟨s, p5, rfl, hp5, hr5, hg5⟩; (first | (have G5 : w6.grownBy w5 (some (w.heap.size + 1)) := (by first | exact hg5 | exact ⟨hg5.os, hg5.tape, hg5.output, hg5.size, hg5.block⟩); have X5 := Lib.hid (X6.out.kept G5 (by simp; omega)); have Y5 := Lib.hid (Y6.out.kept G5 (by simp)); have I5 := Lib.hid (I6.out.pick (by omega) G5); have P5 := Lib.hid (P6.out.pick (by omega) G5); have B5 := Lib.hid (B6.out.grown G5 (by omega) (fun k hk => by cases hk; omega)); have y0 := Y5.out.out.at0; have y1 := Y5.out.out.at1; have f0 := Y5.out.out.free0; have f1 := Y5.out.out.free1; have u0 := X5.out.out.at0; have u1 := X5.out.out.at1; clear G5 hg5 hr5) | (have G5 : ((w6.setCell ⟨w.heap.size, 0, none⟩ (.int .i64 m)).setCell ⟨w.heap.size, 1, none⟩ (.slice a2 zs.length c2)).grownBy w5 (some (w.heap.size + 1)) := (by first | exact hg5 | exact ⟨hg5.os, hg5.tape, hg5.output, hg5.size, hg5.block⟩); have X5 := Lib.hid (X4.out.kept G5 (by simp; omega)); have Y5 := Lib.hid (Y4.out.kept G5 (by simp)); have I5 := Lib.hid (I4.out.pick (by omega) G5); have P5 := Lib.hid (P4.out.pick (by omega) G5); have B5 := Lib.hid (B4.out.grown G5 (by simp; omega) (fun k hk => by cases hk; omega)); have y0 := Y5.out.out.at0; have y1 := Y5.out.out.at1; have f0 := Y5.out.out.free0; have f1 := Y5.out.out.free1; have u0 := X5.out.out.at0; have u1 := X5.out.out.at1; clear G5 hg5 hr5)))
          all_goals
            go_wp2_with fail
            refine bodyPost_ret (v := .tuple #[.agg #[.int .i64 m, .slice a2 zs.length c2], .slice (some ⟨g, 0, none⟩) L c', .int .i64 s]) (by simp [results, Tryd.results18, go_sem, y0, y1]) rfl ?_
            refine ⟨m, zs, ps, s, ⟨by omega, by omega, by omega, by omega⟩, a2, c2, some ⟨g, 0, none⟩, c', by rw [hfs], ?_, ?_, ?_⟩
            · refine Ints.mono (B := w.heap.size + 1) ?_ (by omega)
              repeat (refine Ints.setCell_below ?_ (by simp) _)
              exact I5.out.mono (by omega)
            · rw [hfs]
              refine Ints.mono (B := o) ?_ (by omega)
              repeat (refine Ints.setCell_below ?_ (by show w.heap.size < o; omega) _)
              exact P5.out.mono (by omega)
            · have hb0 := B5.out
              clear r0 r1 q0 q1 y0 y1 f0 f1 u0 u1 x0 x1 z0 z1
              go_grown
      · obtain rfl : L = 0 := by omega
        have hfs := hL
        clear hL
        have X6 := HX
        have Y6 := HY
        have I6 := HI
        have P6 := HP
        have R6 := HR
        have B6 := HB
        clear HX HY HI HP HR HB
        go_upto_region 10 with (fail)
        have x0 := X6.out.out.at0
        have x1 := X6.out.out.at1
        have r0 := Y6.out.out.at0
        have r1 := Y6.out.out.at1
        have q0 := Y6.out.out.free0
        have q1 := Y6.out.out.free1
        have X4 := Lib.hid (show Bx m (.slice a2 zs.length c2) o ((wr.setCell ⟨w.heap.size, 0, none⟩ (.int .i64 m)).setCell ⟨w.heap.size, 1, none⟩ (.slice a2 zs.length c2)) from (X6.out.other (by omega) _).other (by omega) _)
        have Y4 := Lib.hid (show Bx m (.slice a2 zs.length c2) w.heap.size ((wr.setCell ⟨w.heap.size, 0, none⟩ (.int .i64 m)).setCell ⟨w.heap.size, 1, none⟩ (.slice a2 zs.length c2)) from (Y6.out.setN m).set (.slice a2 zs.length c2))
        have I4 := Lib.hid (show Ints (w.heap.size + 2) ((wr.setCell ⟨w.heap.size, 0, none⟩ (.int .i64 m)).setCell ⟨w.heap.size, 1, none⟩ (.slice a2 zs.length c2)) _ _ from (I6.out.setCell_below (a := ⟨w.heap.size, 0, none⟩) (by simp) _).setCell_below (a := ⟨w.heap.size, 1, none⟩) (by simp) _)
        have P4 := Lib.hid (show Ints (o + 1) ((wr.setCell ⟨w.heap.size, 0, none⟩ (.int .i64 m)).setCell ⟨w.heap.size, 1, none⟩ (.slice a2 zs.length c2)) _ ps from (P6.out.setCell_below (a := ⟨w.heap.size, 0, none⟩) (by show w.heap.size < o + 1; omega) _).setCell_below (a := ⟨w.heap.size, 1, none⟩) (by show w.heap.size < o + 1; omega) _)
        have R4 := Lib.hid (show Rdr (w.heap.size + 1 + 1) (w.heap.size + 1) q ((wr.setCell ⟨w.heap.size, 0, none⟩ (.int .i64 m)).setCell ⟨w.heap.size, 1, none⟩ (.slice a2 zs.length c2)) from (R6.out.bx Y6.out (by omega) 0 _).bx (Y6.out.setN m) (by omega) 1 _)
        have B4 := Lib.hid (show Below w.heap.size w ((wr.setCell ⟨w.heap.size, 0, none⟩ (.int .i64 m)).setCell ⟨w.heap.size, 1, none⟩ (.slice a2 zs.length c2)) from (B6.out.setCell (Nat.le_refl _) _).setCell (Nat.le_refl _) _)
        have z0 := X4.out.out.at0
        have z1 := X4.out.out.at1
        go_wp2_with fail
        go_region_law (go_simp; go_at_call 65; refine (specOneOf (w.heap.size + 2) (w.heap.size + 1 + 1) (w.heap.size + 1) q m a2 c2 zs (by omega) (by omega) _ (by first | exact R6.out | exact R6.out.drew | exact R4.out | exact R4.out.drew) (by first | exact I6.out | exact I4.out) (by omega)).mono ?_; rintro e w5 ⟨s, p5, rfl, hp5, hr5, hg5⟩; (first | (have G5 : wr.grownBy w5 (some (w.heap.size + 1)) := (by first | exact hg5 | exact ⟨hg5.os, hg5.tape, hg5.output, hg5.size, hg5.block⟩); have X5 := Lib.hid (X6.out.kept G5 (by simp; omega)); have Y5 := Lib.hid (Y6.out.kept G5 (by simp)); have I5 := Lib.hid (I6.out.pick (by omega) G5); have P5 := Lib.hid (P6.out.pick (by omega) G5); have B5 := Lib.hid (B6.out.grown G5 (by omega) (fun k hk => by cases hk; omega)); have y0 := Y5.out.out.at0; have y1 := Y5.out.out.at1; have f0 := Y5.out.out.free0; have f1 := Y5.out.out.free1; have u0 := X5.out.out.at0; have u1 := X5.out.out.at1; clear G5 hg5 hr5) | (have G5 : ((wr.setCell ⟨w.heap.size, 0, none⟩ (.int .i64 m)).setCell ⟨w.heap.size, 1, none⟩ (.slice a2 zs.length c2)).grownBy w5 (some (w.heap.size + 1)) := (by first | exact hg5 | exact ⟨hg5.os, hg5.tape, hg5.output, hg5.size, hg5.block⟩); have X5 := Lib.hid (X4.out.kept G5 (by simp; omega)); have Y5 := Lib.hid (Y4.out.kept G5 (by simp)); have I5 := Lib.hid (I4.out.pick (by omega) G5); have P5 := Lib.hid (P4.out.pick (by omega) G5); have B5 := Lib.hid (B4.out.grown G5 (by simp; omega) (fun k hk => by cases hk; omega)); have y0 := Y5.out.out.at0; have y1 := Y5.out.out.at1; have f0 := Y5.out.out.free0; have f1 := Y5.out.out.free1; have u0 := X5.out.out.at0; have u1 := X5.out.out.at1; clear G5 hg5 hr5)))
        all_goals
          go_wp2_with fail
          refine bodyPost_ret (v := .tuple #[.agg #[.int .i64 m, .slice a2 zs.length c2], .slice (some ⟨g, 0, none⟩) 0 c', .int .i64 s]) (by simp [results, Tryd.results18, go_sem, y0, y1]) rfl ?_
          refine ⟨m, zs, ps, s, ⟨by omega, by omega, by omega, by omega⟩, a2, c2, some ⟨g, 0, none⟩, c', by rw [hfs], ?_, ?_, ?_⟩
          · refine Ints.mono (B := w.heap.size + 1) ?_ (by omega)
            repeat (refine Ints.setCell_below ?_ (by simp) _)
            exact I5.out.mono (by omega)
          · rw [hfs]
            refine Ints.mono (B := o) ?_ (by omega)
            repeat (refine Ints.setCell_below ?_ (by show w.heap.size < o; omega) _)
            exact P5.out.mono (by omega)
          · have hb0 := B5.out
            clear r0 r1 q0 q1 y0 y1 f0 f1 u0 u1 x0 x1 z0 z1
            go_grown

end Go.Proofs.YtiocaopabkbgpaaDoor
