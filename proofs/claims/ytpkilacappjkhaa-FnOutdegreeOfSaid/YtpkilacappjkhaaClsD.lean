/- A class of some points by chance, as the laws draw it: classOf. Conditions: at most five points; the reader has drawn at most 90000 numbers. -/
import Derived.Deep.RegionHeld3
import Derived.Test.YtpkilacappjkhaaComplS
import Derived.Test.YtpkilacappjkhaaPicked
import Derived.Test.YtpkilacappjkhaaSettleS
import Derived.Test.YtpkilacappjkhaaZE
import Derived.Test.YtpkilacappjkhaaZH
namespace Go.Proofs.Ytpkilacappjkhaa
open Go.RowKit

theorem tidy_cls {n : Nat} {l : List Nat} (hn : n ≤ 5) (h : ∀ t ∈ l, t < 2 ^ n) : Cls n (tidyL l) :=
  ⟨hn, by rw [tidyL]; exact flt_asc _, fun t ht => by
    rw [tidyL, mem_flt] at ht
    exact h t (by simpa using ht.2)⟩
theorem toI_set (ls : List Nat) (j z : Nat) : toI (ls.set j z) = (toI ls).set j (z : Int) := by simp [toI, List.map_set]
theorem grown_drew {a w : World} {R : Option Nat} (h : a.grownBy w R) : a.grownBy w.drew R := ⟨h.os, h.tape, h.output, h.size, h.block⟩
theorem grown_next {a w w' : World} {R : Option Nat} (h : a.grownBy w R) (hb : Below w.heap.size w w') : a.grownBy w' R :=
  grownBy_trans h ⟨hb.os, hb.tape, hb.output, hb.size, fun k hk _ => hb.block k hk⟩
/-- a drawn class of n points: k numbers are drawn at most -/
def GotCls (B R n k : Nat) (w : World) (e : Ending) (w' : World) : Prop :=
  ∃ (a : Option Addr) (cap p' : Nat) (ms : List Nat), e = .returned (.agg #[.int .i64 (n : Int), .slice a ms.length cap]) ∧ Ints w.heap.size w' (.slice a ms.length cap) (toI ms) ∧ Cls n ms ∧ p' ≤ k ∧ Rdr B R p' w' ∧ w.grownBy w' (some R)

set_option maxHeartbeats 6400000 in
set_option maxRecDepth 100000 in
theorem specClassOf (B R p n : Nat) (hn : n ≤ 5) (hp : p ≤ 90000) (w : World) (h : Rdr B R p w) :
    Calls Try.prog 40 #[.pointer (some ⟨R, 0, none⟩), .int .i64 (n : Int)] w (GotCls B R n (p + 60) w) := by
  have hRB := h.1
  have hBw := h.2.1
  have hp32 := pow_le_32 hn
  have hp2 := two_pow_le n (by omega)
  obtain ⟨q, hq⟩ : ∃ q, q = (2 : Int) ^ n := ⟨_, rfl⟩
  have HPW := Lib.hid (fun w => hq ▸ power_q n hn w)
  have hq32 : 1 ≤ q ∧ q ≤ 4096 := by rw [hq]; omega
  have HQ := Lib.hid (show q = ((2 ^ n : Nat) : Int) by rw [hq]; simp)
  have hq32' : q ≤ 32 := by rw [HQ.out]; omega
  have HN5 := Lib.hid hn
  clear hq hp2 hp32
  have HP := Lib.hid (specPicked B R p n hn (by omega) _ (h.alloc (Obj.cells #[.int .i64 0, .slice none 0 0] 25)))
  have HRes := Lib.hid (Bx.new 0 (.slice none 0 0) w)
  clear h
  go_enter Try.func40, Try.ntmps40
  go_wp2_with fail
  refine HP.out.mono ?_
  rintro e w1 ⟨a1, c1, p1, ms, rfl, hin1, hcls, hp1, hr1, hg1⟩
  have HCL := Lib.hid hcls
  have hl := hcls.length
  have hz1 : w.heap.size + 1 ≤ w1.heap.size := by have := hg1.size; simpa using this
  have HC2 := Lib.hid (Bx.new n (.slice a1 ms.length c1) w1)
  have HRes2 := Lib.hid ((HRes.out.kept hg1 (by simp; omega)).alloc (Obj.cells #[.int .i64 (n : Int), .slice a1 ms.length c1] 25))
  have HI2 := Lib.hid (show Ints (w.heap.size + 1) _ _ _ from (show Ints (w.heap.size + 1) w1 _ _ by simpa using hin1).alloc (Obj.cells #[.int .i64 (n : Int), .slice a1 ms.length c1] 25))
  have HR2 := Lib.hid (hr1.alloc (Obj.cells #[.int .i64 (n : Int), .slice a1 ms.length c1] 25))
  have HG2 := Lib.hid (show w.grownBy (w1.alloc (Obj.cells #[.int .i64 (n : Int), .slice a1 ms.length c1] 25)) (some R) from grownBy_trans (grownBy_trans (World.grownBy_alloc _ _ _) hg1) (World.grownBy_alloc _ _ _))
  have HZ2 := Lib.hid (show (w1.alloc (Obj.cells #[.int .i64 (n : Int), .slice a1 ms.length c1] 25)).heap.size = w1.heap.size + 1 by simp)
  clear hin1 hcls hr1 hg1 HP
  go_wp2_with fail
  generalize (w1.alloc (Obj.cells #[.int .i64 (n : Int), .slice a1 ms.length c1] 25)) = w2 at *
  refine (specPick B R p1 8 (by omega) _ HR2.out).mono ?_
  rintro e w3 ⟨⟨x, rfl, hx⟩, hr3, hg3⟩
  have hz2 := HZ2.out
  have hz3 := hg3.size
  have HC3 := Lib.hid (HC2.out.kept hg3 (by simp; omega))
  have HRes3 := Lib.hid (HRes2.out.kept hg3 (by simp; omega))
  have HI3 := Lib.hid (HI2.out.pick (by omega) hg3)
  have HR3 := Lib.hid hr3
  have HG3 := Lib.hid (grownBy_trans HG2.out hg3)
  clear hr3 hg3
  generalize ho : w1.heap.size = o at *
  have c0 := HC3.out.out.at0
  have c1' := HC3.out.out.at1
  by_cases hx0 : x = 0
  · subst hx0
    go_wp2_with fail
    refine (specSettled n _ ms HCL.out (w.heap.size + 1) _ HI3.out).mono ?_
    rintro e w4 ⟨a4, c4, rfl, hin4, hb4⟩
    have HAl := Lib.hid (toI_length (swp n ms))
    have hCs : Cls n (swp n ms) := HCL.out.swTo n
    have HCs := Lib.hid hCs
    clear hCs c0 c1'
    generalize swp n ms = L at *
    have HI4 := Lib.hid (hin4.mono (show w.heap.size + 1 ≤ w3.heap.size by omega))
    rw [HAl.out] at HI4 ⊢
    have HRes4 := Lib.hid (HRes3.out.next hb4 (by omega))
    have HR4 := Lib.hid (HR3.out.next hb4 (by omega))
    have HG4 := Lib.hid (grown_next HG3.out hb4)
    clear hin4 hb4
    have r0 := HRes4.out.out.at0
    have r1 := HRes4.out.out.at1
    have q0 := HRes4.out.out.free0
    have q1 := HRes4.out.out.free1
    go_wp2_with fail
    refine bodyPost_ret (v := .agg #[.int .i64 (n : Int), .slice a4 L.length c4]) (by simp [results, Try.results40, go_sem, r0, r1]) rfl ?_
    refine ⟨a4, c4, p1 + 1, L, rfl, ?_, HCs.out, by omega, ?_, ?_⟩
    · refine Ints.mono (B := w.heap.size + 1) ?_ (by omega)
      repeat (refine Ints.setCell_below ?_ (by simp) _)
      exact HI4.out
    · repeat (refine Rdr.set ?_ (by omega) _)
      exact HR4.out
    · repeat (refine grown_set ?_ (Nat.le_refl _) _)
      exact HG4.out
  by_cases hx1 : x = 1
  · subst hx1
    go_wp2_with fail
    refine (specSettled n _ ms HCL.out (w.heap.size + 1) _ HI3.out).mono ?_
    rintro e w4 ⟨a4, c4, rfl, hin4, hb4⟩
    have hCs : Cls n (swp n ms) := HCL.out.swTo n
    have HCs := Lib.hid (cmpl_cls hCs)
    clear hCs c0 c1'
    have HK := Lib.hid (specCompl n hn _ (swp n ms) _ hin4.rd)
    have HAl := Lib.hid (toI_length (cmpl n (swp n ms)))
    generalize cmpl n (swp n ms) = L at *
    have HRes4 := Lib.hid (HRes3.out.next hb4 (by omega))
    have HR4 := Lib.hid (HR3.out.next hb4 (by omega))
    have HG4 := Lib.hid (grown_next HG3.out hb4)
    have hz4 := hb4.size
    clear hin4 hb4
    go_wp2_with fail
    refine HK.out.mono ?_
    rintro e w5 ⟨a5, c5, rfl, hin5, hb5⟩
    have HI5 := Lib.hid (hin5.mono (show w.heap.size + 1 ≤ w4.heap.size by omega))
    rw [HAl.out] at HI5 ⊢
    have HRes5 := Lib.hid (HRes4.out.next hb5 (by omega))
    have HR5 := Lib.hid (HR4.out.next hb5 (by omega))
    have HG5 := Lib.hid (grown_next HG4.out hb5)
    clear hin5 hb5 HK
    have r0 := HRes5.out.out.at0
    have r1 := HRes5.out.out.at1
    have q0 := HRes5.out.out.free0
    have q1 := HRes5.out.out.free1
    go_wp2_with fail
    refine bodyPost_ret (v := .agg #[.int .i64 (n : Int), .slice a5 L.length c5]) (by simp [results, Try.results40, go_sem, r0, r1]) rfl ?_
    refine ⟨a5, c5, p1 + 1, L, rfl, ?_, HCs.out, by omega, ?_, ?_⟩
    · refine Ints.mono (B := w.heap.size + 1) ?_ (by omega)
      repeat (refine Ints.setCell_below ?_ (by simp) _)
      exact HI5.out
    · repeat (refine Rdr.set ?_ (by omega) _)
      exact HR5.out
    · repeat (refine grown_set ?_ (Nat.le_refl _) _)
      exact HG5.out
  by_cases hx2 : x = 2
  · subst hx2
    clear c0 c1'
    have HX := Lib.hid (show Bx n (.slice (some ⟨w3.heap.size, 0, none⟩) 0 0) (w3.heap.size + 1) ((w3.alloc (Obj.cells #[] 3)).alloc (Obj.cells #[.int .i64 (n : Int), .slice (some ⟨w3.heap.size, 0, none⟩) 0 0] 25)) from heap_alloc_at (by simp))
    have HY := Lib.hid (show Bx 0 (.slice none 0 0) w.heap.size ((w3.alloc (Obj.cells #[] 3)).alloc (Obj.cells #[.int .i64 (n : Int), .slice (some ⟨w3.heap.size, 0, none⟩) 0 0] 25)) from (HRes3.out.alloc _).alloc _)
    have HI := Lib.hid (show Ints w3.heap.size ((w3.alloc (Obj.cells #[] 3)).alloc (Obj.cells #[.int .i64 (n : Int), .slice (some ⟨w3.heap.size, 0, none⟩) 0 0] 25)) (.slice (some ⟨w3.heap.size, 0, none⟩) 0 0) [] from (Ints.lit' (by simp) (by simp)).alloc _)
    have HR := Lib.hid (show Rdr B R (p1 + 1) ((w3.alloc (Obj.cells #[] 3)).alloc (Obj.cells #[.int .i64 (n : Int), .slice (some ⟨w3.heap.size, 0, none⟩) 0 0] 25)) from (HR3.out.alloc _).alloc _)
    have HG := Lib.hid (show w.grownBy ((w3.alloc (Obj.cells #[] 3)).alloc (Obj.cells #[.int .i64 (n : Int), .slice (some ⟨w3.heap.size, 0, none⟩) 0 0] 25)) (some R) from grownBy_trans (grownBy_trans HG3.out (World.grownBy_alloc _ _ _)) (World.grownBy_alloc _ _ _))
    have HZ := Lib.hid (show ((w3.alloc (Obj.cells #[] 3)).alloc (Obj.cells #[.int .i64 (n : Int), .slice (some ⟨w3.heap.size, 0, none⟩) 0 0] 25)).heap.size = w3.heap.size + 2 by simp)
    go_wp2_with fail
    generalize ((w3.alloc (Obj.cells #[] 3)).alloc (Obj.cells #[.int .i64 (n : Int), .slice (some ⟨w3.heap.size, 0, none⟩) 0 0] 25)) = w4 at *
    have hz4 := HZ.out
    refine (specPick B R (p1 + 1) _ (by omega) _ HR.out).mono ?_
    rintro e w5 ⟨⟨k, rfl, hk⟩, hr5, hg5⟩
    have HX5 := Lib.hid (HX.out.kept hg5 (by simp; omega))
    have HY5 := Lib.hid (HY.out.kept hg5 (by simp; omega))
    have HI5 := Lib.hid (HI.out.pick (by omega) hg5)
    have HR5 := Lib.hid hr5
    have HG5 := Lib.hid (grownBy_trans HG.out hg5)
    have hz5 := hg5.size
    clear hr5 hg5 HX HY HI HR HG
    go_wp2_with fail
    refine (HPW.out _).mono ?_
    rintro e w6 ⟨rfl, hw6⟩
    subst w6
    go_wp2_with fail
    refine (specPick B R (p1 + 1 + 1) _ (by omega) _ HR5.out).mono ?_
    rintro e w7 ⟨⟨t, rfl, ht⟩, hr7, hg7⟩
    have HX7 := Lib.hid (HX5.out.kept hg7 (by simp; omega))
    have HY7 := Lib.hid (HY5.out.kept hg7 (by simp; omega))
    have HI7 := Lib.hid (HI5.out.pick (by omega) hg7)
    have HR7 := Lib.hid hr7
    have HG7 := Lib.hid (grownBy_trans HG5.out hg7)
    have hz7 := hg7.size
    have ht32 : t < 32 := by omega
    clear hr7 hg7 HX5 HY5 HI5 HR5 HG5
    go_wp2_with fail
    go_loopw [9] (fun i wr => ∃ (j : Nat) (a' : Option Addr) (c' : Nat) (ls : List Nat), (j : Int) ≤ q ∧ i = .int .i64 j ∧ Asc j ls ∧ Bx n (.slice a' ls.length c') (w3.heap.size + 1) wr ∧ Bx 0 (.slice none 0 0) w.heap.size wr ∧ Ints w3.heap.size wr (.slice a' ls.length c') (toI ls) ∧ Rdr B R (p1 + 1 + 1 + 1) wr ∧ w.grownBy wr (some R) ∧ w3.heap.size + 1 < wr.heap.size) (fun i _ => 64 - (intOf i).toNat)
    case atStart => exact ⟨0, _, _, [], by omega, rfl, ⟨List.Pairwise.nil, by simp, by simp⟩, HX7.out, HY7.out, HI7.out, HR7.out, HG7.out, by omega⟩
    case round =>
      obtain ⟨j, a', c', ls, hj, rfl, hasc, ho8, hres, hin, hr, hg, hsz⟩ := hrel
      have HX8 := Lib.hid ho8
      have HY8 := Lib.hid hres
      have HI8 := Lib.hid hin
      have HR8 := Lib.hid hr
      have HG8 := Lib.hid hg
      have HAs := Lib.hid hasc
      clear ho8 hres hin hr hg
      by_cases hlt : (j : Int) < q
      · have hml := hasc.2.2
        have hxt : j ^^^ t < 32 := Nat.xor_lt_two_pow (n := 5) (by omega) ht32
        clear hasc
        go_wp2_with fail
        refine (HPW.out _).mono ?_
        rintro e w9 ⟨rfl, hw9⟩
        subst w9
        go_wp2_with fail
        refine (specFlip j t (by omega) (by omega) _).mono ?_
        rintro e w9 ⟨rfl, hw9⟩
        subst w9
        generalize j ^^^ t = z at *
        go_wp2_with fail
        refine (specSize z hxt _).mono ?_
        rintro e w9 ⟨rfl, hw9⟩
        subst w9
        generalize pc z = pz at *
        by_cases hpk : (pz : Int) ≤ (k : Int)
        · have HAl := Lib.hid (toI_length ls)
          have e1 := HX8.out.out.at1
          go_wp2_with (at_builtin; refine wpList_app rfl (.tmp 56) (.tmp 58) rfl w3.heap.size _ (toI ls) rfl (by exact HI8.out.alloc _) _ _ _ [(j : Int)] rfl (src_cell (by rw [World.cell?_alloc_at _ _ _ _ rfl]; rfl)) (by rw [HAl.out]; omega) (by simp; omega) ?_; intro a9 c9 w9 hin9 hb9 hg9; have I9 := Lib.hid hin9; have G9 := Lib.hid (show wr.grownBy w9 (Value.slice a' ls.length c').ownBlock from grownBy_trans (World.grownBy_alloc _ _ _) hg9); clear hin9 hb9 hg9; have hz9 := G9.out.size; have X9 := Lib.hid (HX8.out.kept G9.out (HX8.out.not_row HI8.out)); have Y9 := Lib.hid (HY8.out.kept G9.out (HY8.out.not_row HI8.out)); have R9 := Lib.hid (HR8.out.row HI8.out (by omega) G9.out); have F9 := Lib.hid (grown_row HG8.out HI8.out (by omega) G9.out); have f1 := X9.out.out.at1; have g1 := X9.out.out.free1)
          rw [HAl.out] at I9
          go_roundw
          case rel => exact ⟨j + 1, a9, c9, ls ++ [j], by omega, by go_num, HAs.out.push, by rw [HAl.out, List.length_append]; exact X9.out.set _, Y9.out.other (by omega) _, by rw [HAl.out, List.length_append, toI_append]; exact I9.out.bx X9.out 1 _, R9.out.set (by omega) _, grown_set F9.out (by omega) _, by simp; omega⟩
          case measure => simp [intOf]; omega
        · go_wp2_with fail
          go_roundw
          case rel => exact ⟨j + 1, a', c', ls, by omega, by go_num, HAs.out.up, HX8.out, HY8.out, HI8.out, HR8.out, HG8.out, by omega⟩
          case measure => simp [intOf]; omega
      · have HJ := Lib.hid (show j = 2 ^ n by have := HQ.out; omega)
        clear hasc
        have HCs := Lib.hid (show Cls n ls from ⟨HN5.out, HAs.out.1, fun t ht => by rw [← HJ.out]; exact HAs.out.2.1 t ht⟩)
        have HI9 := Lib.hid (HI8.out.mono (show w.heap.size + 1 ≤ w3.heap.size by omega))
        go_wp2_with fail
        refine (HPW.out _).mono ?_
        rintro e w9 ⟨rfl, hw9⟩
        subst w9
        have x0 := HX8.out.out.at0
        have x1 := HX8.out.out.at1
        have r0 := HY8.out.out.at0
        have r1 := HY8.out.out.at1
        have q0 := HY8.out.out.free0
        have q1 := HY8.out.out.free1
        go_wp2_with fail
        refine bodyPost_ret (v := .agg #[.int .i64 (n : Int), .slice a' ls.length c']) (by simp [results, Try.results40, go_sem, r0, r1]) rfl ?_
        refine ⟨a', c', p1 + 1 + 1 + 1, ls, rfl, ?_, HCs.out, by omega, ?_, ?_⟩
        · refine Ints.mono (B := w.heap.size + 1) ?_ (by omega)
          repeat (refine Ints.setCell_below ?_ (by simp) _)
          exact HI9.out
        · repeat (refine Rdr.set ?_ (by omega) _)
          exact HR8.out
        · repeat (refine grown_set ?_ (Nat.le_refl _) _)
          exact HG8.out
  by_cases hx3 : x = 3
  · subst hx3
    clear c0 c1'
    have HX := Lib.hid (show Bx n (.slice (some ⟨w3.heap.size, 0, none⟩) 0 0) (w3.heap.size + 1) ((w3.alloc (Obj.cells #[] 3)).alloc (Obj.cells #[.int .i64 (n : Int), .slice (some ⟨w3.heap.size, 0, none⟩) 0 0] 25)) from heap_alloc_at (by simp))
    have HY := Lib.hid (show Bx 0 (.slice none 0 0) w.heap.size ((w3.alloc (Obj.cells #[] 3)).alloc (Obj.cells #[.int .i64 (n : Int), .slice (some ⟨w3.heap.size, 0, none⟩) 0 0] 25)) from (HRes3.out.alloc _).alloc _)
    have HI := Lib.hid (show Ints w3.heap.size ((w3.alloc (Obj.cells #[] 3)).alloc (Obj.cells #[.int .i64 (n : Int), .slice (some ⟨w3.heap.size, 0, none⟩) 0 0] 25)) (.slice (some ⟨w3.heap.size, 0, none⟩) 0 0) [] from (Ints.lit' (by simp) (by simp)).alloc _)
    have HR := Lib.hid (show Rdr B R (p1 + 1) ((w3.alloc (Obj.cells #[] 3)).alloc (Obj.cells #[.int .i64 (n : Int), .slice (some ⟨w3.heap.size, 0, none⟩) 0 0] 25)) from (HR3.out.alloc _).alloc _)
    have HG := Lib.hid (show w.grownBy ((w3.alloc (Obj.cells #[] 3)).alloc (Obj.cells #[.int .i64 (n : Int), .slice (some ⟨w3.heap.size, 0, none⟩) 0 0] 25)) (some R) from grownBy_trans (grownBy_trans HG3.out (World.grownBy_alloc _ _ _)) (World.grownBy_alloc _ _ _))
    have HZ := Lib.hid (show ((w3.alloc (Obj.cells #[] 3)).alloc (Obj.cells #[.int .i64 (n : Int), .slice (some ⟨w3.heap.size, 0, none⟩) 0 0] 25)).heap.size = w3.heap.size + 2 by simp)
    go_wp2_with fail
    generalize ((w3.alloc (Obj.cells #[] 3)).alloc (Obj.cells #[.int .i64 (n : Int), .slice (some ⟨w3.heap.size, 0, none⟩) 0 0] 25)) = w4 at *
    have hz4 := HZ.out
    refine (HPW.out _).mono ?_
    rintro e w6 ⟨rfl, hw6⟩
    subst w6
    go_wp2_with fail
    refine (specPick B R (p1 + 1) _ (by omega) _ HR.out).mono ?_
    rintro e w7 ⟨⟨t, rfl, ht⟩, hr7, hg7⟩
    have HX7 := Lib.hid (HX.out.kept hg7 (by simp; omega))
    have HY7 := Lib.hid (HY.out.kept hg7 (by simp; omega))
    have HI7 := Lib.hid (HI.out.pick (by omega) hg7)
    have HR7 := Lib.hid hr7
    have HG7 := Lib.hid (grownBy_trans HG.out hg7)
    have hz7 := hg7.size
    have ht32 : t < 32 := by omega
    have HTP := Lib.hid (show t < 2 ^ n by have := HQ.out; have := Nat.two_pow_pos n; omega)
    clear hr7 hg7 HX HY HI HR HG
    go_wp2_with fail
    go_loopw [12] (fun i wr => ∃ (j : Nat) (a' : Option Addr) (c' : Nat) (ls : List Nat), j ≤ n + 1 ∧ i = .int .i64 j ∧ Hid (∀ t ∈ ls, t < 2 ^ n) ∧ ls.length ≤ j ∧ Bx n (.slice a' ls.length c') (w3.heap.size + 1) wr ∧ Bx 0 (.slice none 0 0) w.heap.size wr ∧ Ints w3.heap.size wr (.slice a' ls.length c') (toI ls) ∧ Rdr B R (p1 + 1 + 1) wr ∧ w.grownBy wr (some R) ∧ w3.heap.size + 1 < wr.heap.size) (fun i _ => 64 - (intOf i).toNat)
    case atStart => exact ⟨0, _, _, [], by omega, rfl, Lib.hid (by simp), by simp, HX7.out, HY7.out, HI7.out, HR7.out, HG7.out, by omega⟩
    case round =>
      obtain ⟨j, a', c', ls, hj, rfl, HAs, hml, ho8, hres, hin, hr, hg, hsz⟩ := hrel
      have HX8 := Lib.hid ho8
      have HY8 := Lib.hid hres
      have HI8 := Lib.hid hin
      have HR8 := Lib.hid hr
      have HG8 := Lib.hid hg
      clear ho8 hres hin hr hg
      by_cases hlt : j ≤ n
      · have hpj := two_pow_le j (by omega)
        have hpj1 := Nat.two_pow_pos j
        obtain ⟨r, hr⟩ : ∃ r, r = 2 ^ j - 1 := ⟨_, rfl⟩
        have hr2 : r < 2 ^ n := by
          have : 2 ^ j ≤ 2 ^ n := Nat.pow_le_pow_right (by omega) hlt
          omega
        have hr32 : r < 32 := Nat.lt_of_lt_of_le hr2 (pow_le_32 hn)
        have hrI : (2 : Int) ^ j = (r : Int) + 1 := by
          have hpc : ((2 ^ j : Nat) : Int) = (2 : Int) ^ j := by simp
          omega
        have HPJ := Lib.hid (fun w => specPower (j : Int) w (by omega) (by omega))
        rw [Int.toNat_natCast, hrI] at HPJ
        have HZT := Lib.hid (show r ^^^ t < 2 ^ n from Nat.xor_lt_two_pow hr2 HTP.out)
        have HFl := Lib.hid (fun w => specFlip r t (by omega) (by omega) w)
        have HAl := Lib.hid (toI_length ls)
        have e1 := HX8.out.out.at1
        clear hr hr2 hpj hpj1 hrI
        have hw1 : IntKind.i64.wrap ((r : Int) + 1 - 1) = (r : Int) := by rw [IntKind.wrap_i64]; omega
        have hw2 : IntKind.i64.wrap (r : Int) = (r : Int) := by rw [IntKind.wrap_i64]; omega
        generalize r ^^^ t = z at *
        go_wp2_with fail
        have HRW := Lib.hid (show Ints w3.heap.size wr.drew (.slice a' ls.length c') (toI ls) from HI8.out)
        have HXW := Lib.hid (show Bx n (.slice a' ls.length c') (w3.heap.size + 1) wr.drew from HX8.out)
        have HYW := Lib.hid (show Bx 0 (.slice none 0 0) w.heap.size wr.drew from HY8.out)
        have HDW := Lib.hid (show Rdr B R (p1 + 1 + 1) wr.drew from HR8.out)
        have HGW := Lib.hid (show w.grownBy wr.drew (some R) from ⟨HG8.out.os, HG8.out.tape, HG8.out.output, HG8.out.size, HG8.out.block⟩)
        have hszW : w3.heap.size + 1 < wr.drew.heap.size := hsz
        go_region_law (first
          | (go_simp; go_at_call 29; refine (HPJ.out _).mono ?_; rintro e w9 ⟨rfl, hw9⟩; subst w9)
          | (go_simp; go_at_call 31; refine (HFl.out _).mono ?_; rintro e w9 ⟨rfl, hw9⟩; subst w9)
          | (refine step_app rfl (.tmp 77) (.tmp 83) rfl w3.heap.size _ (toI ls) rfl (by first | exact HRW.out | exact HRW.out.alloc _) _ _ _ [(z : Int)] rfl (src_cell (by first | (rw [World.cell?_alloc_at _ _ _ _ (by simp)]; rfl) | (rw [cell_drew, World.cell?_alloc_at _ _ _ _ (by simp)]; rfl))) (by rw [HAl.out]; omega) (by simp; omega) ?_; intro a9 c9 w9 hin9 hb9 hg9; have I9 := Lib.hid hin9; have G9 := Lib.hid (show wr.drew.grownBy w9 (Value.slice a' ls.length c').ownBlock from by first | exact grownBy_trans (World.grownBy_alloc _ _ _) hg9 | exact hg9); clear hin9 hb9 hg9; have hz9 := G9.out.size; have X9 := Lib.hid (HXW.out.kept G9.out (HXW.out.not_row HRW.out)); have Y9 := Lib.hid (HYW.out.kept G9.out (HYW.out.not_row HRW.out)); have R9 := Lib.hid (HDW.out.row HRW.out (by omega) G9.out); have F9 := Lib.hid (grown_row HGW.out HRW.out (by omega) G9.out); have f1 := X9.out.out.at1; have g1 := X9.out.out.free1))
        all_goals
          rw [HAl.out] at I9
          go_wp2_with fail
          go_roundw
          case rel => exact ⟨j + 1, a9, c9, ls ++ [z], by omega, by go_num, Lib.hid (fun y hy => by
            rcases List.mem_append.1 hy with hy | hy
            · exact HAs.out y hy
            · simp at hy; subst hy; exact HZT.out), by simp; omega, by rw [HAl.out, List.length_append]; exact X9.out.set _, Y9.out.other (by omega) _, by rw [HAl.out, List.length_append, toI_append]; exact I9.out.bx X9.out 1 _, R9.out.set (by omega) _, grown_set F9.out (by omega) _, by simp; omega⟩
          case measure => simp [intOf]; omega
      · have HTD := Lib.hid (specTidy (.slice a' ls.length c') ls wr (fun y hy => Nat.lt_of_lt_of_le (HAs.out y hy) (pow_le_32 HN5.out)) (by omega) HI8.out.rd)
        have HCs := Lib.hid (tidy_cls HN5.out HAs.out)
        have HAl := Lib.hid (toI_length (tidyL ls))
        generalize tidyL ls = L at *
        have e1 := HX8.out.out.at1
        go_wp2_with fail
        refine HTD.out.mono ?_
        rintro e w9 ⟨a9, c9, rfl, hin9, hb9⟩
        have HI9 := Lib.hid (hin9.mono (show (w3.heap.size + 1) + 1 ≤ wr.heap.size by omega))
        rw [HAl.out] at HI9 ⊢
        have hzb := hb9.size
        have HX9 := Lib.hid (HX8.out.next hb9 (by omega))
        have HY9 := Lib.hid (HY8.out.next hb9 (by omega))
        have HR9 := Lib.hid (HR8.out.next hb9 (by omega))
        have HG9 := Lib.hid (grown_next HG8.out hb9)
        clear hin9 hb9 HTD e1
        have x0 := HX9.out.out.at0
        have x1 := HX9.out.out.at1
        have xf := HX9.out.out.free1
        have r0 := HY9.out.out.at0
        have r1 := HY9.out.out.at1
        have q0 := HY9.out.out.free0
        have q1 := HY9.out.out.free1
        go_wp2_with fail
        refine bodyPost_ret (v := .agg #[.int .i64 (n : Int), .slice a9 L.length c9]) (by simp [results, Try.results40, go_sem, r0, r1]) rfl ?_
        refine ⟨a9, c9, p1 + 1 + 1, L, rfl, ?_, HCs.out, by omega, ?_, ?_⟩
        · refine Ints.mono (B := w3.heap.size + 1 + 1) ?_ (by omega)
          repeat (refine Ints.setCell_below ?_ (by first | (simp; done) | (simp; omega)) _)
          exact HI9.out
        · repeat (refine Rdr.set ?_ (by omega) _)
          exact HR9.out
        · repeat (refine grown_set ?_ (by omega) _)
          exact HG9.out
  by_cases hx4 : x = 4
  · subst hx4
    clear c0
    have c0 := HC3.out.out.at0
    go_wp2_with fail
    refine (specSettled n _ ms HCL.out (w.heap.size + 1) _ HI3.out).mono ?_
    rintro e w4 ⟨a4, c4, rfl, hin4, hb4⟩
    have HAl := Lib.hid (toI_length (swp n ms))
    have hCs : Cls n (swp n ms) := HCL.out.swTo n
    have HLT := Lib.hid hCs.lt
    have hlen := hCs.length
    clear hCs c0 c1'
    generalize swp n ms = L at *
    have hz4 := hb4.size
    have HI4 := Lib.hid (hin4.mono (show w.heap.size + 1 ≤ w3.heap.size by omega))
    rw [HAl.out] at HI4
    have HRes4 := Lib.hid (HRes3.out.next hb4 (by omega))
    have HR4 := Lib.hid (HR3.out.next hb4 (by omega))
    have HG4 := Lib.hid (grown_next HG3.out hb4)
    clear hin4 hb4
    rw [HAl.out]
    have HX := Lib.hid (Bx.new n (.slice a4 L.length c4) w4)
    have HY := Lib.hid (HRes4.out.alloc (Obj.cells #[.int .i64 (n : Int), .slice a4 L.length c4] 25))
    have HI := Lib.hid (HI4.out.alloc (Obj.cells #[.int .i64 (n : Int), .slice a4 L.length c4] 25))
    have HR := Lib.hid (HR4.out.alloc (Obj.cells #[.int .i64 (n : Int), .slice a4 L.length c4] 25))
    have HG := Lib.hid (grownBy_trans HG4.out (World.grownBy_alloc w4 (Obj.cells #[.int .i64 (n : Int), .slice a4 L.length c4] 25) _))
    have HZ := Lib.hid (show (w4.alloc (Obj.cells #[.int .i64 (n : Int), .slice a4 L.length c4] 25)).heap.size = w4.heap.size + 1 by simp)
    go_wp2_with fail
    generalize (w4.alloc (Obj.cells #[.int .i64 (n : Int), .slice a4 L.length c4] 25)) = w5 at *
    have hz5 := HZ.out
    refine (HPW.out _).mono ?_
    rintro e w6 ⟨rfl, hw6⟩
    subst w6
    go_wp2_with fail
    refine (specPick B R (p1 + 1) _ (by omega) _ HR.out).mono ?_
    rintro e w7 ⟨⟨t, rfl, ht⟩, hr7, hg7⟩
    have HX7 := Lib.hid (HX.out.kept hg7 (by simp; omega))
    have HY7 := Lib.hid (HY.out.kept hg7 (by simp; omega))
    have HI7 := Lib.hid (HI.out.pick (by omega) hg7)
    have HR7 := Lib.hid hr7
    have HG7 := Lib.hid (grownBy_trans HG.out hg7)
    have hz7 := hg7.size
    have ht32 : t < 32 := by omega
    have HTP := Lib.hid (show t < 2 ^ n by have := HQ.out; have := Nat.two_pow_pos n; omega)
    clear hr7 hg7 HX HY HI HR HG
    generalize ho4 : w4.heap.size = o4 at *
    generalize hll : L.length = ll at *
    go_wp2_with fail
    go_loopw [15] (fun i wr => ∃ (j : Nat) (ls : List Nat), j ≤ ll ∧ i = .int .i64 j ∧ Hid (∀ t ∈ ls, t < 2 ^ n) ∧ ls.length = ll ∧ Bx n (.slice a4 ll c4) o4 wr ∧ Bx 0 (.slice none 0 0) w.heap.size wr ∧ Ints (w.heap.size + 1) wr (.slice a4 ll c4) (toI ls) ∧ Rdr B R (p1 + 1 + 1) wr ∧ w.grownBy wr (some R) ∧ o4 < wr.heap.size) (fun i _ => 64 - (intOf i).toNat)
    case atStart => exact ⟨0, L, by omega, rfl, HLT, hll, HX7.out, HY7.out, HI7.out, HR7.out, HG7.out, by omega⟩
    case round =>
      obtain ⟨j, ls, hj, rfl, HAs, hml, ho8, hres, hin, hr, hg, hsz⟩ := hrel
      have HX8 := Lib.hid ho8
      have HY8 := Lib.hid hres
      have HI8 := Lib.hid hin
      have HR8 := Lib.hid hr
      have HG8 := Lib.hid hg
      clear ho8 hres hr hg
      have e1 := HX8.out.out.at1
      by_cases hlt : j < ll
      · obtain ⟨a', g, cap', hv, hs1, hs2, hs3, hs4, hs5, hs6⟩ := hin.shape
        simp only [Value.slice.injEq] at hv
        obtain ⟨rfl, hv2, rfl⟩ := hv
        have hne : a4 ≠ none := fun hn => by
          have h2 := congrArg List.length (hs2 hn).1
          simp only [List.length_nil] at h2
          omega
        obtain rfl := hs1.resolve_right hne
        have hc := hs5 j (by rw [toI_length]; omega)
        have hf := hs6 j (by rw [toI_length]; omega)
        have hgl := (hs4 hne).2
        rw [toI_getD] at hc
        have HXm := Lib.hid (HAs.out _ (getD_of_lt (l := ls) (k := j) (by omega)))
        have hx32 : ls.getD j 0 < 32 := Nat.lt_of_lt_of_le HXm.out (pow_le_32 hn)
        have HSt := Lib.hid (fun x => HI8.out.store j x)
        have HNR := Lib.hid (HX8.out.not_row HI8.out)
        have HNY := Lib.hid (HY8.out.not_row HI8.out)
        clear hs1 hs2 hs3 hs4 hs5 hs6 hne hin hv2
        generalize ls.getD j 0 = x at *
        have HFl := Lib.hid (fun w => specFlip x t (by omega) (by omega) w)
        have HZT := Lib.hid (show x ^^^ t < 2 ^ n from Nat.xor_lt_two_pow HXm.out HTP.out)
        generalize x ^^^ t = z at *
        have hgo : g ≠ o4 := fun e => HNR.out (by rw [e]; rfl)
        have hgH : g ≠ w.heap.size := fun e => HNY.out (by rw [e]; rfl)
        have hgB : w.heap.size + 1 ≤ g := (HI8.out.lt g rfl).1
        go_wp2_with fail
        go_region_with (go_at_call 31; refine (HFl.out _).mono ?_; rintro e w9 ⟨rfl, hw9⟩; subst w9)
        all_goals
          go_wp2_with fail
          go_roundw
          case rel => exact ⟨j + 1, ls.set j z, by omega, by go_num, Lib.hid (fun y hy => (List.mem_or_eq_of_mem_set hy).elim (HAs.out y) (fun e => by rw [e]; exact HZT.out)), by rw [List.length_set]; exact hml, HX8.out.other (fun e => hgo e.symm) _, HY8.out.other (fun e => hgH e.symm) _, by rw [toI_set]; exact HSt.out z, HR8.out.set (by omega) _, by first | exact grown_set HG8.out (o := g) (by omega) _ | exact grown_drew (grown_set HG8.out (o := g) (by omega) _), by simp; omega⟩
          case measure => simp [intOf]; omega
      · have HTD := Lib.hid (specTidy (.slice a4 ll c4) ls wr (fun y hy => Nat.lt_of_lt_of_le (HAs.out y hy) (pow_le_32 HN5.out)) (by omega) (by have h := HI8.out.rd; exact h))
        have HCs := Lib.hid (tidy_cls HN5.out HAs.out)
        have HAl := Lib.hid (toI_length (tidyL ls))
        generalize tidyL ls = LT at *
        go_wp2_with fail
        refine HTD.out.mono ?_
        rintro e w9 ⟨a9, c9, rfl, hin9, hb9⟩
        have HI9 := Lib.hid (hin9.mono (show o4 + 1 ≤ wr.heap.size by omega))
        rw [HAl.out] at HI9 ⊢
        have hzb := hb9.size
        have HX9 := Lib.hid (HX8.out.next hb9 (by omega))
        have HY9 := Lib.hid (HY8.out.next hb9 (by omega))
        have HR9 := Lib.hid (HR8.out.next hb9 (by omega))
        have HG9 := Lib.hid (grown_next HG8.out hb9)
        clear hin9 hb9 HTD e1
        have x0 := HX9.out.out.at0
        have x1 := HX9.out.out.at1
        have xf := HX9.out.out.free1
        have r0 := HY9.out.out.at0
        have r1 := HY9.out.out.at1
        have q0 := HY9.out.out.free0
        have q1 := HY9.out.out.free1
        go_wp2_with fail
        refine bodyPost_ret (v := .agg #[.int .i64 (n : Int), .slice a9 LT.length c9]) (by simp [results, Try.results40, go_sem, r0, r1]) rfl ?_
        refine ⟨a9, c9, p1 + 1 + 1, LT, rfl, ?_, HCs.out, by omega, ?_, ?_⟩
        · refine Ints.mono (B := o4 + 1) ?_ (by omega)
          repeat (refine Ints.setCell_below ?_ (by first | (simp; done) | (simp; omega)) _)
          exact HI9.out
        · repeat (refine Rdr.set ?_ (by omega) _)
          exact HR9.out
        · repeat (refine grown_set ?_ (by omega) _)
          exact HG9.out
  have hb0 : ((x : Int) == 0) = false := by simpa using (show ¬ (x : Int) = 0 by omega)
  have hb1 : ((x : Int) == 1) = false := by simpa using (show ¬ (x : Int) = 1 by omega)
  have hb2 : ((x : Int) == 2) = false := by simpa using (show ¬ (x : Int) = 2 by omega)
  have hb3 : ((x : Int) == 3) = false := by simpa using (show ¬ (x : Int) = 3 by omega)
  have hb4 : ((x : Int) == 4) = false := by simpa using (show ¬ (x : Int) = 4 by omega)
  have r0 := HRes3.out.out.at0
  have r1 := HRes3.out.out.at1
  have q0 := HRes3.out.out.free0
  have q1 := HRes3.out.out.free1
  go_wp2_with fail
  refine bodyPost_ret (v := .agg #[.int .i64 (n : Int), .slice a1 ms.length c1]) (by simp [results, Try.results40, go_sem, r0, r1]) rfl ?_
  refine ⟨a1, c1, p1 + 1, ms, rfl, ?_, HCL.out, by omega, ?_, ?_⟩
  · refine Ints.mono (B := w.heap.size + 1) ?_ (by omega)
    repeat (refine Ints.setCell_below ?_ (by simp) _)
    exact HI3.out
  · repeat (refine Rdr.set ?_ (by omega) _)
    exact HR3.out
  · repeat (refine grown_set ?_ (Nat.le_refl _) _)
    exact HG3.out

end Go.Proofs.Ytpkilacappjkhaa
