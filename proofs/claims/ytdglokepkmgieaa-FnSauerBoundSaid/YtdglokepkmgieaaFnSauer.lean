/- FnSauerBound: what it draws, and its walk. Conditions: the code is a slice of bytes. -/
import Derived.Test.YtdglokepkmgieaaDraw
import Derived.Test.YtdglokepkmgieaaSauer
namespace Go.Proofs.Ytdglokepkmgieaa
open Go.RowKit

theorem sauer_sum {m : Nat} {d : Int} (hm : m ≤ 5) (h0 : -1 ≤ d) (h1 : d ≤ 5) : sauerB m d + sauerB m ((m : Int) - d - 1) = 2 ^ m ∧ sauerB m d ≤ sauerB m (d + 1) := by
  have key : ∀ m : Fin 6, ∀ j : Fin 7, sauerB (m : Nat) (((j : Nat) : Int) - 1) + sauerB (m : Nat) (((m : Nat) : Int) - (((j : Nat) : Int) - 1) - 1) = 2 ^ (m : Nat) ∧ sauerB (m : Nat) (((j : Nat) : Int) - 1) ≤ sauerB (m : Nat) (((j : Nat) : Int) - 1 + 1) := by decide +kernel
  have := key ⟨m, by omega⟩ ⟨(d + 1).toNat, by omega⟩
  rw [show (((d + 1).toNat : Nat) : Int) - 1 = d by omega] at this
  exact this
theorem sauer_bd {m : Nat} (hm : m ≤ 5) (d : Int) : 0 ≤ sauerB m d ∧ sauerB m d ≤ 32 := by
  rw [sauerB, if_neg (by omega), Int.toNat_natCast]
  have h1 := List.length_filter_le (fun s => decide ((pc s : Int) ≤ d)) (List.range (2 ^ m))
  have h2 := pow_le_32 hm
  unfold cntTo
  simp at h1
  omega
theorem sauer_neg {m : Nat} (hm : m ≤ 5) {d : Int} (hd : d < 0) : sauerB m d = 0 := by
  rw [sauerB, if_neg (by omega), cntTo, List.filter_eq_nil_iff.2 (fun s _ => by simp; omega)]
  rfl
theorem sauer_big {m : Nat} (hm : m ≤ 5) {d : Int} (hd : 5 ≤ d) : sauerB m d = 2 ^ m := by
  have hpc : ∀ s, pc s ≤ 5 := fun s => by unfold pc; omega
  rw [sauerB, if_neg (by omega), cntTo, List.filter_eq_self.2 (fun s _ => by have := hpc s; simp; omega), List.length_range, Int.toNat_natCast]
  simp

set_option maxHeartbeats 1600000 in
set_option maxRecDepth 100000 in
theorem drawSauer (a : Option Addr) (b off n cap : Nat) (w : World) (hc : n ≤ cap) (hn : n ≤ 1048576) (hcap : cap ≤ maxLen) (h : Byt w a b off n) :
    Calls Try.prog 29 #[.slice a n cap] w fun e w' => (∃ x y : Int, e = .returned (.tuple #[.int .i64 x, .int .i64 y])) ∧ Below w.heap.size w w' := by
  have HN := Lib.hid (specNewReader a b off n cap w hc hn hcap h)
  clear h
  go_enter Try.func29, Try.ntmps29
  go_wp2_with fail
  refine HN.out.mono ?_
  rintro e w1 ⟨rfl, hr, hg⟩
  have HR1 := Lib.hid hr
  have B1 := Lib.hid (show Below w.heap.size w w1 from (Below.refl _ _).grown hg (Nat.le_refl _) (fun k hk => by cases hk))
  have hlt1 : w.heap.size < w1.heap.size := by
    obtain ⟨_, _, _, _, _, _, c0, _⟩ := hr
    exact World.block_lt_of_cell? w1 _ c0
  clear hr hg
  obtain ⟨l1, hl1⟩ : ∃ l : List Int, l = [4, 5, 3, 2, 1, 0, 6, -1] := ⟨_, rfl⟩
  obtain ⟨l2, hl2⟩ : ∃ l : List Int, l = [1, 2, 0, 3, -1, 5, -2, 4611686018427387904, -9223372036854775808] := ⟨_, rfl⟩
  have HL1 := Lib.hid (show Rd (w1.alloc (Obj.cells #[.int .i64 4, .int .i64 5, .int .i64 3, .int .i64 2, .int .i64 1, .int .i64 0, .int .i64 6, .int .i64 (-1)] 3)) (.slice (some ⟨w1.heap.size, 0, none⟩) 8 8) l1 from by
    subst hl1
    refine ⟨some ⟨w1.heap.size, 0, none⟩, w1.heap.size, 0, 8, rfl, fun _ => ⟨rfl, by simp⟩, by simp, fun j hj => ?_⟩
    have hj8 : j < 8 := hj
    rw [Nat.zero_add, World.cell?_alloc_at _ _ _ _ rfl]
    rcases (show j = 0 ∨ j = 1 ∨ j = 2 ∨ j = 3 ∨ j = 4 ∨ j = 5 ∨ j = 6 ∨ j = 7 by omega) with rfl | rfl | rfl | rfl | rfl | rfl | rfl | rfl <;> rfl)
  have HR2 := Lib.hid (show Rdr w.heap.size 0 (w1.alloc (Obj.cells #[.int .i64 4, .int .i64 5, .int .i64 3, .int .i64 2, .int .i64 1, .int .i64 0, .int .i64 6, .int .i64 (-1)] 3)) from HR1.out.kept (World.grownBy_alloc _ _ none) (by simp) (fun k hk => by cases hk))
  have HZ := Lib.hid (show (w1.alloc (Obj.cells #[.int .i64 4, .int .i64 5, .int .i64 3, .int .i64 2, .int .i64 1, .int .i64 0, .int .i64 6, .int .i64 (-1)] 3)).heap.size = w1.heap.size + 1 by simp)
  have HB2 := Lib.hid (show Below w.heap.size w (w1.alloc (Obj.cells #[.int .i64 4, .int .i64 5, .int .i64 3, .int .i64 2, .int .i64 1, .int .i64 0, .int .i64 6, .int .i64 (-1)] 3)) from B1.out.alloc (by omega) _)
  have hlen1 : l1.length = 8 := by rw [hl1]; rfl
  have hlen2 : l2.length = 9 := by rw [hl2]; rfl
  rw [← hlen1] at HL1
  have HO1 := Lib.hid (specOne w.heap.size 0 (some ⟨w1.heap.size, 0, none⟩) l1.length l1 (by omega) (by omega) _ HR2.out HL1.out (fun b' o e => by cases e; omega))
  rw [hlen1] at HO1
  clear hl1 HL1 HR2
  go_wp2_with fail
  generalize (w1.alloc (Obj.cells #[.int .i64 4, .int .i64 5, .int .i64 3, .int .i64 2, .int .i64 1, .int .i64 0, .int .i64 6, .int .i64 (-1)] 3)) = w2 at *
  have hz2 := HZ.out
  refine HO1.out.mono ?_
  rintro e w3 ⟨⟨i1, hi1, rfl⟩, hr3, hg3⟩
  have HR3 := Lib.hid hr3
  have hz3 := hg3.size
  have B3 := Lib.hid (HB2.out.grown hg3 (by omega) (fun k hk => by cases hk; exact Nat.le_refl _))
  clear hr3 hg3 HO1
  generalize l1.getD i1 0 = x at *
  have HL2 := Lib.hid (show Rd (w3.alloc (Obj.cells #[.int .i64 1, .int .i64 2, .int .i64 0, .int .i64 3, .int .i64 (-1), .int .i64 5, .int .i64 (-2), .int .i64 4611686018427387904, .int .i64 (-9223372036854775808)] 3)) (.slice (some ⟨w3.heap.size, 0, none⟩) 9 9) l2 from by
    subst hl2
    refine ⟨some ⟨w3.heap.size, 0, none⟩, w3.heap.size, 0, 9, rfl, fun _ => ⟨rfl, by simp⟩, by simp, fun j hj => ?_⟩
    have hj8 : j < 9 := hj
    rw [Nat.zero_add, World.cell?_alloc_at _ _ _ _ rfl]
    rcases (show j = 0 ∨ j = 1 ∨ j = 2 ∨ j = 3 ∨ j = 4 ∨ j = 5 ∨ j = 6 ∨ j = 7 ∨ j = 8 by omega) with rfl | rfl | rfl | rfl | rfl | rfl | rfl | rfl | rfl <;> rfl)
  have HR4 := Lib.hid (show Rdr w.heap.size (0 + 1) (w3.alloc (Obj.cells #[.int .i64 1, .int .i64 2, .int .i64 0, .int .i64 3, .int .i64 (-1), .int .i64 5, .int .i64 (-2), .int .i64 4611686018427387904, .int .i64 (-9223372036854775808)] 3)) from HR3.out.kept (World.grownBy_alloc _ _ none) (by simp) (fun k hk => by cases hk))
  have HB4 := Lib.hid (show Below w.heap.size w (w3.alloc (Obj.cells #[.int .i64 1, .int .i64 2, .int .i64 0, .int .i64 3, .int .i64 (-1), .int .i64 5, .int .i64 (-2), .int .i64 4611686018427387904, .int .i64 (-9223372036854775808)] 3)) from B3.out.alloc (by omega) _)
  rw [← hlen2] at HL2
  have HO2 := Lib.hid (specOne w.heap.size (0 + 1) (some ⟨w3.heap.size, 0, none⟩) l2.length l2 (by omega) (by omega) _ HR4.out HL2.out (fun b' o e => by cases e; omega))
  rw [hlen2] at HO2
  clear hl2 HL2 HR4
  go_wp2_with fail
  refine HO2.out.mono ?_
  rintro e w5 ⟨⟨i2, hi2, rfl⟩, _, hg5⟩
  have B5 := Lib.hid (HB4.out.grown hg5 (by simp; omega) (fun k hk => by cases hk; exact Nat.le_refl _))
  clear hg5 HO2
  generalize l2.getD i2 0 = y at *
  go_wp2_with fail
  refine bodyPost_ret (v := .tuple #[.int .i64 x, .int .i64 y]) (by simp [results, Try.results29, go_sem]) rfl ?_
  exact ⟨⟨x, y, rfl⟩, B5.out⟩

set_option maxHeartbeats 3200000 in
set_option maxRecDepth 100000 in
theorem walkFnSauerBound (a : Option Addr) (b off n cap : Nat) (w : World) (hc : n ≤ cap) (hcap : cap ≤ maxLen) (h : Byt w a b off n) :
    Calls Try.prog 7 #[.slice a n cap] w fun e w' => e = .returned (.bool true) ∧ Below w.heap.size w w' := by
  by_cases hn : n ≤ 1048576
  · have HD := Lib.hid (drawSauer a b off n cap w hc hn hcap h)
    clear h
    go_enter Try.func7, Try.ntmps7
    go_wp2_with fail
    refine HD.out.mono ?_
    rintro e w1 ⟨⟨x, d, rfl⟩, hb⟩
    have B1 := Lib.hid hb
    clear hb
    have HI := Lib.hid (fun d w => implSauerBound x d w)
    have HS := Lib.hid (fun w => specSauerBound x d w)
    have HPw := Lib.hid (fun h0 h1 w => lawsPower x w h0 h1)
    by_cases hx : 0 ≤ x ∧ x ≤ 5
    · obtain ⟨m, rfl⟩ := Int.eq_ofNat_of_zero_le hx.1
      have hm : m ≤ 5 := by omega
      have hbd := sauer_bd hm d
      have hpw := two_pow_le m (by omega)
      have HP2 := Lib.hid (HPw.out (by omega) (by omega))
      rw [Int.toNat_natCast] at HP2
      have HI1 := Lib.hid (fun w => HI.out d w)
      by_cases hd1 : d < -1
      · have hS := sauer_neg hm (d := d) (by omega)
        rw [hS] at HI1 HS
        clear hbd hpw
        go_wp2_with fail
        refine (HI1.out _).mono ?_
        rintro e w2 ⟨rfl, rfl⟩
        go_wp2_with fail
        refine (HS.out _).mono ?_
        rintro e w2 ⟨rfl, rfl⟩
        go_wp2_with fail
        go_ret
        exact ⟨rfl, B1.out⟩
      · by_cases hd2 : 5 < d
        · have hS := sauer_big hm (d := d) (by omega)
          rw [hS] at HI1 HS
          clear hbd hS
          generalize (2 : Int) ^ m = T at *
          go_wp2_with fail
          refine (HI1.out _).mono ?_
          rintro e w2 ⟨rfl, rfl⟩
          go_wp2_with fail
          refine (HS.out _).mono ?_
          rintro e w2 ⟨rfl, rfl⟩
          go_wp2_with fail
          refine (HP2.out _).mono ?_
          rintro e w2 ⟨rfl, rfl⟩
          go_wp2_with fail
          go_ret
          exact ⟨rfl, B1.out⟩
        · obtain ⟨hsum, hle⟩ := sauer_sum hm (d := d) (by omega) (by omega)
          have hbd2 := sauer_bd hm ((m : Int) - d - 1)
          have hbd3 := sauer_bd hm (d + 1)
          have HI2 := Lib.hid (fun w => HI.out ((m : Int) - d - 1) w)
          have HI3 := Lib.hid (fun w => HI.out (d + 1) w)
          generalize sauerB (m : Int) d = S at *
          generalize sauerB (m : Int) ((m : Int) - d - 1) = S2 at *
          generalize sauerB (m : Int) (d + 1) = S3 at *
          generalize (2 : Int) ^ m = T at *
          have hw1 : IntKind.i64.wrap ((m : Int) - d) = (m : Int) - d := by rw [IntKind.wrap_i64]; omega
          have hw2 : IntKind.i64.wrap ((m : Int) - d - 1) = (m : Int) - d - 1 := by rw [IntKind.wrap_i64]; omega
          have hw3 : IntKind.i64.wrap (S + S2) = S + S2 := by rw [IntKind.wrap_i64]; omega
          have hw4 : IntKind.i64.wrap (d + 1) = d + 1 := by rw [IntKind.wrap_i64]; omega
          go_wp2_with fail
          refine (HI1.out _).mono ?_
          rintro e w2 ⟨rfl, rfl⟩
          go_wp2_with fail
          refine (HS.out _).mono ?_
          rintro e w2 ⟨rfl, rfl⟩
          go_wp2_with fail
          refine (HI2.out _).mono ?_
          rintro e w2 ⟨rfl, rfl⟩
          go_wp2_with fail
          refine (HP2.out _).mono ?_
          rintro e w2 ⟨rfl, rfl⟩
          go_wp2_with fail
          refine (HI3.out _).mono ?_
          rintro e w2 ⟨rfl, rfl⟩
          go_wp2_with fail
          go_ret
          exact ⟨rfl, B1.out⟩
    · have HI1 := Lib.hid (fun w => HI.out d w)
      generalize sauerB x d = S at *
      have hx' : x < 0 ∨ 5 < x := by omega
      rcases hx' with hx0 | hx0
      all_goals
        go_wp2_with fail
        refine (HI1.out _).mono ?_
        rintro e w2 ⟨rfl, rfl⟩
        go_wp2_with fail
        refine (HS.out _).mono ?_
        rintro e w2 ⟨rfl, rfl⟩
        go_wp2_with fail
        refine (HS.out _).mono ?_
        rintro e w2 ⟨rfl, rfl⟩
        go_wp2_with fail
        go_ret
        exact ⟨rfl, B1.out⟩
  · go_enter Try.func7, Try.ntmps7
    go_wp2_with fail
    go_ret
    exact ⟨rfl, Below.refl _ _⟩


end Go.Proofs.Ytdglokepkmgieaa
