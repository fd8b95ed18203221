/- The laws' reader: newReader, pick, one. Conditions: the code is a slice of bytes; no more than a million numbers are drawn. -/
import Derived.Deep.RegionHeld3
import Derived.Test.YtpkilacappjkhaaZA
import Derived.Test.YtpkilacappjkhaaZB
namespace Go.Proofs.Ytpkilacappjkhaa
open Go.RowKit

/-- a slice of bytes -/
def Byt (w : World) (a : Option Addr) (b off n : Nat) : Prop :=
  (0 < n → a = some ⟨b, off, none⟩ ∧ b < w.heap.size) ∧ ∀ j, j < n → ∃ x : Nat, x < 256 ∧ w.cell? ⟨b, off + j, none⟩ = some (.int .u8 (x : Int))
/-- a reader in block R that has drawn p numbers; it and its code lie below B -/
def Rdr (B R p : Nat) (w : World) : Prop :=
  R < B ∧ B ≤ w.heap.size ∧ ∃ (a : Option Addr) (b off n cap : Nat), n ≤ 2000 ∧ w.cell? ⟨R, 0, none⟩ = some (.slice a n cap) ∧ w.cell? ⟨R, 1, none⟩ = some (.int .i64 (p : Int)) ∧ w.frozen? ⟨R, 1, none⟩ = false ∧ (0 < n → b ≠ R ∧ b < B) ∧ Byt w a b off n

theorem Byt.kept {w w' : World} {a : Option Addr} {b off n : Nat} {r : Option Nat} (h : Byt w a b off n) (hg : w.grownBy w' r) (hne : 0 < n → some b ≠ r) : Byt w' a b off n := by
  refine ⟨fun hn => ⟨(h.1 hn).1, Nat.lt_of_lt_of_le (h.1 hn).2 hg.size⟩, fun j hj => ?_⟩
  obtain ⟨x, hx, hc⟩ := h.2 j hj
  have hb := hg.block b (h.1 (by omega)).2 (hne (by omega))
  exact ⟨x, hx, (World.cell?_of_block (w := w) (a := ⟨b, off + j, none⟩) hb).trans hc⟩
theorem Rdr.kept {w w' : World} {B R p : Nat} {r : Option Nat} (h : Rdr B R p w) (hg : w.grownBy w' r) (hne : some R ≠ r) (hb : ∀ k, r = some k → B ≤ k) : Rdr B R p w' := by
  obtain ⟨hRB, hB, a, b, off, n, cap, hn, c0, c1, f1, hbR, hy⟩ := h
  have hR : R < w.heap.size := by omega
  have hk := hg.block R hR hne
  exact ⟨hRB, Nat.le_trans hB hg.size, a, b, off, n, cap, hn, (World.cell?_of_block (w := w) (a := ⟨R, 0, none⟩) hk).trans c0, (World.cell?_of_block (w := w) (a := ⟨R, 1, none⟩) hk).trans c1, (World.frozen?_of_block (w := w) (a := ⟨R, 1, none⟩) hk).trans f1, hbR, hy.kept hg (fun h0 e => by have := hb b e.symm; have := (hbR h0).2; omega)⟩
theorem Rdr.up {w : World} {B B' R p : Nat} (h : Rdr B R p w) (hB : B ≤ B') (hw : B' ≤ w.heap.size) : Rdr B' R p w := by
  obtain ⟨hRB, _, a, b, off, n, cap, hn, c0, c1, f1, hbR, hy⟩ := h
  exact ⟨by omega, hw, a, b, off, n, cap, hn, c0, c1, f1, fun h0 => ⟨(hbR h0).1, by have := (hbR h0).2; omega⟩, hy⟩
theorem Rdr.next {w w' : World} {B k R p : Nat} (h : Rdr B R p w) (hb : Below k w w') (hB : B ≤ k) : Rdr B R p w' := by
  obtain ⟨hRB, hBw, a, b, off, n, cap, hn, c0, c1, f1, hbR, hy⟩ := h
  refine ⟨hRB, Nat.le_trans hBw hb.size, a, b, off, n, cap, hn, (hb.cell (p := ⟨R, 0, none⟩) (by show R < k; omega)).trans c0, (hb.cell (p := ⟨R, 1, none⟩) (by show R < k; omega)).trans c1, (hb.frozen (p := ⟨R, 1, none⟩) (by show R < k; omega)).trans f1, hbR, fun h0 => ⟨(hy.1 h0).1, Nat.lt_of_lt_of_le (hy.1 h0).2 hb.size⟩, fun j hj => ?_⟩
  obtain ⟨x, hx, hc⟩ := hy.2 j hj
  exact ⟨x, hx, (hb.cell (p := ⟨b, off + j, none⟩) (by show b < k; have := (hbR (by omega)).2; omega)).trans hc⟩

theorem ofInt_i64' (a : Nat) (ha : a < 1152921504606846976) : (BitVec.ofInt 64 (a : Int)).toNat = a := by
  simp
  omega
theorem i64_xor' (a b : Nat) (ha : a < 1152921504606846976) (hb : b < 1152921504606846976) : bits .xor .i64 (a : Int) (b : Int) = ((a ^^^ b : Nat) : Int) ∧ a ^^^ b < 1152921504606846976 := by
  have hx : a ^^^ b < 2 ^ 60 := Nat.xor_lt_two_pow (by omega) (by omega)
  refine ⟨?_, by omega⟩
  show IntKind.i64.wrap ((BitVec.ofInt 64 (a : Int) ^^^ BitVec.ofInt 64 (b : Int)).toNat : Int) = _
  rw [BitVec.toNat_xor, ofInt_i64' a ha, ofInt_i64' b hb, IntKind.wrap_i64]
  omega

set_option maxHeartbeats 1600000 in
set_option maxRecDepth 100000 in
theorem specPick (B R p : Nat) (n : Int) (hp : p ≤ 1000000) (w : World) (h : Rdr B R p w) :
    Calls Try.prog 38 #[.pointer (some ⟨R, 0, none⟩), .int .i64 n] w fun e w' => (∃ x : Nat, e = .returned (.int .i64 (x : Int)) ∧ ((x : Int) < n ∨ x = 0)) ∧ Rdr B R (p + 1) w' ∧ w.grownBy w' (some R) := by
  obtain ⟨hRB, hBw, a, b, off, L, cap, hL, c0, c1, f1, hbR, hy⟩ := h
  have HY := Lib.hid hy
  have HBR := Lib.hid hbR
  have HW1 := Lib.hid (show Rdr B R (p + 1) (w.setCell ⟨R, 1, none⟩ (.int .i64 ((p : Int) + 1))) from
    ⟨hRB, by simpa using hBw, a, b, off, L, cap, hL, (World.cell?_setCell_other _ _ _ _ (by simp)).trans c0, World.cell?_setCell_same _ _ _ c1, by rw [World.frozen?_setCell]; exact f1, hbR, hy.kept (grownBy_set w 1 _) (fun h0 e => (hbR h0).1 (by cases e; rfl))⟩)
  have HG1 := Lib.hid (show w.grownBy (w.setCell ⟨R, 1, none⟩ (.int .i64 ((p : Int) + 1))) (some R) from grownBy_set w 1 _)
  clear hy hbR
  by_cases hn : n < 1
  · go_enter Try.func38, Try.ntmps38
    go_wp2_with fail
    go_ret
    exact ⟨⟨0, rfl, .inr rfl⟩, HW1.out, HG1.out⟩
  · by_cases hL0 : L = 0
    · subst hL0
      have d0 := (show (w.setCell ⟨R, 1, none⟩ (.int .i64 ((p : Int) + 1))).cell? ⟨R, 0, none⟩ = some (.slice a 0 cap) from (World.cell?_setCell_other _ _ _ _ (by simp)).trans c0)
      go_enter Try.func38, Try.ntmps38
      go_wp2_with fail
      go_ret
      exact ⟨⟨0, rfl, .inr rfl⟩, HW1.out, HG1.out⟩
    · have hn1 : 1 ≤ n := by omega
      have hLp : 0 < L := by omega
      obtain ⟨rfl, hbw⟩ := HY.out.1 hLp
      have hne := (HBR.out hLp).1
      have d0 := (show (w.setCell ⟨R, 1, none⟩ (.int .i64 ((p : Int) + 1))).cell? ⟨R, 0, none⟩ = some (.slice (some ⟨b, off, none⟩) L cap) from (World.cell?_setCell_other _ _ _ _ (by simp)).trans c0)
      have d1 := (show (w.setCell ⟨R, 1, none⟩ (.int .i64 ((p : Int) + 1))).cell? ⟨R, 1, none⟩ = some (.int .i64 ((p : Int) + 1)) from World.cell?_setCell_same _ _ _ c1)
      by_cases hlt : p < L
      · obtain ⟨x, hx, hcx⟩ := HY.out.2 p hlt
        have e1 := (show (w.setCell ⟨R, 1, none⟩ (.int .i64 ((p : Int) + 1))).cell? ⟨b, off + p, none⟩ = some (.int .u8 (x : Int)) from (World.cell?_setCell_other _ _ _ _ (by intro e; have := congrArg Addr.block e; simp at this; omega)).trans hcx)
        have hltI : (p : Int) < (L : Int) := by omega
        have HX := Lib.hid (show 0 ≤ (x : Int) % n ∧ (x : Int) % n < n from ⟨Int.emod_nonneg _ (by omega), Int.emod_lt_of_pos _ (by omega)⟩)
        go_enter Try.func38, Try.ntmps38
        go_wp2_with fail
        go_ret
        exact ⟨⟨((x : Int) % n).toNat, by rw [Int.toNat_of_nonneg HX.out.1]; rfl, .inl (by rw [Int.toNat_of_nonneg HX.out.1]; exact HX.out.2)⟩, HW1.out, HG1.out⟩
      · obtain ⟨x1, hx1, hcx1⟩ := HY.out.2 (p % L) (Nat.mod_lt _ hLp)
        obtain ⟨x2, hx2, hcx2⟩ := HY.out.2 ((p * 7 + 3) % L) (Nat.mod_lt _ hLp)
        have e1 := (show (w.setCell ⟨R, 1, none⟩ (.int .i64 ((p : Int) + 1))).cell? ⟨b, off + p % L, none⟩ = some (.int .u8 (x1 : Int)) from (World.cell?_setCell_other _ _ _ _ (by intro e; have := congrArg Addr.block e; simp at this; omega)).trans hcx1)
        have e2 := (show (w.setCell ⟨R, 1, none⟩ (.int .i64 ((p : Int) + 1))).cell? ⟨b, off + (p * 7 + 3) % L, none⟩ = some (.int .u8 (x2 : Int)) from (World.cell?_setCell_other _ _ _ _ (by intro e; have := congrArg Addr.block e; simp at this; omega)).trans hcx2)
        have hltI : ¬ (p : Int) < (L : Int) := by omega
        have hq : p / L ≤ p := Nat.div_le_self _ _
        obtain ⟨k1, hk1⟩ : ∃ k1, k1 = p % L := ⟨_, rfl⟩
        obtain ⟨k2, hk2⟩ : ∃ k2, k2 = (p * 7 + 3) % L := ⟨_, rfl⟩
        obtain ⟨q, hq0⟩ : ∃ q, q = p / L := ⟨_, rfl⟩
        have hT1 : (p : Int).tmod (L : Int) = (k1 : Int) := by rw [Int.tmod_eq_emod_of_nonneg (by omega), hk1]; simp
        have hT2 : ((p : Int) * 7 + 3).tmod (L : Int) = (k2 : Int) := by rw [Int.tmod_eq_emod_of_nonneg (by omega), hk2]; simp
        have hT3 : (p : Int).tdiv (L : Int) = (q : Int) := by rw [Int.tdiv_eq_ediv_of_nonneg (by omega), hq0]; simp
        have hb1 : (k1 : Int) < (L : Int) := by have := Nat.mod_lt p hLp; omega
        have hb2 : (k2 : Int) < (L : Int) := by have := Nat.mod_lt (p * 7 + 3) hLp; omega
        rw [← hk1] at e1
        rw [← hk2] at e2
        rw [← hq0] at hq
        clear hk1 hk2 hq0 hcx1 hcx2
        have hw0 : IntKind.i64.wrap ((p : Int) * 7) = (p : Int) * 7 := by rw [IntKind.wrap_i64]; omega
        have hw1 : IntKind.i64.wrap ((p : Int) * 7 + 3) = (p : Int) * 7 + 3 := by rw [IntKind.wrap_i64]; omega
        have hw2 : IntKind.i64.wrap ((x1 : Int) * 131) = (x1 : Int) * 131 := by rw [IntKind.wrap_i64]; omega
        have hw3 : IntKind.i64.wrap ((x2 : Int) * 1117) = (x2 : Int) * 1117 := by rw [IntKind.wrap_i64]; omega
        have hw4 : IntKind.i64.wrap ((x1 : Int) * 131 + (x2 : Int) * 1117) = (x1 : Int) * 131 + (x2 : Int) * 1117 := by rw [IntKind.wrap_i64]; omega
        have hw5 : IntKind.i64.wrap ((p : Int) * 29) = (p : Int) * 29 := by rw [IntKind.wrap_i64]; omega
        have hw6 : IntKind.i64.wrap ((x1 : Int) * 131 + (x2 : Int) * 1117 + (p : Int) * 29) = (x1 : Int) * 131 + (x2 : Int) * 1117 + (p : Int) * 29 := by rw [IntKind.wrap_i64]; omega
        have hw7 : IntKind.i64.wrap ((q : Int) * 53) = (q : Int) * 53 := by rw [IntKind.wrap_i64]; omega
        have hw8 : IntKind.i64.wrap ((x1 : Int) * 131 + (x2 : Int) * 1117 + (p : Int) * 29 + (q : Int) * 53) = (x1 : Int) * 131 + (x2 : Int) * 1117 + (p : Int) * 29 + (q : Int) * 53 := by rw [IntKind.wrap_i64]; omega
        go_enter Try.func38, Try.ntmps38
        go_wp2_with fail
        generalize (w.setCell ⟨R, 1, none⟩ (.int .i64 ((p : Int) + 1))) = w1 at *
        go_region_held3 (fun w' => w'.cell? ⟨R, 0, none⟩ = some (.slice (some ⟨b, off, none⟩) L cap) ∧ w'.cell? ⟨b, off + k1, none⟩ = some (.int .u8 (x1 : Int)) ∧ w'.cell? ⟨b, off + k2, none⟩ = some (.int .u8 (x2 : Int))) (first | exact ⟨d0, e1, e2⟩ | go_keep) (fail)
        have hwa : IntKind.i64.wrap (x1 : Int) = x1 := by rw [IntKind.wrap_i64]; omega
        have hwb : IntKind.i64.wrap (x2 : Int) = x2 := by rw [IntKind.wrap_i64]; omega
        have hwq : IntKind.i64.wrap (q : Int) = q := by rw [IntKind.wrap_i64]; omega
        simp only [hwa, hwb, hwq, hw2, hw3, hw4, hw6, hw7, hw8]
        obtain ⟨y, hy⟩ := Int.eq_ofNat_of_zero_le (show 0 ≤ (x1 : Int) * 131 + (x2 : Int) * 1117 + (p : Int) * 29 + (q : Int) * 53 by omega)
        have hyb : y < 1000000000 := by omega
        rw [hy]
        clear hw0 hw1 hw2 hw3 hw4 hw5 hw6 hw7 hw8 hwa hwb hwq hT1 hT2 hT3 hy
        obtain ⟨d, hd⟩ : ∃ d, d = y / 64 := ⟨_, rfl⟩
        have hD1 : (y : Int).tdiv 64 = (d : Int) := by rw [Int.tdiv_eq_ediv_of_nonneg (by omega), hd]; simp
        have hD2 : (y : Int) / 64 = (d : Int) := by rw [hd]; simp
        obtain ⟨z, hz⟩ : ∃ z, z = y ^^^ d := ⟨_, rfl⟩
        have hX1 : bits .xor .i64 (y : Int) (d : Int) = (z : Int) := by rw [hz]; exact (i64_xor' y d (by omega) (by omega)).1
        obtain ⟨r, hr⟩ : ∃ r, r = ((z : Int) % n).toNat := ⟨_, rfl⟩
        have hr0 : 0 ≤ (z : Int) % n := Int.emod_nonneg _ (by omega)
        have hr1 : (z : Int) % n < n := Int.emod_lt_of_pos _ (by omega)
        have hR2 : (z : Int) % n = (r : Int) := by rw [hr, Int.toNat_of_nonneg hr0]
        have hR1 : (z : Int).tmod n = (r : Int) := by rw [Int.tmod_eq_emod_of_nonneg (by omega), hR2]
        rw [hR2] at hr1
        clear hd hz hr hr0
        go_wp2_with fail
        go_ret
        exact ⟨⟨r, rfl, .inl hr1⟩, HW1.out, ⟨HG1.out.os, HG1.out.tape, HG1.out.output, HG1.out.size, HG1.out.block⟩⟩

theorem Rd.kept {w w' : World} {a : Option Addr} {n c : Nat} {xs : List Int} {r : Option Nat} (h : Rd w (.slice a n c) xs) (hg : w.grownBy w' r) (hne : ∀ b o, 0 < xs.length → a = some ⟨b, o, none⟩ → some b ≠ r) : Rd w' (.slice a n c) xs := by
  obtain ⟨a', b, off, cap, e, h1, h3, h5⟩ := h
  simp only [Value.slice.injEq] at e
  obtain ⟨rfl, rfl, rfl⟩ := e
  refine ⟨a, b, off, c, rfl, fun h => ⟨(h1 h).1, Nat.lt_of_lt_of_le (h1 h).2 hg.size⟩, h3, fun j hj => ?_⟩
  have hb := h1 (by omega)
  have := hg.block b hb.2 (hne b off (by omega) hb.1)
  exact (World.cell?_of_block (w := w) (a := ⟨b, off + j, none⟩) this).trans (h5 j hj)

set_option maxHeartbeats 800000 in
theorem specNewReader (a : Option Addr) (b off n cap : Nat) (w : World) (hc : n ≤ cap) (hn : n ≤ 1048576) (hcap : cap ≤ maxLen) (h : Byt w a b off n) :
    Calls Try.prog 15 #[.slice a n cap] w fun e w' => e = .returned (.pointer (some ⟨w.heap.size, 0, none⟩)) ∧ Rdr (w.heap.size + 1) w.heap.size 0 w' ∧ w.grownBy w' none := by
  have H := Lib.hid h
  unfold maxLen at hcap
  by_cases hb : 2000 < n
  · obtain ⟨rfl, hlt⟩ := h.1 (by omega)
    clear h
    go_enter Try.func15, Try.ntmps15
    go_wp2_with fail
    go_ret
    refine ⟨rfl, ⟨by omega, by simp, some ⟨b, off, none⟩, b, off, 2000, cap, Nat.le_refl _, by simp [go_sem], by simp [go_sem], by simp [go_sem], fun _ => by omega, fun _ => ⟨rfl, by simp; omega⟩, fun j hj => ?_⟩, World.grownBy_alloc _ _ _⟩
    obtain ⟨x, hx, hcx⟩ := H.out.2 j (by omega)
    exact ⟨x, hx, (World.cell?_alloc_some _ _ _ (by rw [hcx]; rfl)).trans hcx⟩
  · clear h
    go_enter Try.func15, Try.ntmps15
    go_wp2_with fail
    go_ret
    refine ⟨rfl, ⟨by omega, by simp, a, b, off, n, cap, by omega, by simp [go_sem], by simp [go_sem], by simp [go_sem], fun h0 => by have := (H.out.1 h0).2; omega, fun h0 => ⟨(H.out.1 h0).1, by have := (H.out.1 h0).2; simp; omega⟩, fun j hj => ?_⟩, World.grownBy_alloc _ _ _⟩
    obtain ⟨x, hx, hcx⟩ := H.out.2 j hj
    exact ⟨x, hx, (World.cell?_alloc_some _ _ _ (by rw [hcx]; rfl)).trans hcx⟩

set_option maxHeartbeats 800000 in
theorem specOne (B R p : Nat) (a : Option Addr) (c : Nat) (zs : List Int) (hp : p ≤ 1000000) (hz : 0 < zs.length) (w : World) (h : Rdr B R p w) (hl : Rd w (.slice a zs.length c) zs) (hne : ∀ b o, a = some ⟨b, o, none⟩ → b ≠ R) :
    Calls Try.prog 39 #[.pointer (some ⟨R, 0, none⟩), .slice a zs.length c] w fun e w' => (∃ i, i < zs.length ∧ e = .returned (.int .i64 (zs.getD i 0))) ∧ Rdr B R (p + 1) w' ∧ w.grownBy w' (some R) := by
  have HP := Lib.hid (fun n w h => specPick B R p n hp w h)
  have HR := Lib.hid h
  have HL := Lib.hid hl
  clear h hl
  go_enter Try.func39, Try.ntmps39
  go_wp2_with fail
  refine (HP.out _ _ HR.out).mono ?_
  rintro e w1 ⟨⟨x, rfl, hx⟩, hr, hg⟩
  have HR1 := Lib.hid hr
  have HG1 := Lib.hid hg
  have hl1 := HL.out.kept hg (fun b o _ he e => hne b o he (by cases e; rfl))
  obtain ⟨a', b, off, cap, e, h1, h3, h5⟩ := hl1
  simp only [Value.slice.injEq] at e
  obtain ⟨rfl, _, rfl⟩ := e
  obtain ⟨rfl, _⟩ := h1 hz
  have hxl : x < zs.length := by omega
  have hxI : (x : Int) < (zs.length : Int) := by omega
  have hcx := h5 x hxl
  obtain ⟨y, hy⟩ : ∃ y, y = zs.getD x 0 := ⟨_, rfl⟩
  rw [← hy] at hcx
  have HY := Lib.hid hy
  clear h1 h5 hr hg hx hy
  go_wp2_with fail
  go_ret
  exact ⟨⟨x, hxl, by rw [← HY.out]; rfl⟩, HR1.out, HG1.out⟩



end Go.Proofs.Ytpkilacappjkhaa
