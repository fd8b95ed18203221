/- A class that may be invalid, as the laws draw it: bent. Conditions: small numbers; the reader has drawn at most 90000 numbers. -/
import Derived.Test.YtpkilacappjkhaaClsD
namespace Go.Proofs.Ytpkilacappjkhaa
open Go.RowKit

theorem rdLit (w : World) (l : List Int) (cs : Array Value) (hcs : cs = (l.map (Value.int .i64)).toArray) (hl : l.length ≤ 100) : Rd (w.alloc (.cells cs 3)) (.slice (some ⟨w.heap.size, 0, none⟩) l.length l.length) l := by
  subst hcs
  refine ⟨some ⟨w.heap.size, 0, none⟩, w.heap.size, 0, l.length, rfl, fun _ => ⟨rfl, by simp⟩, by omega, fun j hj => ?_⟩
  rw [Nat.zero_add, World.cell?_alloc_at _ _ _ _ rfl]
  simp [hj, List.getD]
theorem Ints.ne {B : Nat} {w : World} {v : Value} {xs : List Int} (h : Ints B w v xs) {o j : Nat} (hne : some o ≠ v.ownBlock) (x : Value) : Ints B (w.setCell ⟨o, j, none⟩ x) v xs := ownsRow_setCell_other h (fun e => hne e.symm) x
theorem Rdr.drew {B R p : Nat} {w : World} (h : Rdr B R p w) : Rdr B R p w.drew := h.kept ⟨rfl, rfl, rfl, Nat.le_refl _, fun _ _ _ => rfl⟩ (by simp : some R ≠ none) (fun k hk => by cases hk)
/-- a drawn class that may be invalid -/
def GotAny (C B R K L k : Nat) (a0 : World) (e : Ending) (w' : World) : Prop :=
  ∃ (n : Int) (a : Option Addr) (cap p' : Nat) (zs : List Int), e = .returned (.agg #[.int .i64 n, .slice a zs.length cap]) ∧ Ints C w' (.slice a zs.length cap) zs ∧ (-(K : Int) ≤ n ∧ n ≤ K ∧ zs.length ≤ L) ∧ p' ≤ k ∧ Rdr B R p' w' ∧ a0.grownBy w' (some R)

set_option maxHeartbeats 6400000 in
set_option maxRecDepth 100000 in
theorem specBent (C B R p K L : Nat) (n : Int) (a : Option Addr) (cap : Nat) (zs : List Int) (hK : 6 ≤ K) (hK2 : K ≤ 100) (hL : L ≤ 1000) (hn0 : -(K : Int) ≤ n) (hn1 : n ≤ K) (hl : zs.length ≤ L) (hp : p ≤ 95000) (hBC : B ≤ C) (w a0 : World) (hC : C ≤ w.heap.size) (ha0 : a0.heap.size ≤ C) (h : Rdr B R p w) (hin : Ints C w (.slice a zs.length cap) zs) (hg : a0.grownBy w (some R)) :
    Calls Try.prog 26 #[.pointer (some ⟨R, 0, none⟩), .agg #[.int .i64 n, .slice a zs.length cap]] w (GotAny C B R (K + 1) (L + 1) (p + 4) a0) := by
  have hRB := h.1
  have HX := Lib.hid (show Bx n (.slice a zs.length cap) w.heap.size ((w.alloc (Obj.cells #[.int .i64 n, .slice a zs.length cap] 25)).alloc (Obj.cells #[.int .i64 0, .slice none 0 0] 25)) from (Bx.new _ _ _).alloc _)
  have HY := Lib.hid (show Bx 0 (.slice none 0 0) (w.heap.size + 1) ((w.alloc (Obj.cells #[.int .i64 n, .slice a zs.length cap] 25)).alloc (Obj.cells #[.int .i64 0, .slice none 0 0] 25)) from heap_alloc_at (by simp))
  have HI := Lib.hid (show Ints C ((w.alloc (Obj.cells #[.int .i64 n, .slice a zs.length cap] 25)).alloc (Obj.cells #[.int .i64 0, .slice none 0 0] 25)) (.slice a zs.length cap) zs from (hin.alloc _).alloc _)
  have HR := Lib.hid (show Rdr B R p ((w.alloc (Obj.cells #[.int .i64 n, .slice a zs.length cap] 25)).alloc (Obj.cells #[.int .i64 0, .slice none 0 0] 25)) from (h.alloc _).alloc _)
  have HG := Lib.hid (show a0.grownBy ((w.alloc (Obj.cells #[.int .i64 n, .slice a zs.length cap] 25)).alloc (Obj.cells #[.int .i64 0, .slice none 0 0] 25)) (some R) from grownBy_trans (grownBy_trans hg (World.grownBy_alloc _ _ _)) (World.grownBy_alloc _ _ _))
  have HZ := Lib.hid (show ((w.alloc (Obj.cells #[.int .i64 n, .slice a zs.length cap] 25)).alloc (Obj.cells #[.int .i64 0, .slice none 0 0] 25)).heap.size = w.heap.size + 2 by simp)
  clear h hin hg
  go_enter Try.func26, Try.ntmps26
  go_wp2_with fail
  generalize ((w.alloc (Obj.cells #[.int .i64 n, .slice a zs.length cap] 25)).alloc (Obj.cells #[.int .i64 0, .slice none 0 0] 25)) = w1 at *
  have hz1 := HZ.out
  refine (specPick B R p 24 (by omega) _ HR.out).mono ?_
  rintro e w2 ⟨⟨x, rfl, hx⟩, hr2, hg2⟩
  have hz2 := hg2.size
  have HX2 := Lib.hid (HX.out.kept hg2 (by simp; omega))
  have HY2 := Lib.hid (HY.out.kept hg2 (by simp; omega))
  have HI2 := Lib.hid (HI.out.pick (by omega) hg2)
  have HR2 := Lib.hid hr2
  have HG2 := Lib.hid (grownBy_trans HG.out hg2)
  clear hr2 hg2 HX HY HI HR HG
  generalize hH : w.heap.size = H at *
  have x0 := HX2.out.out.at0
  have x1 := HX2.out.out.at1
  by_cases hx0 : x = 0
  · subst hx0
    by_cases hl0 : zs.length = 0
    · have hd : ((zs.length : Int) == 0) = true := by simpa using hl0
      clear hl0
      clear x0 x1
      have x0 := HX2.out.out.at0
      have x1 := HX2.out.out.at1
      have r0 := HY2.out.out.at0
      have r1 := HY2.out.out.at1
      have q0 := HY2.out.out.free0
      have q1 := HY2.out.out.free1
      go_wp2_with fail
      refine bodyPost_ret (v := .agg #[.int .i64 n, .slice a (zs).length cap]) (by simp [results, Try.results26, go_sem, r0, r1]) rfl ?_
      refine ⟨n, a, cap, p + 1, zs, rfl, ?_, ⟨by omega, by omega, by omega⟩, by omega, ?_, ?_⟩
      · have hnx := HX2.out.not_row HI2.out
        have hny := HY2.out.not_row HI2.out
        repeat (refine Ints.ne ?_ (by first | exact hnx | exact hny) _)
        first | exact HI2.out | exact I5.out | exact (show Ints C (World.drew _) _ _ from HI2.out)
      · repeat (refine Rdr.set ?_ (by omega) _)
        first | exact HR2.out | exact HR2.out.drew | (refine Rdr.drew ?_; refine Rdr.set ?_ (by omega) _; exact HR2.out)
      · repeat (refine grown_set ?_ (by omega) _)
        first | exact HG2.out | (refine grown_drew ?_; first | exact HG2.out | (refine grown_set ?_ (by omega) _; exact HG2.out))
    · have hd : ((zs.length : Int) == 0) = false := by simpa using hl0
      go_wp2_with fail
      refine (specPick B R (p + 1) (zs.length : Int) (by omega) _ HR2.out).mono ?_
      rintro e w3 ⟨⟨k, rfl, hk⟩, hr3, hg3⟩
      have hz3 := hg3.size
      have HX3 := Lib.hid (HX2.out.kept hg3 (by simp; omega))
      have HY3 := Lib.hid (HY2.out.kept hg3 (by simp; omega))
      have HI3 := Lib.hid (HI2.out.pick (by omega) hg3)
      have HR3 := Lib.hid hr3
      have HG3 := Lib.hid (grownBy_trans HG2.out hg3)
      have hkl : k < zs.length := by omega
      clear hr3 hg3 HX2 HY2 HI2 HR2 HG2 x0 x1
      go_wp2_with fail
      refine (specPick B R (p + 1 + 1) 4 (by omega) _ HR3.out).mono ?_
      rintro e w4 ⟨⟨y, rfl, hy⟩, hr4, hg4⟩
      have hz4 := hg4.size
      have HX4 := Lib.hid (HX3.out.kept hg4 (by simp; omega))
      have HY4 := Lib.hid (HY3.out.kept hg4 (by simp; omega))
      have HI4 := Lib.hid (HI3.out.pick (by omega) hg4)
      have HR4 := Lib.hid hr4
      have HG4 := Lib.hid (grownBy_trans HG3.out hg4)
      clear hr4 hg4 HX3 HY3 HI3 HR3 HG3
      have x0 := HX4.out.out.at0
      have x1 := HX4.out.out.at1
      have xf0 := HX4.out.out.free0
      have xf1 := HX4.out.out.free1
      by_cases hy0 : y = 0
      · subst hy0
        obtain ⟨l, hll⟩ : ∃ l : List Int, l = [-1, 6, 0, n + 1] := ⟨_, rfl⟩
        have hlen : l.length = 4 := by rw [hll]; rfl
        have hw1 : IntKind.i64.wrap (n + 1) = n + 1 := by rw [IntKind.wrap_i64]; omega
        have HL := Lib.hid (show Rd (w4.alloc (Obj.cells #[.int .i64 (-1), .int .i64 6, .int .i64 0, .int .i64 (n + 1)] 3)) (.slice (some ⟨w4.heap.size, 0, none⟩) l.length l.length) l from rdLit _ _ _ (by rw [hll]; rfl) (by omega))
        have HO := Lib.hid (specOne B R (p + 1 + 1 + 1) (some ⟨w4.heap.size, 0, none⟩) l.length l (by omega) (by omega) _ (HR4.out.alloc _) HL.out (fun b' o e => by cases e; omega))
        have HB := Lib.hid (show ∀ i, i < l.length → -((K : Int) + 1) ≤ l.getD i 0 ∧ l.getD i 0 ≤ (K : Int) + 1 from fun i hi => by
          rw [hlen] at hi
          subst hll
          rcases (show i = 0 ∨ i = 1 ∨ i = 2 ∨ i = 3 by omega) with rfl | rfl | rfl | rfl
          · show -((K : Int) + 1) ≤ -1 ∧ (-1 : Int) ≤ _; omega
          · show -((K : Int) + 1) ≤ 6 ∧ (6 : Int) ≤ _; omega
          · show -((K : Int) + 1) ≤ 0 ∧ (0 : Int) ≤ _; omega
          · show -((K : Int) + 1) ≤ n + 1 ∧ n + 1 ≤ _; omega)
        clear HL hll
        have HO2 := Lib.hid (show Calls Try.prog 39 #[.pointer (some ⟨R, 0, none⟩), .slice (some ⟨w4.heap.size, 0, none⟩) 4 4] _ _ from hlen ▸ HO.out)
        go_wp2_with fail
        refine HO2.out.mono ?_
        rintro e w5 ⟨⟨i, hi, rfl⟩, hr5, hg5⟩
        obtain ⟨hv0, hv1⟩ := HB.out i (by omega)
        have hz5 := hg5.size
        simp only [World.size_alloc] at hz5
        generalize l.getD i 0 = v at *
        have HX5 := Lib.hid ((HX4.out.alloc _).kept hg5 (by simp; omega))
        have HY5 := Lib.hid ((HY4.out.alloc _).kept hg5 (by simp; omega))
        have HI5 := Lib.hid ((HI4.out.alloc _).pick (by omega) hg5)
        have HR5 := Lib.hid hr5
        have HG5 := Lib.hid (grownBy_trans (grownBy_trans HG4.out (World.grownBy_alloc _ _ _)) hg5)
        clear hr5 hg5 HX4 HY4 HI4 HR4 HG4 HO HB x0 x1 xf0 xf1
        have xf := HX5.out.out.free0
        have x0 := HX5.out.out.at0
        have x1 := HX5.out.out.at1
        have r0 := HY5.out.out.at0
        have r1 := HY5.out.out.at1
        have q0 := HY5.out.out.free0
        have q1 := HY5.out.out.free1
        go_wp2_with fail
        refine bodyPost_ret (v := .agg #[.int .i64 v, .slice a (zs).length cap]) (by simp [results, Try.results26, go_sem, r0, r1]) rfl ?_
        refine ⟨v, a, cap, p + 1 + 1 + 1 + 1, zs, rfl, ?_, ⟨by omega, by omega, by omega⟩, by omega, ?_, ?_⟩
        · have hnx := HX5.out.not_row HI5.out
          have hny := HY5.out.not_row HI5.out
          repeat (refine Ints.ne ?_ (by first | exact hnx | exact hny) _)
          first | exact HI5.out | exact I5.out | exact (show Ints C (World.drew _) _ _ from HI5.out)
        · repeat (refine Rdr.set ?_ (by omega) _)
          first | exact HR5.out | exact HR5.out.drew | (refine Rdr.drew ?_; refine Rdr.set ?_ (by omega) _; exact HR5.out)
        · repeat (refine grown_set ?_ (by omega) _)
          first | exact HG5.out | (refine grown_drew ?_; first | exact HG5.out | (refine grown_set ?_ (by omega) _; exact HG5.out))
      · have hb0 : ((y : Int) == 0) = false := by simpa using (show ¬ (y : Int) = 0 by omega)
        by_cases hy1 : y = 1
        · subst hy1
          obtain ⟨a', g, cap', hv, hs1, hs2, hs3, hs4, hs5, hs6⟩ := HI4.out.shape
          simp only [Value.slice.injEq] at hv
          obtain ⟨rfl, _, rfl⟩ := hv
          have hne : a ≠ none := fun hn => by
            have h2 := congrArg List.length (hs2 hn).1
            simp only [List.length_nil] at h2
            omega
          obtain rfl := hs1.resolve_right hne
          have hgC := (hs4 hne).1
          have hc := hs5 k hkl
          have hkI : (k : Int) < (zs.length : Int) := by omega
          have hnx := HX4.out.not_row HI4.out
          have hny := HY4.out.not_row HI4.out
          have hgo : g ≠ H := fun e => hnx (by rw [e]; rfl)
          have hgH : g ≠ H + 1 := fun e => hny (by rw [e]; rfl)
          clear hs1 hs2 hs3 hs4 hs5 hs6 hne
          have HHO := Lib.hid (fun (W : World) (hW : Rdr B R (p + 1 + 1 + 1) W) (hL : Rd W (.slice (some ⟨w4.heap.size, 0, none⟩) 3 3) [-1, 32, 0]) => specOne B R (p + 1 + 1 + 1) (some ⟨w4.heap.size, 0, none⟩) 3 [-1, 32, 0] (by omega) (by simp) W hW hL (fun b' o e => by cases e; omega))
          have HLa := Lib.hid (rdLit w4 [-1, 32, 0] #[.int .i64 (-1), .int .i64 32, .int .i64 0] rfl (by simp))
          have x1a := (HX4.out.alloc (Obj.cells #[.int .i64 (-1), .int .i64 32, .int .i64 0] 3)).out.at1
          have HRa := Lib.hid (HR4.out.alloc (Obj.cells #[.int .i64 (-1), .int .i64 32, .int .i64 0] 3))
          go_wp2_with fail
          go_region_law (go_simp; go_at_call 39; refine (HHO.out _ (by first | exact HRa.out | exact HRa.out.drew) (by first | exact HLa.out | exact (show Rd (World.drew _) _ _ from HLa.out))).mono ?_; rintro e w5 ⟨⟨i, hi, rfl⟩, hr5, hg5⟩; have G5 := Lib.hid (show w4.grownBy w5 (some R) from by first | exact grownBy_trans (grown_drew (World.grownBy_alloc _ _ _)) hg5 | exact grownBy_trans (World.grownBy_alloc _ _ _) hg5 | exact grownBy_trans (grownBy_trans (grown_drew (World.grownBy.refl _ _)) (World.grownBy_alloc _ _ _)) hg5); have hz5 := G5.out.size; have X5 := Lib.hid (HX4.out.kept G5.out (by simp; omega)); have Y5 := Lib.hid (HY4.out.kept G5.out (by simp; omega)); have I5 := Lib.hid (HI4.out.pick (by omega) G5.out); have R5 := Lib.hid hr5; have F5 := Lib.hid (grownBy_trans HG4.out G5.out); clear hr5 hg5; have y1 := X5.out.out.at1; have hc5 := (I5.out.cellAt k hkl).1; have hf5 := (I5.out.cellAt k hkl).2; generalize ([-1, 32, 0] : List Int).getD i 0 = v at *)
          all_goals
            have X6 := Lib.hid (show Bx n (.slice (some ⟨g, 0, none⟩) zs.length cap) H (w5.setCell ⟨g, k, none⟩ (.int .i64 v)) from X5.out.other (fun e => hgo e.symm) _)
            have Y6 := Lib.hid (show Bx 0 (.slice none 0 0) (H + 1) (w5.setCell ⟨g, k, none⟩ (.int .i64 v)) from Y5.out.other (fun e => hgH e.symm) _)
            have I6 := Lib.hid (I5.out.store k v)
            clear x0 x1 xf0 xf1 x1a y1 hc5 hf5
            have x0 := X6.out.out.at0
            have x1 := X6.out.out.at1
            have r0 := Y6.out.out.at0
            have r1 := Y6.out.out.at1
            have q0 := Y6.out.out.free0
            have q1 := Y6.out.out.free1
            go_wp2_with fail
            refine bodyPost_ret (v := .agg #[.int .i64 n, .slice (some ⟨g, 0, none⟩) zs.length cap]) (by simp [results, Try.results26, go_sem, r0, r1]) rfl ?_
            refine ⟨n, (some ⟨g, 0, none⟩), cap, p + 1 + 1 + 1 + 1, (zs.set k v), (by simp), ?_, ⟨by omega, by omega, by rw [List.length_set]; omega⟩, by omega, ?_, ?_⟩
            · have hnx := X6.out.not_row I6.out
              have hny := Y6.out.not_row I6.out
              rw [List.length_set]
              repeat (refine Ints.ne ?_ (by first | exact hnx | exact hny) _)
              first | exact I6.out | exact I5.out | exact (show Ints C (World.drew _) _ _ from I6.out)
            · repeat (refine Rdr.set ?_ (by omega) _)
              first | exact R5.out | exact R5.out.drew | (refine Rdr.drew ?_; refine Rdr.set ?_ (by omega) _; exact R5.out)
            · repeat (refine grown_set ?_ (by omega) _)
              first | exact F5.out | (refine grown_drew ?_; first | exact F5.out | (refine grown_set ?_ (by omega) _; exact F5.out))
        · have hb1 : ((y : Int) == 1) = false := by simpa using (show ¬ (y : Int) = 1 by omega)
          by_cases hy2 : y = 2
          · subst hy2
            obtain ⟨a', g, cap', hv, hs1, hs2, hs3, hs4, hs5, hs6⟩ := HI4.out.shape
            simp only [Value.slice.injEq] at hv
            obtain ⟨rfl, _, rfl⟩ := hv
            have hne : a ≠ none := fun hn => by
              have h2 := congrArg List.length (hs2 hn).1
              simp only [List.length_nil] at h2
              omega
            obtain rfl := hs1.resolve_right hne
            have hgC := (hs4 hne).1
            have hc := hs5 k hkl
            have hkI : (k : Int) < (zs.length : Int) := by omega
            have hnx := HX4.out.not_row HI4.out
            have hny := HY4.out.not_row HI4.out
            have hgo : g ≠ H := fun e => hnx (by rw [e]; rfl)
            have hgH : g ≠ H + 1 := fun e => hny (by rw [e]; rfl)
            clear hs1 hs2 hs3 hs4 hs5 hs6 hne
            obtain ⟨z, hz⟩ : ∃ z, z = zs.getD k 0 := ⟨_, rfl⟩
            rw [← hz] at hc
            clear hz
            have x1a := (HX4.out.alloc (Obj.cells #[.int .i64 z] 3)).out.at1
            go_wp2_with fail
            go_region_law (refine step_app rfl (.tmp 48) (.tmp 54) rfl C _ zs rfl (by first | exact HI4.out.alloc _ | exact (show Ints C w4.drew _ _ from HI4.out).alloc _) _ _ _ [z] rfl (src_cell (by first | (rw [World.cell?_alloc_at _ _ _ _ (by simp)]; rfl) | (rw [cell_drew, World.cell?_alloc_at _ _ _ _ (by simp)]; rfl))) (by omega) (by simp; omega) ?_; intro a5 c5 w5 hin5 hb5 hg5; have I5 := Lib.hid hin5; have G5 := Lib.hid (show w4.grownBy w5 (Value.slice (some ⟨g, 0, none⟩) zs.length cap).ownBlock from by first | exact grownBy_trans (grown_drew (World.grownBy_alloc _ _ _)) hg5 | exact grownBy_trans (World.grownBy_alloc _ _ _) hg5 | exact grownBy_trans (grownBy_trans (grown_drew (World.grownBy.refl _ _)) (World.grownBy_alloc _ _ _)) hg5); clear hin5 hb5 hg5; have hz5 := G5.out.size; have X5 := Lib.hid (HX4.out.kept G5.out hnx); have Y5 := Lib.hid (HY4.out.kept G5.out hny); have R5 := Lib.hid (HR4.out.row HI4.out hBC G5.out); have F5 := Lib.hid (grown_row HG4.out HI4.out ha0 G5.out); have f1 := X5.out.out.at1; have g1 := X5.out.out.free1)
            all_goals
              have X6 := Lib.hid (X5.out.set (.slice a5 (zs.length + 1) c5))
              have Y6 := Lib.hid (show Bx 0 (.slice none 0 0) (H + 1) (w5.setCell ⟨H, 1, none⟩ (.slice a5 (zs.length + 1) c5)) from Y5.out.other (by omega) _)
              have hnx5 := X5.out.not_row I5.out
              have I6 := Lib.hid (I5.out.ne (j := 1) hnx5 (.slice a5 (zs.length + 1) c5))
              clear x0 x1 xf0 xf1 x1a f1 g1
              have x0 := X6.out.out.at0
              have x1 := X6.out.out.at1
              have r0 := Y6.out.out.at0
              have r1 := Y6.out.out.at1
              have q0 := Y6.out.out.free0
              have q1 := Y6.out.out.free1
              go_wp2_with fail
              refine bodyPost_ret (v := .agg #[.int .i64 n, .slice a5 (zs.length + 1) c5]) (by simp [results, Try.results26, go_sem, r0, r1]) rfl ?_
              refine ⟨n, a5, c5, p + 1 + 1 + 1, (zs ++ [z]), (by simp), ?_, ⟨by omega, by omega, by rw [List.length_append]; simp; omega⟩, by omega, ?_, ?_⟩
              · have hnx := X6.out.not_row I6.out
                have hny := Y6.out.not_row I6.out
                rw [show (zs ++ [z]).length = zs.length + 1 by simp]
                repeat (refine Ints.ne ?_ (by first | exact hnx | exact hny) _)
                first | exact I6.out | exact I5.out | exact (show Ints C (World.drew _) _ _ from I6.out)
              · repeat (refine Rdr.set ?_ (by omega) _)
                first | exact R5.out | exact R5.out.drew | (refine Rdr.drew ?_; refine Rdr.set ?_ (by omega) _; exact R5.out)
              · repeat (refine grown_set ?_ (by omega) _)
                first | exact F5.out | (refine grown_drew ?_; first | exact F5.out | (refine grown_set ?_ (by omega) _; exact F5.out))
          · have hb2 : ((y : Int) == 2) = false := by simpa using (show ¬ (y : Int) = 2 by omega)
            have hw1 : IntKind.i64.wrap (n - 1) = n - 1 := by rw [IntKind.wrap_i64]; omega
            clear x0 x1
            have x0 := HX4.out.out.at0
            have x1 := HX4.out.out.at1
            have r0 := HY4.out.out.at0
            have r1 := HY4.out.out.at1
            have q0 := HY4.out.out.free0
            have q1 := HY4.out.out.free1
            go_wp2_with fail
            refine bodyPost_ret (v := .agg #[.int .i64 (n - 1), .slice a (zs).length cap]) (by simp [results, Try.results26, go_sem, r0, r1]) rfl ?_
            refine ⟨(n - 1), a, cap, p + 1 + 1 + 1, zs, rfl, ?_, ⟨by omega, by omega, by omega⟩, by omega, ?_, ?_⟩
            · have hnx := HX4.out.not_row HI4.out
              have hny := HY4.out.not_row HI4.out
              repeat (refine Ints.ne ?_ (by first | exact hnx | exact hny) _)
              first | exact HI4.out | exact I5.out | exact (show Ints C (World.drew _) _ _ from HI4.out)
            · repeat (refine Rdr.set ?_ (by omega) _)
              first | exact HR4.out | exact HR4.out.drew | (refine Rdr.drew ?_; refine Rdr.set ?_ (by omega) _; exact HR4.out)
            · repeat (refine grown_set ?_ (by omega) _)
              first | exact HG4.out | (refine grown_drew ?_; first | exact HG4.out | (refine grown_set ?_ (by omega) _; exact HG4.out))
  · have hxI : (0 : Int) < (x : Int) := by omega
    clear x0 x1
    have x0 := HX2.out.out.at0
    have x1 := HX2.out.out.at1
    have r0 := HY2.out.out.at0
    have r1 := HY2.out.out.at1
    have q0 := HY2.out.out.free0
    have q1 := HY2.out.out.free1
    go_wp2_with fail
    refine bodyPost_ret (v := .agg #[.int .i64 n, .slice a (zs).length cap]) (by simp [results, Try.results26, go_sem, r0, r1]) rfl ?_
    refine ⟨n, a, cap, p + 1, zs, rfl, ?_, ⟨by omega, by omega, by omega⟩, by omega, ?_, ?_⟩
    · have hnx := HX2.out.not_row HI2.out
      have hny := HY2.out.not_row HI2.out
      repeat (refine Ints.ne ?_ (by first | exact hnx | exact hny) _)
      first | exact HI2.out | exact I5.out | exact (show Ints C (World.drew _) _ _ from HI2.out)
    · repeat (refine Rdr.set ?_ (by omega) _)
      first | exact HR2.out | exact HR2.out.drew | (refine Rdr.drew ?_; refine Rdr.set ?_ (by omega) _; exact HR2.out)
    · repeat (refine grown_set ?_ (by omega) _)
      first | exact HG2.out | (refine grown_drew ?_; first | exact HG2.out | (refine grown_set ?_ (by omega) _; exact HG2.out))

end Go.Proofs.Ytpkilacappjkhaa
