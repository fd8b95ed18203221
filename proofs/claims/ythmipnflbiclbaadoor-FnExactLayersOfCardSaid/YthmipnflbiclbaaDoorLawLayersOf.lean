/- FnExactLayersOf's walk: the law answers true. Conditions: what its argument's slice holds. -/
import Derived.Deep.Cut
import Derived.Deep.CutRange
import Derived.Deep.RegionWith
import Derived.Test.YthmipnflbiclbaaDoorLyOI
import Derived.Test.YthmipnflbiclbaaDoorLyQ
namespace Go.Proofs.YthmipnflbiclbaaDoor
open Go.RowKit

theorem Box.far {n : Int} {v : Value} {w wr w1 : World} {k : Nat} (h : Box n v w wr) (hb : Below k wr w1) (hk : w.heap.size < k) : Box n v w w1 :=
  ⟨h.below.trans (hb.mono (Nat.le_of_lt hk)), (hb.cell (p := ⟨w.heap.size, 0, none⟩) hk).trans h.at0, (hb.cell (p := ⟨w.heap.size, 1, none⟩) hk).trans h.at1⟩
theorem sum_le32 : ∀ (Ps : List (List Int)), (∀ z ∈ Ps, z.length ≤ 32) → (Ps.map List.length).sum ≤ 32 * Ps.length
  | [], _ => by simp
  | z :: Ps, h => by
    have h1 := sum_le32 Ps (fun y hy => h y (List.mem_cons_of_mem _ hy))
    have h2 := h z (by simp)
    rw [List.map_cons, List.sum_cons, List.length_cons]
    omega
theorem lyZ_small (n : Int) (xs : List Int) : mkS 1 (lyZ (lyB n xs)) (lyZ (lyB n xs)).length ≤ 2097153 ∧ ∀ i, i < (lyZ (lyB n xs)).length → ((lyZ (lyB n xs)).getD i []).length ≤ 1048576 := by
  have hall : (∀ z ∈ lyZ (lyB n xs), z.length ≤ 32) ∧ (lyZ (lyB n xs)).length ≤ 32 := by
    by_cases hv : vldB n xs = true
    · obtain ⟨m, ns, rfl, rfl, hc⟩ := vldB_cls hv
      rw [lyB_in hv]
      refine ⟨fun z hz => ?_, ?_⟩
      · obtain ⟨p, hp, rfl⟩ := List.mem_map.1 hz
        obtain ⟨e, _, h3, _⟩ := lys_mem ns.length ns (Nat.le_refl _) hc p hp
        rw [toI_length, e, lay_flt h3]
        exact Nat.le_trans (List.length_filter_le _ _) h3.length
      · rw [lyZ, List.length_map]
        exact Nat.le_trans (lys_len ns) hc.length
    · rw [Bool.not_eq_true] at hv
      rw [lyB_bad hv]
      exact ⟨fun z hz => (by cases hz), Nat.zero_le _⟩
  refine ⟨?_, fun i hi => ?_⟩
  · have h1 := sum_le32 _ hall.1
    rw [mkS, List.take_length]
    have := hall.2
    omega
  · have h2 := hall.1 _ (List.getElem_mem hi)
    rw [List.getD_eq_getElem?_getD, List.getElem?_eq_getElem hi, Option.getD_some]
    omega
theorem LyI.of {B : Nat} {w : World} {v : Value} {bs : List Sl} {P : List (List Nat × List Nat)} (h1 : LsS B w v bs) (h2 : LyR B w bs P) (h3 : LyD bs) : LyI B w v bs (lyZ P) :=
  ⟨h1, by rw [lyZ, List.length_map]; exact h2.1, fun i hi => by rw [lyZ_at (by rw [← h2.1]; exact hi)]; exact h2.2 i hi, h3⟩

set_option maxHeartbeats 6400000 in
set_option maxRecDepth 100000 in
theorem walkExactLayersOf (n : Int) (v : Value) (xs : List Int) (w : World) (h : Rd w v xs) (hsw : SW w) :
    Calls Tryd.prog 9 #[.agg #[.int .i64 n, v]] w fun e w' => e = .returned (.bool true) ∧ Below w.heap.size w w' := by
  have H := Lib.hid h
  have HSW := Lib.hid hsw
  clear hsw
  obtain ⟨a, g, off, cap, rfl, h1, h3, h5⟩ := h
  clear h1 h5
  by_cases hsz : xs.length ≤ 1048576
  · have HL := Lib.hid (show left' 1048576 xs.length = 1048576 - xs.length by rw [left', if_neg (by omega)])
    obtain ⟨hR1, hR2⟩ := lyZ_small n xs
    have HS := Lib.hid (fun v w h => specLayersOf n v xs w h)
    have HI := Lib.hid (fun v w h hsw => implLayersOf n v xs w h hsw)
    have HO := Lib.hid (fun (B : Nat) (w : World) (v : Value) (bs : List Sl) (h1 : LsS B w v bs) (h2 : LyR B w bs (lyB n xs)) (h3 : LyD bs) => LyI.of h1 h2 h3)
    have HR := Lib.hid (fun (B : Nat) (w : World) (a : Option Addr) (cap : Nat) (bs : List Sl) (h1 : LsS B w (.slice a bs.length cap) bs) (h2 : LyR B w bs (lyB n xs)) => LyR.rd h1 h2)
    generalize lyB n xs = PL at *
    generalize lyZ PL = Ps at *
    have HR1 := Lib.hid hR1
    have HR2 := Lib.hid hR2
    clear hR1 hR2
    go_enter Tryd.func9, Tryd.ntmps9
    go_wp2_with fail
    refine (szClass _ _ _ _ _ _ (by omega) (by omega) h3).mono ?_
    rintro e w1 ⟨rfl, hb⟩
    rw [HL.out]
    have B1 := Lib.hid ((Box.made n (.slice a xs.length cap) w _).next (by simp) hb)
    have hs1 : w.heap.size < w1.heap.size := by have := hb.size; simp at this; omega
    clear hb
    have c0 := B1.out.at0
    have c1 := B1.out.at1
    go_wp2_with fail
    refine (toClass n _ xs _ (H.out.below B1.out.below (Nat.le_refl _)) hsz).mono ?_
    rintro e w2 ⟨a2, cap2, rfl, hin2, hb2⟩
    clear c0 c1
    have B2 := Lib.hid (B1.out.next hs1 hb2)
    have hs2 : w.heap.size < w2.heap.size := by have := hb2.size; omega
    have I2 := Lib.hid hin2
    clear hb2 hin2 B1
    go_wp2_with fail
    refine (HS.out _ _ I2.out.rd).mono ?_
    rintro e w3 ⟨a3, cap3, bs3, rfl, hls3, hly3, hb3⟩
    have B3 := Lib.hid (B2.out.next hs2 hb3)
    have hs3 : w.heap.size < w3.heap.size := by have := hb3.size; omega
    have K3 := Lib.hid (HR.out _ _ _ _ _ hls3 hly3)
    clear hls3 hly3 hb3 B2 I2 HR
    generalize bs3.length = l3 at *
    have c0 := B3.out.at0
    have c1 := B3.out.at1
    go_wp2_with fail
    refine (toClass n _ xs _ (H.out.below B3.out.below (Nat.le_refl _)) hsz).mono ?_
    rintro e w4 ⟨a4, cap4, rfl, hin4, hb4⟩
    clear c0 c1
    have B4 := Lib.hid (B3.out.next hs3 hb4)
    have D4 := Lib.hid hb4
    have hs34 : w3.heap.size ≤ w4.heap.size := hb4.size
    have hs4 : w.heap.size < w4.heap.size := by omega
    have I4 := Lib.hid hin4
    clear hb4 hin4 B3
    go_wp2_with fail
    refine (HI.out _ _ (I4.out.rd.below (k := w4.heap.size) (by go_grown) (Nat.le_refl _)) ((HSW.out.next B4.out.below).next (by go_grown))).mono ?_
    rintro e w5 ⟨a5, cap5, bs5, rfl, hls5, hly5, hld5, hb5⟩
    have X5 := Lib.hid ((Box.made n (.slice a4 xs.length cap4) w4 _).next (by simp) hb5)
    have B5 := Lib.hid (B4.out.next hs4 X5.out.below)
    have D5 := Lib.hid (D4.out.trans (X5.out.below.mono hs34))
    have J5 := Lib.hid (I4.out.below X5.out.below (Nat.le_refl _))
    have I5 := Lib.hid (HO.out _ _ _ _ (hls5.mono (show w4.heap.size ≤ _ by simp)) (hly5.mono (show w4.heap.size ≤ _ by simp)) hld5)
    have hs5 : w4.heap.size < w5.heap.size := by have := hb5.size; simp at this; omega
    clear hls5 hly5 hld5 hb5 B4
    have K5 := Lib.hid (K3.out.below D5.out (Nat.le_refl _))
    obtain ⟨l5, hl5⟩ : ∃ l5, l5 = bs5.length := ⟨_, rfl⟩
    rw [← hl5] at I5 ⊢
    clear hl5
    go_wp2_with fail
    refine (eqIntSS _ _ Ps _ I5.out.rd K5.out).mono ?_
    rintro e w6 ⟨rfl, hb6⟩
    have X6 := Lib.hid (X5.out.next hs5 hb6)
    have B6 := Lib.hid (B5.out.next (by omega) hb6)
    have D6 := Lib.hid (D5.out.trans (hb6.mono (by omega)))
    have J6 := Lib.hid (J5.out.below hb6 (Nat.le_refl _))
    have I6 := Lib.hid (I5.out.below hb6 (Nat.le_refl _))
    have hs6 : w4.heap.size < w6.heap.size := Nat.lt_of_lt_of_le hs5 hb6.size
    clear hb6 X5 B5 D5 J5 I5 K5 D4 hs5
    have c0 := B6.out.at0
    have c1 := B6.out.at1
    have x0 := X6.out.at0
    have x1 := X6.out.at1
    have hs66 : w.heap.size < w6.heap.size := by omega
    go_upto_region 10 with (fail)
    go_cut [31] from 27 to 31 (fun u wq => u = .bool false ∧ Below w6.heap.size w6 wq)
    case first =>
      go_region_with (first
        | (go_at_call 46; refine (toClass n _ xs _ (by exact Rd.below H.out (by first | exact B6.out.below | exact B6.out.below.drew) (Nat.le_refl _)) hsz).mono ?_; rintro e w7 ⟨a7, cap7, rfl, hin7, hb7⟩; have hb67 : Below w6.heap.size w6 w7 := Below.trans (by first | exact Below.refl _ _ | exact (Below.refl _ _).drew) hb7; have I7 := Lib.hid hin7; clear hin7 hb7; obtain ⟨hc7, hf7⟩ := bcell hb67)
        | (go_at_call 47; refine (eqClass n n _ _ xs xs _ (by exact J6.out.rd.below (by assumption) (Nat.le_refl _)) (by exact I7.out.rd)).mono ?_; rintro e w8 ⟨rfl, hb8⟩; rw [show (decide (n = n) && eqB xs xs) = true by simp [eqB]]))
      all_goals
        go_wp2_with fail
        go_meet
        exact ⟨rfl, hb67.trans (hb8.mono (by have := hb67.size; simp; omega))⟩
    case rest =>
      obtain ⟨rfl, hb⟩ := hcut
      have B7 := Lib.hid (B6.out.next hs66 hb)
      have X7 := Lib.hid (X6.out.next hs6 hb)
      have D7 := Lib.hid (D6.out.trans (hb.mono (by omega)))
      have hs7 : w4.heap.size < wc.heap.size := Nat.lt_of_lt_of_le hs6 hb.size
      have J7 := Lib.hid (J6.out.below hb (Nat.le_refl _))
      have I7 := Lib.hid (I6.out.below hb (Nat.le_refl _))
      clear hb c0 c1 x0 x1 B6 X6 D6 J6 I6 hs6 hs66
      have x0 := X7.out.at0
      have x1 := X7.out.at1
      go_wp2_with fail
      refine (markClass n a4 xs.length cap4 xs 1 _ J7.out (by omega) hsz).mono ?_
      rintro e w8 ⟨rfl, hin8, hg8⟩
      clear x0 x1
      have B8 := Lib.hid (B7.out.grown hg8 (J7.out.row_ge hs3))
      have D8 := Lib.hid (D7.out.grown hg8 (by omega) (fun k hk => (I4.out.lt k hk).1))
      have I8 := Lib.hid (I7.out.low hg8 (fun k hk => (I4.out.lt k hk).2))
      have hs8 : w4.heap.size < w8.heap.size := Nat.lt_of_lt_of_le hs7 hg8.size
      have K8 := Lib.hid (K3.out.below D8.out (Nat.le_refl _))
      clear hin8 hg8 B7 X7 D7 J7 I7 hs7
      go_wp2_with fail
      refine (eqIntSS _ _ Ps _ I8.out.rd K8.out).mono ?_
      rintro e w9 ⟨rfl, hb9⟩
      have B9 := Lib.hid (B8.out.next (by omega) hb9)
      have D9 := Lib.hid (D8.out.trans (hb9.mono (by omega)))
      have I9 := Lib.hid (I8.out.below hb9 (Nat.le_refl _))
      have hs9 : w4.heap.size < w9.heap.size := Nat.lt_of_lt_of_le hs8 hb9.size
      clear hb9 B8 D8 I8 K8 hs8
      go_wp2_with fail
      refine (markIntSS (B := w4.heap.size) _ _ Ps 1 _ I9.out (by omega) HR1.out HR2.out).mono ?_
      rintro e w10 ⟨rfl, hin10, hb10⟩
      have B10 := Lib.hid (B9.out.far hb10 hs4)
      have D10 := Lib.hid (D9.out.trans (hb10.mono hs34))
      have I10 := Lib.hid hin10
      have hs10 : w4.heap.size < w10.heap.size := Nat.lt_of_lt_of_le hs9 hb10.size
      clear hin10 hb10 B9 D9 I9 hs9
      go_wp2_with fail
      refine (heldIntSS _ Ps 1 _ I10.out.rd HR1.out HR2.out).mono ?_
      rintro e w' ⟨rfl, rfl⟩
      have HQ := Lib.hid HR1.out
      obtain ⟨q9, hq9⟩ : ∃ q9, q9 = mkS 1 Ps Ps.length := ⟨_, rfl⟩
      rw [← hq9] at HQ ⊢
      have hqle := HQ.out
      have HQE := Lib.hid hq9
      clear hq9
      have c0 := B10.out.at0
      have c1 := B10.out.at1
      go_wp2_with fail
      refine (toClass n _ xs _ (H.out.below B10.out.below (Nat.le_refl _)) hsz).mono ?_
      rintro e w11 ⟨a11, cap11, rfl, hin11, hb11⟩
      clear c0 c1
      have B11 := Lib.hid (B10.out.next (by omega) hb11)
      have D11 := Lib.hid (D10.out.trans (hb11.mono (by omega)))
      have hs11 : w4.heap.size < w11.heap.size := Nat.lt_of_lt_of_le hs10 hb11.size
      have J11 := Lib.hid hin11
      have I11 := Lib.hid (I10.out.below hb11 (Nat.le_refl _))
      clear hin11 hb11 B10 D10 I10 hs10
      go_wp2_with fail
      refine (HI.out _ _ J11.out.rd (HSW.out.next B11.out.below)).mono ?_
      rintro e w12 ⟨a12, cap12, bs12, rfl, hls12, hly12, hld12, hb12⟩
      have B12 := Lib.hid (B11.out.next (by omega) hb12)
      have D12 := Lib.hid (D11.out.trans (hb12.mono (by omega)))
      have hs12 : w4.heap.size < w12.heap.size := Nat.lt_of_lt_of_le hs11 hb12.size
      have H12 := Lib.hid (HO.out _ _ _ _ hls12 hly12 hld12)
      have I12 := Lib.hid (I11.out.below hb12 (Nat.le_refl _))
      have K12 := Lib.hid (K3.out.below D12.out (Nat.le_refl _))
      clear hls12 hly12 hld12 hb12 B11 D11 I11 J11 hs11
      generalize bs12.length = l12 at *
      go_wp2_with fail
      refine (eqIntSS _ _ Ps _ H12.out.rd K12.out).mono ?_
      rintro e w13 ⟨rfl, hb13⟩
      have B13 := Lib.hid (B12.out.next (by omega) hb13)
      have I13 := Lib.hid (I12.out.below hb13 (Nat.le_refl _))
      clear hb13 B12 I12 H12 K12 D12
      go_wp2_with fail
      refine (heldIntSS _ Ps 1 _ I13.out.rd HR1.out HR2.out).mono ?_
      rintro e w' ⟨rfl, rfl⟩
      rw [← HQE.out]
      go_wp2_with fail
      go_ret
      exact ⟨rfl, B13.out.below⟩
  · have HL := Lib.hid (show left' 1048576 xs.length = -1 by rw [left', if_pos (by omega)])
    go_enter Tryd.func9, Tryd.ntmps9
    go_wp2_with fail
    refine (szClass _ _ _ _ _ _ (by omega) (by omega) h3).mono ?_
    rintro e w1 ⟨rfl, hb⟩
    rw [HL.out]
    have Hb := Lib.hid hb
    clear hb
    go_wp2_with fail
    go_ret
    exact ⟨rfl, Below.trans (by go_grown) (Hb.out.mono (by simp))⟩

end Go.Proofs.YthmipnflbiclbaaDoor
