/- CubeCounts, the program's and the model's. Conditions: Sets is a slice of ints. -/
import Derived.Test.YtbjaacppomobeaaEul
import Derived.Test.YtbjaacppomobeaaZB
import Derived.Test.YtbjaacppomobeaaZC
namespace Go.Proofs.Ytbjaacppomobeaa
open Go.RowKit

/-- how many of the first k cubes there are of each dimension -/
def ccTo (m : Nat) (es : List (Int × Int)) : Nat → List Int
  | 0 => List.replicate (m + 1) 0
  | k + 1 => (ccTo m es k).set (pc (es.getD k (0, 0)).2.toNat) ((ccTo m es k).getD (pc (es.getD k (0, 0)).2.toNat) 0 + 1)
theorem ccTo_succ (m : Nat) (es : List (Int × Int)) (k : Nat) : ccTo m es (k + 1) = (ccTo m es k).set (pc (es.getD k (0, 0)).2.toNat) ((ccTo m es k).getD (pc (es.getD k (0, 0)).2.toNat) 0 + 1) := rfl
theorem ccTo_length (m : Nat) (es : List (Int × Int)) (k : Nat) : (ccTo m es k).length = m + 1 := by
  induction k with
  | zero => simp [ccTo]
  | succ k ih => rw [ccTo_succ, List.length_set, ih]
theorem ccTo_bd (m : Nat) (es : List (Int × Int)) (k j : Nat) : 0 ≤ (ccTo m es k).getD j 0 ∧ (ccTo m es k).getD j 0 ≤ k := by
  induction k generalizing j with
  | zero =>
    rw [ccTo, List.getD_eq_getElem?_getD, List.getElem?_replicate]
    split <;> simp
  | succ k ih =>
    rw [ccTo_succ, List.getD_eq_getElem?_getD, List.getElem?_set]
    split
    · split
      · have := ih (pc (es.getD k (0, 0)).2.toNat)
        simp only [Option.getD_some]
        omega
      · simp only [Option.getD_none]
        omega
    · have := ih j
      rw [List.getD_eq_getElem?_getD] at this
      omega
def ccL (n : Int) (zs : List Int) : List Int := if vldB n zs = true then ccTo n.toNat (cubL n zs) (cubL n zs).length else []
theorem ccL_in {m : Nat} {ns : List Nat} (h : vldB (m : Int) (toI ns) = true) : ccL (m : Int) (toI ns) = ccTo m (cubL (m : Int) (toI ns)) (cubL (m : Int) (toI ns)).length := by rw [ccL, if_pos h, Int.toNat_natCast]
theorem ccL_bad {n : Int} {zs : List Int} (h : vldB n zs = false) : ccL n zs = [] := by rw [ccL, h]; rfl
theorem ccL_len (n : Int) (zs : List Int) : (ccL n zs).length ≤ 1048576 := by
  unfold ccL
  split
  · rename_i hv
    obtain ⟨m, ns, rfl, rfl, hc⟩ := vldB_cls hv
    have := hc.pts
    rw [ccTo_length, Int.toNat_natCast]
    omega
  · simp
/-- a cube's second set is one of the class's points -/
theorem cub_dim {m : Nat} {ns : List Nat} (h : Cls m ns) (hv : vldB (m : Int) (toI ns) = true) {k : Nat} (hk : k < (cubL (m : Int) (toI ns)).length) : ∃ b : Nat, b < 32 ∧ pc b ≤ m ∧ ((cubL (m : Int) (toI ns)).getD k (0, 0)).2 = (b : Int) := by
  have hm := getD_mem (d := ((0 : Int), (0 : Int))) hk
  generalize (cubL (m : Int) (toI ns)).getD k (0, 0) = e at *
  rw [cubL_in hv, cbTo, List.mem_flatMap] at hm
  obtain ⟨a, _, ha⟩ := hm
  rw [cbIn, List.mem_map] at ha
  obtain ⟨b, hb, rfl⟩ := ha
  have h1 := List.mem_range.1 (List.mem_filter.1 hb).1
  have := pow_le_32 h.pts
  exact ⟨b, by omega, pc_le m b h.pts h1, rfl⟩

set_option maxHeartbeats 6400000 in
set_option maxRecDepth 100000 in
theorem implCubeCounts (n : Int) (v : Value) (zs : List Int) (w : World) (h : Rd w v zs) :
    Calls Try.prog 45 #[.agg #[.int .i64 n, v]] w (RetInts (ccL n zs) w) := by
  have H := Lib.hid h
  obtain ⟨a, b, off, cap, rfl, _, _, _⟩ := h
  have B0 := Lib.hid (Box.made n (.slice a zs.length cap) w 28)
  by_cases hv : vldB n zs = true
  · obtain ⟨m, ns, rfl, rfl, hc⟩ := vldB_cls hv
    have hm := hc.pts
    have HT := Lib.hid (ccL_in hv)
    have HV := Lib.hid hv
    have HC := Lib.hid (fun v w h => implCubesOf (m : Int) v (toI ns) w h)
    have HD := Lib.hid (fun k (hk : k < (cubL (m : Int) (toI ns)).length) => cub_dim hc hv hk)
    have hlen := cubL_len (m : Int) (toI ns)
    generalize cubL (m : Int) (toI ns) = E at *
    obtain ⟨i0, hi, hz0, hz1, hz2⟩ := info_parts info3
    have Hz2 := Lib.hid hz2
    clear hv hc hz2
    go_enter Try.func45, Try.ntmps45
    go_wp2_with fail
    refine (implValid m _ (toI ns) _ (H.out.below (k := w.heap.size) (by go_grown) (Nat.le_refl _))).mono ?_
    rintro e w1 ⟨rfl, hb⟩
    rw [HV.out]
    have hs1 : w.heap.size < w1.heap.size := by have := hb.size; simp at this; omega
    have B1 := Lib.hid (B0.out.next (by simp) hb)
    clear hb
    have c0 := B1.out.at0
    have c1 := B1.out.at1
    go_wp2_with (at_make; refine wpList_make_full _ rfl _ _ 22 rfl w1.heap.size 3 i0 (.int .i64 0) 1 Try.underlying22 hi hz0 hz1 _ _ _ _ (m + 1) rfl rfl rfl rfl (by rw [Hz2.out]; omega) (by unfold maxLen; omega) (Nat.le_refl _) ?_; intro w4 hown hgrow; have hin := Ints.of_made hown; have hb4 : Below w1.heap.size w1 w4 := (Below.refl _ _).grown hgrow (Nat.le_refl _) (fun k hk => by simp at hk); have hz4 := hb4.size; have B4 := Lib.hid (B1.out.next hs1 hb4); have d0 := B4.out.at0; have d1 := B4.out.at1)
    clear hgrow hown hi hz0 hz1 c0 c1 hb4
    have HIN := Lib.hid hin
    clear hin
    refine (HC.out _ _ (H.out.below B4.out.below (Nat.le_refl _))).mono ?_
    rintro e w5 ⟨a1, cap1, rfl, hE, hb5⟩
    have hz5 := hb5.size
    have B5 := Lib.hid (B4.out.next (by omega) hb5)
    have I5 := Lib.hid (HIN.out.below hb5 (Nat.le_refl _))
    have LT := Lib.hid (fun g (hg : (Value.slice a1 E.length cap1).ownBlock = some g) => hE.lt g hg)
    obtain ⟨a', b', off', cap', e9, e1, e3, e5⟩ := hE.rd
    simp only [Value.slice.injEq, true_and] at e9
    obtain ⟨rfl, rfl⟩ := e9
    have E1 := Lib.hid e1
    have E5 := Lib.hid e5
    have hg1 : w1.heap.size < w4.heap.size := by
      obtain ⟨hcell, _⟩ := HIN.out.cellAt 0 (by simp)
      exact World.block_lt_of_cell? _ _ hcell
    clear hb5 hE e1 e5 d0 d1 B4 HIN
    generalize hL : E.length = L at *
    generalize hg : w1.heap.size = g at *
    go_wp2_with fail
    go_loopw [16] (fun i wr => ∃ k : Nat, k ≤ L ∧ i = .int .i64 k ∧ Ints g wr (.slice (some ⟨g, 0, none⟩) (m + 1) (m + 1)) (ccTo m E k) ∧ w5.grownBy wr (some g)) (fun i _ => L - (intOf i).toNat)
    case atStart => exact ⟨0, Nat.zero_le _, rfl, I5.out, World.grownBy.refl _ _⟩
    case round =>
      obtain ⟨k, hk, rfl, hik, hgr⟩ := hrel
      have HIK := Lib.hid hik
      have HG := Lib.hid hgr
      have hz := hgr.size
      clear hik hgr
      by_cases hlt : k < L
      · obtain ⟨rfl, hbl⟩ := E1.out (by omega)
        have hne : some b' ≠ some g := fun e => by
          have h9 := (LT.out b' rfl).1
          have := Option.some.inj e
          omega
        have hc0 := (HG.out.cell (E5.out k hlt).1 hne)
        have hc1 := (HG.out.cell (E5.out k hlt).2 hne)
        obtain ⟨x, hx32, hxm, hx⟩ := HD.out k hlt
        have hs := ccTo_succ m E k
        have hcl := ccTo_length m E k
        have hbd := ccTo_bd m E k (pc x)
        rw [hx] at hc1
        rw [hx, Int.toNat_natCast] at hs
        generalize (E.getD k (0, 0)).1 = p at *
        have HO := Lib.hid (fun w => implSizeOf x hx32 w)
        have hkI : (k : Int) < (L : Int) := by omega
        have IA := Lib.hid (HIK.out.alloc (Obj.cells #[.int .i64 p, .int .i64 (x : Int)] 40))
        have GA := Lib.hid (grownBy_trans HG.out (World.grownBy_alloc wr (Obj.cells #[.int .i64 p, .int .i64 (x : Int)] 40) _))
        have hx1 : (wr.alloc (Obj.cells #[.int .i64 p, .int .i64 (x : Int)] 40)).cell? ⟨wr.heap.size, 1, none⟩ = some (.int .i64 (x : Int)) := by simp [go_sem]
        generalize pc x = r at *
        obtain ⟨hcr, hfr⟩ := IA.out.cellAt r (by omega)
        have HS := Lib.hid (IA.out.store r ((ccTo m E k).getD r 0 + 1))
        rw [← hs] at HS
        generalize (ccTo m E k).getD r 0 = y at *
        have hr1 : (r : Int) < ((m + 1 : Nat) : Int) := by omega
        have hr2 : (r : Int) < (m : Int) + 1 := by omega
        clear hs hcl LT HD
        go_wp2_with fail
        refine (HO.out _).mono ?_
        rintro e w9 ⟨rfl, hw9⟩
        subst w9
        go_wp2_with fail
        go_roundw
        case rel => exact ⟨k + 1, by omega, by go_num, HS.out, grownBy_trans GA.out (grownBy_set _ _ _)⟩
        case measure => simp [intOf]; omega
      · obtain rfl : k = L := by omega
        go_wp2_with fail
        go_ret
        rw [HT.out]
        exact RetInts.of (HIK.out.mono (by omega)) (B5.out.below.grown HG.out (by omega) (fun j hj => by cases hj; omega))
  · have HT := Lib.hid (ccL_bad (by simpa using hv))
    rw [Bool.not_eq_true] at hv
    have HV := Lib.hid hv
    clear hv
    go_enter Try.func45, Try.ntmps45
    go_wp2_with fail
    refine (implValid n _ zs _ (H.out.below (k := w.heap.size) (by go_grown) (Nat.le_refl _))).mono ?_
    rintro e w1 ⟨rfl, hb⟩
    rw [HV.out]
    have B1 := Lib.hid (B0.out.next (by simp) hb)
    clear hb
    go_wp2_with fail
    go_ret
    rw [HT.out]
    exact ⟨none, 0, rfl, Ints.nil _ _, B1.out.below⟩


set_option maxHeartbeats 6400000 in
set_option maxRecDepth 100000 in
theorem specCubeCounts (n : Int) (v : Value) (zs : List Int) (w : World) (h : Rd w v zs) :
    Calls Try.prog 47 #[.agg #[.int .i64 n, v]] w (RetInts (ccL n zs) w) := by
  have H := Lib.hid h
  obtain ⟨a, b, off, cap, rfl, _, _, _⟩ := h
  have B0 := Lib.hid (Box.made n (.slice a zs.length cap) w 28)
  by_cases hv : vldB n zs = true
  · obtain ⟨m, ns, rfl, rfl, hc⟩ := vldB_cls hv
    have hm := hc.pts
    have HT := Lib.hid (ccL_in hv)
    have HV := Lib.hid hv
    have HC := Lib.hid (fun w h => specCubes m (.slice a (toI ns).length cap) ns w hc h)
    rw [← cubL_in hv] at HC
    have HD := Lib.hid (fun k (hk : k < (cubL (m : Int) (toI ns)).length) => cub_dim hc hv hk)
    have hlen := cubL_len (m : Int) (toI ns)
    generalize cubL (m : Int) (toI ns) = E at *
    obtain ⟨i0, hi, hz0, hz1, hz2⟩ := info_parts info3
    have Hz2 := Lib.hid hz2
    clear hv hc hz2
    go_enter Try.func47, Try.ntmps47
    go_wp2_with fail
    refine (specValid m _ (toI ns) _ (H.out.below (k := w.heap.size) (by go_grown) (Nat.le_refl _))).mono ?_
    rintro e w1 ⟨rfl, hb⟩
    rw [HV.out]
    have hs1 : w.heap.size < w1.heap.size := by have := hb.size; simp at this; omega
    have B1 := Lib.hid (B0.out.next (by simp) hb)
    clear hb
    have c0 := B1.out.at0
    have c1 := B1.out.at1
    go_wp2_with (at_make; refine wpList_make_full _ rfl _ _ 22 rfl w1.heap.size 3 i0 (.int .i64 0) 1 Try.underlying22 hi hz0 hz1 _ _ _ _ (m + 1) rfl rfl rfl rfl (by rw [Hz2.out]; omega) (by unfold maxLen; omega) (Nat.le_refl _) ?_; intro w4 hown hgrow; have hin := Ints.of_made hown; have hb4 : Below w1.heap.size w1 w4 := (Below.refl _ _).grown hgrow (Nat.le_refl _) (fun k hk => by simp at hk); have hz4 := hb4.size; have B4 := Lib.hid (B1.out.next hs1 hb4); have d0 := B4.out.at0; have d1 := B4.out.at1)
    clear hgrow hown hi hz0 hz1 c0 c1 hb4
    have HIN := Lib.hid hin
    clear hin
    refine (HC.out _ (H.out.below B4.out.below (Nat.le_refl _))).mono ?_
    rintro e w5 ⟨a1, cap1, rfl, hE, hb5⟩
    have hz5 := hb5.size
    have B5 := Lib.hid (B4.out.next (by omega) hb5)
    have I5 := Lib.hid (HIN.out.below hb5 (Nat.le_refl _))
    have LT := Lib.hid (fun g (hg : (Value.slice a1 E.length cap1).ownBlock = some g) => hE.lt g hg)
    obtain ⟨a', b', off', cap', e9, e1, e3, e5⟩ := hE.rd
    simp only [Value.slice.injEq, true_and] at e9
    obtain ⟨rfl, rfl⟩ := e9
    have E1 := Lib.hid e1
    have E5 := Lib.hid e5
    have hg1 : w1.heap.size < w4.heap.size := by
      obtain ⟨hcell, _⟩ := HIN.out.cellAt 0 (by simp)
      exact World.block_lt_of_cell? _ _ hcell
    clear hb5 hE e1 e5 d0 d1 B4 HIN
    generalize hL : E.length = L at *
    generalize hg : w1.heap.size = g at *
    go_wp2_with fail
    go_loopw [5] (fun i wr => ∃ k : Nat, k ≤ L ∧ i = .int .i64 k ∧ Ints g wr (.slice (some ⟨g, 0, none⟩) (m + 1) (m + 1)) (ccTo m E k) ∧ w5.grownBy wr (some g)) (fun i _ => L - (intOf i).toNat)
    case atStart => exact ⟨0, Nat.zero_le _, rfl, I5.out, World.grownBy.refl _ _⟩
    case round =>
      obtain ⟨k, hk, rfl, hik, hgr⟩ := hrel
      have HIK := Lib.hid hik
      have HG := Lib.hid hgr
      have hz := hgr.size
      clear hik hgr
      by_cases hlt : k < L
      · obtain ⟨rfl, hbl⟩ := E1.out (by omega)
        have hne : some b' ≠ some g := fun e => by
          have h9 := (LT.out b' rfl).1
          have := Option.some.inj e
          omega
        have hc1 := (HG.out.cell (E5.out k hlt).2 hne)
        obtain ⟨x, hx32, hxm, hx⟩ := HD.out k hlt
        have hs := ccTo_succ m E k
        have hcl := ccTo_length m E k
        have hbd := ccTo_bd m E k (pc x)
        rw [hx] at hc1
        rw [hx, Int.toNat_natCast] at hs
        have HO := Lib.hid (fun w => specSize x hx32 w)
        have hkI : (k : Int) < (L : Int) := by omega
        generalize pc x = r at *
        obtain ⟨hcr, hfr⟩ := HIK.out.cellAt r (by omega)
        have HS := Lib.hid (HIK.out.store r ((ccTo m E k).getD r 0 + 1))
        rw [← hs] at HS
        generalize (ccTo m E k).getD r 0 = y at *
        have hr1 : (r : Int) < ((m + 1 : Nat) : Int) := by omega
        have hr2 : (r : Int) < (m : Int) + 1 := by omega
        clear hs hcl LT HD
        go_wp2_with fail
        refine (HO.out _).mono ?_
        rintro e w9 ⟨rfl, hw9⟩
        subst w9
        go_wp2_with fail
        go_roundw
        case rel => exact ⟨k + 1, by omega, by go_num, HS.out, grownBy_trans HG.out (grownBy_set _ _ _)⟩
        case measure => simp [intOf]; omega
      · obtain rfl : k = L := by omega
        go_wp2_with fail
        go_ret
        rw [HT.out]
        exact RetInts.of (HIK.out.mono (by omega)) (B5.out.below.grown HG.out (by omega) (fun j hj => by cases hj; omega))
  · have HT := Lib.hid (ccL_bad (by simpa using hv))
    rw [Bool.not_eq_true] at hv
    have HV := Lib.hid hv
    clear hv
    go_enter Try.func47, Try.ntmps47
    go_wp2_with fail
    refine (specValid n _ zs _ (H.out.below (k := w.heap.size) (by go_grown) (Nat.le_refl _))).mono ?_
    rintro e w1 ⟨rfl, hb⟩
    rw [HV.out]
    have B1 := Lib.hid (B0.out.next (by simp) hb)
    clear hb
    go_wp2_with fail
    go_ret
    rw [HT.out]
    exact ⟨none, 0, rfl, Ints.nil _ _, B1.out.below⟩

end Go.Proofs.Ytbjaacppomobeaa
