/- The program's isPointOf. Conditions: Sets is a slice of ints. The program's withoutPoint and RemovePoint. Conditions: Sets is a slice of ints. The model's FlipClass. Conditions: Sets is a slice of ints. The model's drop and RemovePoint. Conditions: Sets is a slice of ints. The model's has. No conditions. Lists of what f makes of those of ns for which P holds. No conditions. Is a number among others? No conditions. A class in a block of its own: read, written, and never a row of ints. No conditions. -/
import Derived.Deep.RegionWith
import Derived.OneCell
import Derived.Test.YtnoppclajhfnjaaDoorZA
import Derived.Test.YtnoppclajhfnjaaDoorZB
import Derived.Test.YtnoppclajhfnjaaDoorZD
namespace Go.Proofs.YtnoppclajhfnjaaDoor
open Go.RowKit

/-- isPointOf's answer -/
def ptB (n : Int) (zs : List Int) (x : Int) : Bool := vldB n zs && (decide (0 ≤ x) && decide (x < n))
theorem ptB_nat {n : Int} {zs : List Int} {x : Int} (h : ptB n zs x = true) : ∃ (m y : Nat) (ns : List Nat), n = m ∧ x = y ∧ zs = toI ns ∧ Cls m ns ∧ y < m ∧ m ≤ 5 ∧ vldB m (toI ns) = true := by
  simp only [ptB, Bool.and_eq_true, decide_eq_true_eq] at h
  obtain ⟨h0, h1, h2⟩ := h
  obtain ⟨m, ns, rfl, rfl, hc⟩ := vldB_cls h0
  obtain ⟨y, rfl⟩ := Int.eq_ofNat_of_zero_le h1
  exact ⟨m, y, ns, rfl, rfl, rfl, hc, by omega, hc.pts, h0⟩

set_option maxHeartbeats 800000 in
theorem implIsPointOf (n : Int) (v : Value) (zs : List Int) (x : Int) (w : World) (h : Rd w v zs) :
    Calls Tryd.prog 64 #[.agg #[.int .i64 n, v], .int .i64 x] w fun e w' => e = .returned (.bool (ptB n zs x)) ∧ Below w.heap.size w w' := by
  have H := Lib.hid h
  obtain ⟨a, b, off, cap, rfl, _, _, _⟩ := h
  by_cases hv : vldB n zs = true
  · obtain ⟨m, ns, rfl, rfl, hc⟩ := vldB_cls hv
    have hm := hc.pts
    have HV := Lib.hid hv
    have HE := Lib.hid (show ptB m (toI ns) x = (decide (0 ≤ x) && decide (x < m)) by simp [ptB, hv])
    clear hc hv
    by_cases hs0 : 0 ≤ x
    · have hd : decide ((0 : Int) ≤ x) = true := by simpa using hs0
      have HD := Lib.hid hd
      go_enter Tryd.func64, Tryd.ntmps64
      go_wp2_with fail
      refine (implValid m _ (toI ns) _ (H.out.below (k := w.heap.size) (by go_grown) (Nat.le_refl _))).mono ?_
      rintro e w1 ⟨rfl, hb⟩
      rw [HV.out]
      have B1 := Lib.hid ((Box.made m (.slice a (toI ns).length cap) w _).next (by simp) hb)
      clear hb
      have c0 := B1.out.at0
      go_wp2_with fail
      go_ret
      exact ⟨ret_bool (by rw [HE.out, HD.out]; simp), B1.out.below⟩
    · have hd : decide ((0 : Int) ≤ x) = false := by simpa using hs0
      have HD := Lib.hid hd
      go_enter Tryd.func64, Tryd.ntmps64
      go_wp2_with fail
      refine (implValid m _ (toI ns) _ (H.out.below (k := w.heap.size) (by go_grown) (Nat.le_refl _))).mono ?_
      rintro e w1 ⟨rfl, hb⟩
      rw [HV.out]
      have B1 := Lib.hid ((Box.made m (.slice a (toI ns).length cap) w _).next (by simp) hb)
      clear hb
      have c0 := B1.out.at0
      go_wp2_with fail
      go_ret
      exact ⟨ret_bool (by rw [HE.out, HD.out]; rfl), B1.out.below⟩
  · rw [Bool.not_eq_true] at hv
    have HE := Lib.hid (show ptB n zs x = false by simp [ptB, hv])
    have HV := Lib.hid hv
    clear hv
    go_enter Tryd.func64, Tryd.ntmps64
    go_wp2_with fail
    refine (implValid n _ zs _ (H.out.below (k := w.heap.size) (by go_grown) (Nat.le_refl _))).mono ?_
    rintro e w1 ⟨rfl, hb⟩
    rw [HV.out]
    have B1 := Lib.hid ((Box.made n (.slice a zs.length cap) w _).next (by simp) hb)
    clear hb
    go_wp2_with fail
    go_ret
    exact ⟨ret_bool (by rw [HE.out]), B1.out.below⟩

end Go.Proofs.YtnoppclajhfnjaaDoor

namespace Go.Proofs.YtnoppclajhfnjaaDoor
open Go.RowKit

/-- a set without a point, with the points behind it one less -/
def rmv (x s : Nat) : Nat := s % 2 ^ x + s / 2 ^ (x + 1) * 2 ^ x
theorem rmv_lt {m x s : Nat} (hx : x < m) (hm : m ≤ 5) (hs : s < 2 ^ m) : rmv x s < 2 ^ (m - 1) := by
  have key : ∀ m : Fin 6, ∀ x : Fin 5, ∀ s : Fin 32, (x : Nat) < m → (s : Nat) < 2 ^ (m : Nat) → rmv x s < 2 ^ ((m : Nat) - 1) := by decide +kernel
  exact key ⟨m, by omega⟩ ⟨x, by omega⟩ ⟨s, Nat.lt_of_lt_of_le hs (pow_le_32 hm)⟩ hx hs
theorem rmv_and {x s : Nat} (hx : x < 5) (hs : s < 32) : (s &&& (2 ^ x - 1)) ||| (s / 2 ^ (x + 1) * 2 ^ x) = rmv x s ∧ s / 2 ^ (x + 1) * 2 ^ x < 32 ∧ rmv x s < 32 := by
  have key : ∀ x : Fin 5, ∀ s : Fin 32, ((s : Nat) &&& (2 ^ (x : Nat) - 1)) ||| ((s : Nat) / 2 ^ ((x : Nat) + 1) * 2 ^ (x : Nat)) = rmv x s ∧ (s : Nat) / 2 ^ ((x : Nat) + 1) * 2 ^ (x : Nat) < 32 ∧ rmv x s < 32 := by decide +kernel
  exact key ⟨x, hx⟩ ⟨s, hs⟩

theorem rmv_bits {x s : Nat} (hx : x < 5) (hs : s < 32) : bits .or .i64 (bits .and .i64 (s : Int) (((2 ^ x - 1 : Nat) : Int))) (((s / 2 ^ (x + 1) * 2 ^ x : Nat) : Int)) = ((rmv x s : Nat) : Int) := by
  obtain ⟨h1, h2, _⟩ := rmv_and hx hs
  have h3 := pow_le_32 (n := x) (by omega)
  rw [i64_and s (2 ^ x - 1) (by omega) (by omega), i64_or _ _ (by have := @Nat.and_le_left s (2 ^ x - 1); omega) (by omega), h1]

set_option maxHeartbeats 800000 in
theorem implWithout (s x : Nat) (hs : s < 32) (hx : x < 5) (w : World) :
    Calls Tryd.prog 65 #[.int .i64 (s : Int), .int .i64 (x : Int)] w fun e w' => e = .returned (.int .i64 ((rmv x s : Nat) : Int)) ∧ w' = w := by
  have HB := Lib.hid (rmv_bits hx hs)
  have key : x = 0 ∨ x = 1 ∨ x = 2 ∨ x = 3 ∨ x = 4 := by omega
  rcases key with rfl | rfl | rfl | rfl | rfl
  · go_enter Tryd.func65, Tryd.ntmps65
    go_wp2_with fail
    go_ret
    exact ⟨ret_int (by have := HB.out; simpa using this), rfl⟩
  · go_enter Tryd.func65, Tryd.ntmps65
    go_wp2_with fail
    go_ret
    exact ⟨ret_int (by have := HB.out; simpa using this), rfl⟩
  · go_enter Tryd.func65, Tryd.ntmps65
    go_wp2_with fail
    go_ret
    exact ⟨ret_int (by have := HB.out; simpa using this), rfl⟩
  · go_enter Tryd.func65, Tryd.ntmps65
    go_wp2_with fail
    go_ret
    exact ⟨ret_int (by have := HB.out; simpa using this), rfl⟩
  · go_enter Tryd.func65, Tryd.ntmps65
    go_wp2_with fail
    go_ret
    exact ⟨ret_int (by have := HB.out; simpa using this), rfl⟩

def rmN (n : Int) (zs : List Int) (x : Int) : Int := if ptB n zs x = true then n - 1 else 0
def rmL (n : Int) (zs : List Int) (x : Int) : List Int := if ptB n zs x = true then toI (tidyL ((zs.map Int.toNat).map (rmv x.toNat))) else []
theorem rmL_len (n : Int) (zs : List Int) (x : Int) : (rmL n zs x).length ≤ 1048576 := by
  unfold rmL
  split
  · rw [toI_length]
    have := flt_length (fun p => decide (p ∈ (zs.map Int.toNat).map (rmv x.toNat)))
    unfold tidyL
    omega
  · simp

set_option maxHeartbeats 1600000 in
set_option maxRecDepth 100000 in
theorem implRemovePoint (n : Int) (v : Value) (zs : List Int) (s : Int) (w : World) (h : Rd w v zs) :
    Calls Tryd.prog 19 #[.agg #[.int .i64 n, v], .int .i64 s] w (RetClass (rmN n zs s) (rmL n zs s) w) := by
  have H := Lib.hid h
  obtain ⟨a, b, off, cap, rfl, h1, h3, h5⟩ := h
  by_cases hv : ptB n zs s = true
  · obtain ⟨m, t, ns, rfl, rfl, rfl, hc, ht, hm, hv0⟩ := ptB_nat hv
    have HN := Lib.hid (show rmN m (toI ns) t = (m : Int) - 1 by rw [rmN, if_pos hv])
    have HT := Lib.hid (show rmL m (toI ns) t = toI (tidyL (ns.map (rmv t))) by rw [rmL, if_pos hv, toNat_toI, Int.toNat_natCast])
    have HR := Lib.hid (range_tidy (m := m - 1) (by omega) (l := ns.map (rmv t)) (by
      intro x hx
      obtain ⟨y, hy, rfl⟩ := List.mem_map.1 hx
      exact rmv_lt ht hm (hc.lt y hy)))
    have HM := Lib.hid (show (m : Int) - 1 = ((m - 1 : Nat) : Int) by omega)
    have HC := Lib.hid hc
    have hl := hc.length
    have HV := Lib.hid hv
    rw [toI_length] at h1 h3 h5 H ⊢
    have H5 := Lib.hid h5
    have H1 := Lib.hid h1
    have hmm := @run_makeMap Tryd.prog
    have OB := Lib.hid (show Out m (.slice a ns.length cap) w.heap.size ((w.alloc (Obj.cells #[.int .i64 (m : Int), .slice a ns.length cap] 27)).alloc (Obj.cells #[.int .i64 0, .slice none 0 0] 27)) from ⟨by simp [go_sem], by simp [go_sem], by simp [go_sem], by simp [go_sem]⟩)
    have OR := Lib.hid (show Out 0 (.slice none 0 0) (w.heap.size + 1) ((w.alloc (Obj.cells #[.int .i64 (m : Int), .slice a ns.length cap] 27)).alloc (Obj.cells #[.int .i64 0, .slice none 0 0] 27)) from ⟨by simp [go_sem], by simp [go_sem], by simp [go_sem], by simp [go_sem]⟩)
    clear hv hv0 hc h1 h5
    go_enter Tryd.func19, Tryd.ntmps19
    go_wp2_with fail
    refine (implIsPointOf m _ (toI ns) t _ (H.out.below (k := w.heap.size) (by go_grown) (Nat.le_refl _))).mono ?_
    rintro e w1 ⟨rfl, hb⟩
    rw [HV.out]
    have hs1 : w.heap.size + 1 < w1.heap.size := by have := hb.size; simp at this; omega
    have OB1 := Lib.hid (OB.out.next hb (by simp only [World.size_alloc]; omega))
    have OR1 := Lib.hid (OR.out.next hb (by simp only [World.size_alloc]; omega))
    have HB1 := Lib.hid (show Below w.heap.size w w1 from Below.trans (by go_grown) (hb.mono (by simp; omega)))
    clear hb
    have c0 := OB1.out.at0
    have c1 := OB1.out.at1
    have cm := (OB1.out.next (show Below w1.heap.size w1 (w1.alloc (.map #[] 0)) from (Below.refl _ _).alloc (Nat.le_refl _) _) (by omega)).at1
    go_wp2_with fail
    clear c0 c1 cm
    go_loopw [17] (fun i wr => ∃ k : Nat, k ≤ ns.length ∧ i = .int .i64 k ∧ Keys wr w1.heap.size k (hasF (rmv t) ns k) ∧ Below w1.heap.size w1 wr) (fun i _ => ns.length - (intOf i).toNat)
    case atStart => exact ⟨0, Nat.zero_le _, rfl, (Keys.made w1).congr (fun _ _ => rfl), (Below.refl _ _).alloc (Nat.le_refl _) _⟩
    case round =>
      obtain ⟨k, hk, rfl, hks, hbe⟩ := hrel
      have HK := Lib.hid hks
      have HBE := Lib.hid hbe
      clear hks hbe
      by_cases hlt : k < ns.length
      · obtain ⟨rfl, hbl⟩ := H1.out (by omega)
        have hcx := (HBE.out.cell (p := ⟨b, off + k, none⟩) (by show b < w1.heap.size; omega)).trans ((HB1.out.cell (p := ⟨b, off + k, none⟩) hbl).trans (H5.out k (by omega)))
        rw [toI_getD] at hcx
        have hx := HC.out.lt32 _ (getD_of_lt hlt)
        have HS := Lib.hid (hasF_succ (rmv t) ns k)
        generalize ns.getD k 0 = x at *
        have hz : rmv t x < 32 := (rmv_and (x := t) (by omega) hx).2.2
        go_wp2_with fail
        refine (implWithout x t hx (by omega) _).mono ?_
        rintro e w9 ⟨rfl, rfl⟩
        generalize rmv t x = z at *
        go_wp2_with (at_mapUpdate; refine wpList_keys_put _ rfl (.tmp 21) (.tmp 24) _ rfl w1.heap.size k _ rfl HK.out (by omega) z (by omega) rfl rfl ?_; intro w2 hk2 hg2)
        have HK2 := Lib.hid hk2
        have HB2 := Lib.hid (HBE.out.grown hg2 HBE.out.size (fun j hj => by cases hj; omega))
        clear hk2 hg2
        go_roundw
        case rel => exact ⟨k + 1, by omega, by go_num, HK2.out.congr (fun y _ => by rw [HS.out y]), HB2.out⟩
        case measure => simp [intOf]; omega
      · obtain rfl : k = ns.length := by omega
        have OB2 := Lib.hid (OB1.out.next HBE.out (by omega))
        have OR2 := Lib.hid (OR1.out.next HBE.out hs1)
        have d0 := OB2.out.at0
        have d1 := OB2.out.at1
        have HKK := Lib.hid (HK.out.congr (fun y _ => hasF_all (rmv t) ns y))
        go_wp2_with fail
        rw [HM.out]
        refine (implClassOf (m - 1) (by omega) _ _ _ _ HKK.out).mono ?_
        rintro e w4 ⟨a4, c4, rfl, hin4, hb4⟩
        rw [HR.out] at hin4 ⊢
        have hz4 := hb4.size
        have hz2 := HBE.out.size
        have OR4 := Lib.hid (OR2.out.next hb4 (by omega))
        have HIN := Lib.hid hin4
        have HB4 := Lib.hid (show Below w.heap.size w w4 from (HB1.out.trans (HBE.out.mono (by omega))).trans (hb4.mono (by omega)))
        clear hin4 hb4 d0 d1
        have r0 := OR4.out.at0
        have r1 := OR4.out.at1
        have q0 := OR4.out.free0
        have q1 := OR4.out.free1
        go_wp2_with fail
        refine bodyPost_ret (v := .agg #[.int .i64 ((m - 1 : Nat) : Int), .slice a4 (toI (tidyL (ns.map (rmv t)))).length c4]) (by simp [results, Tryd.results19, go_sem, r0, r1]) rfl ?_
        rw [HN.out, HT.out, HM.out]
        refine ⟨a4, c4, rfl, ?_, ?_⟩
        · refine Ints.mono (B := _) ?_ (show w.heap.size ≤ wr.heap.size by omega)
          repeat (refine Ints.setCell_below ?_ (by simp; omega) _)
          exact HIN.out
        · have hb0 := HB4.out
          clear r0 r1 q0 q1
          go_grown
  · have HN := Lib.hid (show rmN n zs s = 0 by rw [rmN, if_neg hv])
    have HT := Lib.hid (show rmL n zs s = [] by rw [rmL, if_neg hv])
    rw [Bool.not_eq_true] at hv
    have HV := Lib.hid hv
    clear hv
    go_enter Tryd.func19, Tryd.ntmps19
    go_wp2_with fail
    refine (implIsPointOf n _ zs s _ (H.out.below (k := w.heap.size) (by go_grown) (Nat.le_refl _))).mono ?_
    rintro e w1 ⟨rfl, hb⟩
    rw [HV.out]
    obtain ⟨hc, hf⟩ := bcell hb
    have Hb := Lib.hid hb
    clear hb
    go_wp2_with fail
    refine bodyPost_ret (v := .agg #[.int .i64 0, .slice none 0 0]) (by simp [results, Tryd.results19, go_sem, hc]) rfl ?_
    rw [HN.out, HT.out]
    refine ⟨none, 0, rfl, Ints.nil _ _, ?_⟩
    have hb0 : Below w.heap.size w w1 := Below.trans (by go_grown) (Hb.out.mono (by simp; omega))
    clear hc hf
    go_grown

end Go.Proofs.YtnoppclajhfnjaaDoor

namespace Go.Proofs.YtnoppclajhfnjaaDoor
open Go.RowKit

theorem specFlip (a b : Nat) (ha : a < 4096) (hb : b < 4096) (w : World) :
    Calls Tryd.prog 123 #[.int .i64 a, .int .i64 b] w fun e w' => e = .returned (.int .i64 ((a ^^^ b : Nat) : Int)) ∧ w' = w := by
  have h := i64_xor a b ha hb
  go_enter Tryd.func123, Tryd.ntmps123
  go_wp2
  go_ret
  exact ⟨rfl, rfl⟩

/-- what f makes of the first k of ns -/
def mapTo (f : Nat → Nat) (ns : List Nat) (k : Nat) : List Nat := (List.range k).map (fun j => f (ns.getD j 0))
theorem mapTo_succ (f : Nat → Nat) (ns : List Nat) (k : Nat) : mapTo f ns (k + 1) = mapTo f ns k ++ [f (ns.getD k 0)] := by simp [mapTo, List.range_succ]
theorem mapTo_length (f : Nat → Nat) (ns : List Nat) (k : Nat) : (mapTo f ns k).length = k := by simp [mapTo]
theorem mapTo_all (f : Nat → Nat) (ns : List Nat) : mapTo f ns ns.length = ns.map f := by
  apply List.ext_getElem
  · simp [mapTo]
  · intro i h1 h2
    have h3 : i < ns.length := by simpa using h2
    simp [mapTo, List.getElem?_eq_getElem h3]


end Go.Proofs.YtnoppclajhfnjaaDoor

namespace Go.Proofs.YtnoppclajhfnjaaDoor
open Go.RowKit

theorem power_g (n : Int) (h0 : 0 ≤ n) (h1 : n ≤ 12) (w : World) :
    Calls Tryd.prog 74 #[.int .i64 n] w fun e w' => e = .returned (.int .i64 (2 ^ n.toNat)) ∧ w' = w :=
  (specPower _ _ h0 h1).mono fun _ _ ⟨he, hw⟩ => ⟨he, hw.symm⟩




end Go.Proofs.YtnoppclajhfnjaaDoor

namespace Go.Proofs.YtnoppclajhfnjaaDoor
open Go.RowKit

/-- is the point x in the set s? -/
def hasX (x s : Nat) : Bool := decide (s / 2 ^ x % 2 = 1)

set_option maxHeartbeats 800000 in
theorem specHas (s x : Nat) (hs : s < 4096) (hx : x < 5) (w : World) :
    Calls Tryd.prog 76 #[.int .i64 (s : Int), .int .i64 (x : Int)] w fun e w' => e = .returned (.bool (hasX x s)) ∧ w' = w := by
  have HQ := Lib.hid (show (s : Int) / (2 : Int) ^ x = ((s / 2 ^ x : Nat) : Int) by simp)
  have hr : s / 2 ^ x < 4096 := Nat.lt_of_le_of_lt (Nat.div_le_self _ _) hs
  have HE := Lib.hid (show hasX x s = decide (s / 2 ^ x % 2 = 1) from rfl)
  have hp := two_pow_le x (by omega)
  go_enter Tryd.func76, Tryd.ntmps76
  go_wp2_with fail
  refine (power_q x (by omega) _).mono ?_
  rintro e w1 ⟨rfl, rfl⟩
  generalize (2 : Int) ^ x = q at *
  generalize s / 2 ^ x = r at *
  have hne : q ≠ 0 := by omega
  go_wp2_with fail
  go_ret
  exact ⟨ret_bool (by
    rw [HE.out, HQ.out, show wrap64 (r : Int) = r by simp only [wrap64]; omega, Int.tmod_eq_emod_of_nonneg (by omega), Bool.eq_iff_iff]
    simp
    omega), rfl⟩

end Go.Proofs.YtnoppclajhfnjaaDoor

namespace Go.Proofs.YtnoppclajhfnjaaDoor
open Go.RowKit

/-- what f makes of those of the first k of ns for which P holds -/
def fmTo (P : Nat → Bool) (f : Nat → Nat) (ns : List Nat) (k : Nat) : List Nat := ((List.range k).filter (fun j => P (ns.getD j 0))).map (fun j => f (ns.getD j 0))
theorem fmTo_yes {P : Nat → Bool} {f : Nat → Nat} {ns : List Nat} {k : Nat} (h : P (ns.getD k 0) = true) : fmTo P f ns (k + 1) = fmTo P f ns k ++ [f (ns.getD k 0)] := by
  simp only [fmTo, List.range_succ, List.filter_append, List.map_append]
  rw [List.filter_cons_of_pos (by simpa using h)]
  rfl
theorem fmTo_no {P : Nat → Bool} {f : Nat → Nat} {ns : List Nat} {k : Nat} (h : P (ns.getD k 0) = false) : fmTo P f ns (k + 1) = fmTo P f ns k := by
  simp only [fmTo, List.range_succ, List.filter_append, List.map_append]
  rw [List.filter_cons_of_neg (by simpa using h)]
  simp
theorem fmTo_le (P : Nat → Bool) (f : Nat → Nat) (ns : List Nat) (k : Nat) : (fmTo P f ns k).length ≤ k := by
  rw [fmTo, List.length_map]
  have := List.length_filter_le (fun j => P (ns.getD j 0)) (List.range k)
  simpa using this
theorem map_getD (ns : List Nat) : (List.range ns.length).map (fun j => ns.getD j 0) = ns := by
  apply List.ext_getElem
  · simp
  · intro i h1 h2
    simp [List.getElem?_eq_getElem h2]
theorem fmTo_all (P : Nat → Bool) (f : Nat → Nat) (ns : List Nat) : fmTo P f ns ns.length = (ns.filter P).map f := by
  have h := map_getD ns
  conv => rhs; rw [← h]
  rw [List.filter_map, List.map_map]
  rfl

/-- is x what f makes of one of the first k of ns for which P holds? -/
def hasPF (P : Nat → Bool) (f : Nat → Nat) (ns : List Nat) (k x : Nat) : Bool := decide (x ∈ fmTo P f ns k)
theorem hasPF_yes {P : Nat → Bool} {f : Nat → Nat} {ns : List Nat} {k : Nat} (h : P (ns.getD k 0) = true) (x : Nat) : hasPF P f ns (k + 1) x = (decide (x = f (ns.getD k 0)) || hasPF P f ns k x) := by
  rw [hasPF, fmTo_yes h, hasPF, Bool.or_comm]
  simp [Bool.decide_or]
theorem hasPF_no {P : Nat → Bool} {f : Nat → Nat} {ns : List Nat} {k : Nat} (h : P (ns.getD k 0) = false) : hasPF P f ns (k + 1) = hasPF P f ns k := by
  funext x
  rw [hasPF, fmTo_no h, hasPF]
theorem hasPF_all (P : Nat → Bool) (f : Nat → Nat) (ns : List Nat) (x : Nat) : hasPF P f ns ns.length x = decide (x ∈ (ns.filter P).map f) := by
  rw [hasPF, fmTo_all]

end Go.Proofs.YtnoppclajhfnjaaDoor

namespace Go.Proofs.YtnoppclajhfnjaaDoor
open Go.RowKit

theorem hasB_nat (ns : List Nat) (z : Nat) : hasB (toI ns) (z : Int) = decide (z ∈ ns) := by
  rw [Bool.eq_iff_iff]
  simp only [hasB, toI, decide_eq_true_eq, List.mem_map]
  constructor
  · rintro ⟨a, ha, e⟩
    have : a = z := by omega
    exact this ▸ ha
  · intro h
    exact ⟨z, h, rfl⟩

end Go.Proofs.YtnoppclajhfnjaaDoor

namespace Go.Proofs.YtnoppclajhfnjaaDoor
open Go.RowKit

theorem heap_alloc_at {w : World} {o : Obj} {k : Nat} (h : w.heap.size = k) : (w.alloc o).heap[k]? = some o := h ▸ heap_alloc_new w o
/-- block o holds a class of two cells -/
def Bx (n : Int) (v : Value) (o : Nat) (w : World) : Prop := w.heap[o]? = some (.cells #[.int .i64 n, v] 27 (0, 0))

theorem Bx.lt {n : Int} {v : Value} {o : Nat} {w : World} (h : Bx n v o w) : o < w.heap.size := (Array.getElem?_eq_some_iff.1 h).1
theorem Bx.out {n : Int} {v : Value} {o : Nat} {w : World} (h : Bx n v o w) : Out n v o w :=
  ⟨by simp [World.cell?, show w.heap[o]? = _ from h], by simp [World.cell?, show w.heap[o]? = _ from h], by simp [World.frozen?, show w.heap[o]? = _ from h], by simp [World.frozen?, show w.heap[o]? = _ from h]⟩
theorem Bx.new (n : Int) (v : Value) (w : World) : Bx n v w.heap.size (w.alloc (.cells #[.int .i64 n, v] 27)) := heap_alloc_new w _
theorem Bx.kept {n : Int} {v : Value} {o : Nat} {r : Option Nat} {w w' : World} (h : Bx n v o w) (hg : w.grownBy w' r) (hne : some o ≠ r) : Bx n v o w' := (hg.block o h.lt hne).trans h
theorem Bx.alloc {n : Int} {v : Value} {o : Nat} {w : World} (h : Bx n v o w) (x : Obj) : Bx n v o (w.alloc x) := h.kept (World.grownBy_alloc w x none) (by simp)
theorem Bx.next {n : Int} {v : Value} {o B : Nat} {w w' : World} (h : Bx n v o w) (hb : Below B w w') (ho : o < B) : Bx n v o w' := (hb.block o ho).trans h
theorem Bx.drewN {n : Int} {v : Value} {o : Nat} {w : World} (h : Bx n v o w) (q : Nat) : Bx n v o (w.drewN q) := h
theorem Bx.set {n : Int} {v : Value} {o : Nat} {w : World} (h : Bx n v o w) (u : Value) : Bx n u o (w.setCell ⟨o, 1, none⟩ u) := by
  obtain ⟨hlt, hk⟩ := Array.getElem?_eq_some_iff.1 h
  show (w.heap.modify o _)[o]? = _
  rw [Array.getElem?_eq_getElem (by rw [Array.size_modify]; exact hlt), Array.getElem_modify_self, hk]
  rfl
theorem Bx.setN {n : Int} {v : Value} {o : Nat} {w : World} (h : Bx n v o w) (m : Int) : Bx m v o (w.setCell ⟨o, 0, none⟩ (.int .i64 m)) := by
  obtain ⟨hlt, hk⟩ := Array.getElem?_eq_some_iff.1 h
  show (w.heap.modify o _)[o]? = _
  rw [Array.getElem?_eq_getElem (by rw [Array.size_modify]; exact hlt), Array.getElem_modify_self, hk]
  rfl
theorem Bx.other {n : Int} {v : Value} {o p j : Nat} {w : World} (h : Bx n v o w) (hne : o ≠ p) (u : Value) : Bx n v o (w.setCell ⟨p, j, none⟩ u) := by
  show (w.setCell ⟨p, j, none⟩ u).heap[o]? = _
  rw [Below.heap_setCell _ _ _ _ hne]
  exact h
theorem Bx.not_row {n : Int} {u : Value} {o B : Nat} {w : World} (h : Bx n u o w) {v : Value} {xs : List Int} (hr : Ints B w v xs) : some o ≠ v.ownBlock := by
  rcases hr.2 with ⟨rfl, _⟩ | ⟨g, cap, cur, rfl, _, hgb, _⟩
  · simp [Value.ownBlock]
  · intro e'
    obtain rfl : o = g := by simpa [Value.ownBlock] using e'
    have := (show w.heap[o]? = _ from h).symm.trans hgb
    simp at this
theorem Ints.bx {B : Nat} {w : World} {v : Value} {xs : List Int} (h : Ints B w v xs) {n : Int} {u : Value} {o : Nat} (hb : Bx n u o w) (j : Nat) (x : Value) : Ints B (w.setCell ⟨o, j, none⟩ x) v xs :=
  ownsRow_setCell_other h (fun e => hb.not_row h e.symm) x

end Go.Proofs.YtnoppclajhfnjaaDoor
