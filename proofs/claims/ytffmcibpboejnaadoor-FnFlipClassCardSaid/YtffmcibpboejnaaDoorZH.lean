/- The program's isPointOf. Conditions: Sets is a slice of ints. The program's withoutPoint and RemovePoint. Conditions: Sets is a slice of ints. The model's FlipClass. Conditions: Sets is a slice of ints. The model's drop and RemovePoint. Conditions: Sets is a slice of ints. The model's has. No conditions. Lists of what f makes of those of ns for which P holds. No conditions. Is a number among others? No conditions. A class in a block of its own: read, written, and never a row of ints. No conditions. -/
import Derived.Deep.RegionWith
import Derived.OneCell
import Derived.Test.YtffmcibpboejnaaDoorZA
import Derived.Test.YtffmcibpboejnaaDoorZB
import Derived.Test.YtffmcibpboejnaaDoorZD
namespace Go.Proofs.YtffmcibpboejnaaDoor
open Go.RowKit

/-- isPointOf's answer -/
def ptB (n : Int) (zs : List Int) (x : Int) : Bool := vldB n zs && (decide (0 ≤ x) && decide (x < n))
theorem ptB_nat {n : Int} {zs : List Int} {x : Int} (h : ptB n zs x = true) : ∃ (m y : Nat) (ns : List Nat), n = m ∧ x = y ∧ zs = toI ns ∧ Cls m ns ∧ y < m ∧ m ≤ 5 ∧ vldB m (toI ns) = true := by
  simp only [ptB, Bool.and_eq_true, decide_eq_true_eq] at h
  obtain ⟨h0, h1, h2⟩ := h
  obtain ⟨m, ns, rfl, rfl, hc⟩ := vldB_cls h0
  obtain ⟨y, rfl⟩ := Int.eq_ofNat_of_zero_le h1
  exact ⟨m, y, ns, rfl, rfl, rfl, hc, by omega, hc.pts, h0⟩


end Go.Proofs.YtffmcibpboejnaaDoor

namespace Go.Proofs.YtffmcibpboejnaaDoor
open Go.RowKit

/-- a set without a point, with the points behind it one less -/
def rmv (x s : Nat) : Nat := s % 2 ^ x + s / 2 ^ (x + 1) * 2 ^ x
theorem rmv_lt {m x s : Nat} (hx : x < m) (hm : m ≤ 5) (hs : s < 2 ^ m) : rmv x s < 2 ^ (m - 1) := by
  have key : ∀ m : Fin 6, ∀ x : Fin 5, ∀ s : Fin 32, (x : Nat) < m → (s : Nat) < 2 ^ (m : Nat) → rmv x s < 2 ^ ((m : Nat) - 1) := by decide +kernel
  exact key ⟨m, by omega⟩ ⟨x, by omega⟩ ⟨s, Nat.lt_of_lt_of_le hs (pow_le_32 hm)⟩ hx hs
theorem rmv_and {x s : Nat} (hx : x < 5) (hs : s < 32) : (s &&& (2 ^ x - 1)) ||| (s / 2 ^ (x + 1) * 2 ^ x) = rmv x s ∧ s / 2 ^ (x + 1) * 2 ^ x < 32 ∧ rmv x s < 32 := by
  have key : ∀ x : Fin 5, ∀ s : Fin 32, ((s : Nat) &&& (2 ^ (x : Nat) - 1)) ||| ((s : Nat) / 2 ^ ((x : Nat) + 1) * 2 ^ (x : Nat)) = rmv x s ∧ (s : Nat) / 2 ^ ((x : Nat) + 1) * 2 ^ (x : Nat) < 32 ∧ rmv x s < 32 := by decide +kernel
  exact key ⟨x, hx⟩ ⟨s, hs⟩

theorem rmv_bits {x s : Nat} (hx : x < 5) (hs : s < 32) : bits .or .i64 (bits .and .i64 (s : Int) (((2 ^ x - 1 : Nat) : Int))) (((s / 2 ^ (x + 1) * 2 ^ x : Nat) : Int)) = ((rmv x s : Nat) : Int) := by
  obtain ⟨h1, h2, _⟩ := rmv_and hx hs
  have h3 := pow_le_32 (n := x) (by omega)
  rw [i64_and s (2 ^ x - 1) (by omega) (by omega), i64_or _ _ (by have := @Nat.and_le_left s (2 ^ x - 1); omega) (by omega), h1]


def rmN (n : Int) (zs : List Int) (x : Int) : Int := if ptB n zs x = true then n - 1 else 0
def rmL (n : Int) (zs : List Int) (x : Int) : List Int := if ptB n zs x = true then toI (tidyL ((zs.map Int.toNat).map (rmv x.toNat))) else []
theorem rmL_len (n : Int) (zs : List Int) (x : Int) : (rmL n zs x).length ≤ 1048576 := by
  unfold rmL
  split
  · rw [toI_length]
    have := flt_length (fun p => decide (p ∈ (zs.map Int.toNat).map (rmv x.toNat)))
    unfold tidyL
    omega
  · simp


end Go.Proofs.YtffmcibpboejnaaDoor

namespace Go.Proofs.YtffmcibpboejnaaDoor
open Go.RowKit

theorem specFlip (a b : Nat) (ha : a < 4096) (hb : b < 4096) (w : World) :
    Calls Tryd.prog 37 #[.int .i64 a, .int .i64 b] w fun e w' => e = .returned (.int .i64 ((a ^^^ b : Nat) : Int)) ∧ w' = w := by
  have h := i64_xor a b ha hb
  go_enter Tryd.func37, Tryd.ntmps37
  go_wp2
  go_ret
  exact ⟨rfl, rfl⟩

/-- what f makes of the first k of ns -/
def mapTo (f : Nat → Nat) (ns : List Nat) (k : Nat) : List Nat := (List.range k).map (fun j => f (ns.getD j 0))
theorem mapTo_succ (f : Nat → Nat) (ns : List Nat) (k : Nat) : mapTo f ns (k + 1) = mapTo f ns k ++ [f (ns.getD k 0)] := by simp [mapTo, List.range_succ]
theorem mapTo_length (f : Nat → Nat) (ns : List Nat) (k : Nat) : (mapTo f ns k).length = k := by simp [mapTo]
theorem mapTo_all (f : Nat → Nat) (ns : List Nat) : mapTo f ns ns.length = ns.map f := by
  apply List.ext_getElem
  · simp [mapTo]
  · intro i h1 h2
    have h3 : i < ns.length := by simpa using h2
    simp [mapTo, List.getElem?_eq_getElem h3]

set_option maxHeartbeats 3200000 in
set_option maxRecDepth 100000 in
theorem specFlipClass (n : Int) (v : Value) (zs : List Int) (s : Int) (w : World) (h : Rd w v zs) :
    Calls Tryd.prog 19 #[.agg #[.int .i64 n, v], .int .i64 s] w (RetClass (flipN n zs s) (flipL n zs s) w) := by
  have H := Lib.hid h
  obtain ⟨a, b, off, cap, rfl, h1, h3, h5⟩ := h
  by_cases hv0 : vldB n zs = true
  · obtain ⟨m, ns, rfl, rfl, hc⟩ := vldB_cls hv0
    have hm := hc.pts
    by_cases hs : setB m s = true
    · obtain ⟨t, rfl, ht, ht32⟩ := setB_nat hm hs
      have hv : inB m (toI ns) t = true := by simp [inB, hv0, hs]
      have HN := Lib.hid (show flipN m (toI ns) t = m by rw [flipN, if_pos hv])
      have HT := Lib.hid (show flipL m (toI ns) t = toI (tidyL (ns.map (fun x => x ^^^ t))) by rw [flipL, if_pos hv, toNat_toI, Int.toNat_natCast])
      have HLT := Lib.hid (show ∀ x ∈ ns.map (fun x => x ^^^ t), x < 32 by
        intro x hx
        obtain ⟨y, hy, rfl⟩ := List.mem_map.1 hx
        exact Nat.xor_lt_two_pow (n := 5) (hc.lt32 y hy) ht32)
      have HC := Lib.hid hc
      have hl := hc.length
      have HV := Lib.hid hv0
      have HS := Lib.hid hs
      rw [toI_length] at h1 h3 h5 H ⊢
      have H5 := Lib.hid h5
      have H1 := Lib.hid h1
      have OB := Lib.hid (show Out m (.slice a ns.length cap) w.heap.size ((w.alloc (Obj.cells #[.int .i64 (m : Int), .slice a ns.length cap] 25)).alloc (Obj.cells #[.int .i64 0, .slice none 0 0] 25)) from ⟨by simp [go_sem], by simp [go_sem], by simp [go_sem], by simp [go_sem]⟩)
      have OR := Lib.hid (show Out 0 (.slice none 0 0) (w.heap.size + 1) ((w.alloc (Obj.cells #[.int .i64 (m : Int), .slice a ns.length cap] 25)).alloc (Obj.cells #[.int .i64 0, .slice none 0 0] 25)) from ⟨by simp [go_sem], by simp [go_sem], by simp [go_sem], by simp [go_sem]⟩)
      clear hs hv hv0 hc h1 h5
      go_enter Tryd.func19, Tryd.ntmps19
      go_wp2_with fail
      refine (specValid m _ (toI ns) _ (H.out.below (k := w.heap.size) (by go_grown) (Nat.le_refl _))).mono ?_
      rintro e w1 ⟨rfl, hb⟩
      rw [HV.out]
      have hs1 : w.heap.size + 1 < w1.heap.size := by have := hb.size; simp at this; omega
      have OB1 := Lib.hid (OB.out.next hb (by simp only [World.size_alloc]; omega))
      have OR1 := Lib.hid (OR.out.next hb (by simp only [World.size_alloc]; omega))
      have HB1 := Lib.hid (show Below w.heap.size w w1 from Below.trans (by go_grown) (hb.mono (by simp; omega)))
      clear hb
      have c0 := OB1.out.at0
      have c1 := OB1.out.at1
      go_wp2_with fail
      refine (specValidSet m hm _ _ _).mono ?_
      rintro e w2 ⟨rfl, hb2⟩
      rw [HS.out]
      have hz2 := hb2.size
      have OB2 := Lib.hid (OB1.out.next hb2 (by omega))
      have OR2 := Lib.hid (OR1.out.next hb2 hs1)
      have HB2 := Lib.hid (show Below w.heap.size w w2 from HB1.out.trans (hb2.mono (by omega)))
      clear hb2 c0 c1 OB1 OR1 HB1
      have hs2 : w.heap.size + 1 < w2.heap.size := by omega
      go_wp2_with fail
      go_loopw [5, 6] (fun o i wr => ∃ (k : Nat) (a' : Option Addr) (c' : Nat), k ≤ ns.length ∧ i = .int .i64 k ∧ o = .slice a' k c' ∧ Ints w2.heap.size wr (.slice a' k c') (toI (mapTo (fun x => x ^^^ t) ns k)) ∧ Below w2.heap.size w2 wr) (fun _ i _ => ns.length - (intOf i).toNat)
      case atStart => exact ⟨0, _, _, Nat.zero_le _, rfl, rfl, Ints.lit' (by simp) (by simp), by go_grown⟩
      case round =>
        obtain ⟨k, a', c', hk, rfl, rfl, hin, hbe⟩ := hrel
        have HIN := Lib.hid hin
        have HBE := Lib.hid hbe
        have hz := hbe.size
        clear hin hbe
        have OB3 := Lib.hid (OB2.out.next HBE.out (by omega))
        have d0 := OB3.out.at0
        have d1 := OB3.out.at1
        by_cases hlt : k < ns.length
        · obtain ⟨rfl, hbl⟩ := H1.out (by omega)
          have hcx := (HBE.out.cell (p := ⟨b, off + k, none⟩) (by show b < w2.heap.size; omega)).trans ((HB2.out.cell (p := ⟨b, off + k, none⟩) hbl).trans (H5.out k (by omega)))
          rw [toI_getD] at hcx
          have hx := HC.out.lt32 _ (getD_of_lt hlt)
          have HSu := Lib.hid (mapTo_succ (fun x => x ^^^ t) ns k)
          have HAl := Lib.hid (show (toI (mapTo (fun x => x ^^^ t) ns k)).length = k by rw [toI_length, mapTo_length])
          generalize ns.getD k 0 = x at *
          generalize mapTo (fun x => x ^^^ t) ns k = A at *
          go_wp2_with fail
          refine (specFlip x t (by omega) (by omega) _).mono ?_
          rintro e w3 ⟨rfl, rfl⟩
          generalize x ^^^ t = z at *
          go_wp2_with (at_builtin; refine wpList_app rfl (.tmp 25) (.tmp 33) rfl w2.heap.size _ (toI A) rfl (by exact HIN.out.alloc _) _ _ _ [(z : Int)] rfl (src_cell (by rw [World.cell?_alloc_at _ _ _ _ rfl]; rfl)) (by rw [HAl.out]; omega) (by simp; omega) ?_; intro a1 c1 w4 hin4 hb4 hg4; rw [HAl.out] at hin4; have I4 := Lib.hid hin4; have B4 := Lib.hid (HBE.out.trans (Below.trans ((Below.refl _ _).alloc (by omega) _) hb4)); clear hin4 hb4 hg4; rw [HAl.out])
          go_roundw
          case rel => exact ⟨k + 1, a1, c1, by omega, by go_num, rfl, by rw [HSu.out, toI_append]; exact I4.out, B4.out⟩
          case measure => simp [intOf]; omega
        · obtain rfl : k = ns.length := by omega
          have OR3 := Lib.hid (OR2.out.next HBE.out hs2)
          have HA := Lib.hid (mapTo_all (fun x => x ^^^ t) ns)
          rw [HA.out] at HIN
          have HTD := Lib.hid (fun w h => specTidy (.slice a' ns.length c') (ns.map (fun x => x ^^^ t)) w HLT.out (by rw [List.length_map]; omega) h)
          have HZ := Lib.hid (show w.heap.size + 1 < wr.heap.size by omega)
          generalize tidyL (ns.map (fun x => x ^^^ t)) = L at *
          have HLl := Lib.hid (toI_length L)
          clear OR2
          have r0 := OR3.out.at0
          have r1 := OR3.out.at1
          have q0 := OR3.out.free0
          have q1 := OR3.out.free1
          go_wp2_with fail
          go_region_with (go_at_call 38; refine (HTD.out _ (Rd.below HIN.out.rd (k := wr.heap.size) (by first | exact Below.refl _ _ | exact (Below.refl _ _).drew) (Nat.le_refl _))).mono ?_; rintro e w4 ⟨a4, c4, rfl, hin4, hb4⟩; have hb34 : Below wr.heap.size wr w4 := Below.trans (by first | exact Below.refl _ _ | exact (Below.refl _ _).drew) hb4; have I4 := Lib.hid (show Ints wr.heap.size w4 _ _ from hin4); have OB4 := Lib.hid (OB3.out.next hb34 (by have := HZ.out; omega)); have OR4 := Lib.hid (OR3.out.next hb34 HZ.out); have B4 := Lib.hid (show Below w.heap.size w w4 from (HB2.out.trans (HBE.out.mono (by omega))).trans (hb34.mono (by have := HZ.out; omega))); clear hin4 hb4 hb34; rw [HLl.out] at I4 ⊢; have b0 := OB4.out.at0; have s0 := OR4.out.at0; have s1 := OR4.out.at1; have p0 := OR4.out.free0; have p1 := OR4.out.free1)
          all_goals
            go_wp2_with fail
            refine bodyPost_ret (v := .agg #[.int .i64 (m : Int), .slice a4 L.length c4]) (by simp [results, Tryd.results19, go_sem, s0, s1]) rfl ?_
            rw [HN.out, HT.out]
            refine ⟨a4, c4, by rw [HLl.out], ?_, ?_⟩
            · rw [HLl.out]
              refine Ints.mono (B := wr.heap.size) ?_ (by have := HZ.out; omega)
              repeat (refine Ints.setCell_below ?_ (by have := HZ.out; simp; omega) _)
              exact I4.out
            · have hb0 := B4.out
              clear r0 r1 q0 q1 b0 s0 s1 p0 p1
              go_grown
    · have hv : inB m (toI ns) s = false := by simp [inB, hv0, hs]
      have HN := Lib.hid (show flipN m (toI ns) s = 0 by rw [flipN, hv]; rfl)
      have HT := Lib.hid (show flipL m (toI ns) s = [] by rw [flipL, hv]; rfl)
      rw [Bool.not_eq_true] at hs
      have HV := Lib.hid hv0
      have HS := Lib.hid hs
      rw [toI_length] at h1 h3 h5 H ⊢
      have OB := Lib.hid (show Out m (.slice a ns.length cap) w.heap.size ((w.alloc (Obj.cells #[.int .i64 (m : Int), .slice a ns.length cap] 25)).alloc (Obj.cells #[.int .i64 0, .slice none 0 0] 25)) from ⟨by simp [go_sem], by simp [go_sem], by simp [go_sem], by simp [go_sem]⟩)
      have OR := Lib.hid (show Out 0 (.slice none 0 0) (w.heap.size + 1) ((w.alloc (Obj.cells #[.int .i64 (m : Int), .slice a ns.length cap] 25)).alloc (Obj.cells #[.int .i64 0, .slice none 0 0] 25)) from ⟨by simp [go_sem], by simp [go_sem], by simp [go_sem], by simp [go_sem]⟩)
      clear hs hv hv0 hc h1 h5
      go_enter Tryd.func19, Tryd.ntmps19
      go_wp2_with fail
      refine (specValid m _ (toI ns) _ (H.out.below (k := w.heap.size) (by go_grown) (Nat.le_refl _))).mono ?_
      rintro e w1 ⟨rfl, hb⟩
      rw [HV.out]
      have hs1 : w.heap.size + 1 < w1.heap.size := by have := hb.size; simp at this; omega
      have OB1 := Lib.hid (OB.out.next hb (by simp only [World.size_alloc]; omega))
      have OR1 := Lib.hid (OR.out.next hb (by simp only [World.size_alloc]; omega))
      have HB1 := Lib.hid (show Below w.heap.size w w1 from Below.trans (by go_grown) (hb.mono (by simp; omega)))
      clear hb
      have c0 := OB1.out.at0
      have c1 := OB1.out.at1
      go_wp2_with fail
      refine (specValidSet m hm _ _ _).mono ?_
      rintro e w2 ⟨rfl, hb2⟩
      rw [HS.out]
      have OR2 := Lib.hid (OR1.out.next hb2 hs1)
      have HB2 := Lib.hid (show Below w.heap.size w w2 from HB1.out.trans (hb2.mono (by omega)))
      clear hb2 c0 c1 OB1 OR1 HB1
      have r0 := OR2.out.at0
      have r1 := OR2.out.at1
      have q0 := OR2.out.free0
      have q1 := OR2.out.free1
      go_wp2_with fail
      refine bodyPost_ret (v := .agg #[.int .i64 0, .slice none 0 0]) (by simp [results, Tryd.results19, go_sem, r0, r1]) rfl ?_
      rw [HN.out, HT.out]
      refine ⟨none, 0, rfl, Ints.nil _ _, ?_⟩
      have hb0 := HB2.out
      clear r0 r1 q0 q1
      go_grown
  · have hv : inB n zs s = false := by simp [inB, hv0]
    have HN := Lib.hid (show flipN n zs s = 0 by rw [flipN, hv]; rfl)
    have HT := Lib.hid (show flipL n zs s = [] by rw [flipL, hv]; rfl)
    rw [Bool.not_eq_true] at hv0
    have HV := Lib.hid hv0
    clear hv hv0
    go_enter Tryd.func19, Tryd.ntmps19
    go_wp2_with fail
    refine (specValid n _ zs _ (H.out.below (k := w.heap.size) (by go_grown) (Nat.le_refl _))).mono ?_
    rintro e w1 ⟨rfl, hb⟩
    rw [HV.out]
    obtain ⟨hc, hf⟩ := bcell hb
    have Hb := Lib.hid hb
    clear hb
    go_wp2_with fail
    refine bodyPost_ret (v := .agg #[.int .i64 0, .slice none 0 0]) (by simp [results, Tryd.results19, go_sem, hc]) rfl ?_
    rw [HN.out, HT.out]
    refine ⟨none, 0, rfl, Ints.nil _ _, ?_⟩
    have hb0 : Below w.heap.size w w1 := Below.trans (by go_grown) (Hb.out.mono (by simp; omega))
    clear hc hf
    go_grown

end Go.Proofs.YtffmcibpboejnaaDoor

namespace Go.Proofs.YtffmcibpboejnaaDoor
open Go.RowKit

theorem power_g (n : Int) (h0 : 0 ≤ n) (h1 : n ≤ 12) (w : World) :
    Calls Tryd.prog 47 #[.int .i64 n] w fun e w' => e = .returned (.int .i64 (2 ^ n.toNat)) ∧ w' = w :=
  (specPower _ _ h0 h1).mono fun _ _ ⟨he, hw⟩ => ⟨he, hw.symm⟩




end Go.Proofs.YtffmcibpboejnaaDoor

namespace Go.Proofs.YtffmcibpboejnaaDoor
open Go.RowKit

/-- is the point x in the set s? -/
def hasX (x s : Nat) : Bool := decide (s / 2 ^ x % 2 = 1)

set_option maxHeartbeats 800000 in
theorem specHas (s x : Nat) (hs : s < 4096) (hx : x < 5) (w : World) :
    Calls Tryd.prog 73 #[.int .i64 (s : Int), .int .i64 (x : Int)] w fun e w' => e = .returned (.bool (hasX x s)) ∧ w' = w := by
  have HQ := Lib.hid (show (s : Int) / (2 : Int) ^ x = ((s / 2 ^ x : Nat) : Int) by simp)
  have hr : s / 2 ^ x < 4096 := Nat.lt_of_le_of_lt (Nat.div_le_self _ _) hs
  have HE := Lib.hid (show hasX x s = decide (s / 2 ^ x % 2 = 1) from rfl)
  have hp := two_pow_le x (by omega)
  go_enter Tryd.func73, Tryd.ntmps73
  go_wp2_with fail
  refine (power_q x (by omega) _).mono ?_
  rintro e w1 ⟨rfl, rfl⟩
  generalize (2 : Int) ^ x = q at *
  generalize s / 2 ^ x = r at *
  have hne : q ≠ 0 := by omega
  go_wp2_with fail
  go_ret
  exact ⟨ret_bool (by
    rw [HE.out, HQ.out, show wrap64 (r : Int) = r by simp only [wrap64]; omega, Int.tmod_eq_emod_of_nonneg (by omega), Bool.eq_iff_iff]
    simp
    omega), rfl⟩

end Go.Proofs.YtffmcibpboejnaaDoor

namespace Go.Proofs.YtffmcibpboejnaaDoor
open Go.RowKit

/-- what f makes of those of the first k of ns for which P holds -/
def fmTo (P : Nat → Bool) (f : Nat → Nat) (ns : List Nat) (k : Nat) : List Nat := ((List.range k).filter (fun j => P (ns.getD j 0))).map (fun j => f (ns.getD j 0))
theorem fmTo_yes {P : Nat → Bool} {f : Nat → Nat} {ns : List Nat} {k : Nat} (h : P (ns.getD k 0) = true) : fmTo P f ns (k + 1) = fmTo P f ns k ++ [f (ns.getD k 0)] := by
  simp only [fmTo, List.range_succ, List.filter_append, List.map_append]
  rw [List.filter_cons_of_pos (by simpa using h)]
  rfl
theorem fmTo_no {P : Nat → Bool} {f : Nat → Nat} {ns : List Nat} {k : Nat} (h : P (ns.getD k 0) = false) : fmTo P f ns (k + 1) = fmTo P f ns k := by
  simp only [fmTo, List.range_succ, List.filter_append, List.map_append]
  rw [List.filter_cons_of_neg (by simpa using h)]
  simp
theorem fmTo_le (P : Nat → Bool) (f : Nat → Nat) (ns : List Nat) (k : Nat) : (fmTo P f ns k).length ≤ k := by
  rw [fmTo, List.length_map]
  have := List.length_filter_le (fun j => P (ns.getD j 0)) (List.range k)
  simpa using this
theorem map_getD (ns : List Nat) : (List.range ns.length).map (fun j => ns.getD j 0) = ns := by
  apply List.ext_getElem
  · simp
  · intro i h1 h2
    simp [List.getElem?_eq_getElem h2]
theorem fmTo_all (P : Nat → Bool) (f : Nat → Nat) (ns : List Nat) : fmTo P f ns ns.length = (ns.filter P).map f := by
  have h := map_getD ns
  conv => rhs; rw [← h]
  rw [List.filter_map, List.map_map]
  rfl

/-- is x what f makes of one of the first k of ns for which P holds? -/
def hasPF (P : Nat → Bool) (f : Nat → Nat) (ns : List Nat) (k x : Nat) : Bool := decide (x ∈ fmTo P f ns k)
theorem hasPF_yes {P : Nat → Bool} {f : Nat → Nat} {ns : List Nat} {k : Nat} (h : P (ns.getD k 0) = true) (x : Nat) : hasPF P f ns (k + 1) x = (decide (x = f (ns.getD k 0)) || hasPF P f ns k x) := by
  rw [hasPF, fmTo_yes h, hasPF, Bool.or_comm]
  simp [Bool.decide_or]
theorem hasPF_no {P : Nat → Bool} {f : Nat → Nat} {ns : List Nat} {k : Nat} (h : P (ns.getD k 0) = false) : hasPF P f ns (k + 1) = hasPF P f ns k := by
  funext x
  rw [hasPF, fmTo_no h, hasPF]
theorem hasPF_all (P : Nat → Bool) (f : Nat → Nat) (ns : List Nat) (x : Nat) : hasPF P f ns ns.length x = decide (x ∈ (ns.filter P).map f) := by
  rw [hasPF, fmTo_all]

end Go.Proofs.YtffmcibpboejnaaDoor

namespace Go.Proofs.YtffmcibpboejnaaDoor
open Go.RowKit

theorem hasB_nat (ns : List Nat) (z : Nat) : hasB (toI ns) (z : Int) = decide (z ∈ ns) := by
  rw [Bool.eq_iff_iff]
  simp only [hasB, toI, decide_eq_true_eq, List.mem_map]
  constructor
  · rintro ⟨a, ha, e⟩
    have : a = z := by omega
    exact this ▸ ha
  · intro h
    exact ⟨z, h, rfl⟩

end Go.Proofs.YtffmcibpboejnaaDoor

namespace Go.Proofs.YtffmcibpboejnaaDoor
open Go.RowKit

theorem heap_alloc_at {w : World} {o : Obj} {k : Nat} (h : w.heap.size = k) : (w.alloc o).heap[k]? = some o := h ▸ heap_alloc_new w o
/-- block o holds a class of two cells -/
def Bx (n : Int) (v : Value) (o : Nat) (w : World) : Prop := w.heap[o]? = some (.cells #[.int .i64 n, v] 25 (0, 0))

theorem Bx.lt {n : Int} {v : Value} {o : Nat} {w : World} (h : Bx n v o w) : o < w.heap.size := (Array.getElem?_eq_some_iff.1 h).1
theorem Bx.out {n : Int} {v : Value} {o : Nat} {w : World} (h : Bx n v o w) : Out n v o w :=
  ⟨by simp [World.cell?, show w.heap[o]? = _ from h], by simp [World.cell?, show w.heap[o]? = _ from h], by simp [World.frozen?, show w.heap[o]? = _ from h], by simp [World.frozen?, show w.heap[o]? = _ from h]⟩
theorem Bx.new (n : Int) (v : Value) (w : World) : Bx n v w.heap.size (w.alloc (.cells #[.int .i64 n, v] 25)) := heap_alloc_new w _
theorem Bx.kept {n : Int} {v : Value} {o : Nat} {r : Option Nat} {w w' : World} (h : Bx n v o w) (hg : w.grownBy w' r) (hne : some o ≠ r) : Bx n v o w' := (hg.block o h.lt hne).trans h
theorem Bx.alloc {n : Int} {v : Value} {o : Nat} {w : World} (h : Bx n v o w) (x : Obj) : Bx n v o (w.alloc x) := h.kept (World.grownBy_alloc w x none) (by simp)
theorem Bx.next {n : Int} {v : Value} {o B : Nat} {w w' : World} (h : Bx n v o w) (hb : Below B w w') (ho : o < B) : Bx n v o w' := (hb.block o ho).trans h
theorem Bx.drewN {n : Int} {v : Value} {o : Nat} {w : World} (h : Bx n v o w) (q : Nat) : Bx n v o (w.drewN q) := h
theorem Bx.set {n : Int} {v : Value} {o : Nat} {w : World} (h : Bx n v o w) (u : Value) : Bx n u o (w.setCell ⟨o, 1, none⟩ u) := by
  obtain ⟨hlt, hk⟩ := Array.getElem?_eq_some_iff.1 h
  show (w.heap.modify o _)[o]? = _
  rw [Array.getElem?_eq_getElem (by rw [Array.size_modify]; exact hlt), Array.getElem_modify_self, hk]
  rfl
theorem Bx.setN {n : Int} {v : Value} {o : Nat} {w : World} (h : Bx n v o w) (m : Int) : Bx m v o (w.setCell ⟨o, 0, none⟩ (.int .i64 m)) := by
  obtain ⟨hlt, hk⟩ := Array.getElem?_eq_some_iff.1 h
  show (w.heap.modify o _)[o]? = _
  rw [Array.getElem?_eq_getElem (by rw [Array.size_modify]; exact hlt), Array.getElem_modify_self, hk]
  rfl
theorem Bx.other {n : Int} {v : Value} {o p j : Nat} {w : World} (h : Bx n v o w) (hne : o ≠ p) (u : Value) : Bx n v o (w.setCell ⟨p, j, none⟩ u) := by
  show (w.setCell ⟨p, j, none⟩ u).heap[o]? = _
  rw [Below.heap_setCell _ _ _ _ hne]
  exact h
theorem Bx.not_row {n : Int} {u : Value} {o B : Nat} {w : World} (h : Bx n u o w) {v : Value} {xs : List Int} (hr : Ints B w v xs) : some o ≠ v.ownBlock := by
  rcases hr.2 with ⟨rfl, _⟩ | ⟨g, cap, cur, rfl, _, hgb, _⟩
  · simp [Value.ownBlock]
  · intro e'
    obtain rfl : o = g := by simpa [Value.ownBlock] using e'
    have := (show w.heap[o]? = _ from h).symm.trans hgb
    simp at this
theorem Ints.bx {B : Nat} {w : World} {v : Value} {xs : List Int} (h : Ints B w v xs) {n : Int} {u : Value} {o : Nat} (hb : Bx n u o w) (j : Nat) (x : Value) : Ints B (w.setCell ⟨o, j, none⟩ x) v xs :=
  ownsRow_setCell_other h (fun e => hb.not_row h e.symm) x

end Go.Proofs.YtffmcibpboejnaaDoor
