/- The program's withoutPoint and RemovePoint. Conditions: Sets is a slice of ints. -/
import Derived.Test.YtejjimfoihhcoaaFlip
import Derived.Test.YtejjimfoihhcoaaPoint
namespace Go.Proofs.Ytejjimfoihhcoaa
open Go.RowKit

/-- a set without a point, with the points behind it one less -/
def rmv (x s : Nat) : Nat := s % 2 ^ x + s / 2 ^ (x + 1) * 2 ^ x
theorem rmv_lt {m x s : Nat} (hx : x < m) (hm : m ≤ 5) (hs : s < 2 ^ m) : rmv x s < 2 ^ (m - 1) := by
  have key : ∀ m : Fin 6, ∀ x : Fin 5, ∀ s : Fin 32, (x : Nat) < m → (s : Nat) < 2 ^ (m : Nat) → rmv x s < 2 ^ ((m : Nat) - 1) := by decide +kernel
  exact key ⟨m, by omega⟩ ⟨x, by omega⟩ ⟨s, Nat.lt_of_lt_of_le hs (pow_le_32 hm)⟩ hx hs
theorem rmv_and {x s : Nat} (hx : x < 5) (hs : s < 32) : (s &&& (2 ^ x - 1)) ||| (s / 2 ^ (x + 1) * 2 ^ x) = rmv x s ∧ s / 2 ^ (x + 1) * 2 ^ x < 32 ∧ rmv x s < 32 := by
  have key : ∀ x : Fin 5, ∀ s : Fin 32, ((s : Nat) &&& (2 ^ (x : Nat) - 1)) ||| ((s : Nat) / 2 ^ ((x : Nat) + 1) * 2 ^ (x : Nat)) = rmv x s ∧ (s : Nat) / 2 ^ ((x : Nat) + 1) * 2 ^ (x : Nat) < 32 ∧ rmv x s < 32 := by decide +kernel
  exact key ⟨x, hx⟩ ⟨s, hs⟩

theorem rmv_bits {x s : Nat} (hx : x < 5) (hs : s < 32) : bits .or .i64 (bits .and .i64 (s : Int) (((2 ^ x - 1 : Nat) : Int))) (((s / 2 ^ (x + 1) * 2 ^ x : Nat) : Int)) = ((rmv x s : Nat) : Int) := by
  obtain ⟨h1, h2, _⟩ := rmv_and hx hs
  have h3 := pow_le_32 (n := x) (by omega)
  rw [i64_and s (2 ^ x - 1) (by omega) (by omega), i64_or _ _ (by have := @Nat.and_le_left s (2 ^ x - 1); omega) (by omega), h1]

set_option maxHeartbeats 800000 in
theorem implWithout (s x : Nat) (hs : s < 32) (hx : x < 5) (w : World) :
    Calls Try.prog 57 #[.int .i64 (s : Int), .int .i64 (x : Int)] w fun e w' => e = .returned (.int .i64 ((rmv x s : Nat) : Int)) ∧ w' = w := by
  have HB := Lib.hid (rmv_bits hx hs)
  have key : x = 0 ∨ x = 1 ∨ x = 2 ∨ x = 3 ∨ x = 4 := by omega
  rcases key with rfl | rfl | rfl | rfl | rfl
  · go_enter Try.func57, Try.ntmps57
    go_wp2_with fail
    go_ret
    exact ⟨ret_int (by have := HB.out; simpa using this), rfl⟩
  · go_enter Try.func57, Try.ntmps57
    go_wp2_with fail
    go_ret
    exact ⟨ret_int (by have := HB.out; simpa using this), rfl⟩
  · go_enter Try.func57, Try.ntmps57
    go_wp2_with fail
    go_ret
    exact ⟨ret_int (by have := HB.out; simpa using this), rfl⟩
  · go_enter Try.func57, Try.ntmps57
    go_wp2_with fail
    go_ret
    exact ⟨ret_int (by have := HB.out; simpa using this), rfl⟩
  · go_enter Try.func57, Try.ntmps57
    go_wp2_with fail
    go_ret
    exact ⟨ret_int (by have := HB.out; simpa using this), rfl⟩

def rmN (n : Int) (zs : List Int) (x : Int) : Int := if ptB n zs x = true then n - 1 else 0
def rmL (n : Int) (zs : List Int) (x : Int) : List Int := if ptB n zs x = true then toI (tidyL ((zs.map Int.toNat).map (rmv x.toNat))) else []
theorem rmL_len (n : Int) (zs : List Int) (x : Int) : (rmL n zs x).length ≤ 1048576 := by
  unfold rmL
  split
  · rw [toI_length]
    have := flt_length (fun p => decide (p ∈ (zs.map Int.toNat).map (rmv x.toNat)))
    unfold tidyL
    omega
  · simp

set_option maxHeartbeats 1600000 in
set_option maxRecDepth 100000 in
theorem implRemovePoint (n : Int) (v : Value) (zs : List Int) (s : Int) (w : World) (h : Rd w v zs) :
    Calls Try.prog 25 #[.agg #[.int .i64 n, v], .int .i64 s] w (RetClass (rmN n zs s) (rmL n zs s) w) := by
  have H := Lib.hid h
  obtain ⟨a, b, off, cap, rfl, h1, h3, h5⟩ := h
  by_cases hv : ptB n zs s = true
  · obtain ⟨m, t, ns, rfl, rfl, rfl, hc, ht, hm, hv0⟩ := ptB_nat hv
    have HN := Lib.hid (show rmN m (toI ns) t = (m : Int) - 1 by rw [rmN, if_pos hv])
    have HT := Lib.hid (show rmL m (toI ns) t = toI (tidyL (ns.map (rmv t))) by rw [rmL, if_pos hv, toNat_toI, Int.toNat_natCast])
    have HR := Lib.hid (range_tidy (m := m - 1) (by omega) (l := ns.map (rmv t)) (by
      intro x hx
      obtain ⟨y, hy, rfl⟩ := List.mem_map.1 hx
      exact rmv_lt ht hm (hc.lt y hy)))
    have HM := Lib.hid (show (m : Int) - 1 = ((m - 1 : Nat) : Int) by omega)
    have HC := Lib.hid hc
    have hl := hc.length
    have HV := Lib.hid hv
    rw [toI_length] at h1 h3 h5 H ⊢
    have H5 := Lib.hid h5
    have H1 := Lib.hid h1
    have hmm := @run_makeMap Try.prog
    have OB := Lib.hid (show Out m (.slice a ns.length cap) w.heap.size ((w.alloc (Obj.cells #[.int .i64 (m : Int), .slice a ns.length cap] 27)).alloc (Obj.cells #[.int .i64 0, .slice none 0 0] 27)) from ⟨by simp [go_sem], by simp [go_sem], by simp [go_sem], by simp [go_sem]⟩)
    have OR := Lib.hid (show Out 0 (.slice none 0 0) (w.heap.size + 1) ((w.alloc (Obj.cells #[.int .i64 (m : Int), .slice a ns.length cap] 27)).alloc (Obj.cells #[.int .i64 0, .slice none 0 0] 27)) from ⟨by simp [go_sem], by simp [go_sem], by simp [go_sem], by simp [go_sem]⟩)
    clear hv hv0 hc h1 h5
    go_enter Try.func25, Try.ntmps25
    go_wp2_with fail
    refine (implIsPointOf m _ (toI ns) t _ (H.out.below (k := w.heap.size) (by go_grown) (Nat.le_refl _))).mono ?_
    rintro e w1 ⟨rfl, hb⟩
    rw [HV.out]
    have hs1 : w.heap.size + 1 < w1.heap.size := by have := hb.size; simp at this; omega
    have OB1 := Lib.hid (OB.out.next hb (by simp only [World.size_alloc]; omega))
    have OR1 := Lib.hid (OR.out.next hb (by simp only [World.size_alloc]; omega))
    have HB1 := Lib.hid (show Below w.heap.size w w1 from Below.trans (by go_grown) (hb.mono (by simp; omega)))
    clear hb
    have c0 := OB1.out.at0
    have c1 := OB1.out.at1
    have cm := (OB1.out.next (show Below w1.heap.size w1 (w1.alloc (.map #[] 0)) from (Below.refl _ _).alloc (Nat.le_refl _) _) (by omega)).at1
    go_wp2_with fail
    clear c0 c1 cm
    go_loopw [17] (fun i wr => ∃ k : Nat, k ≤ ns.length ∧ i = .int .i64 k ∧ Keys wr w1.heap.size k (hasF (rmv t) ns k) ∧ Below w1.heap.size w1 wr) (fun i _ => ns.length - (intOf i).toNat)
    case atStart => exact ⟨0, Nat.zero_le _, rfl, (Keys.made w1).congr (fun _ _ => rfl), (Below.refl _ _).alloc (Nat.le_refl _) _⟩
    case round =>
      obtain ⟨k, hk, rfl, hks, hbe⟩ := hrel
      have HK := Lib.hid hks
      have HBE := Lib.hid hbe
      clear hks hbe
      by_cases hlt : k < ns.length
      · obtain ⟨rfl, hbl⟩ := H1.out (by omega)
        have hcx := (HBE.out.cell (p := ⟨b, off + k, none⟩) (by show b < w1.heap.size; omega)).trans ((HB1.out.cell (p := ⟨b, off + k, none⟩) hbl).trans (H5.out k (by omega)))
        rw [toI_getD] at hcx
        have hx := HC.out.lt32 _ (getD_of_lt hlt)
        have HS := Lib.hid (hasF_succ (rmv t) ns k)
        generalize ns.getD k 0 = x at *
        have hz : rmv t x < 32 := (rmv_and (x := t) (by omega) hx).2.2
        go_wp2_with fail
        refine (implWithout x t hx (by omega) _).mono ?_
        rintro e w9 ⟨rfl, rfl⟩
        generalize rmv t x = z at *
        go_wp2_with (at_mapUpdate; refine wpList_keys_put _ rfl (.tmp 21) (.tmp 24) _ rfl w1.heap.size k _ rfl HK.out (by omega) z (by omega) rfl rfl ?_; intro w2 hk2 hg2)
        have HK2 := Lib.hid hk2
        have HB2 := Lib.hid (HBE.out.grown hg2 HBE.out.size (fun j hj => by cases hj; omega))
        clear hk2 hg2
        go_roundw
        case rel => exact ⟨k + 1, by omega, by go_num, HK2.out.congr (fun y _ => by rw [HS.out y]), HB2.out⟩
        case measure => simp [intOf]; omega
      · obtain rfl : k = ns.length := by omega
        have OB2 := Lib.hid (OB1.out.next HBE.out (by omega))
        have OR2 := Lib.hid (OR1.out.next HBE.out hs1)
        have d0 := OB2.out.at0
        have d1 := OB2.out.at1
        have HKK := Lib.hid (HK.out.congr (fun y _ => hasF_all (rmv t) ns y))
        go_wp2_with fail
        rw [HM.out]
        refine (implClassOf (m - 1) (by omega) _ _ _ _ HKK.out).mono ?_
        rintro e w4 ⟨a4, c4, rfl, hin4, hb4⟩
        rw [HR.out] at hin4 ⊢
        have hz4 := hb4.size
        have hz2 := HBE.out.size
        have OR4 := Lib.hid (OR2.out.next hb4 (by omega))
        have HIN := Lib.hid hin4
        have HB4 := Lib.hid (show Below w.heap.size w w4 from (HB1.out.trans (HBE.out.mono (by omega))).trans (hb4.mono (by omega)))
        clear hin4 hb4 d0 d1
        have r0 := OR4.out.at0
        have r1 := OR4.out.at1
        have q0 := OR4.out.free0
        have q1 := OR4.out.free1
        go_wp2_with fail
        refine bodyPost_ret (v := .agg #[.int .i64 ((m - 1 : Nat) : Int), .slice a4 (toI (tidyL (ns.map (rmv t)))).length c4]) (by simp [results, Try.results25, go_sem, r0, r1]) rfl ?_
        rw [HN.out, HT.out, HM.out]
        refine ⟨a4, c4, rfl, ?_, ?_⟩
        · refine Ints.mono (B := _) ?_ (show w.heap.size ≤ wr.heap.size by omega)
          repeat (refine Ints.setCell_below ?_ (by simp; omega) _)
          exact HIN.out
        · have hb0 := HB4.out
          clear r0 r1 q0 q1
          go_grown
  · have HN := Lib.hid (show rmN n zs s = 0 by rw [rmN, if_neg hv])
    have HT := Lib.hid (show rmL n zs s = [] by rw [rmL, if_neg hv])
    rw [Bool.not_eq_true] at hv
    have HV := Lib.hid hv
    clear hv
    go_enter Try.func25, Try.ntmps25
    go_wp2_with fail
    refine (implIsPointOf n _ zs s _ (H.out.below (k := w.heap.size) (by go_grown) (Nat.le_refl _))).mono ?_
    rintro e w1 ⟨rfl, hb⟩
    rw [HV.out]
    obtain ⟨hc, hf⟩ := bcell hb
    have Hb := Lib.hid hb
    clear hb
    go_wp2_with fail
    refine bodyPost_ret (v := .agg #[.int .i64 0, .slice none 0 0]) (by simp [results, Try.results25, go_sem, hc]) rfl ?_
    rw [HN.out, HT.out]
    refine ⟨none, 0, rfl, Ints.nil _ _, ?_⟩
    have hb0 : Below w.heap.size w w1 := Below.trans (by go_grown) (Hb.out.mono (by simp; omega))
    clear hc hf
    go_grown

end Go.Proofs.Ytejjimfoihhcoaa
