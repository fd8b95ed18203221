/- The program's ShiftClass. Conditions: Sets is a slice of ints. -/
import Derived.Test.YtnmilfkocheaiaaGreatDoorZH
namespace Go.Proofs.YtnmilfkocheaiaaGreatDoor
open Go.RowKit

/-- a set without x -/
def low (x s : Nat) : Nat := if hasX x s = true then s - 2 ^ x else s
theorem low_le (x s : Nat) : low x s ≤ s := by
  unfold low
  split
  · exact Nat.sub_le _ _
  · exact Nat.le_refl _
/-- what becomes of s -/
def shs (x : Nat) (ns : List Nat) (s : Nat) : Nat := if low x s ∈ ns then s else low x s
theorem shs_le (x : Nat) (ns : List Nat) (s : Nat) : shs x ns s ≤ s := by
  unfold shs
  have := low_le x s
  split <;> omega
theorem shs_bits {x s : Nat} (hx : x < 5) (hs : s < 32) : bits .andNot .i64 (s : Int) ((2 : Int) ^ x) = ((low x s : Nat) : Int) := by
  have key : ∀ x : Fin 5, ∀ s : Fin 32, bits .andNot .i64 ((s : Nat) : Int) ((2 : Int) ^ (x : Nat)) = ((low x s : Nat) : Int) := by decide +kernel
  exact key ⟨x, hx⟩ ⟨s, hs⟩
theorem low_ge {x s : Nat} (h : hasX x s = true) : 2 ^ x ≤ s := by
  simp only [hasX, decide_eq_true_eq] at h
  rcases Nat.lt_or_ge s (2 ^ x) with h2 | h2
  · rw [Nat.div_eq_of_lt h2] at h
    omega
  · exact h2
theorem low_has (x s : Nat) : hasX x (low x s) = false := by
  unfold low
  split
  · rename_i h
    have h2 := low_ge h
    simp only [hasX, decide_eq_true_eq, decide_eq_false_iff_not] at *
    obtain ⟨t, rfl⟩ := Nat.exists_eq_add_of_le h2
    have hp : 0 < 2 ^ x := Nat.two_pow_pos x
    rw [Nat.add_sub_cancel_left]
    rw [Nat.add_div_left _ hp] at h
    omega
  · rename_i h
    exact Bool.eq_false_iff.2 h
theorem low_of {x s : Nat} (h : hasX x s = false) : low x s = s := by rw [low, if_neg (by simp [h])]
theorem low_inj {x s t : Nat} (hs : hasX x s = true) (ht : hasX x t = true) (e : low x s = low x t) : s = t := by
  have h1 := low_ge hs
  have h2 := low_ge ht
  simp only [low, hs, ht, if_true] at e
  omega
theorem shs_has {x s : Nat} {ns : List Nat} (h : hasX x (shs x ns s) = true) : shs x ns s = s := by
  unfold shs at *
  split
  · rfl
  · rename_i h2
    rw [if_neg h2, low_has] at h
    cases h

/-- what is a key behind k rounds -/
def shK (x : Nat) (ns : List Nat) (k : Nat) (y : Nat) : Bool := decide (y ∈ (ns.take k).map (shs x ns) ++ ns.drop k)
theorem shK_all (x : Nat) (ns : List Nat) (y : Nat) : shK x ns ns.length y = decide (y ∈ ns.map (shs x ns)) := by simp [shK]

theorem shK_step (x : Nat) {ns : List Nat} {k : Nat} (ha : ns.Pairwise (· < ·)) (hk : k < ns.length) :
    (shK x ns k (low x (ns.getD k 0)) = true → shK x ns (k + 1) = shK x ns k) ∧
    (shK x ns k (low x (ns.getD k 0)) = false → shK x ns (k + 1) = fun y => decide (y = low x (ns.getD k 0)) || (!decide (y = ns.getD k 0) && shK x ns k y)) := by
  have e1 : ns.take (k + 1) = ns.take k ++ [ns.getD k 0] := by
    rw [List.take_add_one, List.getElem?_eq_getElem hk, List.getD_eq_getElem?_getD, List.getElem?_eq_getElem hk]; rfl
  have e2 : ns.drop k = ns.getD k 0 :: ns.drop (k + 1) := by
    rw [List.drop_eq_getElem_cons hk, List.getD_eq_getElem?_getD, List.getElem?_eq_getElem hk]; rfl
  have e3 : ns = ns.take k ++ ns.getD k 0 :: ns.drop (k + 1) := by rw [← e2, List.take_append_drop]
  have hnd : ∀ t, t ∈ ns.take k → t ≠ ns.getD k 0 := by
    intro t ht
    rw [e3, List.pairwise_append] at ha
    have := ha.2.2 t ht (ns.getD k 0) (by simp)
    omega
  have hnd2 : ∀ t, t ∈ ns.drop (k + 1) → t ≠ ns.getD k 0 := by
    intro t ht
    rw [e3, List.pairwise_append] at ha
    have := (List.pairwise_cons.1 ha.2.1).1 t ht
    omega
  have hin : ∀ t, t ∈ ns ↔ t ∈ ns.take k ∨ t = ns.getD k 0 ∨ t ∈ ns.drop (k + 1) := by
    intro t
    conv => lhs; rw [e3]
    simp
  have hshK : ∀ y, shK x ns k y = true ↔ (∃ t, t ∈ ns.take k ∧ shs x ns t = y) ∨ y = ns.getD k 0 ∨ y ∈ ns.drop (k + 1) := by
    intro y
    simp only [shK, e2, decide_eq_true_eq, List.mem_append, List.mem_map, List.mem_cons]
  have hshK1 : ∀ y, shK x ns (k + 1) y = true ↔ (∃ t, t ∈ ns.take k ∧ shs x ns t = y) ∨ y = shs x ns (ns.getD k 0) ∨ y ∈ ns.drop (k + 1) := by
    intro y
    simp only [shK, e1, List.map_append, List.map_cons, List.map_nil, decide_eq_true_eq, List.mem_append, List.mem_map, List.mem_cons, List.not_mem_nil, or_false]
    rw [or_assoc]
  generalize ns.getD k 0 = s at *
  -- lower is a key exactly if it is one of ns
  have hkey : shK x ns k (low x s) = true ↔ low x s ∈ ns := by
    rw [hshK, hin]
    constructor
    · rintro (⟨t, ht, e⟩ | h)
      · by_cases h2 : low x t ∈ ns
        · rw [shs, if_pos h2] at e
          subst e
          exact .inl ht
        · rw [shs, if_neg h2] at e
          rw [e] at h2
          have hl := (show ¬ _ from fun h => h2 ((hin (low x s)).2 h))
          exfalso
          by_cases hs : hasX x s = true
          · by_cases htx : hasX x t = true
            · exact hnd t ht (low_inj htx hs e)
            · rw [Bool.not_eq_true] at htx
              rw [low_of htx] at e
              exact hl (.inl (e ▸ ht))
          · rw [Bool.not_eq_true] at hs
            exact hl (.inr (.inl (low_of hs)))
      · exact .inr h
    · rintro (h | h)
      · refine .inl ⟨low x s, h, ?_⟩
        rw [shs, low_of (low_has x s), if_pos ((hin _).2 (.inl h))]
      · exact .inr h
  refine ⟨fun h => ?_, fun h => ?_⟩
  · funext y
    have hs : shs x ns s = s := by rw [shs, if_pos (hkey.1 h)]
    rw [Bool.eq_iff_iff, hshK1, hshK, hs]
  · have h' : ¬ low x s ∈ ns := fun hh => by rw [hkey.2 hh] at h; cases h
    have hs : shs x ns s = low x s := by rw [shs, if_neg h']
    have hsx : hasX x s = true := by
      by_cases hh : hasX x s = true
      · exact hh
      · rw [Bool.not_eq_true] at hh
        exact absurd ((hin _).2 (.inr (.inl (low_of hh)))) h'
    funext y
    rw [Bool.eq_iff_iff, hshK1, hs]
    simp only [Bool.or_eq_true, Bool.and_eq_true, decide_eq_true_eq, Bool.not_eq_true', decide_eq_false_iff_not, hshK]
    constructor
    · rintro (⟨t, ht, e⟩ | h2 | h2)
      · refine .inr ⟨?_, .inl ⟨t, ht, e⟩⟩
        intro e2
        have : hasX x (shs x ns t) = true := by rw [e, e2]; exact hsx
        have h3 := shs_has this
        exact hnd t ht (by rw [← h3, e, e2])
      · exact .inl h2
      · exact .inr ⟨hnd2 y h2, .inr (.inr h2)⟩
    · rintro (h2 | ⟨h1, h2 | h2 | h2⟩)
      · exact .inr (.inl h2)
      · exact .inl h2
      · exact absurd h2 h1
      · exact .inr (.inr h2)

def shN (n : Int) (zs : List Int) (x : Int) : Int := if ptB n zs x = true then n else 0
def shL (n : Int) (zs : List Int) (x : Int) : List Int := if ptB n zs x = true then toI (tidyL ((zs.map Int.toNat).map (shs x.toNat (zs.map Int.toNat)))) else []
theorem shL_len (n : Int) (zs : List Int) (x : Int) : (shL n zs x).length ≤ 1048576 := by
  unfold shL
  split
  · rw [toI_length]
    have := flt_length (fun p => decide (p ∈ (zs.map Int.toNat).map (shs x.toNat (zs.map Int.toNat))))
    unfold tidyL
    omega
  · simp

set_option maxHeartbeats 1600000 in
set_option maxRecDepth 100000 in
theorem implShiftClass (n : Int) (v : Value) (zs : List Int) (s : Int) (w : World) (h : Rd w v zs) :
    Calls Tryz.prog 114 #[.agg #[.int .i64 n, v], .int .i64 s] w (RetClass (shN n zs s) (shL n zs s) w) := by
  have H := Lib.hid h
  obtain ⟨a, b, off, cap, rfl, h1, h3, h5⟩ := h
  by_cases hv : ptB n zs s = true
  · obtain ⟨m, t, ns, rfl, rfl, rfl, hc, ht, hm, hv0⟩ := ptB_nat hv
    have HN := Lib.hid (show shN m (toI ns) t = (m : Int) by rw [shN, if_pos hv])
    have HT := Lib.hid (show shL m (toI ns) t = toI (tidyL (ns.map (shs t ns))) by rw [shL, if_pos hv, toNat_toI, Int.toNat_natCast])
    have HR := Lib.hid (range_tidy hm (l := ns.map (shs t ns)) (by
      intro x hx
      obtain ⟨y, hy, rfl⟩ := List.mem_map.1 hx
      exact Nat.lt_of_le_of_lt (shs_le t ns y) (hc.lt y hy)))
    have HC := Lib.hid hc
    have hl := hc.length
    have HV := Lib.hid hv
    rw [toI_length] at h1 h3 h5 H ⊢
    have H5 := Lib.hid h5
    have H1 := Lib.hid h1
    have hmm := @run_makeMap Tryz.prog
    have OB := Lib.hid (show Out m (.slice a ns.length cap) w.heap.size ((w.alloc (Obj.cells #[.int .i64 (m : Int), .slice a ns.length cap] 47)).alloc (Obj.cells #[.int .i64 0, .slice none 0 0] 47)) from ⟨by simp [go_sem], by simp [go_sem], by simp [go_sem], by simp [go_sem]⟩)
    have OR := Lib.hid (show Out 0 (.slice none 0 0) (w.heap.size + 1) ((w.alloc (Obj.cells #[.int .i64 (m : Int), .slice a ns.length cap] 47)).alloc (Obj.cells #[.int .i64 0, .slice none 0 0] 47)) from ⟨by simp [go_sem], by simp [go_sem], by simp [go_sem], by simp [go_sem]⟩)
    clear hv hv0 hc h1 h5
    go_enter Tryz.func114, Tryz.ntmps114
    go_wp2_with fail
    refine (implIsPointOf m _ (toI ns) t _ (H.out.below (k := w.heap.size) (by go_grown) (Nat.le_refl _))).mono ?_
    rintro e w1 ⟨rfl, hb⟩
    rw [HV.out]
    have hs1 : w.heap.size + 1 < w1.heap.size := by have := hb.size; simp at this; omega
    have OB1 := Lib.hid (OB.out.next hb (by simp only [World.size_alloc]; omega))
    have OR1 := Lib.hid (OR.out.next hb (by simp only [World.size_alloc]; omega))
    have HB1 := Lib.hid (show Below w.heap.size w w1 from Below.trans (by go_grown) (hb.mono (by simp; omega)))
    clear hb
    have c0 := OB1.out.at0
    have c1 := OB1.out.at1
    go_wp2_with fail
    refine (implKeysOf m _ ns _ ((H.out.below HB1.out (Nat.le_refl _))) hl HC.out.lt32).mono ?_
    rintro e w2 ⟨rfl, hk0, hb2⟩
    clear c0 c1
    have hs2 : w1.heap.size ≤ w2.heap.size := hb2.size
    have hs2' : w1.heap.size + 1 < w2.heap.size := hk0.lt
    have K0 := Lib.hid hk0
    have OB2 := Lib.hid (OB1.out.next hb2 (by omega))
    have OR2 := Lib.hid (OR1.out.next hb2 (by omega))
    have HB12 := Lib.hid hb2
    clear hk0 hb2
    have c0 := OB2.out.at0
    have c1 := OB2.out.at1
    go_wp2_with fail
    clear c0 c1
    go_loopw [19] (fun i wr => ∃ k : Nat, k ≤ ns.length ∧ i = .int .i64 k ∧ Keys wr (w1.heap.size + 1) (32 + k) (shK t ns k) ∧ Below w1.heap.size w1 wr ∧ w1.heap.size + 1 < wr.heap.size) (fun i _ => ns.length - (intOf i).toNat)
    case atStart => exact ⟨0, Nat.zero_le _, rfl, K0.out.congr (fun y _ => by simp [shK]), HB12.out, hs2'⟩
    case round =>
      obtain ⟨k, hk, rfl, hks, hbe, hsr⟩ := hrel
      have HK := Lib.hid hks
      have HBE := Lib.hid hbe
      clear hks hbe
      by_cases hlt : k < ns.length
      · obtain ⟨rfl, hbl⟩ := H1.out (by omega)
        have hcx := (HBE.out.cell (p := ⟨b, off + k, none⟩) (by show b < w1.heap.size; omega)).trans ((HB1.out.cell (p := ⟨b, off + k, none⟩) hbl).trans (H5.out k (by omega)))
        rw [toI_getD] at hcx
        have hx := HC.out.lt32 _ (getD_of_lt hlt)
        have HST := Lib.hid (shK_step t HC.out.asc hlt)
        generalize ns.getD k 0 = x at *
        have hp2 := two_pow_le t (by omega)
        have han := shs_bits (x := t) (by omega) hx
        have hlo : low t x < 32 := Nat.lt_of_le_of_lt (low_le t x) hx
        have hlook := HK.out.look (low t x) (by omega)
        by_cases hq : shK t ns k (low t x) = true
        · have HF := Lib.hid (HST.out.1 hq)
          rw [hq] at hlook
          clear hq
          generalize low t x = y at *
          go_wp2_with fail
          go_roundw
          case rel => exact ⟨k + 1, by omega, by go_num, (HK.out.mono (by omega)).congr (fun y _ => by rw [HF.out]), HBE.out, hsr⟩
          case measure => simp [intOf]; omega
        · rw [Bool.not_eq_true] at hq
          have HF := Lib.hid (HST.out.2 hq)
          rw [hq] at hlook
          clear hq
          generalize low t x = y at *
          go_wp2_with (first
            | (at_delete; refine wpList_keys_del _ rfl (.tmp 31) (.tmp 32) rfl (w1.heap.size + 1) (32 + k) _ rfl HK.out x (by omega) rfl ?_; intro w3 hk3 hg3; have HK3 := Lib.hid hk3; have HB3 := Lib.hid (HBE.out.grown hg3 HBE.out.size (fun j hj => by cases hj; omega)); have hz3 : wr.heap.size ≤ w3.heap.size := hg3.size; clear hk3 hg3)
            | (at_mapUpdate; refine wpList_keys_put _ rfl (.tmp 33) (.tmp 34) _ rfl (w1.heap.size + 1) (32 + k) _ rfl HK3.out (by omega) y (by omega) rfl rfl ?_; intro w4 hk4 hg4; have HK4 := Lib.hid hk4; have HB4 := Lib.hid (HB3.out.grown hg4 HB3.out.size (fun j hj => by cases hj; omega)); have hz4 : w3.heap.size ≤ w4.heap.size := hg4.size; clear hk4 hg4))
          go_roundw
          case rel => exact ⟨k + 1, by omega, by go_num, HK4.out.congr (fun y _ => by rw [HF.out]), HB4.out, by omega⟩
          case measure => simp [intOf]; omega
      · obtain rfl : k = ns.length := by omega
        have OB3 := Lib.hid (OB1.out.next HBE.out (by omega))
        have OR3 := Lib.hid (OR1.out.next HBE.out hs1)
        have d0 := OB3.out.at0
        have d1 := OB3.out.at1
        have HKK := Lib.hid (HK.out.congr (fun y _ => shK_all t ns y))
        go_wp2_with fail
        refine (implClassOf m hm _ _ _ _ HKK.out).mono ?_
        rintro e w4 ⟨a4, c4, rfl, hin4, hb4⟩
        rw [HR.out] at hin4 ⊢
        have hz4 := hb4.size
        have hz2 := HBE.out.size
        have OR4 := Lib.hid (OR3.out.next hb4 (by omega))
        have HIN := Lib.hid hin4
        have HB4 := Lib.hid (show Below w.heap.size w w4 from (HB1.out.trans (HBE.out.mono (by omega))).trans (hb4.mono (by omega)))
        clear hin4 hb4 d0 d1
        have r0 := OR4.out.at0
        have r1 := OR4.out.at1
        have q0 := OR4.out.free0
        have q1 := OR4.out.free1
        go_wp2_with fail
        refine bodyPost_ret (v := .agg #[.int .i64 (m : Int), .slice a4 (toI (tidyL (ns.map (shs t ns)))).length c4]) (by simp [results, Tryz.results114, go_sem, r0, r1]) rfl ?_
        rw [HN.out, HT.out]
        refine ⟨a4, c4, rfl, ?_, ?_⟩
        · refine Ints.mono (B := _) ?_ (show w.heap.size ≤ wr.heap.size by omega)
          repeat (refine Ints.setCell_below ?_ (by simp; omega) _)
          exact HIN.out
        · have hb0 := HB4.out
          clear r0 r1 q0 q1
          go_grown
  · have HN := Lib.hid (show shN n zs s = 0 by rw [shN, if_neg hv])
    have HT := Lib.hid (show shL n zs s = [] by rw [shL, if_neg hv])
    rw [Bool.not_eq_true] at hv
    have HV := Lib.hid hv
    clear hv
    go_enter Tryz.func114, Tryz.ntmps114
    go_wp2_with fail
    refine (implIsPointOf n _ zs s _ (H.out.below (k := w.heap.size) (by go_grown) (Nat.le_refl _))).mono ?_
    rintro e w1 ⟨rfl, hb⟩
    rw [HV.out]
    obtain ⟨hc, hf⟩ := bcell hb
    have Hb := Lib.hid hb
    clear hb
    go_wp2_with fail
    refine bodyPost_ret (v := .agg #[.int .i64 0, .slice none 0 0]) (by simp [results, Tryz.results114, go_sem, hc]) rfl ?_
    rw [HN.out, HT.out]
    refine ⟨none, 0, rfl, Ints.nil _ _, ?_⟩
    have hb0 : Below w.heap.size w w1 := Below.trans (by go_grown) (Hb.out.mono (by simp; omega))
    clear hc hf
    go_grown

end Go.Proofs.YtnmilfkocheaiaaGreatDoor
