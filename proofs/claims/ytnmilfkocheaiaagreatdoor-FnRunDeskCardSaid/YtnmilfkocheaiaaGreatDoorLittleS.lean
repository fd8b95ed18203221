/- The model's littlestone. Conditions: sets of n points, at most 32. -/
import Derived.Test.YtnmilfkocheaiaaGreatDoorTree
namespace Go.Proofs.YtnmilfkocheaiaaGreatDoor
open Go.RowKit

theorem wth_nil {x n : Nat} {l : List Nat} (hl : ∀ t ∈ l, t < 2 ^ n) (hx : n ≤ x) : wth x l = [] := by
  rw [wth, List.filter_eq_nil_iff]
  intro t ht
  have h1 := hl t ht
  have h2 : 2 ^ n ≤ 2 ^ x := Nat.pow_le_pow_right (by omega) hx
  simp only [hasX, decide_eq_true_eq]
  rw [Nat.div_eq_of_lt (by omega)]
  omega
theorem stp_skip {J C : Int → Int → Int} {D : List Nat → Int} {l : List Nat} {b : Int} {x : Nat} (h : wth x l = [] ∨ wto x l = []) : stp J C D l b x = b := by rw [stp, if_pos h]
theorem dep_fuel (J C : Int → Int → Int) (n m : Nat) (l : List Nat) (h1 : l.length ≤ n) (h2 : l.length ≤ m) : dep J C n l = dep J C m l := by
  induction n generalizing m l with
  | zero =>
    have hl := List.eq_nil_of_length_eq_zero (Nat.le_zero.1 h1)
    subst hl
    cases m with
    | zero => rfl
    | succ m => simp [dep, List.range_succ, stp, wth]
  | succ n ih =>
    cases m with
    | zero =>
      have hl := List.eq_nil_of_length_eq_zero (Nat.le_zero.1 h2)
      subst hl
      simp [dep, List.range_succ, stp, wth]
    | succ m =>
      simp only [dep]
      congr 1
      funext b x
      simp only [stp]
      by_cases e : wth x l = [] ∨ wto x l = []
      · rw [if_pos e, if_pos e]
      · have e1 : wth x l ≠ [] := fun h => e (.inl h)
        have e2 : wto x l ≠ [] := fun h => e (.inr h)
        have := split_len x l e1 e2
        rw [if_neg e, if_neg e, ih m (wth x l) (by omega) (by omega), ih m (wto x l) (by omega) (by omega)]
theorem depTo_up (J C : Int → Int → Int) (f : Nat) {n : Nat} {l : List Nat} (hl : ∀ t ∈ l, t < 2 ^ n) (k : Nat) : depTo J C f l (n + k) = depTo J C f l n := by
  induction k with
  | zero => rfl
  | succ k ih => rw [show n + (k + 1) = (n + k) + 1 from rfl, depTo_succ, stp_skip (.inl (wth_nil hl (by omega))), ih]
theorem depTo_end (J C : Int → Int → Int) {n : Nat} (hn : n ≤ 5) {l : List Nat} (hl : ∀ t ∈ l, t < 2 ^ n) : depTo J C 31 l n = dep J C 32 l := by
  have := depTo_up J C 31 hl (5 - n)
  rw [show n + (5 - n) = 5 by omega] at this
  rw [← this]
  rfl
theorem wth_pts {x n : Nat} {l : List Nat} (hl : ∀ t ∈ l, t < 2 ^ n) : ∀ t ∈ wth x l, t < 2 ^ n := fun t ht => hl t (List.mem_filter.1 ht).1
theorem wto_pts {x n : Nat} {l : List Nat} (hl : ∀ t ∈ l, t < 2 ^ n) : ∀ t ∈ wto x l, t < 2 ^ n := fun t ht => hl t (List.mem_filter.1 ht).1
theorem mst_ne {l : List Nat} (h : l ≠ []) (hl : l.length ≤ 31) : mst l = dep min max 31 l := by
  rw [mst, if_neg h]
  exact dep_fuel _ _ _ _ _ (by omega) (by omega)

set_option maxHeartbeats 3200000 in
set_option maxRecDepth 100000 in
theorem specLit_step (n N : Nat) (hn : n ≤ 5) (IH : ∀ (l : List Nat) (v : Value) (w : World), l.length < N → (∀ t ∈ l, t < 2 ^ n) → Rd w v (toI l) → Calls Tryz.prog 28 #[v, .int .i64 (n : Int)] w (fun e w' => e = .returned (.int .i64 (mst l)) ∧ Below w.heap.size w w'))
    (l : List Nat) (v : Value) (w : World) (hN : l.length ≤ N) (h32 : l.length ≤ 32) (hpt : ∀ t ∈ l, t < 2 ^ n) (h : Rd w v (toI l)) :
    Calls Tryz.prog 28 #[v, .int .i64 (n : Int)] w (fun e w' => e = .returned (.int .i64 (mst l)) ∧ Below w.heap.size w w') := by
  have H := Lib.hid h
  have HI := Lib.hid IH
  have HP := Lib.hid hpt
  have HL32 := Lib.hid (fun t ht => Nat.lt_of_lt_of_le (hpt t ht) (pow_le_32 hn))
  clear IH hpt
  obtain ⟨a, b, off, cap, rfl, _, _, _⟩ := h
  rw [toI_length] at H ⊢
  by_cases hl : l = []
  · have HM := Lib.hid (show mst l = -1 by rw [mst, if_pos hl])
    have hl0 : l.length = 0 := by rw [hl]; rfl
    rw [hl0]
    clear hl hl0
    go_enter Tryz.func28, Tryz.ntmps28
    go_wp2_with fail
    go_ret
    exact ⟨ret_int HM.out.symm, Below.refl _ _⟩
  · have HM := Lib.hid (show mst l = dep min max 32 l by rw [mst, if_neg hl])
    have hpos := List.length_pos_iff.2 hl
    have hfl : ((l.length : Int) == 0) = false := by simp; exact hl
    clear hl
    generalize hq : l.length = L at *
    have HQ := Lib.hid hq
    clear hq
    go_enter Tryz.func28, Tryz.ntmps28
    go_wp2_with fail
    go_loopw [5, 6] (fun bb i wr => ∃ k : Nat, k ≤ n ∧ i = .int .i64 k ∧ bb = .int .i64 (depTo min max 31 l k) ∧ Below w.heap.size w wr) (fun _ i _ => n - (intOf i).toNat)
    case atStart => exact ⟨0, Nat.zero_le _, rfl, rfl, Below.refl _ _⟩
    case round =>
      obtain ⟨k, hk, rfl, rfl, hbe⟩ := hrel
      obtain ⟨hb0, hb1⟩ := depTo_bdLo 31 l k
      have HBE := Lib.hid hbe
      have hz := hbe.size
      have R2 := Lib.hid (H.out.below hbe (Nat.le_refl _))
      clear hbe
      by_cases hlt : k < n
      · have HS := Lib.hid (depTo_succ min max 31 l k)
        generalize hB : depTo min max 31 l k = B at *
        clear hB
        go_wp2_with fail
        refine (specYes _ l k (by omega) HL32.out (by rw [HQ.out]; omega) _ R2.out).mono ?_
        rintro e w3 ⟨a3, c3, rfl, hin3, hb3⟩
        have hz3 := hb3.size
        have R3 := Lib.hid hin3.rd
        have R23 := Lib.hid (R2.out.below hb3 (Nat.le_refl _))
        have B3 := Lib.hid (HBE.out.trans (hb3.mono hz))
        rw [toI_length] at R3 ⊢
        clear hin3 hb3
        go_wp2_with fail
        refine (specNo _ l k (by omega) HL32.out (by rw [HQ.out]; omega) _ R23.out).mono ?_
        rintro e w4 ⟨a4, c4, rfl, hin4, hb4⟩
        have hz4 := hb4.size
        have R4 := Lib.hid hin4.rd
        have R34 := Lib.hid (R3.out.below hb4 (Nat.le_refl _))
        have B4 := Lib.hid (B3.out.trans (hb4.mono (by omega)))
        rw [toI_length] at R4 ⊢
        clear hin4 hb4
        by_cases h1 : wth k l = []
        · have HK := Lib.hid (show depTo min max 31 l (k + 1) = B by rw [HS.out, stp_skip (.inl h1)])
          have hl1 : (wth k l).length = 0 := by rw [h1]; rfl
          rw [hl1]
          clear h1 hl1
          generalize (wto k l).length = L2 at *
          go_wp2_with fail
          go_roundw
          case rel => exact ⟨k + 1, by omega, by go_num, by rw [HK.out], B4.out⟩
          case measure => simp [intOf]; omega
        · have hl1 : 0 < (wth k l).length := List.length_pos_iff.2 h1
          have hd1 : decide ((0 : Int) < ((wth k l).length : Int)) = true := decide_eq_true (by omega)
          by_cases h2 : wto k l = []
          · have HK := Lib.hid (show depTo min max 31 l (k + 1) = B by rw [HS.out, stp_skip (.inr h2)])
            have hl2 : (wto k l).length = 0 := by rw [h2]; rfl
            rw [hl2]
            clear h1 h2 hl2
            generalize (wth k l).length = L1 at *
            go_wp2_with fail
            go_roundw
            case rel => exact ⟨k + 1, by omega, by go_num, by rw [HK.out], B4.out⟩
            case measure => simp [intOf]; omega
          · have hl2 : 0 < (wto k l).length := List.length_pos_iff.2 h2
            have hd2 : decide ((0 : Int) < ((wto k l).length : Int)) = true := decide_eq_true (by omega)
            have hlen := split_len k l h1 h2
            rw [HQ.out] at hlen
            have HD1 := Lib.hid (fun v w h => HI.out (wth k l) v w (by omega) (wth_pts HP.out) h)
            have HD2 := Lib.hid (fun v w h => HI.out (wto k l) v w (by omega) (wto_pts HP.out) h)
            rw [mst_ne h1 (by omega)] at HD1
            rw [mst_ne h2 (by omega)] at HD2
            obtain ⟨p0, p1⟩ := dep_bdLo 31 (wth k l)
            obtain ⟨q0, q1⟩ := dep_bdLo 31 (wto k l)
            have HK := Lib.hid (show depTo min max 31 l (k + 1) = max B (1 + min (dep min max 31 (wth k l)) (dep min max 31 (wto k l))) by
              rw [HS.out, stp, if_neg (by simp [h1, h2])]
              split <;> omega)
            clear h1 h2
            generalize dep min max 31 (wth k l) = D1 at *
            generalize dep min max 31 (wto k l) = D2 at *
            generalize wth k l = l1 at *
            generalize wto k l = l2 at *
            generalize l1.length = L1 at *
            generalize l2.length = L2 at *
            go_wp2_with fail
            refine (HD1.out _ _ R34.out).mono ?_
            rintro e w5 ⟨rfl, hb5⟩
            have hz5 := hb5.size
            have R45 := Lib.hid (R4.out.below hb5 (Nat.le_refl _))
            have B5 := Lib.hid (B4.out.trans (hb5.mono (by omega)))
            clear hb5
            go_wp2_with fail
            refine (HD2.out _ _ R45.out).mono ?_
            rintro e w6 ⟨rfl, hb6⟩
            have B6 := Lib.hid (B5.out.trans (hb6.mono (by omega)))
            clear hb6
            go_wp2_with fail
            all_goals
              go_roundw
              case rel => exact ⟨k + 1, by omega, by go_num, by rw [HK.out]; congr 1; omega, B6.out⟩
              case measure => simp [intOf]; omega
      · obtain rfl : k = n := by omega
        have HE := Lib.hid (depTo_end min max hn HP.out)
        rw [HE.out]
        go_wp2_with fail
        go_ret
        exact ⟨ret_int HM.out.symm, HBE.out⟩

theorem specLittlestone (n : Nat) (hn : n ≤ 5) (l : List Nat) (v : Value) (w : World) (h32 : l.length ≤ 32) (hpt : ∀ t ∈ l, t < 2 ^ n) (h : Rd w v (toI l)) :
    Calls Tryz.prog 28 #[v, .int .i64 (n : Int)] w (fun e w' => e = .returned (.int .i64 (mst l)) ∧ Below w.heap.size w w') := by
  suffices key : ∀ N, N ≤ 32 → ∀ (l : List Nat) (v : Value) (w : World), l.length ≤ N → (∀ t ∈ l, t < 2 ^ n) → Rd w v (toI l) → Calls Tryz.prog 28 #[v, .int .i64 (n : Int)] w (fun e w' => e = .returned (.int .i64 (mst l)) ∧ Below w.heap.size w w') from
    key 32 (Nat.le_refl _) l v w h32 hpt h
  intro N hN
  induction N with
  | zero => exact fun l v w h1 h2 h3 => specLit_step n 0 hn (fun _ _ _ h _ _ => absurd h (by omega)) l v w h1 (by omega) h2 h3
  | succ N ih => exact fun l v w h1 h2 h3 => specLit_step n (N + 1) hn (fun l' v' w' h4 h5 h6 => ih (by omega) l' v' w' (by omega) h5 h6) l v w h1 (by omega) h2 h3

end Go.Proofs.YtnmilfkocheaiaaGreatDoor
