/- The model's members. Conditions: ascending sets of n points. -/
import Derived.Test.YtnmilfkocheaiaaGreatDoorLittleS
namespace Go.Proofs.YtnmilfkocheaiaaGreatDoor
open Go.RowKit

theorem qst_fuel (l : List Nat) (hl : l.length ≤ 31) : qst l = dep max min 31 l := dep_fuel _ _ _ _ _ (by omega) (by omega)
theorem qst_small {l : List Nat} (h : l.length < 2) : qst l = 0 := by
  have hs : ∀ x, wth x l = [] ∨ wto x l = [] := by
    intro x
    by_cases h1 : wth x l = []
    · exact .inl h1
    · by_cases h2 : wto x l = []
      · exact .inr h2
      · have := split_len x l h1 h2
        have := List.length_pos_iff.2 h1
        omega
  have key : ∀ k, depTo max min 31 l k = 0 := by
    intro k
    induction k with
    | zero => rfl
    | succ k ih => rw [depTo_succ, stp_skip (hs k), ih]
  exact key 5
/-- the best so far, as the model has it: n for none -/
def bst (n : Nat) (B : Int) : Int := if B = 0 then (n : Int) else min n B

/-- 1 if x parts the sets -/
def spl (l : List Nat) (x : Nat) : Int := if wth x l = [] ∨ wto x l = [] then 0 else 1
def spn (l : List Nat) : Int := spl l 0 + spl l 1 + spl l 2 + spl l 3 + spl l 4
theorem spl_bd (l : List Nat) (x : Nat) : 0 ≤ spl l x ∧ spl l x ≤ 1 := by unfold spl; split <;> omega
theorem wth_mem {x t : Nat} {l : List Nat} : t ∈ wth x l ↔ t ∈ l ∧ hasX x t = true := by simp [wth]
theorem wto_mem {x t : Nat} {l : List Nat} : t ∈ wto x l ↔ t ∈ l ∧ hasX x t = false := by simp [wto]
theorem ne_of_sub {a b : List Nat} (h : ∀ t ∈ a, t ∈ b) (ha : a ≠ []) : b ≠ [] := by
  rintro rfl
  cases a with
  | nil => exact ha rfl
  | cons t a => exact absurd (h t (by simp)) (by simp)
theorem spl_mono {a l : List Nat} (h : ∀ t ∈ a, t ∈ l) (y : Nat) : spl a y ≤ spl l y := by
  unfold spl
  split
  · split <;> omega
  · rename_i h1
    have h2 : ¬ (wth y l = [] ∨ wto y l = []) := by
      rintro (e | e)
      · exact ne_of_sub (a := wth y a) (b := wth y l) (fun t ht => wth_mem.2 ⟨h t (wth_mem.1 ht).1, (wth_mem.1 ht).2⟩) (fun e' => h1 (.inl e')) e
      · exact ne_of_sub (a := wto y a) (b := wto y l) (fun t ht => wto_mem.2 ⟨h t (wto_mem.1 ht).1, (wto_mem.1 ht).2⟩) (fun e' => h1 (.inr e')) e
    rw [if_neg h2]
    exact Int.le_refl _
theorem spl_wth (x : Nat) (l : List Nat) : spl (wth x l) x = 0 := by
  have h : wto x (wth x l) = [] := by
    rw [wto, List.filter_eq_nil_iff]
    intro t ht
    simp [(wth_mem.1 ht).2]
  rw [spl, if_pos (.inr h)]
theorem spl_wto (x : Nat) (l : List Nat) : spl (wto x l) x = 0 := by
  have h : wth x (wto x l) = [] := by
    rw [wth, List.filter_eq_nil_iff]
    intro t ht
    simp [(wto_mem.1 ht).2]
  rw [spl, if_pos (.inl h)]
theorem spn_less {a l : List Nat} {x : Nat} (hx : x < 5) (h : ∀ t ∈ a, t ∈ l) (h0 : spl a x = 0) (h1 : spl l x = 1) : spn a + 1 ≤ spn l := by
  have m := fun y => spl_mono h y
  have m0 := m 0; have m1 := m 1; have m2 := m 2; have m3 := m 3; have m4 := m 4
  unfold spn
  rcases (show x = 0 ∨ x = 1 ∨ x = 2 ∨ x = 3 ∨ x = 4 by omega) with rfl | rfl | rfl | rfl | rfl <;> omega
theorem spn_pos (l : List Nat) : 0 ≤ spn l := by
  have m := fun y => (spl_bd l y).1
  have m0 := m 0; have m1 := m 1; have m2 := m 2; have m3 := m 3; have m4 := m 4
  unfold spn
  omega
theorem dep_spn (n : Nat) (l : List Nat) : dep max min n l ≤ spn l := by
  induction n generalizing l with
  | zero => simp only [dep]; exact spn_pos l
  | succ n ih =>
    have key : ∀ k, k ≤ 5 → depTo max min n l k ≤ spn l := by
      intro k
      induction k with
      | zero => intro _; simp only [depTo, List.range_zero, List.foldl_nil]; exact spn_pos l
      | succ k ihk =>
        intro hk
        have := ihk (by omega)
        rw [depTo_succ, stp]
        split
        · exact this
        · rename_i hs
          have h1 : spl l k = 1 := by rw [spl, if_neg hs]
          have a := ih (wth k l)
          have b := ih (wto k l)
          have a2 := spn_less (a := wth k l) (l := l) (x := k) (by omega) (fun t ht => (wth_mem.1 ht).1) (spl_wth k l) h1
          have b2 := spn_less (a := wto k l) (l := l) (x := k) (by omega) (fun t ht => (wto_mem.1 ht).1) (spl_wto k l) h1
          split <;> omega
    exact key 5 (Nat.le_refl _)
theorem spn_le {n : Nat} (hn : n ≤ 5) {l : List Nat} (hl : ∀ t ∈ l, t < 2 ^ n) : spn l ≤ n := by
  have z : ∀ y, n ≤ y → spl l y = 0 := fun y hy => by rw [spl, if_pos (.inl (wth_nil hl hy))]
  have m := fun y => (spl_bd l y).2
  have m0 := m 0; have m1 := m 1; have m2 := m 2; have m3 := m 3; have m4 := m 4
  have z0 := z 0; have z1 := z 1; have z2 := z 2; have z3 := z 3; have z4 := z 4
  unfold spn
  rcases (show n = 0 ∨ n = 1 ∨ n = 2 ∨ n = 3 ∨ n = 4 ∨ n = 5 by omega) with rfl | rfl | rfl | rfl | rfl | rfl
  · have := z0 (by omega); have := z1 (by omega); have := z2 (by omega); have := z3 (by omega); have := z4 (by omega); omega
  · have := z1 (by omega); have := z2 (by omega); have := z3 (by omega); have := z4 (by omega); omega
  · have := z2 (by omega); have := z3 (by omega); have := z4 (by omega); omega
  · have := z3 (by omega); have := z4 (by omega); omega
  · have := z4 (by omega); omega
  · omega
theorem qst_le {n : Nat} (hn : n ≤ 5) {l : List Nat} (hl : ∀ t ∈ l, t < 2 ^ n) : qst l ≤ n := Int.le_trans (dep_spn 32 l) (spn_le hn hl)
theorem bit_ne {s t : Nat} (hs : s < 32) (ht : t < 32) (h : s ≠ t) : ∃ x, x < 5 ∧ hasX x s ≠ hasX x t := by
  have key : ∀ s t : Fin 32, s ≠ t → ∃ x : Fin 5, hasX x s ≠ hasX x t := by decide +kernel
  obtain ⟨x, hx⟩ := key ⟨s, hs⟩ ⟨t, ht⟩ (fun e => h (by simpa using e))
  exact ⟨x, x.isLt, hx⟩
theorem dep_split {J C : Int → Int → Int} (n : Nat) {l : List Nat} (hJ : ∀ a b, 0 ≤ a → 0 ≤ b → 0 ≤ J a b) (hC : ∀ a b, 0 < a → 0 < b → 0 < C a b) (hD : ∀ l, 0 ≤ dep J C n l) {x : Nat} (hx : x < 5) (h1 : wth x l ≠ []) (h2 : wto x l ≠ []) : 0 < dep J C (n + 1) l := by
  have key : ∀ k, (0 ≤ depTo J C n l k) ∧ (x < k → 0 < depTo J C n l k) := by
    intro k
    induction k with
    | zero => exact ⟨by simp [depTo], fun h => by omega⟩
    | succ k ih =>
      have hj := hJ _ _ (hD (wth k l)) (hD (wto k l))
      rw [depTo_succ, stp]
      split
      · rename_i hs
        refine ⟨ih.1, fun h => ih.2 ?_⟩
        by_cases e : x = k
        · subst e; exact absurd hs (by simp [h1, h2])
        · omega
      · split
        · rename_i hp
          have := hC _ _ hp (show 0 < 1 + J (dep J C n (wth k l)) (dep J C n (wto k l)) by omega)
          exact ⟨by omega, fun _ => this⟩
        · exact ⟨by omega, fun _ => by omega⟩
  exact (key 5).2 hx
theorem split_ex {l : List Nat} (h32 : ∀ t ∈ l, t < 32) (has : l.Pairwise (· < ·)) (hl : 2 ≤ l.length) : ∃ x, x < 5 ∧ wth x l ≠ [] ∧ wto x l ≠ [] := by
  match l, hl with
  | s :: t :: r, _ =>
    have hst : s < t := (List.pairwise_cons.1 has).1 t (by simp)
    obtain ⟨x, hx, hne⟩ := bit_ne (h32 s (by simp)) (h32 t (by simp)) (by omega)
    refine ⟨x, hx, ?_⟩
    have ms : s ∈ s :: t :: r := by simp
    have mt : t ∈ s :: t :: r := by simp
    have nn : ∀ {a : List Nat} {u : Nat}, u ∈ a → a ≠ [] := fun h e => by rw [e] at h; simp at h
    cases e1 : hasX x s <;> cases e2 : hasX x t
    · rw [e1, e2] at hne; exact absurd rfl hne
    · exact ⟨nn (wth_mem.2 ⟨mt, e2⟩), nn (wto_mem.2 ⟨ms, e1⟩)⟩
    · exact ⟨nn (wth_mem.2 ⟨ms, e1⟩), nn (wto_mem.2 ⟨mt, e2⟩)⟩
    · rw [e1, e2] at hne; exact absurd rfl hne
theorem qst_pos {l : List Nat} (h32 : ∀ t ∈ l, t < 32) (has : l.Pairwise (· < ·)) (hl : 2 ≤ l.length) : 0 < qst l := by
  obtain ⟨x, hx, h1, h2⟩ := split_ex h32 has hl
  exact dep_split 31 (fun a b _ _ => by omega) (fun a b _ _ => by omega) (fun l => (dep_bdQu 31 l).1) hx h1 h2

set_option maxHeartbeats 3200000 in
set_option maxRecDepth 100000 in
theorem specMem_step (n N : Nat) (hn : n ≤ 5) (IH : ∀ (l : List Nat) (v : Value) (w : World), l.length < N → (∀ t ∈ l, t < 2 ^ n) → l.Pairwise (· < ·) → Rd w v (toI l) → Calls Tryz.prog 29 #[v, .int .i64 (n : Int)] w (fun e w' => e = .returned (.int .i64 (qst l)) ∧ Below w.heap.size w w'))
    (l : List Nat) (v : Value) (w : World) (hN : l.length ≤ N) (h32 : l.length ≤ 32) (hpt : ∀ t ∈ l, t < 2 ^ n) (has : l.Pairwise (· < ·)) (h : Rd w v (toI l)) :
    Calls Tryz.prog 29 #[v, .int .i64 (n : Int)] w (fun e w' => e = .returned (.int .i64 (qst l)) ∧ Below w.heap.size w w') := by
  have H := Lib.hid h
  have HI := Lib.hid IH
  have HP := Lib.hid hpt
  have HL32 := Lib.hid (fun t ht => Nat.lt_of_lt_of_le (hpt t ht) (pow_le_32 hn))
  have HAS := Lib.hid has
  clear IH hpt has
  obtain ⟨a, b, off, cap, rfl, _, _, _⟩ := h
  rw [toI_length] at H ⊢
  by_cases hl : l.length < 2
  · have HM := Lib.hid (show qst l = 0 from qst_small hl)
    generalize l.length = L at *
    have hd : decide ((L : Int) < 2) = true := decide_eq_true (by omega)
    go_enter Tryz.func29, Tryz.ntmps29
    go_wp2_with fail
    go_ret
    exact ⟨ret_int HM.out.symm, Below.refl _ _⟩
  · have HM := Lib.hid (show qst l = dep max min 32 l from rfl)
    have HQP := Lib.hid (qst_pos HL32.out HAS.out (by omega))
    have HQN := Lib.hid (qst_le hn HP.out)
    have hd : decide ((l.length : Int) < 2) = false := decide_eq_false (by omega)
    generalize hq : l.length = L at *
    have HQ := Lib.hid hq
    clear hq
    go_enter Tryz.func29, Tryz.ntmps29
    go_wp2_with fail
    go_loopw [5, 6] (fun bb i wr => ∃ k : Nat, k ≤ n ∧ i = .int .i64 k ∧ bb = .int .i64 (bst n (depTo max min 31 l k)) ∧ Below w.heap.size w wr) (fun _ i _ => n - (intOf i).toNat)
    case atStart => exact ⟨0, Nat.zero_le _, rfl, by simp [depTo, bst], Below.refl _ _⟩
    case round =>
      obtain ⟨k, hk, rfl, rfl, hbe⟩ := hrel
      obtain ⟨hb0, hb1⟩ := depTo_bdQu 31 l k
      have HBE := Lib.hid hbe
      have hz := hbe.size
      have R2 := Lib.hid (H.out.below hbe (Nat.le_refl _))
      clear hbe
      by_cases hlt : k < n
      · have HS := Lib.hid (depTo_succ max min 31 l k)
        generalize hB : depTo max min 31 l k = B at *
        clear hB
        have HBB := Lib.hid (show bst n B = if B = 0 then (n : Int) else min n B from rfl)
        have hbn : 0 ≤ bst n B ∧ bst n B ≤ 32 := by rw [HBB.out]; split <;> omega
        generalize bst n B = BB at *
        go_wp2_with fail
        refine (specYes _ l k (by omega) HL32.out (by rw [HQ.out]; omega) _ R2.out).mono ?_
        rintro e w3 ⟨a3, c3, rfl, hin3, hb3⟩
        have hz3 := hb3.size
        have R3 := Lib.hid hin3.rd
        have R23 := Lib.hid (R2.out.below hb3 (Nat.le_refl _))
        have B3 := Lib.hid (HBE.out.trans (hb3.mono hz))
        rw [toI_length] at R3 ⊢
        clear hin3 hb3
        go_wp2_with fail
        refine (specNo _ l k (by omega) HL32.out (by rw [HQ.out]; omega) _ R23.out).mono ?_
        rintro e w4 ⟨a4, c4, rfl, hin4, hb4⟩
        have hz4 := hb4.size
        have R4 := Lib.hid hin4.rd
        have R34 := Lib.hid (R3.out.below hb4 (Nat.le_refl _))
        have B4 := Lib.hid (B3.out.trans (hb4.mono (by omega)))
        rw [toI_length] at R4 ⊢
        clear hin4 hb4
        by_cases h1 : wth k l = []
        · have HK := Lib.hid (show depTo max min 31 l (k + 1) = B by rw [HS.out, stp_skip (.inl h1)])
          have hl1 : (wth k l).length = 0 := by rw [h1]; rfl
          rw [hl1]
          clear h1 hl1
          generalize (wto k l).length = L2 at *
          go_wp2_with fail
          go_roundw
          case rel => exact ⟨k + 1, by omega, by go_num, by rw [HK.out, bst, HBB.out], B4.out⟩
          case measure => simp [intOf]; omega
        · have hl1 : 0 < (wth k l).length := List.length_pos_iff.2 h1
          have hd1 : decide ((0 : Int) < ((wth k l).length : Int)) = true := decide_eq_true (by omega)
          by_cases h2 : wto k l = []
          · have HK := Lib.hid (show depTo max min 31 l (k + 1) = B by rw [HS.out, stp_skip (.inr h2)])
            have hl2 : (wto k l).length = 0 := by rw [h2]; rfl
            rw [hl2]
            clear h1 h2 hl2
            generalize (wth k l).length = L1 at *
            go_wp2_with fail
            go_roundw
            case rel => exact ⟨k + 1, by omega, by go_num, by rw [HK.out, bst, HBB.out], B4.out⟩
            case measure => simp [intOf]; omega
          · have hl2 : 0 < (wto k l).length := List.length_pos_iff.2 h2
            have hd2 : decide ((0 : Int) < ((wto k l).length : Int)) = true := decide_eq_true (by omega)
            have hlen := split_len k l h1 h2
            rw [HQ.out] at hlen
            have HD1 := Lib.hid (fun v w h => HI.out (wth k l) v w (by omega) (wth_pts HP.out) (HAS.out.filter _) h)
            have HD2 := Lib.hid (fun v w h => HI.out (wto k l) v w (by omega) (wto_pts HP.out) (HAS.out.filter _) h)
            rw [qst_fuel _ (by omega)] at HD1
            rw [qst_fuel _ (by omega)] at HD2
            obtain ⟨p0, p1⟩ := dep_bdQu 31 (wth k l)
            obtain ⟨q0, q1⟩ := dep_bdQu 31 (wto k l)
            have HK := Lib.hid (show bst n (depTo max min 31 l (k + 1)) = min BB (1 + max (dep max min 31 (wth k l)) (dep max min 31 (wto k l))) by
              rw [HBB.out, HS.out, stp, if_neg (by simp [h1, h2]), bst]
              split <;> split <;> split <;> omega)
            clear h1 h2
            generalize dep max min 31 (wth k l) = D1 at *
            generalize dep max min 31 (wto k l) = D2 at *
            generalize wth k l = l1 at *
            generalize wto k l = l2 at *
            generalize l1.length = L1 at *
            generalize l2.length = L2 at *
            go_wp2_with fail
            refine (HD1.out _ _ R34.out).mono ?_
            rintro e w5 ⟨rfl, hb5⟩
            have hz5 := hb5.size
            have R45 := Lib.hid (R4.out.below hb5 (Nat.le_refl _))
            have B5 := Lib.hid (B4.out.trans (hb5.mono (by omega)))
            clear hb5
            go_wp2_with fail
            refine (HD2.out _ _ R45.out).mono ?_
            rintro e w6 ⟨rfl, hb6⟩
            have B6 := Lib.hid (B5.out.trans (hb6.mono (by omega)))
            clear hb6
            go_wp2_with fail
            all_goals
              go_roundw
              case rel => exact ⟨k + 1, by omega, by go_num, by rw [HK.out]; congr 1; omega, B6.out⟩
              case measure => simp [intOf]; omega
      · obtain rfl : k = n := by omega
        have HE := Lib.hid (show bst k (depTo max min 31 l k) = qst l by
          have e := depTo_end max min hn HP.out
          have e1 := HQP.out
          have e2 := HQN.out
          rw [e, HM.out, bst]
          rw [HM.out] at e1 e2
          split <;> omega)
        rw [HE.out]
        go_wp2_with fail
        go_ret
        exact ⟨rfl, HBE.out⟩

theorem specMembers (n : Nat) (hn : n ≤ 5) (l : List Nat) (v : Value) (w : World) (h32 : l.length ≤ 32) (hpt : ∀ t ∈ l, t < 2 ^ n) (has : l.Pairwise (· < ·)) (h : Rd w v (toI l)) :
    Calls Tryz.prog 29 #[v, .int .i64 (n : Int)] w (fun e w' => e = .returned (.int .i64 (qst l)) ∧ Below w.heap.size w w') := by
  suffices key : ∀ N, N ≤ 32 → ∀ (l : List Nat) (v : Value) (w : World), l.length ≤ N → (∀ t ∈ l, t < 2 ^ n) → l.Pairwise (· < ·) → Rd w v (toI l) → Calls Tryz.prog 29 #[v, .int .i64 (n : Int)] w (fun e w' => e = .returned (.int .i64 (qst l)) ∧ Below w.heap.size w w') from
    key 32 (Nat.le_refl _) l v w h32 hpt has h
  intro N hN
  induction N with
  | zero => exact fun l v w h1 h2 hs h3 => specMem_step n 0 hn (fun _ _ _ h _ _ _ => absurd h (by omega)) l v w h1 (by omega) h2 hs h3
  | succ N ih => exact fun l v w h1 h2 hs h3 => specMem_step n (N + 1) hn (fun l' v' w' h4 h5 h7 h6 => ih (by omega) l' v' w' (by omega) h5 h7 h6) l v w h1 (by omega) h2 hs h3

end Go.Proofs.YtnmilfkocheaiaaGreatDoor
