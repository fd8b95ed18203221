/- FirstQuestion, the program's and the model's. Conditions: Sets is a slice of ints; the table setsWith is laid. -/
import Derived.Deep.RegionHeld3
import Derived.Deep.RegionWith
import Derived.Test.YthjbkjkfibiceaaDoorMemb
namespace Go.Proofs.YthjbkjkfibiceaaDoor
open Go.RowKit

/-- the first of five points for which P holds -/
def fst5 (P : Nat → Bool) : Option Nat := (List.range 5).find? P
def fstN (P : Nat → Bool) : Int := ((fst5 P).getD 0 : Nat)
def fstB (P : Nat → Bool) : Bool := (fst5 P).isSome
theorem fst5_at {P : Nat → Bool} {k : Nat} (hk : k < 5) (h : P k = true) (hb : ∀ j, j < k → P j = false) : fst5 P = some k := by
  unfold fst5
  rw [List.find?_eq_some_iff_append]
  refine ⟨h, List.range k, List.range' (k + 1) (4 - k), ?_, fun j hj => by rw [hb j (List.mem_range.1 hj)]; rfl⟩
  have : k = 0 ∨ k = 1 ∨ k = 2 ∨ k = 3 ∨ k = 4 := by omega
  rcases this with rfl | rfl | rfl | rfl | rfl <;> decide
theorem fst5_none {P : Nat → Bool} (hb : ∀ j, j < 5 → P j = false) : fst5 P = none := by
  unfold fst5
  rw [List.find?_eq_none]
  intro j hj
  rw [hb j (List.mem_range.1 hj)]
  simp

/-- is the question for x good? -/
def fqP (l : List Nat) (x : Nat) : Bool := decide (max (qst (wth x l)) (qst (wto x l)) < qst l)
theorem qst_nn (l : List Nat) : 0 ≤ qst l := (dep_bdQu 32 l).1
theorem qst_top (l : List Nat) : qst l ≤ 32 := (dep_bdQu 32 l).2
theorem wto_of_nil {x : Nat} {l : List Nat} (h : wth x l = []) : wto x l = l := by
  rw [wto, List.filter_eq_self]
  intro t ht
  rw [wth, List.filter_eq_nil_iff] at h
  simpa using h t ht
theorem wth_of_nil {x : Nat} {l : List Nat} (h : wto x l = []) : wth x l = l := by
  rw [wth, List.filter_eq_self]
  intro t ht
  rw [wto, List.filter_eq_nil_iff] at h
  simpa using h t ht
theorem fqP_skip {x : Nat} {l : List Nat} (h : wth x l = [] ∨ wto x l = []) : fqP l x = false := by
  rw [fqP, decide_eq_false_iff_not]
  have := qst_nn l
  rcases h with h | h
  · rw [wto_of_nil h, h]; omega
  · rw [wth_of_nil h, h]; omega
theorem qst_min {x : Nat} {l : List Nat} (hx : x < 5) (hl : l.length ≤ 32) (h1 : wth x l ≠ []) (h2 : wto x l ≠ []) : qst l ≤ 1 + max (qst (wth x l)) (qst (wto x l)) := by
  have hlen := split_len x l h1 h2
  rw [qst_fuel (wth x l) (by omega), qst_fuel (wto x l) (by omega)]
  have key : ∀ k, x < k → depTo max min 31 l k ≤ 1 + max (dep max min 31 (wth x l)) (dep max min 31 (wto x l)) := by
    intro k
    induction k with
    | zero => intro h; omega
    | succ k ih =>
      intro h
      rw [depTo_succ, stp]
      by_cases e : x = k
      · subst e
        rw [if_neg (by simp [h1, h2])]
        split <;> omega
      · have := ih (by omega)
        have b0 := (depTo_bdQu 31 l k).1
        split
        · exact this
        · split
          · omega
          · rename_i hz
            exfalso
            have hpos : 0 < depTo max min 31 l k := by
              have key2 : ∀ j, (0 ≤ depTo max min 31 l j) ∧ (x < j → 0 < depTo max min 31 l j) := by
                intro j
                induction j with
                | zero => exact ⟨by simp [depTo], fun h => by omega⟩
                | succ j ihj =>
                  have a1 := (dep_bdQu 31 (wth j l)).1
                  have a2 := (dep_bdQu 31 (wto j l)).1
                  rw [depTo_succ, stp]
                  split
                  · rename_i hs
                    refine ⟨ihj.1, fun h => ihj.2 ?_⟩
                    by_cases e : x = j
                    · subst e; exact absurd hs (by simp [h1, h2])
                    · omega
                  · split
                    · exact ⟨by omega, fun _ => by omega⟩
                    · exact ⟨by omega, fun _ => by omega⟩
              exact (key2 k).2 (by omega)
            omega
  exact key 5 hx
theorem fqP_eq {x : Nat} {l : List Nat} (hx : x < 5) (hl : l.length ≤ 32) (h1 : wth x l ≠ []) (h2 : wto x l ≠ []) : fqP l x = decide (1 + max (qst (wth x l)) (qst (wto x l)) = qst l) := by
  have := qst_min hx hl h1 h2
  rw [fqP, decide_eq_decide]
  omega

set_option maxHeartbeats 1600000 in
set_option maxRecDepth 100000 in
theorem implFQ1 (l1 l2 : List Nat) (h1 : ∀ t ∈ l1, t < 32) (h2 : ∀ t ∈ l2, t < 32) (e1 : l1.length ≤ 32) (e2 : l2.length ≤ 32) (o : Nat) (due : Int) (w : World) (hsw : SW w) (hc : w.cell? ⟨o, 0, none⟩ = some (.int .i64 due)) :
    Calls Tryd.prog 65 #[.int .u32 (fm l1), .int .u32 (fm l2), .pointer (some ⟨o, 0, none⟩)] w fun e w' => e = .returned (.bool (decide (max (qst l1) (qst l2) < due))) ∧ Below w.heap.size w w' := by
  have ho : o < w.heap.size := World.block_lt_of_cell? w _ hc
  have HSW := Lib.hid hsw
  have HQ1 := Lib.hid (fun w h => implQuestionDepth l1 h1 e1 w h)
  have HQ2 := Lib.hid (fun w h => implQuestionDepth l2 h2 e2 w h)
  clear hsw h1 h2
  generalize fm l1 = F1 at *
  generalize fm l2 = F2 at *
  generalize qst l1 = D1 at *
  generalize qst l2 = D2 at *
  obtain ⟨M, hM⟩ : ∃ M, M = max D1 D2 := ⟨_, rfl⟩
  rw [← hM]
  by_cases hlt : D1 < D2
  all_goals
    have HM := Lib.hid hM
    clear hM
    go_enter Tryd.func65, Tryd.ntmps65
    go_wp2_with fail
    go_region_held3 (fun w' => w'.cell? ⟨o, 0, none⟩ = some (.int .i64 due)) (first | exact hc | exact hc3 | exact hc2 | go_keep) (first
      | (go_at_call 63; refine (HQ1.out _ (by first | exact HSW.out | exact SW.heap HSW.out rfl)).mono ?_; rintro e w2 ⟨rfl, hb2⟩; have B2 := Lib.hid (show Below w.heap.size w w2 from Below.trans (by first | exact Below.refl _ _ | exact (Below.refl _ _).drew) hb2); have hc2 := (B2.out.cell (p := ⟨o, 0, none⟩) ho).trans hc; clear hb2)
      | (go_at_call 63; refine (HQ2.out _ (HSW.out.next B2.out)).mono ?_; rintro e w3 ⟨rfl, hb3⟩; have B3 := Lib.hid (show Below w.heap.size w w3 from B2.out.trans (hb3.mono B2.out.size)); have hc3 := (B3.out.cell (p := ⟨o, 0, none⟩) ho).trans hc; clear hb3))
    all_goals
      go_wp2_with fail
      go_ret
      exact ⟨ret_bool (by rw [HM.out, decide_eq_decide]; first | omega | (rw [if_neg hlt]; omega) | (rw [if_pos hlt]; omega)), B3.out⟩

set_option maxHeartbeats 1600000 in
set_option maxRecDepth 100000 in
theorem implSplitFQ (l : List Nat) (h32 : ∀ t ∈ l, t < 32) (hl : l.length ≤ 32) (o : Nat) (due : Int) (w : World) (hsw : SW w) (hc : w.cell? ⟨o, 0, none⟩ = some (.int .i64 due)) :
    Calls Tryd.prog 64 #[.int .u32 (fm l), .func (Fn.func 65) #[] #[.pointer (some ⟨o, 0, none⟩)]] w fun e w' => e = .returned (.tuple #[.int .i64 (fstN (fun x => decide (max (qst (wth x l)) (qst (wto x l)) < due))), .bool (fstB (fun x => decide (max (qst (wth x l)) (qst (wto x l)) < due)))]) ∧ Below w.heap.size w w' := by
  have ho : o < w.heap.size := World.block_lt_of_cell? w _ hc
  have HSW := Lib.hid hsw
  have HCC := Lib.hid hc
  have H32 := Lib.hid h32
  obtain ⟨P, hP⟩ : ∃ P : Nat → Bool, P = (fun x => decide (max (qst (wth x l)) (qst (wto x l)) < due)) := ⟨_, rfl⟩
  rw [← hP]
  have HP := Lib.hid hP
  clear hsw h32 hc hP
  go_enter Tryd.func64, Tryd.ntmps64
  go_wp2_with fail
  go_loopw [7] (fun i wr => ∃ k : Nat, k ≤ 5 ∧ i = .int .i64 k ∧ Hid (∀ j, j < k → P j = false) ∧ Below w.heap.size w wr) (fun i _ => 5 - (intOf i).toNat)
  case atStart => exact ⟨0, Nat.zero_le _, rfl, Lib.hid fun j hj => by omega, Below.refl _ _⟩
  case round =>
    obtain ⟨k, hk, rfl, HB, hbe⟩ := hrel
    have HBE := Lib.hid hbe
    have SW2 := Lib.hid (HSW.out.next hbe)
    have hz := hbe.size
    have C2 := Lib.hid ((hbe.cell (p := ⟨o, 0, none⟩) ho).trans HCC.out)
    clear hbe
    by_cases hlt : k < 5
    · have hkI : (k : Int) < 5 := by omega
      go_wp2_with fail
      refine (implSplit l k hlt _ SW2.out).mono ?_
      rintro e w4 ⟨rfl, d, rfl⟩
      have B4 := Lib.hid (below_drewN HBE.out d)
      have SW4 := Lib.hid (HSW.out.next B4.out)
      have C4 := Lib.hid ((B4.out.cell (p := ⟨o, 0, none⟩) ho).trans HCC.out)
      have hz4 := B4.out.size
      generalize (wr.drewN d) = w4 at *
      have h1 := List.length_filter_le (fun s => hasX k s) l
      have h2 := List.length_filter_le (fun s => !hasX k s) l
      have HF := Lib.hid (implFQ1 (wth k l) (wto k l) (wth_lt H32.out) (wto_lt H32.out) (by unfold wth; omega) (by unfold wto; omega) o due w4 SW4.out C4.out)
      rw [show decide (max (qst (wth k l)) (qst (wto k l)) < due) = P k by rw [HP.out]] at HF
      clear h1 h2
      generalize fm (wth k l) = F1 at *
      generalize fm (wto k l) = F2 at *
      by_cases hp : P k = true
      · have HR := Lib.hid (fst5_at hlt hp HB.out)
        rw [hp] at HF
        clear hp
        go_wp2_with fail
        refine HF.out.mono ?_
        rintro e w5 ⟨rfl, hb5⟩
        have B5 := Lib.hid (B4.out.trans (hb5.mono hz4))
        clear hb5
        go_wp2_with fail
        refine bodyPost_ret (v := .tuple #[.int .i64 (k : Int), .bool true]) (by simp [results, Tryd.results64, go_sem]) rfl ?_
        exact ⟨by rw [fstN, fstB, HR.out]; rfl, B5.out⟩
      · rw [Bool.not_eq_true] at hp
        have HB2 := Lib.hid (show ∀ j, j < k + 1 → P j = false from fun j hj => by
          by_cases e : j = k
          · subst e; exact hp
          · exact HB.out j (by omega))
        rw [hp] at HF
        clear hp
        go_wp2_with fail
        refine HF.out.mono ?_
        rintro e w5 ⟨rfl, hb5⟩
        have B5 := Lib.hid (B4.out.trans (hb5.mono hz4))
        clear hb5
        go_wp2_with fail
        go_roundw
        case rel => exact ⟨k + 1, by omega, by go_num, HB2, B5.out⟩
        case measure => simp [intOf]; omega
    · obtain rfl : k = 5 := by omega
      have HR := Lib.hid (fst5_none HB.out)
      go_wp2_with fail
      refine bodyPost_ret (v := .tuple #[.int .i64 0, .bool false]) (by simp [results, Tryd.results64, go_sem]) rfl ?_
      exact ⟨by rw [fstN, fstB, HR.out]; rfl, HBE.out⟩

def fqN (n : Int) (zs : List Int) : Int := if vldB n zs = true then fstN (fqP (zs.map Int.toNat)) else 0
def fqB (n : Int) (zs : List Int) : Bool := if vldB n zs = true then fstB (fqP (zs.map Int.toNat)) else false

set_option maxHeartbeats 6400000 in
set_option maxRecDepth 100000 in
theorem implFirstQuestion (n : Int) (v : Value) (zs : List Int) (w : World) (h : Rd w v zs) (hsw : SW w) :
    Calls Tryd.prog 34 #[.agg #[.int .i64 n, v]] w fun e w' => e = .returned (.tuple #[.int .i64 (fqN n zs), .bool (fqB n zs)]) ∧ Below w.heap.size w w' := by
  have H := Lib.hid h
  have HSW := Lib.hid hsw
  clear hsw
  obtain ⟨a, b, off, cap, rfl, h1, h3, h5⟩ := h
  have B0 := Lib.hid (Box.made n (.slice a zs.length cap) w 25)
  by_cases hv : vldB n zs = true
  · obtain ⟨m, ns, rfl, rfl, hc⟩ := vldB_cls hv
    have hm := hc.pts
    have HV := Lib.hid hv
    have HT := Lib.hid (show fqN m (toI ns) = fstN (fqP ns) by rw [fqN, if_pos hv, toNat_toI])
    have HT2 := Lib.hid (show fqB m (toI ns) = fstB (fqP ns) by rw [fqB, if_pos hv, toNat_toI])
    have HC := Lib.hid hc
    have hl := hc.length
    rw [toI_length] at h1 h3 h5 H B0 ⊢
    clear hv hc h1 h5
    go_enter Tryd.func34, Tryd.ntmps34
    go_wp2_with fail
    refine (implValid m _ (toI ns) _ (H.out.below (k := w.heap.size) (by go_grown) (Nat.le_refl _))).mono ?_
    rintro e w1 ⟨rfl, hb⟩
    rw [HV.out]
    have hs1 : w.heap.size < w1.heap.size := by have := hb.size; simp at this; omega
    have B1 := Lib.hid (B0.out.next (by simp) hb)
    clear hb
    have R1 := Lib.hid (H.out.below B1.out.below (Nat.le_refl _))
    have c0 := B1.out.at0
    have c1 := B1.out.at1
    go_wp2_with fail
    refine (implFamilyOf m _ ns HC.out.lt32 _ R1.out).mono ?_
    rintro e w2 ⟨rfl, hb2⟩
    have B2 := Lib.hid (B1.out.next hs1 hb2)
    have SW2 := Lib.hid (HSW.out.next B2.out.below)
    have hz2 := hb2.size
    clear hb2 c0 c1
    go_wp2_with fail
    refine (implQuestionDepth ns HC.out.lt32 hl _ SW2.out).mono ?_
    rintro e w3 ⟨rfl, hb3⟩
    have B3 := Lib.hid (B2.out.next (by omega) hb3)
    have SW3 := Lib.hid (HSW.out.next B3.out.below)
    have hz3 := hb3.size
    clear hb3
    have HFS := Lib.hid (fun w h1 h2 => implSplitFQ ns HC.out.lt32 hl w3.heap.size (qst ns) w h1 h2)
    rw [show (fun x => decide (max (qst (wth x ns)) (qst (wto x ns)) < qst ns)) = fqP ns from rfl] at HFS
    generalize fm ns = F at *
    generalize qst ns = D at *
    go_wp2_with fail
    refine (HFS.out _ (SW3.out.next (by go_grown)) (by simp [go_sem])).mono ?_
    rintro e w5 ⟨rfl, hb5⟩
    have B5 := Lib.hid (B3.out.next (show w.heap.size < w3.heap.size by omega) (Below.trans (show Below w3.heap.size w3 _ by go_grown) (hb5.mono (by simp))))
    clear hb5
    go_wp2_with fail
    refine bodyPost_ret (v := .tuple #[.int .i64 (fstN (fqP ns)), .bool (fstB (fqP ns))]) (by simp [results, Tryd.results34, go_sem]) rfl ?_
    exact ⟨by rw [HT.out, HT2.out], B5.out.below⟩
  · have HT := Lib.hid (show fqN n zs = 0 by rw [fqN, if_neg hv])
    have HT2 := Lib.hid (show fqB n zs = false by rw [fqB, if_neg hv])
    rw [Bool.not_eq_true] at hv
    have HV := Lib.hid hv
    clear hv
    go_enter Tryd.func34, Tryd.ntmps34
    go_wp2_with fail
    refine (implValid n _ zs _ (H.out.below (k := w.heap.size) (by go_grown) (Nat.le_refl _))).mono ?_
    rintro e w1 ⟨rfl, hb⟩
    rw [HV.out]
    have B1 := Lib.hid (B0.out.next (by simp) hb)
    clear hb
    go_wp2_with fail
    refine bodyPost_ret (v := .tuple #[.int .i64 0, .bool false]) (by simp [results, Tryd.results34, go_sem]) rfl ?_
    exact ⟨by rw [HT.out, HT2.out], B1.out.below⟩

set_option maxHeartbeats 6400000 in
set_option maxRecDepth 100000 in
theorem specFirstQuestion (n : Int) (v : Value) (zs : List Int) (w : World) (h : Rd w v zs) :
    Calls Tryd.prog 35 #[.agg #[.int .i64 n, v]] w fun e w' => e = .returned (.tuple #[.int .i64 (fqN n zs), .bool (fqB n zs)]) ∧ Below w.heap.size w w' := by
  have H := Lib.hid h
  obtain ⟨a, b, off, cap, rfl, h1, h3, h5⟩ := h
  have B0 := Lib.hid (Box.made n (.slice a zs.length cap) w 25)
  by_cases hv : vldB n zs = true
  · obtain ⟨m, ns, rfl, rfl, hc⟩ := vldB_cls hv
    have hm := hc.pts
    have HV := Lib.hid hv
    have HT := Lib.hid (show fqN m (toI ns) = fstN (fqP ns) by rw [fqN, if_pos hv, toNat_toI])
    have HT2 := Lib.hid (show fqB m (toI ns) = fstB (fqP ns) by rw [fqB, if_pos hv, toNat_toI])
    have HC := Lib.hid hc
    have hl := hc.length
    rw [toI_length] at h1 h3 h5 H B0 ⊢
    clear hv hc h1 h5
    have HGO := Lib.hid (show ∀ k, m ≤ k → fqP ns k = false from fun k hk => fqP_skip (.inl (wth_nil HC.out.lt hk)))
    by_cases h2 : ns.length < 2
    · have HR := Lib.hid (show fst5 (fqP ns) = none from fst5_none (fun j _ => fqP_skip (by
        by_cases e1 : wth j ns = []
        · exact .inl e1
        · by_cases e2 : wto j ns = []
          · exact .inr e2
          · have := split_len j ns e1 e2
            have := List.length_pos_iff.2 e1
            omega)))
      have hd2 : decide ((ns.length : Int) < 2) = true := decide_eq_true (by omega)
      go_enter Tryd.func35, Tryd.ntmps35
      go_wp2_with fail
      refine (specValid m _ (toI ns) _ (H.out.below (k := w.heap.size) (by go_grown) (Nat.le_refl _))).mono ?_
      rintro e w1 ⟨rfl, hb⟩
      rw [HV.out]
      have B1 := Lib.hid (B0.out.next (by simp) hb)
      clear hb
      have c0 := B1.out.at0
      have c1 := B1.out.at1
      go_wp2_with fail
      refine bodyPost_ret (v := .tuple #[.int .i64 0, .bool false]) (by simp [results, Tryd.results35, go_sem]) rfl ?_
      exact ⟨by rw [HT.out, HT2.out, fstN, fstB, HR.out]; rfl, B1.out.below⟩
    · have hd2 : decide ((ns.length : Int) < 2) = false := decide_eq_false (by omega)
      go_enter Tryd.func35, Tryd.ntmps35
      go_wp2_with fail
      refine (specValid m _ (toI ns) _ (H.out.below (k := w.heap.size) (by go_grown) (Nat.le_refl _))).mono ?_
      rintro e w1 ⟨rfl, hb⟩
      rw [HV.out]
      have hs1 : w.heap.size < w1.heap.size := by have := hb.size; simp at this; omega
      have B1 := Lib.hid (B0.out.next (by simp) hb)
      clear hb
      have R1 := Lib.hid (H.out.below B1.out.below (Nat.le_refl _))
      have c0 := B1.out.at0
      have c1 := B1.out.at1
      go_wp2_with fail
      refine (specMembers m hm ns _ _ hl HC.out.lt HC.out.asc R1.out).mono ?_
      rintro e w2 ⟨rfl, hb2⟩
      have B2 := Lib.hid (B1.out.next hs1 hb2)
      have hs2 : w.heap.size < w2.heap.size := by have := hb2.size; omega
      clear hb2 c0 c1
      have hq0 := qst_nn ns
      have hq1 := qst_top ns
      go_wp2_with fail
      go_loopw [5] (fun i wr => ∃ k : Nat, k ≤ m ∧ i = .int .i64 k ∧ Hid (∀ j, j < k → fqP ns j = false) ∧ Below w2.heap.size w2 wr) (fun i _ => m - (intOf i).toNat)
      case atStart => exact ⟨0, Nat.zero_le _, rfl, Lib.hid fun j hj => by omega, Below.refl _ _⟩
      case round =>
        obtain ⟨k, hk, rfl, HB, hbe⟩ := hrel
        have hz := hbe.size
        have BR := Lib.hid (B2.out.next hs2 hbe)
        have hsr : w.heap.size < wr.heap.size := by omega
        have RR := Lib.hid (H.out.below BR.out.below (Nat.le_refl _))
        have BE := Lib.hid hbe
        clear hbe
        have c0 := BR.out.at0
        have c1 := BR.out.at1
        by_cases hlt : k < m
        · have HN := Lib.hid (fun (h : fqP ns k = false) => show ∀ j, j < k + 1 → fqP ns j = false from fun j hj => by
            by_cases e : j = k
            · subst e; exact h
            · exact HB.out j (by omega))
          have HY := Lib.hid (fun (h : fqP ns k = true) => fst5_at (show k < 5 by omega) h HB.out)
          go_wp2_with fail
          refine (specYes _ ns k (by omega) HC.out.lt32 hl _ RR.out).mono ?_
          rintro e w3 ⟨a3, c3, rfl, hin3, hb3⟩
          have hz3 := hb3.size
          have B3 := Lib.hid (BR.out.next hsr hb3)
          have hs3 : w.heap.size < w3.heap.size := by omega
          have R3 := Lib.hid hin3.rd
          have RR3 := Lib.hid (RR.out.below hb3 (Nat.le_refl _))
          have BE3 := Lib.hid (BE.out.trans (hb3.mono hz))
          rw [toI_length] at R3 ⊢
          clear hin3 hb3 c0 c1
          have c0 := B3.out.at0
          have c1 := B3.out.at1
          go_wp2_with fail
          refine (specNo _ ns k (by omega) HC.out.lt32 hl _ RR3.out).mono ?_
          rintro e w4 ⟨a4, c4, rfl, hin4, hb4⟩
          have hz4 := hb4.size
          have B4 := Lib.hid (B3.out.next hs3 hb4)
          have hs4 : w.heap.size < w4.heap.size := by omega
          have R4 := Lib.hid hin4.rd
          have R34 := Lib.hid (R3.out.below hb4 (Nat.le_refl _))
          have BE4 := Lib.hid (BE3.out.trans (hb4.mono (by omega)))
          rw [toI_length] at R4 ⊢
          clear hin4 hb4 c0 c1
          have c0 := B4.out.at0
          have c1 := B4.out.at1
          by_cases h1 : wth k ns = []
          · have HK := Lib.hid (HN.out (fqP_skip (.inl h1)))
            have hl1 : (wth k ns).length = 0 := by rw [h1]; rfl
            rw [hl1]
            clear h1 hl1
            generalize (wto k ns).length = L2 at *
            go_wp2_with fail
            go_quiet (fail)
            go_wp2_with fail
            go_roundw
            case rel => exact ⟨k + 1, by omega, by go_num, HK, by first | exact BE4.out | exact below_drewN BE4.out _⟩
            case measure => simp [intOf]; omega
          · have hl1 : 0 < (wth k ns).length := List.length_pos_iff.2 h1
            have hd1 : decide ((0 : Int) < ((wth k ns).length : Int)) = true := decide_eq_true (by omega)
            by_cases h2' : wto k ns = []
            · have HK := Lib.hid (HN.out (fqP_skip (.inr h2')))
              have hl2 : (wto k ns).length = 0 := by rw [h2']; rfl
              rw [hl2]
              clear h1 h2' hl2
              generalize (wth k ns).length = L1 at *
              go_wp2_with fail
              go_quiet (fail)
              go_wp2_with fail
              go_roundw
              case rel => exact ⟨k + 1, by omega, by go_num, HK, by first | exact BE4.out | exact below_drewN BE4.out _⟩
              case measure => simp [intOf]; omega
            · have hl2 : 0 < (wto k ns).length := List.length_pos_iff.2 h2'
              have hd3 : decide ((0 : Int) < ((wto k ns).length : Int)) = true := decide_eq_true (by omega)
              have hlen := split_len k ns h1 h2'
              have HD1 := Lib.hid (fun v w h => specMembers m hm (wth k ns) v w (by omega) (wth_pts HC.out.lt) (HC.out.asc.filter _) h)
              have HD2 := Lib.hid (fun v w h => specMembers m hm (wto k ns) v w (by omega) (wto_pts HC.out.lt) (HC.out.asc.filter _) h)
              have HPE := Lib.hid (fqP_eq (x := k) (by omega) hl h1 h2')
              have p0 := qst_nn (wth k ns)
              have p1 := qst_top (wth k ns)
              have q0 := qst_nn (wto k ns)
              have q1 := qst_top (wto k ns)
              clear h1 h2'
              obtain ⟨M, hM⟩ : ∃ M, M = max (qst (wth k ns)) (qst (wto k ns)) := ⟨_, rfl⟩
              rw [← hM] at HPE
              have hif : (if qst (wth k ns) < qst (wto k ns) then qst (wto k ns) else qst (wth k ns)) = M := by rw [hM]; split <;> omega
              have hMb : 0 ≤ M ∧ M ≤ 32 := by omega
              have hwr : IntKind.i64.wrap (1 + M) = 1 + M := by rw [IntKind.wrap_i64]; omega
              clear hM
              generalize qst (wth k ns) = D1 at *
              generalize qst (wto k ns) = D2 at *
              generalize wth k ns = l1 at *
              generalize wto k ns = l2 at *
              generalize l1.length = L1 at *
              generalize l2.length = L2 at *
              by_cases hE : 1 + M = qst ns
              · have HK := Lib.hid (HY.out (by rw [HPE.out]; exact decide_eq_true hE))
                have hEb : (1 + M == qst ns) = true := by simpa using hE
                clear hE
                go_wp2_with fail
                go_region_held3 (fun w' => w'.cell? ⟨w.heap.size, 0, none⟩ = some (.int .i64 (m : Int))) (first | exact c0 | exact e0 | exact d0 | go_keep) (first
                | (go_at_call 66; refine (HD1.out _ _ (by first | exact R34.out | exact R34.out.below (k := w4.heap.size) (by go_grown) (Nat.le_refl _))).mono ?_; rintro e w5 ⟨rfl, hb5⟩; have hb45 : Below w4.heap.size w4 w5 := Below.trans (by first | exact Below.refl _ _ | exact (Below.refl _ _).drew) hb5; have R45 := Lib.hid (R4.out.below hb45 (Nat.le_refl _)); have B5 := Lib.hid (B4.out.next hs4 hb45); have hz5 := hb45.size; have BE5 := Lib.hid (BE4.out.trans (hb45.mono (by omega))); clear hb45 hb5; have d0 := B5.out.at0)
                | (go_at_call 66; refine (HD2.out _ _ R45.out).mono ?_; rintro e w6 ⟨rfl, hb6⟩; have B6 := Lib.hid (B5.out.next (by omega) hb6); have BE6 := Lib.hid (BE5.out.trans (hb6.mono (by omega))); clear hb6; have e0 := B6.out.at0))
                all_goals
                  go_wp2_with fail
                  refine bodyPost_ret (v := .tuple #[.int .i64 (k : Int), .bool true]) (by simp [results, Tryd.results35, go_sem]) rfl ?_
                  exact ⟨by rw [HT.out, HT2.out, fstN, fstB, HK.out]; rfl, B6.out.below⟩
              · have HK := Lib.hid (HN.out (by rw [HPE.out]; exact decide_eq_false hE))
                have hEb : (1 + M == qst ns) = false := by simpa using hE
                clear hE
                go_wp2_with fail
                go_region_held3 (fun w' => w'.cell? ⟨w.heap.size, 0, none⟩ = some (.int .i64 (m : Int))) (first | exact c0 | exact e0 | exact d0 | go_keep) (first
                | (go_at_call 66; refine (HD1.out _ _ (by first | exact R34.out | exact R34.out.below (k := w4.heap.size) (by go_grown) (Nat.le_refl _))).mono ?_; rintro e w5 ⟨rfl, hb5⟩; have hb45 : Below w4.heap.size w4 w5 := Below.trans (by first | exact Below.refl _ _ | exact (Below.refl _ _).drew) hb5; have R45 := Lib.hid (R4.out.below hb45 (Nat.le_refl _)); have B5 := Lib.hid (B4.out.next hs4 hb45); have hz5 := hb45.size; have BE5 := Lib.hid (BE4.out.trans (hb45.mono (by omega))); clear hb45 hb5; have d0 := B5.out.at0)
                | (go_at_call 66; refine (HD2.out _ _ R45.out).mono ?_; rintro e w6 ⟨rfl, hb6⟩; have B6 := Lib.hid (B5.out.next (by omega) hb6); have BE6 := Lib.hid (BE5.out.trans (hb6.mono (by omega))); clear hb6; have e0 := B6.out.at0))
                all_goals
                  go_wp2_with fail
                  go_roundw
                  case rel => exact ⟨k + 1, by omega, by go_num, HK, BE6.out⟩
                  case measure => simp [intOf]; omega
        · obtain rfl : k = m := by omega
          have HR := Lib.hid (show fst5 (fqP ns) = none from fst5_none (fun j _ => by
            by_cases e : j < k
            · exact HB.out j e
            · exact HGO.out j (by omega)))
          go_wp2_with fail
          refine bodyPost_ret (v := .tuple #[.int .i64 0, .bool false]) (by simp [results, Tryd.results35, go_sem]) rfl ?_
          exact ⟨by rw [HT.out, HT2.out, fstN, fstB, HR.out]; rfl, BR.out.below⟩
  · have HT := Lib.hid (show fqN n zs = 0 by rw [fqN, if_neg hv])
    have HT2 := Lib.hid (show fqB n zs = false by rw [fqB, if_neg hv])
    rw [Bool.not_eq_true] at hv
    have HV := Lib.hid hv
    clear hv
    go_enter Tryd.func35, Tryd.ntmps35
    go_wp2_with fail
    refine (specValid n _ zs _ (H.out.below (k := w.heap.size) (by go_grown) (Nat.le_refl _))).mono ?_
    rintro e w1 ⟨rfl, hb⟩
    rw [HV.out]
    have B1 := Lib.hid (B0.out.next (by simp) hb)
    clear hb
    go_wp2_with fail
    refine bodyPost_ret (v := .tuple #[.int .i64 0, .bool false]) (by simp [results, Tryd.results35, go_sem]) rfl ?_
    exact ⟨by rw [HT.out, HT2.out], B1.out.below⟩

end Go.Proofs.YthjbkjkfibiceaaDoor
