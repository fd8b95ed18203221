/- PackDistance, the program's and the model's. Conditions: Sets is a slice of ints. -/
import Derived.Deep.RegionHeld3
import Derived.Test.YtbjaacppomobeaaNear
import Derived.Test.YtbjaacppomobeaaZB
import Derived.Test.YtbjaacppomobeaaZC
import Derived.Test.YtbjaacppomobeaaZH
namespace Go.Proofs.Ytbjaacppomobeaa
open Go.RowKit

/-- the least distance so far, 0 for none -/
def pkStep (acc d : Int) : Int := if acc = 0 ∨ d < acc then d else acc
/-- behind the first k sets ahead of the i-th one -/
def pkIn (ns : List Nat) (i : Nat) (a : Int) : Nat → Int
  | 0 => a
  | k + 1 => pkStep (pkIn ns i a k) ((pc (ns.getD i 0 ^^^ ns.getD k 0) : Nat) : Int)
/-- behind the first i sets -/
def pkTo (ns : List Nat) : Nat → Int
  | 0 => 0
  | i + 1 => pkIn ns i (pkTo ns i) i
/-- PackDistance -/
def pkB (n : Int) (zs : List Int) : Int := if vldB n zs = true then pkTo (zs.map Int.toNat) zs.length else -1
theorem pkB_in {m : Nat} {ns : List Nat} (h : vldB (m : Int) (toI ns) = true) : pkB (m : Int) (toI ns) = pkTo ns ns.length := by rw [pkB, if_pos h, toNat_toI, toI_length]
theorem pkB_no {n : Int} {zs : List Int} (h : vldB n zs = false) : pkB n zs = -1 := by rw [pkB, if_neg (by rw [h]; simp)]
/-- a slice's capacity is no less than its length -/
def Capd (v : Value) : Prop := ∀ a n c, v = .slice a n c → n ≤ c
theorem Ints.capd {B : Nat} {w : World} {v : Value} {zs : List Int} (h : Ints B w v zs) : Capd v := by
  intro a n c e
  rcases h.2 with ⟨e2, _⟩ | ⟨g, cap, cur, e2, _, _, hnc, _⟩
  · rw [e2] at e
    simp only [Value.slice.injEq] at e
    omega
  · rw [e2] at e
    simp only [Value.slice.injEq] at e
    omega
theorem pkStep_bd {acc d : Int} (ha : 0 ≤ acc ∧ acc ≤ 5) (hd : 0 ≤ d ∧ d ≤ 5) : 0 ≤ pkStep acc d ∧ pkStep acc d ≤ 5 := by
  unfold pkStep
  split <;> omega
theorem pkIn_bd (ns : List Nat) (i : Nat) {a : Int} (ha : 0 ≤ a ∧ a ≤ 5) : ∀ k, 0 ≤ pkIn ns i a k ∧ pkIn ns i a k ≤ 5
  | 0 => ha
  | k + 1 => pkStep_bd (pkIn_bd ns i ha k) ⟨Int.natCast_nonneg _, by have := pc_le5 (ns.getD i 0 ^^^ ns.getD k 0); omega⟩
theorem pkTo_bd (ns : List Nat) : ∀ i, 0 ≤ pkTo ns i ∧ pkTo ns i ≤ 5
  | 0 => ⟨Int.le_refl _, by show (0 : Int) ≤ 5; omega⟩
  | i + 1 => pkIn_bd ns i (pkTo_bd ns i) i

set_option maxRecDepth 100000 in
set_option maxHeartbeats 3200000 in
theorem implPackDistance (n : Int) (v : Value) (zs : List Int) (w : World) (h : Rd w v zs) (hcv : Capd v) :
    Calls Try.prog 40 #[.agg #[.int .i64 n, v]] w fun e w' => e = .returned (.int .i64 (pkB n zs)) ∧ Below w.heap.size w w' := by
  have H := Lib.hid h
  have HV := Lib.hid (fun w h => implValid n v zs w h)
  obtain ⟨a, b, off, cap, rfl, h1, h3, h5⟩ := h
  have H1 := Lib.hid h1
  have H5 := Lib.hid h5
  clear h1 h5
  have hcap0 := hcv _ _ _ rfl
  clear hcv
  by_cases hv : vldB n zs = true
  · obtain ⟨m, ns, rfl, rfl, hc⟩ := vldB_cls hv
    have hm := hc.pts
    have hl := hc.length
    have H32 := Lib.hid hc.lt32
    rw [hv] at HV
    rw [pkB_in hv]
    rw [toI_length] at *
    have HE := Lib.hid (show ∀ j, j < ns.length → ns.getD j 0 < 32 from fun j hj => H32.out _ (getD_of_lt hj))
    clear hv hc
    go_enter Try.func40, Try.ntmps40
    go_wp2_with fail
    refine (HV.out _ (H.out.below (k := w.heap.size) (by go_grown) (Nat.le_refl _))).mono ?_
    rintro e w1 ⟨rfl, hb⟩
    have B1 := Lib.hid ((Box.made (m : Int) (.slice a ns.length cap) w _).next (by simp) hb)
    have hs1 : w.heap.size < w1.heap.size := by have := hb.size; simp at this; omega
    clear hb
    have HC := Lib.hid (show ∀ j, j < ns.length → w1.cell? ⟨b, off + j, none⟩ = some (.int .i64 ((ns.getD j 0 : Nat) : Int)) from fun j hj => by
      rw [← toI_getD]
      exact (B1.out.below.cell (p := ⟨b, off + j, none⟩) (H1.out (by omega)).2).trans (H5.out j hj))
    have HA := Lib.hid (show 0 < ns.length → a = some ⟨b, off, none⟩ from fun h => (H1.out h).1)
    have hcap : ns.length ≤ cap := hcap0
    have HBl := Lib.hid (show 0 < ns.length → b < w1.heap.size from fun h => Nat.lt_trans (H1.out h).2 hs1)
    generalize hL : ns.length = L at *
    have c0 := B1.out.at0
    have c1 := B1.out.at1
    go_wp2_with fail
    clear c0 c1
    go_loop [3, 15] (fun l i => ∃ k : Nat, k ≤ L ∧ i = .int .i64 k ∧ l = .int .i64 (pkTo ns k)) (fun _ i => L - (intOf i).toNat)
    case atStart => exact ⟨0, Nat.zero_le _, rfl, rfl⟩
    case round =>
      obtain ⟨k, hk, rfl, rfl⟩ := hrel
      by_cases hlt : k < L
      · obtain rfl := HA.out (by omega)
        have hx := HC.out k hlt
        have hx32 := HE.out k hlt
        have hbd := pkTo_bd ns k
        generalize hz : ns.getD k 0 = z at hx hx32
        have HZ := Lib.hid hz
        clear hz
        have c0 := B1.out.at0
        have c1 := B1.out.at1
        have hkI : (k : Int) < (L : Int) := by omega
        have hkc : (k : Int) ≤ (cap : Int) := by omega
        go_wp2_with fail
        clear c0 c1 hx
        go_loop [3, 25] (fun l i => ∃ q : Nat, q ≤ k ∧ i = .int .i64 q ∧ l = .int .i64 (pkIn ns k (pkTo ns k) q)) (fun _ i => k - (intOf i).toNat)
        case atStart => exact ⟨0, Nat.zero_le _, rfl, rfl⟩
        case round =>
          obtain ⟨q, hq, rfl, rfl⟩ := hrel
          by_cases hql : q < k
          · have hy := HC.out q (by omega)
            have hy32 := HE.out q (by omega)
            have HST := Lib.hid (show pkIn ns k (pkTo ns k) (q + 1) = pkStep (pkIn ns k (pkTo ns k) q) ((pc (ns.getD k 0 ^^^ ns.getD q 0) : Nat) : Int) from rfl)
            rw [HZ.out] at HST
            have hAb := pkIn_bd ns k hbd q
            have HX := Lib.hid (i64_xor z (ns.getD q 0) (by omega) (by omega))
            have HS := Lib.hid (fun w => implSizeOf (z ^^^ ns.getD q 0) (Nat.xor_lt_two_pow (n := 5) hx32 hy32) w)
            generalize hAe : pkIn ns k (pkTo ns k) q = A at *
            clear hAe
            generalize hxe : z ^^^ ns.getD q 0 = x at *
            clear hxe
            generalize hDe : ((pc x : Nat) : Int) = D at *
            clear hDe
            generalize ns.getD q 0 = y at *
            have hqI : (q : Int) < (k : Int) := by omega
            by_cases hA0 : A = 0
            · have hst : pkStep A D = D := by rw [pkStep, if_pos (.inl hA0)]
              have hab : (A == 0) = true := by simpa using hA0
              rw [hst] at HST
              clear hst
              go_wp2_with fail
              rw [HX.out]
              refine (HS.out _).mono ?_
              rintro e w9 ⟨rfl, hw9⟩
              subst w9
              go_wp2_with fail
              go_round
              case rel => exact ⟨q + 1, by omega, by go_num, by rw [HST.out]⟩
              case measure => simp [intOf]; omega
            · by_cases hAd : D < A
              · have hst : pkStep A D = D := by rw [pkStep, if_pos (.inr hAd)]
                have hab : (A == 0) = false := by simpa using hA0
                have hdb : decide (D < A) = true := decide_eq_true hAd
                rw [hst] at HST
                clear hst
                go_wp2_with fail
                rw [HX.out]
                refine (HS.out _).mono ?_
                rintro e w9 ⟨rfl, hw9⟩
                subst w9
                go_wp2_with fail
                go_round
                case rel => exact ⟨q + 1, by omega, by go_num, by rw [HST.out]⟩
                case measure => simp [intOf]; omega
              · have hst : pkStep A D = A := by rw [pkStep, if_neg (by omega)]
                have hab : (A == 0) = false := by simpa using hA0
                have hdb : decide (D < A) = false := decide_eq_false hAd
                rw [hst] at HST
                clear hst
                go_wp2_with fail
                rw [HX.out]
                refine (HS.out _).mono ?_
                rintro e w9 ⟨rfl, hw9⟩
                subst w9
                go_wp2_with fail
                go_round
                case rel => exact ⟨q + 1, by omega, by go_num, by rw [HST.out]⟩
                case measure => simp [intOf]; omega
          · obtain rfl : q = k := by omega
            have HT := Lib.hid (show pkTo ns (q + 1) = pkIn ns q (pkTo ns q) q from rfl)
            go_wp2_with fail
            go_round
            case rel => exact ⟨q + 1, by omega, by go_num, by rw [HT.out]⟩
            case measure => simp [intOf]; omega
      · obtain rfl : k = L := by omega
        go_wp2_with fail
        go_ret
        exact ⟨rfl, B1.out.below⟩
  · rw [Bool.not_eq_true] at hv
    rw [pkB_no hv]
    rw [hv] at HV
    clear hv
    go_enter Try.func40, Try.ntmps40
    go_wp2_with fail
    refine (HV.out _ (H.out.below (k := w.heap.size) (by go_grown) (Nat.le_refl _))).mono ?_
    rintro e w1 ⟨rfl, hb⟩
    have B1 := Lib.hid ((Box.made n (.slice a zs.length cap) w _).next (by simp) hb)
    clear hb
    go_wp2_with fail
    go_ret
    exact ⟨rfl, B1.out.below⟩

set_option maxRecDepth 100000 in
set_option maxHeartbeats 3200000 in
theorem specPackDistance (n : Int) (v : Value) (zs : List Int) (w : World) (h : Rd w v zs) :
    Calls Try.prog 41 #[.agg #[.int .i64 n, v]] w fun e w' => e = .returned (.int .i64 (pkB n zs)) ∧ Below w.heap.size w w' := by
  have H := Lib.hid h
  have HV := Lib.hid (fun w h => specValid n v zs w h)
  obtain ⟨a, b, off, cap, rfl, h1, h3, h5⟩ := h
  have H1 := Lib.hid h1
  have H5 := Lib.hid h5
  clear h1 h5
  by_cases hv : vldB n zs = true
  · obtain ⟨m, ns, rfl, rfl, hc⟩ := vldB_cls hv
    have hm := hc.pts
    have hl := hc.length
    have H32 := Lib.hid hc.lt32
    rw [hv] at HV
    rw [pkB_in hv]
    rw [toI_length] at *
    have HE := Lib.hid (show ∀ j, j < ns.length → ns.getD j 0 < 32 from fun j hj => H32.out _ (getD_of_lt hj))
    clear hv hc
    go_enter Try.func41, Try.ntmps41
    go_wp2_with fail
    refine (HV.out _ (H.out.below (k := w.heap.size) (by go_grown) (Nat.le_refl _))).mono ?_
    rintro e w1 ⟨rfl, hb⟩
    have B1 := Lib.hid ((Box.made (m : Int) (.slice a ns.length cap) w _).next (by simp) hb)
    have hs1 : w.heap.size < w1.heap.size := by have := hb.size; simp at this; omega
    clear hb
    have HC := Lib.hid (show ∀ j, j < ns.length → w1.cell? ⟨b, off + j, none⟩ = some (.int .i64 ((ns.getD j 0 : Nat) : Int)) from fun j hj => by
      rw [← toI_getD]
      exact (B1.out.below.cell (p := ⟨b, off + j, none⟩) (H1.out (by omega)).2).trans (H5.out j hj))
    have HA := Lib.hid (show 0 < ns.length → a = some ⟨b, off, none⟩ from fun h => (H1.out h).1)
    have HBl := Lib.hid (show 0 < ns.length → b < w1.heap.size from fun h => Nat.lt_trans (H1.out h).2 hs1)
    generalize hL : ns.length = L at *
    have c0 := B1.out.at0
    have c1 := B1.out.at1
    go_wp2_with fail
    clear c0 c1
    go_loopw [3, 4] (fun l i wr => ∃ k : Nat, k ≤ L ∧ i = .int .i64 k ∧ l = .int .i64 (pkTo ns k) ∧ Below w1.heap.size w1 wr) (fun _ i _ => L - (intOf i).toNat)
    case atStart => exact ⟨0, Nat.zero_le _, rfl, rfl, Below.refl _ _⟩
    case round =>
      obtain ⟨k, hk, rfl, rfl, hbe⟩ := hrel
      have HBE := Lib.hid hbe
      have B2 := Lib.hid (B1.out.next hs1 hbe)
      have HC2 := Lib.hid (show ∀ j, j < L → wr.cell? ⟨b, off + j, none⟩ = some (.int .i64 ((ns.getD j 0 : Nat) : Int)) from fun j hj => (hbe.cell (p := ⟨b, off + j, none⟩) (HBl.out (by omega))).trans (HC.out j hj))
      have hzr := hbe.size
      clear hbe
      by_cases hlt : k < L
      · obtain rfl := HA.out (by omega)
        have hx := HC2.out k hlt
        have hx32 := HE.out k hlt
        have hbd := pkTo_bd ns k
        generalize hz : ns.getD k 0 = z at hx hx32
        have HZ := Lib.hid hz
        clear hz
        have c0 := B2.out.at0
        have c1 := B2.out.at1
        have hkI : (k : Int) < (L : Int) := by omega
        go_wp2_with fail
        clear c0 c1 hx
        go_loopw [3, 5] (fun l i ws => ∃ q : Nat, q ≤ k ∧ i = .int .i64 q ∧ l = .int .i64 (pkIn ns k (pkTo ns k) q) ∧ Below w1.heap.size w1 ws) (fun _ i _ => k - (intOf i).toNat)
        case atStart => exact ⟨0, Nat.zero_le _, rfl, rfl, HBE.out⟩
        case round =>
          rename_i ws
          obtain ⟨q, hq, rfl, rfl, hbe⟩ := hrel
          have HBS := Lib.hid hbe
          by_cases hql : q < k
          · have hx := (hbe.cell (p := ⟨b, off + k, none⟩) (HBl.out (by omega))).trans (HC.out k hlt)
            have hy := (hbe.cell (p := ⟨b, off + q, none⟩) (HBl.out (by omega))).trans (HC.out q (by omega))
            rw [HZ.out] at hx
            have B3 := Lib.hid (B1.out.next hs1 hbe)
            clear hbe
            have hy32 := HE.out q (by omega)
            have HST := Lib.hid (show pkIn ns k (pkTo ns k) (q + 1) = pkStep (pkIn ns k (pkTo ns k) q) ((pc (ns.getD k 0 ^^^ ns.getD q 0) : Nat) : Int) from rfl)
            rw [HZ.out] at HST
            have hAb := pkIn_bd ns k hbd q
            have HX := Lib.hid (fun w => specFlip z (ns.getD q 0) (by omega) (by omega) w)
            have HS := Lib.hid (fun w => specSize (z ^^^ ns.getD q 0) (Nat.xor_lt_two_pow (n := 5) hx32 hy32) w)
            generalize hAe : pkIn ns k (pkTo ns k) q = A at *
            clear hAe
            generalize hxe : z ^^^ ns.getD q 0 = x at *
            clear hxe
            generalize hDe : ((pc x : Nat) : Int) = D at *
            clear hDe
            generalize ns.getD q 0 = y at *
            have hqI : (q : Int) < (k : Int) := by omega
            have hqL : (q : Int) < (L : Int) := by omega
            have c0 := B3.out.at0
            have c1 := B3.out.at1
            by_cases hA0 : A = 0
            · have hst : pkStep A D = D := by rw [pkStep, if_pos (.inl hA0)]
              have hab : (A == 0) = true := by simpa using hA0
              rw [hst] at HST
              clear hst
              go_wp2_with fail
              refine wp_region_held_drew (S := fun w' => w'.cell? ⟨w.heap.size, 0, none⟩ = some (.int .i64 (m : Int)) ∧ w'.cell? ⟨w.heap.size, 1, none⟩ = some (.slice (some ⟨b, off, none⟩) L cap) ∧ w'.cell? ⟨b, off + k, none⟩ = some (.int .i64 (z : Int)) ∧ w'.cell? ⟨b, off + q, none⟩ = some (.int .i64 (y : Int))) (by kernel_rfl) (by first | exact ⟨c0, c1, hx, hy⟩ | go_keep) (fun hHeld => ?_)
              refine wpAnyH_take (i := 0) (v := ?_) rfl (by kernel_rfl) (by kernel_rfl) (by kernel_rfl) (fun _ _ _ h => h) (Or.inl ⟨by rfl, ?_⟩) (by assumption) ?_
              rotate_left
              · (intro w hSw; (try dsimp only at hSw); go_simp; try with_reducible rfl)
              try simp only [List.getElem_toArray, List.getElem_cons_zero, Act.put, List.setIfInBounds_toArray, List.set_cons_zero, List.set_cons_succ]
              refine wpAnyH_take (i := 1) (v := ?_) rfl (by kernel_rfl) (by kernel_rfl) (by kernel_rfl) (fun _ _ _ h => h) (Or.inl ⟨by rfl, ?_⟩) (by assumption) ?_
              rotate_left
              · (intro w hSw; (try dsimp only at hSw); go_simp; try with_reducible rfl)
              try simp only [List.getElem_toArray, List.getElem_cons_zero, List.getElem_cons_succ, Act.put, List.setIfInBounds_toArray, List.set_cons_zero, List.set_cons_succ]
              refine wpAnyH_take (i := 2) (v := ?_) rfl (by kernel_rfl) (by kernel_rfl) (by kernel_rfl) (fun _ _ _ h => h) (Or.inl ⟨by rfl, ?_⟩) (by assumption) ?_
              rotate_left
              · (intro w hSw; (try dsimp only at hSw); go_simp; try with_reducible rfl)
              try simp only [List.getElem_toArray, List.getElem_cons_zero, List.getElem_cons_succ, Act.put, List.setIfInBounds_toArray, List.set_cons_zero, List.set_cons_succ]
              refine wpAnyH_take (i := 3) (v := ?_) rfl (by kernel_rfl) (by kernel_rfl) (by kernel_rfl) (fun _ _ _ h => h) (Or.inl ⟨by rfl, ?_⟩) (by assumption) ?_
              rotate_left
              · (intro w hSw; (try dsimp only at hSw); go_simp; try with_reducible rfl)
              try simp only [List.getElem_toArray, List.getElem_cons_zero, List.getElem_cons_succ, Act.put, List.setIfInBounds_toArray, List.set_cons_zero, List.set_cons_succ]
              refine wpAnyH_take (i := 4) (v := ?_) rfl (by kernel_rfl) (by kernel_rfl) (by kernel_rfl) (fun _ _ _ h => h) (Or.inl ⟨by rfl, ?_⟩) (by assumption) ?_
              rotate_left
              · (intro w hSw; (try dsimp only at hSw); go_simp; try with_reducible rfl)
              try simp only [List.getElem_toArray, List.getElem_cons_zero, List.getElem_cons_succ, Act.put, List.setIfInBounds_toArray, List.set_cons_zero, List.set_cons_succ]
              refine wpAnyH_take (i := 5) (v := ?_) rfl (by kernel_rfl) (by kernel_rfl) (by kernel_rfl) (fun _ _ _ h => h) (Or.inl ⟨by rfl, ?_⟩) (by assumption) ?_
              rotate_left
              · (intro w hSw; (try dsimp only at hSw); go_simp; try with_reducible rfl)
              try simp only [List.getElem_toArray, List.getElem_cons_zero, List.getElem_cons_succ, Act.put, List.setIfInBounds_toArray, List.set_cons_zero, List.set_cons_succ]
              refine wpAnyH_take (i := 6) (v := ?_) rfl (by kernel_rfl) (by kernel_rfl) (by kernel_rfl) (fun _ _ _ h => h) (Or.inl ⟨by rfl, ?_⟩) (by assumption) ?_
              rotate_left
              · (intro w hSw; (try dsimp only at hSw); go_simp; try with_reducible rfl)
              try simp only [List.getElem_toArray, List.getElem_cons_zero, List.getElem_cons_succ, Act.put, List.setIfInBounds_toArray, List.set_cons_zero, List.set_cons_succ]
              refine wpAnyH_take (i := 7) (v := ?_) rfl (by kernel_rfl) (by kernel_rfl) (by kernel_rfl) (fun _ _ _ h => h) (Or.inl ⟨by rfl, ?_⟩) (by assumption) ?_
              rotate_left
              · (intro w hSw; (try dsimp only at hSw); go_simp; try with_reducible rfl)
              try simp only [List.getElem_toArray, List.getElem_cons_zero, List.getElem_cons_succ, Act.put, List.setIfInBounds_toArray, List.set_cons_zero, List.set_cons_succ]
              refine wpAnyH_take (i := 8) (v := ?_) rfl (by kernel_rfl) (by kernel_rfl) (by kernel_rfl) (fun _ _ _ h => h) (Or.inl ⟨by rfl, ?_⟩) (by assumption) ?_
              rotate_left
              · (intro w hSw; (try dsimp only at hSw); go_simp; try with_reducible rfl)
              try simp only [List.getElem_toArray, List.getElem_cons_zero, List.getElem_cons_succ, Act.put, List.setIfInBounds_toArray, List.set_cons_zero, List.set_cons_succ]
              refine wpAnyH_take (i := 9) (v := ?_) rfl (by kernel_rfl) (by kernel_rfl) (by kernel_rfl) (fun _ _ _ h => h) (Or.inl ⟨by rfl, ?_⟩) (by assumption) ?_
              rotate_left
              · (intro w hSw; (try dsimp only at hSw); go_simp; try with_reducible rfl)
              try simp only [List.getElem_toArray, List.getElem_cons_zero, List.getElem_cons_succ, Act.put, List.setIfInBounds_toArray, List.set_cons_zero, List.set_cons_succ]
              refine wpAnyH_ready (rs := [10]) (by kernel_rfl) (by simp) ?_
              refine AllReadyH.cons rfl (fun K hK => ?_) AllReadyH.nil
              try simp only [List.getElem_toArray]
              go_simp
              (go_at_call 90; refine (HX.out _).mono ?_; rintro e w8 ⟨rfl, hw8⟩; subst w8)
              refine hK.out _ _ (by first | exact ⟨c0, c1, hx, hy⟩ | go_keep) (fun hHeld => ?_)
              clear hK K
              try simp only [List.getElem_toArray, List.getElem_cons_zero, List.getElem_cons_succ, Act.put, List.setIfInBounds_toArray, List.set_cons_zero, List.set_cons_succ]
              refine wpAnyH_ready (rs := [11]) (by kernel_rfl) (by simp) ?_
              refine AllReadyH.cons rfl (fun K hK => ?_) AllReadyH.nil
              try simp only [List.getElem_toArray]
              go_simp
              (go_at_call 89; refine (HS.out _).mono ?_; rintro e w9 ⟨rfl, hw9⟩; subst w9)
              refine hK.out _ _ (by first | exact ⟨c0, c1, hx, hy⟩ | go_keep) (fun hHeld => ?_)
              clear hK K
              try simp only [List.getElem_toArray, List.getElem_cons_zero, List.getElem_cons_succ, Act.put, List.setIfInBounds_toArray, List.set_cons_zero, List.set_cons_succ]
              refine wpAnyH_take (i := 12) (v := ?_) rfl (by kernel_rfl) (by kernel_rfl) (by kernel_rfl) (fun _ _ _ h => h) (Or.inl ⟨by rfl, ?_⟩) (by assumption) ?_
              rotate_left
              · (intro w hSw; (try dsimp only at hSw); go_simp; try with_reducible rfl)
              try simp only [List.getElem_toArray, List.getElem_cons_zero, List.getElem_cons_succ, Act.put, List.setIfInBounds_toArray, List.set_cons_zero, List.set_cons_succ]
              refine wpAnyH_done (by kernel_rfl) ?_ _
              go_wp2_with fail
              go_roundw
              case rel => exact ⟨q + 1, by omega, by go_num, by rw [HST.out], by first | exact HBS.out | exact HBS.out.drew⟩
              case measure => simp [intOf]; omega
            · by_cases hAd : D < A
              · have hst : pkStep A D = D := by rw [pkStep, if_pos (.inr hAd)]
                have hab : (A == 0) = false := by simpa using hA0
                have hdb : decide (D < A) = true := decide_eq_true hAd
                rw [hst] at HST
                clear hst
                go_wp2_with fail
                refine wp_region_held_drew (S := fun w' => w'.cell? ⟨w.heap.size, 0, none⟩ = some (.int .i64 (m : Int)) ∧ w'.cell? ⟨w.heap.size, 1, none⟩ = some (.slice (some ⟨b, off, none⟩) L cap) ∧ w'.cell? ⟨b, off + k, none⟩ = some (.int .i64 (z : Int)) ∧ w'.cell? ⟨b, off + q, none⟩ = some (.int .i64 (y : Int))) (by kernel_rfl) (by first | exact ⟨c0, c1, hx, hy⟩ | go_keep) (fun hHeld => ?_)
                refine wpAnyH_take (i := 0) (v := ?_) rfl (by kernel_rfl) (by kernel_rfl) (by kernel_rfl) (fun _ _ _ h => h) (Or.inl ⟨by rfl, ?_⟩) (by assumption) ?_
                rotate_left
                · (intro w hSw; (try dsimp only at hSw); go_simp; try with_reducible rfl)
                try simp only [List.getElem_toArray, List.getElem_cons_zero, Act.put, List.setIfInBounds_toArray, List.set_cons_zero, List.set_cons_succ]
                refine wpAnyH_take (i := 1) (v := ?_) rfl (by kernel_rfl) (by kernel_rfl) (by kernel_rfl) (fun _ _ _ h => h) (Or.inl ⟨by rfl, ?_⟩) (by assumption) ?_
                rotate_left
                · (intro w hSw; (try dsimp only at hSw); go_simp; try with_reducible rfl)
                try simp only [List.getElem_toArray, List.getElem_cons_zero, List.getElem_cons_succ, Act.put, List.setIfInBounds_toArray, List.set_cons_zero, List.set_cons_succ]
                refine wpAnyH_take (i := 2) (v := ?_) rfl (by kernel_rfl) (by kernel_rfl) (by kernel_rfl) (fun _ _ _ h => h) (Or.inl ⟨by rfl, ?_⟩) (by assumption) ?_
                rotate_left
                · (intro w hSw; (try dsimp only at hSw); go_simp; try with_reducible rfl)
                try simp only [List.getElem_toArray, List.getElem_cons_zero, List.getElem_cons_succ, Act.put, List.setIfInBounds_toArray, List.set_cons_zero, List.set_cons_succ]
                refine wpAnyH_take (i := 3) (v := ?_) rfl (by kernel_rfl) (by kernel_rfl) (by kernel_rfl) (fun _ _ _ h => h) (Or.inl ⟨by rfl, ?_⟩) (by assumption) ?_
                rotate_left
                · (intro w hSw; (try dsimp only at hSw); go_simp; try with_reducible rfl)
                try simp only [List.getElem_toArray, List.getElem_cons_zero, List.getElem_cons_succ, Act.put, List.setIfInBounds_toArray, List.set_cons_zero, List.set_cons_succ]
                refine wpAnyH_take (i := 4) (v := ?_) rfl (by kernel_rfl) (by kernel_rfl) (by kernel_rfl) (fun _ _ _ h => h) (Or.inl ⟨by rfl, ?_⟩) (by assumption) ?_
                rotate_left
                · (intro w hSw; (try dsimp only at hSw); go_simp; try with_reducible rfl)
                try simp only [List.getElem_toArray, List.getElem_cons_zero, List.getElem_cons_succ, Act.put, List.setIfInBounds_toArray, List.set_cons_zero, List.set_cons_succ]
                refine wpAnyH_take (i := 5) (v := ?_) rfl (by kernel_rfl) (by kernel_rfl) (by kernel_rfl) (fun _ _ _ h => h) (Or.inl ⟨by rfl, ?_⟩) (by assumption) ?_
                rotate_left
                · (intro w hSw; (try dsimp only at hSw); go_simp; try with_reducible rfl)
                try simp only [List.getElem_toArray, List.getElem_cons_zero, List.getElem_cons_succ, Act.put, List.setIfInBounds_toArray, List.set_cons_zero, List.set_cons_succ]
                refine wpAnyH_take (i := 6) (v := ?_) rfl (by kernel_rfl) (by kernel_rfl) (by kernel_rfl) (fun _ _ _ h => h) (Or.inl ⟨by rfl, ?_⟩) (by assumption) ?_
                rotate_left
                · (intro w hSw; (try dsimp only at hSw); go_simp; try with_reducible rfl)
                try simp only [List.getElem_toArray, List.getElem_cons_zero, List.getElem_cons_succ, Act.put, List.setIfInBounds_toArray, List.set_cons_zero, List.set_cons_succ]
                refine wpAnyH_take (i := 7) (v := ?_) rfl (by kernel_rfl) (by kernel_rfl) (by kernel_rfl) (fun _ _ _ h => h) (Or.inl ⟨by rfl, ?_⟩) (by assumption) ?_
                rotate_left
                · (intro w hSw; (try dsimp only at hSw); go_simp; try with_reducible rfl)
                try simp only [List.getElem_toArray, List.getElem_cons_zero, List.getElem_cons_succ, Act.put, List.setIfInBounds_toArray, List.set_cons_zero, List.set_cons_succ]
                refine wpAnyH_take (i := 8) (v := ?_) rfl (by kernel_rfl) (by kernel_rfl) (by kernel_rfl) (fun _ _ _ h => h) (Or.inl ⟨by rfl, ?_⟩) (by assumption) ?_
                rotate_left
                · (intro w hSw; (try dsimp only at hSw); go_simp; try with_reducible rfl)
                try simp only [List.getElem_toArray, List.getElem_cons_zero, List.getElem_cons_succ, Act.put, List.setIfInBounds_toArray, List.set_cons_zero, List.set_cons_succ]
                refine wpAnyH_take (i := 9) (v := ?_) rfl (by kernel_rfl) (by kernel_rfl) (by kernel_rfl) (fun _ _ _ h => h) (Or.inl ⟨by rfl, ?_⟩) (by assumption) ?_
                rotate_left
                · (intro w hSw; (try dsimp only at hSw); go_simp; try with_reducible rfl)
                try simp only [List.getElem_toArray, List.getElem_cons_zero, List.getElem_cons_succ, Act.put, List.setIfInBounds_toArray, List.set_cons_zero, List.set_cons_succ]
                refine wpAnyH_ready (rs := [10]) (by kernel_rfl) (by simp) ?_
                refine AllReadyH.cons rfl (fun K hK => ?_) AllReadyH.nil
                try simp only [List.getElem_toArray]
                go_simp
                (go_at_call 90; refine (HX.out _).mono ?_; rintro e w8 ⟨rfl, hw8⟩; subst w8)
                refine hK.out _ _ (by first | exact ⟨c0, c1, hx, hy⟩ | go_keep) (fun hHeld => ?_)
                clear hK K
                try simp only [List.getElem_toArray, List.getElem_cons_zero, List.getElem_cons_succ, Act.put, List.setIfInBounds_toArray, List.set_cons_zero, List.set_cons_succ]
                refine wpAnyH_ready (rs := [11]) (by kernel_rfl) (by simp) ?_
                refine AllReadyH.cons rfl (fun K hK => ?_) AllReadyH.nil
                try simp only [List.getElem_toArray]
                go_simp
                (go_at_call 89; refine (HS.out _).mono ?_; rintro e w9 ⟨rfl, hw9⟩; subst w9)
                refine hK.out _ _ (by first | exact ⟨c0, c1, hx, hy⟩ | go_keep) (fun hHeld => ?_)
                clear hK K
                try simp only [List.getElem_toArray, List.getElem_cons_zero, List.getElem_cons_succ, Act.put, List.setIfInBounds_toArray, List.set_cons_zero, List.set_cons_succ]
                refine wpAnyH_take (i := 12) (v := ?_) rfl (by kernel_rfl) (by kernel_rfl) (by kernel_rfl) (fun _ _ _ h => h) (Or.inl ⟨by rfl, ?_⟩) (by assumption) ?_
                rotate_left
                · (intro w hSw; (try dsimp only at hSw); go_simp; try with_reducible rfl)
                try simp only [List.getElem_toArray, List.getElem_cons_zero, List.getElem_cons_succ, Act.put, List.setIfInBounds_toArray, List.set_cons_zero, List.set_cons_succ]
                refine wpAnyH_done (by kernel_rfl) ?_ _
                go_wp2_with fail
                go_roundw
                case rel => exact ⟨q + 1, by omega, by go_num, by rw [HST.out], by first | exact HBS.out | exact HBS.out.drew⟩
                case measure => simp [intOf]; omega
              · have hst : pkStep A D = A := by rw [pkStep, if_neg (by omega)]
                have hab : (A == 0) = false := by simpa using hA0
                have hdb : decide (D < A) = false := decide_eq_false hAd
                rw [hst] at HST
                clear hst
                go_wp2_with fail
                refine wp_region_held_drew (S := fun w' => w'.cell? ⟨w.heap.size, 0, none⟩ = some (.int .i64 (m : Int)) ∧ w'.cell? ⟨w.heap.size, 1, none⟩ = some (.slice (some ⟨b, off, none⟩) L cap) ∧ w'.cell? ⟨b, off + k, none⟩ = some (.int .i64 (z : Int)) ∧ w'.cell? ⟨b, off + q, none⟩ = some (.int .i64 (y : Int))) (by kernel_rfl) (by first | exact ⟨c0, c1, hx, hy⟩ | go_keep) (fun hHeld => ?_)
                refine wpAnyH_take (i := 0) (v := ?_) rfl (by kernel_rfl) (by kernel_rfl) (by kernel_rfl) (fun _ _ _ h => h) (Or.inl ⟨by rfl, ?_⟩) (by assumption) ?_
                rotate_left
                · (intro w hSw; (try dsimp only at hSw); go_simp; try with_reducible rfl)
                try simp only [List.getElem_toArray, List.getElem_cons_zero, Act.put, List.setIfInBounds_toArray, List.set_cons_zero, List.set_cons_succ]
                refine wpAnyH_take (i := 1) (v := ?_) rfl (by kernel_rfl) (by kernel_rfl) (by kernel_rfl) (fun _ _ _ h => h) (Or.inl ⟨by rfl, ?_⟩) (by assumption) ?_
                rotate_left
                · (intro w hSw; (try dsimp only at hSw); go_simp; try with_reducible rfl)
                try simp only [List.getElem_toArray, List.getElem_cons_zero, List.getElem_cons_succ, Act.put, List.setIfInBounds_toArray, List.set_cons_zero, List.set_cons_succ]
                refine wpAnyH_take (i := 2) (v := ?_) rfl (by kernel_rfl) (by kernel_rfl) (by kernel_rfl) (fun _ _ _ h => h) (Or.inl ⟨by rfl, ?_⟩) (by assumption) ?_
                rotate_left
                · (intro w hSw; (try dsimp only at hSw); go_simp; try with_reducible rfl)
                try simp only [List.getElem_toArray, List.getElem_cons_zero, List.getElem_cons_succ, Act.put, List.setIfInBounds_toArray, List.set_cons_zero, List.set_cons_succ]
                refine wpAnyH_take (i := 3) (v := ?_) rfl (by kernel_rfl) (by kernel_rfl) (by kernel_rfl) (fun _ _ _ h => h) (Or.inl ⟨by rfl, ?_⟩) (by assumption) ?_
                rotate_left
                · (intro w hSw; (try dsimp only at hSw); go_simp; try with_reducible rfl)
                try simp only [List.getElem_toArray, List.getElem_cons_zero, List.getElem_cons_succ, Act.put, List.setIfInBounds_toArray, List.set_cons_zero, List.set_cons_succ]
                refine wpAnyH_take (i := 4) (v := ?_) rfl (by kernel_rfl) (by kernel_rfl) (by kernel_rfl) (fun _ _ _ h => h) (Or.inl ⟨by rfl, ?_⟩) (by assumption) ?_
                rotate_left
                · (intro w hSw; (try dsimp only at hSw); go_simp; try with_reducible rfl)
                try simp only [List.getElem_toArray, List.getElem_cons_zero, List.getElem_cons_succ, Act.put, List.setIfInBounds_toArray, List.set_cons_zero, List.set_cons_succ]
                refine wpAnyH_take (i := 5) (v := ?_) rfl (by kernel_rfl) (by kernel_rfl) (by kernel_rfl) (fun _ _ _ h => h) (Or.inl ⟨by rfl, ?_⟩) (by assumption) ?_
                rotate_left
                · (intro w hSw; (try dsimp only at hSw); go_simp; try with_reducible rfl)
                try simp only [List.getElem_toArray, List.getElem_cons_zero, List.getElem_cons_succ, Act.put, List.setIfInBounds_toArray, List.set_cons_zero, List.set_cons_succ]
                refine wpAnyH_take (i := 6) (v := ?_) rfl (by kernel_rfl) (by kernel_rfl) (by kernel_rfl) (fun _ _ _ h => h) (Or.inl ⟨by rfl, ?_⟩) (by assumption) ?_
                rotate_left
                · (intro w hSw; (try dsimp only at hSw); go_simp; try with_reducible rfl)
                try simp only [List.getElem_toArray, List.getElem_cons_zero, List.getElem_cons_succ, Act.put, List.setIfInBounds_toArray, List.set_cons_zero, List.set_cons_succ]
                refine wpAnyH_take (i := 7) (v := ?_) rfl (by kernel_rfl) (by kernel_rfl) (by kernel_rfl) (fun _ _ _ h => h) (Or.inl ⟨by rfl, ?_⟩) (by assumption) ?_
                rotate_left
                · (intro w hSw; (try dsimp only at hSw); go_simp; try with_reducible rfl)
                try simp only [List.getElem_toArray, List.getElem_cons_zero, List.getElem_cons_succ, Act.put, List.setIfInBounds_toArray, List.set_cons_zero, List.set_cons_succ]
                refine wpAnyH_take (i := 8) (v := ?_) rfl (by kernel_rfl) (by kernel_rfl) (by kernel_rfl) (fun _ _ _ h => h) (Or.inl ⟨by rfl, ?_⟩) (by assumption) ?_
                rotate_left
                · (intro w hSw; (try dsimp only at hSw); go_simp; try with_reducible rfl)
                try simp only [List.getElem_toArray, List.getElem_cons_zero, List.getElem_cons_succ, Act.put, List.setIfInBounds_toArray, List.set_cons_zero, List.set_cons_succ]
                refine wpAnyH_take (i := 9) (v := ?_) rfl (by kernel_rfl) (by kernel_rfl) (by kernel_rfl) (fun _ _ _ h => h) (Or.inl ⟨by rfl, ?_⟩) (by assumption) ?_
                rotate_left
                · (intro w hSw; (try dsimp only at hSw); go_simp; try with_reducible rfl)
                try simp only [List.getElem_toArray, List.getElem_cons_zero, List.getElem_cons_succ, Act.put, List.setIfInBounds_toArray, List.set_cons_zero, List.set_cons_succ]
                refine wpAnyH_ready (rs := [10]) (by kernel_rfl) (by simp) ?_
                refine AllReadyH.cons rfl (fun K hK => ?_) AllReadyH.nil
                try simp only [List.getElem_toArray]
                go_simp
                (go_at_call 90; refine (HX.out _).mono ?_; rintro e w8 ⟨rfl, hw8⟩; subst w8)
                refine hK.out _ _ (by first | exact ⟨c0, c1, hx, hy⟩ | go_keep) (fun hHeld => ?_)
                clear hK K
                try simp only [List.getElem_toArray, List.getElem_cons_zero, List.getElem_cons_succ, Act.put, List.setIfInBounds_toArray, List.set_cons_zero, List.set_cons_succ]
                refine wpAnyH_ready (rs := [11]) (by kernel_rfl) (by simp) ?_
                refine AllReadyH.cons rfl (fun K hK => ?_) AllReadyH.nil
                try simp only [List.getElem_toArray]
                go_simp
                (go_at_call 89; refine (HS.out _).mono ?_; rintro e w9 ⟨rfl, hw9⟩; subst w9)
                refine hK.out _ _ (by first | exact ⟨c0, c1, hx, hy⟩ | go_keep) (fun hHeld => ?_)
                clear hK K
                try simp only [List.getElem_toArray, List.getElem_cons_zero, List.getElem_cons_succ, Act.put, List.setIfInBounds_toArray, List.set_cons_zero, List.set_cons_succ]
                refine wpAnyH_take (i := 12) (v := ?_) rfl (by kernel_rfl) (by kernel_rfl) (by kernel_rfl) (fun _ _ _ h => h) (Or.inl ⟨by rfl, ?_⟩) (by assumption) ?_
                rotate_left
                · (intro w hSw; (try dsimp only at hSw); go_simp; try with_reducible rfl)
                try simp only [List.getElem_toArray, List.getElem_cons_zero, List.getElem_cons_succ, Act.put, List.setIfInBounds_toArray, List.set_cons_zero, List.set_cons_succ]
                refine wpAnyH_done (by kernel_rfl) ?_ _
                go_wp2_with fail
                go_roundw
                case rel => exact ⟨q + 1, by omega, by go_num, by rw [HST.out], by first | exact HBS.out | exact HBS.out.drew⟩
                case measure => simp [intOf]; omega
          · obtain rfl : q = k := by omega
            have HT := Lib.hid (show pkTo ns (q + 1) = pkIn ns q (pkTo ns q) q from rfl)
            go_wp2_with fail
            go_roundw
            case rel => exact ⟨q + 1, by omega, by go_num, by rw [HT.out], HBS.out⟩
            case measure => simp [intOf]; omega
      · obtain rfl : k = L := by omega
        have c0 := B2.out.at0
        have c1 := B2.out.at1
        go_wp2_with fail
        go_ret
        exact ⟨ret_int (by rw [hL]), B2.out.below⟩
  · rw [Bool.not_eq_true] at hv
    rw [pkB_no hv]
    rw [hv] at HV
    clear hv
    go_enter Try.func41, Try.ntmps41
    go_wp2_with fail
    refine (HV.out _ (H.out.below (k := w.heap.size) (by go_grown) (Nat.le_refl _))).mono ?_
    rintro e w1 ⟨rfl, hb⟩
    have B1 := Lib.hid ((Box.made n (.slice a zs.length cap) w _).next (by simp) hb)
    clear hb
    go_wp2_with fail
    go_ret
    exact ⟨rfl, B1.out.below⟩

end Go.Proofs.Ytbjaacppomobeaa
