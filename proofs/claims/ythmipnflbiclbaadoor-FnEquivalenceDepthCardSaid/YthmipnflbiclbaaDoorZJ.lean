/- The laws' own helpers: equality of lists, membership, size. Conditions: what the slices hold. The laws' own helpers: among, ascends, subset, points. Conditions: what the slices hold. -/
import Derived.Test.YthmipnflbiclbaaDoorComplS
import Derived.Test.YthmipnflbiclbaaDoorZA
import Derived.Test.YthmipnflbiclbaaDoorZB
import Derived.Test.YthmipnflbiclbaaDoorZH
namespace Go.Proofs.YthmipnflbiclbaaDoor
open Go.RowKit


set_option maxHeartbeats 800000 in
set_option maxRecDepth 100000 in
theorem lawsEqualInts (va vb : Value) (za zb : List Int) (w : World) (ha : Rd w va za) (hb : Rd w vb zb) :
    Calls Tryd.prog 26 #[va, vb] w fun e w' => e = .returned (.bool (eqB za zb)) ∧ ∃ m, w' = w.drewN m := by
  obtain ⟨a, ga, oa, ca, rfl, ha1, ha3, ha5⟩ := ha
  obtain ⟨b, gb, ob, cb, rfl, hb1, hb3, hb5⟩ := hb
  have HA1 := Lib.hid ha1
  have HA5 := Lib.hid ha5
  have HB1 := Lib.hid hb1
  have HB5 := Lib.hid hb5
  clear ha1 ha5 hb1 hb5
  by_cases hl : za.length = zb.length
  · have HL := Lib.hid hl
    rw [← hl]
    clear hl
    generalize hn : za.length = n at *
    have HN := Lib.hid hn
    clear hn
    go_enter Tryd.func26, Tryd.ntmps26
    go_wp2
    go_loopw [5] (fun i wr => ∃ k : Nat, k ≤ n ∧ i = .int .i64 k ∧ eqTo za zb k ∧ ∃ m, wr = w.drewN m) (fun i _ => n - (intOf i).toNat)
    case atStart => exact ⟨0, Nat.zero_le _, rfl, fun j hj => by omega, 0, rfl⟩
    case round =>
      obtain ⟨k, hk, rfl, heq, m, rfl⟩ := hrel
      have HE := Lib.hid heq
      clear heq
      by_cases hlt : k < n
      · obtain ⟨rfl, _⟩ := HA1.out (by omega)
        obtain ⟨rfl, _⟩ := HB1.out (by rw [← HL.out]; omega)
        have hca := HA5.out k (by omega)
        have hcb := HB5.out k (by rw [← HL.out]; omega)
        generalize hx : za.getD k 0 = x at hca
        generalize hy : zb.getD k 0 = y at hcb
        have HX := Lib.hid hx
        have HY := Lib.hid hy
        clear hx hy
        have hltI : (k : Int) < (n : Int) := by omega
        by_cases hxy : x = y
        · subst hxy
          go_wp2
          go_quiet (fail)
          go_wp2
          go_roundw
          case rel => exact ⟨k + 1, by omega, by go_num, fun j hj => by
            by_cases e : j = k
            · subst e; rw [HX.out, HY.out]
            · exact HE.out j (by omega), _, rfl⟩
          case measure => simp [intOf]; omega
        · have hne : (x != y) = true := by simpa using hxy
          have HR := Lib.hid (eqB_not (k := k) (za := za) (zb := zb) (by rw [HX.out, HY.out]; exact hxy))
          go_wp2
          go_quiet (fail)
          go_wp2
          go_ret
          exact ⟨by rw [HR.out]; rfl, m + nq, World.drewN_drewN _ _ _⟩
      · obtain rfl : k = n := by omega
        have HR := Lib.hid (eqB_of (za := za) (zb := zb) (HN.out.trans HL.out) (by rw [HN.out]; exact HE.out))
        go_wp2
        go_ret
        exact ⟨by rw [HR.out]; rfl, _, rfl⟩
  · have hne : ((za.length : Int) != (zb.length : Int)) = true := by simp; omega
    have HR : eqB za zb = false := eqB_len hl
    rw [HR]
    clear HR hl
    go_enter Tryd.func26, Tryd.ntmps26
    go_wp2
    go_ret
    exact ⟨rfl, 0, rfl⟩

set_option maxHeartbeats 400000 in
theorem lawsHolds (v : Value) (zs : List Int) (x : Int) (w : World) (h : Rd w v zs) :
    Calls Tryd.prog 36 #[v, .int .i64 x] w fun e w' => e = .returned (.bool (hasB zs x)) ∧ w = w' := by
  obtain ⟨a, b, off, cap, rfl, h1, h3, h5⟩ := h
  have H5 := Lib.hid h5
  have H1 := Lib.hid h1
  clear h5 h1
  go_enter Tryd.func36, Tryd.ntmps36
  go_wp2
  go_loop [5] (fun i => ∃ k : Nat, k ≤ zs.length ∧ i = .int .i64 k ∧ Hid (∀ j, j < k → zs.getD j 0 ≠ x)) (fun i => zs.length - (intOf i).toNat)
  case atStart => exact ⟨0, Nat.zero_le _, rfl, Lib.hid fun j hj => by omega⟩
  case round =>
    obtain ⟨k, hk, rfl, HN⟩ := hrel
    by_cases hlt : k < zs.length
    · obtain ⟨rfl, _⟩ := H1.out (by omega)
      have hc := H5.out k hlt
      have HY := Lib.hid (fun h => hasB_at (x := x) hlt h)
      generalize hy : zs.getD k 0 = y at hc HY
      have HE := Lib.hid hy
      clear hy
      by_cases hxy : y = x
      · have hb : (y == x) = true := by simpa using hxy
        have HR := Lib.hid (HY.out hxy)
        clear hxy
        go_wp2
        go_ret
        exact ⟨ret_bool HR.out.symm, rfl⟩
      · have hb : (y == x) = false := by simpa using hxy
        have HX := Lib.hid hxy
        clear hxy
        go_wp2
        go_round
        case rel => exact ⟨k + 1, by omega, by go_num, Lib.hid fun j hj => by
          by_cases e : j = k
          · subst e; rw [HE.out]; exact HX.out
          · exact HN.out j (by omega)⟩
        case measure => simp [intOf]; omega
    · go_wp2
      go_ret
      obtain rfl : k = zs.length := by omega
      exact ⟨ret_bool (hasB_none HN.out).symm, rfl⟩

set_option maxHeartbeats 400000 in
theorem lawsSize (s : Nat) (hs : s < 32) (w : World) :
    Calls Tryd.prog 41 #[.int .i64 s] w fun e w' => e = .returned (.int .i64 (pc s : Nat)) ∧ w = w' := by
  go_enter Tryd.func41, Tryd.ntmps41
  go_wp2
  go_loop [0, 3] (fun i o => ∃ k : Nat, k ≤ 5 ∧ i = .int .i64 ((s / 2 ^ k : Nat) : Int) ∧ o = .int .i64 ((pcTo s k : Nat) : Int)) (fun i _ => (intOf i).toNat)
  case atStart => exact ⟨0, by omega, by simp, by simp [pcTo]⟩
  case round =>
    obtain ⟨k, hk, rfl, rfl⟩ := hrel
    have hle := pcTo_le s k
    have HS := Lib.hid (pcTo_succ s k)
    have HD := Lib.hid (pcTo_done s k hk)
    have hlt5 : s / 2 ^ k ≤ s := Nat.div_le_self _ _
    have H5 := Lib.hid (show k = 5 → s / 2 ^ k = 0 from fun h => by subst h; exact Nat.div_eq_of_lt hs)
    have HN := Lib.hid (show s / 2 ^ k / 2 = s / 2 ^ (k + 1) by rw [Nat.div_div_eq_div_mul, Nat.pow_succ])
    generalize s / 2 ^ k = r at *
    generalize pcTo s k = n at *
    by_cases hlt : 0 < r
    · go_wp2
      go_round
      case rel => exact ⟨k + 1, by have := H5.out; omega, by rw [← HN.out]; go_num, by rw [HS.out]; go_num⟩
      case measure => simp [intOf]; omega
    · have HP := Lib.hid (HD.out (by omega))
      clear HD HN HS
      obtain rfl : r = 0 := by omega
      go_wp2
      go_ret
      exact ⟨ret_int (by rw [HP.out]), rfl⟩

end Go.Proofs.YthmipnflbiclbaaDoor

namespace Go.Proofs.YthmipnflbiclbaaDoor
open Go.RowKit

set_option maxHeartbeats 800000 in
theorem lawsAmong (v1 v2 : Value) (xs ys : List Nat) (w : World) (h1 : Rd w v1 (toI xs)) (h2 : Rd w v2 (toI ys)) (hs : ∀ x ∈ xs, x ∈ ys) :
    Calls Tryd.prog 21 #[v1, v2] w fun e w' => e = .returned (.bool true) ∧ w' = w := by
  have H2 := Lib.hid h2
  obtain ⟨a, b, off, cap, rfl, h1, h3, h5⟩ := h1
  rw [toI_length] at *
  have HS := Lib.hid hs
  have H5 := Lib.hid h5
  have H1 := Lib.hid h1
  clear h5 h1 h2 hs
  go_enter Tryd.func21, Tryd.ntmps21
  go_wp2_with fail
  go_loopw [5] (fun i wr => ∃ k : Nat, k ≤ xs.length ∧ i = .int .i64 k ∧ wr = w) (fun i _ => xs.length - (intOf i).toNat)
  case atStart => exact ⟨0, Nat.zero_le _, rfl, rfl⟩
  case round =>
    obtain ⟨k, hk, rfl, hwr⟩ := hrel
    subst wr
    by_cases hlt : k < xs.length
    · obtain ⟨rfl, _⟩ := H1.out (by omega)
      have hc := H5.out k hlt
      rw [toI_getD] at hc
      have hx := HS.out _ (getD_of_lt hlt)
      generalize xs.getD k 0 = x at *
      have HM := Lib.hid (lawsHolds v2 (toI ys) (x : Int) w H2.out)
      rw [hasB_nat, decide_eq_true hx] at HM
      go_wp2_with fail
      refine HM.out.mono ?_
      rintro e w9 ⟨rfl, hw9⟩
      subst w9
      go_wp2_with fail
      go_roundw
      case rel => exact ⟨k + 1, by omega, by go_num, by first | rfl | trivial⟩
      case measure => simp [intOf]; omega
    · go_wp2_with fail
      go_ret
      exact ⟨rfl, rfl⟩

theorem asc_step {ns : List Nat} (h : ns.Pairwise (· < ·)) {k : Nat} (hk : 0 < k) (hl : k < ns.length) : ns.getD (k - 1) 0 < ns.getD k 0 := by
  rw [List.pairwise_iff_getElem] at h
  have := h (k - 1) k (by omega) hl (by omega)
  simp only [List.getD_eq_getElem?_getD, List.getElem?_eq_getElem (show k - 1 < ns.length by omega), List.getElem?_eq_getElem hl, Option.getD_some]
  exact this

set_option maxHeartbeats 800000 in
theorem lawsAscends (v : Value) (ns : List Nat) (w : World) (h : Rd w v (toI ns)) (hasc : ns.Pairwise (· < ·)) :
    Calls Tryd.prog 20 #[v] w fun e w' => e = .returned (.bool true) ∧ ∃ m, w' = w.drewN m := by
  obtain ⟨a, b, off, cap, rfl, h1, h3, h5⟩ := h
  rw [toI_length] at *
  have HS := Lib.hid hasc
  have H5 := Lib.hid h5
  have H1 := Lib.hid h1
  clear h5 h1 hasc
  go_enter Tryd.func20, Tryd.ntmps20
  go_wp2_with fail
  go_loopw [3] (fun i wr => ∃ k : Nat, 1 ≤ k ∧ k ≤ ns.length + 1 ∧ i = .int .i64 k ∧ ∃ m, wr = w.drewN m) (fun i _ => ns.length + 1 - (intOf i).toNat)
  case atStart => exact ⟨1, by omega, by omega, rfl, 0, rfl⟩
  case round =>
    obtain ⟨k, hk1, hk, rfl, m, rfl⟩ := hrel
    by_cases hlt : k < ns.length
    · obtain ⟨rfl, _⟩ := H1.out (by omega)
      have hc := H5.out k hlt
      have hp := H5.out (k - 1) (by omega)
      rw [toI_getD] at hc hp
      have hx := asc_step HS.out (show 0 < k by omega) hlt
      obtain ⟨j, rfl⟩ : ∃ j, k = j + 1 := ⟨k - 1, by omega⟩
      rw [show j + 1 - 1 = j by omega] at hp hx
      generalize ns.getD (j + 1) 0 = x at *
      generalize ns.getD j 0 = y at *
      have hw1 : IntKind.i64.wrap (((j + 1 : Nat) : Int) - 1) = (j : Int) := by rw [IntKind.wrap_i64]; omega
      have hnle : ¬ (x : Int) ≤ (y : Int) := by omega
      have hjI : (j : Int) < (ns.length : Int) := by omega
      have hkI : ((j + 1 : Nat) : Int) < (ns.length : Int) := by omega
      go_wp2_with fail
      go_quiet (fail)
      go_wp2_with fail
      go_roundw
      case rel => exact ⟨j + 1 + 1, by omega, by omega, by go_num, _, rfl⟩
      case measure => simp [intOf]; omega
    · go_wp2_with fail
      go_ret
      exact ⟨rfl, _, rfl⟩

theorem lawsSubset (a b : Nat) (ha : a < 4096) (hb : b < 4096) (hs : a &&& b = a) (w : World) :
    Calls Tryd.prog 43 #[.int .i64 a, .int .i64 b] w fun e w' => e = .returned (.bool true) ∧ w' = w := by
  have h := i64_and a b ha hb
  rw [hs] at h
  clear hs
  go_enter Tryd.func43, Tryd.ntmps43
  go_wp2
  go_ret
  exact ⟨rfl, rfl⟩

/-- the points of a set -/
def pts (s : Nat) : List Nat := (List.range 5).filter (fun x => hasX x s)
def ptUp (s k : Nat) : List Nat := (List.range k).filter (fun x => hasX x s)
theorem pts_done {s k : Nat} (hs : s < 32) (hk : k ≤ 5) (h : s / 2 ^ k = 0) : ptUp s k = pts s := by
  have key : ∀ s : Fin 32, ∀ k : Fin 6, (s : Nat) / 2 ^ (k : Nat) = 0 → ptUp (s : Nat) (k : Nat) = pts (s : Nat) := by decide +kernel
  exact key ⟨s, hs⟩ ⟨k, by omega⟩ h

set_option maxHeartbeats 1600000 in
theorem lawsPoints (s : Nat) (hs : s < 32) (w : World) :
    Calls Tryd.prog 29 #[.int .i64 (s : Int)] w (RetInts (toI (pts s)) w) := by
  go_enter Tryd.func29, Tryd.ntmps29
  go_wp2_with fail
  go_loopw [0, 3, 4] (fun i o x wr => ∃ (k : Nat) (a' : Option Addr) (c' : Nat), k ≤ 5 ∧ i = .int .i64 ((s / 2 ^ k : Nat) : Int) ∧ x = .int .i64 k ∧ o = .slice a' (ptUp s k).length c' ∧ Ints w.heap.size wr (.slice a' (ptUp s k).length c') (toI (ptUp s k)) ∧ Below w.heap.size w wr) (fun i _ _ _ => (intOf i).toNat)
  case atStart => exact ⟨0, _, _, by omega, by simp, rfl, rfl, Ints.lit' (by simp) (by simp), by go_grown⟩
  case round =>
    obtain ⟨k, a', c', hk, rfl, rfl, rfl, hin, hbe⟩ := hrel
    have HIN := Lib.hid hin
    have HBE := Lib.hid hbe
    have hz := hbe.size
    clear hin hbe
    have HDn := Lib.hid (pts_done (s := s) (k := k) hs hk)
    have H5 := Lib.hid (show k = 5 → s / 2 ^ k = 0 from fun h => by subst h; exact Nat.div_eq_of_lt hs)
    have HN := Lib.hid (show s / 2 ^ k / 2 = s / 2 ^ (k + 1) by rw [Nat.div_div_eq_div_mul, Nat.pow_succ])
    have HY := Lib.hid (show s / 2 ^ k % 2 = 1 → ptUp s (k + 1) = ptUp s k ++ [k] from fun h => filt_yes (by simpa [hasX] using h))
    have HO := Lib.hid (show ¬ s / 2 ^ k % 2 = 1 → ptUp s (k + 1) = ptUp s k from fun h => filt_no (by simpa [hasX] using h))
    have hle := filt_le (fun x => hasX x s) k
    have hle2 : (ptUp s k).length ≤ k := hle
    clear hle
    have hr32 : s / 2 ^ k < 32 := Nat.lt_of_le_of_lt (Nat.div_le_self _ _) hs
    generalize s / 2 ^ k = r at *
    generalize ptUp s k = A at *
    by_cases hlt : 0 < r
    · by_cases hb : r % 2 = 1
      · have hd : ((r : Int) % 2 == 1) = true := by simp; omega
        have hd2 : (Int.tmod (r : Int) 2 == 1) = true := by rw [Int.tmod_eq_emod_of_nonneg (by omega)]; exact hd
        have HAl := Lib.hid (toI_length A)
        go_wp2_with (at_builtin; refine wpList_app rfl (.tmp 13) (.tmp 15) rfl w.heap.size _ (toI A) rfl (by exact HIN.out.alloc _) _ _ _ [(k : Int)] rfl (src_cell (by rw [World.cell?_alloc_at _ _ _ _ rfl]; rfl)) (by rw [HAl.out]; omega) (by simp; omega) ?_; intro a3 c3 w3 hin3 hb3 hg3; have I3 := Lib.hid hin3; have B3 := Lib.hid (HBE.out.trans (Below.trans ((Below.refl _ _).alloc (by omega) _) hb3)); clear hin3 hb3 hg3)
        rw [HAl.out] at I3
        go_roundw
        case rel => exact ⟨k + 1, a3, c3, by have := H5.out; omega, by rw [← HN.out]; go_num, by go_num, by rw [HY.out hb, HAl.out, List.length_append]; rfl, by rw [HY.out hb, List.length_append, toI_append]; exact I3.out, B3.out⟩
        case measure => simp [intOf]; omega
      · have hd : ((r : Int) % 2 == 1) = false := by simp; omega
        have hd2 : (Int.tmod (r : Int) 2 == 1) = false := by rw [Int.tmod_eq_emod_of_nonneg (by omega)]; exact hd
        go_wp2_with fail
        go_roundw
        case rel => exact ⟨k + 1, a', c', by have := H5.out; omega, by rw [← HN.out]; go_num, by go_num, by rw [HO.out hb], by rw [HO.out hb]; exact HIN.out, HBE.out⟩
        case measure => simp [intOf]; omega
    · obtain rfl : r = 0 := by omega
      have HP := Lib.hid (HDn.out rfl)
      have HAl := Lib.hid (toI_length A)
      go_wp2_with fail
      go_ret
      refine ⟨a', c', ?_, ?_, HBE.out⟩
      · rw [← HP.out, HAl.out]
        rfl
      · rw [← HP.out, HAl.out]; exact HIN.out

end Go.Proofs.YthmipnflbiclbaaDoor
