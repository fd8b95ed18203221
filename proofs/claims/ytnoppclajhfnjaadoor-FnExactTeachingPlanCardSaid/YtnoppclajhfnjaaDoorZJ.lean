/- The laws' own helpers: equality of lists, membership, size. Conditions: what the slices hold. The laws' own helpers: among, ascends, subset, points. Conditions: what the slices hold. -/
import Derived.Test.YtnoppclajhfnjaaDoorComplS
import Derived.Test.YtnoppclajhfnjaaDoorZA
import Derived.Test.YtnoppclajhfnjaaDoorZB
import Derived.Test.YtnoppclajhfnjaaDoorZH
namespace Go.Proofs.YtnoppclajhfnjaaDoor
open Go.RowKit


set_option maxHeartbeats 800000 in
set_option maxRecDepth 100000 in
theorem lawsEqualInts (va vb : Value) (za zb : List Int) (w : World) (ha : Rd w va za) (hb : Rd w vb zb) :
    Calls Tryd.prog 23 #[va, vb] w fun e w' => e = .returned (.bool (eqB za zb)) ∧ ∃ m, w' = w.drewN m := by
  obtain ⟨a, ga, oa, ca, rfl, ha1, ha3, ha5⟩ := ha
  obtain ⟨b, gb, ob, cb, rfl, hb1, hb3, hb5⟩ := hb
  have HA1 := Lib.hid ha1
  have HA5 := Lib.hid ha5
  have HB1 := Lib.hid hb1
  have HB5 := Lib.hid hb5
  clear ha1 ha5 hb1 hb5
  by_cases hl : za.length = zb.length
  · have HL := Lib.hid hl
    rw [← hl]
    clear hl
    generalize hn : za.length = n at *
    have HN := Lib.hid hn
    clear hn
    go_enter Tryd.func23, Tryd.ntmps23
    go_wp2
    go_loopw [5] (fun i wr => ∃ k : Nat, k ≤ n ∧ i = .int .i64 k ∧ eqTo za zb k ∧ ∃ m, wr = w.drewN m) (fun i _ => n - (intOf i).toNat)
    case atStart => exact ⟨0, Nat.zero_le _, rfl, fun j hj => by omega, 0, rfl⟩
    case round =>
      obtain ⟨k, hk, rfl, heq, m, rfl⟩ := hrel
      have HE := Lib.hid heq
      clear heq
      by_cases hlt : k < n
      · obtain ⟨rfl, _⟩ := HA1.out (by omega)
        obtain ⟨rfl, _⟩ := HB1.out (by rw [← HL.out]; omega)
        have hca := HA5.out k (by omega)
        have hcb := HB5.out k (by rw [← HL.out]; omega)
        generalize hx : za.getD k 0 = x at hca
        generalize hy : zb.getD k 0 = y at hcb
        have HX := Lib.hid hx
        have HY := Lib.hid hy
        clear hx hy
        have hltI : (k : Int) < (n : Int) := by omega
        by_cases hxy : x = y
        · subst hxy
          go_wp2
          go_quiet (fail)
          go_wp2
          go_roundw
          case rel => exact ⟨k + 1, by omega, by go_num, fun j hj => by
            by_cases e : j = k
            · subst e; rw [HX.out, HY.out]
            · exact HE.out j (by omega), _, rfl⟩
          case measure => simp [intOf]; omega
        · have hne : (x != y) = true := by simpa using hxy
          have HR := Lib.hid (eqB_not (k := k) (za := za) (zb := zb) (by rw [HX.out, HY.out]; exact hxy))
          go_wp2
          go_quiet (fail)
          go_wp2
          go_ret
          exact ⟨by rw [HR.out]; rfl, m + nq, World.drewN_drewN _ _ _⟩
      · obtain rfl : k = n := by omega
        have HR := Lib.hid (eqB_of (za := za) (zb := zb) (HN.out.trans HL.out) (by rw [HN.out]; exact HE.out))
        go_wp2
        go_ret
        exact ⟨by rw [HR.out]; rfl, _, rfl⟩
  · have hne : ((za.length : Int) != (zb.length : Int)) = true := by simp; omega
    have HR : eqB za zb = false := eqB_len hl
    rw [HR]
    clear HR hl
    go_enter Tryd.func23, Tryd.ntmps23
    go_wp2
    go_ret
    exact ⟨rfl, 0, rfl⟩

set_option maxHeartbeats 400000 in
theorem lawsHolds (v : Value) (zs : List Int) (x : Int) (w : World) (h : Rd w v zs) :
    Calls Tryd.prog 25 #[v, .int .i64 x] w fun e w' => e = .returned (.bool (hasB zs x)) ∧ w = w' := by
  obtain ⟨a, b, off, cap, rfl, h1, h3, h5⟩ := h
  have H5 := Lib.hid h5
  have H1 := Lib.hid h1
  clear h5 h1
  go_enter Tryd.func25, Tryd.ntmps25
  go_wp2
  go_loop [5] (fun i => ∃ k : Nat, k ≤ zs.length ∧ i = .int .i64 k ∧ Hid (∀ j, j < k → zs.getD j 0 ≠ x)) (fun i => zs.length - (intOf i).toNat)
  case atStart => exact ⟨0, Nat.zero_le _, rfl, Lib.hid fun j hj => by omega⟩
  case round =>
    obtain ⟨k, hk, rfl, HN⟩ := hrel
    by_cases hlt : k < zs.length
    · obtain ⟨rfl, _⟩ := H1.out (by omega)
      have hc := H5.out k hlt
      have HY := Lib.hid (fun h => hasB_at (x := x) hlt h)
      generalize hy : zs.getD k 0 = y at hc HY
      have HE := Lib.hid hy
      clear hy
      by_cases hxy : y = x
      · have hb : (y == x) = true := by simpa using hxy
        have HR := Lib.hid (HY.out hxy)
        clear hxy
        go_wp2
        go_ret
        exact ⟨ret_bool HR.out.symm, rfl⟩
      · have hb : (y == x) = false := by simpa using hxy
        have HX := Lib.hid hxy
        clear hxy
        go_wp2
        go_round
        case rel => exact ⟨k + 1, by omega, by go_num, Lib.hid fun j hj => by
          by_cases e : j = k
          · subst e; rw [HE.out]; exact HX.out
          · exact HN.out j (by omega)⟩
        case measure => simp [intOf]; omega
    · go_wp2
      go_ret
      obtain rfl : k = zs.length := by omega
      exact ⟨ret_bool (hasB_none HN.out).symm, rfl⟩

set_option maxHeartbeats 400000 in
theorem lawsSize (s : Nat) (hs : s < 32) (w : World) :
    Calls Tryd.prog 27 #[.int .i64 s] w fun e w' => e = .returned (.int .i64 (pc s : Nat)) ∧ w = w' := by
  go_enter Tryd.func27, Tryd.ntmps27
  go_wp2
  go_loop [0, 3] (fun i o => ∃ k : Nat, k ≤ 5 ∧ i = .int .i64 ((s / 2 ^ k : Nat) : Int) ∧ o = .int .i64 ((pcTo s k : Nat) : Int)) (fun i _ => (intOf i).toNat)
  case atStart => exact ⟨0, by omega, by simp, by simp [pcTo]⟩
  case round =>
    obtain ⟨k, hk, rfl, rfl⟩ := hrel
    have hle := pcTo_le s k
    have HS := Lib.hid (pcTo_succ s k)
    have HD := Lib.hid (pcTo_done s k hk)
    have hlt5 : s / 2 ^ k ≤ s := Nat.div_le_self _ _
    have H5 := Lib.hid (show k = 5 → s / 2 ^ k = 0 from fun h => by subst h; exact Nat.div_eq_of_lt hs)
    have HN := Lib.hid (show s / 2 ^ k / 2 = s / 2 ^ (k + 1) by rw [Nat.div_div_eq_div_mul, Nat.pow_succ])
    generalize s / 2 ^ k = r at *
    generalize pcTo s k = n at *
    by_cases hlt : 0 < r
    · go_wp2
      go_round
      case rel => exact ⟨k + 1, by have := H5.out; omega, by rw [← HN.out]; go_num, by rw [HS.out]; go_num⟩
      case measure => simp [intOf]; omega
    · have HP := Lib.hid (HD.out (by omega))
      clear HD HN HS
      obtain rfl : r = 0 := by omega
      go_wp2
      go_ret
      exact ⟨ret_int (by rw [HP.out]), rfl⟩

end Go.Proofs.YtnoppclajhfnjaaDoor

namespace Go.Proofs.YtnoppclajhfnjaaDoor
open Go.RowKit


theorem asc_step {ns : List Nat} (h : ns.Pairwise (· < ·)) {k : Nat} (hk : 0 < k) (hl : k < ns.length) : ns.getD (k - 1) 0 < ns.getD k 0 := by
  rw [List.pairwise_iff_getElem] at h
  have := h (k - 1) k (by omega) hl (by omega)
  simp only [List.getD_eq_getElem?_getD, List.getElem?_eq_getElem (show k - 1 < ns.length by omega), List.getElem?_eq_getElem hl, Option.getD_some]
  exact this


theorem lawsSubset (a b : Nat) (ha : a < 4096) (hb : b < 4096) (hs : a &&& b = a) (w : World) :
    Calls Tryd.prog 28 #[.int .i64 a, .int .i64 b] w fun e w' => e = .returned (.bool true) ∧ w' = w := by
  have h := i64_and a b ha hb
  rw [hs] at h
  clear hs
  go_enter Tryd.func28, Tryd.ntmps28
  go_wp2
  go_ret
  exact ⟨rfl, rfl⟩

/-- the points of a set -/
def pts (s : Nat) : List Nat := (List.range 5).filter (fun x => hasX x s)
def ptUp (s k : Nat) : List Nat := (List.range k).filter (fun x => hasX x s)
theorem pts_done {s k : Nat} (hs : s < 32) (hk : k ≤ 5) (h : s / 2 ^ k = 0) : ptUp s k = pts s := by
  have key : ∀ s : Fin 32, ∀ k : Fin 6, (s : Nat) / 2 ^ (k : Nat) = 0 → ptUp (s : Nat) (k : Nat) = pts (s : Nat) := by decide +kernel
  exact key ⟨s, hs⟩ ⟨k, by omega⟩ h


end Go.Proofs.YtnoppclajhfnjaaDoor
