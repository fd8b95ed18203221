/- The laws' own helpers: equality of lists, membership, size. Conditions: what the slices hold. The laws' own helpers: among, ascends, subset, points. Conditions: what the slices hold. -/
import Derived.Test.YtkamocciaaapmaaDoorComplS
import Derived.Test.YtkamocciaaapmaaDoorZA
import Derived.Test.YtkamocciaaapmaaDoorZB
import Derived.Test.YtkamocciaaapmaaDoorZH
namespace Go.Proofs.YtkamocciaaapmaaDoor
open Go.RowKit


set_option maxHeartbeats 800000 in
set_option maxRecDepth 100000 in
theorem lawsEqualInts (va vb : Value) (za zb : List Int) (w : World) (ha : Rd w va za) (hb : Rd w vb zb) :
    Calls Tryd.prog 32 #[va, vb] w fun e w' => e = .returned (.bool (eqB za zb)) ∧ ∃ m, w' = w.drewN m := by
  obtain ⟨a, ga, oa, ca, rfl, ha1, ha3, ha5⟩ := ha
  obtain ⟨b, gb, ob, cb, rfl, hb1, hb3, hb5⟩ := hb
  have HA1 := Lib.hid ha1
  have HA5 := Lib.hid ha5
  have HB1 := Lib.hid hb1
  have HB5 := Lib.hid hb5
  clear ha1 ha5 hb1 hb5
  by_cases hl : za.length = zb.length
  · have HL := Lib.hid hl
    rw [← hl]
    clear hl
    generalize hn : za.length = n at *
    have HN := Lib.hid hn
    clear hn
    go_enter Tryd.func32, Tryd.ntmps32
    go_wp2
    go_loopw [5] (fun i wr => ∃ k : Nat, k ≤ n ∧ i = .int .i64 k ∧ eqTo za zb k ∧ ∃ m, wr = w.drewN m) (fun i _ => n - (intOf i).toNat)
    case atStart => exact ⟨0, Nat.zero_le _, rfl, fun j hj => by omega, 0, rfl⟩
    case round =>
      obtain ⟨k, hk, rfl, heq, m, rfl⟩ := hrel
      have HE := Lib.hid heq
      clear heq
      by_cases hlt : k < n
      · obtain ⟨rfl, _⟩ := HA1.out (by omega)
        obtain ⟨rfl, _⟩ := HB1.out (by rw [← HL.out]; omega)
        have hca := HA5.out k (by omega)
        have hcb := HB5.out k (by rw [← HL.out]; omega)
        generalize hx : za.getD k 0 = x at hca
        generalize hy : zb.getD k 0 = y at hcb
        have HX := Lib.hid hx
        have HY := Lib.hid hy
        clear hx hy
        have hltI : (k : Int) < (n : Int) := by omega
        by_cases hxy : x = y
        · subst hxy
          go_wp2
          go_quiet (fail)
          go_wp2
          go_roundw
          case rel => exact ⟨k + 1, by omega, by go_num, fun j hj => by
            by_cases e : j = k
            · subst e; rw [HX.out, HY.out]
            · exact HE.out j (by omega), _, rfl⟩
          case measure => simp [intOf]; omega
        · have hne : (x != y) = true := by simpa using hxy
          have HR := Lib.hid (eqB_not (k := k) (za := za) (zb := zb) (by rw [HX.out, HY.out]; exact hxy))
          go_wp2
          go_quiet (fail)
          go_wp2
          go_ret
          exact ⟨by rw [HR.out]; rfl, m + nq, World.drewN_drewN _ _ _⟩
      · obtain rfl : k = n := by omega
        have HR := Lib.hid (eqB_of (za := za) (zb := zb) (HN.out.trans HL.out) (by rw [HN.out]; exact HE.out))
        go_wp2
        go_ret
        exact ⟨by rw [HR.out]; rfl, _, rfl⟩
  · have hne : ((za.length : Int) != (zb.length : Int)) = true := by simp; omega
    have HR : eqB za zb = false := eqB_len hl
    rw [HR]
    clear HR hl
    go_enter Tryd.func32, Tryd.ntmps32
    go_wp2
    go_ret
    exact ⟨rfl, 0, rfl⟩



end Go.Proofs.YtkamocciaaapmaaDoor

namespace Go.Proofs.YtkamocciaaapmaaDoor
open Go.RowKit


theorem asc_step {ns : List Nat} (h : ns.Pairwise (· < ·)) {k : Nat} (hk : 0 < k) (hl : k < ns.length) : ns.getD (k - 1) 0 < ns.getD k 0 := by
  rw [List.pairwise_iff_getElem] at h
  have := h (k - 1) k (by omega) hl (by omega)
  simp only [List.getD_eq_getElem?_getD, List.getElem?_eq_getElem (show k - 1 < ns.length by omega), List.getElem?_eq_getElem hl, Option.getD_some]
  exact this



/-- the points of a set -/
def pts (s : Nat) : List Nat := (List.range 5).filter (fun x => hasX x s)
def ptUp (s k : Nat) : List Nat := (List.range k).filter (fun x => hasX x s)
theorem pts_done {s k : Nat} (hs : s < 32) (hk : k ≤ 5) (h : s / 2 ^ k = 0) : ptUp s k = pts s := by
  have key : ∀ s : Fin 32, ∀ k : Fin 6, (s : Nat) / 2 ^ (k : Nat) = 0 → ptUp (s : Nat) (k : Nat) = pts (s : Nat) := by decide +kernel
  exact key ⟨s, hs⟩ ⟨k, by omega⟩ h


end Go.Proofs.YtkamocciaaapmaaDoor
