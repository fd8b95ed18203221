/- The laws' marks on pairs: markPairS writes into a slice, heldPairS looks for them. Conditions: at most 1048576 pairs, which the call may write. -/
import Derived.Test.YtbjaacppomobeaaPr
import Derived.Test.YtbjaacppomobeaaZB
namespace Go.Proofs.Ytbjaacppomobeaa
open Go.RowKit

/-- the marks of n pairs from k on -/
def rampP (k n : Nat) : List (Int × Int) := (List.range n).map (fun i : Nat => ((k : Int) + 2 * (i : Int), (k : Int) + 2 * (i : Int) + 1))
theorem rampP_length (k n : Nat) : (rampP k n).length = n := by simp [rampP]
theorem rampP_getD (k n i : Nat) (h : i < n) : (rampP k n).getD i (0, 0) = ((k : Int) + 2 * (i : Int), (k : Int) + 2 * (i : Int) + 1) := by simp [rampP, List.getD, h]
theorem PrS.row_ge {B b : Nat} {w : World} {v : Value} {es : List (Int × Int)} (h : PrS B w v es) (hb : b < B) : ∀ k, v.ownBlock = some k → b < k := by
  intro k hk
  rcases h.2 with ⟨rfl, _⟩ | ⟨g, cap, cur, rfl, hB, _⟩
  · cases hk
  · obtain rfl := Option.some.inj hk
    show b < g
    omega
theorem PrS.lt {B : Nat} {w : World} {v : Value} {es : List (Int × Int)} (h : PrS B w v es) (k : Nat) (hk : v.ownBlock = some k) : B ≤ k ∧ k < w.heap.size := by
  rcases h.2 with ⟨rfl, _⟩ | ⟨g, cap, cur, rfl, hB, hg, _⟩
  · cases hk
  · cases hk
    exact ⟨hB, (Array.getElem?_eq_some_iff.1 hg).1⟩
theorem PrS.kept {B : Nat} {w w' : World} {v : Value} {es : List (Int × Int)} {row : Option Nat} (h : PrS B w v es) (hg : w.grownBy w' row) (hne : v.ownBlock = none ∨ v.ownBlock ≠ row) : PrS B w' v es := World.ownsRow.kept h hg hne
theorem PrS.cast {B : Nat} {w : World} {v : Value} {es fs : List (Int × Int)} (h : PrS B w v es) (e : es = fs) : PrS B w v fs := e ▸ h

set_option maxHeartbeats 1600000 in
set_option maxRecDepth 100000 in
theorem markPrS {B : Nat} (v : Value) (es : List (Int × Int)) (k : Nat) (w : World) (h : PrS B w v es) (hk : k ≤ 2097153) (hn : es.length ≤ 1048576) :
    Calls Try.prog 20 #[v, .int .i64 k] w fun e w' => e = .returned (.int .i64 ((k + 2 * es.length : Nat) : Int)) ∧ PrS B w' v (rampP k es.length) ∧ w.grownBy w' v.ownBlock := by
  rcases h.2 with ⟨rfl, hn0⟩ | ⟨g, cap, cur, rfl, hB, _⟩
  · have : es = [] := List.eq_nil_of_length_eq_zero hn0
    subst this
    have H := Lib.hid h
    clear h
    go_enter Try.func20, Try.ntmps20
    go_wp2_with fail
    refine wp_loop_rounds 1 ?_
    rw [rounds_succ]
    go_wp2_with fail
    go_ret
    exact ⟨rfl, H.out, World.grownBy.refl _ _⟩
  · have H := Lib.hid h
    clear h
    generalize hL : es.length = n at *
    have HL := Lib.hid hL
    clear hL
    go_enter Try.func20, Try.ntmps20
    go_wp2_with fail
    go_loopw [1, 5] (fun q i wr => ∃ (j : Nat) (xs : List Value), j ≤ n ∧ i = .int .i64 j ∧ q = .int .i64 ((k : Int) + 2 * (j : Int)) ∧ wr.ownsRow B 40 2 (.slice (some ⟨g, 0, none⟩) n cap) n xs ∧ Hid (∀ i, i < j → xs[i * 2]? = some (.int .i64 ((k : Int) + 2 * (i : Int))) ∧ xs[i * 2 + 1]? = some (.int .i64 ((k : Int) + 2 * (i : Int) + 1))) ∧ w.grownBy wr (some g)) (fun _ i _ => n - (intOf i).toNat)
    case atStart => exact ⟨0, _, Nat.zero_le _, rfl, rfl, (by have h0 := H.out; unfold PrS at h0; rw [HL.out] at h0; exact h0), Lib.hid fun j hj => by omega, World.grownBy.refl _ _⟩
    case round =>
      obtain ⟨j, xs, hj, rfl, rfl, hown, HX, hg⟩ := hrel
      have HW := Lib.hid hown
      have HG := Lib.hid hg
      have hxl := hown.1
      clear hown hg
      by_cases hlt : j < n
      · have S1 := Lib.hid (World.ownsRow.stored HW.out (j * 2) (.int .i64 ((k : Int) + 2 * (j : Int)))).1
        have S2 := Lib.hid (World.ownsRow.stored S1.out (j * 2 + 1) (.int .i64 ((k : Int) + 2 * (j : Int) + 1))).1
        obtain ⟨u0, hu0⟩ : ∃ u, xs[j * 2]? = some u := ⟨xs[j * 2], List.getElem?_eq_getElem (by omega)⟩
        obtain ⟨u1, hu1⟩ : ∃ u, xs[j * 2 + 1]? = some u := ⟨xs[j * 2 + 1], List.getElem?_eq_getElem (by omega)⟩
        have X0 := (World.ownsRow.cellAt HW.out (j * 2) (by omega)).trans hu0
        have X1 := (World.ownsRow.cellAt HW.out (j * 2 + 1) (by omega)).trans hu1
        obtain ⟨F0, F1⟩ : wr.frozen? ⟨g, j * 2, none⟩ = false ∧ wr.frozen? ⟨g, j * 2 + 1, none⟩ = false := by
          rcases HW.out.2 with ⟨e, _⟩ | ⟨g2, cp, cu, e, _, hg2, _⟩
          · simp at e
          · simp only [Value.slice.injEq, Option.some.injEq, Addr.mk.injEq] at e
            obtain ⟨⟨rfl, _⟩, _⟩ := e
            exact ⟨frozen_of_row _ _ _ _ _ hg2, frozen_of_row _ _ _ _ _ hg2⟩
        have HXN := Lib.hid (show ∀ i, i < j + 1 → ((xs.set (j * 2) (Value.int .i64 ((k : Int) + 2 * (j : Int)))).set (j * 2 + 1) (Value.int .i64 ((k : Int) + 2 * (j : Int) + 1)))[i * 2]? = some (.int .i64 ((k : Int) + 2 * (i : Int))) ∧ ((xs.set (j * 2) (Value.int .i64 ((k : Int) + 2 * (j : Int)))).set (j * 2 + 1) (Value.int .i64 ((k : Int) + 2 * (j : Int) + 1)))[i * 2 + 1]? = some (.int .i64 ((k : Int) + 2 * (i : Int) + 1)) from by
          intro i hi
          by_cases e : i = j
          · subst e
            refine ⟨?_, ?_⟩
            · rw [List.getElem?_set_ne (by omega), List.getElem?_set_self (by omega)]
            · rw [List.getElem?_set_self (by simp; omega)]
          · have := HX.out i (by omega)
            rw [List.getElem?_set_ne (by omega), List.getElem?_set_ne (by omega), List.getElem?_set_ne (by omega), List.getElem?_set_ne (by omega)]
            exact this)
        clear hu0 hu1
        go_wp2_with fail
        go_roundw
        case rel => exact ⟨j + 1, _, by omega, by go_num, by go_num, S2.out, HXN, grownBy_trans HG.out (grownBy_trans (grownBy_set _ _ _) (grownBy_set _ _ _))⟩
        case measure => simp [intOf]; omega
      · obtain rfl : j = n := by omega
        have hxs := flat_extP (es := rampP k j) (by rw [rampP_length]; exact hxl) (by
          rw [rampP_length]
          intro i hi
          rw [rampP_getD _ _ _ hi]
          exact HX.out i hi)
        subst hxs
        go_wp2_with fail
        go_ret
        refine ⟨rfl, ?_, HG.out⟩
        unfold PrS
        rw [rampP_length]
        exact HW.out

set_option maxHeartbeats 1600000 in
set_option maxRecDepth 100000 in
theorem heldPrS (v : Value) (n k : Nat) (w : World) (h : RdP w v (rampP k n)) (hk : k ≤ 2097153) (hn : n ≤ 1048576) :
    Calls Try.prog 21 #[v, .int .i64 k] w fun e w' => e = .returned (.int .i64 ((k + 2 * n : Nat) : Int)) ∧ w' = w := by
  obtain ⟨a, b, off, cap, rfl, h1, h3, h5⟩ := h
  rw [rampP_length] at *
  have H5 := Lib.hid h5
  have H1 := Lib.hid h1
  clear h5 h1
  go_enter Try.func21, Try.ntmps21
  go_wp2_with fail
  go_loop [1, 5] (fun q i => ∃ j : Nat, j ≤ n ∧ i = .int .i64 j ∧ q = .int .i64 ((k : Int) + 2 * (j : Int))) (fun _ i => n - (intOf i).toNat)
  case atStart => exact ⟨0, Nat.zero_le _, rfl, rfl⟩
  case round =>
    obtain ⟨j, hj, rfl, rfl⟩ := hrel
    by_cases hlt : j < n
    · obtain ⟨rfl, _⟩ := H1.out (by omega)
      have hc := H5.out j hlt
      rw [rampP_getD _ _ _ hlt] at hc
      obtain ⟨hc0, hc1⟩ := hc
      go_wp2_with fail
      go_round
      case rel => exact ⟨j + 1, by omega, by go_num, by go_num⟩
      case measure => simp [intOf]; omega
    · obtain rfl : j = n := by omega
      go_wp2_with fail
      go_ret
      exact ⟨rfl, rfl⟩

end Go.Proofs.Ytbjaacppomobeaa
