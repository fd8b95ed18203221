/- The laws' marks: markIntS writes numbers into a slice, heldIntS looks for them. Conditions: at most 1048576 elements, which the call may write. -/
import Derived.Test.YtlkodggaebnkfaaDoorApp
namespace Go.Proofs.YtlkodggaebnkfaaDoor
open Go.RowKit

/-- k, k + 1, ..: n numbers -/
def ramp (k n : Nat) : List Int := (List.range n).map (fun i => ((k + i : Nat) : Int))
theorem ramp_length (k n : Nat) : (ramp k n).length = n := by simp [ramp]
theorem ramp_getD (k n i : Nat) (h : i < n) : (ramp k n).getD i 0 = ((k + i : Nat) : Int) := by simp [ramp, List.getD, h]
/-- the first j are written -/
def mix (k : Nat) (zs : List Int) (j : Nat) : List Int := ramp k j ++ zs.drop j
theorem mix_length (k : Nat) (zs : List Int) (j : Nat) (h : j ≤ zs.length) : (mix k zs j).length = zs.length := by simp [mix, ramp_length]; omega
theorem mix_zero (k : Nat) (zs : List Int) : mix k zs 0 = zs := by simp [mix, ramp]
theorem mix_full (k : Nat) (zs : List Int) : mix k zs zs.length = ramp k zs.length := by simp [mix]
theorem mix_step (k : Nat) (zs : List Int) (j : Nat) (h : j < zs.length) : (mix k zs j).set j ((k + j : Nat) : Int) = mix k zs (j + 1) := by
  have e : zs.drop j = zs[j] :: zs.drop (j + 1) := List.drop_eq_getElem_cons h
  simp only [mix, e]
  rw [List.set_append_right _ _ (by rw [ramp_length]; omega), ramp_length, Nat.sub_self, List.set_cons_zero]
  simp [ramp, List.range_succ]

theorem Ints.kept {B : Nat} {w w' : World} {v : Value} {zs : List Int} {row : Option Nat} (h : Ints B w v zs) (hg : w.grownBy w' row) (hne : v.ownBlock = none ∨ v.ownBlock ≠ row) : Ints B w' v zs := World.ownsRow.kept h hg hne
theorem Ints.apart {B1 B2 : Nat} {w1 w2 : World} {v1 v2 : Value} {z1 z2 : List Int} (h1 : Ints B1 w1 v1 z1) (h2 : Ints B2 w2 v2 z2) (hle : w1.heap.size ≤ B2) : v1.ownBlock = none ∨ v1.ownBlock ≠ v2.ownBlock := by
  cases e1 : v1.ownBlock with
  | none => exact .inl rfl
  | some g1 =>
    right
    intro e2
    have := (h1.lt g1 e1).2
    have := (h2.lt g1 e2.symm).1
    omega
theorem grownBy_set {g : Nat} (w : World) (j : Nat) (x : Value) : w.grownBy (w.setCell ⟨g, j, none⟩ x) (some g) :=
  ⟨rfl, rfl, rfl, by simp, fun k _ hk => heap_setCell_other w ⟨g, j, none⟩ k x (fun e => hk (by simp [e]))⟩
theorem grownBy_trans {a b c : World} {row : Option Nat} (h1 : a.grownBy b row) (h2 : b.grownBy c row) : a.grownBy c row :=
  ⟨h2.os.trans h1.os, h2.tape.trans h1.tape, h2.output.trans h1.output, Nat.le_trans h1.size h2.size, fun k hk hne => (h2.block k (Nat.lt_of_lt_of_le hk h1.size) hne).trans (h1.block k hk hne)⟩

theorem Ints.row_ge {B b : Nat} {w : World} {v : Value} {zs : List Int} (h : Ints B w v zs) (hb : b < B) : ∀ k, v.ownBlock = some k → b < k := fun k hk => Nat.lt_of_lt_of_le hb (h.lt k hk).1
theorem Box.grown {n : Int} {v : Value} {w wr w1 : World} {row : Option Nat} (h : Box n v w wr) (hg : wr.grownBy w1 row) (hr : ∀ k, row = some k → w.heap.size < k) : Box n v w w1 :=
  ⟨h.below.grown hg h.below.size (fun k hk => Nat.le_of_lt (hr k hk)),
   hg.cell h.at0 (fun e => Nat.lt_irrefl _ (hr _ e.symm)), hg.cell h.at1 (fun e => Nat.lt_irrefl _ (hr _ e.symm))⟩
theorem Ints.apart_of {B : Nat} {w : World} {v u : Value} {zs : List Int} (_h : Ints B w v zs) (ha : u.ownBlock = none ∨ u.ownBlock ≠ v.ownBlock) : v.ownBlock = none ∨ v.ownBlock ≠ u.ownBlock := by
  cases hv : v.ownBlock with
  | none => exact .inl rfl
  | some k =>
    right
    intro e
    rcases ha with ha | ha
    · rw [ha] at e; cases e
    · exact ha (by rw [hv, e])

set_option maxHeartbeats 800000 in
set_option maxRecDepth 100000 in
theorem markIntS {B : Nat} (v : Value) (zs : List Int) (k : Nat) (w : World) (h : Ints B w v zs) (hk : k ≤ 2097153) (hn : zs.length ≤ 1048576) :
    Calls Tryd.prog 24 #[v, .int .i64 k] w fun e w' => e = .returned (.int .i64 ((k + zs.length : Nat) : Int)) ∧ Ints B w' v (ramp k zs.length) ∧ w.grownBy w' v.ownBlock := by
  obtain ⟨a, g, cap, rfl, h1, h2, _⟩ := h.shape
  have H := Lib.hid h
  have H2 := Lib.hid h2
  clear h h2
  rcases h1 with rfl | rfl
  · go_enter Tryd.func24, Tryd.ntmps24
    go_wp2_with fail
    go_loopw [1, 5] (fun q i wr => ∃ j : Nat, j ≤ zs.length ∧ i = .int .i64 j ∧ q = .int .i64 ((k + j : Nat) : Int) ∧ Ints B wr (.slice (some ⟨g, 0, none⟩) zs.length cap) (mix k zs j) ∧ w.grownBy wr (some g)) (fun _ i _ => zs.length - (intOf i).toNat)
    case atStart => exact ⟨0, Nat.zero_le _, rfl, rfl, by rw [mix_zero]; exact H.out, World.grownBy.refl _ _⟩
    case round =>
      obtain ⟨j, hj, rfl, rfl, hin, hg⟩ := hrel
      have HIN := Lib.hid hin
      have HG := Lib.hid hg
      clear hin hg
      by_cases hlt : j < zs.length
      · obtain ⟨hc, hf⟩ := HIN.out.cellAt j (by rw [mix_length _ _ _ (by omega)]; exact hlt)
        have HS := Lib.hid (mix_step k zs j hlt)
        generalize (mix k zs j).getD j 0 = y at hc
        go_wp2_with fail
        go_roundw
        case rel => exact ⟨j + 1, by omega, by go_num, by go_num, by rw [← HS.out]; exact HIN.out.store j _, grownBy_trans HG.out (grownBy_set _ _ _)⟩
        case measure => simp [intOf]; omega
      · obtain rfl : j = zs.length := by omega
        rw [mix_full] at HIN
        go_wp2_with fail
        go_ret
        exact ⟨rfl, HIN.out, HG.out⟩
  · obtain ⟨rfl, rfl⟩ := H2.out rfl
    go_enter Tryd.func24, Tryd.ntmps24
    go_wp2_with fail
    refine wp_loop_rounds 1 ?_
    rw [rounds_succ]
    go_wp2_with fail
    go_ret
    exact ⟨rfl, H.out, World.grownBy.refl _ _⟩

set_option maxHeartbeats 800000 in
set_option maxRecDepth 100000 in
theorem heldIntS (v : Value) (n k : Nat) (w : World) (h : Rd w v (ramp k n)) (hk : k ≤ 2097153) (hn : n ≤ 1048576) :
    Calls Tryd.prog 25 #[v, .int .i64 k] w fun e w' => e = .returned (.int .i64 ((k + n : Nat) : Int)) ∧ w' = w := by
  obtain ⟨a, b, off, cap, rfl, h1, h3, h5⟩ := h
  rw [ramp_length] at *
  have H5 := Lib.hid h5
  have H1 := Lib.hid h1
  clear h5 h1
  go_enter Tryd.func25, Tryd.ntmps25
  go_wp2_with fail
  go_loop [1, 5] (fun q i => ∃ j : Nat, j ≤ n ∧ i = .int .i64 j ∧ q = .int .i64 ((k + j : Nat) : Int)) (fun _ i => n - (intOf i).toNat)
  case atStart => exact ⟨0, Nat.zero_le _, rfl, rfl⟩
  case round =>
    obtain ⟨j, hj, rfl, rfl⟩ := hrel
    by_cases hlt : j < n
    · obtain ⟨rfl, _⟩ := H1.out (by omega)
      have hc := H5.out j hlt
      rw [ramp_getD _ _ _ hlt] at hc
      go_wp2_with fail
      go_round
      case rel => exact ⟨j + 1, by omega, by go_num, by go_num⟩
      case measure => simp [intOf]; omega
    · obtain rfl : j = n := by omega
      go_wp2_with fail
      go_ret
      exact ⟨rfl, rfl⟩

set_option maxHeartbeats 400000 in
theorem markClass {B : Nat} (m : Int) (a : Option Addr) (l cap : Nat) (zs : List Int) (k : Nat) (w : World) (h : Ints B w (.slice a l cap) zs) (hk : k ≤ 2097153) (hn : zs.length ≤ 1048576) :
    Calls Tryd.prog 23 #[.agg #[.int .i64 m, .slice a l cap], .int .i64 k] w fun e w' => e = .returned (.int .i64 ((k + zs.length : Nat) : Int)) ∧ Ints B w' (.slice a l cap) (ramp k zs.length) ∧ w.grownBy w' (Value.slice a l cap).ownBlock := by
  go_enter Tryd.func23, Tryd.ntmps23
  go_wp2_with fail
  refine (markIntS (B := B) _ zs k _ (h.alloc _) hk hn).mono ?_
  rintro e w1 ⟨rfl, hin, hg⟩
  have HIN := Lib.hid hin
  have HG := Lib.hid hg
  clear hin hg
  go_wp2_with fail
  go_ret
  exact ⟨rfl, HIN.out, grownBy_trans (World.grownBy_alloc _ _ _) HG.out⟩

end Go.Proofs.YtlkodggaebnkfaaDoor
