/- ValidClass of the model. Conditions: Sets is a slice of ints. The model's trace, validSet, TraceOf, shatters, IsShattered. Conditions: Sets is a slice of ints. Marks read at an index; the sets below a bound for which a test holds. No conditions. Two arrays of marks compared. No conditions. The model's validSet, TraceOf, shatters, IsShattered. Conditions: Sets is a slice of ints. IsShattered, the program's and the model's. Conditions: Sets is a slice of ints. The laws' marks: markIntS writes numbers into a slice, heldIntS looks for them. Conditions: at most 1048576 elements, which the call may write. -/
import Derived.Test.YtkamocciaaapmaaDoorTidy
import Derived.Test.YtkamocciaaapmaaDoorZA
namespace Go.Proofs.YtkamocciaaapmaaDoor
open Go.RowKit

theorem inRange_yes (n : Nat) (hn : n ≤ 5) (w : World) :
    Calls Tryd.prog 39 #[.int .i64 n, .int .i64 0, .int .i64 5] w fun e w' => e = .returned (.bool true) ∧ w' = w :=
  (specInRange _ _ _ _).mono fun e w' ⟨he, hw⟩ => ⟨by rw [he]; simp; omega, hw.symm⟩
theorem inRange_no (n : Int) (hn : n < 0 ∨ 5 < n) (w : World) :
    Calls Tryd.prog 39 #[.int .i64 n, .int .i64 0, .int .i64 5] w fun e w' => e = .returned (.bool false) ∧ w' = w :=
  (specInRange _ _ _ _).mono fun e w' ⟨he, hw⟩ => ⟨by rw [he]; simp; omega, hw.symm⟩
theorem power_q (n : Nat) (hn : n ≤ 5) (w : World) :
    Calls Tryd.prog 40 #[.int .i64 n] w fun e w' => e = .returned (.int .i64 (2 ^ n)) ∧ w' = w :=
  (specPower _ _ (by omega) (by omega)).mono fun e w' ⟨he, hw⟩ => ⟨by rw [he]; simp, hw.symm⟩

set_option maxHeartbeats 3200000 in
set_option maxRecDepth 100000 in
theorem specValid_in (n : Nat) (hn : n ≤ 5) (v : Value) (zs : List Int) (w : World) (h : Rd w v zs) :
    Calls Tryd.prog 21 #[.agg #[.int .i64 n, v]] w fun e w' => e = .returned (.bool (vldB n zs)) ∧ Below w.heap.size w w' := by
  obtain ⟨a, g, off, cap, rfl, h1, h3, h5⟩ := h
  have H5 := Lib.hid h5
  have H1 := Lib.hid h1
  clear h5 h1
  go_enter Tryd.func21, Tryd.ntmps21
  go_wp2_with fail
  go_loopw [3] (fun i wr => ∃ k : Nat, k ≤ zs.length ∧ i = .int .i64 k ∧ okTo n zs k ∧ Box n (.slice a zs.length cap) w wr) (fun i _ => zs.length - (intOf i).toNat)
  case atStart => exact ⟨0, Nat.zero_le _, rfl, okTo_zero _ _, Box.made _ _ _ _⟩
  case round =>
    obtain ⟨k, hk, rfl, hok, hbox⟩ := hrel
    have HBX := Lib.hid hbox
    obtain ⟨hbe, hb0, hb1⟩ := hbox
    have HBE := Lib.hid hbe
    clear hbe
    have HO := Lib.hid hok
    clear hok
    by_cases hlt : k < zs.length
    · obtain ⟨rfl, hbl⟩ := H1.out (by omega)
      have hc := (HBE.out.cell (p := ⟨g, off + k, none⟩) hbl).trans (H5.out k hlt)
      have hkI : (k : Int) < (zs.length : Int) := by omega
      have HB := Lib.hid (fun h => vldB_at (n := n) (zs := zs) hlt h)
      have HS := Lib.hid (fun h1 h2 h3 => okTo_succ (n := n) HO.out h1 h2 h3)
      have hy0 := (HBE.out.cell (p := ⟨g, off + (k - 1), none⟩) hbl).trans (H5.out (k - 1) (by omega))
      generalize zs.getD k 0 = x at hc HB HS
      generalize zs.getD (k - 1) 0 = y at hy0 HB HS
      by_cases hneg : x < 0
      · clear hy0
        have hd : decide (x < 0) = true := by simpa using hneg
        go_wp2_with fail
        go_quiet (fail)
        go_wp2_with fail
        go_ret
        exact ⟨ret_bool (HB.out (by omega)).symm, below_drewN HBE.out _⟩
      · have hd : decide (x < 0) = false := by simpa using hneg
        by_cases hbig : (2 : Int) ^ n ≤ x
        · clear hy0
          have hd2 : decide ((2 : Int) ^ n ≤ x) = true := by simpa using hbig
          go_wp2_with fail
          go_quiet (first | (go_at_call 39; exact Calls.quiet_of_same (inRange_yes n hn _)) | (go_at_call 40; exact Calls.quiet_of_same (power_q n hn _)))
          go_wp2_with fail
          go_ret
          exact ⟨ret_bool (HB.out (by omega)).symm, below_drewN HBE.out _⟩
        · have hd2 : decide ((2 : Int) ^ n ≤ x) = false := by simpa using hbig
          by_cases hk0 : k = 0
          · clear hy0
            have hd3 : decide (0 < k) = false := by simpa using hk0
            have HK := Lib.hid hk0
            clear hk0
            go_wp2_with fail
            go_quiet (first | (go_at_call 39; exact Calls.quiet_of_same (inRange_yes n hn _)) | (go_at_call 40; exact Calls.quiet_of_same (power_q n hn _)))
            go_wp2_with fail
            go_roundw
            case rel => exact ⟨k + 1, by omega, by go_num, HS.out (by omega) (by omega) (fun h => by have := HK.out; omega), HBX.out.drewN _⟩
            case measure => simp [intOf]; omega
          · have hd3 : decide (0 < k) = true := by simp; omega
            have hk1 : 1 ≤ k := by omega
            have hk2 : (0 : Int) ≤ (k : Int) - 1 := by omega
            have hk3 : (k : Int) - 1 < (zs.length : Int) := by omega
            clear hk0
            by_cases hxy : x ≤ y
            · have hd4 : decide (x ≤ y) = true := by simpa using hxy
              go_wp2_with fail
              go_quiet (first | (go_at_call 39; exact Calls.quiet_of_same (inRange_yes n hn _)) | (go_at_call 40; exact Calls.quiet_of_same (power_q n hn _)))
              go_wp2_with fail
              go_ret
              exact ⟨ret_bool (HB.out (by rintro ⟨_, _, h⟩; have := h (by omega); omega)).symm, below_drewN HBE.out _⟩
            · have hd4 : decide (x ≤ y) = false := by simpa using hxy
              go_wp2_with fail
              go_quiet (first | (go_at_call 39; exact Calls.quiet_of_same (inRange_yes n hn _)) | (go_at_call 40; exact Calls.quiet_of_same (power_q n hn _)))
              go_wp2_with fail
              go_roundw
              case rel => exact ⟨k + 1, by omega, by go_num, HS.out (by omega) (by omega) (fun h => by omega), HBX.out.drewN _⟩
              case measure => simp [intOf]; omega
    · go_wp2_with fail
      refine (inRange_yes n hn _).mono ?_
      rintro e w1 ⟨rfl, rfl⟩
      go_wp2_with fail
      go_ret
      obtain rfl : k = zs.length := by omega
      exact ⟨ret_bool (vldB_all hn HO.out).symm, HBE.out⟩

set_option maxHeartbeats 3200000 in
set_option maxRecDepth 100000 in
theorem specValid_out (n : Int) (hn : n < 0 ∨ 5 < n) (v : Value) (zs : List Int) (w : World) (h : Rd w v zs) :
    Calls Tryd.prog 21 #[.agg #[.int .i64 n, v]] w fun e w' => e = .returned (.bool false) ∧ Below w.heap.size w w' := by
  obtain ⟨a, g, off, cap, rfl, h1, h3, h5⟩ := h
  have H5 := Lib.hid h5
  have H1 := Lib.hid h1
  clear h5 h1
  have HN := Lib.hid hn
  clear hn
  go_enter Tryd.func21, Tryd.ntmps21
  go_wp2_with fail
  go_loopw [3] (fun i wr => ∃ k : Nat, k ≤ zs.length ∧ i = .int .i64 k ∧ Box n (.slice a zs.length cap) w wr) (fun i _ => zs.length - (intOf i).toNat)
  case atStart => exact ⟨0, Nat.zero_le _, rfl, Box.made _ _ _ _⟩
  case round =>
    obtain ⟨k, hk, rfl, hbox⟩ := hrel
    have HBX := Lib.hid hbox
    obtain ⟨hbe, hb0, hb1⟩ := hbox
    have HBE := Lib.hid hbe
    clear hbe
    by_cases hlt : k < zs.length
    · obtain ⟨rfl, hbl⟩ := H1.out (by omega)
      have hc := (HBE.out.cell (p := ⟨g, off + k, none⟩) hbl).trans (H5.out k hlt)
      have hkI : (k : Int) < (zs.length : Int) := by omega
      have hy0 := (HBE.out.cell (p := ⟨g, off + (k - 1), none⟩) hbl).trans (H5.out (k - 1) (by omega))
      generalize zs.getD k 0 = x at hc
      generalize zs.getD (k - 1) 0 = y at hy0
      by_cases hneg : x < 0
      · clear hy0
        have hd : decide (x < 0) = true := by simpa using hneg
        go_wp2_with fail
        go_quiet (fail)
        go_wp2_with fail
        go_ret
        exact ⟨rfl, below_drewN HBE.out _⟩
      · have hd : decide (x < 0) = false := by simpa using hneg
        by_cases hk0 : k = 0
        · clear hy0
          have hd3 : decide (0 < k) = false := by simpa using hk0
          have HK := Lib.hid hk0
          clear hk0
          go_wp2_with fail
          go_quiet ((go_at_call 39; exact Calls.quiet_of_same (inRange_no n HN.out _)))
          go_wp2_with fail
          go_roundw
          case rel => exact ⟨k + 1, by omega, by go_num, HBX.out.drewN _⟩
          case measure => simp [intOf]; omega
        · have hd3 : decide (0 < k) = true := by simp; omega
          have hk1 : 1 ≤ k := by omega
          have hk2 : (0 : Int) ≤ (k : Int) - 1 := by omega
          have hk3 : (k : Int) - 1 < (zs.length : Int) := by omega
          clear hk0
          by_cases hxy : x ≤ y
          · have hd4 : decide (x ≤ y) = true := by simpa using hxy
            go_wp2_with fail
            go_quiet ((go_at_call 39; exact Calls.quiet_of_same (inRange_no n HN.out _)))
            go_wp2_with fail
            go_ret
            exact ⟨rfl, below_drewN HBE.out _⟩
          · have hd4 : decide (x ≤ y) = false := by simpa using hxy
            go_wp2_with fail
            go_quiet ((go_at_call 39; exact Calls.quiet_of_same (inRange_no n HN.out _)))
            go_wp2_with fail
            go_roundw
            case rel => exact ⟨k + 1, by omega, by go_num, HBX.out.drewN _⟩
            case measure => simp [intOf]; omega
    · go_wp2_with fail
      refine (inRange_no n HN.out _).mono ?_
      rintro e w1 ⟨rfl, rfl⟩
      go_wp2_with fail
      go_ret
      exact ⟨rfl, HBE.out⟩

theorem specValid (n : Int) (v : Value) (zs : List Int) (w : World) (h : Rd w v zs) :
    Calls Tryd.prog 21 #[.agg #[.int .i64 n, v]] w fun e w' => e = .returned (.bool (vldB n zs)) ∧ Below w.heap.size w w' := by
  by_cases h0 : n < 0
  · rw [vldB_low h0]; exact specValid_out n (.inl h0) v zs w h
  · by_cases h1 : 5 < n
    · rw [vldB_high h1]; exact specValid_out n (.inr h1) v zs w h
    · obtain ⟨m, rfl⟩ := Int.eq_ofNat_of_zero_le (show 0 ≤ n by omega)
      exact specValid_in m (by omega) v zs w h


end Go.Proofs.YtkamocciaaapmaaDoor

namespace Go.Proofs.YtkamocciaaapmaaDoor
open Go.RowKit

theorem RetInts.after {xs : List Int} {w w2 w' : World} {e : Ending} (hb : Below w.heap.size w w2) (h : RetInts xs w2 e w') : RetInts xs w e w' := by
  obtain ⟨a, c, he, hin, hb2⟩ := h
  exact ⟨a, c, he, hin.mono hb.size, hb.trans (hb2.mono hb.size)⟩

theorem and_lt32 {a : Nat} (s : Nat) (h : a < 32) : a &&& s < 32 := Nat.lt_of_le_of_lt Nat.and_le_left h

theorem tidy_tr (ns : List Nat) (s : Nat) : tidyL (ns.map (fun t => t &&& s)) = tr ns s := by
  unfold tidyL tr
  apply flt_congr
  intro x _
  rw [Bool.eq_iff_iff]
  simp


end Go.Proofs.YtkamocciaaapmaaDoor

namespace Go.Proofs.YtkamocciaaapmaaDoor
open Go.RowKit



theorem filt_yes {p : Nat → Bool} {k : Nat} (h : p k = true) : (List.range (k + 1)).filter p = (List.range k).filter p ++ [k] := by simp [List.range_succ, h]
theorem filt_no {p : Nat → Bool} {k : Nat} (h : p k = false) : (List.range (k + 1)).filter p = (List.range k).filter p := by simp [List.range_succ, h]
theorem filt_le (p : Nat → Bool) (k : Nat) : ((List.range k).filter p).length ≤ k := by have := List.length_filter_le p (List.range k); simpa using this

end Go.Proofs.YtkamocciaaapmaaDoor

namespace Go.Proofs.YtkamocciaaapmaaDoor
open Go.RowKit


theorem run_forMarks (p q : Nat → Bool) (f : Nat → Option Bool × Unit → Sem (ForInStep (Option Bool × Unit))) (hf : ∀ j, j < 32 → ∀ s w, (f j s).run Tryd.prog w = .ok (if p j == q j then ForInStep.yield (none, ()) else ForInStep.done (some false, ())) w) {w : World} :
    ∀ ls : List Nat, (∀ j ∈ ls, j < 32) → (forIn ls ((none, ()) : Option Bool × Unit) f).run Tryd.prog w = .ok (if ls.all (fun i => p i == q i) then none else some false, ()) w := by
  intro ls
  induction ls with
  | nil => intro _; simp
  | cons j ls ih =>
    intro hj
    simp only [List.forIn_cons, Sem.run_bind, hf j (hj j (by simp)), Result.andThen_ok, List.all_cons]
    by_cases e : p j == q j
    · simp only [e, if_true, Bool.true_and]
      exact ih (fun i hi => hj i (by simp [hi]))
    · rw [Bool.not_eq_true] at e
      simp only [e, Bool.false_eq_true, if_false, Bool.false_and, Sem.run_pure]



/-- the marks are those of the parts exactly if as many parts are there as may be -/
theorem sht_marks (ns : List Nat) (s : Nat) (hs : s < 32) : ((List.range 32).all fun i => (ns.any fun t => t &&& s == i) == (i &&& s == i)) = sht ns s := by
  have hsub : ∀ x, x ∈ tr ns s → x ∈ flt (fun p => p &&& s == p) := by
    intro x hx
    obtain ⟨hx32, h⟩ := mem_flt.1 hx
    refine mem_flt.2 ⟨hx32, ?_⟩
    obtain ⟨t, _, ht⟩ := List.any_eq_true.1 h
    rw [beq_iff_eq] at ht ⊢
    rw [← ht, Nat.and_assoc, Nat.and_self]
  have hcard : (flt (fun p => p &&& s == p)).length = 2 ^ pc s := by
    have : ∀ s : Fin 32, (flt (fun p => p &&& (s : Nat) == p)).length = 2 ^ pc s := by decide +kernel
    exact this ⟨s, hs⟩
  rw [Bool.eq_iff_iff, List.all_eq_true, sht, decide_eq_true_eq]
  constructor
  · intro h
    rw [← hcard]
    congr 1
    exact flt_congr fun x hx => by simpa using h x (List.mem_range.2 hx)
  · intro h x hx
    have hx32 := List.mem_range.1 hx
    have e : tr ns s = flt (fun p => p &&& s == p) := by
      have hsl : (tr ns s).Sublist (flt (fun p => p &&& s == p)) := by
        have : tr ns s = (flt (fun p => p &&& s == p)).filter (fun x => decide (x ∈ tr ns s)) := by
          apply asc_ext (flt_asc _) ((flt_asc _).filter _)
          intro y
          rw [List.mem_filter, decide_eq_true_eq]
          exact ⟨fun hy => ⟨hsub y hy, hy⟩, fun hy => hy.2⟩
        rw [this]
        exact List.filter_sublist
      exact hsl.eq_of_length (by rw [h, hcard])
    rw [beq_iff_eq, Bool.eq_iff_iff]
    have := congrArg (x ∈ ·) e
    simp only [tr, mem_flt, eq_iff_iff] at this
    exact ⟨fun h => (this.1 ⟨hx32, h⟩).2, fun h => (this.2 ⟨hx32, h⟩).2⟩


end Go.Proofs.YtkamocciaaapmaaDoor

namespace Go.Proofs.YtkamocciaaapmaaDoor
open Go.RowKit



end Go.Proofs.YtkamocciaaapmaaDoor

namespace Go.Proofs.YtkamocciaaapmaaDoor
open Go.RowKit


theorem pow_pc_cast (s : Nat) : ((2 ^ pc s : Nat) : Int) = (2 : Int) ^ pc s := by simp



end Go.Proofs.YtkamocciaaapmaaDoor

namespace Go.Proofs.YtkamocciaaapmaaDoor
open Go.RowKit

/-- k, k + 1, ..: n numbers -/
def ramp (k n : Nat) : List Int := (List.range n).map (fun i => ((k + i : Nat) : Int))
theorem ramp_length (k n : Nat) : (ramp k n).length = n := by simp [ramp]
theorem ramp_getD (k n i : Nat) (h : i < n) : (ramp k n).getD i 0 = ((k + i : Nat) : Int) := by simp [ramp, List.getD, h]
/-- the first j are written -/
def mix (k : Nat) (zs : List Int) (j : Nat) : List Int := ramp k j ++ zs.drop j
theorem mix_length (k : Nat) (zs : List Int) (j : Nat) (h : j ≤ zs.length) : (mix k zs j).length = zs.length := by simp [mix, ramp_length]; omega
theorem mix_zero (k : Nat) (zs : List Int) : mix k zs 0 = zs := by simp [mix, ramp]
theorem mix_full (k : Nat) (zs : List Int) : mix k zs zs.length = ramp k zs.length := by simp [mix]
theorem mix_step (k : Nat) (zs : List Int) (j : Nat) (h : j < zs.length) : (mix k zs j).set j ((k + j : Nat) : Int) = mix k zs (j + 1) := by
  have e : zs.drop j = zs[j] :: zs.drop (j + 1) := List.drop_eq_getElem_cons h
  simp only [mix, e]
  rw [List.set_append_right _ _ (by rw [ramp_length]; omega), ramp_length, Nat.sub_self, List.set_cons_zero]
  simp [ramp, List.range_succ]

theorem Ints.kept {B : Nat} {w w' : World} {v : Value} {zs : List Int} {row : Option Nat} (h : Ints B w v zs) (hg : w.grownBy w' row) (hne : v.ownBlock = none ∨ v.ownBlock ≠ row) : Ints B w' v zs := World.ownsRow.kept h hg hne
theorem Ints.apart {B1 B2 : Nat} {w1 w2 : World} {v1 v2 : Value} {z1 z2 : List Int} (h1 : Ints B1 w1 v1 z1) (h2 : Ints B2 w2 v2 z2) (hle : w1.heap.size ≤ B2) : v1.ownBlock = none ∨ v1.ownBlock ≠ v2.ownBlock := by
  cases e1 : v1.ownBlock with
  | none => exact .inl rfl
  | some g1 =>
    right
    intro e2
    have := (h1.lt g1 e1).2
    have := (h2.lt g1 e2.symm).1
    omega
theorem grownBy_set {g : Nat} (w : World) (j : Nat) (x : Value) : w.grownBy (w.setCell ⟨g, j, none⟩ x) (some g) :=
  ⟨rfl, rfl, rfl, by simp, fun k _ hk => heap_setCell_other w ⟨g, j, none⟩ k x (fun e => hk (by simp [e]))⟩
theorem grownBy_trans {a b c : World} {row : Option Nat} (h1 : a.grownBy b row) (h2 : b.grownBy c row) : a.grownBy c row :=
  ⟨h2.os.trans h1.os, h2.tape.trans h1.tape, h2.output.trans h1.output, Nat.le_trans h1.size h2.size, fun k hk hne => (h2.block k (Nat.lt_of_lt_of_le hk h1.size) hne).trans (h1.block k hk hne)⟩

theorem Ints.row_ge {B b : Nat} {w : World} {v : Value} {zs : List Int} (h : Ints B w v zs) (hb : b < B) : ∀ k, v.ownBlock = some k → b < k := fun k hk => Nat.lt_of_lt_of_le hb (h.lt k hk).1
theorem Box.grown {n : Int} {v : Value} {w wr w1 : World} {row : Option Nat} (h : Box n v w wr) (hg : wr.grownBy w1 row) (hr : ∀ k, row = some k → w.heap.size < k) : Box n v w w1 :=
  ⟨h.below.grown hg h.below.size (fun k hk => Nat.le_of_lt (hr k hk)),
   hg.cell h.at0 (fun e => Nat.lt_irrefl _ (hr _ e.symm)), hg.cell h.at1 (fun e => Nat.lt_irrefl _ (hr _ e.symm))⟩
theorem Ints.apart_of {B : Nat} {w : World} {v u : Value} {zs : List Int} (_h : Ints B w v zs) (ha : u.ownBlock = none ∨ u.ownBlock ≠ v.ownBlock) : v.ownBlock = none ∨ v.ownBlock ≠ u.ownBlock := by
  cases hv : v.ownBlock with
  | none => exact .inl rfl
  | some k =>
    right
    intro e
    rcases ha with ha | ha
    · rw [ha] at e; cases e
    · exact ha (by rw [hv, e])

set_option maxHeartbeats 800000 in
set_option maxRecDepth 100000 in
theorem markIntS {B : Nat} (v : Value) (zs : List Int) (k : Nat) (w : World) (h : Ints B w v zs) (hk : k ≤ 2097153) (hn : zs.length ≤ 1048576) :
    Calls Tryd.prog 34 #[v, .int .i64 k] w fun e w' => e = .returned (.int .i64 ((k + zs.length : Nat) : Int)) ∧ Ints B w' v (ramp k zs.length) ∧ w.grownBy w' v.ownBlock := by
  obtain ⟨a, g, cap, rfl, h1, h2, _⟩ := h.shape
  have H := Lib.hid h
  have H2 := Lib.hid h2
  clear h h2
  rcases h1 with rfl | rfl
  · go_enter Tryd.func34, Tryd.ntmps34
    go_wp2_with fail
    go_loopw [1, 5] (fun q i wr => ∃ j : Nat, j ≤ zs.length ∧ i = .int .i64 j ∧ q = .int .i64 ((k + j : Nat) : Int) ∧ Ints B wr (.slice (some ⟨g, 0, none⟩) zs.length cap) (mix k zs j) ∧ w.grownBy wr (some g)) (fun _ i _ => zs.length - (intOf i).toNat)
    case atStart => exact ⟨0, Nat.zero_le _, rfl, rfl, by rw [mix_zero]; exact H.out, World.grownBy.refl _ _⟩
    case round =>
      obtain ⟨j, hj, rfl, rfl, hin, hg⟩ := hrel
      have HIN := Lib.hid hin
      have HG := Lib.hid hg
      clear hin hg
      by_cases hlt : j < zs.length
      · obtain ⟨hc, hf⟩ := HIN.out.cellAt j (by rw [mix_length _ _ _ (by omega)]; exact hlt)
        have HS := Lib.hid (mix_step k zs j hlt)
        generalize (mix k zs j).getD j 0 = y at hc
        go_wp2_with fail
        go_roundw
        case rel => exact ⟨j + 1, by omega, by go_num, by go_num, by rw [← HS.out]; exact HIN.out.store j _, grownBy_trans HG.out (grownBy_set _ _ _)⟩
        case measure => simp [intOf]; omega
      · obtain rfl : j = zs.length := by omega
        rw [mix_full] at HIN
        go_wp2_with fail
        go_ret
        exact ⟨rfl, HIN.out, HG.out⟩
  · obtain ⟨rfl, rfl⟩ := H2.out rfl
    go_enter Tryd.func34, Tryd.ntmps34
    go_wp2_with fail
    refine wp_loop_rounds 1 ?_
    rw [rounds_succ]
    go_wp2_with fail
    go_ret
    exact ⟨rfl, H.out, World.grownBy.refl _ _⟩

set_option maxHeartbeats 800000 in
set_option maxRecDepth 100000 in
theorem heldIntS (v : Value) (n k : Nat) (w : World) (h : Rd w v (ramp k n)) (hk : k ≤ 2097153) (hn : n ≤ 1048576) :
    Calls Tryd.prog 35 #[v, .int .i64 k] w fun e w' => e = .returned (.int .i64 ((k + n : Nat) : Int)) ∧ w' = w := by
  obtain ⟨a, b, off, cap, rfl, h1, h3, h5⟩ := h
  rw [ramp_length] at *
  have H5 := Lib.hid h5
  have H1 := Lib.hid h1
  clear h5 h1
  go_enter Tryd.func35, Tryd.ntmps35
  go_wp2_with fail
  go_loop [1, 5] (fun q i => ∃ j : Nat, j ≤ n ∧ i = .int .i64 j ∧ q = .int .i64 ((k + j : Nat) : Int)) (fun _ i => n - (intOf i).toNat)
  case atStart => exact ⟨0, Nat.zero_le _, rfl, rfl⟩
  case round =>
    obtain ⟨j, hj, rfl, rfl⟩ := hrel
    by_cases hlt : j < n
    · obtain ⟨rfl, _⟩ := H1.out (by omega)
      have hc := H5.out j hlt
      rw [ramp_getD _ _ _ hlt] at hc
      go_wp2_with fail
      go_round
      case rel => exact ⟨j + 1, by omega, by go_num, by go_num⟩
      case measure => simp [intOf]; omega
    · obtain rfl : j = n := by omega
      go_wp2_with fail
      go_ret
      exact ⟨rfl, rfl⟩

set_option maxHeartbeats 400000 in
theorem markClass {B : Nat} (m : Int) (a : Option Addr) (l cap : Nat) (zs : List Int) (k : Nat) (w : World) (h : Ints B w (.slice a l cap) zs) (hk : k ≤ 2097153) (hn : zs.length ≤ 1048576) :
    Calls Tryd.prog 16 #[.agg #[.int .i64 m, .slice a l cap], .int .i64 k] w fun e w' => e = .returned (.int .i64 ((k + zs.length : Nat) : Int)) ∧ Ints B w' (.slice a l cap) (ramp k zs.length) ∧ w.grownBy w' (Value.slice a l cap).ownBlock := by
  go_enter Tryd.func16, Tryd.ntmps16
  go_wp2_with fail
  refine (markIntS (B := B) _ zs k _ (h.alloc _) hk hn).mono ?_
  rintro e w1 ⟨rfl, hin, hg⟩
  have HIN := Lib.hid hin
  have HG := Lib.hid hg
  clear hin hg
  go_wp2_with fail
  go_ret
  exact ⟨rfl, HIN.out, grownBy_trans (World.grownBy_alloc _ _ _) HG.out⟩

end Go.Proofs.YtkamocciaaapmaaDoor
