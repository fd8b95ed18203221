/- ValidClass of the model. Conditions: Sets is a slice of ints. The model's trace, validSet, TraceOf, shatters, IsShattered. Conditions: Sets is a slice of ints. Marks read at an index; the sets below a bound for which a test holds. No conditions. Two arrays of marks compared. No conditions. The model's validSet, TraceOf, shatters, IsShattered. Conditions: Sets is a slice of ints. IsShattered, the program's and the model's. Conditions: Sets is a slice of ints. The laws' marks: markIntS writes numbers into a slice, heldIntS looks for them. Conditions: at most 1048576 elements, which the call may write. -/
import Derived.Test.YtpkilacappjkhaaTidy
import Derived.Test.YtpkilacappjkhaaZA
namespace Go.Proofs.Ytpkilacappjkhaa
open Go.RowKit

theorem inRange_yes (n : Nat) (hn : n ≤ 5) (w : World) :
    Calls Try.prog 28 #[.int .i64 n, .int .i64 0, .int .i64 5] w fun e w' => e = .returned (.bool true) ∧ w' = w :=
  (specInRange _ _ _ _).mono fun e w' ⟨he, hw⟩ => ⟨by rw [he]; simp; omega, hw.symm⟩
theorem inRange_no (n : Int) (hn : n < 0 ∨ 5 < n) (w : World) :
    Calls Try.prog 28 #[.int .i64 n, .int .i64 0, .int .i64 5] w fun e w' => e = .returned (.bool false) ∧ w' = w :=
  (specInRange _ _ _ _).mono fun e w' ⟨he, hw⟩ => ⟨by rw [he]; simp; omega, hw.symm⟩
theorem power_q (n : Nat) (hn : n ≤ 5) (w : World) :
    Calls Try.prog 29 #[.int .i64 n] w fun e w' => e = .returned (.int .i64 (2 ^ n)) ∧ w' = w :=
  (specPower _ _ (by omega) (by omega)).mono fun e w' ⟨he, hw⟩ => ⟨by rw [he]; simp, hw.symm⟩

set_option maxHeartbeats 3200000 in
set_option maxRecDepth 100000 in
theorem specValid_in (n : Nat) (hn : n ≤ 5) (v : Value) (zs : List Int) (w : World) (h : Rd w v zs) :
    Calls Try.prog 18 #[.agg #[.int .i64 n, v]] w fun e w' => e = .returned (.bool (vldB n zs)) ∧ Below w.heap.size w w' := by
  obtain ⟨a, g, off, cap, rfl, h1, h3, h5⟩ := h
  have H5 := Lib.hid h5
  have H1 := Lib.hid h1
  clear h5 h1
  go_enter Try.func18, Try.ntmps18
  go_wp2_with fail
  go_loopw [3] (fun i wr => ∃ k : Nat, k ≤ zs.length ∧ i = .int .i64 k ∧ okTo n zs k ∧ Box n (.slice a zs.length cap) w wr) (fun i _ => zs.length - (intOf i).toNat)
  case atStart => exact ⟨0, Nat.zero_le _, rfl, okTo_zero _ _, Box.made _ _ _ _⟩
  case round =>
    obtain ⟨k, hk, rfl, hok, hbox⟩ := hrel
    have HBX := Lib.hid hbox
    obtain ⟨hbe, hb0, hb1⟩ := hbox
    have HBE := Lib.hid hbe
    clear hbe
    have HO := Lib.hid hok
    clear hok
    by_cases hlt : k < zs.length
    · obtain ⟨rfl, hbl⟩ := H1.out (by omega)
      have hc := (HBE.out.cell (p := ⟨g, off + k, none⟩) hbl).trans (H5.out k hlt)
      have hkI : (k : Int) < (zs.length : Int) := by omega
      have HB := Lib.hid (fun h => vldB_at (n := n) (zs := zs) hlt h)
      have HS := Lib.hid (fun h1 h2 h3 => okTo_succ (n := n) HO.out h1 h2 h3)
      have hy0 := (HBE.out.cell (p := ⟨g, off + (k - 1), none⟩) hbl).trans (H5.out (k - 1) (by omega))
      generalize zs.getD k 0 = x at hc HB HS
      generalize zs.getD (k - 1) 0 = y at hy0 HB HS
      by_cases hneg : x < 0
      · clear hy0
        have hd : decide (x < 0) = true := by simpa using hneg
        go_wp2_with fail
        go_quiet (fail)
        go_wp2_with fail
        go_ret
        exact ⟨ret_bool (HB.out (by omega)).symm, below_drewN HBE.out _⟩
      · have hd : decide (x < 0) = false := by simpa using hneg
        by_cases hbig : (2 : Int) ^ n ≤ x
        · clear hy0
          have hd2 : decide ((2 : Int) ^ n ≤ x) = true := by simpa using hbig
          go_wp2_with fail
          go_quiet (first | (go_at_call 28; exact Calls.quiet_of_same (inRange_yes n hn _)) | (go_at_call 29; exact Calls.quiet_of_same (power_q n hn _)))
          go_wp2_with fail
          go_ret
          exact ⟨ret_bool (HB.out (by omega)).symm, below_drewN HBE.out _⟩
        · have hd2 : decide ((2 : Int) ^ n ≤ x) = false := by simpa using hbig
          by_cases hk0 : k = 0
          · clear hy0
            have hd3 : decide (0 < k) = false := by simpa using hk0
            have HK := Lib.hid hk0
            clear hk0
            go_wp2_with fail
            go_quiet (first | (go_at_call 28; exact Calls.quiet_of_same (inRange_yes n hn _)) | (go_at_call 29; exact Calls.quiet_of_same (power_q n hn _)))
            go_wp2_with fail
            go_roundw
            case rel => exact ⟨k + 1, by omega, by go_num, HS.out (by omega) (by omega) (fun h => by have := HK.out; omega), HBX.out.drewN _⟩
            case measure => simp [intOf]; omega
          · have hd3 : decide (0 < k) = true := by simp; omega
            have hk1 : 1 ≤ k := by omega
            have hk2 : (0 : Int) ≤ (k : Int) - 1 := by omega
            have hk3 : (k : Int) - 1 < (zs.length : Int) := by omega
            clear hk0
            by_cases hxy : x ≤ y
            · have hd4 : decide (x ≤ y) = true := by simpa using hxy
              go_wp2_with fail
              go_quiet (first | (go_at_call 28; exact Calls.quiet_of_same (inRange_yes n hn _)) | (go_at_call 29; exact Calls.quiet_of_same (power_q n hn _)))
              go_wp2_with fail
              go_ret
              exact ⟨ret_bool (HB.out (by rintro ⟨_, _, h⟩; have := h (by omega); omega)).symm, below_drewN HBE.out _⟩
            · have hd4 : decide (x ≤ y) = false := by simpa using hxy
              go_wp2_with fail
              go_quiet (first | (go_at_call 28; exact Calls.quiet_of_same (inRange_yes n hn _)) | (go_at_call 29; exact Calls.quiet_of_same (power_q n hn _)))
              go_wp2_with fail
              go_roundw
              case rel => exact ⟨k + 1, by omega, by go_num, HS.out (by omega) (by omega) (fun h => by omega), HBX.out.drewN _⟩
              case measure => simp [intOf]; omega
    · go_wp2_with fail
      refine (inRange_yes n hn _).mono ?_
      rintro e w1 ⟨rfl, rfl⟩
      go_wp2_with fail
      go_ret
      obtain rfl : k = zs.length := by omega
      exact ⟨ret_bool (vldB_all hn HO.out).symm, HBE.out⟩

set_option maxHeartbeats 3200000 in
set_option maxRecDepth 100000 in
theorem specValid_out (n : Int) (hn : n < 0 ∨ 5 < n) (v : Value) (zs : List Int) (w : World) (h : Rd w v zs) :
    Calls Try.prog 18 #[.agg #[.int .i64 n, v]] w fun e w' => e = .returned (.bool false) ∧ Below w.heap.size w w' := by
  obtain ⟨a, g, off, cap, rfl, h1, h3, h5⟩ := h
  have H5 := Lib.hid h5
  have H1 := Lib.hid h1
  clear h5 h1
  have HN := Lib.hid hn
  clear hn
  go_enter Try.func18, Try.ntmps18
  go_wp2_with fail
  go_loopw [3] (fun i wr => ∃ k : Nat, k ≤ zs.length ∧ i = .int .i64 k ∧ Box n (.slice a zs.length cap) w wr) (fun i _ => zs.length - (intOf i).toNat)
  case atStart => exact ⟨0, Nat.zero_le _, rfl, Box.made _ _ _ _⟩
  case round =>
    obtain ⟨k, hk, rfl, hbox⟩ := hrel
    have HBX := Lib.hid hbox
    obtain ⟨hbe, hb0, hb1⟩ := hbox
    have HBE := Lib.hid hbe
    clear hbe
    by_cases hlt : k < zs.length
    · obtain ⟨rfl, hbl⟩ := H1.out (by omega)
      have hc := (HBE.out.cell (p := ⟨g, off + k, none⟩) hbl).trans (H5.out k hlt)
      have hkI : (k : Int) < (zs.length : Int) := by omega
      have hy0 := (HBE.out.cell (p := ⟨g, off + (k - 1), none⟩) hbl).trans (H5.out (k - 1) (by omega))
      generalize zs.getD k 0 = x at hc
      generalize zs.getD (k - 1) 0 = y at hy0
      by_cases hneg : x < 0
      · clear hy0
        have hd : decide (x < 0) = true := by simpa using hneg
        go_wp2_with fail
        go_quiet (fail)
        go_wp2_with fail
        go_ret
        exact ⟨rfl, below_drewN HBE.out _⟩
      · have hd : decide (x < 0) = false := by simpa using hneg
        by_cases hk0 : k = 0
        · clear hy0
          have hd3 : decide (0 < k) = false := by simpa using hk0
          have HK := Lib.hid hk0
          clear hk0
          go_wp2_with fail
          go_quiet ((go_at_call 28; exact Calls.quiet_of_same (inRange_no n HN.out _)))
          go_wp2_with fail
          go_roundw
          case rel => exact ⟨k + 1, by omega, by go_num, HBX.out.drewN _⟩
          case measure => simp [intOf]; omega
        · have hd3 : decide (0 < k) = true := by simp; omega
          have hk1 : 1 ≤ k := by omega
          have hk2 : (0 : Int) ≤ (k : Int) - 1 := by omega
          have hk3 : (k : Int) - 1 < (zs.length : Int) := by omega
          clear hk0
          by_cases hxy : x ≤ y
          · have hd4 : decide (x ≤ y) = true := by simpa using hxy
            go_wp2_with fail
            go_quiet ((go_at_call 28; exact Calls.quiet_of_same (inRange_no n HN.out _)))
            go_wp2_with fail
            go_ret
            exact ⟨rfl, below_drewN HBE.out _⟩
          · have hd4 : decide (x ≤ y) = false := by simpa using hxy
            go_wp2_with fail
            go_quiet ((go_at_call 28; exact Calls.quiet_of_same (inRange_no n HN.out _)))
            go_wp2_with fail
            go_roundw
            case rel => exact ⟨k + 1, by omega, by go_num, HBX.out.drewN _⟩
            case measure => simp [intOf]; omega
    · go_wp2_with fail
      refine (inRange_no n HN.out _).mono ?_
      rintro e w1 ⟨rfl, rfl⟩
      go_wp2_with fail
      go_ret
      exact ⟨rfl, HBE.out⟩

theorem specValid (n : Int) (v : Value) (zs : List Int) (w : World) (h : Rd w v zs) :
    Calls Try.prog 18 #[.agg #[.int .i64 n, v]] w fun e w' => e = .returned (.bool (vldB n zs)) ∧ Below w.heap.size w w' := by
  by_cases h0 : n < 0
  · rw [vldB_low h0]; exact specValid_out n (.inl h0) v zs w h
  · by_cases h1 : 5 < n
    · rw [vldB_high h1]; exact specValid_out n (.inr h1) v zs w h
    · obtain ⟨m, rfl⟩ := Int.eq_ofNat_of_zero_le (show 0 ≤ n by omega)
      exact specValid_in m (by omega) v zs w h


end Go.Proofs.Ytpkilacappjkhaa

namespace Go.Proofs.Ytpkilacappjkhaa
open Go.RowKit

theorem RetInts.after {xs : List Int} {w w2 w' : World} {e : Ending} (hb : Below w.heap.size w w2) (h : RetInts xs w2 e w') : RetInts xs w e w' := by
  obtain ⟨a, c, he, hin, hb2⟩ := h
  exact ⟨a, c, he, hin.mono hb.size, hb.trans (hb2.mono hb.size)⟩

theorem and_lt32 {a : Nat} (s : Nat) (h : a < 32) : a &&& s < 32 := Nat.lt_of_le_of_lt Nat.and_le_left h

theorem tidy_tr (ns : List Nat) (s : Nat) : tidyL (ns.map (fun t => t &&& s)) = tr ns s := by
  unfold tidyL tr
  apply flt_congr
  intro x _
  rw [Bool.eq_iff_iff]
  simp


end Go.Proofs.Ytpkilacappjkhaa

namespace Go.Proofs.Ytpkilacappjkhaa
open Go.RowKit

theorem infoB : (Try.prog.info? 4).map (·.size) = some 1 := by kernel_rfl
theorem run_indexM (p : Nat → Bool) (k : Nat) (hk : k < 32) (w : World) : (Instr.index 46 (marksV p) (.int .i64 (k : Int))).run Try.prog w = .ok (.bool (p k)) w := by
  obtain ⟨i, hi, hs⟩ := Option.map_eq_some_iff.1 infoB
  have hg : (marksC p)[k]? = some (.bool (p k)) := by simp [marksC, markL, hk]
  have h0 : (0 : Int) ≤ (k : Int) ∧ (k : Int) < 32 := by omega
  simp [Instr.index, marksV, asIntOf, run_underlying Try.underlying46, h0, sizeOf, typeInfo, hi, hs, part, hg, isAgg, run_underlying Try.underlying4]
  intro h
  omega

theorem wpList_indexM {w : World} {ops : Array Oper} {rest : List Oper} {o : Oper} {a : Act} {Q : Exit → Act → World → Prop} (hgd : o.guard = none) (x i : Operand) (ho : o.op = .index 46 x i)
    (p : Nat → Bool) (k : Nat) (hx : a.eval x = marksV p) (hi : a.eval i = .int .i64 (k : Int)) (hk : k < 32) (h : wpList Try.prog ops Q rest (a.put o.dst (.bool (p k))) w) : wpList Try.prog ops Q (o :: rest) a w :=
  wpList_plain hgd fun K hK => by
    unfold Oper.wp execOp
    simp only [ho, hx, hi, Sem.run_bind, Sem.run_pure, run_indexM p k hk, Result.andThen_ok]
    exact hK _ _ h

theorem filt_yes {p : Nat → Bool} {k : Nat} (h : p k = true) : (List.range (k + 1)).filter p = (List.range k).filter p ++ [k] := by simp [List.range_succ, h]
theorem filt_no {p : Nat → Bool} {k : Nat} (h : p k = false) : (List.range (k + 1)).filter p = (List.range k).filter p := by simp [List.range_succ, h]
theorem filt_le (p : Nat → Bool) (k : Nat) : ((List.range k).filter p).length ≤ k := by have := List.length_filter_le p (List.range k); simpa using this

end Go.Proofs.Ytpkilacappjkhaa

namespace Go.Proofs.Ytpkilacappjkhaa
open Go.RowKit

-- 46
theorem run_part_marks (p : Nat → Bool) (k : Nat) (hk : k < 32) (w : World) : (part 4 (marksC p) k).run Try.prog w = .ok (.bool (p k)) w := by
  have hg : (marksC p)[k]? = some (.bool (p k)) := by simp [marksC, markL, hk]
  simp [part, hg, isAgg, run_underlying Try.underlying4]

theorem run_forMarks (p q : Nat → Bool) (f : Nat → Option Bool × Unit → Sem (ForInStep (Option Bool × Unit))) (hf : ∀ j, j < 32 → ∀ s w, (f j s).run Try.prog w = .ok (if p j == q j then ForInStep.yield (none, ()) else ForInStep.done (some false, ())) w) {w : World} :
    ∀ ls : List Nat, (∀ j ∈ ls, j < 32) → (forIn ls ((none, ()) : Option Bool × Unit) f).run Try.prog w = .ok (if ls.all (fun i => p i == q i) then none else some false, ()) w := by
  intro ls
  induction ls with
  | nil => intro _; simp
  | cons j ls ih =>
    intro hj
    simp only [List.forIn_cons, Sem.run_bind, hf j (hj j (by simp)), Result.andThen_ok, List.all_cons]
    by_cases e : p j == q j
    · simp only [e, if_true, Bool.true_and]
      exact ih (fun i hi => hj i (by simp [hi]))
    · rw [Bool.not_eq_true] at e
      simp only [e, Bool.false_eq_true, if_false, Bool.false_and, Sem.run_pure]

theorem run_equalIn_marks (d : Nat) (p q : Nat → Bool) (w : World) : (Op.equalIn (d + 2) 46 (.agg (marksC p)) (.agg (marksC q))).run Try.prog w = .ok ((List.range 32).all fun i => p i == q i) w := by
  obtain ⟨i, hi, hs⟩ := Option.map_eq_some_iff.1 infoB
  unfold Op.equalIn
  simp only [Sem.run_bind, run_underlying Try.underlying46, Result.andThen_ok, sizeOf, typeInfo]
  simp only [run_program, hi, Sem.run_pure, Result.andThen_ok, hs, Nat.mul_one]
  rw [Std.Legacy.Range.forIn_eq_forIn_range']
  have e2 : List.range' ([:32] : Std.Legacy.Range).start ([:32] : Std.Legacy.Range).size ([:32] : Std.Legacy.Range).step = List.range 32 := by decide +kernel
  rw [e2, run_forMarks p q _ (fun j hj s w => ?_) (List.range 32) (fun j hj => List.mem_range.1 hj), Result.andThen_ok]
  · by_cases e : (List.range 32).all fun i => p i == q i
    · simp [e]
    · rw [Bool.not_eq_true] at e
      simp [e]
  · simp only [Sem.run_bind, run_part_marks _ _ hj, Result.andThen_ok, run_equalIn_bool' w d _ (p j) (q j) Try.underlying4]
    by_cases e : p j == q j
    · simp only [e, Bool.not_true, Bool.false_eq_true, if_false, Sem.run_pure, if_true]
    · rw [Bool.not_eq_true] at e
      simp only [e, Bool.not_false, if_true, Sem.run_pure, Bool.false_eq_true, if_false]

theorem run_eqlM (p q : Nat → Bool) (w : World) : (binOp .eql 46 (.agg (marksC p)) (.agg (marksC q))).run Try.prog w = .ok (.bool ((List.range 32).all fun i => p i == q i)) w := by
  rw [run_eql_struct, show (10000 : Nat) = 9998 + 2 from rfl, run_equalIn_marks, Result.andThen_ok]

/-- the marks are those of the parts exactly if as many parts are there as may be -/
theorem sht_marks (ns : List Nat) (s : Nat) (hs : s < 32) : ((List.range 32).all fun i => (ns.any fun t => t &&& s == i) == (i &&& s == i)) = sht ns s := by
  have hsub : ∀ x, x ∈ tr ns s → x ∈ flt (fun p => p &&& s == p) := by
    intro x hx
    obtain ⟨hx32, h⟩ := mem_flt.1 hx
    refine mem_flt.2 ⟨hx32, ?_⟩
    obtain ⟨t, _, ht⟩ := List.any_eq_true.1 h
    rw [beq_iff_eq] at ht ⊢
    rw [← ht, Nat.and_assoc, Nat.and_self]
  have hcard : (flt (fun p => p &&& s == p)).length = 2 ^ pc s := by
    have : ∀ s : Fin 32, (flt (fun p => p &&& (s : Nat) == p)).length = 2 ^ pc s := by decide +kernel
    exact this ⟨s, hs⟩
  rw [Bool.eq_iff_iff, List.all_eq_true, sht, decide_eq_true_eq]
  constructor
  · intro h
    rw [← hcard]
    congr 1
    exact flt_congr fun x hx => by simpa using h x (List.mem_range.2 hx)
  · intro h x hx
    have hx32 := List.mem_range.1 hx
    have e : tr ns s = flt (fun p => p &&& s == p) := by
      have hsl : (tr ns s).Sublist (flt (fun p => p &&& s == p)) := by
        have : tr ns s = (flt (fun p => p &&& s == p)).filter (fun x => decide (x ∈ tr ns s)) := by
          apply asc_ext (flt_asc _) ((flt_asc _).filter _)
          intro y
          rw [List.mem_filter, decide_eq_true_eq]
          exact ⟨fun hy => ⟨hsub y hy, hy⟩, fun hy => hy.2⟩
        rw [this]
        exact List.filter_sublist
      exact hsl.eq_of_length (by rw [h, hcard])
    rw [beq_iff_eq, Bool.eq_iff_iff]
    have := congrArg (x ∈ ·) e
    simp only [tr, mem_flt, eq_iff_iff] at this
    exact ⟨fun h => (this.1 ⟨hx32, h⟩).2, fun h => (this.2 ⟨hx32, h⟩).2⟩

theorem wpList_eqlM {w : World} {ops : Array Oper} {rest : List Oper} {o : Oper} {a : Act} {Q : Exit → Act → World → Prop} (x y : Operand) (hg : Region.wanted o (yielded ops a.tmps) = true)
    (ho : o.op = .binOp .eql 46 x y 46) (p q : Nat → Bool) (hx : a.eval x = .agg (marksC p)) (hy : a.eval y = .agg (marksC q))
    (h : wpList Try.prog ops Q rest (a.put o.dst (.bool ((List.range 32).all fun i => p i == q i))) w) : wpList Try.prog ops Q (o :: rest) a w := by
  refine wpList_step fun K hK => ?_
  rw [if_pos hg]
  unfold Oper.wp execOp
  have hm : Try.prog.eqGuardType Try.prog.depth 46 = false := by kernel_rfl
  simp only [ho, hx, hy, Sem.run_bind, Sem.run_pure, run_eqGuard_agg w .eql _ x y _ _ hm, run_eqlM p q w, Result.andThen_ok]
  exact hK _ _ h

end Go.Proofs.Ytpkilacappjkhaa

namespace Go.Proofs.Ytpkilacappjkhaa
open Go.RowKit



end Go.Proofs.Ytpkilacappjkhaa

namespace Go.Proofs.Ytpkilacappjkhaa
open Go.RowKit

set_option maxHeartbeats 800000 in
set_option maxRecDepth 100000 in
theorem implIsShattered (n : Int) (v : Value) (zs : List Int) (s : Int) (w : World) (h : Rd w v zs) :
    Calls Try.prog 36 #[.agg #[.int .i64 n, v], .int .i64 s] w fun e w' => e = .returned (.bool (shatB n zs s)) ∧ Below w.heap.size w w' := by
  have H := Lib.hid h
  obtain ⟨a, b, off, cap, rfl, _, _, _⟩ := h
  by_cases hv : inB n zs s = true
  · have hv0 : vldB n zs = true := by simp [inB] at hv; exact hv.1
    obtain ⟨m, ns, rfl, rfl, hc⟩ := vldB_cls hv0
    have hm := hc.pts
    have hs : setB m s = true := by simp [inB] at hv; exact hv.2
    obtain ⟨t, rfl, ht, ht32⟩ := setB_nat hm hs
    have HC := Lib.hid hc
    have HT := Lib.hid (shatB_in hv0 hs)
    have HM := Lib.hid (sht_marks ns t ht32)
    have HV := Lib.hid hv
    clear hs hv hv0 hc
    go_enter Try.func36, Try.ntmps36
    go_wp2_with fail
    refine (implIsSetOf m _ (toI ns) t _ (H.out.below (k := w.heap.size) (by go_grown) (Nat.le_refl _))).mono ?_
    rintro e w1 ⟨rfl, hb⟩
    rw [HV.out]
    have B1 := Lib.hid ((Box.made m (.slice a (toI ns).length cap) w _).next (by simp) hb)
    have hs1 : w.heap.size < w1.heap.size := by have := hb.size; simp at this; omega
    clear hb
    have c0 := B1.out.at0
    have c1 := B1.out.at1
    go_wp2_with fail
    refine (implTraceMarks m _ ns t _ (H.out.below B1.out.below (Nat.le_refl _)) ht32 HC.out.lt32).mono ?_
    rintro e w2 ⟨rfl, hb2⟩
    clear c0 c1
    have B2 := Lib.hid (B1.out.next hs1 hb2)
    have hs2 : w.heap.size < w2.heap.size := Nat.lt_of_lt_of_le hs1 hb2.size
    clear hb2 B1
    go_wp2_with fail
    refine (implPartMarks t _ ht32).mono ?_
    rintro e w3 ⟨rfl, hb3⟩
    have B3 := Lib.hid (B2.out.next hs2 hb3)
    clear hb3 B2
    go_wp2_with ((with_reducible show wpList _ _ _ (Oper.mk _ (Op.binOp BinOp.eql 46 _ _ _) _ _ _ _ :: _) _ _); refine wpList_eqlM (.tmp 11) (.tmp 13) rfl rfl _ _ rfl rfl ?_; rw [HM.out])
    go_ret
    exact ⟨ret_bool (by rw [HT.out]), B3.out.below⟩
  · rw [Bool.not_eq_true] at hv
    have HT := Lib.hid (show shatB n zs s = false by
      simp only [inB] at hv
      simp only [shatB, hv, Bool.false_and])
    have HV := Lib.hid hv
    clear hv
    go_enter Try.func36, Try.ntmps36
    go_wp2_with fail
    refine (implIsSetOf n _ zs s _ (H.out.below (k := w.heap.size) (by go_grown) (Nat.le_refl _))).mono ?_
    rintro e w1 ⟨rfl, hb⟩
    rw [HV.out]
    have B1 := Lib.hid ((Box.made n (.slice a zs.length cap) w _).next (by simp) hb)
    clear hb
    go_wp2_with fail
    go_ret
    exact ⟨ret_bool HT.out.symm, B1.out.below⟩

theorem pow_pc_cast (s : Nat) : ((2 ^ pc s : Nat) : Int) = (2 : Int) ^ pc s := by simp



end Go.Proofs.Ytpkilacappjkhaa

namespace Go.Proofs.Ytpkilacappjkhaa
open Go.RowKit

/-- k, k + 1, ..: n numbers -/
def ramp (k n : Nat) : List Int := (List.range n).map (fun i => ((k + i : Nat) : Int))
theorem ramp_length (k n : Nat) : (ramp k n).length = n := by simp [ramp]
theorem ramp_getD (k n i : Nat) (h : i < n) : (ramp k n).getD i 0 = ((k + i : Nat) : Int) := by simp [ramp, List.getD, h]
/-- the first j are written -/
def mix (k : Nat) (zs : List Int) (j : Nat) : List Int := ramp k j ++ zs.drop j
theorem mix_length (k : Nat) (zs : List Int) (j : Nat) (h : j ≤ zs.length) : (mix k zs j).length = zs.length := by simp [mix, ramp_length]; omega
theorem mix_zero (k : Nat) (zs : List Int) : mix k zs 0 = zs := by simp [mix, ramp]
theorem mix_full (k : Nat) (zs : List Int) : mix k zs zs.length = ramp k zs.length := by simp [mix]
theorem mix_step (k : Nat) (zs : List Int) (j : Nat) (h : j < zs.length) : (mix k zs j).set j ((k + j : Nat) : Int) = mix k zs (j + 1) := by
  have e : zs.drop j = zs[j] :: zs.drop (j + 1) := List.drop_eq_getElem_cons h
  simp only [mix, e]
  rw [List.set_append_right _ _ (by rw [ramp_length]; omega), ramp_length, Nat.sub_self, List.set_cons_zero]
  simp [ramp, List.range_succ]

theorem Ints.kept {B : Nat} {w w' : World} {v : Value} {zs : List Int} {row : Option Nat} (h : Ints B w v zs) (hg : w.grownBy w' row) (hne : v.ownBlock = none ∨ v.ownBlock ≠ row) : Ints B w' v zs := World.ownsRow.kept h hg hne
theorem Ints.apart {B1 B2 : Nat} {w1 w2 : World} {v1 v2 : Value} {z1 z2 : List Int} (h1 : Ints B1 w1 v1 z1) (h2 : Ints B2 w2 v2 z2) (hle : w1.heap.size ≤ B2) : v1.ownBlock = none ∨ v1.ownBlock ≠ v2.ownBlock := by
  cases e1 : v1.ownBlock with
  | none => exact .inl rfl
  | some g1 =>
    right
    intro e2
    have := (h1.lt g1 e1).2
    have := (h2.lt g1 e2.symm).1
    omega
theorem grownBy_set {g : Nat} (w : World) (j : Nat) (x : Value) : w.grownBy (w.setCell ⟨g, j, none⟩ x) (some g) :=
  ⟨rfl, rfl, rfl, by simp, fun k _ hk => heap_setCell_other w ⟨g, j, none⟩ k x (fun e => hk (by simp [e]))⟩
theorem grownBy_trans {a b c : World} {row : Option Nat} (h1 : a.grownBy b row) (h2 : b.grownBy c row) : a.grownBy c row :=
  ⟨h2.os.trans h1.os, h2.tape.trans h1.tape, h2.output.trans h1.output, Nat.le_trans h1.size h2.size, fun k hk hne => (h2.block k (Nat.lt_of_lt_of_le hk h1.size) hne).trans (h1.block k hk hne)⟩

theorem Ints.row_ge {B b : Nat} {w : World} {v : Value} {zs : List Int} (h : Ints B w v zs) (hb : b < B) : ∀ k, v.ownBlock = some k → b < k := fun k hk => Nat.lt_of_lt_of_le hb (h.lt k hk).1
theorem Box.grown {n : Int} {v : Value} {w wr w1 : World} {row : Option Nat} (h : Box n v w wr) (hg : wr.grownBy w1 row) (hr : ∀ k, row = some k → w.heap.size < k) : Box n v w w1 :=
  ⟨h.below.grown hg h.below.size (fun k hk => Nat.le_of_lt (hr k hk)),
   hg.cell h.at0 (fun e => Nat.lt_irrefl _ (hr _ e.symm)), hg.cell h.at1 (fun e => Nat.lt_irrefl _ (hr _ e.symm))⟩
theorem Ints.apart_of {B : Nat} {w : World} {v u : Value} {zs : List Int} (_h : Ints B w v zs) (ha : u.ownBlock = none ∨ u.ownBlock ≠ v.ownBlock) : v.ownBlock = none ∨ v.ownBlock ≠ u.ownBlock := by
  cases hv : v.ownBlock with
  | none => exact .inl rfl
  | some k =>
    right
    intro e
    rcases ha with ha | ha
    · rw [ha] at e; cases e
    · exact ha (by rw [hv, e])




end Go.Proofs.Ytpkilacappjkhaa
