/- The program's list, TraceOf and IsShattered. Conditions: Sets is a slice of ints. -/
import Derived.Test.YtilhbmohlcocjaaArr2
import Derived.Test.YtilhbmohlcocjaaApp
import Derived.Test.YtilhbmohlcocjaaTrace
namespace Go.Proofs.Ytilhbmohlcocjaa
open Go.RowKit

theorem infoB : (Try.prog.info? 4).map (·.size) = some 1 := by kernel_rfl
theorem run_indexM (p : Nat → Bool) (k : Nat) (hk : k < 32) (w : World) : (Instr.index 44 (marksV p) (.int .i64 (k : Int))).run Try.prog w = .ok (.bool (p k)) w := by
  obtain ⟨i, hi, hs⟩ := Option.map_eq_some_iff.1 infoB
  have hg : (marksC p)[k]? = some (.bool (p k)) := by simp [marksC, markL, hk]
  have h0 : (0 : Int) ≤ (k : Int) ∧ (k : Int) < 32 := by omega
  simp [Instr.index, marksV, asIntOf, run_underlying Try.underlying44, h0, sizeOf, typeInfo, hi, hs, part, hg, isAgg, run_underlying Try.underlying4]
  intro h
  omega

theorem wpList_indexM {w : World} {ops : Array Oper} {rest : List Oper} {o : Oper} {a : Act} {Q : Exit → Act → World → Prop} (hgd : o.guard = none) (x i : Operand) (ho : o.op = .index 44 x i)
    (p : Nat → Bool) (k : Nat) (hx : a.eval x = marksV p) (hi : a.eval i = .int .i64 (k : Int)) (hk : k < 32) (h : wpList Try.prog ops Q rest (a.put o.dst (.bool (p k))) w) : wpList Try.prog ops Q (o :: rest) a w :=
  wpList_plain hgd fun K hK => by
    unfold Oper.wp execOp
    simp only [ho, hx, hi, Sem.run_bind, Sem.run_pure, run_indexM p k hk, Result.andThen_ok]
    exact hK _ _ h

theorem filt_yes {p : Nat → Bool} {k : Nat} (h : p k = true) : (List.range (k + 1)).filter p = (List.range k).filter p ++ [k] := by simp [List.range_succ, h]
theorem filt_no {p : Nat → Bool} {k : Nat} (h : p k = false) : (List.range (k + 1)).filter p = (List.range k).filter p := by simp [List.range_succ, h]
theorem filt_le (p : Nat → Bool) (k : Nat) : ((List.range k).filter p).length ≤ k := by have := List.length_filter_le p (List.range k); simpa using this

set_option maxHeartbeats 1600000 in
set_option maxRecDepth 100000 in
theorem implList (p : Nat → Bool) (w : World) :
    Calls Try.prog 44 #[.agg (marksC p)] w (RetInts (toI (flt p)) w) := by
  go_enter Try.func44, Try.ntmps44
  go_wp2_with ((with_reducible show wpList _ _ _ (Oper.mk _ (Op.load _ _) _ _ _ _ :: _) _ _); refine wpList_load_row rfl 44 (.tmp 1) rfl w.heap.size rfl 44 (marksC p) (0, 0) _ (heap_alloc_new w _) Try.underlying44 rfl (infoC _) ?_)
  go_loopw [3, 7] (fun o i wr => ∃ k : Nat, k ≤ 32 ∧ i = .int .i64 k ∧ (∃ a' c', o = .slice a' ((List.range k).filter p).length c') ∧ Ints w.heap.size wr o (toI ((List.range k).filter p)) ∧ Below w.heap.size w wr) (fun _ i _ => 32 - (intOf i).toNat)
  case atStart => exact ⟨0, Nat.zero_le _, rfl, ⟨none, 0, rfl⟩, Ints.nil _ _, by go_grown⟩
  case round =>
    obtain ⟨k, hk, rfl, ⟨a', c', rfl⟩, hin, hbe⟩ := hrel
    have HIN := Lib.hid hin
    have HBE := Lib.hid hbe
    have hsz := hbe.size
    clear hin hbe
    by_cases hlt : k < 32
    · have hltI : (k : Int) < 32 := by omega
      have hfl := filt_le p k
      by_cases hp : p k = true
      · have HF := Lib.hid (filt_yes hp)
        have HP := Lib.hid hp
        clear hp
        have HAl := Lib.hid (toI_length ((List.range k).filter p))
        generalize (List.range k).filter p = A at *
        go_wp2_with (first
          | ((with_reducible show wpList _ _ _ (Oper.mk _ (Op.index _ _ _) _ _ _ _ :: _) _ _); refine wpList_indexM rfl (.tmp 6) (.tmp 7) rfl p k rfl rfl hlt ?_; rw [HP.out])
          | (at_builtin; refine wpList_app rfl (.tmp 12) (.tmp 14) rfl w.heap.size _ (toI A) rfl (by exact HIN.out.alloc _) _ _ _ [(k : Int)] rfl (src_cell (by rw [World.cell?_alloc_at _ _ _ _ rfl]; rfl)) (by rw [HAl.out]; omega) (by simp; omega) ?_; intro a1 c1 w1 hin1 hb1 hg1))
        rw [HAl.out] at hin1
        have HW := Lib.hid (show Below w.heap.size w w1 from HBE.out.trans (Below.trans ((Below.refl _ _).alloc (by omega) _) hb1))
        have HI1 := Lib.hid hin1
        clear hin1 hb1 hg1
        go_roundw
        case rel => exact ⟨k + 1, by omega, by go_num, ⟨a1, c1, by rw [HF.out, HAl.out]; simp⟩, by rw [HF.out, toI_append, HAl.out]; exact HI1.out, HW.out⟩
        case measure => simp [intOf]; omega
      · rw [Bool.not_eq_true] at hp
        have HF := Lib.hid (filt_no hp)
        have HP := Lib.hid hp
        clear hp
        generalize (List.range k).filter p = A at *
        go_wp2_with ((with_reducible show wpList _ _ _ (Oper.mk _ (Op.index _ _ _) _ _ _ _ :: _) _ _); refine wpList_indexM rfl (.tmp 6) (.tmp 7) rfl p k rfl rfl hlt ?_; rw [HP.out])
        go_roundw
        case rel => exact ⟨k + 1, by omega, by go_num, ⟨_, _, by rw [HF.out]⟩, by rw [HF.out]; exact HIN.out, HBE.out⟩
        case measure => simp [intOf]; omega
    · obtain rfl : k = 32 := by omega
      go_wp2_with fail
      go_ret
      exact RetInts.of HIN.out HBE.out

set_option maxHeartbeats 800000 in
theorem implTraceOf (n : Int) (v : Value) (zs : List Int) (s : Int) (w : World) (h : Rd w v zs) :
    Calls Try.prog 18 #[.agg #[.int .i64 n, v], .int .i64 s] w (RetInts (traceB n zs s) w) := by
  have H := Lib.hid h
  obtain ⟨a, b, off, cap, rfl, _, _, _⟩ := h
  by_cases hv : inB n zs s = true
  · have hv0 : vldB n zs = true := by simp [inB] at hv; exact hv.1
    obtain ⟨m, ns, rfl, rfl, hc⟩ := vldB_cls hv0
    have hm := hc.pts
    have hs : setB m s = true := by simp [inB] at hv; exact hv.2
    obtain ⟨t, rfl, ht, ht32⟩ := setB_nat hm hs
    have HC := Lib.hid hc
    have HT := Lib.hid (traceB_in hv0 hs)
    have HV := Lib.hid hv
    clear hs hv hv0 hc
    go_enter Try.func18, Try.ntmps18
    go_wp2_with fail
    refine (implIsSetOf m _ (toI ns) t _ (H.out.below (k := w.heap.size) (by go_grown) (Nat.le_refl _))).mono ?_
    rintro e w1 ⟨rfl, hb⟩
    rw [HV.out]
    have B1 := Lib.hid ((Box.made m (.slice a (toI ns).length cap) w _).next (by simp) hb)
    have hs1 : w.heap.size < w1.heap.size := by have := hb.size; simp at this; omega
    clear hb
    have c0 := B1.out.at0
    have c1 := B1.out.at1
    go_wp2_with fail
    refine (implTraceMarks m _ ns t _ (H.out.below B1.out.below (Nat.le_refl _)) ht32 HC.out.lt32).mono ?_
    rintro e w2 ⟨rfl, hb2⟩
    clear c0 c1
    have B2 := Lib.hid (B1.out.next hs1 hb2)
    clear hb2 B1
    go_wp2_with fail
    refine (implList _ _).mono ?_
    intro e w3 h3
    obtain ⟨a3, c3, rfl, hin3, hb3⟩ := RetInts.after B2.out.below h3
    have HI3 := Lib.hid hin3
    have HB3 := Lib.hid hb3
    clear hin3 hb3 h3
    go_wp2_with fail
    go_ret
    rw [HT.out]
    exact ⟨a3, c3, rfl, HI3.out, HB3.out⟩
  · rw [Bool.not_eq_true] at hv
    have HT := Lib.hid (show traceB n zs s = [] by
      simp only [inB] at hv
      unfold traceB
      rw [if_neg]
      rintro ⟨h1, h2⟩
      rw [h1, h2] at hv
      simp at hv)
    have HV := Lib.hid hv
    clear hv
    go_enter Try.func18, Try.ntmps18
    go_wp2_with fail
    refine (implIsSetOf n _ zs s _ (H.out.below (k := w.heap.size) (by go_grown) (Nat.le_refl _))).mono ?_
    rintro e w1 ⟨rfl, hb⟩
    rw [HV.out]
    have B1 := Lib.hid ((Box.made n (.slice a zs.length cap) w _).next (by simp) hb)
    clear hb
    go_wp2_with fail
    go_ret
    rw [HT.out]
    exact ⟨none, 0, rfl, Ints.nil _ _, B1.out.below⟩

end Go.Proofs.Ytilhbmohlcocjaa
