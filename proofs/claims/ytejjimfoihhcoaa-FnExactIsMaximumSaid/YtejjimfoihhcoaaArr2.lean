/- The program's isSetOf, traceMarks, list, TraceOf. Conditions: Sets is a slice of ints. -/
import Derived.Test.YtejjimfoihhcoaaArr
import Derived.Test.YtejjimfoihhcoaaCls
namespace Go.Proofs.Ytejjimfoihhcoaa
open Go.RowKit

/-- isSetOf's answer -/
def inB (n : Int) (zs : List Int) (s : Int) : Bool := vldB n zs && setB n.toNat s

set_option maxHeartbeats 800000 in
theorem implIsSetOf (n : Int) (v : Value) (zs : List Int) (s : Int) (w : World) (h : Rd w v zs) :
    Calls Try.prog 80 #[.agg #[.int .i64 n, v], .int .i64 s] w fun e w' => e = .returned (.bool (inB n zs s)) ∧ Below w.heap.size w w' := by
  have H := Lib.hid h
  obtain ⟨a, b, off, cap, rfl, _, _, _⟩ := h
  by_cases hv : vldB n zs = true
  · obtain ⟨m, ns, rfl, rfl, hc⟩ := vldB_cls hv
    have hm := hc.pts
    have hw := wrap_pow m hm
    have HW := Lib.hid hw.1
    have hw2 := hw.2
    clear hw
    have HV := Lib.hid hv
    have HE := Lib.hid (show inB m (toI ns) s = setB m s by simp [inB, hv])
    clear hc hv
    by_cases hs0 : 0 ≤ s
    · have hd : decide ((0 : Int) ≤ s) = true := by simpa using hs0
      by_cases hs1 : s < wrap64 (2 ^ m)
      · have HS := Lib.hid (show setB m s = true by have := HW.out; simp [setB, hs0]; omega)
        go_enter Try.func80, Try.ntmps80
        go_wp2_with fail
        refine (implValid m _ (toI ns) _ (H.out.below (k := w.heap.size) (by go_grown) (Nat.le_refl _))).mono ?_
        rintro e w1 ⟨rfl, hb⟩
        rw [HV.out]
        have B1 := Lib.hid ((Box.made m (.slice a (toI ns).length cap) w _).next (by simp) hb)
        clear hb
        have c0 := B1.out.at0
        go_wp2_with fail
        go_ret
        exact ⟨ret_bool (by rw [HE.out, HS.out]), B1.out.below⟩
      · have HS := Lib.hid (show setB m s = false by have := HW.out; simp [setB]; omega)
        go_enter Try.func80, Try.ntmps80
        go_wp2_with fail
        refine (implValid m _ (toI ns) _ (H.out.below (k := w.heap.size) (by go_grown) (Nat.le_refl _))).mono ?_
        rintro e w1 ⟨rfl, hb⟩
        rw [HV.out]
        have B1 := Lib.hid ((Box.made m (.slice a (toI ns).length cap) w _).next (by simp) hb)
        clear hb
        have c0 := B1.out.at0
        go_wp2_with fail
        go_ret
        exact ⟨ret_bool (by rw [HE.out, HS.out]; simpa using hs1), B1.out.below⟩
    · have hd : decide ((0 : Int) ≤ s) = false := by simpa using hs0
      have HS := Lib.hid (show setB m s = false by simp [setB]; omega)
      go_enter Try.func80, Try.ntmps80
      go_wp2_with fail
      refine (implValid m _ (toI ns) _ (H.out.below (k := w.heap.size) (by go_grown) (Nat.le_refl _))).mono ?_
      rintro e w1 ⟨rfl, hb⟩
      rw [HV.out]
      have B1 := Lib.hid ((Box.made m (.slice a (toI ns).length cap) w _).next (by simp) hb)
      clear hb
      go_wp2_with fail
      go_ret
      exact ⟨ret_bool (by rw [HE.out, HS.out]), B1.out.below⟩
  · rw [Bool.not_eq_true] at hv
    have HE := Lib.hid (show inB n zs s = false by simp [inB, hv])
    have HV := Lib.hid hv
    clear hv
    go_enter Try.func80, Try.ntmps80
    go_wp2_with fail
    refine (implValid n _ zs _ (H.out.below (k := w.heap.size) (by go_grown) (Nat.le_refl _))).mono ?_
    rintro e w1 ⟨rfl, hb⟩
    rw [HV.out]
    have B1 := Lib.hid ((Box.made n (.slice a zs.length cap) w _).next (by simp) hb)
    clear hb
    go_wp2_with fail
    go_ret
    exact ⟨ret_bool HE.out.symm, B1.out.below⟩

/-- an array of marks, as a value -/
def marksC (p : Nat → Bool) : Array Value := ((markL p).map Value.bool).toArray
def marksV (p : Nat → Bool) : Value := .agg (marksC p)
theorem marksC_size (p : Nat → Bool) : (marksC p).size = 32 := by simp [marksC, markL_length]
theorem marksC_one (p : Nat → Bool) : (marksC p).all (·.oneCell') = true := by simp [marksC, Value.oneCell']
theorem infoC (p : Nat → Bool) : (Try.prog.info? 75).map (·.size) = some (marksC p).size := by rw [marksC_size]; exact infoM

theorem arr_zero {w : World} {H : Nat} (hH : w.heap.size = H) : Arr (w.alloc (.cells #[.bool false, .bool false, .bool false, .bool false, .bool false, .bool false, .bool false, .bool false, .bool false, .bool false, .bool false, .bool false, .bool false, .bool false, .bool false, .bool false, .bool false, .bool false, .bool false, .bool false, .bool false, .bool false, .bool false, .bool false, .bool false, .bool false, .bool false, .bool false, .bool false, .bool false, .bool false, .bool false] 75)) H (markL fun _ => false) := by
  subst hH
  exact ⟨markL_length _, heap_alloc_new w _⟩
theorem Arr.alloc {w : World} {b : Nat} {bs : List Bool} (h : Arr w b bs) (o : Obj) : Arr (w.alloc o) b bs :=
  ⟨h.1, (Below.heap_alloc w o b (Array.getElem?_eq_some_iff.1 h.2).1).trans h.2⟩
theorem Arr.other {w : World} {b g : Nat} {bs : List Bool} (h : Arr w b bs) (j : Nat) (x : Value) (hne : b ≠ g) : Arr (w.setCell ⟨g, j, none⟩ x) b bs :=
  ⟨h.1, by rw [heap_setCell_other w ⟨g, j, none⟩ b x hne]; exact h.2⟩
theorem below_setRow {B : Nat} {a w : World} (h : Below B a w) {g : Nat} (hg : B ≤ g) (cs : Array Value) : Below B a (w.setRow g cs) :=
  h.trans ⟨rfl, rfl, rfl, by simp, fun k hk => setRow_other w g k cs (by omega)⟩

set_option maxHeartbeats 1600000 in
set_option maxRecDepth 100000 in
theorem implTraceMarks (n : Int) (v : Value) (ns : List Nat) (s : Nat) (w : World) (h : Rd w v (toI ns)) (hs : s < 32) (hm : ∀ t ∈ ns, t < 32) :
    Calls Try.prog 81 #[.agg #[.int .i64 n, v], .int .i64 s] w fun e w' => e = .returned (marksV (fun p => ns.any (fun t => t &&& s == p))) ∧ Below w.heap.size w w' := by
  obtain ⟨a, b, off, cap, rfl, h1, h3, h5⟩ := h
  rw [toI_length] at *
  have H5 := Lib.hid h5
  have H1 := Lib.hid h1
  clear h5 h1
  go_enter Try.func81, Try.ntmps81
  go_wp2_with fail
  go_loopw [11] (fun i wr => ∃ k : Nat, k ≤ ns.length ∧ i = .int .i64 k ∧ Arr wr (w.heap.size + 1 + 1) (markL (trTo ns s k)) ∧ Arr wr (w.heap.size + 1) (markL fun _ => false) ∧ Below w.heap.size w wr) (fun i _ => ns.length - (intOf i).toNat)
  case atStart =>
    refine ⟨0, Nat.zero_le _, rfl, ?_, ?_, ?_⟩
    · rw [markL_congr (q := fun _ => false) (fun x _ => by simp [trTo])]
      exact arr_zero (by simp)
    · exact (arr_zero (by simp)).alloc _
    · go_grown
  case round =>
    obtain ⟨k, hk, rfl, har, hzr, hbe⟩ := hrel
    have HA := Lib.hid har
    have HZ := Lib.hid hzr
    have HBE := Lib.hid hbe
    clear har hzr hbe
    by_cases hlt : k < ns.length
    · obtain ⟨rfl, hbl⟩ := H1.out (by omega)
      have hc := (HBE.out.cell (p := ⟨b, off + k, none⟩) hbl).trans (H5.out k hlt)
      rw [toI_getD] at hc
      have hx := hm _ (getD_of_lt hlt)
      have HS := Lib.hid (trTo_succ ns s k hlt)
      generalize ns.getD k 0 = x at *
      have hand := i64_and x s (by omega) (by omega)
      have hz := Nat.lt_of_le_of_lt (Nat.and_le_left (n := x) (m := s)) hx
      generalize x &&& s = z at *
      obtain ⟨hcz, hfz⟩ := HA.out.cell z hz
      generalize (markL (trTo ns s k)).getD z false = y at hcz
      have hzI : (z : Int) < 32 := by omega
      go_wp2_with fail
      go_roundw
      case rel =>
        refine ⟨k + 1, by omega, by go_num, ?_, HZ.out.other _ _ (by omega), HBE.out.setCell (by simp; omega) _⟩
        rw [markL_congr (fun p _ => HS.out p), ← markL_set]
        exact HA.out.set z true
      case measure => simp [intOf]; omega
    · obtain rfl : k = ns.length := by omega
      have HM := Lib.hid (show markL (trTo ns s ns.length) = markL (fun p => ns.any (fun t => t &&& s == p)) from markL_congr (fun p _ => by simp [trTo]))
      rw [HM.out] at HA
      go_wp2_with (first
        | ((with_reducible show wpList _ _ _ (Oper.mk _ (Op.load _ _) _ _ _ _ :: _) _ _); refine wpList_load_row rfl 75 (.tmp 5) rfl (w.heap.size + 1 + 1) rfl 75 (marksC (fun p => ns.any (fun t => t &&& s == p))) (0, 0) _ HA.out.2 Try.underlying75 rfl (infoC _) ?_)
        | ((with_reducible show wpList _ _ _ (Oper.mk _ (Op.store _ _ _) _ _ _ _ :: _) _ _); refine wpList_store_row rfl 75 (.tmp 4) (.tmp 20) rfl (w.heap.size + 1) (marksC (fun p => ns.any (fun t => t &&& s == p))) rfl rfl 75 (marksC fun _ => false) HZ.out.2 (infoC _) (by rw [marksC_size, marksC_size]) (marksC_one _) ?_))
      refine bodyPost_ret (v := .agg (marksC (fun p => ns.any (fun t => t &&& s == p)))) ?_ rfl ⟨rfl, below_setRow HBE.out (by omega) _⟩
      exact results_cell_row rfl _ _ (w.heap.size + 1) 75 (marksC (fun p => ns.any (fun t => t &&& s == p))) (0, 0) _ rfl (setRow_heap _ _ _ _ _ _ HZ.out.2) Try.underlying75 rfl (infoC _)

/-- the parts of a set, marked -/
def partTo (s k p : Nat) : Bool := decide (p < k) && (p &&& s == p)
theorem partTo_succ (s k p : Nat) : partTo s (k + 1) p = if p = k then (k &&& s == k) else partTo s k p := by
  unfold partTo
  by_cases h : p = k
  · subst h; simp
  · rw [if_neg h, show decide (p < k + 1) = decide (p < k) by rw [decide_eq_decide]; omega]

set_option maxHeartbeats 1600000 in
set_option maxRecDepth 100000 in
theorem implPartMarks (s : Nat) (w : World) (hs : s < 32) :
    Calls Try.prog 82 #[.int .i64 s] w fun e w' => e = .returned (marksV (fun p => p &&& s == p)) ∧ Below w.heap.size w w' := by
  go_enter Try.func82, Try.ntmps82
  go_wp2_with fail
  go_loopw [5] (fun i wr => ∃ k : Nat, k ≤ 32 ∧ i = .int .i64 k ∧ Arr wr (w.heap.size + 1) (markL (partTo s k)) ∧ Arr wr w.heap.size (markL fun _ => false) ∧ Below w.heap.size w wr) (fun i _ => 32 - (intOf i).toNat)
  case atStart =>
    refine ⟨0, Nat.zero_le _, rfl, ?_, ?_, ?_⟩
    · rw [markL_congr (q := fun _ => false) (fun x _ => by simp [partTo])]
      exact arr_zero (by simp)
    · exact (arr_zero rfl).alloc _
    · go_grown
  case round =>
    obtain ⟨k, hk, rfl, har, hzr, hbe⟩ := hrel
    have HA := Lib.hid har
    have HZ := Lib.hid hzr
    have HBE := Lib.hid hbe
    clear har hzr hbe
    by_cases hlt : k < 32
    · have hltI : (k : Int) < 32 := by omega
      have HS := Lib.hid (partTo_succ s k)
      have hand := i64_and k s (by omega) (by omega)
      have hz := Nat.lt_of_le_of_lt (Nat.and_le_left (n := k) (m := s)) hlt
      obtain ⟨hcz, hfz⟩ := HA.out.cell k hlt
      generalize (markL (partTo s k)).getD k false = y at hcz
      generalize k &&& s = z at *
      by_cases hzk : z = k
      · have hd : ((z : Int) == (k : Int)) = true := by simp; omega
        have HK := Lib.hid (show (z == k) = true by simpa using hzk)
        clear hzk
        go_wp2_with fail
        go_roundw
        case rel =>
          refine ⟨k + 1, by omega, by go_num, ?_, HZ.out.other _ _ (by omega), HBE.out.setCell (by simp) _⟩
          rw [markL_congr (fun p _ => HS.out p), ← markL_set, HK.out]
          exact HA.out.set k true
        case measure => simp [intOf]; omega
      · have hd : ((z : Int) == (k : Int)) = false := by simp; omega
        have HK := Lib.hid (show (z == k) = false by simpa using hzk)
        clear hzk
        go_wp2_with fail
        go_roundw
        case rel =>
          refine ⟨k + 1, by omega, by go_num, ?_, HZ.out.other _ _ (by omega), HBE.out.setCell (by simp) _⟩
          rw [markL_congr (fun p _ => HS.out p), ← markL_set, HK.out]
          exact HA.out.set k false
        case measure => simp [intOf]; omega
    · obtain rfl : k = 32 := by omega
      have HM := Lib.hid (show markL (partTo s 32) = markL (fun p => p &&& s == p) from markL_congr (fun p hp => by simp [partTo, hp]))
      rw [HM.out] at HA
      go_wp2_with (first
        | ((with_reducible show wpList _ _ _ (Oper.mk _ (Op.load _ _) _ _ _ _ :: _) _ _); refine wpList_load_row rfl 75 (.tmp 3) rfl (w.heap.size + 1) rfl 75 (marksC (fun p => p &&& s == p)) (0, 0) _ HA.out.2 Try.underlying75 rfl (infoC _) ?_)
        | ((with_reducible show wpList _ _ _ (Oper.mk _ (Op.store _ _ _) _ _ _ _ :: _) _ _); refine wpList_store_row rfl 75 (.tmp 2) (.tmp 16) rfl w.heap.size (marksC (fun p => p &&& s == p)) rfl rfl 75 (marksC fun _ => false) HZ.out.2 (infoC _) (by rw [marksC_size, marksC_size]) (marksC_one _) ?_))
      refine bodyPost_ret (v := .agg (marksC (fun p => p &&& s == p))) ?_ rfl ⟨rfl, below_setRow HBE.out (Nat.le_refl _) _⟩
      exact results_cell_row rfl _ _ w.heap.size 75 (marksC (fun p => p &&& s == p)) (0, 0) _ rfl (setRow_heap _ _ _ _ _ _ HZ.out.2) Try.underlying75 rfl (infoC _)

end Go.Proofs.Ytejjimfoihhcoaa
