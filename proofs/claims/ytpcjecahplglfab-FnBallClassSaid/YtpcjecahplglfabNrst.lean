/- NearestTo, the program's. Conditions: Sets is a slice of ints. -/
import Derived.Test.YtpcjecahplglfabFirstN
import Derived.Test.YtpcjecahplglfabZA
namespace Go.Proofs.Ytpcjecahplglfab
open Go.RowKit

set_option maxHeartbeats 800000 in
theorem implNear1 (t s o : Nat) (ht : t < 32) (hs : s < 32) (w : World) (hc : w.cell? ⟨o, 0, none⟩ = some (.int .i64 (s : Int))) :
    Calls Try.prog 79 #[.int .i64 (t : Int), .pointer (some ⟨o, 0, none⟩)] w fun e w' => e = .returned (.int .i64 (dis s t)) ∧ Below w.heap.size w w' := by
  have HX := Lib.hid (i64_xor s t (by omega) (by omega))
  have h32 : s ^^^ t < 32 := Nat.xor_lt_two_pow (n := 5) hs ht
  have HD := Lib.hid (show dis s t = ((pc (s ^^^ t) : Nat) : Int) by rw [dis, Nat.xor_comm])
  have HS := Lib.hid (fun w => implSizeOf (s ^^^ t) h32 w)
  rw [HD.out]
  generalize s ^^^ t = x at *
  go_enter Try.func79, Try.ntmps79
  go_wp2_with fail
  rw [HX.out]
  refine (HS.out _).mono ?_
  rintro e w' ⟨rfl, rfl⟩
  go_wp2_with fail
  go_ret
  exact ⟨rfl, Below.refl _ _⟩

set_option maxRecDepth 100000 in
set_option maxHeartbeats 3200000 in
theorem implNearestTo (n : Int) (v : Value) (zs : List Int) (s : Int) (w : World) (h : Rd w v zs) :
    Calls Try.prog 68 #[.agg #[.int .i64 n, v], .int .i64 s] w fun e w' => e = .returned (.tuple #[.int .i64 (nrS n zs s), .int .i64 (nrD n zs s), .bool (nrK n zs s)]) ∧ Below w.heap.size w w' := by
  have H := Lib.hid h
  have HI := Lib.hid (fun w h => implIsSetOf n v zs s w h)
  obtain ⟨a, b, off, cap, rfl, _, _, _⟩ := h
  have B0 := Lib.hid (show Box n (.slice a zs.length cap) w ((w.alloc (Obj.cells #[.int .i64 n, .slice a zs.length cap] 26)).alloc (Obj.cells #[.int .i64 s] 3)) from (Box.made n (.slice a zs.length cap) w 26).next (by simp) ((Below.refl _ _).alloc (Nat.le_refl _) _))
  have HZ := Lib.hid (show ((w.alloc (Obj.cells #[.int .i64 n, .slice a zs.length cap] 26)).alloc (Obj.cells #[.int .i64 s] 3)).heap.size = w.heap.size + 2 by simp)
  have HC := Lib.hid (show ((w.alloc (Obj.cells #[.int .i64 n, .slice a zs.length cap] 26)).alloc (Obj.cells #[.int .i64 s] 3)).cell? ⟨w.heap.size + 1, 0, none⟩ = some (.int .i64 s) by simp [go_sem])
  by_cases hv : inB n zs s = true
  · have hv0 : vldB n zs = true := by simp only [inB, Bool.and_eq_true] at hv; exact hv.1
    have hs0 : setB n.toNat s = true := by simp only [inB, Bool.and_eq_true] at hv; exact hv.2
    obtain ⟨m, ns, rfl, rfl, hc⟩ := vldB_cls hv0
    have hm := hc.pts
    rw [Int.toNat_natCast] at hs0
    obtain ⟨t, rfl, ht, ht32⟩ := setB_nat hm hs0
    have hl := hc.length
    rw [hv] at HI
    have HVals := Lib.hid (show nrS (m : Int) (toI ns) (t : Int) = (if ns = [] then 0 else ((fstS (dis t) ns : Nat) : Int)) ∧ nrD (m : Int) (toI ns) (t : Int) = (if ns = [] then 0 else fstM (dis t) ns) ∧ nrK (m : Int) (toI ns) (t : Int) = decide (ns ≠ []) by
      by_cases hn : ns = []
      · subst hn
        exact ⟨by rw [if_pos rfl]; exact nrS_no nrK_nil, by rw [if_pos rfl]; exact nrD_no nrK_nil, by rw [show toI [] = [] from rfl, nrK_nil]; rfl⟩
      · have hk := nrK_in hv0 hs0 hn
        rw [if_neg hn, if_neg hn]
        exact ⟨nrS_in hk, nrD_in hk, by rw [hk, decide_eq_true hn]⟩)
    rw [HVals.out.1, HVals.out.2.1, HVals.out.2.2]
    have HF := Lib.hid (fun W h hcs => implFirstN (w.heap.size + 1) (dis t) (.slice a (toI ns).length cap) ns [(⟨w.heap.size + 1, 0, none⟩, .int .i64 (t : Int))] W h hc.lt32 hl hcs (Lib.hid (fun x W h0 => implNear1 x.val t (w.heap.size + 1) x.isLt ht32 W (h0 (⟨w.heap.size + 1, 0, none⟩, .int .i64 (t : Int)) (by simp)))))
    generalize (if ns = [] then 0 else ((fstS (dis t) ns : Nat) : Int)) = R1 at *
    generalize (if ns = [] then 0 else fstM (dis t) ns) = R2 at *
    generalize decide (ns ≠ []) = R3 at *
    clear HVals hv hv0 hs0 hc
    go_enter Try.func68, Try.ntmps68
    go_wp2_with fail
    generalize ((w.alloc (Obj.cells #[.int .i64 (m : Int), .slice a (toI ns).length cap] 26)).alloc (Obj.cells #[.int .i64 (t : Int)] 3)) = w0 at *
    have hz0 := HZ.out
    refine (HI.out _ (H.out.below B0.out.below (Nat.le_refl _))).mono ?_
    rintro e w1 ⟨rfl, hb⟩
    have B1 := Lib.hid (B0.out.next (by omega) hb)
    have hc1 := (hb.cell (p := ⟨w.heap.size + 1, 0, none⟩) (show w.heap.size + 1 < w0.heap.size by omega)).trans HC.out
    have HC1 := Lib.hid hc1
    clear hb hc1
    have c1 := B1.out.at1
    go_wp2_with fail
    refine (HF.out _ (H.out.below B1.out.below (Nat.le_refl _)) (fun p hp => by rw [List.mem_singleton.1 hp]; exact HC1.out)).mono ?_
    rintro e w2 ⟨rfl, hb2⟩
    have B2 := Lib.hid (B1.out.below.trans (hb2.mono B1.out.below.size))
    clear hb2 c1
    go_wp2_with fail
    refine bodyPost_ret (v := .tuple #[.int .i64 R1, .int .i64 R2, .bool R3]) (by simp [results, Try.results68, go_sem]) rfl ?_
    exact ⟨rfl, B2.out⟩
  · rw [Bool.not_eq_true] at hv
    have hk : nrK n zs s = false := by rw [nrK, show (vldB n zs && setB n.toNat s) = false from hv]; rfl
    rw [nrS_no hk, nrD_no hk, hk]
    rw [hv] at HI
    clear hv hk
    go_enter Try.func68, Try.ntmps68
    go_wp2_with fail
    generalize ((w.alloc (Obj.cells #[.int .i64 n, .slice a zs.length cap] 26)).alloc (Obj.cells #[.int .i64 s] 3)) = w0 at *
    have hz0 := HZ.out
    refine (HI.out _ (H.out.below B0.out.below (Nat.le_refl _))).mono ?_
    rintro e w1 ⟨rfl, hb⟩
    have B1 := Lib.hid (B0.out.below.trans (hb.mono (by omega)))
    clear hb
    go_wp2_with fail
    refine bodyPost_ret (v := .tuple #[.int .i64 0, .int .i64 0, .bool false]) (by simp [results, Try.results68, go_sem]) rfl ?_
    exact ⟨rfl, B1.out⟩

end Go.Proofs.Ytpcjecahplglfab
