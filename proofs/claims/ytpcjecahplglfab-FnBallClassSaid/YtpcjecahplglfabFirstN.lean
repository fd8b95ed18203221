/- firstLeast with the measure of NearestTo$1. Conditions: at most 32 numbers, below 32. -/
import Derived.Deep.RegionHeld3
import Derived.Test.YtpcjecahplglfabLeastN
import Derived.Test.YtpcjecahplglfabNear
import Derived.Test.YtpcjecahplglfabVals
namespace Go.Proofs.Ytpcjecahplglfab
open Go.RowKit Go.Shelf

set_option maxRecDepth 100000 in
set_option maxHeartbeats 3200000 in
theorem implFirstN (mo : Nat) (μ : Nat → Int) (v : Value) (ns : List Nat) (csm : List (Addr × Value)) (w : World) (h : Rd w v (toI ns)) (h32 : ∀ t ∈ ns, t < 32) (hl : ns.length ≤ 32) (hcs : CS csm w)
    (HM : Hid (∀ (x : Fin 32) (W : World), CS csm W → Calls Try.prog 79 #[.int .i64 ((x.val : Nat) : Int), .pointer (some ⟨mo, 0, none⟩)] W fun e w' => e = .returned (.int .i64 (μ x.val)) ∧ Below W.heap.size W w')) :
    Calls Try.prog 78 #[v, (.func (.func 79) #[] #[.pointer (some ⟨mo, 0, none⟩)])] w fun e w' => e = .returned (.tuple #[.int .i64 (if ns = [] then 0 else ((fstS μ ns : Nat) : Int)), .int .i64 (if ns = [] then 0 else fstM μ ns), .bool (decide (ns ≠ []))]) ∧ Below w.heap.size w w' := by
  obtain ⟨a, b, off, cap, rfl, h1, h3, h5⟩ := h
  rw [toI_length] at *
  have hb0 : Below w.heap.size w (w.alloc (.cells #[.slice a ns.length cap] 22)) := (Below.refl _ w).alloc (Nat.le_refl _) _
  have c0 := (cell_new_l w (.slice a ns.length cap) 22).1
  have hcs1 : CS (csV w.heap.size (.slice a ns.length cap) b off ns ++ csm) (w.alloc (.cells #[.slice a ns.length cap] 22)) := fun p hp => by
    rcases List.mem_append.1 hp with h | h
    · rcases List.mem_cons.1 h with rfl | h
      · exact c0
      · obtain ⟨j, hj, rfl⟩ := List.mem_map.1 h
        have hj := List.mem_range.1 hj
        refine (hb0.cell (p := ⟨b, off + j, none⟩) (h1 (by omega)).2).trans ?_
        have := h5 j hj
        rw [toI_getD] at this
        exact this
    · exact (hcs.next hb0) p h
  have HL := Lib.hid (implLeastN mo μ 91 #[.pointer (some ⟨w.heap.size, 0, none⟩)] (csV w.heap.size (.slice a ns.length cap) b off ns ++ csm) (f32 ns) (by rw [f32_len]; exact hl) _
    (enters_of Try.func91 (by kernel_rfl) rfl)
    (fun n w0 hn h0 => valStops n hn w.heap.size a b off cap ns h32 hl (fun h => (h1 h).1) _ (fun p hp => List.mem_append_left _ hp) w0 h0)
    (Lib.hid (fun x W h0 => HM.out x W (fun p hp => h0 p (List.mem_append_right _ hp)))) hcs1)
  rw [f32_val h32] at HL
  have HV := Lib.hid (implValues a ns.length cap w)
  by_cases hn : ns = []
  · subst hn
    rw [if_pos rfl, if_pos rfl, show decide (([] : List Nat) ≠ []) = false by simp]
    rw [lmn_nil, show toI [] = [] from rfl] at HL
    have HL2 := Lib.hid HL.out
    clear HL h5 h3 h1 c0 hcs1 hl
    go_enter Try.func78, Try.ntmps78
    go_wp2_with fail
    refine HV.out.mono ?_
    rintro e w1 ⟨rfl, rfl⟩
    go_wp2_with fail
    refine HL2.out.mono ?_
    rintro e w2 ⟨a2, k2, rfl, hin, hb⟩
    have HB := Lib.hid (hb0.trans (hb.mono hb0.size))
    clear hin hb
    rw [show ([] : List Int).length = 0 from rfl]
    go_wp2_with fail
    refine bodyPost_ret (v := .tuple #[.int .i64 0, .int .i64 0, .bool false]) (by simp [results, Try.results78, go_sem]) rfl ?_
    exact ⟨rfl, HB.out⟩
  · rw [if_neg hn, if_neg hn, show decide (ns ≠ []) = true from decide_eq_true hn]
    have hne := lmn_ne (μ := μ) hn
    have HX := Lib.hid (show fstS μ ns = (lmn μ ns).1.getD 0 0 from rfl)
    have HMx := Lib.hid (show fstM μ ns = μ (fstS μ ns) from rfl)
    have hx32 : fstS μ ns < 32 := h32 _ (lmn_sub (getD_of_lt (List.length_pos_iff.2 hne)))
    have HQ := Lib.hid (fun W h0 => HM.out ⟨fstS μ ns, hx32⟩ W h0)
    rw [HMx.out]
    dsimp only at HQ
    have HCS := Lib.hid (hcs.next hb0)
    have HLn := Lib.hid (toI_length (lmn μ ns).1)
    generalize (lmn μ ns).1 = A at *
    obtain ⟨k, hk⟩ : ∃ k, A.length = k + 1 := ⟨A.length - 1, by have := List.length_pos_iff.2 hne; omega⟩
    have hd1 : ((k : Int) + 1 == 0) = false := by simp; omega
    have hd2 : ¬ (k : Int) + 1 = 0 := by omega
    have hd3 : (0 : Int) < (k : Int) + 1 := by omega
    rw [hk] at HLn
    clear hne hk hn h5 h3 h1 c0 hcs1 hl hcs HMx HM
    generalize fstS μ ns = x at *
    generalize μ x = mx at *
    go_enter Try.func78, Try.ntmps78
    go_wp2_with fail
    refine HV.out.mono ?_
    rintro e w1 ⟨rfl, rfl⟩
    go_wp2_with fail
    refine HL.out.mono ?_
    rintro e w2 ⟨a2, k2, rfl, hin, hb⟩
    have HB := Lib.hid (hb0.trans (hb.mono hb0.size))
    have HC2 := Lib.hid (HCS.out.next hb)
    rw [HLn.out] at hin ⊢
    obtain ⟨ar, br, offr, capr, er, g1, g3, g5⟩ := hin.rd
    simp only [Value.slice.injEq] at er
    obtain ⟨rfl, -, rfl⟩ := er
    rw [HLn.out] at g1 g5
    obtain ⟨rfl, hgl⟩ := g1 (by omega)
    have hc := g5 0 (by omega)
    rw [toI_getD, Nat.add_zero, ← HX.out] at hc
    clear hin hb g1 g5 g3 HX
    go_wp2_with fail
    go_region_held3 (fun w' => w'.cell? ⟨br, offr, none⟩ = some (.int .i64 (x : Int))) (first | exact hc | exact hc9 | go_keep) (first | (go_at_call 79; refine (HQ.out _ (by first | exact HC2.out | exact (fun p hp => HC2.out p hp))).mono ?_; rintro e w4 ⟨rfl, hb4⟩; have B4 := Lib.hid (show Below w2.heap.size w2 w4 from Below.trans (by first | exact Below.refl _ _ | exact (Below.refl _ _).drew) hb4); have hc9 := (B4.out.cell (p := ⟨br, offr, none⟩) hgl).trans hc; clear hb4))
    have HBW := Lib.hid (HB.out.trans (B4.out.mono HB.out.size))
    clear hc
    go_wp2_with fail
    refine bodyPost_ret (v := .tuple #[.int .i64 (x : Int), .int .i64 mx, .bool true]) (by simp [results, Try.results78, go_sem]) rfl ?_
    exact ⟨rfl, HBW.out⟩

end Go.Proofs.Ytpcjecahplglfab
