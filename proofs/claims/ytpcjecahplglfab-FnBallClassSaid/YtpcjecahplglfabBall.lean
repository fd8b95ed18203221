/- BallClass, the program's. No conditions. -/
import Derived.Test.YtpcjecahplglfabNear
import Derived.Test.YtpcjecahplglfabSetsWB
import Derived.Test.YtpcjecahplglfabZA
import Derived.Test.YtpcjecahplglfabZD
namespace Go.Proofs.Ytpcjecahplglfab
open Go.RowKit

/-- what a call answers whose results are a class of its own and a bool -/
def RetCB (n : Int) (xs : List Int) (b : Bool) (w : World) (e : Ending) (w' : World) : Prop :=
  ∃ a cap, e = .returned (.tuple #[.agg #[.int .i64 n, .slice a xs.length cap], .bool b]) ∧ Ints w.heap.size w' (.slice a xs.length cap) xs ∧ Below w.heap.size w w'
theorem Rd.nil (w : World) : Rd w (.slice none 0 0) [] := ⟨none, 0, 0, 0, rfl, fun h => by simp at h, by simp, fun j hj => by simp at hj⟩

/-- the ball of at most k points round s -/
def ball (m s : Nat) (k : Int) : List Nat := (List.range (2 ^ m)).filter (fun t => decide (dis s t ≤ k))
/-- BallClass -/
def blN (n s : Int) : Int := if inB n [] s = true then n else 0
def blL (n s k : Int) : List Int := if inB n [] s = true then toI (ball n.toNat s.toNat k) else []
theorem blN_no {n s : Int} (h : inB n [] s = false) : blN n s = 0 := by rw [blN, if_neg (by rw [h]; simp)]
theorem blL_no {n s k : Int} (h : inB n [] s = false) : blL n s k = [] := by rw [blL, if_neg (by rw [h]; simp)]
theorem blL_len (n s k : Int) : (blL n s k).length ≤ 1048576 := by
  unfold blL
  split
  · rename_i h
    simp only [inB, Bool.and_eq_true] at h
    obtain ⟨m, ns, rfl, _, hc⟩ := vldB_cls h.1
    rw [toI_length, ball, Int.toNat_natCast]
    have := filt_le (fun t => decide (dis s.toNat t ≤ k)) (2 ^ m)
    have := pow_le_32 hc.pts
    omega
  · simp

set_option maxHeartbeats 800000 in
theorem implBall1 (m s t : Nat) (k : Int) (o1 o2 : Nat) (ht : t < 32) (hs : s < 32) (w : World) (h1 : w.cell? ⟨o1, 0, none⟩ = some (.int .i64 (s : Int))) (h2 : w.cell? ⟨o2, 0, none⟩ = some (.int .i64 k)) :
    Calls Try.prog 66 #[.agg #[.int .i64 (m : Int), .slice none 0 0], .int .i64 (t : Int), .pointer (some ⟨o1, 0, none⟩), .pointer (some ⟨o2, 0, none⟩)] w fun e w' => e = .returned (.bool (decide (dis s t ≤ k))) ∧ Below w.heap.size w w' := by
  have HX := Lib.hid (i64_xor s t (by omega) (by omega))
  have h32 : s ^^^ t < 32 := Nat.xor_lt_two_pow (n := 5) hs ht
  have HD := Lib.hid (show dis s t = ((pc (s ^^^ t) : Nat) : Int) by rw [dis, Nat.xor_comm])
  have HS := Lib.hid (fun w => (implSizeOf (s ^^^ t) h32 w).mono fun e w' h => And.intro h.1 h.2.symm)
  have HB := Lib.hid (show Below w.heap.size w (w.alloc (Obj.cells #[.int .i64 (m : Int), .slice none 0 0] 26)) from (Below.refl _ _).alloc (Nat.le_refl _) _)
  have c1 := (HB.out.cell (p := ⟨o1, 0, none⟩) (World.block_lt_of_cell? w _ h1)).trans h1
  have c2 := (HB.out.cell (p := ⟨o2, 0, none⟩) (World.block_lt_of_cell? w _ h2)).trans h2
  rw [HD.out]
  generalize s ^^^ t = x at *
  clear h1 h2
  go_enter Try.func66, Try.ntmps66
  go_wp2_with fail
  go_quiet ((go_at_call 53; rw [HX.out]; exact Calls.quiet_of_same (HS.out _)))
  go_wp2_with fail
  go_ret
  exact ⟨rfl, below_drewN HB.out nq⟩

set_option maxRecDepth 100000 in
set_option maxHeartbeats 3200000 in
theorem implBallClass (n s k : Int) (w : World) :
    Calls Try.prog 32 #[.int .i64 n, .int .i64 s, .int .i64 k] w (RetCB (blN n s) (blL n s k) (inB n [] s) w) := by
  have HB0 := Lib.hid (show Below w.heap.size w ((((w.alloc (Obj.cells #[.int .i64 s] 3)).alloc (Obj.cells #[.int .i64 k] 3)).alloc (Obj.cells #[.int .i64 0, .slice none 0 0] 26)).alloc (Obj.cells #[.int .i64 n, .slice none 0 0] 26)) from ((((Below.refl _ _).alloc (Nat.le_refl _) _).alloc (by simp) _).alloc (by simp; omega) _).alloc (by simp; omega) _)
  have HZ := Lib.hid (show ((((w.alloc (Obj.cells #[.int .i64 s] 3)).alloc (Obj.cells #[.int .i64 k] 3)).alloc (Obj.cells #[.int .i64 0, .slice none 0 0] 26)).alloc (Obj.cells #[.int .i64 n, .slice none 0 0] 26)).heap.size = w.heap.size + 4 by simp)
  have HS0 := Lib.hid (show ((((w.alloc (Obj.cells #[.int .i64 s] 3)).alloc (Obj.cells #[.int .i64 k] 3)).alloc (Obj.cells #[.int .i64 0, .slice none 0 0] 26)).alloc (Obj.cells #[.int .i64 n, .slice none 0 0] 26)).cell? ⟨w.heap.size, 0, none⟩ = some (.int .i64 s) by simp [go_sem])
  have HK0 := Lib.hid (show ((((w.alloc (Obj.cells #[.int .i64 s] 3)).alloc (Obj.cells #[.int .i64 k] 3)).alloc (Obj.cells #[.int .i64 0, .slice none 0 0] 26)).alloc (Obj.cells #[.int .i64 n, .slice none 0 0] 26)).cell? ⟨w.heap.size + 1, 0, none⟩ = some (.int .i64 k) by simp [go_sem])
  have OR := Lib.hid (show Out 0 (.slice none 0 0) (w.heap.size + 2) ((((w.alloc (Obj.cells #[.int .i64 s] 3)).alloc (Obj.cells #[.int .i64 k] 3)).alloc (Obj.cells #[.int .i64 0, .slice none 0 0] 26)).alloc (Obj.cells #[.int .i64 n, .slice none 0 0] 26)) from ⟨by simp [go_sem], by simp [go_sem], by simp [go_sem], by simp [go_sem]⟩)
  have OB := Lib.hid (show Out n (.slice none 0 0) (w.heap.size + 3) ((((w.alloc (Obj.cells #[.int .i64 s] 3)).alloc (Obj.cells #[.int .i64 k] 3)).alloc (Obj.cells #[.int .i64 0, .slice none 0 0] 26)).alloc (Obj.cells #[.int .i64 n, .slice none 0 0] 26)) from ⟨by simp [go_sem], by simp [go_sem], by simp [go_sem], by simp [go_sem]⟩)
  have HI := Lib.hid (fun w => implIsSetOf n (.slice none 0 0) [] s w (Rd.nil w))
  by_cases hi : inB n [] s = true
  · have hvd : vldB n [] = true := by simp only [inB, Bool.and_eq_true] at hi; exact hi.1
    have hsd : setB n.toNat s = true := by simp only [inB, Bool.and_eq_true] at hi; exact hi.2
    obtain ⟨m, ns, rfl, _, hc⟩ := vldB_cls hvd
    have hm := hc.pts
    rw [Int.toNat_natCast] at hsd
    obtain ⟨t, rfl, ht, ht32⟩ := setB_nat hm hsd
    have hp32 := pow_le_32 hm
    have HL := Lib.hid (show blL (m : Int) (t : Int) k = toI (ball m t k) by rw [blL, if_pos hi, Int.toNat_natCast, Int.toNat_natCast])
    rw [show blN (m : Int) (t : Int) = m by rw [blN, if_pos hi], HL.out, hi]
    rw [hi] at HI
    have HW := Lib.hid (fun W hcs => setsWhereB m hm w.heap.size (w.heap.size + 1) (fun x => decide (dis t x ≤ k)) [(⟨w.heap.size, 0, none⟩, .int .i64 (t : Int)), (⟨w.heap.size + 1, 0, none⟩, .int .i64 k)] W hcs (Lib.hid (fun j W hj h0 => implBall1 m t j k w.heap.size (w.heap.size + 1) (by omega) ht32 W (h0 (⟨w.heap.size, 0, none⟩, .int .i64 (t : Int)) (by simp)) (h0 (⟨w.heap.size + 1, 0, none⟩, .int .i64 k) (by simp)))))
    have HE := Lib.hid (show (List.range (2 ^ m)).filter (fun x => decide (dis t x ≤ k)) = ball m t k from rfl)
    rw [HE.out] at HW
    have HGl := Lib.hid (toI_length (ball m t k))
    generalize ball m t k = G at *
    clear hi hvd hsd hc
    go_enter Try.func32, Try.ntmps32
    go_wp2_with fail
    generalize ((((w.alloc (Obj.cells #[.int .i64 (t : Int)] 3)).alloc (Obj.cells #[.int .i64 k] 3)).alloc (Obj.cells #[.int .i64 0, .slice none 0 0] 26)).alloc (Obj.cells #[.int .i64 (m : Int), .slice none 0 0] 26)) = w0 at *
    have hz0 := HZ.out
    refine (HI.out _).mono ?_
    rintro e w1 ⟨rfl, hb⟩
    have hz1 := hb.size
    have O1 := Lib.hid (OR.out.next hb (by omega))
    have D1 := Lib.hid (OB.out.next hb (by omega))
    have HB1 := Lib.hid (HB0.out.trans (hb.mono (by omega)))
    have HCS := Lib.hid (show CS [(⟨w.heap.size, 0, none⟩, .int .i64 (t : Int)), (⟨w.heap.size + 1, 0, none⟩, .int .i64 k)] w1 from fun p hp => by
      simp only [List.mem_cons, List.not_mem_nil, or_false] at hp
      rcases hp with rfl | rfl
      · exact (hb.cell (p := ⟨w.heap.size, 0, none⟩) (show w.heap.size < w0.heap.size by omega)).trans HS0.out
      · exact (hb.cell (p := ⟨w.heap.size + 1, 0, none⟩) (show w.heap.size + 1 < w0.heap.size by omega)).trans HK0.out)
    clear hb
    have d0 := D1.out.at0
    have d1 := D1.out.at1
    go_wp2_with fail
    refine (HW.out _ HCS.out).mono ?_
    rintro e w2 ⟨a2, c2, rfl, hin2, hb2⟩
    rw [HGl.out] at hin2 ⊢
    have hz2 := hb2.size
    have O2 := Lib.hid (O1.out.next hb2 (by omega))
    have D2 := Lib.hid (D1.out.next hb2 (by omega))
    have HB2 := Lib.hid (HB1.out.trans (hb2.mono (by omega)))
    have I2 := Lib.hid hin2
    clear hin2 hb2 d0 d1
    have D3 := Lib.hid (D2.out.set (.slice a2 G.length c2))
    have d0 := D2.out.at0
    have d1 := D2.out.at1
    have f1 := D2.out.free1
    have g0 := D3.out.at0
    have g1 := D3.out.at1
    have r0 := (World.cell?_setCell_other w2 ⟨w.heap.size + 3, 1, none⟩ ⟨w.heap.size + 2, 0, none⟩ (.slice a2 G.length c2) (by simp)).trans O2.out.at0
    have r1 := (World.cell?_setCell_other w2 ⟨w.heap.size + 3, 1, none⟩ ⟨w.heap.size + 2, 1, none⟩ (.slice a2 G.length c2) (by simp)).trans O2.out.at1
    have q0 := O2.out.free0
    have q1 := O2.out.free1
    go_wp2_with fail
    refine bodyPost_ret (v := .tuple #[.agg #[.int .i64 (m : Int), .slice a2 G.length c2], .bool true]) (by simp [results, Try.results32, go_sem, r0, r1]) rfl ?_
    refine ⟨a2, c2, by rw [HGl.out], ?_, ?_⟩
    · rw [HGl.out]
      refine Ints.mono (B := w1.heap.size) ?_ (by omega)
      repeat (refine Ints.setCell_below ?_ (by simp; try omega) _)
      exact I2.out
    · have hb0 := HB2.out
      clear r0 r1 q0 q1 d0 d1 f1 g0 g1
      go_grown
  · rw [Bool.not_eq_true] at hi
    rw [blN_no hi, blL_no hi, hi]
    rw [hi] at HI
    clear hi
    go_enter Try.func32, Try.ntmps32
    go_wp2_with fail
    generalize ((((w.alloc (Obj.cells #[.int .i64 s] 3)).alloc (Obj.cells #[.int .i64 k] 3)).alloc (Obj.cells #[.int .i64 0, .slice none 0 0] 26)).alloc (Obj.cells #[.int .i64 n, .slice none 0 0] 26)) = w0 at *
    have hz0 := HZ.out
    refine (HI.out _).mono ?_
    rintro e w1 ⟨rfl, hb⟩
    have O1 := Lib.hid (OR.out.next hb (by omega))
    have HB1 := Lib.hid (HB0.out.trans (hb.mono (by omega)))
    clear hb
    have r0 := O1.out.at0
    have r1 := O1.out.at1
    have q0 := O1.out.free0
    have q1 := O1.out.free1
    go_wp2_with fail
    refine bodyPost_ret (v := .tuple #[.agg #[.int .i64 0, .slice none 0 0], .bool false]) (by simp [results, Try.results32, go_sem, r0, r1]) rfl ?_
    refine ⟨none, 0, rfl, ?_, ?_⟩
    · exact Ints.nil _ _
    · have hb0 := HB1.out
      clear r0 r1 q0 q1
      go_grown

end Go.Proofs.Ytpcjecahplglfab
