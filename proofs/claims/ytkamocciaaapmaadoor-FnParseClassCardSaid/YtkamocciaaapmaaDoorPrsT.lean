/- The model's ParseClass as a whole. Conditions: at most 1048576 bytes. -/
import Derived.Test.YtkamocciaaapmaaDoorPrsS
namespace Go.Proofs.YtkamocciaaapmaaDoor
open Go.RowKit

theorem prs_false {s : ByteArray} (h : prB s = false) : prN s = 0 ∧ prL s = [] := by
  cases hp : pM s with
  | none => have := prs_none hp; exact ⟨this.1, this.2.1⟩
  | some p => rw [prB, hp] at h; cases h

set_option maxHeartbeats 1600000 in
set_option maxRecDepth 100000 in
theorem specParseClass (s : ByteArray) (hs : s.size ≤ 1048576) (w : World) :
    Calls Tryd.prog 15 #[.string s] w (RetPC (prN s) (prL s) (prB s) w) := by
  have HS := Lib.hid (specParseIn s hs)
  have HF := Lib.hid (fun h => prs_false (s := s) h)
  generalize prN s = N at *
  generalize prL s = R at *
  generalize prB s = K at *
  have Y := Lib.hid (Bx.new 0 (.slice none 0 0) w)
  have B := Lib.hid (show Below w.heap.size w (w.alloc (Obj.cells #[.int .i64 0, .slice none 0 0] 27)) from (Below.refl _ _).alloc (Nat.le_refl _) _)
  have HZ := Lib.hid (show (w.alloc (Obj.cells #[.int .i64 0, .slice none 0 0] 27)).heap.size = w.heap.size + 1 by simp)
  go_enter Tryd.func15, Tryd.ntmps15
  go_wp2_with fail
  generalize w.alloc (Obj.cells #[.int .i64 0, .slice none 0 0] 27) = w0 at *
  have hz0 : w.heap.size + 1 ≤ w0.heap.size := by have := HZ.out; omega
  clear HZ
  generalize hH : w.heap.size = H at *
  refine (HS.out _).mono ?_
  rintro e w1 ⟨n, zs, ⟨a, c, rfl, hin, hb1⟩, hk⟩
  have hz1 := hb1.size
  have I := Lib.hid ((hin.mono (show H ≤ w0.heap.size by omega)).alloc (Obj.cells #[.int .i64 n, .slice a zs.length c] 27))
  replace Y := Lib.hid ((Y.out.next hb1 (by omega)).alloc (Obj.cells #[.int .i64 n, .slice a zs.length c] 27))
  replace B := Lib.hid ((B.out.trans (hb1.mono (by omega))).alloc (by omega) (Obj.cells #[.int .i64 n, .slice a zs.length c] 27))
  have X := Lib.hid (Bx.new n (.slice a zs.length c) w1)
  clear hin hb1 HS
  have x0 := X.out.out.at0
  have x1 := X.out.out.at1
  have r0 := Y.out.out.at0
  have r1 := Y.out.out.at1
  have q0 := Y.out.out.free0
  have q1 := Y.out.out.free1
  cases K with
  | true =>
    obtain ⟨rfl, rfl⟩ := hk rfl
    clear HF hk
    go_upto_region 2 with (fail)
    generalize (w1.alloc (Obj.cells #[.int .i64 n, .slice a zs.length c] 27)) = v0 at *
    have Y8 := Lib.hid ((Y.out.setN n).set (.slice a zs.length c))
    have y0 := Y8.out.out.at0
    have y1 := Y8.out.out.at1
    go_wp2_with fail
    refine bodyPost_ret (v := .tuple #[.agg #[.int .i64 n, .slice a zs.length c], .bool true]) (by simp [results, Tryd.results15, go_sem, y0, y1]) rfl ?_
    refine ⟨a, c, rfl, ?_, ?_⟩
    · rw [hH]
      exact (I.out.bx Y.out 0 _).bx (Y.out.setN n) 1 _
    · rw [hH]
      have hb0 := B.out
      clear x0 x1 r0 r1 q0 q1 y0 y1
      go_grown
  | false =>
    obtain ⟨rfl, rfl⟩ := HF.out rfl
    clear HF hk
    go_upto_region 2 with (fail)
    generalize (w1.alloc (Obj.cells #[.int .i64 n, .slice a zs.length c] 27)) = v0 at *
    have Y8 := Lib.hid ((Y.out.setN 0).set (.slice none 0 0))
    have y0 := Y8.out.out.at0
    have y1 := Y8.out.out.at1
    go_wp2_with fail
    refine bodyPost_ret (v := .tuple #[.agg #[.int .i64 0, .slice none 0 0], .bool false]) (by simp [results, Tryd.results15, go_sem, y0, y1]) rfl ?_
    refine ⟨none, 0, rfl, ?_, ?_⟩
    · rw [hH]
      exact Ints.nil _ _
    · rw [hH]
      have hb0 := B.out
      clear x0 x1 r0 r1 q0 q1 y0 y1
      go_grown

end Go.Proofs.YtkamocciaaapmaaDoor
