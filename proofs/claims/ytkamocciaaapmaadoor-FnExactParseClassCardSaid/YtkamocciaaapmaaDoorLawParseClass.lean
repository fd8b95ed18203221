/- FnExactParseClass's walk: the law answers true. Conditions: the library's variables lie. -/
import Derived.Test.YtkamocciaaapmaaDoorHeldC
import Derived.Test.YtkamocciaaapmaaDoorPrsI
import Derived.Test.YtkamocciaaapmaaDoorPrsT
import Derived.Test.YtkamocciaaapmaaDoorZH
namespace Go.Proofs.YtkamocciaaapmaaDoor
open Go.RowKit

set_option maxHeartbeats 12800000 in
set_option maxRecDepth 100000 in
theorem walkExactParseClass (s : ByteArray) (w : World) (hLb : Lbs w) :
    Calls Tryd.prog 5 #[.string s] w fun e w' => e = .returned (.bool true) ∧ Below w.heap.size w w' := by
  have HL := Lib.hid hLb
  clear hLb
  by_cases hsz : s.size ≤ 1048576
  case neg =>
    have h1 : ¬ (s.size : Int) ≤ 1048576 := by omega
    have h2 : (1048576 : Int) < (s.size : Int) := by omega
    go_enter Tryd.func5, Tryd.ntmps5
    go_wp2_with fail
    go_ret
    exact ⟨rfl, Below.refl _ _⟩
  have hszI : ¬ (1048576 : Int) < (s.size : Int) := by omega
  have hR := prL_len s
  have HS := Lib.hid (fun w => specParseClass s hsz w)
  have HI := Lib.hid (fun w h => implParseClass s hsz w h)
  have HLb := Lib.hid (fun w' (hb : Below w.heap.size w w') => HL.out.below hb (Nat.le_refl _))
  generalize prL s = R at *
  generalize prN s = N at *
  generalize prB s = K at *
  go_enter Tryd.func5, Tryd.ntmps5
  go_wp2_with fail
  refine (HS.out _).mono ?_
  rintro e w1 ⟨a1, c1, rfl, hin1, hb1⟩
  have hz1 := hb1.size
  have B := Lib.hid hb1
  have X1 := Lib.hid (Bx.new N (.slice a1 R.length c1) w1)
  have I1 := Lib.hid (hin1.alloc (Obj.cells #[.int .i64 N, .slice a1 R.length c1] 27))
  replace B := Lib.hid (B.out.alloc B.out.size (Obj.cells #[.int .i64 N, .slice a1 R.length c1] 27))
  have HZ := Lib.hid (show (w1.alloc (Obj.cells #[.int .i64 N, .slice a1 R.length c1] 27)).heap.size = w1.heap.size + 1 by simp)
  clear hin1 hb1
  have x10 := X1.out.out.at0
  have x11 := X1.out.out.at1
  go_wp2_with fail
  generalize (w1.alloc (Obj.cells #[.int .i64 N, .slice a1 R.length c1] 27)) = v1 at *
  have hy1 := HZ.out
  clear HZ
  refine (HI.out _ (HLb.out _ B.out)).mono ?_
  rintro e w2 ⟨a2, c2, rfl, hin2, hb2⟩
  have hz2 := hb2.size
  have A12 := Lib.hid (I1.out.apart hin2 (Nat.le_refl _))
  replace X1 := Lib.hid (X1.out.next hb2 (by omega))
  replace I1 := Lib.hid (I1.out.below hb2 (Nat.le_refl _))
  replace B := Lib.hid (B.out.trans (hb2.mono (by omega)))
  replace X1 := Lib.hid (X1.out.alloc (Obj.cells #[.int .i64 N, .slice a2 R.length c2] 27))
  replace I1 := Lib.hid (I1.out.alloc (Obj.cells #[.int .i64 N, .slice a2 R.length c2] 27))
  have X2 := Lib.hid (Bx.new N (.slice a2 R.length c2) w2)
  have I2 := Lib.hid (hin2.alloc (Obj.cells #[.int .i64 N, .slice a2 R.length c2] 27))
  replace B := Lib.hid (B.out.alloc B.out.size (Obj.cells #[.int .i64 N, .slice a2 R.length c2] 27))
  have HZ := Lib.hid (show (w2.alloc (Obj.cells #[.int .i64 N, .slice a2 R.length c2] 27)).heap.size = w2.heap.size + 1 by simp)
  clear hin2 hb2
  clear x10 x11
  have x10 := X1.out.out.at0
  have x11 := X1.out.out.at1
  have x20 := X2.out.out.at0
  have x21 := X2.out.out.at1
  go_wp2_with fail
  generalize (w2.alloc (Obj.cells #[.int .i64 N, .slice a2 R.length c2] 27)) = v2 at *
  have hy2 := HZ.out
  clear HZ
  refine (eqClass N N _ _ R R _ I2.out.rd I1.out.rd).mono ?_
  rintro e w3 ⟨rfl, hb3⟩
  rw [show (decide (N = N) && eqB R R) = true by simp [eqB]]
  clear x10 x11 x20 x21
  have hz3 := hb3.size
  replace X1 := Lib.hid (X1.out.next hb3 (by omega))
  replace X2 := Lib.hid (X2.out.next hb3 (by omega))
  replace I1 := Lib.hid (I1.out.below hb3 (Nat.le_refl _))
  replace I2 := Lib.hid (I2.out.below hb3 (Nat.le_refl _))
  replace B := Lib.hid (B.out.trans (hb3.mono (by omega)))
  clear hb3
  have x10 := X1.out.out.at0
  have x11 := X1.out.out.at1
  have x20 := X2.out.out.at0
  have x21 := X2.out.out.at1
  go_wp2_with fail
  refine (markClass N a2 R.length c2 R 1 _ I2.out (by omega) hR).mono ?_
  rintro e w4 ⟨rfl, hin4, hg4⟩
  clear x10 x11 x20 x21
  have hz4 := hg4.size
  have hlt2 := fun r hr => (I2.out.lt r hr).1
  replace X1 := Lib.hid (X1.out.kept hg4 (X1.out.not_row I2.out))
  replace X2 := Lib.hid (X2.out.kept hg4 (X2.out.not_row I2.out))
  replace I1 := Lib.hid (I1.out.kept hg4 A12.out)
  replace B := Lib.hid (B.out.grown hg4 (by omega) (fun r hr => by have := hlt2 r hr; omega))
  replace I2 := Lib.hid hin4
  clear hin4 hg4 hlt2
  have x10 := X1.out.out.at0
  have x11 := X1.out.out.at1
  have x20 := X2.out.out.at0
  have x21 := X2.out.out.at1
  go_wp2_with fail
  refine (heldClass N _ R.length 1 _ I2.out.rd (by omega) hR).mono ?_
  rintro e w5 ⟨rfl, hb5⟩
  clear x10 x11 x20 x21
  have hz5 := hb5.size
  replace X1 := Lib.hid (X1.out.next hb5 (by omega))
  replace X2 := Lib.hid (X2.out.next hb5 (by omega))
  replace I1 := Lib.hid (I1.out.below hb5 (Nat.le_refl _))
  replace I2 := Lib.hid (I2.out.below hb5 (Nat.le_refl _))
  replace B := Lib.hid (B.out.trans (hb5.mono (by omega)))
  clear hb5
  have x10 := X1.out.out.at0
  have x11 := X1.out.out.at1
  have x20 := X2.out.out.at0
  have x21 := X2.out.out.at1
  go_wp2_with fail
  refine (HI.out _ (HLb.out _ B.out)).mono ?_
  rintro e w6 ⟨a6, c6, rfl, hin6, hb6⟩
  have hz6 := hb6.size
  replace X1 := Lib.hid (X1.out.next hb6 (by omega))
  replace X2 := Lib.hid (X2.out.next hb6 (by omega))
  replace I1 := Lib.hid (I1.out.below hb6 (Nat.le_refl _))
  replace I2 := Lib.hid (I2.out.below hb6 (Nat.le_refl _))
  replace B := Lib.hid (B.out.trans (hb6.mono (by omega)))
  replace X1 := Lib.hid (X1.out.alloc (Obj.cells #[.int .i64 N, .slice a6 R.length c6] 27))
  replace X2 := Lib.hid (X2.out.alloc (Obj.cells #[.int .i64 N, .slice a6 R.length c6] 27))
  replace I1 := Lib.hid (I1.out.alloc (Obj.cells #[.int .i64 N, .slice a6 R.length c6] 27))
  replace I2 := Lib.hid (I2.out.alloc (Obj.cells #[.int .i64 N, .slice a6 R.length c6] 27))
  have X6 := Lib.hid (Bx.new N (.slice a6 R.length c6) w6)
  have I6 := Lib.hid (hin6.alloc (Obj.cells #[.int .i64 N, .slice a6 R.length c6] 27))
  replace B := Lib.hid (B.out.alloc B.out.size (Obj.cells #[.int .i64 N, .slice a6 R.length c6] 27))
  have HZ := Lib.hid (show (w6.alloc (Obj.cells #[.int .i64 N, .slice a6 R.length c6] 27)).heap.size = w6.heap.size + 1 by simp)
  clear hin6 hb6
  clear x10 x11 x20 x21
  have x10 := X1.out.out.at0
  have x11 := X1.out.out.at1
  have x20 := X2.out.out.at0
  have x21 := X2.out.out.at1
  have x60 := X6.out.out.at0
  have x61 := X6.out.out.at1
  go_wp2_with fail
  generalize (w6.alloc (Obj.cells #[.int .i64 N, .slice a6 R.length c6] 27)) = v6 at *
  have hy6 := HZ.out
  clear HZ
  refine (eqClass N N _ _ R R _ I6.out.rd I1.out.rd).mono ?_
  rintro e w7 ⟨rfl, hb7⟩
  rw [show (decide (N = N) && eqB R R) = true by simp [eqB]]
  clear x10 x11 x20 x21 x60 x61
  have hz7 := hb7.size
  replace X1 := Lib.hid (X1.out.next hb7 (by omega))
  replace X2 := Lib.hid (X2.out.next hb7 (by omega))
  replace X6 := Lib.hid (X6.out.next hb7 (by omega))
  replace I1 := Lib.hid (I1.out.below hb7 (Nat.le_refl _))
  replace I2 := Lib.hid (I2.out.below hb7 (Nat.le_refl _))
  replace I6 := Lib.hid (I6.out.below hb7 (Nat.le_refl _))
  replace B := Lib.hid (B.out.trans (hb7.mono (by omega)))
  clear hb7
  have x10 := X1.out.out.at0
  have x11 := X1.out.out.at1
  have x20 := X2.out.out.at0
  have x21 := X2.out.out.at1
  have x60 := X6.out.out.at0
  have x61 := X6.out.out.at1
  go_wp2_with fail
  refine (heldClass N _ R.length 1 _ I2.out.rd (by omega) hR).mono ?_
  rintro e w8 ⟨rfl, hb8⟩
  replace B := Lib.hid (B.out.trans (hb8.mono (by omega)))
  clear hb8
  go_wp2_with fail
  go_ret
  exact ⟨rfl, B.out⟩

end Go.Proofs.YtkamocciaaapmaaDoor
