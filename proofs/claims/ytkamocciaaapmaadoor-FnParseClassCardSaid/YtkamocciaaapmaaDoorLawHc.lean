/- Equal classes are found equal: equalClass of the laws. Conditions: both classes have the same number of points and slices that hold the same numbers. -/
import Derived.Test.YtkamocciaaapmaaDoorZH
import Derived.Test.YtkamocciaaapmaaDoorZJ
namespace Go.Proofs.YtkamocciaaapmaaDoor
open Go.RowKit

theorem eqB_same (xs : List Int) : eqB xs xs = true := eqB_of rfl (fun _ _ => rfl)

set_option maxHeartbeats 1600000 in
set_option maxRecDepth 100000 in
theorem lawsEqualClass (n : Int) (a b : Option Addr) (l ca cb : Nat) (zs : List Int) (w : World) (ha : Rd w (.slice a l ca) zs) (hb : Rd w (.slice b l cb) zs) :
    Calls Tryd.prog 14 #[.agg #[.int .i64 n, .slice a l ca], .agg #[.int .i64 n, .slice b l cb]] w fun e w' => e = .returned (.bool true) ∧ Below w.heap.size w w' := by
  have HX := Lib.hid ((Bx.new n (.slice a l ca) w).alloc (Obj.cells #[.int .i64 n, .slice b l cb] 27))
  have HY := Lib.hid (Bx.new n (.slice b l cb) (w.alloc (Obj.cells #[.int .i64 n, .slice a l ca] 27)))
  have HB := Lib.hid (show Below w.heap.size w ((w.alloc (Obj.cells #[.int .i64 n, .slice a l ca] 27)).alloc (Obj.cells #[.int .i64 n, .slice b l cb] 27)) from ((Below.refl _ _).alloc (Nat.le_refl _) _).alloc (by simp) _)
  have HZ := Lib.hid (show (w.alloc (Obj.cells #[.int .i64 n, .slice a l ca] 27)).heap.size = w.heap.size + 1 by simp)
  have HQ := Lib.hid (lawsEqualInts _ _ zs zs _ (ha.below HB.out (Nat.le_refl _)) (hb.below HB.out (Nat.le_refl _)))
  rw [eqB_same] at HQ
  clear ha hb
  go_enter Tryd.func14, Tryd.ntmps14
  go_wp2_with fail
  rw [HZ.out] at HY
  have x0 := HX.out.out.at0
  have x1 := HX.out.out.at1
  have y0 := HY.out.out.at0
  have y1 := HY.out.out.at1
  generalize ((w.alloc (Obj.cells #[.int .i64 n, .slice a l ca] 27)).alloc (Obj.cells #[.int .i64 n, .slice b l cb] 27)) = w2 at *
  go_wp2_with fail
  refine HQ.out.mono ?_
  rintro e w3 ⟨rfl, d, rfl⟩
  go_wp2_with fail
  go_ret
  exact ⟨rfl, below_drewN HB.out d⟩

end Go.Proofs.YtkamocciaaapmaaDoor
