/- The program's numberOr: the number that a text tells by Atoi, or -1. Conditions: the library's two errors are laid; at most 2^48 bytes. -/
import Derived.Lib.AtoiErrMem
import Derived.Test.YtkamocciaaapmaaDoorShelfP
namespace Go.Proofs.YtkamocciaaapmaaDoor
open Go.RowKit

/-- the number of a text by Atoi's rules, or -1 -/
def numO (s : ByteArray) : Int := match Lib.atoiAll s.data.toList with
  | .ok v => v
  | _ => -1
/-- the library's two errors lie as its text lays them -/
def Errs (w : World) : Prop := (∃ tp p, w.var? Tryd.prog "strconv.ErrSyntax" = some #[.iface tp p]) ∧ ∃ tp p, w.var? Tryd.prog "strconv.ErrRange" = some #[.iface tp p]
theorem libAtoi_ok (s : ByteArray) (hs : s.size ≤ 1048576) (v : Int) (h : Lib.atoiAll s.data.toList = .ok v) (w : World) :
    Calls Tryd.prog 48 #[.string s] w fun e w' => e = .returned (.tuple #[.int .i64 v, .nilIface]) ∧ Below w.heap.size w w' := by
  refine (Any.strconv_Atoi_ok shAtoi s (by omega) v h w).mono fun e w' ⟨he, hw⟩ => ⟨he, ?_⟩
  rcases hw with rfl | ⟨t, rfl⟩
  · exact Below.refl _ _
  · exact Lib.bytesWorld_below _ _ _

set_option maxRecDepth 100000 in
theorem implNumberOr (s : ByteArray) (hs : s.size ≤ 1048576) (w : World) (hE : Errs w) :
    Calls Tryd.prog 30 #[.string s] w fun e w' => e = .returned (.int .i64 (numO s)) ∧ Below w.heap.size w w' := by
  obtain ⟨⟨t1, p1, h1⟩, ⟨t2, p2, h2⟩⟩ := hE
  cases hr : Lib.atoiAll s.data.toList with
  | ok v =>
    have HN := Lib.hid (show numO s = v by rw [numO, hr])
    have HA := Lib.hid (libAtoi_ok s hs v hr w)
    clear hr h1 h2
    go_enter Tryd.func30, Tryd.ntmps30
    go_wp2_with fail
    refine HA.out.mono ?_
    rintro e w1 ⟨rfl, hb⟩
    have HB := Lib.hid hb
    clear hb
    go_wp2_with fail
    go_ret
    rw [HN.out]
    exact ⟨rfl, HB.out⟩
  | «syntax» =>
    have HN := Lib.hid (show numO s = -1 by rw [numO, hr])
    have HA := Lib.hid (Any.strconv_Atoi_syntax_var shAtoi s (by omega) hr t1 p1 w h1)
    clear hr h1 h2
    go_enter Tryd.func30, Tryd.ntmps30
    go_wp2_with fail
    refine HA.out.mono ?_
    rintro e w1 ⟨N, rfl, -, -, hb⟩
    have HB := Lib.hid hb
    clear hb
    go_wp2_with fail
    go_ret
    rw [HN.out]
    exact ⟨rfl, HB.out⟩
  | range =>
    have HN := Lib.hid (show numO s = -1 by rw [numO, hr])
    have HA := Lib.hid (Any.strconv_Atoi_range_var shAtoi s (by omega) hr t2 p2 w h2)
    clear hr h1 h2
    go_enter Tryd.func30, Tryd.ntmps30
    go_wp2_with fail
    refine HA.out.mono ?_
    rintro e w1 ⟨N, rfl, -, -, hb⟩
    have HB := Lib.hid hb
    clear hb
    go_wp2_with fail
    go_ret
    rw [HN.out]
    exact ⟨rfl, HB.out⟩

end Go.Proofs.YtkamocciaaapmaaDoor
