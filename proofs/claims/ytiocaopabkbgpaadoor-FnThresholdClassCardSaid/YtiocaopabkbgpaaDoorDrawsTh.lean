/- What the law of ThresholdClass draws: a number of points. Conditions: the code is a slice of bytes. -/
import Derived.Test.YtiocaopabkbgpaaDoorOneLit
import Derived.Test.YtiocaopabkbgpaaDoorZK
namespace Go.Proofs.YtiocaopabkbgpaaDoor
open Go.RowKit

def thrNs : List Int := [3, 4, 5, 2, 1, 0, 6, -1]
/-- the number, and nothing that was there is changed -/
def GotThr (w : World) (e : Ending) (w' : World) : Prop := ∃ i, i < 8 ∧ e = .returned (.int .i64 (thrNs.getD i 0)) ∧ Below w.heap.size w w'

set_option maxHeartbeats 1600000 in
set_option maxRecDepth 100000 in
theorem dDrawThresholdClass (a : Option Addr) (b off n cap : Nat) (w : World) (hc : n ≤ cap) (hn : n ≤ 1048576) (hcap : cap ≤ maxLen) (h : Byt w a b off n) :
    Calls Tryd.prog 33 #[.slice a n cap] w (GotThr w) := by
  have HN := Lib.hid (specNewReader a b off n cap w hc hn hcap h)
  clear h
  go_enter Tryd.func33, Tryd.ntmps33
  go_wp2_with fail
  refine HN.out.mono ?_
  rintro e w1 ⟨rfl, hr, hg⟩
  have HR := Lib.hid hr
  have B := Lib.hid (show Below w.heap.size w w1 from (Below.refl _ _).grown hg (Nat.le_refl _) (fun k hk => by cases hk))
  have hz1 := hr.2.1
  clear hr hg HN
  generalize hRw : w.heap.size = R at *
  go_wp2_with fail
  refine (specOneLit (R + 1) R 0 thrNs 8 (Obj.cells #[.int .i64 3, .int .i64 4, .int .i64 5, .int .i64 2, .int .i64 1, .int .i64 0, .int .i64 6, .int .i64 (-1)] 3) rfl (by omega) (by omega) w1 HR.out rfl (by omega) _ rfl).mono ?_
  rintro e w2 ⟨⟨i, hi, rfl⟩, hr, hg⟩
  have hz2 := hr.2.1
  replace B := Lib.hid (B.out.grown hg (by omega) (fun k hk => by cases hk; omega))
  clear hr hg
  generalize hv0 : thrNs.getD i 0 = x0 at *
  go_wp2_with fail
  go_ret
  exact ⟨i, hi, by rw [hv0]; rfl, by rw [hRw]; exact B.out⟩

end Go.Proofs.YtiocaopabkbgpaaDoor
