/- What the law of BallClass draws: three numbers. Conditions: the code is a slice of bytes. -/
import Derived.Test.YtpcjecahplglfabZK
namespace Go.Proofs.Ytpcjecahplglfab
open Go.RowKit

/-- one of some numbers is drawn -/
theorem specOneLit (B R p : Nat) (l : List Int) (k : Nat) (o : Obj) (hk : l.length = k) (h0 : 0 < k) (hp : p ≤ 1000000) (w : World) (h : Rdr B R p w) (ho : o = Obj.cells (l.map (Value.int .i64)).toArray 3) (hm : k ≤ 100) (b : Nat) (hb : w.heap.size = b) :
    Calls Try.prog 67 #[.pointer (some ⟨R, 0, none⟩), .slice (some ⟨b, 0, none⟩) k k] (w.alloc o) fun e w' => (∃ i, i < k ∧ e = .returned (.int .i64 (l.getD i 0))) ∧ Rdr B R (p + 1) w' ∧ w.grownBy w' (some R) := by
  subst hk; subst ho; subst hb
  have hRB := h.1
  have hBw := h.2.1
  refine (specOne B R p (some ⟨w.heap.size, 0, none⟩) l.length l hp h0 _ (h.alloc _) (rdLit _ _ _ rfl (by omega)) (fun b' o e => by cases e; omega)).mono ?_
  rintro e w' ⟨h1, h2, h3⟩
  exact ⟨h1, h2, grownBy_trans (World.grownBy_alloc _ _ _) h3⟩
def ballNs : List Int := [3, 4, 5, 2, 1, 0, 6, -1]
def ballSs : List Int := [0, 1, 3, 7, 31, 32, -1]
def ballKs : List Int := [1, 2, 0, 3, 5, -1, 4611686018427387904]
/-- the three numbers, and nothing that was there is changed -/
def GotBall (w : World) (e : Ending) (w' : World) : Prop := ∃ i j k, i < 8 ∧ j < 7 ∧ k < 7 ∧ e = .returned (.tuple #[.int .i64 (ballNs.getD i 0), .int .i64 (ballSs.getD j 0), .int .i64 (ballKs.getD k 0)]) ∧ Below w.heap.size w w'

set_option maxHeartbeats 1600000 in
set_option maxRecDepth 100000 in
theorem dDrawBallClass (a : Option Addr) (b off n cap : Nat) (w : World) (hc : n ≤ cap) (hn : n ≤ 1048576) (hcap : cap ≤ maxLen) (h : Byt w a b off n) :
    Calls Try.prog 33 #[.slice a n cap] w (GotBall w) := by
  have HN := Lib.hid (specNewReader a b off n cap w hc hn hcap h)
  clear h
  go_enter Try.func33, Try.ntmps33
  go_wp2_with fail
  refine HN.out.mono ?_
  rintro e w1 ⟨rfl, hr, hg⟩
  have HR := Lib.hid hr
  have B := Lib.hid (show Below w.heap.size w w1 from (Below.refl _ _).grown hg (Nat.le_refl _) (fun k hk => by cases hk))
  have hz1 := hr.2.1
  clear hr hg HN
  generalize hRw : w.heap.size = R at *
  go_wp2_with fail
  refine (specOneLit (R + 1) R 0 ballNs 8 (Obj.cells #[.int .i64 3, .int .i64 4, .int .i64 5, .int .i64 2, .int .i64 1, .int .i64 0, .int .i64 6, .int .i64 (-1)] 3) rfl (by omega) (by omega) w1 HR.out rfl (by omega) _ rfl).mono ?_
  rintro e w2 ⟨⟨i, hi, rfl⟩, hr, hg⟩
  have hz2 := hr.2.1
  replace HR := Lib.hid hr
  replace B := Lib.hid (B.out.grown hg (by omega) (fun k hk => by cases hk; omega))
  clear hr hg
  generalize hv0 : ballNs.getD i 0 = x0 at *
  go_wp2_with fail
  refine (specOneLit (R + 1) R 1 ballSs 7 (Obj.cells #[.int .i64 0, .int .i64 1, .int .i64 3, .int .i64 7, .int .i64 31, .int .i64 32, .int .i64 (-1)] 3) rfl (by omega) (by omega) w2 HR.out rfl (by omega) _ rfl).mono ?_
  rintro e w3 ⟨⟨j, hj, rfl⟩, hr, hg⟩
  have hz3 := hr.2.1
  replace HR := Lib.hid hr
  replace B := Lib.hid (B.out.grown hg (by omega) (fun k hk => by cases hk; omega))
  clear hr hg
  generalize hv1 : ballSs.getD j 0 = x1 at *
  go_wp2_with fail
  refine (specOneLit (R + 1) R 2 ballKs 7 (Obj.cells #[.int .i64 1, .int .i64 2, .int .i64 0, .int .i64 3, .int .i64 5, .int .i64 (-1), .int .i64 4611686018427387904] 3) rfl (by omega) (by omega) w3 HR.out rfl (by omega) _ rfl).mono ?_
  rintro e w4 ⟨⟨k, hk, rfl⟩, hr, hg⟩
  have hz4 := hr.2.1
  replace HR := Lib.hid hr
  replace B := Lib.hid (B.out.grown hg (by omega) (fun k hk => by cases hk; omega))
  clear hr hg
  generalize hv2 : ballKs.getD k 0 = x2 at *
  go_wp2_with fail
  refine bodyPost_ret (v := .tuple #[.int .i64 x0, .int .i64 x1, .int .i64 x2]) (by simp [results, Try.results33, go_sem]) rfl ?_
  exact ⟨i, j, k, hi, hj, hk, by rw [hv0, hv1, hv2], by rw [hRw]; exact B.out⟩

end Go.Proofs.Ytpcjecahplglfab
