/- FnNearestTo's walk: the nearest set is near. Conditions: the code is a slice of bytes. -/
import Derived.Test.YtpcjecahplglfaaCover
import Derived.Test.YtpcjecahplglfaaDrawsNr
import Derived.Test.YtpcjecahplglfaaNearM
import Derived.Test.YtpcjecahplglfaaNrst
import Derived.Test.YtpcjecahplglfaaNrstS
import Derived.Test.YtpcjecahplglfaaZJ
import Derived.Test.YtpcjecahplglfaaZK
namespace Go.Proofs.Ytpcjecahplglfaa
open Go.RowKit

theorem eqB_self (xs : List Int) : eqB xs xs = true := eqB_of rfl (fun _ _ => rfl)

set_option maxHeartbeats 6400000 in
set_option maxRecDepth 100000 in
theorem walkFnNearestTo (a : Option Addr) (b off n cap : Nat) (w : World) (hc : n ≤ cap) (hcap : cap ≤ maxLen) (h : Byt w a b off n) :
    Calls Try.prog 4 #[.slice a n cap] w fun e w' => e = .returned (.bool true) ∧ Below w.heap.size w w' := by
  by_cases hn : n ≤ 1048576
  · have HD := Lib.hid (dDrawNearestTo a b off n cap w hc hn hcap h)
    clear h
    go_enter Try.func4, Try.ntmps4
    go_wp2_with fail
    refine HD.out.mono ?_
    rintro e w1 ⟨N, zs, s, hbd, a1, c1, rfl, hin, hb⟩
    generalize hL : zs.length = L at *
    have X := Lib.hid (Bx.new N (.slice a1 L c1) w1)
    have I1 := Lib.hid ((hin.mono (Nat.zero_le _)).alloc (Obj.cells #[.int .i64 N, .slice a1 L c1] 28))
    have B := Lib.hid (hb.alloc hb.size (Obj.cells #[.int .i64 N, .slice a1 L c1] 28))
    have HZ2 := Lib.hid (show (w1.alloc (Obj.cells #[.int .i64 N, .slice a1 L c1] 28)).heap.size = w1.heap.size + 1 by simp)
    have hz1 := hb.size
    clear hin hb HD
    go_wp2_with fail
    generalize (w1.alloc (Obj.cells #[.int .i64 N, .slice a1 L c1] 28)) = w2 at *
    have hz2 := HZ2.out
    generalize ho : w1.heap.size = o at *
    obtain ⟨hN0, hN1, hL34⟩ := hbd
    by_cases hk : nrK N zs s = true
    · have hv : vldB N zs = true := by simp only [nrK, Bool.and_eq_true] at hk; exact hk.1.1
      obtain ⟨m, ns, rfl, rfl, hcl⟩ := vldB_cls hv
      have hsb : setB m s = true := by
        simp only [nrK, Bool.and_eq_true, Int.toNat_natCast] at hk
        exact hk.1.2
      have hm := hcl.pts
      obtain ⟨t, rfl, ht, ht32⟩ := setB_nat hm hsb
      have hn : ns ≠ [] := by
        intro e
        subst e
        rw [show toI [] = [] from rfl, nrK_nil] at hk
        cases hk
      have hL2 : ns.length = L := by rw [← hL, toI_length]
      have HI := Lib.hid (fun v w h => implNearestTo (m : Int) v (toI ns) (t : Int) w h)
      have HS := Lib.hid (fun v w h => specNearestTo (m : Int) v (toI ns) (t : Int) w h)
      have HC := Lib.hid (fun v w h => implCoverRadius (m : Int) v (toI ns) w h)
      obtain ⟨_, g2, g3, _⟩ := fst_idx (dis_nat t) hn
      have hx32 := hcl.lt32 _ g3
      have hle := cv_ge (ns := ns) ht
      have hz := fstM_zero ht32 hcl.lt32 hn
      rw [nrS_in hk, nrD_in hk, hk] at HI HS
      rw [cvB_in hv hn] at HC
      obtain ⟨x, hx⟩ : ∃ x, x = fstS (dis t) ns := ⟨_, rfl⟩
      have hp0 : fstM (dis t) ns = ((pc (x ^^^ t) : Nat) : Int) := by rw [hx]; rfl
      rw [← hx] at HI HS hx32
      obtain ⟨p, hp⟩ : ∃ p, p = pc (x ^^^ t) := ⟨_, rfl⟩
      rw [hp0, ← hp] at HI HS hle hz
      obtain ⟨V, hV⟩ : ∃ V, V = cvTo ns (2 ^ m) := ⟨_, rfl⟩
      rw [← hV] at HC hle
      have HX := Lib.hid (i64_xor x t (by omega) (by omega))
      have HSz := Lib.hid (fun w => lawsSize (x ^^^ t) (Nat.xor_lt_two_pow (n := 5) hx32 ht32) w)
      rw [← hp] at HSz
      have HY := Lib.hid (fun (j : Nat) (hj : j < L) => show ∃ y : Nat, y < 32 ∧ (toI ns).getD j 0 = (y : Int) ∧ p ≤ pc (y ^^^ t) by
        refine ⟨ns.getD j 0, hcl.lt32 _ (getD_of_lt (by omega)), by rw [toI_getD], ?_⟩
        have h8 := g2 _ (getD_of_lt (show j < ns.length by omega))
        rw [hp0, ← hp] at h8
        unfold dis at h8
        omega)
      have HHo := Lib.hid (fun v w h => lawsHolds v (toI ns) (t : Int) w h)
      have hhas : hasB (toI ns) (t : Int) = decide (p = 0) := by
        rw [hasB_nat, decide_eq_decide]
        constructor
        · intro h; have := hz.2 h; omega
        · intro h; exact hz.1 (by omega)
      rw [hhas] at HHo
      have hdl : decide ((p : Int) ≤ V) = true := decide_eq_true hle
      obtain ⟨y0, hy0⟩ : ∃ y0, y0 = x ^^^ t := ⟨_, rfl⟩
      rw [← hy0] at HX HSz
      clear hk hv hsb hn hcl g2 g3 hx hp0 hp hV hz hhas hy0
      refine (HI.out _ _ I1.out.rd).mono ?_
      rintro e w3 ⟨rfl, hb3⟩
      have hz3 := hb3.size
      replace X := Lib.hid (X.out.next hb3 (by omega))
      replace I1 := Lib.hid (I1.out.below hb3 (Nat.le_refl _))
      replace B := Lib.hid (B.out.trans (hb3.mono (by omega)))
      clear hb3
      have x0 := X.out.out.at0
      have x1 := X.out.out.at1
      go_wp2_with fail
      clear x0 x1
      refine (HS.out _ _ I1.out.rd).mono ?_
      rintro e w4 ⟨rfl, hb4⟩
      have hz4 := hb4.size
      replace X := Lib.hid (X.out.next hb4 (by omega))
      replace I1 := Lib.hid (I1.out.below hb4 (Nat.le_refl _))
      replace B := Lib.hid (B.out.trans (hb4.mono (by omega)))
      clear hb4
      have x0 := X.out.out.at0
      have x1 := X.out.out.at1
      go_wp2_with fail
      clear x0 x1
      go_loop [11] (fun i => ∃ j : Nat, j ≤ L ∧ i = .int .i64 j) (fun i => L - (intOf i).toNat)
      case atStart => exact ⟨0, Nat.zero_le _, rfl⟩
      case round =>
        obtain ⟨j, hj, rfl⟩ := hrel
        have x0 := X.out.out.at0
        have x1 := X.out.out.at1
        by_cases hlt : j < L
        · obtain ⟨y, hy32, hye, hpy⟩ := HY.out j hlt
          obtain ⟨ar, br, offr, capr, er, g1, -, g5⟩ := I1.out.rd
          simp only [Value.slice.injEq] at er
          obtain ⟨rfl, -, rfl⟩ := er
          rw [hL] at g1 g5
          obtain ⟨rfl, -⟩ := g1 (by omega)
          have hc0 := g5 j hlt
          rw [hye] at hc0
          have HXy := Lib.hid (i64_xor y t (by omega) (by omega))
          have HSy := Lib.hid (fun w => lawsSize (y ^^^ t) (Nat.xor_lt_two_pow (n := 5) hy32 ht32) w)
          clear g1 g5 hye
          generalize y ^^^ t = z at *
          generalize pc z = pz at *
          have hd9 : decide (pz < p) = false := decide_eq_false (by omega)
          have hd8 : decide ((pz : Int) < (p : Int)) = false := decide_eq_false (by omega)
          go_wp2_with fail
          rw [HXy.out]
          refine (HSy.out _).mono ?_
          rintro e w9 ⟨rfl, rfl⟩
          go_wp2_with fail
          go_round
          case rel => exact ⟨j + 1, by omega, by go_num⟩
          case measure => simp [intOf]; omega
        · obtain rfl : j = L := by omega
          by_cases h0 : p = 0
          · have hb0 : decide (p = 0) = true := decide_eq_true h0
            have hb1 : ((p : Int) == 0) = true := by simp; omega
            rw [hb0] at HHo
            clear h0 hb0
            go_wp2_with fail
            rw [HX.out]
            refine (HSz.out _).mono ?_
            rintro e w9 ⟨rfl, rfl⟩
            go_wp2_with fail
            refine (HHo.out _ _ I1.out.rd).mono ?_
            rintro e w9 ⟨rfl, rfl⟩
            go_wp2_with fail
            refine (HC.out _ _ I1.out.rd).mono ?_
            rintro e w5 ⟨rfl, hb5⟩
            have hz5 := hb5.size
            replace X := Lib.hid (X.out.next hb5 (by omega))
            replace I1 := Lib.hid (I1.out.below hb5 (Nat.le_refl _))
            replace B := Lib.hid (B.out.trans (hb5.mono (by omega)))
            clear hb5
            clear x0 x1
            go_wp2_with fail
            go_ret
            exact ⟨rfl, B.out⟩
          · have hb0 : decide (p = 0) = false := decide_eq_false h0
            have hb1 : ((p : Int) == 0) = false := by simp; omega
            rw [hb0] at HHo
            clear h0 hb0
            go_wp2_with fail
            rw [HX.out]
            refine (HSz.out _).mono ?_
            rintro e w9 ⟨rfl, rfl⟩
            go_wp2_with fail
            refine (HHo.out _ _ I1.out.rd).mono ?_
            rintro e w9 ⟨rfl, rfl⟩
            go_wp2_with fail
            refine (HC.out _ _ I1.out.rd).mono ?_
            rintro e w5 ⟨rfl, hb5⟩
            have hz5 := hb5.size
            replace X := Lib.hid (X.out.next hb5 (by omega))
            replace I1 := Lib.hid (I1.out.below hb5 (Nat.le_refl _))
            replace B := Lib.hid (B.out.trans (hb5.mono (by omega)))
            clear hb5
            clear x0 x1
            go_wp2_with fail
            go_ret
            exact ⟨rfl, B.out⟩
    · rw [Bool.not_eq_true] at hk
      have HI := Lib.hid (fun v w h => implNearestTo N v zs s w h)
      have HS := Lib.hid (fun v w h => specNearestTo N v zs s w h)
      rw [nrS_no hk, nrD_no hk, hk] at HI HS
      clear hk
      refine (HI.out _ _ I1.out.rd).mono ?_
      rintro e w3 ⟨rfl, hb3⟩
      have hz3 := hb3.size
      replace X := Lib.hid (X.out.next hb3 (by omega))
      replace I1 := Lib.hid (I1.out.below hb3 (Nat.le_refl _))
      replace B := Lib.hid (B.out.trans (hb3.mono (by omega)))
      clear hb3
      have x0 := X.out.out.at0
      have x1 := X.out.out.at1
      go_wp2_with fail
      clear x0 x1
      refine (HS.out _ _ I1.out.rd).mono ?_
      rintro e w4 ⟨rfl, hb4⟩
      have hz4 := hb4.size
      replace X := Lib.hid (X.out.next hb4 (by omega))
      replace I1 := Lib.hid (I1.out.below hb4 (Nat.le_refl _))
      replace B := Lib.hid (B.out.trans (hb4.mono (by omega)))
      clear hb4
      have x0 := X.out.out.at0
      have x1 := X.out.out.at1
      go_wp2_with fail
      clear x0 x1
      go_ret
      exact ⟨rfl, B.out⟩
  · go_enter Try.func4, Try.ntmps4
    go_wp2_with fail
    go_ret
    exact ⟨rfl, Below.refl _ _⟩

end Go.Proofs.Ytpcjecahplglfaa
