/- FnEquivalenceDepth's walk: guesses are mistakes and one. Conditions: the code is a slice of bytes. -/
import Derived.Test.YthmipnflbiclbaaDoorDrawsEq
import Derived.Test.YthmipnflbiclbaaDoorGdE
import Derived.Test.YthmipnflbiclbaaDoorGdL
import Derived.Test.YthmipnflbiclbaaDoorLittle
import Derived.Test.YthmipnflbiclbaaDoorZJ
import Derived.Test.YthmipnflbiclbaaDoorZK
namespace Go.Proofs.YthmipnflbiclbaaDoor
open Go.RowKit

theorem eqB_self (xs : List Int) : eqB xs xs = true := eqB_of rfl (fun _ _ => rfl)
theorem lit_in2 {m : Nat} {ns : List Nat} (h : vldB (m : Int) (toI ns) = true) : litB (m : Int) (toI ns) = mst ns := by rw [litB, if_pos h, toNat_toI]


set_option maxHeartbeats 6400000 in
set_option maxRecDepth 100000 in
theorem walkFnEquivalenceDepth (a : Option Addr) (b off n cap : Nat) (w : World) (hc : n ≤ cap) (hcap : cap ≤ maxLen) (h : Byt w a b off n) (hsw : SW w) :
    Calls Tryd.prog 3 #[.slice a n cap] w fun e w' => e = .returned (.bool true) ∧ Below w.heap.size w w' := by
  have HSW := Lib.hid hsw
  clear hsw
  by_cases hn : n ≤ 1048576
  · have HD := Lib.hid (dDrawEquivalenceDepth a b off n cap w hc hn hcap h)
    clear h
    go_enter Tryd.func3, Tryd.ntmps3
    go_wp2_with fail
    refine HD.out.mono ?_
    rintro e w1 ⟨N, zs, s, hbd, a1, c1, rfl, hin, hb⟩
    generalize hL : zs.length = L at *
    have X := Lib.hid (Bx.new N (.slice a1 L c1) w1)
    have I1 := Lib.hid ((hin.mono (Nat.zero_le _)).alloc (Obj.cells #[.int .i64 N, .slice a1 L c1] 25))
    have B := Lib.hid (hb.alloc hb.size (Obj.cells #[.int .i64 N, .slice a1 L c1] 25))
    have HZ2 := Lib.hid (show (w1.alloc (Obj.cells #[.int .i64 N, .slice a1 L c1] 25)).heap.size = w1.heap.size + 1 by simp)
    have hz1 := hb.size
    clear hin hb HD
    go_wp2_with fail
    generalize (w1.alloc (Obj.cells #[.int .i64 N, .slice a1 L c1] 25)) = w2 at *
    have hz2 := HZ2.out
    generalize ho : w1.heap.size = o at *
    obtain ⟨hN0, hN1, hL34⟩ := hbd
    by_cases hk : eqdK N zs = true
    · have hv : vldB N zs = true := by simp only [eqdK, Bool.and_eq_true] at hk; exact hk.1
      obtain ⟨m, ns, rfl, rfl, hcl⟩ := vldB_cls hv
      have hL2 : ns.length = L := by rw [← hL, toI_length]
      have hm := hcl.pts
      have h32 := hcl.length
      have HI := Lib.hid (fun v w h hs => implEquivalenceDepth (m : Int) v (toI ns) s w h hs)
      have HS := Lib.hid (fun v w h => specEquivalenceDepth (m : Int) v (toI ns) s w h)
      have HA := Lib.hid (fun v w h hs => implEquivalenceDepth (m : Int) v (toI ns) false w h hs)
      have HO := Lib.hid (fun v w h hs => implEquivalenceDepth (m : Int) v (toI ns) true w h hs)
      have HLt := Lib.hid (fun v w h hs => implLittlestoneOf (m : Int) v (toI ns) w h hs)
      rw [lit_in2 hv] at HLt
      have e1 := gd_any hm h32 hcl.lt
      have e2 := gd_lo (m := m) ns ns.length ns (Nat.le_refl _) h32 hcl.lt
      have e3 := gd_own (m := m) (G := ns) ns.length ns (Nat.le_refl _) (fun t ht => ht)
      have e4 := gd_bd m (gsL m ns s) ns
      have e5 := mst_top ns
      rw [eqdB_in hk] at HI HS HA HO
      rw [show gd m (gsL m ns false) ns = mst ns + 1 from e1] at HA
      rw [show gd m (gsL m ns true) ns = gd m ns ns from rfl] at HO
      rw [hL2] at e3
      generalize gd m (gsL m ns s) ns = E at *
      generalize gd m ns ns = OW at *
      generalize mst ns = M at *
      have hwr : IntKind.i64.wrap (M + 1) = M + 1 := by rw [IntKind.wrap_i64]; omega
      have k1 : decide (M + 1 ≤ OW) = true := decide_eq_true e2
      have k2 : decide (OW ≤ (L : Int)) = true := decide_eq_true e3
      have k3 : decide (E < 0) = false := decide_eq_false (by omega)
      have k4 : ¬ E < 0 := by omega
      have k5 : (E != E) = false := by simp
      have k6 : (M + 1 == M + 1) = true := by simp
      clear hv hk hcl hL hL2 e1
      refine (HI.out _ _ I1.out.rd (by first | exact HSW.out.next B.out | exact (show SW (World.drew _) from HSW.out.next B.out) | exact HSW.out.next (B.out.trans ((Below.refl _ _).drew)))).mono ?_
      rintro e w3 ⟨rfl, hb3⟩
      have hz3 := hb3.size
      replace X := Lib.hid (X.out.next hb3 X.out.lt)
      replace I1 := Lib.hid (I1.out.below hb3 (Nat.le_refl _))
      replace B := Lib.hid (B.out.trans (hb3.mono B.out.size))
      clear hb3
      have x0 := X.out.out.at0
      have x1 := X.out.out.at1
      go_wp2_with fail
      clear x0 x1
      refine (HS.out _ _ I1.out.rd).mono ?_
      rintro e w4 ⟨rfl, hb4⟩
      have hz4 := hb4.size
      replace X := Lib.hid (X.out.next hb4 X.out.lt)
      replace I1 := Lib.hid (I1.out.below hb4 (Nat.le_refl _))
      replace B := Lib.hid (B.out.trans (hb4.mono B.out.size))
      clear hb4
      have x0 := X.out.out.at0
      have x1 := X.out.out.at1
      go_wp2_with fail
      clear x0 x1
      refine (HA.out _ _ I1.out.rd (by first | exact HSW.out.next B.out | exact (show SW (World.drew _) from HSW.out.next B.out) | exact HSW.out.next (B.out.trans ((Below.refl _ _).drew)))).mono ?_
      rintro e w5 ⟨rfl, hb5⟩
      have hz5 := hb5.size
      replace X := Lib.hid (X.out.next hb5 X.out.lt)
      replace I1 := Lib.hid (I1.out.below hb5 (Nat.le_refl _))
      replace B := Lib.hid (B.out.trans (hb5.mono B.out.size))
      clear hb5
      have x0 := X.out.out.at0
      have x1 := X.out.out.at1
      go_wp2_with fail
      clear x0 x1
      refine (HO.out _ _ I1.out.rd (by first | exact HSW.out.next B.out | exact (show SW (World.drew _) from HSW.out.next B.out) | exact HSW.out.next (B.out.trans ((Below.refl _ _).drew)))).mono ?_
      rintro e w6 ⟨rfl, hb6⟩
      have hz6 := hb6.size
      replace X := Lib.hid (X.out.next hb6 X.out.lt)
      replace I1 := Lib.hid (I1.out.below hb6 (Nat.le_refl _))
      replace B := Lib.hid (B.out.trans (hb6.mono B.out.size))
      clear hb6
      have x0 := X.out.out.at0
      have x1 := X.out.out.at1
      go_wp2_with fail
      clear x0 x1
      refine (HLt.out _ _ I1.out.rd (by first | exact HSW.out.next B.out | exact (show SW (World.drew _) from HSW.out.next B.out) | exact HSW.out.next (B.out.trans ((Below.refl _ _).drew)))).mono ?_
      rintro e w7 ⟨rfl, hb7⟩
      have hz7 := hb7.size
      replace X := Lib.hid (X.out.next hb7 X.out.lt)
      replace I1 := Lib.hid (I1.out.below hb7 (Nat.le_refl _))
      replace B := Lib.hid (B.out.trans (hb7.mono B.out.size))
      clear hb7
      have x0 := X.out.out.at0
      have x1 := X.out.out.at1
      go_wp2_with fail
      clear x0 x1
      go_ret
      exact ⟨rfl, by first | exact B.out | exact B.out.drew⟩
    · rw [Bool.not_eq_true] at hk
      have HI := Lib.hid (fun v w h hs => implEquivalenceDepth N v zs s w h hs)
      have HS := Lib.hid (fun v w h => specEquivalenceDepth N v zs s w h)
      rw [eqdB_bad hk] at HI HS
      clear hk
      refine (HI.out _ _ I1.out.rd (by first | exact HSW.out.next B.out | exact (show SW (World.drew _) from HSW.out.next B.out) | exact HSW.out.next (B.out.trans ((Below.refl _ _).drew)))).mono ?_
      rintro e w3 ⟨rfl, hb3⟩
      have hz3 := hb3.size
      replace X := Lib.hid (X.out.next hb3 X.out.lt)
      replace I1 := Lib.hid (I1.out.below hb3 (Nat.le_refl _))
      replace B := Lib.hid (B.out.trans (hb3.mono B.out.size))
      clear hb3
      have x0 := X.out.out.at0
      have x1 := X.out.out.at1
      go_wp2_with fail
      clear x0 x1
      refine (HS.out _ _ I1.out.rd).mono ?_
      rintro e w4 ⟨rfl, hb4⟩
      have hz4 := hb4.size
      replace X := Lib.hid (X.out.next hb4 X.out.lt)
      replace I1 := Lib.hid (I1.out.below hb4 (Nat.le_refl _))
      replace B := Lib.hid (B.out.trans (hb4.mono B.out.size))
      clear hb4
      have x0 := X.out.out.at0
      have x1 := X.out.out.at1
      go_wp2_with fail
      clear x0 x1
      refine (HS.out _ _ I1.out.rd).mono ?_
      rintro e w5 ⟨rfl, hb5⟩
      have hz5 := hb5.size
      replace X := Lib.hid (X.out.next hb5 X.out.lt)
      replace I1 := Lib.hid (I1.out.below hb5 (Nat.le_refl _))
      replace B := Lib.hid (B.out.trans (hb5.mono B.out.size))
      clear hb5
      have x0 := X.out.out.at0
      have x1 := X.out.out.at1
      go_wp2_with fail
      clear x0 x1
      go_ret
      exact ⟨rfl, by first | exact B.out | exact B.out.drew⟩
  · go_enter Tryd.func3, Tryd.ntmps3
    go_wp2_with fail
    go_ret
    exact ⟨rfl, Below.refl _ _⟩

end Go.Proofs.YthmipnflbiclbaaDoor
