/- FnStarNumber's walk: stars are greater than what is shattered. Conditions: the code is a slice of bytes. -/
import Derived.Test.YtnoppclajhfnjaaDoorDrawsSt
import Derived.Test.YtnoppclajhfnjaaDoorStarS
import Derived.Test.YtnoppclajhfnjaaDoorZC
import Derived.Test.YtnoppclajhfnjaaDoorZH
import Derived.Test.YtnoppclajhfnjaaDoorZJ
import Derived.Test.YtnoppclajhfnjaaDoorZK
namespace Go.Proofs.YtnoppclajhfnjaaDoor
open Go.RowKit

theorem eqB_self (xs : List Int) : eqB xs xs = true := eqB_of rfl (fun _ _ => rfl)
theorem star_cut {m x : Nat} {ns : List Nat} (h : Cls m ns) (hx : x < m) : starM (m - 1) (tidyL (ns.map (rmv x))) ≤ starM m ns :=
  star_rmv h hx (fun u => by
    rw [tidyL, mem_flt, decide_eq_true_eq, List.mem_map]
    constructor
    · rintro ⟨_, v, hv, rfl⟩; exact ⟨v, hv, rfl⟩
    · rintro ⟨v, hv, rfl⟩
      exact ⟨(rmv_and (x := x) (by have := h.pts; omega) (h.lt32 v hv)).2.2, v, hv, rfl⟩)
theorem rm_cls {m x : Nat} {ns : List Nat} (h : Cls m ns) (hx : x < m) : Cls (m - 1) (tidyL (ns.map (rmv x))) :=
  tidy_cls (by have := h.pts; omega) (fun t ht => by
    obtain ⟨v, hv, rfl⟩ := List.mem_map.1 ht
    exact rmv_lt hx h.pts (h.lt v hv))


set_option maxHeartbeats 6400000 in
set_option maxRecDepth 100000 in
theorem walkFnStarNumber (a : Option Addr) (b off n cap : Nat) (w : World) (hc : n ≤ cap) (hcap : cap ≤ maxLen) (h : Byt w a b off n) (hsw : SW w) :
    Calls Tryd.prog 4 #[.slice a n cap] w fun e w' => e = .returned (.bool true) ∧ Below w.heap.size w w' := by
  have HSW := Lib.hid hsw
  clear hsw
  by_cases hn : n ≤ 1048576
  · have HD := Lib.hid (dDrawStarNumber a b off n cap w hc hn hcap h)
    clear h
    go_enter Tryd.func4, Tryd.ntmps4
    go_wp2_with fail
    refine HD.out.mono ?_
    rintro e w1 ⟨N, zs, hbd, a1, c1, rfl, hin, hb⟩
    generalize hL : zs.length = L at *
    have X := Lib.hid (Bx.new N (.slice a1 L c1) w1)
    have I1 := Lib.hid ((hin.mono (Nat.zero_le _)).alloc (Obj.cells #[.int .i64 N, .slice a1 L c1] 27))
    have B := Lib.hid (hb.alloc hb.size (Obj.cells #[.int .i64 N, .slice a1 L c1] 27))
    have HZ2 := Lib.hid (show (w1.alloc (Obj.cells #[.int .i64 N, .slice a1 L c1] 27)).heap.size = w1.heap.size + 1 by simp)
    have hz1 := hb.size
    clear hin hb HD
    go_wp2_with fail
    generalize (w1.alloc (Obj.cells #[.int .i64 N, .slice a1 L c1] 27)) = w2 at *
    have hz2 := HZ2.out
    generalize ho : w1.heap.size = o at *
    obtain ⟨hN0, hN1, hL34⟩ := hbd
    by_cases hv : vldB N zs = true
    · obtain ⟨m, ns, rfl, rfl, hcl⟩ := vldB_cls hv
      have hL2 : ns.length = L := by rw [← hL, toI_length]
      have hm := hcl.pts
      have HI := Lib.hid (fun v w h hs => implStarNumber (m : Int) v (toI ns) w h hs)
      have HS := Lib.hid (fun v w h => specStarNumber (m : Int) v (toI ns) w h)
      have HV := Lib.hid (fun v w h => implValid (m : Int) v (toI ns) w h)
      have HD := Lib.hid (fun v w h => implVCDimension (m : Int) v (toI ns) w h)
      have HR := Lib.hid (fun x (hx : x < m) v w h => by
        have h9 := implRemovePoint (m : Int) v (toI ns) (x : Int) w h
        rw [show rmN (m : Int) (toI ns) (x : Int) = ((m - 1 : Nat) : Int) by rw [rmN, if_pos (by simp [ptB, hv]; omega)]; omega, show rmL (m : Int) (toI ns) (x : Int) = toI (tidyL (ns.map (rmv x))) by rw [rmL, if_pos (by simp [ptB, hv]; omega), toNat_toI, Int.toNat_natCast]] at h9
        exact h9)
      have HT := Lib.hid (fun x (hx : x < m) v w h hs => by
        have h9 := implStarNumber ((m - 1 : Nat) : Int) v (toI (tidyL (ns.map (rmv x)))) w h hs
        rw [snB_in (cls_vldB (rm_cls hcl hx))] at h9
        exact h9)
      have HLe := Lib.hid (fun x (hx : x < m) => star_cut hcl hx)
      have h1 := vc_star hcl
      have h2 := star_few hcl
      have h3 := starM_pts hm ns
      rw [snB_in hv] at HI HS
      rw [vcB_in hv] at HD
      rw [hv] at HV
      rw [hL2] at h2
      generalize starM m ns = E at *
      generalize vcL m ns = Q at *
      have k1 : decide (Q ≤ E) = true := decide_eq_true h1
      have k2 : decide (E ≤ (L : Int) - 1) = true := decide_eq_true h2
      have k3 : decide (E ≤ (m : Int)) = true := decide_eq_true h3
      clear hv hcl hL hL2
      refine (HI.out _ _ I1.out.rd (by first | exact HSW.out.next B.out | exact (show SW (World.drew _) from HSW.out.next B.out) | exact HSW.out.next (B.out.trans ((Below.refl _ _).drew)))).mono ?_
      rintro e w3 ⟨rfl, hb3⟩
      have hz3 := hb3.size
      replace X := Lib.hid (X.out.next hb3 (by omega))
      replace I1 := Lib.hid (I1.out.below hb3 (Nat.le_refl _))
      replace B := Lib.hid (B.out.trans (hb3.mono (by omega)))
      clear hb3
      have x0 := X.out.out.at0
      have x1 := X.out.out.at1
      go_wp2_with fail
      clear x0 x1
      refine (HS.out _ _ I1.out.rd).mono ?_
      rintro e w4 ⟨rfl, hb4⟩
      have hz4 := hb4.size
      replace X := Lib.hid (X.out.next hb4 (by omega))
      replace I1 := Lib.hid (I1.out.below hb4 (Nat.le_refl _))
      replace B := Lib.hid (B.out.trans (hb4.mono (by omega)))
      clear hb4
      have x0 := X.out.out.at0
      have x1 := X.out.out.at1
      go_wp2_with fail
      clear x0 x1
      refine (HV.out _ _ I1.out.rd).mono ?_
      rintro e w5 ⟨rfl, hb5⟩
      have hz5 := hb5.size
      replace X := Lib.hid (X.out.next hb5 (by omega))
      replace I1 := Lib.hid (I1.out.below hb5 (Nat.le_refl _))
      replace B := Lib.hid (B.out.trans (hb5.mono (by omega)))
      clear hb5
      have x0 := X.out.out.at0
      have x1 := X.out.out.at1
      go_wp2_with fail
      clear x0 x1
      go_loopw [6] (fun i wr => ∃ j : Nat, j ≤ m ∧ i = .int .i64 j ∧ Below w5.heap.size w5 wr) (fun i _ => m - (intOf i).toNat)
      case atStart => exact ⟨0, Nat.zero_le _, rfl, Below.refl _ _⟩
      case round =>
        obtain ⟨j, hj, rfl, hbe⟩ := hrel
        have HBE := Lib.hid hbe
        have hzr := hbe.size
        replace X := Lib.hid (X.out.next hbe (by omega))
        replace I1 := Lib.hid (I1.out.below hbe (Nat.le_refl _))
        replace B := Lib.hid (B.out.trans (hbe.mono (by omega)))
        clear hbe
        obtain ⟨w6, hwr⟩ : ∃ w6, w6 = wr := ⟨_, rfl⟩
        subst hwr
        by_cases hlt : j < m
        · have hjI : (j : Int) < (m : Int) := by omega
          have HRj := Lib.hid (HR.out j hlt)
          have HTj := Lib.hid (HT.out j hlt)
          have hle := HLe.out j hlt
          have HGl := Lib.hid (toI_length (tidyL (ns.map (rmv j))))
          generalize starM (m - 1) (tidyL (ns.map (rmv j))) = S at *
          generalize tidyL (ns.map (rmv j)) = G at *
          have k4 : decide (E < S) = false := decide_eq_false (by omega)
          generalize m - 1 = m1 at *
          have x0 := X.out.out.at0
          have x1 := X.out.out.at1
          go_wp2_with fail
          clear x0 x1
          refine (HRj.out _ _ I1.out.rd).mono ?_
          rintro e w7 ⟨a7, c7, rfl, hin7, hb7⟩
          rw [HGl.out] at hin7 ⊢
          have hz7 := hb7.size
          replace X := Lib.hid (X.out.next hb7 (by omega))
          replace I1 := Lib.hid (I1.out.below hb7 (Nat.le_refl _))
          replace B := Lib.hid (B.out.trans (hb7.mono (by omega)))
          replace HBE := Lib.hid (HBE.out.trans (hb7.mono (by omega)))
          have IG := Lib.hid (hin7.mono (Nat.zero_le _))
          clear hin7 hb7
          have x0 := X.out.out.at0
          have x1 := X.out.out.at1
          go_wp2_with fail
          clear x0 x1
          refine (HTj.out _ _ IG.out.rd (by first | exact HSW.out.next B.out | exact (show SW (World.drew _) from HSW.out.next B.out) | exact HSW.out.next (B.out.trans ((Below.refl _ _).drew)))).mono ?_
          rintro e w8 ⟨rfl, hb8⟩
          have hz8 := hb8.size
          replace X := Lib.hid (X.out.next hb8 (by omega))
          replace I1 := Lib.hid (I1.out.below hb8 (Nat.le_refl _))
          replace IG := Lib.hid (IG.out.below hb8 (Nat.le_refl _))
          replace B := Lib.hid (B.out.trans (hb8.mono (by omega)))
          replace HBE := Lib.hid (HBE.out.trans (hb8.mono (by omega)))
          clear hb8
          have x0 := X.out.out.at0
          have x1 := X.out.out.at1
          go_wp2_with fail
          clear x0 x1
          go_roundw
          case rel => exact ⟨j + 1, by omega, by go_num, HBE.out⟩
          case measure => simp [intOf]; omega
        · obtain rfl : m = j := by omega
          have x0 := X.out.out.at0
          have x1 := X.out.out.at1
          go_wp2_with fail
          clear x0 x1
          refine (HD.out _ _ I1.out.rd).mono ?_
          rintro e w7 ⟨rfl, hb7⟩
          have hz7 := hb7.size
          replace X := Lib.hid (X.out.next hb7 (by omega))
          replace I1 := Lib.hid (I1.out.below hb7 (Nat.le_refl _))
          replace B := Lib.hid (B.out.trans (hb7.mono (by omega)))
          replace HBE := Lib.hid (HBE.out.trans (hb7.mono (by omega)))
          clear hb7
          have x0 := X.out.out.at0
          have x1 := X.out.out.at1
          go_wp2_with fail
          clear x0 x1
          go_ret
          exact ⟨rfl, by first | exact B.out | exact B.out.drew⟩
    · rw [Bool.not_eq_true] at hv
      have HI := Lib.hid (fun v w h hs => implStarNumber N v zs w h hs)
      have HS := Lib.hid (fun v w h => specStarNumber N v zs w h)
      have HV := Lib.hid (fun v w h => implValid N v zs w h)
      rw [hv] at HV
      generalize snB N zs = E at *
      clear hv
      refine (HI.out _ _ I1.out.rd (by first | exact HSW.out.next B.out | exact (show SW (World.drew _) from HSW.out.next B.out) | exact HSW.out.next (B.out.trans ((Below.refl _ _).drew)))).mono ?_
      rintro e w3 ⟨rfl, hb3⟩
      have hz3 := hb3.size
      replace X := Lib.hid (X.out.next hb3 (by omega))
      replace I1 := Lib.hid (I1.out.below hb3 (Nat.le_refl _))
      replace B := Lib.hid (B.out.trans (hb3.mono (by omega)))
      clear hb3
      have x0 := X.out.out.at0
      have x1 := X.out.out.at1
      go_wp2_with fail
      clear x0 x1
      refine (HS.out _ _ I1.out.rd).mono ?_
      rintro e w4 ⟨rfl, hb4⟩
      have hz4 := hb4.size
      replace X := Lib.hid (X.out.next hb4 (by omega))
      replace I1 := Lib.hid (I1.out.below hb4 (Nat.le_refl _))
      replace B := Lib.hid (B.out.trans (hb4.mono (by omega)))
      clear hb4
      have x0 := X.out.out.at0
      have x1 := X.out.out.at1
      go_wp2_with fail
      clear x0 x1
      refine (HV.out _ _ I1.out.rd).mono ?_
      rintro e w5 ⟨rfl, hb5⟩
      have hz5 := hb5.size
      replace X := Lib.hid (X.out.next hb5 (by omega))
      replace I1 := Lib.hid (I1.out.below hb5 (Nat.le_refl _))
      replace B := Lib.hid (B.out.trans (hb5.mono (by omega)))
      clear hb5
      have x0 := X.out.out.at0
      have x1 := X.out.out.at1
      go_wp2_with fail
      clear x0 x1
      refine (HS.out _ _ I1.out.rd).mono ?_
      rintro e w6 ⟨rfl, hb6⟩
      have hz6 := hb6.size
      replace X := Lib.hid (X.out.next hb6 (by omega))
      replace I1 := Lib.hid (I1.out.below hb6 (Nat.le_refl _))
      replace B := Lib.hid (B.out.trans (hb6.mono (by omega)))
      clear hb6
      have x0 := X.out.out.at0
      have x1 := X.out.out.at1
      go_wp2_with fail
      clear x0 x1
      go_ret
      exact ⟨rfl, by first | exact B.out | exact B.out.drew⟩
  · go_enter Tryd.func4, Tryd.ntmps4
    go_wp2_with fail
    go_ret
    exact ⟨rfl, Below.refl _ _⟩

end Go.Proofs.YtnoppclajhfnjaaDoor
