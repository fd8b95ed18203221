/- FnFirstQuestion's walk: a first question halves what is left to ask. Conditions: the code is a slice of bytes. -/
import Derived.Test.YthjbkjkfibiceaaDoorDrawsFQ
import Derived.Test.YthjbkjkfibiceaaDoorFqM
import Derived.Test.YthjbkjkfibiceaaDoorZJ
import Derived.Test.YthjbkjkfibiceaaDoorZK
namespace Go.Proofs.YthjbkjkfibiceaaDoor
open Go.RowKit

theorem eqB_self (xs : List Int) : eqB xs xs = true := eqB_of rfl (fun _ _ => rfl)

set_option maxHeartbeats 6400000 in
set_option maxRecDepth 100000 in
theorem walkFnFirstQuestion (a : Option Addr) (b off n cap : Nat) (w : World) (hc : n ≤ cap) (hcap : cap ≤ maxLen) (h : Byt w a b off n) (hsw : SW w) :
    Calls Tryd.prog 7 #[.slice a n cap] w fun e w' => e = .returned (.bool true) ∧ Below w.heap.size w w' := by
  have HSW := Lib.hid hsw
  clear hsw
  by_cases hn : n ≤ 1048576
  · have HD := Lib.hid (dDrawFirstQuestion a b off n cap w hc hn hcap h)
    clear h
    go_enter Tryd.func7, Tryd.ntmps7
    go_wp2_with fail
    refine HD.out.mono ?_
    rintro e w1 ⟨N, zs, hbd, a1, c1, rfl, hin, hb⟩
    generalize hL : zs.length = L at *
    have X := Lib.hid (Bx.new N (.slice a1 L c1) w1)
    have I1 := Lib.hid ((hin.mono (Nat.zero_le _)).alloc (Obj.cells #[.int .i64 N, .slice a1 L c1] 25))
    have B := Lib.hid (hb.alloc hb.size (Obj.cells #[.int .i64 N, .slice a1 L c1] 25))
    have HZ2 := Lib.hid (show (w1.alloc (Obj.cells #[.int .i64 N, .slice a1 L c1] 25)).heap.size = w1.heap.size + 1 by simp)
    have hz1 := hb.size
    clear hin hb HD
    go_wp2_with fail
    generalize (w1.alloc (Obj.cells #[.int .i64 N, .slice a1 L c1] 25)) = w2 at *
    have hz2 := HZ2.out
    generalize ho : w1.heap.size = o at *
    obtain ⟨hN0, hN1, hL34⟩ := hbd
    have HI := Lib.hid (fun v w h hs => implFirstQuestion N v zs w h hs)
    have HS := Lib.hid (fun v w h => specFirstQuestion N v zs w h)
    have HV := Lib.hid (fun v w h => implValid N v zs w h)
    by_cases hv : vldB N zs = true
    · obtain ⟨m, ns, rfl, rfl, hcl⟩ := vldB_cls hv
      have hL2 : ns.length = L := by rw [← hL, toI_length]
      have hm := hcl.pts
      have eN : fqN (m : Int) (toI ns) = fstN (fqP ns) := by rw [fqN, if_pos hv, toNat_toI]
      have eB : fqB (m : Int) (toI ns) = fstB (fqP ns) := by rw [fqB, if_pos hv, toNat_toI]
      rw [hv] at HV
      by_cases hb : fstB (fqP ns) = true
      · obtain ⟨x, hx, hxm, hq⟩ := fq_some hcl hb
        rw [hx] at eN
        rw [hb] at eB
        rw [eN, eB] at HI HS
        obtain ⟨eY, fY⟩ := con_yes hv hxm
        obtain ⟨eO, fO⟩ := con_no hv hxm
        have HCY := Lib.hid (fun v u w h hu hs => implConsistentOf (m : Int) v (toI ns) u [((x : Int), true)] w h hu hs)
        have HCO := Lib.hid (fun v u w h hu hs => implConsistentOf (m : Int) v (toI ns) u [((x : Int), false)] w h hu hs)
        rw [eY, fY] at HCY
        rw [eO, fO] at HCO
        have HMY := Lib.hid (fun v w h hs => implMembershipDepth (m : Int) v (toI (wth x ns)) w h hs)
        have HMO := Lib.hid (fun v w h hs => implMembershipDepth (m : Int) v (toI (wto x ns)) w h hs)
        have HM := Lib.hid (fun v w h hs => implMembershipDepth (m : Int) v (toI ns) w h hs)
        rw [mem_cls (show Cls m (wth x ns) from cls_filter hcl _)] at HMY
        rw [mem_cls (show Cls m (wto x ns) from cls_filter hcl _)] at HMO
        rw [mem_cls hcl] at HM
        have b0 := qst_nn (wth x ns)
        have b1 := qst_top (wth x ns)
        have b2 := qst_nn (wto x ns)
        have b3 := qst_top (wto x ns)
        have HYl := Lib.hid (toI_length (wth x ns))
        have HOl := Lib.hid (toI_length (wto x ns))
        clear eN eB hx hb eY fY eO fO hcl hv
        generalize wth x ns = Y at *
        generalize wto x ns = O at *
        generalize qst Y = qy at *
        generalize qst O = qo at *
        generalize qst ns = qd at *
        refine (HI.out _ _ I1.out.rd (by first | exact HSW.out.next B.out | exact (show SW (World.drew _) from HSW.out.next B.out) | exact HSW.out.next (B.out.trans ((Below.refl _ _).drew)))).mono ?_
        rintro e w3 ⟨rfl, hb3⟩
        have hz3 := hb3.size
        replace X := Lib.hid (X.out.next hb3 (by omega))
        replace I1 := Lib.hid (I1.out.below hb3 (Nat.le_refl _))
        replace B := Lib.hid (B.out.trans (hb3.mono (by omega)))
        clear hb3
        have x0 := X.out.out.at0
        have x1 := X.out.out.at1
        go_wp2_with fail
        clear x0 x1
        refine (HS.out _ _ I1.out.rd).mono ?_
        rintro e w4 ⟨rfl, hb4⟩
        have hz4 := hb4.size
        replace X := Lib.hid (X.out.next hb4 (by omega))
        replace I1 := Lib.hid (I1.out.below hb4 (Nat.le_refl _))
        replace B := Lib.hid (B.out.trans (hb4.mono (by omega)))
        clear hb4
        have x0 := X.out.out.at0
        have x1 := X.out.out.at1
        go_wp2_with fail
        clear x0 x1
        refine (HV.out _ _ I1.out.rd).mono ?_
        rintro e w5 ⟨rfl, hb5⟩
        have hz5 := hb5.size
        replace X := Lib.hid (X.out.next hb5 (by omega))
        replace I1 := Lib.hid (I1.out.below hb5 (Nat.le_refl _))
        replace B := Lib.hid (B.out.trans (hb5.mono (by omega)))
        clear hb5
        clear HI HS HV
        have x0 := X.out.out.at0
        have x1 := X.out.out.at1
        have HE := Lib.hid (oneEx w5 (x : Int) true)
        replace X := Lib.hid (X.out.alloc (Obj.cells #[.int .i64 (x : Int), .bool true] 47))
        replace I1 := Lib.hid (I1.out.alloc (Obj.cells #[.int .i64 (x : Int), .bool true] 47))
        replace B := Lib.hid (B.out.alloc B.out.size (Obj.cells #[.int .i64 (x : Int), .bool true] 47))
        have HZ := Lib.hid (show (w5.alloc (Obj.cells #[.int .i64 (x : Int), .bool true] 47)).heap.size = w5.heap.size + 1 by simp)
        go_wp2_with fail
        clear x0 x1
        generalize (w5.alloc (Obj.cells #[.int .i64 (x : Int), .bool true] 47)) = w6 at *
        have hz6 := HZ.out
        clear HZ
        generalize hg1 : w5.heap.size = g1 at *
        refine (HCY.out _ _ _ I1.out.rd HE.out (by first | exact HSW.out.next B.out | exact (show SW (World.drew _) from HSW.out.next B.out) | exact HSW.out.next (B.out.trans ((Below.refl _ _).drew)))).mono ?_
        rintro e w7 ⟨a7, c7, rfl, hin7, hb7⟩
        rw [HYl.out] at hin7 ⊢
        have hz7 := hb7.size
        replace X := Lib.hid (X.out.next hb7 (by omega))
        replace I1 := Lib.hid (I1.out.below hb7 (Nat.le_refl _))
        replace B := Lib.hid (B.out.trans (hb7.mono (by omega)))
        have IY := Lib.hid (hin7.mono (Nat.zero_le _))
        clear hin7 hb7
        clear HE
        have x0 := X.out.out.at0
        have x1 := X.out.out.at1
        go_wp2_with fail
        clear x0 x1
        refine (HMY.out _ _ IY.out.rd (by first | exact HSW.out.next B.out | exact (show SW (World.drew _) from HSW.out.next B.out) | exact HSW.out.next (B.out.trans ((Below.refl _ _).drew)))).mono ?_
        rintro e w8 ⟨rfl, hb8⟩
        have hz8 := hb8.size
        replace X := Lib.hid (X.out.next hb8 (by omega))
        replace I1 := Lib.hid (I1.out.below hb8 (Nat.le_refl _))
        replace IY := Lib.hid (IY.out.below hb8 (Nat.le_refl _))
        replace B := Lib.hid (B.out.trans (hb8.mono (by omega)))
        clear hb8
        clear IY HCY HMY HYl
        have x0 := X.out.out.at0
        have x1 := X.out.out.at1
        have HE := Lib.hid (oneEx w8 (x : Int) false)
        replace X := Lib.hid (X.out.alloc (Obj.cells #[.int .i64 (x : Int), .bool false] 47))
        replace I1 := Lib.hid (I1.out.alloc (Obj.cells #[.int .i64 (x : Int), .bool false] 47))
        replace B := Lib.hid (B.out.alloc B.out.size (Obj.cells #[.int .i64 (x : Int), .bool false] 47))
        have HZ := Lib.hid (show (w8.alloc (Obj.cells #[.int .i64 (x : Int), .bool false] 47)).heap.size = w8.heap.size + 1 by simp)
        go_wp2_with fail
        clear x0 x1
        generalize (w8.alloc (Obj.cells #[.int .i64 (x : Int), .bool false] 47)) = w9 at *
        have hz9 := HZ.out
        clear HZ
        generalize hg2 : w8.heap.size = g2 at *
        refine (HCO.out _ _ _ I1.out.rd HE.out (by first | exact HSW.out.next B.out | exact (show SW (World.drew _) from HSW.out.next B.out) | exact HSW.out.next (B.out.trans ((Below.refl _ _).drew)))).mono ?_
        rintro e w10 ⟨a10, c10, rfl, hin10, hb10⟩
        rw [HOl.out] at hin10 ⊢
        have hz10 := hb10.size
        replace X := Lib.hid (X.out.next hb10 (by omega))
        replace I1 := Lib.hid (I1.out.below hb10 (Nat.le_refl _))
        replace B := Lib.hid (B.out.trans (hb10.mono (by omega)))
        have IO := Lib.hid (hin10.mono (Nat.zero_le _))
        clear hin10 hb10
        clear HE
        have x0 := X.out.out.at0
        have x1 := X.out.out.at1
        go_wp2_with fail
        clear x0 x1
        refine (HMO.out _ _ IO.out.rd (by first | exact HSW.out.next B.out | exact (show SW (World.drew _) from HSW.out.next B.out) | exact HSW.out.next (B.out.trans ((Below.refl _ _).drew)))).mono ?_
        rintro e w11 ⟨rfl, hb11⟩
        have hz11 := hb11.size
        replace X := Lib.hid (X.out.next hb11 (by omega))
        replace I1 := Lib.hid (I1.out.below hb11 (Nat.le_refl _))
        replace IO := Lib.hid (IO.out.below hb11 (Nat.le_refl _))
        replace B := Lib.hid (B.out.trans (hb11.mono (by omega)))
        clear hb11
        clear IO HCO HMO HOl
        by_cases hlt : qy < qo
        · obtain rfl : 1 + qo = qd := by omega
          have hwr : IntKind.i64.wrap (1 + qo) = 1 + qo := by rw [IntKind.wrap_i64]; omega
          have x0 := X.out.out.at0
          have x1 := X.out.out.at1
          go_wp2_with fail
          clear x0 x1
          refine (HM.out _ _ I1.out.rd (by first | exact HSW.out.next B.out | exact (show SW (World.drew _) from HSW.out.next B.out) | exact HSW.out.next (B.out.trans ((Below.refl _ _).drew)))).mono ?_
          rintro e w12 ⟨rfl, hb12⟩
          have hz12 := hb12.size
          replace X := Lib.hid (X.out.next hb12 (by omega))
          replace I1 := Lib.hid (I1.out.below hb12 (Nat.le_refl _))
          replace B := Lib.hid (B.out.trans (hb12.mono (by omega)))
          clear hb12
          have x0 := X.out.out.at0
          have x1 := X.out.out.at1
          go_wp2_with fail
          clear x0 x1
          go_ret
          exact ⟨rfl, B.out⟩
        · obtain rfl : 1 + qy = qd := by omega
          have hwr : IntKind.i64.wrap (1 + qy) = 1 + qy := by rw [IntKind.wrap_i64]; omega
          have x0 := X.out.out.at0
          have x1 := X.out.out.at1
          go_wp2_with fail
          clear x0 x1
          refine (HM.out _ _ I1.out.rd (by first | exact HSW.out.next B.out | exact (show SW (World.drew _) from HSW.out.next B.out) | exact HSW.out.next (B.out.trans ((Below.refl _ _).drew)))).mono ?_
          rintro e w12 ⟨rfl, hb12⟩
          have hz12 := hb12.size
          replace X := Lib.hid (X.out.next hb12 (by omega))
          replace I1 := Lib.hid (I1.out.below hb12 (Nat.le_refl _))
          replace B := Lib.hid (B.out.trans (hb12.mono (by omega)))
          clear hb12
          have x0 := X.out.out.at0
          have x1 := X.out.out.at1
          go_wp2_with fail
          clear x0 x1
          go_ret
          exact ⟨rfl, B.out⟩
      · rw [Bool.not_eq_true] at hb
        have hlen := fq_none hcl hb
        have h0 : fstN (fqP ns) = 0 := by
          have h1 := hb
          rw [fstB, Option.isSome_eq_false_iff, Option.isNone_iff_eq_none] at h1
          rw [fstN, h1]; rfl
        rw [h0] at eN
        rw [hb] at eB
        rw [eN, eB] at HI HS
        have hl2 : L < 2 := by omega
        have hl3 : (L : Int) < 2 := by omega
        clear eN eB h0 hb hcl hv
        refine (HI.out _ _ I1.out.rd (by first | exact HSW.out.next B.out | exact (show SW (World.drew _) from HSW.out.next B.out) | exact HSW.out.next (B.out.trans ((Below.refl _ _).drew)))).mono ?_
        rintro e w3 ⟨rfl, hb3⟩
        have hz3 := hb3.size
        replace X := Lib.hid (X.out.next hb3 (by omega))
        replace I1 := Lib.hid (I1.out.below hb3 (Nat.le_refl _))
        replace B := Lib.hid (B.out.trans (hb3.mono (by omega)))
        clear hb3
        have x0 := X.out.out.at0
        have x1 := X.out.out.at1
        go_wp2_with fail
        clear x0 x1
        refine (HS.out _ _ I1.out.rd).mono ?_
        rintro e w4 ⟨rfl, hb4⟩
        have hz4 := hb4.size
        replace X := Lib.hid (X.out.next hb4 (by omega))
        replace I1 := Lib.hid (I1.out.below hb4 (Nat.le_refl _))
        replace B := Lib.hid (B.out.trans (hb4.mono (by omega)))
        clear hb4
        have x0 := X.out.out.at0
        have x1 := X.out.out.at1
        go_wp2_with fail
        clear x0 x1
        refine (HV.out _ _ I1.out.rd).mono ?_
        rintro e w5 ⟨rfl, hb5⟩
        have hz5 := hb5.size
        replace X := Lib.hid (X.out.next hb5 (by omega))
        replace I1 := Lib.hid (I1.out.below hb5 (Nat.le_refl _))
        replace B := Lib.hid (B.out.trans (hb5.mono (by omega)))
        clear hb5
        have x0 := X.out.out.at0
        have x1 := X.out.out.at1
        go_wp2_with fail
        clear x0 x1
        go_ret
        exact ⟨rfl, B.out⟩
    · rw [Bool.not_eq_true] at hv
      have eN : fqN N zs = 0 := by rw [fqN, if_neg (by rw [hv]; decide)]
      have eB : fqB N zs = false := by rw [fqB, if_neg (by rw [hv]; decide)]
      rw [eN, eB] at HI HS
      rw [hv] at HV
      clear eN eB hv
      refine (HI.out _ _ I1.out.rd (by first | exact HSW.out.next B.out | exact (show SW (World.drew _) from HSW.out.next B.out) | exact HSW.out.next (B.out.trans ((Below.refl _ _).drew)))).mono ?_
      rintro e w3 ⟨rfl, hb3⟩
      have hz3 := hb3.size
      replace X := Lib.hid (X.out.next hb3 (by omega))
      replace I1 := Lib.hid (I1.out.below hb3 (Nat.le_refl _))
      replace B := Lib.hid (B.out.trans (hb3.mono (by omega)))
      clear hb3
      have x0 := X.out.out.at0
      have x1 := X.out.out.at1
      go_wp2_with fail
      clear x0 x1
      refine (HS.out _ _ I1.out.rd).mono ?_
      rintro e w4 ⟨rfl, hb4⟩
      have hz4 := hb4.size
      replace X := Lib.hid (X.out.next hb4 (by omega))
      replace I1 := Lib.hid (I1.out.below hb4 (Nat.le_refl _))
      replace B := Lib.hid (B.out.trans (hb4.mono (by omega)))
      clear hb4
      have x0 := X.out.out.at0
      have x1 := X.out.out.at1
      go_wp2_with fail
      clear x0 x1
      refine (HV.out _ _ I1.out.rd).mono ?_
      rintro e w5 ⟨rfl, hb5⟩
      have hz5 := hb5.size
      replace X := Lib.hid (X.out.next hb5 (by omega))
      replace I1 := Lib.hid (I1.out.below hb5 (Nat.le_refl _))
      replace B := Lib.hid (B.out.trans (hb5.mono (by omega)))
      clear hb5
      have x0 := X.out.out.at0
      have x1 := X.out.out.at1
      go_wp2_with fail
      clear x0 x1
      go_ret
      exact ⟨rfl, B.out⟩
  · go_enter Tryd.func7, Tryd.ntmps7
    go_wp2_with fail
    go_ret
    exact ⟨rfl, Below.refl _ _⟩

end Go.Proofs.YthjbkjkfibiceaaDoor
