/- FnMembershipDepth's walk: questions halve at best. Conditions: the code is a slice of bytes. -/
import Derived.Test.YtffmcibpboejnaaDoorDrawsMd
import Derived.Test.YtffmcibpboejnaaDoorLittle
import Derived.Test.YtffmcibpboejnaaDoorQuM
import Derived.Test.YtffmcibpboejnaaDoorZJ
import Derived.Test.YtffmcibpboejnaaDoorZK
import Derived.Test.YtffmcibpboejnaaDoorZM
namespace Go.Proofs.YtffmcibpboejnaaDoor
open Go.RowKit

theorem eqB_self (xs : List Int) : eqB xs xs = true := eqB_of rfl (fun _ _ => rfl)

set_option maxHeartbeats 6400000 in
set_option maxRecDepth 100000 in
theorem walkFnMembershipDepth (a : Option Addr) (b off n cap : Nat) (w : World) (hc : n ≤ cap) (hcap : cap ≤ maxLen) (h : Byt w a b off n) (hsw : SW w) :
    Calls Tryd.prog 4 #[.slice a n cap] w fun e w' => e = .returned (.bool true) ∧ Below w.heap.size w w' := by
  have HSW := Lib.hid hsw
  clear hsw
  by_cases hn : n ≤ 1048576
  · have HD := Lib.hid (dDrawMembershipDepth a b off n cap w hc hn hcap h)
    clear h
    go_enter Tryd.func4, Tryd.ntmps4
    go_wp2_with fail
    refine HD.out.mono ?_
    rintro e w1 ⟨N, zs, hbd, a1, c1, rfl, hin, hb⟩
    generalize hL : zs.length = L at *
    have X := Lib.hid (Bx.new N (.slice a1 L c1) w1)
    have I1 := Lib.hid ((hin.mono (Nat.zero_le _)).alloc (Obj.cells #[.int .i64 N, .slice a1 L c1] 25))
    have B := Lib.hid (hb.alloc hb.size (Obj.cells #[.int .i64 N, .slice a1 L c1] 25))
    have HZ2 := Lib.hid (show (w1.alloc (Obj.cells #[.int .i64 N, .slice a1 L c1] 25)).heap.size = w1.heap.size + 1 by simp)
    have hz1 := hb.size
    clear hin hb HD
    go_wp2_with fail
    generalize (w1.alloc (Obj.cells #[.int .i64 N, .slice a1 L c1] 25)) = w2 at *
    have hz2 := HZ2.out
    generalize ho : w1.heap.size = o at *
    obtain ⟨hN0, hN1, hL34⟩ := hbd
    by_cases hv : vldB N zs = true
    · obtain ⟨m, ns, rfl, rfl, hcl⟩ := vldB_cls hv
      have hL2 : ns.length = L := by rw [← hL, toI_length]
      have hm := hcl.pts
      have HI := Lib.hid (fun v w h hs => implMembershipDepth (m : Int) v (toI ns) w h hs)
      have HS := Lib.hid (fun v w h => specMembershipDepth (m : Int) v (toI ns) w h)
      have HV := Lib.hid (fun v w h => implValid (m : Int) v (toI ns) w h)
      have HT := Lib.hid (fun v w h hs => implTeachingDimension (m : Int) v (toI ns) w h hs)
      have HLi := Lib.hid (fun v w h hs => implLittlestoneOf (m : Int) v (toI ns) w h hs)
      rw [show litB (m : Int) (toI ns) = mst ns by rw [litB, if_pos hv, toNat_toI]] at HLi
      rw [mem_cls hcl] at HI HS
      rw [hv] at HV
      have htd := td_le hcl hv
      have hq0 := qst_nn ns
      have hqm := qst_le hm hcl.lt
      have hpow := qst_pow ns.length ns (Nat.le_refl _) hcl.length hcl.lt32 hcl.asc
      have hfew := qst_few ns.length ns (Nat.le_refl _) hcl.length hcl.lt32 hcl.asc
      have hsm : L < 2 → qst ns = 0 := fun h => qst_small (by omega)
      have hli : 0 < L → mst ns ≤ qst ns := fun h => lit_ask hcl (fun e => by rw [e] at hL2; simp at hL2; omega)
      rw [hL2] at hpow hfew
      generalize mst ns = d at *
      generalize qst ns = q at *
      generalize tdB (m : Int) (toI ns) = td at *
      clear hv hcl
      have HPW := Lib.hid (fun w => lawsPower q w hq0 (by omega))
      have hpI : (L : Int) ≤ (2 : Int) ^ q.toNat := by
        have : ((2 ^ q.toNat : Nat) : Int) = (2 : Int) ^ q.toNat := by simp
        rw [← this]
        exact Int.ofNat_le.2 hpow
      generalize (2 : Int) ^ q.toNat = p at *
      have k1 : decide ((L : Int) ≤ p) = true := decide_eq_true hpI
      have k2 : decide (q ≤ (m : Int)) = true := decide_eq_true hqm
      have k3 : decide (td ≤ q) = true := decide_eq_true htd
      have hw1 : IntKind.i64.wrap ((L : Int) - 1) = (L : Int) - 1 := by rw [IntKind.wrap_i64]; omega
      have hzl : L < 2 ∨ 2 ≤ L := by omega
      clear hpow
      refine (HI.out _ _ I1.out.rd (by first | exact HSW.out.next B.out | exact (show SW (World.drew _) from HSW.out.next B.out) | exact HSW.out.next (B.out.trans ((Below.refl _ _).drew)))).mono ?_
      rintro e w3 ⟨rfl, hb3⟩
      have hz3 := hb3.size
      replace X := Lib.hid (X.out.next hb3 (by omega))
      replace I1 := Lib.hid (I1.out.below hb3 (Nat.le_refl _))
      replace B := Lib.hid (B.out.trans (hb3.mono (by omega)))
      clear hb3
      have x0 := X.out.out.at0
      have x1 := X.out.out.at1
      go_wp2_with fail
      clear x0 x1
      refine (HS.out _ _ I1.out.rd).mono ?_
      rintro e w4 ⟨rfl, hb4⟩
      have hz4 := hb4.size
      replace X := Lib.hid (X.out.next hb4 (by omega))
      replace I1 := Lib.hid (I1.out.below hb4 (Nat.le_refl _))
      replace B := Lib.hid (B.out.trans (hb4.mono (by omega)))
      clear hb4
      have x0 := X.out.out.at0
      have x1 := X.out.out.at1
      go_wp2_with fail
      clear x0 x1
      refine (HV.out _ _ I1.out.rd).mono ?_
      rintro e w5 ⟨rfl, hb5⟩
      have hz5 := hb5.size
      replace X := Lib.hid (X.out.next hb5 (by omega))
      replace I1 := Lib.hid (I1.out.below hb5 (Nat.le_refl _))
      replace B := Lib.hid (B.out.trans (hb5.mono (by omega)))
      clear hb5
      have x0 := X.out.out.at0
      have x1 := X.out.out.at1
      go_wp2_with fail
      clear x0 x1
      refine (HPW.out _).mono ?_
      rintro e w6 ⟨rfl, hw6⟩
      subst w6
      by_cases hl2 : 2 ≤ L
      · have hlq := hli (by omega)
        have k4 : decide (d ≤ q) = true := decide_eq_true hlq
        have k5 : ¬ (L : Int) - 1 < 0 := by omega
        have k6 : decide ((L : Int) - 1 < 0) = false := decide_eq_false k5
        have k7 : q ≤ (L : Int) - 1 := by omega
        have k8 : decide (q ≤ (L : Int) - 1) = true := decide_eq_true k7
        have k9 : ¬ (L : Int) < 2 := by omega
        have k10 : decide ((L : Int) < 2) = false := decide_eq_false k9
        clear hfew hsm hli hzl
        have x0 := X.out.out.at0
        have x1 := X.out.out.at1
        go_wp2_with fail
        clear x0 x1
        refine (HT.out _ _ I1.out.rd (by first | exact HSW.out.next B.out | exact (show SW (World.drew _) from HSW.out.next B.out) | exact HSW.out.next (B.out.trans ((Below.refl _ _).drew)))).mono ?_
        rintro e w6 ⟨rfl, hb6⟩
        have hz6 := hb6.size
        replace X := Lib.hid (X.out.next hb6 (by omega))
        replace I1 := Lib.hid (I1.out.below hb6 (Nat.le_refl _))
        replace B := Lib.hid (B.out.trans (hb6.mono (by omega)))
        clear hb6
        have x0 := X.out.out.at0
        have x1 := X.out.out.at1
        go_wp2_with fail
        clear x0 x1
        refine (HLi.out _ _ I1.out.rd (by first | exact HSW.out.next B.out | exact (show SW (World.drew _) from HSW.out.next B.out) | exact HSW.out.next (B.out.trans ((Below.refl _ _).drew)))).mono ?_
        rintro e w7 ⟨rfl, hb7⟩
        have hz7 := hb7.size
        replace X := Lib.hid (X.out.next hb7 (by omega))
        replace I1 := Lib.hid (I1.out.below hb7 (Nat.le_refl _))
        replace B := Lib.hid (B.out.trans (hb7.mono (by omega)))
        clear hb7
        have x0 := X.out.out.at0
        have x1 := X.out.out.at1
        go_wp2_with fail
        clear x0 x1
        go_ret
        exact ⟨rfl, B.out⟩
      · obtain rfl := hsm (by omega)
        have k9 : (L : Int) < 2 := by omega
        have k10 : decide ((L : Int) < 2) = true := decide_eq_true k9
        by_cases hl0 : L = 0
        · subst hl0
          have x0 := X.out.out.at0
          have x1 := X.out.out.at1
          go_wp2_with fail
          clear x0 x1
          refine (HT.out _ _ I1.out.rd (by first | exact HSW.out.next B.out | exact (show SW (World.drew _) from HSW.out.next B.out) | exact HSW.out.next (B.out.trans ((Below.refl _ _).drew)))).mono ?_
          rintro e w6 ⟨rfl, hb6⟩
          have hz6 := hb6.size
          replace X := Lib.hid (X.out.next hb6 (by omega))
          replace I1 := Lib.hid (I1.out.below hb6 (Nat.le_refl _))
          replace B := Lib.hid (B.out.trans (hb6.mono (by omega)))
          clear hb6
          have x0 := X.out.out.at0
          have x1 := X.out.out.at1
          go_wp2_with fail
          clear x0 x1
          go_ret
          exact ⟨rfl, B.out⟩
        · obtain rfl : L = 1 := by omega
          have x0 := X.out.out.at0
          have x1 := X.out.out.at1
          go_wp2_with fail
          clear x0 x1
          refine (HT.out _ _ I1.out.rd (by first | exact HSW.out.next B.out | exact (show SW (World.drew _) from HSW.out.next B.out) | exact HSW.out.next (B.out.trans ((Below.refl _ _).drew)))).mono ?_
          rintro e w6 ⟨rfl, hb6⟩
          have hz6 := hb6.size
          replace X := Lib.hid (X.out.next hb6 (by omega))
          replace I1 := Lib.hid (I1.out.below hb6 (Nat.le_refl _))
          replace B := Lib.hid (B.out.trans (hb6.mono (by omega)))
          clear hb6
          have x0 := X.out.out.at0
          have x1 := X.out.out.at1
          go_wp2_with fail
          clear x0 x1
          go_ret
          exact ⟨rfl, B.out⟩
    · rw [Bool.not_eq_true] at hv
      have HI := Lib.hid (fun v w h hs => implMembershipDepth N v zs w h hs)
      have HS := Lib.hid (fun v w h => specMembershipDepth N v zs w h)
      have HV := Lib.hid (fun v w h => implValid N v zs w h)
      rw [show memB N zs = -1 by rw [memB, hv]; rfl] at HI HS
      rw [hv] at HV
      clear hv
      refine (HI.out _ _ I1.out.rd (by first | exact HSW.out.next B.out | exact (show SW (World.drew _) from HSW.out.next B.out) | exact HSW.out.next (B.out.trans ((Below.refl _ _).drew)))).mono ?_
      rintro e w3 ⟨rfl, hb3⟩
      have hz3 := hb3.size
      replace X := Lib.hid (X.out.next hb3 (by omega))
      replace I1 := Lib.hid (I1.out.below hb3 (Nat.le_refl _))
      replace B := Lib.hid (B.out.trans (hb3.mono (by omega)))
      clear hb3
      have x0 := X.out.out.at0
      have x1 := X.out.out.at1
      go_wp2_with fail
      clear x0 x1
      refine (HS.out _ _ I1.out.rd).mono ?_
      rintro e w4 ⟨rfl, hb4⟩
      have hz4 := hb4.size
      replace X := Lib.hid (X.out.next hb4 (by omega))
      replace I1 := Lib.hid (I1.out.below hb4 (Nat.le_refl _))
      replace B := Lib.hid (B.out.trans (hb4.mono (by omega)))
      clear hb4
      have x0 := X.out.out.at0
      have x1 := X.out.out.at1
      go_wp2_with fail
      clear x0 x1
      refine (HV.out _ _ I1.out.rd).mono ?_
      rintro e w5 ⟨rfl, hb5⟩
      have hz5 := hb5.size
      replace X := Lib.hid (X.out.next hb5 (by omega))
      replace I1 := Lib.hid (I1.out.below hb5 (Nat.le_refl _))
      replace B := Lib.hid (B.out.trans (hb5.mono (by omega)))
      clear hb5
      have x0 := X.out.out.at0
      have x1 := X.out.out.at1
      go_wp2_with fail
      clear x0 x1
      refine (HS.out _ _ I1.out.rd).mono ?_
      rintro e w6 ⟨rfl, hb6⟩
      have hz6 := hb6.size
      replace X := Lib.hid (X.out.next hb6 (by omega))
      replace I1 := Lib.hid (I1.out.below hb6 (Nat.le_refl _))
      replace B := Lib.hid (B.out.trans (hb6.mono (by omega)))
      clear hb6
      have x0 := X.out.out.at0
      have x1 := X.out.out.at1
      go_wp2_with fail
      clear x0 x1
      go_ret
      exact ⟨rfl, B.out⟩
  · go_enter Tryd.func4, Tryd.ntmps4
    go_wp2_with fail
    go_ret
    exact ⟨rfl, Below.refl _ _⟩

end Go.Proofs.YtffmcibpboejnaaDoor
