/- FnTeachingDimension's walk: teaching is no harder than asking, or than stars. Conditions: the code is a slice of bytes. -/
import Derived.Test.YtnoppclajhfnjaaDoorDrawsTd
import Derived.Test.YtnoppclajhfnjaaDoorMemb
import Derived.Test.YtnoppclajhfnjaaDoorQuM
import Derived.Test.YtnoppclajhfnjaaDoorRecI
import Derived.Test.YtnoppclajhfnjaaDoorTDim
import Derived.Test.YtnoppclajhfnjaaDoorZJ
import Derived.Test.YtnoppclajhfnjaaDoorZK
import Derived.Test.YtnoppclajhfnjaaDoorZV
namespace Go.Proofs.YtnoppclajhfnjaaDoor
open Go.RowKit

theorem eqB_self (xs : List Int) : eqB xs xs = true := eqB_of rfl (fun _ _ => rfl)
theorem td_all {m : Nat} {ns : List Nat} (h : Cls m ns) (hv : vldB (m : Int) (toI ns) = true) : tdB (m : Int) (toI ns) ≤ memB (m : Int) (toI ns) ∧ tdB (m : Int) (toI ns) ≤ snB (m : Int) (toI ns) ∧ rdB (m : Int) (toI ns) ≤ tdB (m : Int) (toI ns) ∧ (tdB (m : Int) (toI ns) < 0 ↔ ns.length = 0) := by
  have e : tdB (m : Int) (toI ns) = gTo (tns m ns) ns.length := by rw [tdB, tnsL_in hv, tns_len]
  refine ⟨by rw [memB, if_pos hv, toNat_toI]; exact td_le h hv, ?_, ?_, ?_⟩
  · rw [e, snB_in hv]; exact td_star h
  · rw [e, rdB_in hv]; exact rdM_td h
  · rw [e]
    constructor
    · intro h0
      by_cases hn : ns = []
      · rw [hn]; rfl
      · have hp := List.length_pos_iff.2 hn
        have h2 := (gTo_all (tns m ns) ns.length).2 0 hp
        rw [tns_getD hp] at h2
        omega
    · intro h0
      obtain rfl := List.length_eq_zero_iff.1 h0
      show (-1 : Int) < 0
      omega


set_option maxHeartbeats 6400000 in
set_option maxRecDepth 100000 in
theorem walkFnTeachingDimension (a : Option Addr) (b off n cap : Nat) (w : World) (hc : n ≤ cap) (hcap : cap ≤ maxLen) (h : Byt w a b off n) (hsw : SW w) :
    Calls Tryd.prog 6 #[.slice a n cap] w fun e w' => e = .returned (.bool true) ∧ Below w.heap.size w w' := by
  have HSW := Lib.hid hsw
  clear hsw
  by_cases hn : n ≤ 1048576
  · have HD := Lib.hid (dDrawTeachingDimension a b off n cap w hc hn hcap h)
    clear h
    go_enter Tryd.func6, Tryd.ntmps6
    go_wp2_with fail
    refine HD.out.mono ?_
    rintro e w1 ⟨N, zs, hbd, a1, c1, rfl, hin, hb⟩
    generalize hL : zs.length = L at *
    have X := Lib.hid (Bx.new N (.slice a1 L c1) w1)
    have I1 := Lib.hid ((hin.mono (Nat.zero_le _)).alloc (Obj.cells #[.int .i64 N, .slice a1 L c1] 27))
    have B := Lib.hid (hb.alloc hb.size (Obj.cells #[.int .i64 N, .slice a1 L c1] 27))
    have HZ2 := Lib.hid (show (w1.alloc (Obj.cells #[.int .i64 N, .slice a1 L c1] 27)).heap.size = w1.heap.size + 1 by simp)
    have hz1 := hb.size
    clear hin hb HD
    go_wp2_with fail
    generalize (w1.alloc (Obj.cells #[.int .i64 N, .slice a1 L c1] 27)) = w2 at *
    have hz2 := HZ2.out
    generalize ho : w1.heap.size = o at *
    obtain ⟨hN0, hN1, hL34⟩ := hbd
    by_cases hv : vldB N zs = true
    · obtain ⟨m, ns, rfl, rfl, hcl⟩ := vldB_cls hv
      have hL2 : ns.length = L := by rw [← hL, toI_length]
      have HI := Lib.hid (fun v w h hs => implTeachingDimension (m : Int) v (toI ns) w h hs)
      have HS := Lib.hid (fun v w h => specTeachingDimension (m : Int) v (toI ns) w h)
      have HV := Lib.hid (fun v w h => implValid (m : Int) v (toI ns) w h)
      have HM := Lib.hid (fun v w h hs => implMembershipDepth (m : Int) v (toI ns) w h hs)
      have HT := Lib.hid (fun v w h hs => implStarNumber (m : Int) v (toI ns) w h hs)
      have HR := Lib.hid (fun v w h hs => implRecursiveDimension (m : Int) v (toI ns) w h hs)
      obtain ⟨h1, h2, h3, h4⟩ := td_all hcl hv
      rw [hv] at HV
      rw [hL2] at h4
      generalize tdB (m : Int) (toI ns) = E at *
      generalize memB (m : Int) (toI ns) = Q at *
      generalize snB (m : Int) (toI ns) = S at *
      generalize rdB (m : Int) (toI ns) = R at *
      have k1 : decide (E ≤ Q) = true := decide_eq_true h1
      have k2 : decide (E ≤ S) = true := decide_eq_true h2
      have k3 : decide (R ≤ E) = true := decide_eq_true h3
      clear hv hcl hL hL2
      refine (HI.out _ _ I1.out.rd (by first | exact HSW.out.next B.out | exact (show SW (World.drew _) from HSW.out.next B.out) | exact HSW.out.next (B.out.trans ((Below.refl _ _).drew)))).mono ?_
      rintro e w3 ⟨rfl, hb3⟩
      have hz3 := hb3.size
      replace X := Lib.hid (X.out.next hb3 X.out.lt)
      replace I1 := Lib.hid (I1.out.below hb3 (Nat.le_refl _))
      replace B := Lib.hid (B.out.trans (hb3.mono B.out.size))
      clear hb3
      have x0 := X.out.out.at0
      have x1 := X.out.out.at1
      go_wp2_with fail
      clear x0 x1
      refine (HS.out _ _ I1.out.rd).mono ?_
      rintro e w4 ⟨rfl, hb4⟩
      have hz4 := hb4.size
      replace X := Lib.hid (X.out.next hb4 X.out.lt)
      replace I1 := Lib.hid (I1.out.below hb4 (Nat.le_refl _))
      replace B := Lib.hid (B.out.trans (hb4.mono B.out.size))
      clear hb4
      have x0 := X.out.out.at0
      have x1 := X.out.out.at1
      go_wp2_with fail
      clear x0 x1
      refine (HV.out _ _ I1.out.rd).mono ?_
      rintro e w5 ⟨rfl, hb5⟩
      have hz5 := hb5.size
      replace X := Lib.hid (X.out.next hb5 X.out.lt)
      replace I1 := Lib.hid (I1.out.below hb5 (Nat.le_refl _))
      replace B := Lib.hid (B.out.trans (hb5.mono B.out.size))
      clear hb5
      have x0 := X.out.out.at0
      have x1 := X.out.out.at1
      go_wp2_with fail
      clear x0 x1
      refine (HM.out _ _ I1.out.rd (by first | exact HSW.out.next B.out | exact (show SW (World.drew _) from HSW.out.next B.out) | exact HSW.out.next (B.out.trans ((Below.refl _ _).drew)))).mono ?_
      rintro e w6 ⟨rfl, hb6⟩
      have hz6 := hb6.size
      replace X := Lib.hid (X.out.next hb6 X.out.lt)
      replace I1 := Lib.hid (I1.out.below hb6 (Nat.le_refl _))
      replace B := Lib.hid (B.out.trans (hb6.mono B.out.size))
      clear hb6
      have x0 := X.out.out.at0
      have x1 := X.out.out.at1
      go_wp2_with fail
      clear x0 x1
      refine (HT.out _ _ I1.out.rd (by first | exact HSW.out.next B.out | exact (show SW (World.drew _) from HSW.out.next B.out) | exact HSW.out.next (B.out.trans ((Below.refl _ _).drew)))).mono ?_
      rintro e w7 ⟨rfl, hb7⟩
      have hz7 := hb7.size
      replace X := Lib.hid (X.out.next hb7 X.out.lt)
      replace I1 := Lib.hid (I1.out.below hb7 (Nat.le_refl _))
      replace B := Lib.hid (B.out.trans (hb7.mono B.out.size))
      clear hb7
      have x0 := X.out.out.at0
      have x1 := X.out.out.at1
      go_wp2_with fail
      clear x0 x1
      refine (HR.out _ _ I1.out.rd (by first | exact HSW.out.next B.out | exact (show SW (World.drew _) from HSW.out.next B.out) | exact HSW.out.next (B.out.trans ((Below.refl _ _).drew)))).mono ?_
      rintro e w8 ⟨rfl, hb8⟩
      have hz8 := hb8.size
      replace X := Lib.hid (X.out.next hb8 X.out.lt)
      replace I1 := Lib.hid (I1.out.below hb8 (Nat.le_refl _))
      replace B := Lib.hid (B.out.trans (hb8.mono B.out.size))
      clear hb8
      by_cases h0 : L = 0
      · have e1 : decide (E < 0) = true := decide_eq_true (h4.2 h0)
        have e2 : ((L : Int) == 0) = true := by rw [h0]; rfl
        have e3 : (L == 0) = true := by rw [h0]; rfl
        clear h0 h4
        have x0 := X.out.out.at0
        have x1 := X.out.out.at1
        go_wp2_with fail
        clear x0 x1
        go_ret
        exact ⟨rfl, by first | exact B.out | exact B.out.drew⟩
      · have e1 : decide (E < 0) = false := decide_eq_false (fun h => h0 (h4.1 h))
        have e2 : ((L : Int) == 0) = false := beq_eq_false_iff_ne.2 (by omega)
        have e3 : (L == 0) = false := beq_eq_false_iff_ne.2 h0
        clear h0 h4
        have x0 := X.out.out.at0
        have x1 := X.out.out.at1
        go_wp2_with fail
        clear x0 x1
        go_ret
        exact ⟨rfl, by first | exact B.out | exact B.out.drew⟩
    · rw [Bool.not_eq_true] at hv
      have HI := Lib.hid (fun v w h hs => implTeachingDimension N v zs w h hs)
      have HS := Lib.hid (fun v w h => specTeachingDimension N v zs w h)
      have HV := Lib.hid (fun v w h => implValid N v zs w h)
      rw [hv] at HV
      generalize tdB N zs = E at *
      clear hv
      refine (HI.out _ _ I1.out.rd (by first | exact HSW.out.next B.out | exact (show SW (World.drew _) from HSW.out.next B.out) | exact HSW.out.next (B.out.trans ((Below.refl _ _).drew)))).mono ?_
      rintro e w3 ⟨rfl, hb3⟩
      have hz3 := hb3.size
      replace X := Lib.hid (X.out.next hb3 X.out.lt)
      replace I1 := Lib.hid (I1.out.below hb3 (Nat.le_refl _))
      replace B := Lib.hid (B.out.trans (hb3.mono B.out.size))
      clear hb3
      have x0 := X.out.out.at0
      have x1 := X.out.out.at1
      go_wp2_with fail
      clear x0 x1
      refine (HS.out _ _ I1.out.rd).mono ?_
      rintro e w4 ⟨rfl, hb4⟩
      have hz4 := hb4.size
      replace X := Lib.hid (X.out.next hb4 X.out.lt)
      replace I1 := Lib.hid (I1.out.below hb4 (Nat.le_refl _))
      replace B := Lib.hid (B.out.trans (hb4.mono B.out.size))
      clear hb4
      have x0 := X.out.out.at0
      have x1 := X.out.out.at1
      go_wp2_with fail
      clear x0 x1
      refine (HV.out _ _ I1.out.rd).mono ?_
      rintro e w5 ⟨rfl, hb5⟩
      have hz5 := hb5.size
      replace X := Lib.hid (X.out.next hb5 X.out.lt)
      replace I1 := Lib.hid (I1.out.below hb5 (Nat.le_refl _))
      replace B := Lib.hid (B.out.trans (hb5.mono B.out.size))
      clear hb5
      have x0 := X.out.out.at0
      have x1 := X.out.out.at1
      go_wp2_with fail
      clear x0 x1
      refine (HS.out _ _ I1.out.rd).mono ?_
      rintro e w6 ⟨rfl, hb6⟩
      have hz6 := hb6.size
      replace X := Lib.hid (X.out.next hb6 X.out.lt)
      replace I1 := Lib.hid (I1.out.below hb6 (Nat.le_refl _))
      replace B := Lib.hid (B.out.trans (hb6.mono B.out.size))
      clear hb6
      have x0 := X.out.out.at0
      have x1 := X.out.out.at1
      go_wp2_with fail
      clear x0 x1
      go_ret
      exact ⟨rfl, by first | exact B.out | exact B.out.drew⟩
  · go_enter Tryd.func6, Tryd.ntmps6
    go_wp2_with fail
    go_ret
    exact ⟨rfl, Below.refl _ _⟩

end Go.Proofs.YtnoppclajhfnjaaDoor
