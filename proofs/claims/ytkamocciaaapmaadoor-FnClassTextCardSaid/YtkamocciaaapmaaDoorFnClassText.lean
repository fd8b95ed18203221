/- FnClassText's walk: a class's text is read back. Conditions: the code is a slice of bytes. -/
import Derived.Test.YtkamocciaaapmaaDoorDrawsCl
import Derived.Test.YtkamocciaaapmaaDoorLawHc
import Derived.Test.YtkamocciaaapmaaDoorPrsI
import Derived.Test.YtkamocciaaapmaaDoorZJ
import Derived.Test.YtkamocciaaapmaaDoorZK
namespace Go.Proofs.YtkamocciaaapmaaDoor
open Go.RowKit

theorem eqB_self (xs : List Int) : eqB xs xs = true := eqB_of rfl (fun _ _ => rfl)

set_option maxHeartbeats 6400000 in
set_option maxRecDepth 100000 in
theorem walkFnClassText (a : Option Addr) (b off n cap : Nat) (w : World) (hc : n ≤ cap) (hcap : cap ≤ maxLen) (h : Byt w a b off n) (hLb0 : Lbs w) :
    Calls Tryd.prog 4 #[.slice a n cap] w fun e w' => e = .returned (.bool true) ∧ Below w.heap.size w w' := by
  have HLb := Lib.hid (fun w' (hb : Below w.heap.size w w') => hLb0.below hb (Nat.le_refl _))
  clear hLb0
  by_cases hn : n ≤ 1048576
  · have HD := Lib.hid (dDrawClassText a b off n cap w hc hn hcap h)
    clear h
    go_enter Tryd.func4, Tryd.ntmps4
    go_wp2_with fail
    refine HD.out.mono ?_
    rintro e w1 ⟨N, zs, hbd, a1, c1, rfl, hin, hb⟩
    generalize hL : zs.length = L at *
    have X := Lib.hid (Bx.new N (.slice a1 L c1) w1)
    have I1 := Lib.hid ((hin.mono (Nat.zero_le _)).alloc (Obj.cells #[.int .i64 N, .slice a1 L c1] 27))
    have B := Lib.hid (hb.alloc hb.size (Obj.cells #[.int .i64 N, .slice a1 L c1] 27))
    have HZ2 := Lib.hid (show (w1.alloc (Obj.cells #[.int .i64 N, .slice a1 L c1] 27)).heap.size = w1.heap.size + 1 by simp)
    have hz1 := hb.size
    clear hin hb HD
    go_wp2_with fail
    generalize (w1.alloc (Obj.cells #[.int .i64 N, .slice a1 L c1] 27)) = w2 at *
    have hz2 := HZ2.out
    generalize ho : w1.heap.size = o at *
    obtain ⟨hN0, hN1, hL34⟩ := hbd
    by_cases hv : vldB N zs = true
    · obtain ⟨m, ns, rfl, rfl, hcl⟩ := vldB_cls hv
      have hL2 : ns.length = L := by rw [← hL, toI_length]
      have hpr := prs_some (pM_back m ns hv)
      have hl1 := ctB_list hv
      have hm := hcl.pts
      have hl := hcl.length
      have hsz := ctT_size (m := m) (ns := ns) (by omega) (vld_lt hv).2 ns.length (Nat.le_refl _)
      rw [← ctB_in hv] at hsz
      have hp5 := pow_le_32 hm
      have HI := Lib.hid (fun v w h => implClassText (m : Int) v (toI ns) w h)
      have HS := Lib.hid (fun v w h => specClassText (m : Int) v (toI ns) w h)
      have hne : ctB (m : Int) (toI ns) ≠ ⟨#[]⟩ := fun h9 => by
        rw [h9] at hl1
        exact absurd (congrArg List.length hl1) (by simp)
      generalize ctB (m : Int) (toI ns) = T at *
      have hte : T.toList.isEmpty = false := (decide_eq_emptyBytes T).symm.trans (decide_eq_false (show ¬ T = ByteArray.empty from hne))
      have HP := Lib.hid (fun w h => implParseClass T (by omega) w h)
      rw [hpr.1, hpr.2.1, hpr.2.2] at HP
      have HNl := Lib.hid ((toI_length ns).trans hL2)
      generalize toI ns = zs at *
      clear hpr hl1 hsz hne hv hcl
      have x0 := X.out.out.at0
      have x1 := X.out.out.at1
      go_wp2_with fail
      clear x0 x1
      refine (HI.out _ _ I1.out.rd).mono ?_
      rintro e w3 ⟨rfl, hb3⟩
      have hz3 := hb3.size
      replace X := Lib.hid (X.out.next hb3 (by omega))
      replace I1 := Lib.hid (I1.out.below hb3 (Nat.le_refl _))
      replace B := Lib.hid (B.out.trans (hb3.mono (by omega)))
      clear hb3
      have x0 := X.out.out.at0
      have x1 := X.out.out.at1
      go_wp2_with fail
      clear x0 x1
      refine (HS.out _ _ I1.out.rd).mono ?_
      rintro e w4 ⟨rfl, hb4⟩
      have hz4 := hb4.size
      replace X := Lib.hid (X.out.next hb4 (by omega))
      replace I1 := Lib.hid (I1.out.below hb4 (Nat.le_refl _))
      replace B := Lib.hid (B.out.trans (hb4.mono (by omega)))
      clear hb4
      have x0 := X.out.out.at0
      have x1 := X.out.out.at1
      go_wp2_with fail
      clear x0 x1
      refine (HP.out _ (HLb.out _ B.out)).mono ?_
      rintro e w5 ⟨a5, c5, rfl, hin5, hb5⟩
      rw [HNl.out] at hin5 ⊢
      have hz5 := hb5.size
      replace X := Lib.hid (X.out.next hb5 (by omega))
      replace I1 := Lib.hid (I1.out.below hb5 (Nat.le_refl _))
      replace B := Lib.hid (B.out.trans (hb5.mono (by omega)))
      have IB := Lib.hid (hin5.mono (Nat.zero_le _))
      clear hin5 hb5
      have Y := Lib.hid (Bx.new (m : Int) (.slice a5 L c5) w5)
      replace X := Lib.hid (X.out.alloc (Obj.cells #[.int .i64 (m : Int), .slice a5 L c5] 27))
      replace I1 := Lib.hid (I1.out.alloc (Obj.cells #[.int .i64 (m : Int), .slice a5 L c5] 27))
      replace IB := Lib.hid (IB.out.alloc (Obj.cells #[.int .i64 (m : Int), .slice a5 L c5] 27))
      replace B := Lib.hid (B.out.alloc B.out.size (Obj.cells #[.int .i64 (m : Int), .slice a5 L c5] 27))
      have HZ := Lib.hid (show (w5.alloc (Obj.cells #[.int .i64 (m : Int), .slice a5 L c5] 27)).heap.size = w5.heap.size + 1 by simp)
      go_upto_region 8 with (fail)
      generalize (w5.alloc (Obj.cells #[.int .i64 (m : Int), .slice a5 L c5] 27)) = w6 at *
      have hz6 := HZ.out
      clear HZ
      generalize ho2 : w5.heap.size = o2 at *
      have x0 := X.out.out.at0
      have x1 := X.out.out.at1
      have y0 := Y.out.out.at0
      have y1 := Y.out.out.at1
      go_wp2_with fail
      clear x0 x1 y0 y1
      refine (lawsEqualClass _ _ _ _ _ _ _ _ IB.out.rd I1.out.rd).mono ?_
      rintro e w7 ⟨rfl, hb7⟩
      have hz7 := hb7.size
      replace X := Lib.hid (X.out.next hb7 (by omega))
      replace Y := Lib.hid (Y.out.next hb7 (by omega))
      replace I1 := Lib.hid (I1.out.below hb7 (Nat.le_refl _))
      replace IB := Lib.hid (IB.out.below hb7 (Nat.le_refl _))
      replace B := Lib.hid (B.out.trans (hb7.mono (by omega)))
      clear hb7
      go_wp2_with fail
      go_ret
      exact ⟨rfl, by first | exact B.out | exact B.out.drew⟩
    · rw [Bool.not_eq_true] at hv
      have HI := Lib.hid (fun v w h => implClassText N v zs w h)
      have HS := Lib.hid (fun v w h => specClassText N v zs w h)
      rw [ctB_out hv] at HI HS
      clear hv
      have hte : (⟨#[]⟩ : ByteArray).toList.isEmpty = true := (decide_eq_emptyBytes ⟨#[]⟩).symm.trans (decide_eq_true rfl)
      have x0 := X.out.out.at0
      have x1 := X.out.out.at1
      go_wp2_with fail
      clear x0 x1
      refine (HI.out _ _ I1.out.rd).mono ?_
      rintro e w3 ⟨rfl, hb3⟩
      have hz3 := hb3.size
      replace X := Lib.hid (X.out.next hb3 (by omega))
      replace I1 := Lib.hid (I1.out.below hb3 (Nat.le_refl _))
      replace B := Lib.hid (B.out.trans (hb3.mono (by omega)))
      clear hb3
      have x0 := X.out.out.at0
      have x1 := X.out.out.at1
      go_wp2_with fail
      clear x0 x1
      refine (HS.out _ _ I1.out.rd).mono ?_
      rintro e w4 ⟨rfl, hb4⟩
      have hz4 := hb4.size
      replace X := Lib.hid (X.out.next hb4 (by omega))
      replace I1 := Lib.hid (I1.out.below hb4 (Nat.le_refl _))
      replace B := Lib.hid (B.out.trans (hb4.mono (by omega)))
      clear hb4
      have x0 := X.out.out.at0
      have x1 := X.out.out.at1
      go_wp2_with fail
      clear x0 x1
      refine (HS.out _ _ I1.out.rd).mono ?_
      rintro e w5 ⟨rfl, hb5⟩
      have hz5 := hb5.size
      replace X := Lib.hid (X.out.next hb5 (by omega))
      replace I1 := Lib.hid (I1.out.below hb5 (Nat.le_refl _))
      replace B := Lib.hid (B.out.trans (hb5.mono (by omega)))
      clear hb5
      go_wp2_with fail
      go_ret
      exact ⟨rfl, by first | exact B.out | exact B.out.drew⟩
  · go_enter Tryd.func4, Tryd.ntmps4
    go_wp2_with fail
    go_ret
    exact ⟨rfl, Below.refl _ _⟩

end Go.Proofs.YtkamocciaaapmaaDoor
