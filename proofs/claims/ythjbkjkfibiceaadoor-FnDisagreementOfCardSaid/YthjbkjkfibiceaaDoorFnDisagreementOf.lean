/- FnDisagreementOf's walk: sets disagree where a point is shattered. Conditions: the code is a slice of bytes. -/
import Derived.Test.YthjbkjkfibiceaaDoorZK
import Derived.Test.YthjbkjkfibiceaaDoorZJ
import Derived.Test.YthjbkjkfibiceaaDoorDrawsDis
import Derived.Test.YthjbkjkfibiceaaDoorDisM
import Derived.Test.YthjbkjkfibiceaaDoorZB
namespace Go.Proofs.YthjbkjkfibiceaaDoor
open Go.RowKit

theorem eqB_self (xs : List Int) : eqB xs xs = true := eqB_of rfl (fun _ _ => rfl)

set_option maxHeartbeats 6400000 in
set_option maxRecDepth 100000 in
theorem walkFnDisagreementOf (a : Option Addr) (b off n cap : Nat) (w : World) (hc : n ≤ cap) (hcap : cap ≤ maxLen) (h : Byt w a b off n) (hsw : SW w) :
    Calls Tryd.prog 5 #[.slice a n cap] w fun e w' => e = .returned (.bool true) ∧ Below w.heap.size w w' := by
  have HSW := Lib.hid hsw
  clear hsw
  by_cases hn : n ≤ 1048576
  · have HD := Lib.hid (dDrawDisagreementOf a b off n cap w hc hn hcap h)
    clear h
    go_enter Tryd.func5, Tryd.ntmps5
    go_wp2_with fail
    refine HD.out.mono ?_
    rintro e w1 ⟨N, zs, hbd, a1, c1, rfl, hin, hb⟩
    generalize hL : zs.length = L at *
    have X := Lib.hid (Bx.new N (.slice a1 L c1) w1)
    have I1 := Lib.hid ((hin.mono (Nat.zero_le _)).alloc (Obj.cells #[.int .i64 N, .slice a1 L c1] 25))
    have B := Lib.hid (hb.alloc hb.size (Obj.cells #[.int .i64 N, .slice a1 L c1] 25))
    have HZ2 := Lib.hid (show (w1.alloc (Obj.cells #[.int .i64 N, .slice a1 L c1] 25)).heap.size = w1.heap.size + 1 by simp)
    have hz1 := hb.size
    clear hin hb HD
    go_wp2_with fail
    generalize (w1.alloc (Obj.cells #[.int .i64 N, .slice a1 L c1] 25)) = w2 at *
    have hz2 := HZ2.out
    generalize ho : w1.heap.size = o at *
    obtain ⟨hN0, hN1, hL34⟩ := hbd
    by_cases hv : vldB N zs = true
    · obtain ⟨m, ns, rfl, rfl, hcl⟩ := vldB_cls hv
      have hL2 : ns.length = L := by rw [← hL, toI_length]
      have hm := hcl.pts
      have HI := Lib.hid (fun v w h hs => implDisagreementOf (m : Int) v (toI ns) w h hs)
      have HS := Lib.hid (fun v w h => specDisagreementOf (m : Int) v (toI ns) w h)
      have HV := Lib.hid (fun v w h => implValid (m : Int) v (toI ns) w h)
      have HSh := Lib.hid (show ∀ x : Nat, x < m → ∀ v w, Rd w v (toI ns) → Calls Tryd.prog 27 #[.agg #[.int .i64 (m : Int), v], .int .i64 ((2 ^ x : Nat) : Int)] w fun e w' => e = .returned (.bool (disP ns x)) ∧ Below w.heap.size w w' from fun x hx v w h => by
        have hb : setB m ((2 ^ x : Nat) : Int) = true := by
          have h1 : 2 ^ x < 2 ^ m := Nat.pow_lt_pow_right (by omega) hx
          have : ((2 ^ m : Nat) : Int) = (2 : Int) ^ m := by simp
          obtain ⟨q, hq⟩ : ∃ q, q = 2 ^ x := ⟨_, rfl⟩
          rw [← hq] at h1 ⊢
          simp only [setB, Bool.and_eq_true, decide_eq_true_eq]
          omega
        have h8 := implIsShattered (m : Int) v (toI ns) ((2 ^ x : Nat) : Int) w h
        rw [shatB_in hv hb, sht_pt hcl hx] at h8
        exact h8)
      have HHas := Lib.hid (show ∀ x : Nat, x < m → hasB (toI ((List.range m).filter (disP ns))) (x : Int) = disP ns x from fun x hx => dis_has hx)
      have hany := dis_any hcl
      have HAsc := Lib.hid (dis_asc m ns)
      have HD : disL (m : Int) (toI ns) = toI ((List.range m).filter (disP ns)) := by rw [disL, if_pos hv, Int.toNat_natCast, toNat_toI]
      have HPx := Lib.hid (show ∀ x : Nat, x < m → ∀ w, Calls Tryd.prog 22 #[.int .i64 (x : Int)] w fun e w' => e = .returned (.int .i64 ((2 ^ x : Nat) : Int)) ∧ w = w' from fun x hx w => (lawsPower (x : Int) w (by omega) (by omega)).mono fun e w' h => by
        have : ((2 ^ x : Nat) : Int) = (2 : Int) ^ x := by simp
        rw [this]
        exact ⟨by simpa using h.1, h.2⟩)
      have hdl : ((List.range m).filter (disP ns)).length ≤ m := filt_le _ m
      rw [HD] at HI HS
      rw [hv] at HV
      rw [hL2] at hany
      generalize disP ns = P at *
      generalize (List.range m).filter P = D at *
      obtain ⟨K, hK⟩ : ∃ K, K = D.length := ⟨_, rfl⟩
      have HK := Lib.hid (show (toI D).length = K by rw [toI_length, hK])
      have hKL : (decide ((0 : Int) < (K : Int)) == decide ((1 : Int) < (L : Int))) = true := by
        rw [hK]
        by_cases h : 0 < D.length
        · rw [decide_eq_true (by omega), decide_eq_true (by have := hany.1 h; omega)]; rfl
        · rw [decide_eq_false (by omega), decide_eq_false (by intro h9; exact h (hany.2 (by omega)))]; rfl
      have hKI : (0 < K ↔ (1 : Int) < (L : Int)) := ⟨fun h => by have := hany.1 (by omega); omega, fun h => by have := hany.2 (by omega); omega⟩
      clear hany HD hK hcl hv
      refine (HI.out _ _ I1.out.rd (by first | exact HSW.out.next B.out | exact (show SW (World.drew _) from HSW.out.next B.out) | exact HSW.out.next (B.out.trans ((Below.refl _ _).drew)))).mono ?_
      rintro e w3 ⟨a3, c3, rfl, hin3, hb3⟩
      rw [HK.out] at hin3 ⊢
      have hz3 := hb3.size
      replace X := Lib.hid (X.out.next hb3 (by omega))
      replace I1 := Lib.hid (I1.out.below hb3 (Nat.le_refl _))
      replace B := Lib.hid (B.out.trans (hb3.mono (by omega)))
      have IA := Lib.hid (hin3.mono (Nat.zero_le _))
      clear hin3 hb3
      have x0 := X.out.out.at0
      have x1 := X.out.out.at1
      go_wp2_with fail
      clear x0 x1
      refine (HS.out _ _ I1.out.rd).mono ?_
      rintro e w4 ⟨a4, c4, rfl, hin4, hb4⟩
      rw [HK.out] at hin4 ⊢
      have hz4 := hb4.size
      replace X := Lib.hid (X.out.next hb4 (by omega))
      replace I1 := Lib.hid (I1.out.below hb4 (Nat.le_refl _))
      replace IA := Lib.hid (IA.out.below hb4 (Nat.le_refl _))
      replace B := Lib.hid (B.out.trans (hb4.mono (by omega)))
      have IB := Lib.hid (hin4.mono (Nat.zero_le _))
      clear hin4 hb4
      have x0 := X.out.out.at0
      have x1 := X.out.out.at1
      go_wp2_with fail
      clear x0 x1
      have HQ := Lib.hid (lawsEqualInts _ _ (toI D) (toI D) _ IA.out.rd IB.out.rd)
      rw [eqB_self] at HQ
      refine (HQ.out).mono ?_
      rintro e w5 ⟨rfl, hd5⟩
      have hb5 : Below w4.heap.size w4 w5 := by obtain ⟨d, rfl⟩ := hd5; exact below_drewN (Below.refl _ _) d
      clear hd5
      have hz5 := hb5.size
      replace X := Lib.hid (X.out.next hb5 (by omega))
      replace I1 := Lib.hid (I1.out.below hb5 (Nat.le_refl _))
      replace IA := Lib.hid (IA.out.below hb5 (Nat.le_refl _))
      replace IB := Lib.hid (IB.out.below hb5 (Nat.le_refl _))
      replace B := Lib.hid (B.out.trans (hb5.mono (by omega)))
      clear hb5
      have x0 := X.out.out.at0
      have x1 := X.out.out.at1
      go_wp2_with fail
      clear x0 x1
      refine (HV.out _ _ I1.out.rd).mono ?_
      rintro e w6 ⟨rfl, hb6⟩
      have hz6 := hb6.size
      replace X := Lib.hid (X.out.next hb6 (by omega))
      replace I1 := Lib.hid (I1.out.below hb6 (Nat.le_refl _))
      replace IA := Lib.hid (IA.out.below hb6 (Nat.le_refl _))
      replace IB := Lib.hid (IB.out.below hb6 (Nat.le_refl _))
      replace B := Lib.hid (B.out.trans (hb6.mono (by omega)))
      clear hb6
      clear IB HI HS HV HQ
      have HHo := Lib.hid (show ∀ x : Nat, x < m → ∀ w', Rd w' (.slice a3 K c3) (toI D) → Calls Tryd.prog 16 #[.slice a3 K c3, .int .i64 (x : Int)] w' fun e w0 => e = .returned (.bool (P x)) ∧ w' = w0 from fun x hx w' h => by
        have h8 := lawsHolds (.slice a3 K c3) (toI D) (x : Int) w' h
        rw [HHas.out x hx] at h8
        exact h8)
      have HAs := Lib.hid (show ∀ w', Rd w' (.slice a3 K c3) (toI D) → Calls Tryd.prog 28 #[.slice a3 K c3] w' _ from fun w' h => lawsAscends (.slice a3 K c3) D w' h HAsc.out)
      clear HHas HAsc
      have x0 := X.out.out.at0
      have x1 := X.out.out.at1
      go_wp2_with fail
      clear x0 x1
      go_loopw [5] (fun i wr => ∃ j : Nat, j ≤ m ∧ i = .int .i64 j ∧ Below w6.heap.size w6 wr) (fun i _ => m - (intOf i).toNat)
      case atStart => exact ⟨0, Nat.zero_le _, rfl, Below.refl _ _⟩
      case round =>
        obtain ⟨j, hj, rfl, hbe⟩ := hrel
        have HBE := Lib.hid hbe
        have hzr := hbe.size
        replace X := Lib.hid (X.out.next hbe (by omega))
        replace I1 := Lib.hid (I1.out.below hbe (Nat.le_refl _))
        replace IA := Lib.hid (IA.out.below hbe (Nat.le_refl _))
        replace B := Lib.hid (B.out.trans (hbe.mono (by omega)))
        clear hbe
        have x0 := X.out.out.at0
        have x1 := X.out.out.at1
        by_cases hlt : j < m
        · have HHj := Lib.hid (HHo.out j hlt)
          have HPj := Lib.hid (HPx.out j hlt)
          have HSj := Lib.hid (HSh.out j hlt)
          clear HHo HPx HSh HAs
          generalize P j = q at *
          generalize 2 ^ j = p at *
          have hltI : (j : Int) < (m : Int) := by omega
          obtain ⟨w7, hwr⟩ : ∃ w7, w7 = wr := ⟨_, rfl⟩
          subst hwr
          go_wp2_with fail
          go_region_held3 (fun w' => w'.cell? ⟨o, 0, none⟩ = some (.int .i64 (m : Int)) ∧ w'.cell? ⟨o, 1, none⟩ = some (.slice a1 L c1)) (first | exact ⟨x0_8, x1_8⟩ | exact ⟨x0, x1⟩ | go_keep) (first
            | (go_at_call 16; refine (HHj.out _ (by first | exact IA.out.rd | exact IA.out.rd.below (k := w7.heap.size) ((Below.refl _ _).drew) (Nat.le_refl _))).mono ?_; rintro e w98 ⟨rfl, hw98⟩; subst w98)
            | (go_at_call 22; refine (HPj.out _).mono ?_; rintro e w99 ⟨rfl, hw99⟩; subst w99)
            | (go_at_call 27; refine (HSj.out _ _ (by first | exact I1.out.rd | exact I1.out.rd.below (k := w7.heap.size) ((Below.refl _ _).drew) (Nat.le_refl _))).mono ?_; rintro e w8 ⟨rfl, hbd⟩; have hb8 : Below w7.heap.size w7 w8 := (by first | exact hbd | exact ⟨hbd.os, hbd.tape, hbd.output, hbd.size, hbd.block⟩); clear hbd; have hz8 := hb8.size; replace X := Lib.hid (X.out.next hb8 (by omega)); replace I1 := Lib.hid (I1.out.below hb8 (Nat.le_refl _)); replace IA := Lib.hid (IA.out.below hb8 (Nat.le_refl _)); replace B := Lib.hid (B.out.trans (hb8.mono (by omega))); replace HBE := Lib.hid (HBE.out.trans (hb8.mono (by omega))); clear hb8; have x0_8 := X.out.out.at0; have x1_8 := X.out.out.at1))
          all_goals
            go_wp2_with fail
            go_roundw
            case rel => exact ⟨j + 1, by omega, by go_num, HBE.out⟩
            case measure => simp [intOf]; omega
        · obtain rfl : j = m := by omega
          clear HHo HPx HSh
          go_wp2_with fail
          refine (HAs.out _ IA.out.rd).mono ?_
          rintro e w9 ⟨rfl, hd9⟩
          have B9 := Lib.hid (show Below w.heap.size w w9 by obtain ⟨d, rfl⟩ := hd9; exact below_drewN B.out d)
          clear hd9
          go_wp2_with fail
          go_ret
          exact ⟨rfl, B9.out⟩
    · rw [Bool.not_eq_true] at hv
      have HI := Lib.hid (fun v w h hs => implDisagreementOf N v zs w h hs)
      have HS := Lib.hid (fun v w h => specDisagreementOf N v zs w h)
      have HV := Lib.hid (fun v w h => implValid N v zs w h)
      have HD : disL N zs = [] := by rw [disL, if_neg (by rw [hv]; decide)]
      rw [HD] at HI HS
      rw [hv] at HV
      clear hv HD
      refine (HI.out _ _ I1.out.rd (by first | exact HSW.out.next B.out | exact (show SW (World.drew _) from HSW.out.next B.out) | exact HSW.out.next (B.out.trans ((Below.refl _ _).drew)))).mono ?_
      rintro e w3 ⟨a3, c3, rfl, hin3, hb3⟩
      have hz3 := hb3.size
      replace X := Lib.hid (X.out.next hb3 (by omega))
      replace I1 := Lib.hid (I1.out.below hb3 (Nat.le_refl _))
      replace B := Lib.hid (B.out.trans (hb3.mono (by omega)))
      have IA := Lib.hid (hin3.mono (Nat.zero_le _))
      clear hin3 hb3
      have x0 := X.out.out.at0
      have x1 := X.out.out.at1
      go_wp2_with fail
      clear x0 x1
      refine (HS.out _ _ I1.out.rd).mono ?_
      rintro e w4 ⟨a4, c4, rfl, hin4, hb4⟩
      have hz4 := hb4.size
      replace X := Lib.hid (X.out.next hb4 (by omega))
      replace I1 := Lib.hid (I1.out.below hb4 (Nat.le_refl _))
      replace IA := Lib.hid (IA.out.below hb4 (Nat.le_refl _))
      replace B := Lib.hid (B.out.trans (hb4.mono (by omega)))
      have IB := Lib.hid (hin4.mono (Nat.zero_le _))
      clear hin4 hb4
      have x0 := X.out.out.at0
      have x1 := X.out.out.at1
      go_wp2_with fail
      clear x0 x1
      have HQ := Lib.hid (lawsEqualInts _ _ [] [] _ IA.out.rd IB.out.rd)
      rw [eqB_self] at HQ
      refine (HQ.out).mono ?_
      rintro e w5 ⟨rfl, hd5⟩
      have hb5 : Below w4.heap.size w4 w5 := by obtain ⟨d, rfl⟩ := hd5; exact below_drewN (Below.refl _ _) d
      clear hd5
      have hz5 := hb5.size
      replace X := Lib.hid (X.out.next hb5 (by omega))
      replace I1 := Lib.hid (I1.out.below hb5 (Nat.le_refl _))
      replace IA := Lib.hid (IA.out.below hb5 (Nat.le_refl _))
      replace IB := Lib.hid (IB.out.below hb5 (Nat.le_refl _))
      replace B := Lib.hid (B.out.trans (hb5.mono (by omega)))
      clear hb5
      have x0 := X.out.out.at0
      have x1 := X.out.out.at1
      go_wp2_with fail
      clear x0 x1
      refine (HV.out _ _ I1.out.rd).mono ?_
      rintro e w6 ⟨rfl, hb6⟩
      have hz6 := hb6.size
      replace X := Lib.hid (X.out.next hb6 (by omega))
      replace I1 := Lib.hid (I1.out.below hb6 (Nat.le_refl _))
      replace IA := Lib.hid (IA.out.below hb6 (Nat.le_refl _))
      replace IB := Lib.hid (IB.out.below hb6 (Nat.le_refl _))
      replace B := Lib.hid (B.out.trans (hb6.mono (by omega)))
      clear hb6
      have x0 := X.out.out.at0
      have x1 := X.out.out.at1
      go_wp2_with fail
      clear x0 x1
      refine (HS.out _ _ I1.out.rd).mono ?_
      rintro e w7 ⟨a7, c7, rfl, hin7, hb7⟩
      have hz7 := hb7.size
      replace X := Lib.hid (X.out.next hb7 (by omega))
      replace I1 := Lib.hid (I1.out.below hb7 (Nat.le_refl _))
      replace IA := Lib.hid (IA.out.below hb7 (Nat.le_refl _))
      replace IB := Lib.hid (IB.out.below hb7 (Nat.le_refl _))
      replace B := Lib.hid (B.out.trans (hb7.mono (by omega)))
      have IC := Lib.hid (hin7.mono (Nat.zero_le _))
      clear hin7 hb7
      have x0 := X.out.out.at0
      have x1 := X.out.out.at1
      go_wp2_with fail
      clear x0 x1
      have HQ2 := Lib.hid (lawsEqualInts _ _ [] [] _ IA.out.rd IC.out.rd)
      rw [eqB_self] at HQ2
      refine (HQ2.out).mono ?_
      rintro e w8 ⟨rfl, hd8⟩
      have hb8 : Below w7.heap.size w7 w8 := by obtain ⟨d, rfl⟩ := hd8; exact below_drewN (Below.refl _ _) d
      clear hd8
      have hz8 := hb8.size
      replace X := Lib.hid (X.out.next hb8 (by omega))
      replace I1 := Lib.hid (I1.out.below hb8 (Nat.le_refl _))
      replace IA := Lib.hid (IA.out.below hb8 (Nat.le_refl _))
      replace IB := Lib.hid (IB.out.below hb8 (Nat.le_refl _))
      replace IC := Lib.hid (IC.out.below hb8 (Nat.le_refl _))
      replace B := Lib.hid (B.out.trans (hb8.mono (by omega)))
      clear hb8
      have x0 := X.out.out.at0
      have x1 := X.out.out.at1
      go_wp2_with fail
      clear x0 x1
      go_ret
      exact ⟨rfl, B.out⟩
  · go_enter Tryd.func5, Tryd.ntmps5
    go_wp2_with fail
    go_ret
    exact ⟨rfl, Below.refl _ _⟩

end Go.Proofs.YthjbkjkfibiceaaDoor
