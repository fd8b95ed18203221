/- FnTeachingNumber's walk: neighbours are told apart. Conditions: the code is a slice of bytes. -/
import Derived.Test.YtedlnjilgabelaaDoorDrawsTn
import Derived.Test.YtedlnjilgabelaaDoorFirstT
import Derived.Test.YtedlnjilgabelaaDoorFirstTS
import Derived.Test.YtedlnjilgabelaaDoorTnbM
import Derived.Test.YtedlnjilgabelaaDoorZJ
import Derived.Test.YtedlnjilgabelaaDoorZK
import Derived.Test.YtedlnjilgabelaaDoorZP
namespace Go.Proofs.YtedlnjilgabelaaDoor
open Go.RowKit

theorem eqB_self (xs : List Int) : eqB xs xs = true := eqB_of rfl (fun _ _ => rfl)

set_option maxHeartbeats 6400000 in
set_option maxRecDepth 100000 in
theorem walkFnTeachingNumber (a : Option Addr) (b off n cap : Nat) (w : World) (hc : n ≤ cap) (hcap : cap ≤ maxLen) (h : Byt w a b off n) (hsw : SW w) :
    Calls Tryd.prog 3 #[.slice a n cap] w fun e w' => e = .returned (.bool true) ∧ Below w.heap.size w w' := by
  have HSW := Lib.hid hsw
  clear hsw
  by_cases hn : n ≤ 1048576
  · have HD := Lib.hid (dDrawTeachingNumber a b off n cap w hc hn hcap h)
    clear h
    go_enter Tryd.func3, Tryd.ntmps3
    go_wp2_with fail
    refine HD.out.mono ?_
    rintro e w1 ⟨N, zs, s, hbd, a1, c1, rfl, hin, hb⟩
    generalize hL : zs.length = L at *
    have X := Lib.hid (Bx.new N (.slice a1 L c1) w1)
    have I1 := Lib.hid ((hin.mono (Nat.zero_le _)).alloc (Obj.cells #[.int .i64 N, .slice a1 L c1] 25))
    have B := Lib.hid (hb.alloc hb.size (Obj.cells #[.int .i64 N, .slice a1 L c1] 25))
    have HZ2 := Lib.hid (show (w1.alloc (Obj.cells #[.int .i64 N, .slice a1 L c1] 25)).heap.size = w1.heap.size + 1 by simp)
    have hz1 := hb.size
    clear hin hb HD
    go_wp2_with fail
    generalize (w1.alloc (Obj.cells #[.int .i64 N, .slice a1 L c1] 25)) = w2 at *
    have hz2 := HZ2.out
    generalize ho : w1.heap.size = o at *
    obtain ⟨hN0, hN1, hL34⟩ := hbd
    have HI := Lib.hid (fun v w h hs => implTeachingNumber N v zs s w h hs)
    have HS := Lib.hid (fun v w h => specTeachingNumber N v zs s w h)
    by_cases hk : ftK N zs s = true
    · have hv : vldB N zs = true := by simp only [ftK, Bool.and_eq_true] at hk; exact hk.1
      obtain ⟨m, ns, rfl, rfl, hcl⟩ := vldB_cls hv
      have hm := hcl.pts
      obtain ⟨u, hu, rfl⟩ : ∃ u, u ∈ ns ∧ (u : Int) = s := by
        simp only [ftK, Bool.and_eq_true, hasB, decide_eq_true_eq, toI, List.mem_map] at hk
        exact hk.2
      have hL2 : ns.length = L := by rw [← hL, toI_length]
      have hfT : tnB (m : Int) (toI ns) (u : Int) = (pc (ftN m u ns) : Nat) := by rw [tnB, if_pos hk, Int.toNat_natCast, Int.toNat_natCast, toNat_toI]
      rw [hfT] at HI HS
      have HE := Lib.hid (fun v w h => implEdgesOf (m : Int) v (toI ns) w h)
      rw [egL_in hv] at HE
      have h1 := Nat.le_trans (eg_at hcl hu) (tn_edges hcl hu)
      have h2 := tn_few hcl hu
      have h3 : pc (ftN m u ns) ≤ m := pc_le m _ hm (ft_eq hcl hu).2.2.1
      have hlen : (egTo ns ns.length).length ≤ 1048576 := by
        have h1 := egL_len (m : Int) (toI ns)
        rw [egL_in hv] at h1
        exact h1
      obtain ⟨K, hK⟩ : ∃ K, K = (egTo ns ns.length).length := ⟨_, rfl⟩
      have HY := Lib.hid (fun (j : Nat) (hj : j < K) => show ∃ a b : Nat, (egTo ns ns.length).getD j (0, 0) = ((a : Int), (b : Int)) by
        have hmem : (egTo ns ns.length).getD j (0, 0) ∈ egTo ns ns.length := by
          rw [List.getD_eq_getElem?_getD, List.getElem?_eq_getElem (by omega)]
          exact List.getElem_mem _
        rw [egTo, List.mem_flatMap] at hmem
        obtain ⟨i, _, hmem⟩ := hmem
        rw [egIn, List.mem_map] at hmem
        obtain ⟨k, _, e⟩ := hmem
        exact ⟨_, _, e.symm⟩)
      rw [← hK] at h1 hlen
      have HKl := Lib.hid hK.symm
      generalize pc (ftN m u ns) = z at *
      generalize egTo ns ns.length = es at *
      have HN1 := Lib.hid h1
      have HNb := Lib.hid (fun (j : Nat) => show nTo es (u : Int) j ≤ j from Nat.le_trans List.countP_le_length (by rw [List.length_take]; omega))
      have HNs := Lib.hid (fun (j : Nat) (hj : j < K) => nTo_succ (es := es) (u := (u : Int)) (j := j) (by rw [HKl.out]; exact hj))
      obtain ⟨l, hl⟩ : ∃ l, l = L - 1 := ⟨_, rfl⟩
      have hwl : IntKind.i64.wrap ((L : Int) - 1) = (l : Int) := by rw [IntKind.wrap_i64]; omega
      have hl0 : ¬ (l : Int) < 0 := by omega
      have hzl : (z : Int) ≤ (l : Int) := by omega
      have hzm : (z : Int) ≤ (m : Int) := by omega
      have hz0 : ¬ (z : Int) < 0 := by omega
      have hzlN : z ≤ l := by omega
      clear h1 h2 h3 hK hl hfT hk hv hcl hu
      refine (HI.out _ _ I1.out.rd (by first | exact HSW.out.next B.out | exact (show SW (World.drew _) from HSW.out.next B.out) | exact HSW.out.next (B.out.trans ((Below.refl _ _).drew)))).mono ?_
      rintro e w3 ⟨rfl, hb3⟩
      have hz3 := hb3.size
      replace X := Lib.hid (X.out.next hb3 X.out.lt)
      replace I1 := Lib.hid (I1.out.below hb3 (Nat.le_refl _))
      replace B := Lib.hid (B.out.trans (hb3.mono B.out.size))
      clear hb3
      have x0 := X.out.out.at0
      have x1 := X.out.out.at1
      go_wp2_with fail
      clear x0 x1
      refine (HS.out _ _ I1.out.rd).mono ?_
      rintro e w4 ⟨rfl, hb4⟩
      have hz4 := hb4.size
      replace X := Lib.hid (X.out.next hb4 X.out.lt)
      replace I1 := Lib.hid (I1.out.below hb4 (Nat.le_refl _))
      replace B := Lib.hid (B.out.trans (hb4.mono B.out.size))
      clear hb4
      have x0 := X.out.out.at0
      have x1 := X.out.out.at1
      go_wp2_with fail
      clear x0 x1
      refine (HE.out _ _ I1.out.rd).mono ?_
      rintro e w5 ⟨a5, c5, rfl, hin5, hb5⟩
      rw [HKl.out] at hin5 ⊢
      have hz5 := hb5.size
      replace X := Lib.hid (X.out.next hb5 X.out.lt)
      replace I1 := Lib.hid (I1.out.below hb5 (Nat.le_refl _))
      replace B := Lib.hid (B.out.trans (hb5.mono B.out.size))
      have IP := Lib.hid (hin5.mono (Nat.zero_le _))
      clear hin5 hb5
      obtain ⟨sr, br, offr, capr, er, q1, -, q5⟩ := IP.out.rd
      rw [HKl.out] at er q1 q5
      simp only [Value.slice.injEq] at er
      obtain ⟨rfl, -, rfl⟩ := er
      have Q1 := Lib.hid q1
      have Q5 := Lib.hid q5
      clear q1 q5
      have x0 := X.out.out.at0
      have x1 := X.out.out.at1
      go_wp2_with fail
      clear x0 x1
      go_loop [6, 8] (fun c i => ∃ j : Nat, j ≤ K ∧ i = .int .i64 j ∧ c = .int .i64 (nTo es (u : Int) j : Nat)) (fun _ i => K - (intOf i).toNat)
      case atStart => exact ⟨0, Nat.zero_le _, rfl, rfl⟩
      case round =>
        obtain ⟨j, hj, rfl, rfl⟩ := hrel
        by_cases hlt : j < K
        · obtain ⟨rfl, gbl⟩ := Q1.out (by omega)
          have hp0 := (Q5.out j hlt).1
          have hp1 := (Q5.out j hlt).2
          obtain ⟨a, b, he⟩ := HY.out j hlt
          have hs := HNs.out j hlt
          rw [he] at hp0 hp1 hs
          have hcb := HNb.out j
          obtain ⟨q, hq⟩ : ∃ q, q = nTo es (u : Int) (j + 1) := ⟨_, rfl⟩
          rw [← hq] at hs
          have HQ := Lib.hid hq
          obtain ⟨c, hc⟩ : ∃ c, c = nTo es (u : Int) j := ⟨_, rfl⟩
          rw [← hc] at hs hcb ⊢
          clear hc hq he
          have hjI : (j : Int) < (K : Int) := by omega
          by_cases ha : a = u
          · have hab : ((a : Int) == (u : Int)) = true := by rw [ha]; simp
            have HS1 := Lib.hid (show q = c + 1 by rw [hs]; simp [ha])
            have hwc : IntKind.i64.wrap ((c : Int) + 1) = (q : Int) := by have := HS1.out; rw [IntKind.wrap_i64]; omega
            clear hs
            go_wp2_with fail
            go_round
            case rel => exact ⟨j + 1, by omega, by go_num, by rw [← HQ.out]⟩
            case measure => simp [intOf]; omega
          · have hab : ((a : Int) == (u : Int)) = false := by simp; omega
            by_cases hb : b = u
            · have hbb : ((b : Int) == (u : Int)) = true := by rw [hb]; simp
              have HS1 := Lib.hid (show q = c + 1 by rw [hs]; simp [hb])
              have hwc : IntKind.i64.wrap ((c : Int) + 1) = (q : Int) := by have := HS1.out; rw [IntKind.wrap_i64]; omega
              clear hs
              go_wp2_with fail
              go_round
              case rel => exact ⟨j + 1, by omega, by go_num, by rw [← HQ.out]⟩
              case measure => simp [intOf]; omega
            · have hbb : ((b : Int) == (u : Int)) = false := by simp; omega
              have HS1 := Lib.hid (show q = c by rw [hs, hab, hbb]; rfl)
              clear hs
              go_wp2_with fail
              go_round
              case rel => exact ⟨j + 1, by omega, by go_num, by rw [← HQ.out, HS1.out]⟩
              case measure => simp [intOf]; omega
        · obtain rfl : j = K := by omega
          have h1 := HN1.out
          generalize nTo es (u : Int) j = c at *
          have hcz : (c : Int) ≤ (z : Int) := by omega
          have x0 := X.out.out.at0
          have x1 := X.out.out.at1
          go_wp2_with fail
          go_ret
          exact ⟨rfl, by first | exact B.out | exact B.out.drew⟩
    · have hb : tnB N zs s = -1 := by rw [tnB, if_neg hk]
      rw [hb] at HI HS
      clear hb hk
      refine (HI.out _ _ I1.out.rd (by first | exact HSW.out.next B.out | exact (show SW (World.drew _) from HSW.out.next B.out) | exact HSW.out.next (B.out.trans ((Below.refl _ _).drew)))).mono ?_
      rintro e w3 ⟨rfl, hb3⟩
      have hz3 := hb3.size
      replace X := Lib.hid (X.out.next hb3 X.out.lt)
      replace I1 := Lib.hid (I1.out.below hb3 (Nat.le_refl _))
      replace B := Lib.hid (B.out.trans (hb3.mono B.out.size))
      clear hb3
      have x0 := X.out.out.at0
      have x1 := X.out.out.at1
      go_wp2_with fail
      clear x0 x1
      refine (HS.out _ _ I1.out.rd).mono ?_
      rintro e w4 ⟨rfl, hb4⟩
      have hz4 := hb4.size
      replace X := Lib.hid (X.out.next hb4 X.out.lt)
      replace I1 := Lib.hid (I1.out.below hb4 (Nat.le_refl _))
      replace B := Lib.hid (B.out.trans (hb4.mono B.out.size))
      clear hb4
      have x0 := X.out.out.at0
      have x1 := X.out.out.at1
      go_wp2_with fail
      clear x0 x1
      refine (HS.out _ _ I1.out.rd).mono ?_
      rintro e w5 ⟨rfl, hb5⟩
      have hz5 := hb5.size
      replace X := Lib.hid (X.out.next hb5 X.out.lt)
      replace I1 := Lib.hid (I1.out.below hb5 (Nat.le_refl _))
      replace B := Lib.hid (B.out.trans (hb5.mono B.out.size))
      clear hb5
      have x0 := X.out.out.at0
      have x1 := X.out.out.at1
      go_wp2_with fail
      clear x0 x1
      go_ret
      exact ⟨rfl, by first | exact B.out | exact B.out.drew⟩
  · go_enter Tryd.func3, Tryd.ntmps3
    go_wp2_with fail
    go_ret
    exact ⟨rfl, Below.refl _ _⟩

end Go.Proofs.YtedlnjilgabelaaDoor
