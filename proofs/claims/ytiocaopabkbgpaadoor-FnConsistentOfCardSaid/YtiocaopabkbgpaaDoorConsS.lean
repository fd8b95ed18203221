/- ConsistentOf, the model's. Conditions: Sets is a slice of ints of its own, the list one of examples. -/
import Derived.Deep.RegionWith
import Derived.Test.YtiocaopabkbgpaaDoorZL
import Derived.Test.YtiocaopabkbgpaaDoorZM
namespace Go.Proofs.YtiocaopabkbgpaaDoor
open Go.RowKit

theorem Ints.src {B n c : Nat} {w : World} {a : Option Addr} {xs : List Int} (h : Ints B w (.slice a n c) xs) : Src w a n c xs := by
  refine h.rd.src (fun e => ?_)
  obtain ⟨a', g, cap, e2, _, hn, _⟩ := h.shape
  simp only [Value.slice.injEq] at e2
  obtain ⟨rfl, rfl, rfl⟩ := e2
  obtain ⟨rfl, rfl⟩ := hn e
  exact ⟨rfl, rfl⟩

set_option maxHeartbeats 3200000 in
set_option maxRecDepth 100000 in
theorem specKeepAll (m : Nat) (hm : m ≤ 5) (B : Nat) (v : Value) (ns : List Nat) (u : Value) (es : List (Int × Bool)) (hl : ns.length ≤ 32) (h32 : ∀ t ∈ ns, t < 32) (hp : ptsTo m es es.length = true) (h12 : es.length ≤ 12) (w : World) (h : Ints B w v (toI ns)) (hu : RdE w u es) :
    Calls Tryd.prog 54 #[v, u] w (RetInts (toI (nowTo ns es es.length)) w) := by
  have H := Lib.hid h
  obtain ⟨a, g, cap, rfl, _, _, _⟩ := h.shape
  obtain ⟨a2, b2, off2, cap2, rfl, he1, _, he5⟩ := hu
  have HE1 := Lib.hid he1
  have HE5 := Lib.hid he5
  have H32 := Lib.hid h32
  have HP := Lib.hid hp
  rw [toI_length] at H ⊢
  clear he1 he5 h h32 hp
  go_enter Tryd.func54, Tryd.ntmps54
  go_wp2_with fail
  go_loopw [5, 6] (fun o i wr => ∃ (k : Nat) (a' : Option Addr) (c' : Nat) (B' : Nat), k ≤ es.length ∧ i = .int .i64 k ∧ o = .slice a' (nowTo ns es k).length c' ∧ Ints B' wr (.slice a' (nowTo ns es k).length c') (toI (nowTo ns es k)) ∧ Below w.heap.size w wr) (fun _ i _ => es.length - (intOf i).toNat)
  case atStart => exact ⟨0, _, _, _, Nat.zero_le _, rfl, rfl, H.out, Below.refl _ _⟩
  case round =>
    obtain ⟨k, a', c', B', hk, rfl, rfl, hin, hbe⟩ := hrel
    have HIN := Lib.hid hin
    have BE := Lib.hid hbe
    have hz := hbe.size
    clear hin hbe
    obtain ⟨hsub, hln⟩ := nowTo_sub ns es k
    by_cases hlt : k < es.length
    · obtain ⟨rfl, hbl⟩ := HE1.out (by omega)
      have hc0 := (BE.out.cell (p := ⟨b2, off2 + k * 2, none⟩) hbl).trans (HE5.out k hlt).1
      have hc1 := (BE.out.cell (p := ⟨b2, off2 + k * 2 + 1, none⟩) hbl).trans (HE5.out k hlt).2
      obtain ⟨hp0, hp1⟩ := pts_at HP.out hlt
      have HE := Lib.hid (show es.getD k (0, false) = ((es.getD k (0, false)).1, (es.getD k (0, false)).2) from rfl)
      have HNS := Lib.hid (show nowTo ns es (k + 1) = kp (nowTo ns es k) (es.getD k (0, false)) from rfl)
      have HSub32 := Lib.hid (fun t ht => H32.out t (hsub t ht))
      clear hsub
      rw [HE.out] at HNS
      obtain ⟨x, hx⟩ := Int.eq_ofNat_of_zero_le hp0
      rw [hx] at hc0 hp0 hp1 HNS
      generalize (es.getD k (0, false)).2 = lb at *
      have hx5 : x < 5 := by omega
      have hkI : (k : Int) < (es.length : Int) := by omega
      clear hx HE
      have HKP := Lib.hid (show kp (nowTo ns es k) ((x : Int), lb) = (nowTo ns es k).filter (fun s => hasX x s == lb) by unfold kp; rw [Int.toNat_natCast])
      generalize nowTo ns es k = L at *
      have HF := Lib.hid (fun v w h => specKeep v L x lb hx5 HSub32.out (by omega) w h)
      rw [← HKP.out] at HF
      go_wp2_with fail
      refine (HF.out _ _ (by first | exact HIN.out.rd | exact HIN.out.rd.below (k := wr.heap.size) (by go_grown) (Nat.le_refl _))).mono ?_
      rintro e w6 ⟨a6, c6, rfl, hin6, hb6⟩
      have I6 := Lib.hid hin6
      have B6 := Lib.hid (BE.out.trans (hb6.mono hz))
      rw [toI_length] at I6 ⊢
      clear hin6 hb6
      go_wp2_with fail
      go_roundw
      case rel => exact ⟨k + 1, a6, c6, _, by omega, by go_num, by rw [HNS.out], by rw [HNS.out]; exact I6.out, B6.out⟩
      case measure => simp [intOf]; omega
    · obtain rfl : k = es.length := by omega
      clear hsub
      generalize nowTo ns es es.length = L at *
      have HAl := Lib.hid (toI_length L)
      go_wp2_with (at_builtin; refine wpList_app rfl (.tmp 20) (.tmp 21) rfl wr.heap.size _ [] rfl (Ints.lit' (by simp) (by simp)) _ _ _ (toI L) rfl (HIN.out.alloc _).src (by simp; omega) (by simp) ?_; intro a1 c1 w3 hin3 hb3 hg3; have H13 := Lib.hid (show Below wr.heap.size wr w3 from Below.trans ((Below.refl _ _).alloc (by omega) _) hb3); have I3 := Lib.hid hin3; clear hin3 hb3 hg3)
      go_ret
      refine ⟨a1, c1, by rw [HAl.out]; simp, ?_, BE.out.trans (H13.out.mono hz)⟩
      rw [HAl.out]
      have h3 := I3.out
      simp only [List.length_nil, Nat.zero_add, List.nil_append] at h3
      exact h3.mono hz

set_option maxHeartbeats 6400000 in
set_option maxRecDepth 100000 in
theorem specConsistentOf (n : Int) (B : Nat) (v : Value) (zs : List Int) (u : Value) (es : List (Int × Bool)) (w : World) (h : Ints B w v zs) (hu : RdE w u es) :
    Calls Tryd.prog 14 #[.agg #[.int .i64 n, v], u] w (RetClass (conN n zs es) (conL n zs es) w) := by
  have HI := Lib.hid h
  have H := Lib.hid h.rd
  have HU := Lib.hid hu
  obtain ⟨a, g, cap, rfl, _, _, _⟩ := h.shape
  clear h
  obtain ⟨a2, b2, off2, cap2, rfl, _, _, _⟩ := hu
  by_cases hvd : vldB n zs = true
  · obtain ⟨m, ns, rfl, rfl, hc⟩ := vldB_cls hvd
    have hm := hc.pts
    have HC := Lib.hid hc
    have HV := Lib.hid hvd
    have hl := hc.length
    rw [toI_length] at H HI ⊢
    have OB := Lib.hid (show Out m (.slice a ns.length cap) w.heap.size ((w.alloc (Obj.cells #[.int .i64 (m : Int), .slice a ns.length cap] 25)).alloc (Obj.cells #[.int .i64 0, .slice none 0 0] 25)) from ⟨by simp [go_sem], by simp [go_sem], by simp [go_sem], by simp [go_sem]⟩)
    have OR := Lib.hid (show Out 0 (.slice none 0 0) (w.heap.size + 1) ((w.alloc (Obj.cells #[.int .i64 (m : Int), .slice a ns.length cap] 25)).alloc (Obj.cells #[.int .i64 0, .slice none 0 0] 25)) from ⟨by simp [go_sem], by simp [go_sem], by simp [go_sem], by simp [go_sem]⟩)
    by_cases hv : (decide (es.length ≤ 12) && ptsTo m es es.length) = true
    · have hpt : ptsTo m es es.length = true := by simp only [Bool.and_eq_true] at hv; exact hv.2
      have h12 : es.length ≤ 12 := by simp only [Bool.and_eq_true, decide_eq_true_eq] at hv; exact hv.1
      have HVV := Lib.hid hv
      have HN := Lib.hid (show conN m (toI ns) es = m by rw [conN, if_pos (by rw [vsB_in hvd]; exact hv)])
      have HT := Lib.hid (show conL m (toI ns) es = toI (nowTo ns es es.length) by rw [conL, if_pos (by rw [vsB_in hvd]; exact hv), toNat_toI])
      have HKA := Lib.hid (fun B v u w h hu => specKeepAll m hm B v ns u es hl HC.out.lt32 hpt h12 w h hu)
      generalize nowTo ns es es.length = L at *
      have HLl := Lib.hid (toI_length L)
      clear hv hvd hpt hc
      go_enter Tryd.func14, Tryd.ntmps14
      go_wp2_with fail
      refine (specValid m _ (toI ns) _ (H.out.below (k := w.heap.size) (by go_grown) (Nat.le_refl _))).mono ?_
      rintro e w1 ⟨rfl, hb⟩
      rw [HV.out]
      have hs1 : w.heap.size + 1 < w1.heap.size := by have := hb.size; simp at this; omega
      have OB1 := Lib.hid (OB.out.next hb (by simp only [World.size_alloc]; omega))
      have OR1 := Lib.hid (OR.out.next hb (by simp only [World.size_alloc]; omega))
      have HB1 := Lib.hid (show Below w.heap.size w w1 from Below.trans (by go_grown) (hb.mono (by simp; omega)))
      clear hb
      have U1 := Lib.hid (HU.out.below HB1.out (Nat.le_refl _))
      have I1 := Lib.hid (HI.out.below HB1.out (Nat.le_refl _))
      have c0 := OB1.out.at0
      have c1 := OB1.out.at1
      go_wp2_with fail
      refine (specSample m hm _ es _ U1.out).mono ?_
      rintro e w2 ⟨rfl, rfl⟩
      rw [HVV.out]
      clear c0 c1
      have HZ := Lib.hid hs1
      have b0 := OB1.out.at0
      have b1 := OB1.out.at1
      have r0 := OR1.out.at0
      have r1 := OR1.out.at1
      have q0 := OR1.out.free0
      have q1 := OR1.out.free1
      go_wp2_with fail
      go_region_with (go_at_call 54; refine (HKA.out _ _ _ _ (Ints.below I1.out (k := w2.heap.size) (by first | exact Below.refl _ _ | exact (Below.refl _ _).drew) (Nat.le_refl _)) (RdE.below U1.out (k := w2.heap.size) (by first | exact Below.refl _ _ | exact (Below.refl _ _).drew) (Nat.le_refl _))).mono ?_; rintro e w4 ⟨a4, c4, rfl, hin4, hb4⟩; have hb34 : Below w2.heap.size w2 w4 := Below.trans (by first | exact Below.refl _ _ | exact (Below.refl _ _).drew) hb4; have I4 := Lib.hid (show Ints w2.heap.size w4 _ _ from hin4); have OB4 := Lib.hid (OB1.out.next hb34 (by have := HZ.out; omega)); have OR4 := Lib.hid (OR1.out.next hb34 HZ.out); have B4 := Lib.hid (show Below w.heap.size w w4 from HB1.out.trans (hb34.mono (by have := HZ.out; omega))); clear hin4 hb4 hb34; rw [HLl.out] at I4 ⊢; have b0 := OB4.out.at0; have s0 := OR4.out.at0; have s1 := OR4.out.at1; have p0 := OR4.out.free0; have p1 := OR4.out.free1)
      all_goals
        go_wp2_with fail
        refine bodyPost_ret (v := .agg #[.int .i64 (m : Int), .slice a4 L.length c4]) (by simp [results, Tryd.results14, go_sem, s0, s1]) rfl ?_
        rw [HN.out, HT.out]
        refine ⟨a4, c4, by rw [HLl.out], ?_, ?_⟩
        · rw [HLl.out]
          refine Ints.mono (B := w2.heap.size) ?_ (by have := HZ.out; omega)
          repeat (refine Ints.setCell_below ?_ (by have := HZ.out; simp; omega) _)
          exact I4.out
        · have hb0 := B4.out
          clear r0 r1 q0 q1 b0 b1 s0 s1 p0 p1
          go_grown
    · have HN := Lib.hid (show conN m (toI ns) es = 0 by rw [conN, if_neg (by rw [vsB_in hvd]; exact hv)])
      have HT := Lib.hid (show conL m (toI ns) es = [] by rw [conL, if_neg (by rw [vsB_in hvd]; exact hv)])
      rw [Bool.not_eq_true] at hv
      have HVV := Lib.hid hv
      clear hv hvd hc
      go_enter Tryd.func14, Tryd.ntmps14
      go_wp2_with fail
      refine (specValid m _ (toI ns) _ (H.out.below (k := w.heap.size) (by go_grown) (Nat.le_refl _))).mono ?_
      rintro e w1 ⟨rfl, hb⟩
      rw [HV.out]
      have hs1 : w.heap.size + 1 < w1.heap.size := by have := hb.size; simp at this; omega
      have OB1 := Lib.hid (OB.out.next hb (by simp only [World.size_alloc]; omega))
      have OR1 := Lib.hid (OR.out.next hb (by simp only [World.size_alloc]; omega))
      have HB1 := Lib.hid (show Below w.heap.size w w1 from Below.trans (by go_grown) (hb.mono (by simp; omega)))
      clear hb
      have U1 := Lib.hid (HU.out.below HB1.out (Nat.le_refl _))
      have c0 := OB1.out.at0
      have c1 := OB1.out.at1
      go_wp2_with fail
      refine (specSample m hm _ es _ U1.out).mono ?_
      rintro e w2 ⟨rfl, rfl⟩
      rw [HVV.out]
      clear c0 c1
      have r0 := OR1.out.at0
      have r1 := OR1.out.at1
      have q0 := OR1.out.free0
      have q1 := OR1.out.free1
      go_wp2_with fail
      refine bodyPost_ret (v := .agg #[.int .i64 0, .slice none 0 0]) (by simp [results, Tryd.results14, go_sem, r0, r1]) rfl ?_
      rw [HN.out, HT.out]
      refine ⟨none, 0, rfl, Ints.nil _ _, ?_⟩
      have hb0 := HB1.out
      clear r0 r1 q0 q1
      go_grown
  · have HN := Lib.hid (show conN n zs es = 0 by rw [conN, if_neg (by rw [vsB]; simp [hvd])])
    have HT := Lib.hid (show conL n zs es = [] by rw [conL, if_neg (by rw [vsB]; simp [hvd])])
    rw [Bool.not_eq_true] at hvd
    have HV := Lib.hid hvd
    clear hvd
    go_enter Tryd.func14, Tryd.ntmps14
    go_wp2_with fail
    refine (specValid n _ zs _ (H.out.below (k := w.heap.size) (by go_grown) (Nat.le_refl _))).mono ?_
    rintro e w1 ⟨rfl, hb⟩
    rw [HV.out]
    obtain ⟨hc, hf⟩ := bcell hb
    have Hb := Lib.hid hb
    clear hb
    go_wp2_with fail
    refine bodyPost_ret (v := .agg #[.int .i64 0, .slice none 0 0]) (by simp [results, Tryd.results14, go_sem, hc]) rfl ?_
    rw [HN.out, HT.out]
    refine ⟨none, 0, rfl, Ints.nil _ _, ?_⟩
    have hb0 : Below w.heap.size w w1 := Below.trans (by go_grown) (Hb.out.mono (by simp; omega))
    clear hc hf
    go_grown

end Go.Proofs.YtiocaopabkbgpaaDoor
