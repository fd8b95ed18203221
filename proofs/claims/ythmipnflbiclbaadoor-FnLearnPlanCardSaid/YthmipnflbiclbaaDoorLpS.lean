/- LearnPlan, the model's. Conditions: Sets is a slice of ints, the list one of examples. -/
import Derived.Test.YthmipnflbiclbaaDoorConsS
import Derived.Test.YthmipnflbiclbaaDoorLpM
import Derived.Test.YthmipnflbiclbaaDoorLyOS
namespace Go.Proofs.YthmipnflbiclbaaDoor
open Go.RowKit

set_option maxRecDepth 100000 in
set_option maxHeartbeats 3200000 in
theorem specLpIn (m : Nat) (v : Value) (ns : List Nat) (u : Value) (es : List (Int × Bool)) (w : World) (hc : Cls m ns) (hvd : vldB (m : Int) (toI ns) = true) (hpt : ptsTo m es es.length = true) (h12 : es.length ≤ 12) (h : Rd w v (toI ns)) (hu : RdE w u es) :
    Calls Tryd.prog 33 #[.agg #[.int .i64 (m : Int), v], u] w fun e w' => e = .returned (.tuple #[.int .i64 (lpI (lpO (fitK es es.length) (lys ns))), .bool (lpS (lpO (fitK es es.length) (lys ns)))]) ∧ Below w.heap.size w w' := by
  have H := Lib.hid h
  have HU := Lib.hid hu
  have hm := hc.pts
  obtain ⟨a, b, off, cap, rfl, _, _, _⟩ := h
  have HUv := Lib.hid hu
  obtain ⟨a2, b2, off2, cap2, rfl, _, _, _⟩ := hu
  have HV := Lib.hid (fun w0 h0 => specValid (m : Int) (.slice a (toI ns).length cap) (toI ns) w0 h0)
  rw [hvd] at HV
  have HS := Lib.hid (fun v w0 h0 => specSample m hm v es w0 h0)
  have hv : (decide (es.length ≤ 12) && ptsTo m es es.length) = true := by simp [h12, hpt]
  rw [hv] at HS
  have HE := Lib.hid (fun w0 h0 => specLayers m (.slice a (toI ns).length cap) ns w0 hc h0)
  have HK := Lib.hid (fun p (hp : p ∈ lys ns) B v u w0 h0 hu0 => by
    have h9 := lys_mem ns.length ns (Nat.le_refl _) hc p hp
    have h8 : p.1.length ≤ 32 := by rw [h9.1, lay_flt h9.2.2.1]; exact Nat.le_trans (List.length_filter_le _ _) h9.2.2.1.length
    have h7 : ∀ t ∈ p.1, t < 32 := fun t ht => h9.2.2.1.lt32 t (lay_sub (by rw [← h9.1]; exact ht))
    exact specKeepAll m hm B v p.1 u es h8 h7 hpt h12 w0 h0 hu0)
  have hl32 := Nat.le_trans (lys_len ns) hc.length
  have HNF := Lib.hid (fun l => nowTo_flt l es es.length)
  clear hvd hv hpt h12 hc
  generalize fitK es es.length = f at *
  obtain ⟨PL, hPL⟩ : ∃ PL, PL = lys ns := ⟨_, rfl⟩
  rw [← hPL] at HE HK hl32 ⊢
  clear hPL
  go_enter Tryd.func33, Tryd.ntmps33
  go_wp2_with fail
  refine (HV.out _ (H.out.below (by go_grown) (Nat.le_refl _))).mono ?_
  rintro e w1 ⟨rfl, hb⟩
  have B1 := Lib.hid ((Box.made (m : Int) (.slice a (toI ns).length cap) w _).next (by simp) hb)
  have hs1 : w.heap.size < w1.heap.size := by have := hb.size; simp at this; omega
  clear hb
  have c0 := B1.out.at0
  have c1 := B1.out.at1
  have U1 := Lib.hid (HU.out.below B1.out.below (Nat.le_refl _))
  go_wp2_with fail
  refine (HS.out _ _ U1.out).mono ?_
  rintro e w2 ⟨rfl, rfl⟩
  go_wp2_with fail
  refine (HE.out _ (H.out.below B1.out.below (Nat.le_refl _))).mono ?_
  rintro e w3 ⟨a3, k3, bs, rfl, hls, hly, hb3⟩
  have B3 := Lib.hid (B1.out.below.trans (hb3.mono (Nat.le_of_lt hs1)))
  have U3 := Lib.hid (U1.out.below hb3 (Nat.le_refl _))
  have hbl : bs.length ≤ 32 := by rw [hly.1]; exact hl32
  have hbP := hly.1
  have LY := Lib.hid hly
  obtain ⟨a9, b9, o9, c9, e9, l1, l3, l5⟩ := hls.rd
  simp only [Value.slice.injEq] at e9
  obtain ⟨rfl, -, rfl⟩ := e9
  have L1 := Lib.hid l1
  have L5 := Lib.hid l5
  have hs3 : w.heap.size ≤ w3.heap.size := B3.out.size
  clear hb3 hls hly l1 l5 c0 c1 B1 U1 HV HS HE hs1
  obtain ⟨n, hn⟩ : ∃ n, n = bs.length := ⟨_, rfl⟩
  rw [← hn] at hbl hbP L1 L5 l3 ⊢
  have HN := Lib.hid hn
  clear hn
  have H0 := Lib.hid (lpO_nil f)
  have HT := Lib.hid (fun k (hk : k < PL.length) => lpO_take (f := f) hk)
  have HA := Lib.hid (show lpO f PL = lpO f (PL.take n) by rw [hbP, List.take_length])
  have HBP := Lib.hid hbP
  clear hbP
  go_wp2_with fail
  go_loopw [7] (fun i wr => ∃ k : Nat, k ≤ n ∧ i = .int .i64 ((k : Int) - 1) ∧ lpO f PL = lpO f (PL.take k) ∧ Below w3.heap.size w3 wr) (fun i _ => (intOf i + 1).toNat)
  case atStart => exact ⟨n, Nat.le_refl _, rfl, HA.out, Below.refl _ _⟩
  case round =>
    obtain ⟨k, hk, rfl, hlp, hbe⟩ := hrel
    have HLP := Lib.hid hlp
    have BE := Lib.hid hbe
    have hzr := hbe.size
    clear hlp hbe
    by_cases h0 : k = 0
    · subst h0
      have HR := Lib.hid (show lpO f PL = none by rw [HLP.out, List.take_zero]; exact H0.out)
      go_wp2_with fail
      refine bodyPost_ret (v := .tuple #[.int .i64 0, .bool false]) (by simp [results, Tryd.results33, go_sem]) rfl ?_
      exact ⟨by rw [HR.out]; rfl, B3.out.trans (BE.out.mono hs3)⟩
    · obtain ⟨j, rfl⟩ : ∃ j, k = j + 1 := ⟨k - 1, by omega⟩
      rw [show ((j + 1 : Nat) : Int) - 1 = (j : Int) by omega]
      have hjn : j < n := by omega
      obtain ⟨rfl, hbl9⟩ := L1.out (by omega)
      have hcj := (BE.out.cell (p := ⟨b9, o9 + j, none⟩) hbl9).trans (L5.out j hjn)
      have hpj : PL.getD j ([], []) ∈ PL := by
        rw [List.getD_eq_getElem?_getD, List.getElem?_eq_getElem (by rw [← HBP.out]; exact hjn)]
        exact List.getElem_mem _
      have HKj := Lib.hid (HK.out _ hpj)
      have hlyj := LY.out.2 j (by rw [← HN.out]; exact hjn)
      have HIj := Lib.hid (hlyj.below BE.out (Nat.le_refl _))
      have HTj := Lib.hid (HLP.out.trans (HT.out j (by rw [← HBP.out]; exact hjn)))
      have HFl := Lib.hid (HNF.out (PL.getD j ([], [])).1)
      have UR := Lib.hid (U3.out.below BE.out (Nat.le_refl _))
      clear hpj hlyj HLP h0
      generalize (PL.getD j ([], [])).1 = q at *
      generalize nowTo q es es.length = r at *
      rw [← HFl.out] at HTj
      generalize slv (bs.getD j sl0) = sv at *
      go_wp2_with fail
      refine (HKj.out _ _ _ _ HIj.out UR.out).mono ?_
      rintro e w4 ⟨a4, c4, rfl, hin4, hb4⟩
      have B4 := Lib.hid (BE.out.trans (hb4.mono hzr))
      clear hb4
      rw [toI_length] at hin4 ⊢
      cases r with
      | nil =>
        have HX := Lib.hid (show lpO f PL = lpO f (PL.take j) by rw [HTj.out]; rfl)
        go_wp2_with fail
        go_roundw
        case rel => exact ⟨j, by omega, by go_num, HX.out, B4.out⟩
        case measure => simp [intOf]
      | cons t r =>
        have HX := Lib.hid (show lpO f PL = some t by rw [HTj.out]; rfl)
        have hsh := hin4.rd
        obtain ⟨a8, b8, o8, c8, e8, k1, k3', k5⟩ := hsh
        simp only [Value.slice.injEq] at e8
        obtain ⟨rfl, -, rfl⟩ := e8
        rw [toI_length] at k1 k5
        obtain ⟨rfl, hb8⟩ := k1 (by simp)
        have hc0 := k5 0 (by simp)
        have hc0' : w4.cell? ⟨b8, o8, none⟩ = some (.int .i64 (t : Int)) := hc0
        have hlen : (t :: r).length = r.length + 1 := rfl
        rw [hlen]
        generalize r.length = q9 at *
        clear hc0 k1 k5 hin4 hlen
        go_wp2_with fail
        refine bodyPost_ret (v := .tuple #[.int .i64 (t : Int), .bool true]) (by simp [results, Tryd.results33, go_sem]) rfl ?_
        exact ⟨by rw [HX.out]; rfl, B3.out.trans (B4.out.mono hs3)⟩

set_option maxRecDepth 100000 in
set_option maxHeartbeats 1600000 in
theorem specLearnPlan (n : Int) (v : Value) (zs : List Int) (u : Value) (es : List (Int × Bool)) (w : World) (h : Rd w v zs) (hu : RdE w u es) :
    Calls Tryd.prog 33 #[.agg #[.int .i64 n, v], u] w fun e w' => e = .returned (.tuple #[.int .i64 (lpI (lpN n zs es)), .bool (lpS (lpN n zs es))]) ∧ Below w.heap.size w w' := by
  by_cases hvs : vsB n zs es = true
  · have hvd : vldB n zs = true := by simp only [vsB, Bool.and_eq_true] at hvs; exact hvs.1
    have hpt : ptsTo n es es.length = true := by simp only [vsB, Bool.and_eq_true] at hvs; exact hvs.2.2
    have h12 : es.length ≤ 12 := by simp only [vsB, Bool.and_eq_true, decide_eq_true_eq] at hvs; exact hvs.2.1
    obtain ⟨m, ns, rfl, rfl, hc⟩ := vldB_cls hvd
    rw [lpN_in hvs]
    exact specLpIn m v ns u es w hc hvd hpt h12 h hu
  · rw [Bool.not_eq_true] at hvs
    rw [lpN_bad hvs]
    have H := Lib.hid h
    have HU := Lib.hid hu
    obtain ⟨a, b, off, cap, rfl, _, _, _⟩ := h
    obtain ⟨a2, b2, off2, cap2, rfl, _, _, _⟩ := hu
    have HV := Lib.hid (fun w0 h0 => specValid n (.slice a zs.length cap) zs w0 h0)
    by_cases hv : vldB n zs = true
    · obtain ⟨m, ns, rfl, rfl, hc⟩ := vldB_cls hv
      have HS := Lib.hid (fun v w0 h0 => specSample m hc.pts v es w0 h0)
      rw [vsB_in hv] at hvs
      rw [hvs] at HS
      rw [hv] at HV
      clear hv hvs hc
      go_enter Tryd.func33, Tryd.ntmps33
      go_wp2_with fail
      refine (HV.out _ (H.out.below (by go_grown) (Nat.le_refl _))).mono ?_
      rintro e w1 ⟨rfl, hb⟩
      have B1 := Lib.hid ((Box.made (m : Int) (.slice a (toI ns).length cap) w _).next (by simp) hb)
      clear hb
      have c0 := B1.out.at0
      have c1 := B1.out.at1
      have U1 := Lib.hid (HU.out.below B1.out.below (Nat.le_refl _))
      go_wp2_with fail
      refine (HS.out _ _ U1.out).mono ?_
      rintro e w2 ⟨rfl, rfl⟩
      go_wp2_with fail
      refine bodyPost_ret (v := .tuple #[.int .i64 0, .bool false]) (by simp [results, Tryd.results33, go_sem]) rfl ?_
      exact ⟨rfl, B1.out.below⟩
    · rw [Bool.not_eq_true] at hv
      rw [hv] at HV
      clear hv hvs
      go_enter Tryd.func33, Tryd.ntmps33
      go_wp2_with fail
      refine (HV.out _ (H.out.below (by go_grown) (Nat.le_refl _))).mono ?_
      rintro e w1 ⟨rfl, hb⟩
      have B1 := Lib.hid ((Box.made n (.slice a zs.length cap) w _).next (by simp) hb)
      clear hb
      go_wp2_with fail
      refine bodyPost_ret (v := .tuple #[.int .i64 0, .bool false]) (by simp [results, Tryd.results33, go_sem]) rfl ?_
      exact ⟨rfl, B1.out.below⟩

end Go.Proofs.YthmipnflbiclbaaDoor
