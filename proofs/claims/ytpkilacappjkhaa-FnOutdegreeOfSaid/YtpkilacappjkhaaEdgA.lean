/- EdgesOf, the program's, where what nodesOf answers is known. Conditions: Sets is a slice of ints. -/
import Derived.Deep.RegionHeld3
import Derived.Test.YtpkilacappjkhaaAppN
import Derived.Test.YtpkilacappjkhaaAppP
import Derived.Test.YtpkilacappjkhaaEdgN
import Derived.Test.YtpkilacappjkhaaZD
namespace Go.Proofs.Ytpkilacappjkhaa
open Go.RowKit

/-- the nodes of the sets ns, that of a set s in the block bl s -/
structure Nds (bl : Nat → Nat) (w : World) (v : Value) (ns : List Nat) (m : Nat) : Prop where
  row : RdN w v (ns.map bl)
  set : ∀ s ∈ ns, bl s < w.heap.size ∧ w.cell? ⟨bl s, 0, none⟩ = some (.int .i64 (s : Nat))
  near : ∀ s ∈ ns, ∃ nv, w.cell? ⟨bl s, 1, none⟩ = some nv ∧ RdN w nv ((nearTo ns s m).map bl)
  given : ∀ s ∈ ns, w.cell? ⟨bl s, 2, none⟩ = some (.slice none 0 0)

/-- the pairs of s with those of the first k of l that are more -/
def nrIn (l : List Nat) (s k : Nat) : List (Int × Int) := ((l.take k).filter (fun t => decide (s < t))).map (fun t => (((s : Nat) : Int), ((t : Nat) : Int)))
theorem nrIn_yes {l : List Nat} {s k : Nat} (hk : k < l.length) (h : s < l.getD k 0) : nrIn l s (k + 1) = nrIn l s k ++ [(((s : Nat) : Int), ((l.getD k 0 : Nat) : Int))] := by
  have e : l.getD k 0 = l[k] := by rw [List.getD_eq_getElem?_getD, List.getElem?_eq_getElem hk, Option.getD_some]
  rw [e] at h ⊢
  have h2 : decide (s < l[k]) = true := decide_eq_true h
  simp only [nrIn, List.take_succ_eq_append_getElem hk, List.filter_append, List.map_append, List.filter_cons, List.filter_nil, h2, ↓reduceIte, List.map_cons, List.map_nil]
theorem nrIn_no {l : List Nat} {s k : Nat} (hk : k < l.length) (h : ¬ s < l.getD k 0) : nrIn l s (k + 1) = nrIn l s k := by
  have e : l.getD k 0 = l[k] := by rw [List.getD_eq_getElem?_getD, List.getElem?_eq_getElem hk, Option.getD_some]
  rw [e] at h
  have h2 : decide (s < l[k]) = false := decide_eq_false h
  simp only [nrIn, List.take_succ_eq_append_getElem hk, List.filter_append, List.filter_cons, List.filter_nil, h2, Bool.false_eq_true, ↓reduceIte, List.append_nil]
theorem nrIn_len (l : List Nat) (s k : Nat) : (nrIn l s k).length ≤ k := by
  rw [nrIn, List.length_map]
  have := List.length_filter_le (fun t => decide (s < t)) (l.take k)
  rw [List.length_take] at this
  omega
theorem nrIn_eg {m : Nat} {ns : List Nat} (hc : Cls m ns) {i : Nat} (hi : i < ns.length) : nrIn (nearTo ns (ns.getD i 0) m) (ns.getD i 0) (nearTo ns (ns.getD i 0) m).length = egIn ns i ns.length := by
  rw [eg_near hc hi, nrIn, List.take_length]
theorem mapbl_getD {bl : Nat → Nat} {l : List Nat} {k : Nat} (h : k < l.length) : (l.map bl).getD k 0 = bl (l.getD k 0) := by
  rw [List.getD_eq_getElem?_getD, List.getD_eq_getElem?_getD, List.getElem?_map, List.getElem?_eq_getElem h]
  rfl

set_option maxHeartbeats 6400000 in
set_option maxRecDepth 100000 in
theorem implEdgesBy (n : Int) (v : Value) (zs : List Int) (w : World) (h : Rd w v zs)
    (HN : ∀ (m : Nat) (ns : List Nat) (v : Value) (w : World), Cls m ns → Rd w v (toI ns) → Calls Try.prog 16 #[.agg #[.int .i64 m, v]] w fun e w' => ∃ bl v', e = .returned v' ∧ Nds bl w' v' ns m ∧ Below w.heap.size w w') :
    Calls Try.prog 9 #[.agg #[.int .i64 n, v]] w (RetPr (egL n zs) w) := by
  have H := Lib.hid h
  obtain ⟨a, b, off, cap, rfl, h1, h3, h5⟩ := h
  by_cases hv : vldB n zs = true
  · obtain ⟨m, ns, rfl, rfl, hc⟩ := vldB_cls hv
    have hm := hc.pts
    rw [toI_length] at H h1 h3 h5 ⊢
    have HT := Lib.hid (egL_in hv)
    have HV := Lib.hid hv
    have HC := Lib.hid hc
    have hl := hc.length
    have HLen := Lib.hid (fun j => egTo_len (ns := ns) hl j)
    have HQ := Lib.hid (fun w h => HN m ns (.slice a ns.length cap) w hc h)
    clear hv hc h1 h5 HN
    go_enter Try.func9, Try.ntmps9
    go_wp2_with fail
    refine (implValid m _ (toI ns) _ (H.out.below (k := w.heap.size) (by go_grown) (Nat.le_refl _))).mono ?_
    rintro e w1 ⟨rfl, hb⟩
    rw [HV.out]
    have B1 := Lib.hid ((Box.made m (.slice a ns.length cap) w _).next (by simp) hb)
    have hs1 : w.heap.size < w1.heap.size := by have := hb.size; simp at this; omega
    clear hb
    have c0 := B1.out.at0
    have c1 := B1.out.at1
    go_wp2_with fail
    refine (HQ.out _ (H.out.below B1.out.below (Nat.le_refl _))).mono ?_
    rintro e w2 ⟨bl, v2, rfl, hnd, hb2⟩
    clear c0 c1
    have B2 := Lib.hid (B1.out.next hs1 hb2)
    have ND := Lib.hid hnd
    have hs2 : w.heap.size < w2.heap.size := by have := hb2.size; omega
    obtain ⟨na, nb, noff, ncap, rfl, hn1, _, hn3⟩ := hnd.row
    rw [List.length_map] at hn1 hn3 ⊢
    have HN1 := Lib.hid hn1
    have HN3 := Lib.hid hn3
    clear hb2 B1 hnd hn1 hn3
    go_wp2_with fail
    go_loopw [14, 3] (fun i o wr => ∃ (j : Nat) (a' : Option Addr) (c' : Nat), j ≤ ns.length ∧ i = .int .i64 j ∧ o = .slice a' (egTo ns j).length c' ∧ PrS w2.heap.size wr (.slice a' (egTo ns j).length c') (egTo ns j) ∧ Below w2.heap.size w2 wr) (fun i _ _ => ns.length - (intOf i).toNat)
    case atStart => exact ⟨0, none, 0, Nat.zero_le _, rfl, rfl, PrS.nil _ _, Below.refl _ _⟩
    case round =>
      obtain ⟨j, a', c', hj, rfl, rfl, hin, hbe⟩ := hrel
      have HIN := Lib.hid hin
      have HBE := Lib.hid hbe
      have hzr := hbe.size
      clear hin hbe
      by_cases hlt : j < ns.length
      · obtain ⟨rfl, hnl⟩ := HN1.out (by omega)
        have HS := Lib.hid ((egTo_succ ns j).trans (by rw [← nrIn_eg HC.out hlt]))
        have hel := HLen.out j
        have hsm : ns.getD j 0 ∈ ns := getD_of_lt hlt
        have hnl2 := near_len ns (ns.getD j 0) m
        have HNM := Lib.hid (fun t (ht : t ∈ nearTo ns (ns.getD j 0) m) => near_mem ht)
        have hp0 : wr.cell? ⟨nb, noff + j, none⟩ = some (.pointer (some ⟨bl (ns.getD j 0), 0, none⟩)) := (HBE.out.cell (p := ⟨nb, noff + j, none⟩) hnl).trans ((HN3.out j hlt).trans (by rw [mapbl_getD hlt]; rfl))
        obtain ⟨hxl, hx0⟩ := ND.out.set _ hsm
        obtain ⟨nv, hx1, hnr⟩ := ND.out.near _ hsm
        obtain ⟨ra, rb, roff, rcap, rfl, hr1, _, hr3⟩ := hnr
        rw [List.length_map] at hr1 hr3 hx1
        have HX0 := Lib.hid hx0
        have HR1 := Lib.hid hr1
        have HR3 := Lib.hid hr3
        have hx1r := (HBE.out.cell (p := ⟨bl (ns.getD j 0), 1, none⟩) hxl).trans hx1
        clear hx0 hr1 hr3 hx1 hsm
        have HMG := Lib.hid (fun k (hk : k < (nearTo ns (ns.getD j 0) m).length) => mapbl_getD (bl := bl) hk)
        generalize egTo ns j = E at *
        generalize nearTo ns (ns.getD j 0) m = l at *
        generalize ns.getD j 0 = x at *
        generalize bl x = X at *
        go_wp2_with fail
        clear hp0 hx1r
        go_loopw [23, 3] (fun i o wq => ∃ (k : Nat) (a' : Option Addr) (c' : Nat), k ≤ l.length ∧ i = .int .i64 k ∧ o = .slice a' (E ++ nrIn l x k).length c' ∧ PrS w2.heap.size wq (.slice a' (E ++ nrIn l x k).length c') (E ++ nrIn l x k) ∧ Below w2.heap.size w2 wq) (fun i _ _ => l.length - (intOf i).toNat)
        case atStart =>
          refine ⟨0, a', c', Nat.zero_le _, rfl, ?_, ?_, HBE.out⟩
          · rw [show nrIn l x 0 = [] from rfl, List.append_nil]
          · rw [show nrIn l x 0 = [] from rfl, List.append_nil]; exact HIN.out
        case round =>
          obtain ⟨k, a2, c2, hk, rfl, rfl, hin2, hbf⟩ := hrel
          have HIN2 := Lib.hid hin2
          have HBF := Lib.hid hbf
          have hzq := hbf.size
          clear hin2 hbf HIN
          by_cases hkl : k < l.length
          · obtain ⟨rfl, hrl⟩ := HR1.out (by omega)
            have hil := nrIn_len l x k
            have hcy : x < l.getD k 0 → E ++ nrIn l x (k + 1) = E ++ nrIn l x k ++ [((x : Int), ((l.getD k 0 : Nat) : Int))] := fun h => by rw [nrIn_yes hkl h, List.append_assoc]
            have hcn : ¬ x < l.getD k 0 → E ++ nrIn l x (k + 1) = E ++ nrIn l x k := fun h => by rw [nrIn_no hkl h]
            have hp0 : wr.cell? ⟨rb, roff + k, none⟩ = some (.pointer (some ⟨bl (l.getD k 0), 0, none⟩)) := (HBF.out.cell (p := ⟨rb, roff + k, none⟩) hrl).trans ((HR3.out k hkl).trans (by rw [HMG.out k hkl]; rfl))
            obtain ⟨hyl, hy0⟩ := ND.out.set _ (HNM.out _ (getD_of_lt hkl))
            have hcx := (HBF.out.cell (p := ⟨X, 0, none⟩) hxl).trans HX0.out
            have hcyy := (HBF.out.cell (p := ⟨bl (l.getD k 0), 0, none⟩) hyl).trans hy0
            have HLE := Lib.hid (show (E ++ nrIn l x k).length ≤ 1000000 by rw [List.length_append]; omega)
            clear hy0
            generalize E ++ nrIn l x k = F at *
            generalize l.getD k 0 = y at *
            generalize bl y = Y at *
            by_cases hxy : x < y
            · have hxyI : (x : Int) < (y : Int) := by omega
              have HCY := Lib.hid (hcy hxy)
              clear hcy hcn hxy
              go_wp2_with fail
              clear hp0
              go_region_held3 (fun w' => w'.cell? ⟨X, 0, none⟩ = some (.int .i64 (x : Int)) ∧ w'.cell? ⟨Y, 0, none⟩ = some (.int .i64 (y : Int))) (first | exact ⟨hcx, hcyy⟩ | go_keep) (fail)
              go_wp2_with fail
              go_region_law (first
                | (refine step_appP rfl (.tmp 36) (.tmp 46) rfl w2.heap.size _ F rfl (by exact HIN2.out.alloc _) _ (x : Int) (y : Int) rfl ⟨by simp only [cell_drew]; rw [World.cell?_alloc_at _ _ _ _ (by simp)]; rfl, by simp only [cell_drew]; rw [World.cell?_alloc_at _ _ _ _ (by simp)]; rfl⟩ (by exact HLE.out) (by simp; omega) ?_; intro a1 c1 w3 hin3 hb3 hg3; have H13 := Lib.hid (show Below w2.heap.size w2 w3 from Below.trans (by first | exact (HBF.out.alloc (by omega) _).drew.drew | exact (HBF.out.drew.drew).alloc (by first | omega | (simp; omega)) _) hb3); have I3 := Lib.hid hin3; clear hin3 hb3 hg3))
              all_goals
                go_wp2_with fail
                go_roundw
                case rel => exact ⟨k + 1, a1, c1, by omega, by go_num, by rw [HCY.out, List.length_append]; rfl, by rw [HCY.out, List.length_append]; exact I3.out, H13.out⟩
                case measure => simp [intOf]; omega
            · have hxyI : ¬ (x : Int) < (y : Int) := by omega
              have HCN := Lib.hid (hcn hxy)
              clear hcy hcn hxy
              go_wp2_with fail
              clear hp0
              go_region_held3 (fun w' => w'.cell? ⟨X, 0, none⟩ = some (.int .i64 (x : Int)) ∧ w'.cell? ⟨Y, 0, none⟩ = some (.int .i64 (y : Int))) (first | exact ⟨hcx, hcyy⟩ | go_keep) (fail)
              go_wp2_with fail
              go_roundw
              case rel => exact ⟨k + 1, a2, c2, by omega, by go_num, by rw [HCN.out], by rw [HCN.out]; exact HIN2.out, HBF.out.drew⟩
              case measure => simp [intOf]; omega
          · obtain rfl : k = l.length := by omega
            go_wp2_with fail
            go_roundw
            case rel => exact ⟨j + 1, a2, c2, by omega, by go_num, by rw [HS.out], by rw [HS.out]; exact HIN2.out, HBF.out⟩
            case measure => simp [intOf]; omega
      · obtain rfl : j = ns.length := by omega
        go_wp2_with fail
        go_ret
        rw [HT.out]
        exact ⟨a', c', rfl, HIN.out.mono (by omega), B2.out.below.trans (HBE.out.mono (by omega))⟩
  · rw [Bool.not_eq_true] at hv
    have HT := Lib.hid (egL_bad hv)
    have HV := Lib.hid hv
    clear hv HN
    have B0 := Lib.hid (Box.made n (.slice a zs.length cap) w 25)
    go_enter Try.func9, Try.ntmps9
    go_wp2_with fail
    refine (implValid n _ zs _ (H.out.below (k := w.heap.size) (by go_grown) (Nat.le_refl _))).mono ?_
    rintro e w1 ⟨rfl, hb⟩
    rw [HV.out]
    have B1 := Lib.hid (B0.out.next (by simp) hb)
    clear hb
    go_wp2_with fail
    go_ret
    rw [HT.out]
    exact ⟨none, 0, rfl, PrS.nil _ _, B1.out.below⟩

end Go.Proofs.Ytpkilacappjkhaa
