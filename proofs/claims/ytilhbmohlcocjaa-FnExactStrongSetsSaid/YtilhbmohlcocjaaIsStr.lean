/- IsStrong, the program's and the model's. Conditions: Sets is a slice of ints. -/
import Derived.Test.YtilhbmohlcocjaaCube
import Derived.Test.YtilhbmohlcocjaaArr2
import Derived.Test.YtilhbmohlcocjaaTraceS
namespace Go.Proofs.Ytilhbmohlcocjaa
open Go.RowKit

/-- is c the corner of a cube along s? -/
def crn (ns : List Nat) (s c : Nat) : Bool := (c &&& s == 0) && cubTo (fun x => decide (x ∈ ns)) c s (s + 1)
def strTo (ns : List Nat) (s k : Nat) : Bool := (List.range k).any (fun j => crn ns s (ns.getD j 0))
def strg (ns : List Nat) (s : Nat) : Bool := strTo ns s ns.length
def strB (n : Int) (zs : List Int) (s : Int) : Bool := inB n zs s && strg (zs.map Int.toNat) s.toNat
theorem strB_bad {n : Int} {zs : List Int} {s : Int} (h : inB n zs s = false) : strB n zs s = false := by simp [strB, h]
theorem strB_in {n : Nat} {ns : List Nat} {s : Nat} (h : vldB n (toI ns) = true) (hs : setB n s = true) : strB n (toI ns) s = strg ns s := by
  simp [strB, inB, h, hs, toNat_toI]
theorem strTo_no {ns : List Nat} {s k : Nat} (h : crn ns s (ns.getD k 0) = false) : strTo ns s (k + 1) = strTo ns s k := by
  simp only [strTo, List.range_succ, List.any_append, List.any_cons, List.any_nil, Bool.or_false]
  rw [h, Bool.or_false]
theorem strTo_yes {ns : List Nat} {s k j : Nat} (h : crn ns s (ns.getD k 0) = true) (hj : k < j) : strTo ns s j = true := by
  simp only [strTo, List.any_eq_true, List.mem_range]
  exact ⟨k, hj, h⟩
theorem crn_mem {ns : List Nat} {s c : Nat} (h : crn ns s c = true) : c ∈ ns := by
  simp only [crn, Bool.and_eq_true, cubTo, List.all_eq_true, List.mem_range] at h
  have := h.2 0 (by omega)
  simpa using this
theorem strg_iff {ns : List Nat} {s : Nat} : strg ns s = true ↔ ∃ c ∈ ns, crn ns s c = true := by
  simp only [strg, strTo, List.any_eq_true, List.mem_range]
  constructor
  · rintro ⟨j, hj, h⟩
    exact ⟨_, getD_of_lt hj, h⟩
  · rintro ⟨c, hm, h⟩
    obtain ⟨j, hj, e⟩ := List.getElem_of_mem hm
    refine ⟨j, hj, ?_⟩
    rw [List.getD_eq_getElem?_getD, List.getElem?_eq_getElem hj]
    show crn ns s ns[j] = true
    rw [e]
    exact h

set_option maxHeartbeats 1600000 in
set_option maxRecDepth 100000 in
theorem implIsStrong (n : Int) (v : Value) (zs : List Int) (s : Int) (w : World) (h : Rd w v zs) :
    Calls Try.prog 30 #[.agg #[.int .i64 n, v], .int .i64 s] w fun e w' => e = .returned (.bool (strB n zs s)) ∧ Below w.heap.size w w' := by
  have H := Lib.hid h
  obtain ⟨a, b, off, cap, rfl, h1, h3, h5⟩ := h
  by_cases hv : inB n zs s = true
  · have hv0 : vldB n zs = true := by simp [inB] at hv; exact hv.1
    obtain ⟨m, ns, rfl, rfl, hc⟩ := vldB_cls hv0
    have hm := hc.pts
    have hs : setB m s = true := by simp [inB] at hv; exact hv.2
    obtain ⟨t, rfl, ht, ht32⟩ := setB_nat hm hs
    rw [toI_length] at H h1 h3 h5 ⊢
    have HT := Lib.hid (strB_in hv0 hs)
    have HC := Lib.hid hc
    have hl := hc.length
    have hlt32 := Lib.hid hc.lt32
    have HV := Lib.hid hv
    have H5 := Lib.hid h5
    have H1 := Lib.hid h1
    have HG := Lib.hid (show strg ns t = strTo ns t ns.length from rfl)
    clear hs hv hv0 hc h1 h5
    go_enter Try.func30, Try.ntmps30
    go_wp2_with fail
    refine (implIsSetOf m _ (toI ns) t _ (H.out.below (k := w.heap.size) (by go_grown) (Nat.le_refl _))).mono ?_
    rintro e w1 ⟨rfl, hb⟩
    rw [HV.out]
    have B1 := Lib.hid ((Box.made m (.slice a ns.length cap) w _).next (by simp) hb)
    have hs1 : w.heap.size < w1.heap.size := by have := hb.size; simp at this; omega
    clear hb
    have c0 := B1.out.at0
    have c1 := B1.out.at1
    go_wp2_with fail
    refine (implKeysOf m _ ns _ (H.out.below B1.out.below (Nat.le_refl _)) hl hlt32.out).mono ?_
    rintro e w2 ⟨rfl, hk2, hb2⟩
    clear c0 c1
    have B2 := Lib.hid (B1.out.next hs1 hb2)
    have HK := Lib.hid hk2
    clear hb2 B1 hk2
    have c0 := B2.out.at0
    have c1 := B2.out.at1
    generalize w1.heap.size + 1 = mb at *
    go_wp2_with fail
    go_loop [17] (fun i => ∃ k : Nat, k ≤ ns.length ∧ i = .int .i64 k ∧ strTo ns t k = false) (fun i => ns.length - (intOf i).toNat)
    case atStart => exact ⟨0, Nat.zero_le _, rfl, rfl⟩
    case round =>
      obtain ⟨k, hk, rfl, hst⟩ := hrel
      have HS := Lib.hid hst
      clear hst
      by_cases hlt : k < ns.length
      · obtain ⟨rfl, hbl⟩ := H1.out (by omega)
        have hcx := (B2.out.below.cell (p := ⟨b, off + k, none⟩) hbl).trans (H5.out k (by omega))
        rw [toI_getD] at hcx
        have hx := hlt32.out _ (getD_of_lt hlt)
        have HN := Lib.hid (fun h => strTo_no (ns := ns) (s := t) (k := k) h)
        have HY := Lib.hid (fun h => strTo_yes (ns := ns) (s := t) (k := k) h hlt)
        generalize ns.getD k 0 = x at *
        have hand := i64_and x t (by omega) (by omega)
        by_cases he : x &&& t = 0
        · rw [he] at hand
          have HR := Lib.hid (show crn ns t x = cubTo (fun y => decide (y ∈ ns)) x t (t + 1) by simp [crn, he])
          have HCU := Lib.hid (implHasCubeAt mb 32 _ x t hx ht32 w2 HK.out)
          generalize cubTo (fun y => decide (y ∈ ns)) x t (t + 1) = r at *
          by_cases hr : r = true
          · subst hr
            go_wp2_with fail
            refine HCU.out.mono ?_
            rintro e w3 ⟨rfl, rfl⟩
            go_wp2_with fail
            go_ret
            exact ⟨ret_bool (by rw [HT.out, HG.out, HY.out HR.out]), B2.out.below⟩
          · rw [Bool.not_eq_true] at hr
            subst hr
            go_wp2_with fail
            refine HCU.out.mono ?_
            rintro e w3 ⟨rfl, rfl⟩
            go_wp2_with fail
            go_round
            case rel => exact ⟨k + 1, by omega, by go_num, by rw [HN.out HR.out]; exact HS.out⟩
            case measure => simp [intOf]; omega
        · have HR := Lib.hid (show crn ns t x = false by simp [crn, he])
          have hne : ((x &&& t : Nat) : Int) ≠ 0 := by omega
          clear he
          generalize x &&& t = z at *
          go_wp2_with fail
          go_round
          case rel => exact ⟨k + 1, by omega, by go_num, by rw [HN.out HR.out]; exact HS.out⟩
          case measure => simp [intOf]; omega
      · obtain rfl : k = ns.length := by omega
        go_wp2_with fail
        go_ret
        exact ⟨ret_bool (by rw [HT.out, HG.out, HS.out]), B2.out.below⟩
  · rw [Bool.not_eq_true] at hv
    have HT := Lib.hid (strB_bad hv)
    have HV := Lib.hid hv
    clear hv
    go_enter Try.func30, Try.ntmps30
    go_wp2_with fail
    refine (implIsSetOf n _ zs s _ (H.out.below (k := w.heap.size) (by go_grown) (Nat.le_refl _))).mono ?_
    rintro e w1 ⟨rfl, hb⟩
    rw [HV.out]
    have B1 := Lib.hid ((Box.made n (.slice a zs.length cap) w _).next (by simp) hb)
    clear hb
    go_wp2_with fail
    go_ret
    exact ⟨ret_bool HT.out.symm, B1.out.below⟩

end Go.Proofs.Ytilhbmohlcocjaa
