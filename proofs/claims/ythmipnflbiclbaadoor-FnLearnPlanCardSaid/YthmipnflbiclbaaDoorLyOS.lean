/- LayersOf, the model's. Conditions: Sets is a slice of ints. -/
import Derived.Test.YthmipnflbiclbaaDoorLySp
namespace Go.Proofs.YthmipnflbiclbaaDoor
open Go.RowKit

/-- what LayersOf answers -/
def lyB (n : Int) (zs : List Int) : List (List Nat × List Nat) := if vldB n zs = true then lys (zs.map Int.toNat) else []
theorem lyB_in {m : Nat} {ns : List Nat} (hv : vldB (m : Int) (toI ns) = true) : lyB (m : Int) (toI ns) = lys ns := by rw [lyB, if_pos hv, toNat_toI]
theorem lyB_bad {n : Int} {zs : List Int} (hv : vldB n zs = false) : lyB n zs = [] := by rw [lyB, hv]; rfl
/-- the layers P are answered -/
def RetLy (P : List (List Nat × List Nat)) (w : World) (e : Ending) (w' : World) : Prop := ∃ (a : Option Addr) (cap : Nat) (bs : List Sl), e = .returned (.slice a bs.length cap) ∧ LsS w.heap.size w' (.slice a bs.length cap) bs ∧ LyR w.heap.size w' bs P ∧ Below w.heap.size w w'
theorem LyR.mono {B B' : Nat} {W : World} {bs : List Sl} {P : List (List Nat × List Nat)} (h : LyR B W bs P) (hB : B' ≤ B) : LyR B' W bs P := ⟨h.1, fun i hi => (h.2 i hi).mono hB⟩
theorem LyR.nil (B : Nat) (W : World) : LyR B W [] [] := ⟨rfl, fun i hi => by cases hi⟩

set_option maxRecDepth 100000 in
set_option maxHeartbeats 1600000 in
theorem specLayersOf (n : Int) (v : Value) (zs : List Int) (w : World) (h : Rd w v zs) :
    Calls Tryd.prog 18 #[.agg #[.int .i64 n, v]] w (RetLy (lyB n zs) w) := by
  have H := Lib.hid h
  obtain ⟨a, b, off, cap, rfl, _, _, _⟩ := h
  have HV := Lib.hid (fun w0 h0 => specValid n (.slice a zs.length cap) zs w0 h0)
  by_cases hv : vldB n zs = true
  · obtain ⟨m, ns, rfl, rfl, hc⟩ := vldB_cls hv
    have HE := Lib.hid (fun w0 h0 => specLayers m (.slice a (toI ns).length cap) ns w0 hc h0)
    have HD := Lib.hid (lyB_in hv)
    rw [HD.out]
    rw [hv] at HV
    clear hv hc HD
    go_enter Tryd.func18, Tryd.ntmps18
    go_wp2_with fail
    refine (HV.out _ (H.out.below (by go_grown) (Nat.le_refl _))).mono ?_
    rintro e w1 ⟨rfl, hb⟩
    have B1 := Lib.hid ((Box.made (m : Int) (.slice a (toI ns).length cap) w _).next (by simp) hb)
    clear hb
    have c0 := B1.out.at0
    have c1 := B1.out.at1
    go_wp2_with fail
    refine (HE.out _ (H.out.below B1.out.below (Nat.le_refl _))).mono ?_
    rintro e w2 ⟨a2, k2, bs, rfl, hls, hly, hb⟩
    have HB := Lib.hid (B1.out.below.trans (hb.mono B1.out.below.size))
    have LS := Lib.hid (hls.mono B1.out.below.size)
    have LY := Lib.hid (hly.mono B1.out.below.size)
    clear hb hls hly
    go_wp2_with fail
    go_ret
    exact ⟨_, _, bs, rfl, LS.out, LY.out, HB.out⟩
  · rw [Bool.not_eq_true] at hv
    have HD := Lib.hid (lyB_bad hv)
    rw [HD.out]
    rw [hv] at HV
    clear hv HD
    go_enter Tryd.func18, Tryd.ntmps18
    go_wp2_with fail
    refine (HV.out _ (H.out.below (by go_grown) (Nat.le_refl _))).mono ?_
    rintro e w1 ⟨rfl, hb⟩
    have B1 := Lib.hid ((Box.made n (.slice a zs.length cap) w _).next (by simp) hb)
    clear hb
    go_wp2_with fail
    go_ret
    exact ⟨none, 0, [], rfl, LsS.nil _ _, LyR.nil _ _, B1.out.below⟩

end Go.Proofs.YthmipnflbiclbaaDoor
