/- ConsistentOf, the program's. Conditions: Sets is a slice of ints, the list one of examples; the table setsWith is laid. -/
import Derived.Deep.RegionHeld3
import Derived.Test.YtlnnoeicboamgaaDoorFamCls
import Derived.Test.YtlnnoeicboamgaaDoorNow
namespace Go.Proofs.YtlnnoeicboamgaaDoor
open Go.RowKit

def conN (n : Int) (zs : List Int) (es : List (Int × Bool)) : Int := if vsB n zs es = true then n else 0
def conL (n : Int) (zs : List Int) (es : List (Int × Bool)) : List Int := if vsB n zs es = true then toI (nowTo (zs.map Int.toNat) es es.length) else []
theorem conL_len (n : Int) (zs : List Int) (es : List (Int × Bool)) : (conL n zs es).length ≤ 1048576 := by
  unfold conL
  split
  · rename_i hv
    have hvd : vldB n zs = true := by simp only [vsB, Bool.and_eq_true] at hv; exact hv.1
    obtain ⟨m, ns, rfl, rfl, hc⟩ := vldB_cls hvd
    rw [toI_length, toNat_toI]
    have := (nowTo_sub ns es es.length).2
    have := hc.length
    omega
  · simp
theorem nowTo_asc {ns : List Nat} (h : ns.Pairwise (· < ·)) (es : List (Int × Bool)) (k : Nat) : (nowTo ns es k).Pairwise (· < ·) := by
  induction k with
  | zero => exact h
  | succ k ih => exact ih.filter _
theorem range_mem {n : Nat} {l : List Nat} (ha : l.Pairwise (· < ·)) (hl : ∀ t ∈ l, t < n) : (List.range n).filter (fun s => decide (s ∈ l)) = l := by
  have h1 : ((List.range n).filter (fun s => decide (s ∈ l))).Pairwise (· < ·) := List.Pairwise.filter _ List.pairwise_lt_range
  have hp : List.Perm ((List.range n).filter (fun s => decide (s ∈ l))) l := by
    apply (List.perm_ext_iff_of_nodup (List.nodup_range.filter _) (ha.imp (fun h => Nat.ne_of_lt h))).2
    intro s
    rw [List.mem_filter, List.mem_range, decide_eq_true_eq]
    exact ⟨fun h => h.2, fun h => ⟨hl s h, h⟩⟩
  exact hp.eq_of_pairwise (fun a b _ _ h1 h2 => by omega) h1 ha

set_option maxHeartbeats 6400000 in
set_option maxRecDepth 100000 in
theorem implConsistentOf (n : Int) (v : Value) (zs : List Int) (u : Value) (es : List (Int × Bool)) (w : World) (h : Rd w v zs) (hu : RdE w u es) (hsw : SW w) :
    Calls Tryd.prog 21 #[.agg #[.int .i64 n, v], u] w (RetClass (conN n zs es) (conL n zs es) w) := by
  have H := Lib.hid h
  have HU := Lib.hid hu
  have HSW := Lib.hid hsw
  have HVS := Lib.hid (fun w h hu => implValidSample n v zs u es w h hu)
  obtain ⟨a, b, off, cap, rfl, _, _, _⟩ := h
  obtain ⟨a2, b2, off2, cap2, rfl, he1, _, he5⟩ := hu
  have HE1 := Lib.hid he1
  have HE5 := Lib.hid he5
  clear he1 he5 hsw
  by_cases hv : vsB n zs es = true
  · have hvd : vldB n zs = true := by simp only [vsB, Bool.and_eq_true] at hv; exact hv.1
    have hpt : ptsTo n es es.length = true := by simp only [vsB, Bool.and_eq_true] at hv; exact hv.2.2
    have h12 : es.length ≤ 12 := by simp only [vsB, Bool.and_eq_true, decide_eq_true_eq] at hv; exact hv.2.1
    have HV := Lib.hid hv
    obtain ⟨m, ns, rfl, rfl, hc⟩ := vldB_cls hvd
    have hm := hc.pts
    have HC := Lib.hid hc
    have hl := hc.length
    have HP := Lib.hid hpt
    have HN := Lib.hid (show conN m (toI ns) es = m by rw [conN, if_pos hv])
    have HT := Lib.hid (show conL m (toI ns) es = toI (nowTo ns es es.length) by rw [conL, if_pos hv, toNat_toI])
    have HR := Lib.hid (range_mem (n := 2 ^ m) (nowTo_asc hc.asc es es.length) (fun t ht => hc.lt t ((nowTo_sub ns es es.length).1 t ht)))
    rw [toI_length] at H HVS ⊢
    have OB := Lib.hid (show Out m (.slice a ns.length cap) w.heap.size ((w.alloc (Obj.cells #[.int .i64 (m : Int), .slice a ns.length cap] 30)).alloc (Obj.cells #[.int .i64 0, .slice none 0 0] 30)) from ⟨by simp [go_sem], by simp [go_sem], by simp [go_sem], by simp [go_sem]⟩)
    have OR := Lib.hid (show Out 0 (.slice none 0 0) (w.heap.size + 1) ((w.alloc (Obj.cells #[.int .i64 (m : Int), .slice a ns.length cap] 30)).alloc (Obj.cells #[.int .i64 0, .slice none 0 0] 30)) from ⟨by simp [go_sem], by simp [go_sem], by simp [go_sem], by simp [go_sem]⟩)
    clear hv hvd hpt hc
    go_enter Tryd.func21, Tryd.ntmps21
    go_wp2_with fail
    refine (HVS.out _ (H.out.below (k := w.heap.size) (by go_grown) (Nat.le_refl _)) (HU.out.below (k := w.heap.size) (by go_grown) (Nat.le_refl _))).mono ?_
    rintro e w1 ⟨rfl, hb⟩
    rw [HV.out]
    have hs1 : w.heap.size + 1 < w1.heap.size := by have := hb.size; simp at this; omega
    have OB1 := Lib.hid (OB.out.next hb (by simp only [World.size_alloc]; omega))
    have OR1 := Lib.hid (OR.out.next hb (by simp only [World.size_alloc]; omega))
    have HB1 := Lib.hid (show Below w.heap.size w w1 from Below.trans (by go_grown) (hb.mono (by simp; omega)))
    clear hb
    have R1 := Lib.hid (H.out.below HB1.out (Nat.le_refl _))
    have c0 := OB1.out.at0
    have c1 := OB1.out.at1
    go_wp2_with fail
    refine (implFamilyOf m _ ns HC.out.lt32 _ R1.out).mono ?_
    rintro e w2 ⟨rfl, hb2⟩
    have hs2 : w.heap.size + 1 < w2.heap.size := by have := hb2.size; omega
    have OB2 := Lib.hid (OB1.out.next hb2 (by omega))
    have OR2 := Lib.hid (OR1.out.next hb2 hs1)
    have HB2 := Lib.hid (HB1.out.trans (hb2.mono (by omega)))
    clear hb2 c0 c1
    go_wp2_with fail
    go_loopw [5, 17] (fun f i wr => ∃ k : Nat, k ≤ es.length ∧ i = .int .i64 k ∧ f = .int .u32 (fm (nowTo ns es k)) ∧ Below w2.heap.size w2 wr) (fun _ i _ => es.length - (intOf i).toNat)
    case atStart => exact ⟨0, Nat.zero_le _, rfl, rfl, Below.refl _ _⟩
    case round =>
      obtain ⟨k, hk, rfl, rfl, hbe⟩ := hrel
      have BE := Lib.hid hbe
      have hz := hbe.size
      have HBW := Lib.hid (HB2.out.trans (hbe.mono (by omega)))
      have SW2 := Lib.hid (HSW.out.next HBW.out)
      clear hbe
      by_cases hlt : k < es.length
      · obtain ⟨rfl, hbl⟩ := HE1.out (by omega)
        have hc0 := (HBW.out.cell (p := ⟨b2, off2 + k * 2, none⟩) hbl).trans (HE5.out k hlt).1
        have hc1 := (HBW.out.cell (p := ⟨b2, off2 + k * 2 + 1, none⟩) hbl).trans (HE5.out k hlt).2
        obtain ⟨hp0, hp1⟩ := pts_at HP.out hlt
        have HE := Lib.hid (show es.getD k (0, false) = ((es.getD k (0, false)).1, (es.getD k (0, false)).2) from rfl)
        have HNS := Lib.hid (show nowTo ns es (k + 1) = kp (nowTo ns es k) (es.getD k (0, false)) from rfl)
        rw [HE.out] at HNS
        obtain ⟨x, hx⟩ := Int.eq_ofNat_of_zero_le hp0
        rw [hx] at hc0 hp0 hp1 HNS
        generalize (es.getD k (0, false)).2 = lb at *
        have hx5 : x < 5 := by omega
        clear hx HE
        generalize nowTo ns es k = L at *
        have HF := Lib.hid (fun w h => implFitting L x lb hx5 w h)
        have EX := Lib.hid (show Below wr.heap.size wr (wr.alloc (Obj.cells #[.int .i64 (x : Int), .bool lb] 62)) from (Below.refl _ _).alloc (Nat.le_refl _) _)
        have EZ := Lib.hid (show wr.heap.size < (wr.alloc (Obj.cells #[.int .i64 (x : Int), .bool lb] 62)).heap.size by simp)
        have e0 := (show (wr.alloc (Obj.cells #[.int .i64 (x : Int), .bool lb] 62)).cell? ⟨wr.heap.size, 0, none⟩ = some (.int .i64 (x : Int)) by simp [go_sem])
        have e1 := (show (wr.alloc (Obj.cells #[.int .i64 (x : Int), .bool lb] 62)).cell? ⟨wr.heap.size, 1, none⟩ = some (.bool lb) by simp [go_sem])
        have HSE := Lib.hid (SW2.out.next EX.out)
        go_wp2_with fail
        generalize (wr.alloc (Obj.cells #[.int .i64 (x : Int), .bool lb] 62)) = we at *
        refine (HF.out _ HSE.out).mono ?_
        rintro e w6 ⟨rfl, hb6⟩
        have B6 := Lib.hid (EX.out.trans (hb6.mono (Nat.le_of_lt EZ.out)))
        clear hb6 e0 e1
        go_wp2_with fail
        go_roundw
        case rel => exact ⟨k + 1, by omega, by go_num, by rw [HNS.out], BE.out.trans (B6.out.mono hz)⟩
        case measure => simp [intOf]; omega
      · obtain rfl : k = es.length := by omega
        have OB3 := Lib.hid (OB2.out.next BE.out (by omega))
        have OR3 := Lib.hid (OR2.out.next BE.out hs2)
        have HFC := Lib.hid (fun w => implFamClass m hm (nowTo ns es es.length) w)
        rw [HR.out] at HFC
        generalize nowTo ns es es.length = L at *
        have d0 := OB3.out.at0
        have d1 := OB3.out.at1
        have hs3 : w.heap.size + 1 < wr.heap.size := by omega
        go_wp2_with fail
        refine (HFC.out _).mono ?_
        rintro e w4 ⟨a4, c4, rfl, hin4, hb4⟩
        have hz4 := hb4.size
        have OR4 := Lib.hid (OR3.out.next hb4 (by omega))
        have HIN := Lib.hid hin4
        have HB4 := Lib.hid (show Below w.heap.size w w4 from HBW.out.trans (hb4.mono (by omega)))
        clear hin4 hb4 d0 d1
        have r0 := OR4.out.at0
        have r1 := OR4.out.at1
        have q0 := OR4.out.free0
        have q1 := OR4.out.free1
        go_wp2_with fail
        refine bodyPost_ret (v := .agg #[.int .i64 (m : Int), .slice a4 (toI L).length c4]) (by simp [results, Tryd.results21, go_sem, r0, r1]) rfl ?_
        rw [HN.out, HT.out]
        refine ⟨a4, c4, rfl, ?_, ?_⟩
        · refine Ints.mono (B := wr.heap.size) ?_ (by omega)
          repeat (refine Ints.setCell_below ?_ (by simp; omega) _)
          exact HIN.out
        · have hb0 := HB4.out
          clear r0 r1 q0 q1
          go_grown
  · have HN := Lib.hid (show conN n zs es = 0 by rw [conN, if_neg hv])
    have HT := Lib.hid (show conL n zs es = [] by rw [conL, if_neg hv])
    rw [Bool.not_eq_true] at hv
    have HV := Lib.hid hv
    clear hv
    go_enter Tryd.func21, Tryd.ntmps21
    go_wp2_with fail
    refine (HVS.out _ (H.out.below (k := w.heap.size) (by go_grown) (Nat.le_refl _)) (HU.out.below (k := w.heap.size) (by go_grown) (Nat.le_refl _))).mono ?_
    rintro e w1 ⟨rfl, hb⟩
    rw [HV.out]
    obtain ⟨hc, hf⟩ := bcell hb
    have Hb := Lib.hid hb
    clear hb
    go_wp2_with fail
    refine bodyPost_ret (v := .agg #[.int .i64 0, .slice none 0 0]) (by simp [results, Tryd.results21, go_sem, hc]) rfl ?_
    rw [HN.out, HT.out]
    refine ⟨none, 0, rfl, Ints.nil _ _, ?_⟩
    have hb0 : Below w.heap.size w w1 := Below.trans (by go_grown) (Hb.out.mono (by simp; omega))
    clear hc hf
    go_grown

end Go.Proofs.YtlnnoeicboamgaaDoor
