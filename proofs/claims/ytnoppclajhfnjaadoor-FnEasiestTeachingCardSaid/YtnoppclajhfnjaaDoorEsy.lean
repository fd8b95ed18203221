/- The easiest sets and the others, the model's. Conditions: a class in order. -/
import Derived.Test.YtnoppclajhfnjaaDoorAppW
import Derived.Test.YtnoppclajhfnjaaDoorLayM
import Derived.Test.YtnoppclajhfnjaaDoorZB
namespace Go.Proofs.YtnoppclajhfnjaaDoor
open Go.RowKit

/-- what easiest answers -/
def Ez (ns : List Nat) (w : World) (e : Ending) (w' : World) : Prop :=
  ∃ g1 c1 g2 c2 : Nat, e = .returned (.tuple #[.slice (some ⟨g1, 0, none⟩) (lay ns).length c1, .slice (some ⟨g2, 0, none⟩) (rst ns).length c2]) ∧ Ints w.heap.size w' (.slice (some ⟨g1, 0, none⟩) (lay ns).length c1) (toI (lay ns)) ∧ Ints w.heap.size w' (.slice (some ⟨g2, 0, none⟩) (rst ns).length c2) (toI (rst ns)) ∧ g1 ≠ g2 ∧ Below w.heap.size w w'
theorem take_flt {ns : List Nat} {k : Nat} (P : Nat → Bool) (hk : k < ns.length) : (ns.take (k + 1)).filter P = if P (ns.getD k 0) = true then (ns.take k).filter P ++ [ns.getD k 0] else (ns.take k).filter P := by
  rw [List.take_succ_eq_append_getElem hk, List.filter_append, List.getD_eq_getElem?_getD, List.getElem?_eq_getElem hk, Option.getD_some]
  by_cases h : P ns[k] = true
  · rw [if_pos h]; simp [h]
  · rw [if_neg h]; simp [h]
theorem lay_self {m : Nat} {ns : List Nat} (hc : Cls m ns) : lay ns = ns.filter (fun t => decide (t ∈ lay ns)) :=
  asc_ext (lay_asc hc.asc) (hc.asc.filter _) (fun t => by rw [List.mem_filter, decide_eq_true_eq]; exact ⟨fun h => ⟨lay_sub h, h⟩, fun h => h.2⟩)

set_option maxRecDepth 100000 in
set_option maxHeartbeats 6400000 in
theorem specEasiest (m : Nat) (v : Value) (ns : List Nat) (w : World) (hc : Cls m ns) (h : Rd w v (toI ns)) :
    Calls Tryd.prog 89 #[v, .int .i64 (m : Int)] w (Ez ns w) := by
  have H := Lib.hid h
  have hl := hc.length
  have HEf := Lib.hid (fun v w0 h0 => specEfforts m v ns w0 hc h0)
  obtain ⟨a, b, off, cap, rfl, h1, h3, h5⟩ := h
  rw [toI_length] at *
  have H1 := Lib.hid h1
  have H5 := Lib.hid h5
  obtain ⟨P, hP⟩ : ∃ P : Nat → Bool, P = fun t => decide (t ∈ lay ns) := ⟨_, rfl⟩
  have HPk := Lib.hid (fun k (hk : k < ns.length) => show ((tns m ns).getD k 0 == sTo (tns m ns) ns.length) = P (ns.getD k 0) by
    rw [hP, Bool.eq_iff_iff, beq_iff_eq, decide_eq_true_eq, mem_lay hc (getD_of_lt hk), tns_getD hk]; rfl)
  have HA := Lib.hid (show lay ns = (ns.take ns.length).filter P by rw [List.take_length, hP]; exact lay_self hc)
  have HB := Lib.hid (show rst ns = (ns.take ns.length).filter (fun t => !P t) by rw [List.take_length, hP]; rfl)
  have HL := Lib.hid (tns_len m ns)
  clear h1 h5 hc hP
  generalize tns m ns = vs at *
  rw [show sTo vs ns.length = sTo vs vs.length by rw [HL.out]] at HPk
  have HFA := Lib.hid (fun (Q : Nat → Bool) k => show ((ns.take k).filter Q).length ≤ 32 by
    have h9 := List.length_filter_le Q (ns.take k)
    rw [List.length_take] at h9
    omega)
  have HTk := Lib.hid (fun (Q : Nat → Bool) k (hk : k < ns.length) => take_flt Q hk)
  have HLt := Lib.hid (fun (l : List Nat) => toI_length l)
  generalize ns.length = L at *
  obtain ⟨z, hz⟩ : ∃ z, z = sTo vs vs.length := ⟨_, rfl⟩
  rw [← hz] at HPk
  have HZ := Lib.hid hz
  clear hz
  go_enter Tryd.func89, Tryd.ntmps89
  go_wp2_with fail
  refine (HEf.out _ _ H.out).mono ?_
  rintro e w1 ⟨a1, c1, rfl, hin, hb⟩
  have I1 := Lib.hid hin
  have B1 := Lib.hid hb
  have hz1 := hb.size
  have HM := Lib.hid (specSmallest _ vs w1 hin.rd)
  rw [← HZ.out] at HM
  clear hin hb
  go_wp2_with fail
  refine HM.out.mono ?_
  rintro e w2 ⟨rfl, rfl⟩
  clear HM
  go_wp2_with fail
  have HW := Lib.hid (((Below.refl w1.heap.size w1).alloc (Nat.le_refl _) (.cells #[] 3)).alloc (by simp) (.cells #[] 3))
  have IA := Lib.hid ((Ints.lit' (B := w1.heap.size) (w := w1) (Nat.le_refl _) rfl).alloc (.cells #[] 3))
  have IB := Lib.hid (Ints.lit' (B := w1.heap.size) (w := w1.alloc (.cells #[] 3)) (H := w1.heap.size + 1) (by simp) (by simp))
  have hzS : w1.heap.size + 1 < ((w1.alloc (.cells #[] 3)).alloc (.cells #[] 3)).heap.size := by simp
  generalize (w1.alloc (.cells #[] 3)).alloc (.cells #[] 3) = W3 at *
  go_loopw [8, 9, 10] (fun o q i wr => ∃ k ga ca gb cb : Nat, k ≤ L ∧ i = .int .i64 k ∧ o = .slice (some ⟨ga, 0, none⟩) ((ns.take k).filter P).length ca ∧ q = .slice (some ⟨gb, 0, none⟩) ((ns.take k).filter (fun t => !P t)).length cb ∧ Ints w1.heap.size wr (.slice (some ⟨ga, 0, none⟩) ((ns.take k).filter P).length ca) (toI ((ns.take k).filter P)) ∧ Ints w1.heap.size wr (.slice (some ⟨gb, 0, none⟩) ((ns.take k).filter (fun t => !P t)).length cb) (toI ((ns.take k).filter (fun t => !P t))) ∧ ga ≠ gb ∧ Below w1.heap.size w1 wr) (fun _ _ i _ => L - (intOf i).toNat)
  case atStart => exact ⟨0, w1.heap.size, 0, w1.heap.size + 1, 0, Nat.zero_le _, rfl, rfl, rfl, IA.out, IB.out, by omega, HW.out⟩
  case round =>
    obtain ⟨k, ga, ca, gb, cb, hk, rfl, rfl, rfl, hia, hib, hne, hbe⟩ := hrel
    have JA := Lib.hid hia
    have JB := Lib.hid hib
    have BE := Lib.hid hbe
    have hzr := hbe.size
    have BW := Lib.hid (B1.out.trans (hbe.mono B1.out.size))
    have hla := HFA.out P k
    have hlb := HFA.out (fun t => !P t) k
    have hga := hia.lt ga rfl
    have hgb := hib.lt gb rfl
    clear hia hib hbe IA IB HW
    by_cases hlt : k < L
    · have hkI : (k : Int) < (L : Int) := by omega
      have hkV : (k : Int) < (vs.length : Int) := by have := HL.out; omega
      obtain ⟨rfl, hbl⟩ := H1.out (by omega)
      have hc := (BW.out.cell (p := ⟨b, off + k, none⟩) hbl).trans (H5.out k hlt)
      rw [toI_getD] at hc
      obtain ⟨g1, rfl, hg1, hg1l⟩ := I1.out.someAt (by omega)
      have hv1 := (BE.out.cell (p := ⟨g1, k, none⟩) hg1l).trans (I1.out.cellAt k (by omega)).1
      have HPu := Lib.hid (HPk.out k hlt)
      have HTA := Lib.hid (HTk.out P k hlt)
      have HTB := Lib.hid (HTk.out (fun t => !P t) k hlt)
      generalize ns.getD k 0 = u at *
      generalize vs.getD k 0 = y at *
      have HLA := Lib.hid (HLt.out ((ns.take k).filter P))
      have HLB := Lib.hid (HLt.out ((ns.take k).filter (fun t => !P t)))
      have hzI : ((y == z) : Bool) = P u := HPu.out
      cases hp : P u with
      | true =>
        rw [hp] at hzI
        have HTA2 := Lib.hid (HTA.out.trans (if_pos hp))
        have HTB2 := Lib.hid (HTB.out.trans (if_neg (by rw [hp]; simp)))
        clear hp HTA HTB HPu
        generalize (ns.take k).filter P = A at *
        generalize (ns.take k).filter (fun t => !P t) = D at *
        go_wp2_with (at_builtin; refine wpList_app1 rfl (.tmp 30) (.tmp 35) rfl w1.heap.size ga A.length ca (toI A) (by rw [HLA.out]) rfl (by exact JA.out.alloc _) wr.heap.size (u : Int) rfl (by rw [World.cell?_alloc_at _ _ _ _ rfl]; rfl) (by omega) (by simp; omega) ?_; intro g' cap' w4 hg' hin4 hb4 hgr4)
        have I4 := Lib.hid hin4
        have D4 := Lib.hid ((JB.out.alloc (.cells #[.int .i64 (u : Int)] 3)).kept hgr4 (.inr (by simp [Value.ownBlock]; omega)))
        have hz4 : g' = ga ∨ wr.heap.size + 1 ≤ g' := by simpa using hg'
        have B4 := Lib.hid ((BE.out.alloc hzr _).trans hb4)
        clear hin4 hb4 hgr4 hg'
        go_roundw
        case rel => exact ⟨k + 1, g', cap', gb, cb, by omega, by go_num, by rw [HTA2.out]; simp, by rw [HTB2.out], by rw [HTA2.out, toI_append, List.length_append]; exact I4.out, by rw [HTB2.out]; exact D4.out, by omega, B4.out⟩
        case measure => simp [intOf]; omega
      | false =>
        rw [hp] at hzI
        have HTA2 := Lib.hid (HTA.out.trans (if_neg (by rw [hp]; simp)))
        have HTB2 := Lib.hid (HTB.out.trans (if_pos (by rw [hp]; rfl)))
        clear hp HTA HTB HPu
        generalize (ns.take k).filter P = A at *
        generalize (ns.take k).filter (fun t => !P t) = D at *
        go_wp2_with (at_builtin; refine wpList_app1 rfl (.tmp 37) (.tmp 42) rfl w1.heap.size gb D.length cb (toI D) (by rw [HLB.out]) rfl (by exact JB.out.alloc _) wr.heap.size (u : Int) rfl (by rw [World.cell?_alloc_at _ _ _ _ rfl]; rfl) (by omega) (by simp; omega) ?_; intro g' cap' w4 hg' hin4 hb4 hgr4)
        have I4 := Lib.hid hin4
        have A4 := Lib.hid ((JA.out.alloc (.cells #[.int .i64 (u : Int)] 3)).kept hgr4 (.inr (by simp [Value.ownBlock]; omega)))
        have hz4 : g' = gb ∨ wr.heap.size + 1 ≤ g' := by simpa using hg'
        have B4 := Lib.hid ((BE.out.alloc hzr _).trans hb4)
        clear hin4 hb4 hgr4 hg'
        go_roundw
        case rel => exact ⟨k + 1, ga, ca, g', cap', by omega, by go_num, by rw [HTA2.out], by rw [HTB2.out]; simp, by rw [HTA2.out]; exact A4.out, by rw [HTB2.out, toI_append, List.length_append]; exact I4.out, by omega, B4.out⟩
        case measure => simp [intOf]; omega
    · have HKL := Lib.hid (show k = L by omega)
      go_wp2_with fail
      refine bodyPost_ret (v := .tuple #[.slice (some ⟨ga, 0, none⟩) ((ns.take k).filter P).length ca, .slice (some ⟨gb, 0, none⟩) ((ns.take k).filter (fun t => !P t)).length cb]) (by simp [results, Tryd.results89, go_sem]) rfl ?_
      refine ⟨ga, ca, gb, cb, ?_, ?_, ?_, hne, BW.out⟩
      · rw [HA.out, HB.out, HKL.out]
      · have h9 := JA.out.mono hz1
        rw [HKL.out] at h9
        rw [HA.out]; exact h9
      · have h9 := JB.out.mono hz1
        rw [HKL.out] at h9
        rw [HB.out]; exact h9

end Go.Proofs.YtnoppclajhfnjaaDoor
