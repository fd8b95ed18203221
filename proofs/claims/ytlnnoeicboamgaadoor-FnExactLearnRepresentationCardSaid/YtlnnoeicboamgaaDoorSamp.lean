/- ValidSample, the program's and the model's. Conditions: Sets is a slice of ints, the list one of examples. -/
import Derived.Test.YtlnnoeicboamgaaDoorEx
import Derived.Test.YtlnnoeicboamgaaDoorZB
import Derived.Test.YtlnnoeicboamgaaDoorZH
namespace Go.Proofs.YtlnnoeicboamgaaDoor
open Go.RowKit

/-- are all points of the first k in 0..n-1? -/
def ptsTo (n : Int) (es : List (Int × Bool)) (k : Nat) : Bool := (List.range k).all (fun j => decide (0 ≤ (es.getD j (0, false)).1) && decide ((es.getD j (0, false)).1 < n))
theorem ptsTo_yes {n : Int} {es : List (Int × Bool)} {k : Nat} (h : ptsTo n es k = true) (h1 : 0 ≤ (es.getD k (0, false)).1) (h2 : (es.getD k (0, false)).1 < n) : ptsTo n es (k + 1) = true := by
  simp only [ptsTo, List.range_succ, List.all_append, List.all_cons, List.all_nil, Bool.and_true, Bool.and_eq_true, decide_eq_true_eq] at h ⊢
  exact ⟨h, h1, h2⟩
theorem ptsTo_no {n : Int} {es : List (Int × Bool)} {k m : Nat} (hk : k < m) (h : ¬ (0 ≤ (es.getD k (0, false)).1 ∧ (es.getD k (0, false)).1 < n)) : ptsTo n es m = false := by
  rw [← Bool.not_eq_true]
  intro hh
  simp only [ptsTo, List.all_eq_true, List.mem_range, Bool.and_eq_true, decide_eq_true_eq] at hh
  exact h (hh k hk)
/-- ValidSample's answer -/
def vsB (n : Int) (zs : List Int) (es : List (Int × Bool)) : Bool := vldB n zs && (decide (es.length ≤ 12) && ptsTo n es es.length)
theorem vsB_bad {n : Int} {zs : List Int} {es : List (Int × Bool)} (h : vldB n zs = false) : vsB n zs es = false := by simp [vsB, h]
theorem vsB_in {n : Int} {zs : List Int} {es : List (Int × Bool)} (h : vldB n zs = true) : vsB n zs es = (decide (es.length ≤ 12) && ptsTo n es es.length) := by simp [vsB, h]

set_option maxHeartbeats 800000 in
theorem specSample (m : Nat) (hm : m ≤ 5) (v : Value) (es : List (Int × Bool)) (w : World) (h : RdE w v es) :
    Calls Tryd.prog 39 #[.int .i64 (m : Int), v] w fun e w' => e = .returned (.bool (decide (es.length ≤ 12) && ptsTo m es es.length)) ∧ w' = w := by
  obtain ⟨a, b, off, cap, rfl, h1, h3, h5⟩ := h
  have H5 := Lib.hid h5
  have H1 := Lib.hid h1
  clear h5 h1
  go_enter Tryd.func39, Tryd.ntmps39
  go_wp2_with fail
  go_loop [5] (fun i => ∃ k : Nat, k ≤ es.length ∧ i = .int .i64 k ∧ ptsTo m es k = true) (fun i => es.length - (intOf i).toNat)
  case atStart => exact ⟨0, Nat.zero_le _, rfl, rfl⟩
  case round =>
    obtain ⟨k, hk, rfl, hp⟩ := hrel
    have HP := Lib.hid hp
    clear hp
    by_cases hlt : k < es.length
    · obtain ⟨rfl, _⟩ := H1.out (by omega)
      have hc := (H5.out k hlt).1
      have HY := Lib.hid (fun h1 h2 => ptsTo_yes HP.out h1 h2)
      have HN := Lib.hid (fun h => ptsTo_no (n := m) (es := es) (m := es.length) hlt h)
      generalize (es.getD k (0, false)).1 = p at *
      by_cases hq : 0 ≤ p ∧ p < m
      · have HB := Lib.hid (show (decide ((0 : Int) ≤ p) && decide (p ≤ (m : Int) - 1)) = true by simp; omega)
        have HR := Lib.hid (HY.out hq.1 hq.2)
        clear hq
        go_wp2_with fail
        refine (specInRange _ _ _ _).mono ?_
        rintro e w1 ⟨rfl, rfl⟩
        rw [HB.out]
        go_wp2_with fail
        go_round
        case rel => exact ⟨k + 1, by omega, by go_num, HR.out⟩
        case measure => simp [intOf]; omega
      · have HB := Lib.hid (show (decide ((0 : Int) ≤ p) && decide (p ≤ (m : Int) - 1)) = false by
          rw [← Bool.not_eq_true]
          simp
          omega)
        have HR := Lib.hid (HN.out hq)
        clear hq
        go_wp2_with fail
        refine (specInRange _ _ _ _).mono ?_
        rintro e w1 ⟨rfl, rfl⟩
        rw [HB.out]
        go_wp2_with fail
        go_ret
        exact ⟨ret_bool (by rw [HR.out, Bool.and_false]), rfl⟩
    · obtain rfl : k = es.length := by omega
      go_wp2_with fail
      go_ret
      exact ⟨ret_bool (by rw [HP.out, Bool.and_true, decide_eq_decide]; omega), rfl⟩


/-- what the closure captures -/
def VCap (n : Int) (v : Value) (zs : List Int) (o : Nat) (w : World) : Prop := w.cell? ⟨o, 0, none⟩ = some (.int .i64 n) ∧ w.cell? ⟨o, 1, none⟩ = some v ∧ Rd w v zs ∧ o < w.heap.size
theorem VCap.next {n : Int} {v : Value} {zs : List Int} {o : Nat} {w w' : World} (h : VCap n v zs o w) (hb : Below w.heap.size w w') : VCap n v zs o w' :=
  ⟨(hb.cell (p := ⟨o, 0, none⟩) h.2.2.2).trans h.1, (hb.cell (p := ⟨o, 1, none⟩) h.2.2.2).trans h.2.1, h.2.2.1.below hb (Nat.le_refl _), Nat.lt_of_lt_of_le h.2.2.2 hb.size⟩

set_option maxHeartbeats 1600000 in
set_option maxRecDepth 100000 in
theorem implVS1 (n : Int) (v : Value) (zs : List Int) (o : Nat) (p : Int) (l : Bool) (w : World) (h : VCap n v zs o w) :
    Calls Tryd.prog 74 #[.agg #[.int .i64 p, .bool l], .pointer (some ⟨o, 0, none⟩)] w fun e w' => e = .returned (.bool (!ptB n zs p)) ∧ Below w.heap.size w w' := by
  obtain ⟨c0, c1, hr, ho⟩ := h
  have H := Lib.hid hr
  obtain ⟨a, b, off, cap, rfl, _, _, _⟩ := hr
  have HB := Lib.hid (show Below w.heap.size w (w.alloc (Obj.cells #[.int .i64 p, .bool l] 62)) from (Below.refl _ _).alloc (Nat.le_refl _) _)
  have d0 := (HB.out.cell (p := ⟨o, 0, none⟩) ho).trans c0
  have d1 := (HB.out.cell (p := ⟨o, 1, none⟩) ho).trans c1
  have HI := Lib.hid (implIsPointOf n _ zs p _ (H.out.below HB.out (Nat.le_refl _)))
  generalize ptB n zs p = q at *
  go_enter Tryd.func74, Tryd.ntmps74
  go_wp2_with fail
  refine HI.out.mono ?_
  rintro e w2 ⟨rfl, hb2⟩
  go_wp2_with fail
  go_ret
  exact ⟨rfl, HB.out.trans (hb2.mono (by simp))⟩

set_option maxHeartbeats 1600000 in
set_option maxRecDepth 100000 in
theorem implIndexVS (n : Int) (v : Value) (zs : List Int) (o : Nat) (u : Value) (es : List (Int × Bool)) (w : World) (h : VCap n v zs o w) (hu : RdE w u es) (hv : vldB n zs = true) :
    Calls Tryd.prog 92 #[u, .func (Fn.func 74) #[] #[.pointer (some ⟨o, 0, none⟩)]] w fun e w' => (∃ r : Int, e = .returned (.int .i64 r) ∧ decide (0 ≤ r) = !ptsTo n es es.length) ∧ Below w.heap.size w w' := by
  have HC := Lib.hid h
  have HVV := Lib.hid hv
  obtain ⟨a, b, off, cap, rfl, h1, h3, h5⟩ := hu
  have H5 := Lib.hid h5
  have H1 := Lib.hid h1
  clear h5 h1 h hv
  go_enter Tryd.func92, Tryd.ntmps92
  go_wp2_with fail
  go_loopw [8] (fun i wr => ∃ k : Nat, k ≤ es.length ∧ i = .int .i64 k ∧ ptsTo n es k = true ∧ Below w.heap.size w wr) (fun i _ => es.length - (intOf i).toNat)
  case atStart => exact ⟨0, Nat.zero_le _, rfl, rfl, Below.refl _ _⟩
  case round =>
    obtain ⟨k, hk, rfl, hp, hbe⟩ := hrel
    have HP := Lib.hid hp
    have HBE := Lib.hid hbe
    have hz := hbe.size
    clear hp hbe
    by_cases hlt : k < es.length
    · obtain ⟨rfl, hbl⟩ := H1.out (by omega)
      have c0 := (HBE.out.cell (p := ⟨b, off + k * 2, none⟩) hbl).trans (H5.out k hlt).1
      have c1 := (HBE.out.cell (p := ⟨b, off + k * 2 + 1, none⟩) hbl).trans (H5.out k hlt).2
      have HY := Lib.hid (fun h1 h2 => ptsTo_yes HP.out h1 h2)
      have HN := Lib.hid (fun h => ptsTo_no (n := n) (es := es) (m := es.length) hlt h)
      generalize (es.getD k (0, false)).1 = p at *
      generalize (es.getD k (0, false)).2 = l at *
      have HF := Lib.hid (implVS1 n v zs o p l _ (HC.out.next HBE.out))
      by_cases hq : 0 ≤ p ∧ p < n
      · have HR := Lib.hid (HY.out hq.1 hq.2)
        rw [show (!ptB n zs p) = false by simp [ptB, HVV.out, hq]] at HF
        clear hq
        go_wp2_with fail
        refine HF.out.mono ?_
        rintro e w2 ⟨rfl, hb2⟩
        have B2 := Lib.hid (HBE.out.trans (hb2.mono hz))
        clear hb2
        go_wp2_with fail
        go_roundw
        case rel => exact ⟨k + 1, by omega, by go_num, HR.out, B2.out⟩
        case measure => simp [intOf]; omega
      · have HR := Lib.hid (HN.out hq)
        rw [show (!ptB n zs p) = true by
          rw [show ptB n zs p = false by
            rw [← Bool.not_eq_true]
            simp only [ptB, HVV.out, Bool.true_and, Bool.and_eq_true, decide_eq_true_eq]
            exact hq]
          rfl] at HF
        clear hq
        go_wp2_with fail
        refine HF.out.mono ?_
        rintro e w2 ⟨rfl, hb2⟩
        have B2 := Lib.hid (HBE.out.trans (hb2.mono hz))
        clear hb2
        go_wp2_with fail
        go_ret
        exact ⟨⟨k, rfl, by rw [HR.out]; simp⟩, B2.out⟩
    · obtain rfl : k = es.length := by omega
      go_wp2_with fail
      go_ret
      exact ⟨⟨-1, rfl, by rw [HP.out]; rfl⟩, HBE.out⟩

set_option maxHeartbeats 1600000 in
set_option maxRecDepth 100000 in
theorem implContainsVS (n : Int) (v : Value) (zs : List Int) (o : Nat) (u : Value) (es : List (Int × Bool)) (w : World) (h : VCap n v zs o w) (hu : RdE w u es) (hv : vldB n zs = true) :
    Calls Tryd.prog 73 #[u, .func (Fn.func 74) #[] #[.pointer (some ⟨o, 0, none⟩)]] w fun e w' => e = .returned (.bool (!ptsTo n es es.length)) ∧ Below w.heap.size w w' := by
  have HI := Lib.hid (implIndexVS n v zs o u es w h hu hv)
  obtain ⟨a, b, off, cap, rfl, _, _, _⟩ := hu
  clear h hv
  go_enter Tryd.func73, Tryd.ntmps73
  go_wp2_with fail
  refine HI.out.mono ?_
  rintro e w2 ⟨⟨r, rfl, hr⟩, hb2⟩
  have HR := Lib.hid hr
  clear hr
  go_wp2_with fail
  go_ret
  exact ⟨ret_bool HR.out, hb2⟩

set_option maxHeartbeats 1600000 in
set_option maxRecDepth 100000 in
theorem implValidSample (n : Int) (v : Value) (zs : List Int) (u : Value) (es : List (Int × Bool)) (w : World) (h : Rd w v zs) (hu : RdE w u es) :
    Calls Tryd.prog 45 #[.agg #[.int .i64 n, v], u] w fun e w' => e = .returned (.bool (vsB n zs es)) ∧ Below w.heap.size w w' := by
  have H := Lib.hid h
  have HU := Lib.hid hu
  obtain ⟨a, b, off, cap, rfl, _, _, _⟩ := h
  obtain ⟨a2, b2, off2, cap2, rfl, _, _, _⟩ := hu
  have B0 := Lib.hid (Box.made n (.slice a zs.length cap) w 30)
  by_cases hv : vldB n zs = true
  · have HV := Lib.hid hv
    have HE := Lib.hid (vsB_in (es := es) hv)
    clear hv
    by_cases h12 : es.length ≤ 12
    · have hd : decide ((12 : Int) < (es.length : Int)) = false := decide_eq_false (by omega)
      have HE2 := Lib.hid (show vsB n zs es = ptsTo n es es.length by rw [HE.out, decide_eq_true h12, Bool.true_and])
      clear HE
      go_enter Tryd.func45, Tryd.ntmps45
      go_wp2_with fail
      refine (implValid n _ zs _ (H.out.below (k := w.heap.size) (by go_grown) (Nat.le_refl _))).mono ?_
      rintro e w1 ⟨rfl, hb⟩
      rw [HV.out]
      have hs1 : w.heap.size < w1.heap.size := by have := hb.size; simp at this; omega
      have B1 := Lib.hid (B0.out.next (by simp) hb)
      clear hb
      have HF := Lib.hid (implContainsVS n (.slice a zs.length cap) zs w.heap.size _ es w1 ⟨B1.out.at0, B1.out.at1, H.out.below B1.out.below (Nat.le_refl _), hs1⟩ (HU.out.below B1.out.below (Nat.le_refl _)) HV.out)
      generalize ptsTo n es es.length = q at *
      go_wp2_with fail
      refine HF.out.mono ?_
      rintro e w2 ⟨rfl, hb2⟩
      have B2 := Lib.hid (B1.out.next hs1 hb2)
      clear hb2
      go_wp2_with fail
      go_ret
      exact ⟨ret_bool (by first | exact HE2.out.symm | (rw [HE2.out]; simp)), B2.out.below⟩
    · have hd : decide ((12 : Int) < (es.length : Int)) = true := decide_eq_true (by omega)
      have HE2 := Lib.hid (show vsB n zs es = false by rw [HE.out, decide_eq_false h12, Bool.false_and])
      clear HE
      go_enter Tryd.func45, Tryd.ntmps45
      go_wp2_with fail
      refine (implValid n _ zs _ (H.out.below (k := w.heap.size) (by go_grown) (Nat.le_refl _))).mono ?_
      rintro e w1 ⟨rfl, hb⟩
      rw [HV.out]
      have B1 := Lib.hid (B0.out.next (by simp) hb)
      clear hb
      go_wp2_with fail
      go_ret
      exact ⟨ret_bool HE2.out.symm, B1.out.below⟩
  · rw [Bool.not_eq_true] at hv
    have HE := Lib.hid (vsB_bad (es := es) hv)
    have HV := Lib.hid hv
    clear hv
    go_enter Tryd.func45, Tryd.ntmps45
    go_wp2_with fail
    refine (implValid n _ zs _ (H.out.below (k := w.heap.size) (by go_grown) (Nat.le_refl _))).mono ?_
    rintro e w1 ⟨rfl, hb⟩
    rw [HV.out]
    have B1 := Lib.hid (B0.out.next (by simp) hb)
    clear hb
    go_wp2_with fail
    go_ret
    exact ⟨ret_bool HE.out.symm, B1.out.below⟩

end Go.Proofs.YtlnnoeicboamgaaDoor
