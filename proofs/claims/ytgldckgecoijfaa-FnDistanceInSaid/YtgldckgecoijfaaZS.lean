/- DistanceIn, the program's and the model's. Conditions: Sets is a slice of ints. DistanceIn for other arguments, the program's; the model's. Conditions: Sets is a slice of ints. DistanceIn: one number, the program's and the model's. Conditions: Sets is a slice of ints. IsIsometric, the program's and the model's. Conditions: Sets is a slice of ints. IsIsometric, the program's. Conditions: Sets is a slice of ints, the class is valid. IsIsometric: one answer, the program's and the model's. Conditions: Sets is a slice of ints. ComponentsOf, the model's: how many places are reached from no earlier one. Conditions: Sets is a slice of ints. ComponentsOf, the program's and the model's. Conditions: Sets is a slice of ints. ComponentsOf: one number, the program's and the model's. Conditions: Sets is a slice of ints. -/
import Derived.BigQuiet
import Derived.Deep.RegionHeld3
import Derived.Test.YtgldckgecoijfaaDistI
import Derived.Test.YtgldckgecoijfaaIdxC
import Derived.Test.YtgldckgecoijfaaNods
import Derived.Test.YtgldckgecoijfaaZB
import Derived.Test.YtgldckgecoijfaaZC
namespace Go.Proofs.Ytgldckgecoijfaa
open Go.RowKit

theorem infoI : (Try.prog.info? 3).map (·.size) = some 1 := by kernel_rfl
theorem run_indexT (f : Nat → Int) (k : Nat) (hk : k < 32) (w : World) : (Instr.index 57 (.agg (tbC f)) (.int .i64 (k : Int))).run Try.prog w = .ok (.int .i64 (f k)) w := by
  obtain ⟨i, hi, hs⟩ := Option.map_eq_some_iff.1 infoI
  have hg : (tbC f)[k]? = some (.int .i64 (f k)) := by simp [tbC, hk]
  have h0 : (0 : Int) ≤ (k : Int) ∧ (k : Int) < 32 := by omega
  simp [Instr.index, asIntOf, run_underlying Try.underlying57, h0, sizeOf, typeInfo, hi, hs, part, hg, isAgg, run_underlying Try.underlying3]
  intro h
  omega
/-- a step from place to place is a step from set to set -/
theorem nR_set {m : Nat} {ns : List Nat} (h : Cls m ns) {i k : Nat} (hi : i < ns.length) (hk : k < ns.length) : nR ns i k ↔ ns.getD k 0 ∈ nearTo ns (ns.getD i 0) m := by
  have hm := h.pts
  have h1 := getD_of_lt hi
  have h2 := getD_of_lt hk
  have h3 := adj_iff ⟨m, by omega⟩ ⟨_, h.lt32 _ h1⟩ ⟨_, h.lt32 _ h2⟩ (h.lt _ h1) (h.lt _ h2)
  dsimp only at h3
  rw [nR, nearTo, List.mem_filter, h3]
  exact ⟨fun k => ⟨k.2, decide_eq_true h2⟩, fun k => ⟨hk, k.1⟩⟩
theorem pth_set {m : Nat} {ns : List Nat} (h : Cls m ns) {i : Nat} (hi : i < ns.length) : ∀ k j, Pth (nR ns) i k j → j < ns.length ∧ Pth (fun u v => v ∈ nearTo ns u m) (ns.getD i 0) k (ns.getD j 0) := by
  intro k
  induction k with
  | zero =>
    intro j hj
    have : j = i := hj
    subst this
    exact ⟨hi, rfl⟩
  | succ k ih =>
    rintro j ⟨v, hv, hR⟩
    obtain ⟨h1, h2⟩ := ih v hv
    exact ⟨hR.1, _, h2, (nR_set h h1 hR.1).1 hR⟩
theorem pth_place {m : Nat} {ns : List Nat} (h : Cls m ns) {i : Nat} (hi : i < ns.length) : ∀ k t, Pth (fun u v => v ∈ nearTo ns u m) (ns.getD i 0) k t → ∃ j, j < ns.length ∧ ns.getD j 0 = t ∧ Pth (nR ns) i k j := by
  intro k
  induction k with
  | zero =>
    intro t ht
    have : t = ns.getD i 0 := ht
    exact ⟨i, hi, this.symm, rfl⟩
  | succ k ih =>
    rintro t ⟨v, hv, hR⟩
    obtain ⟨a, h1, h2, h3⟩ := ih v hv
    obtain ⟨b, hb, e⟩ := List.getElem_of_mem (near_mem hR)
    have eb : ns.getD b 0 = t := by rw [List.getD_eq_getElem?_getD, List.getElem?_eq_getElem hb]; exact e
    exact ⟨b, hb, eb, a, h3, (nR_set h h1 hb).2 (by rw [eb, h2]; exact hR)⟩
theorem dst_set {m : Nat} {ns : List Nat} (h : Cls m ns) {i j : Nat} (hi : i < ns.length) (hj : j < ns.length) {d : Int} (hd : Dst (fun u v => v ∈ nearTo ns u m) (ns.getD i 0) (ns.getD j 0) d) : Dst (nR ns) i j d := by
  rcases hd with ⟨h1, h2⟩ | ⟨k, h1, h2, h3⟩
  · exact .inl ⟨h1, fun k hk => h2 k (pth_set h hi k j hk).2⟩
  · obtain ⟨b, hb, eb, hp⟩ := pth_place h hi k _ h2
    have := getD_inj h.asc hb hj eb
    subst this
    exact .inr ⟨k, h1, hp, fun l hl => h3 l (pth_set h hi l b hl).2⟩
theorem at_first {m : Nat} {ns : List Nat} (h : Cls m ns) {i : Nat} (hi : i < ns.length) : ∀ k, k < i → (toI ns).getD k 0 ≠ ((ns.getD i 0 : Nat) : Int) := by
  intro k hk e
  rw [toI_getD] at e
  have := getD_inj h.asc (show k < ns.length by omega) hi (Int.ofNat_inj.1 e)
  omega
theorem at_hasB {ns : List Nat} {i : Nat} (hi : i < ns.length) : hasB (toI ns) ((ns.getD i 0 : Nat) : Int) = true := by
  rw [hasB_nat]; exact decide_eq_true (getD_of_lt hi)
/-- are both sets of a valid class? -/
def dOk (n : Int) (zs : List Int) (a b : Int) : Bool := vldB n zs && (hasB zs a && hasB zs b)
theorem dOk_at {n : Int} {zs : List Int} {a b : Int} (h : dOk n zs a b = true) : ∃ (m : Nat) (ns : List Nat) (i j : Nat), n = m ∧ zs = toI ns ∧ Cls m ns ∧ i < ns.length ∧ j < ns.length ∧ a = ((ns.getD i 0 : Nat) : Int) ∧ b = ((ns.getD j 0 : Nat) : Int) ∧ vldB m (toI ns) = true := by
  simp only [dOk, Bool.and_eq_true] at h
  obtain ⟨hv, ha, hb⟩ := h
  obtain ⟨m, ns, rfl, rfl, hc⟩ := vldB_cls hv
  obtain ⟨i, hi, e, _⟩ := first_at _ _ ha
  obtain ⟨j, hj, f, _⟩ := first_at _ _ hb
  rw [toI_length] at hi hj
  rw [toI_getD] at e f
  exact ⟨m, ns, i, j, rfl, rfl, hc, hi, hj, e.symm, f.symm, hv⟩

set_option maxHeartbeats 3200000 in
set_option maxRecDepth 100000 in
theorem implDistIn (m : Nat) (ns : List Nat) (i j : Nat) (v : Value) (w : World) (hc : Cls m ns) (hv : vldB m (toI ns) = true) (hi : i < ns.length) (hj : j < ns.length) (h : Rd w v (toI ns)) :
    Calls Try.prog 13 #[.agg #[.int .i64 m, v], .int .i64 ((ns.getD i 0 : Nat) : Int), .int .i64 ((ns.getD j 0 : Nat) : Int)] w fun e w' => ∃ d, e = .returned (.int .i64 d) ∧ Dst (nR ns) i j d ∧ Below w.heap.size w w' := by
  have H := Lib.hid h
  obtain ⟨a, b, off, cap, rfl, h1, h3, h5⟩ := h
  rw [toI_length] at H h1 h3 h5 ⊢
  have HI := Lib.hid (fun w h => slIndexIn (.slice a ns.length cap) (toI ns) ((ns.getD i 0 : Nat) : Int) i w h (by rw [toI_length]; exact hi) (toI_getD ns i) (at_first hc hi))
  have HK := Lib.hid (fun w h => slContains (.slice a ns.length cap) (toI ns) ((ns.getD j 0 : Nat) : Int) w h)
  rw [at_hasB hj] at HK
  have HV := Lib.hid (fun w h => implValid m (.slice a ns.length cap) (toI ns) w h)
  rw [hv] at HV
  have HN := Lib.hid (fun w h => implNodesOf m ns (.slice a ns.length cap) w hc h)
  have him := getD_of_lt hi
  have HD := Lib.hid (fun bl nv w h => implDistances bl m ns nv (ns.getD i 0) w hc h him)
  have HL := Lib.hid (fun d => dst_set hc hi hj (d := d))
  have hj32 := hc.lt32 _ (getD_of_lt hj)
  have hi32 := hc.lt32 _ him
  have HIM := Lib.hid him
  have hiI : (i : Int) < (ns.length : Int) := by omega
  have hMB := Lib.hid (fun bl => mapbl_getD (bl := bl) hi)
  have B0 := Lib.hid (Box.made m (.slice a ns.length cap) w 25)
  clear h1 h5 him hv hc
  generalize ns.getD i 0 = x at *
  generalize ns.getD j 0 = y at *
  have hyI : (y : Int) < 32 := by omega
  go_enter Try.func13, Try.ntmps13
  go_wp2_with fail
  refine (HI.out _ (H.out.below (k := w.heap.size) (by go_grown) (Nat.le_refl _))).mono ?_
  rintro e w0 ⟨rfl, hw0⟩
  subst hw0
  go_wp2_with fail
  refine (HV.out _ (H.out.below (k := w.heap.size) (by go_grown) (Nat.le_refl _))).mono ?_
  rintro e w1 ⟨rfl, hb⟩
  have B1 := Lib.hid (B0.out.next (by simp) hb)
  have hs1 : w.heap.size < w1.heap.size := by have := hb.size; simp at this; omega
  clear hb B0
  have c0 := B1.out.at0
  have c1 := B1.out.at1
  go_wp2_with fail
  refine (HK.out _ (H.out.below B1.out.below (Nat.le_refl _))).mono ?_
  rintro e w0 ⟨rfl, hw0⟩
  subst hw0
  go_wp2_with fail
  refine (HN.out _ (H.out.below B1.out.below (Nat.le_refl _))).mono ?_
  rintro e w2 ⟨bl, v2, rfl, hnd, hb2⟩
  have B2 := Lib.hid (B1.out.next hs1 hb2)
  obtain ⟨na, nb, noff, ncap, rfl, hn1, _, hn3⟩ := hnd.row
  rw [List.length_map] at hn1 hn3 hnd ⊢
  obtain ⟨rfl, hnl⟩ := hn1 (by omega)
  have hp0 : w2.cell? ⟨nb, noff + i, none⟩ = some (.pointer (some ⟨bl x, 0, none⟩)) := (hn3 i hi).trans (by rw [hMB.out]; rfl)
  have HDn := Lib.hid (HD.out bl _ w2 hnd)
  have hz2 := hb2.size
  clear hn3 hnd hb2 c0 c1
  go_wp2_with fail
  refine HDn.out.mono ?_
  rintro e w3 ⟨st, rfl, hst, hb3⟩
  have HST := Lib.hid (HL.out _ (hst y))
  have B3 := Lib.hid (B2.out.next (by omega) hb3)
  clear hst hb3 hp0
  have hix : ∀ w, Sem.run Try.prog (Instr.index 57 (.agg (tbC st)) (.int .i64 (y : Int))) w = .ok (.int .i64 (st y)) w := fun w => run_indexT st y hj32 w
  go_wp2_with fail
  go_ret
  exact ⟨_, rfl, HST.out, B3.out.below⟩

end Go.Proofs.Ytgldckgecoijfaa

namespace Go.Proofs.Ytgldckgecoijfaa
open Go.RowKit

theorem slIndexAny (v : Value) (xs : List Int) (x : Int) (w : World) (h : Rd w v xs) : ∃ r : Int, (hasB xs x = false → r = -1) ∧ (hasB xs x = true → ¬ r < 0) ∧ Calls Try.prog 53 #[v, .int .i64 x] w fun e w' => e = .returned (.int .i64 r) ∧ w = w' := by
  cases hh : hasB xs x with
  | true =>
    obtain ⟨j, h1, h2, h3⟩ := first_at xs x hh
    exact ⟨j, fun k => by simp at k, fun _ => by omega, slIndexIn v xs x j w h h1 h2 h3⟩
  | false => exact ⟨-1, fun _ => rfl, fun k => by simp at k, slIndexNo v xs x w h (none_at hh)⟩

set_option maxHeartbeats 3200000 in
set_option maxRecDepth 100000 in
theorem implDistNo (n : Int) (v : Value) (zs : List Int) (s t : Int) (w : World) (hk : dOk n zs s t = false) (h : Rd w v zs) :
    Calls Try.prog 13 #[.agg #[.int .i64 n, v], .int .i64 s, .int .i64 t] w fun e w' => e = .returned (.int .i64 (-1)) ∧ Below w.heap.size w w' := by
  have H := Lib.hid h
  obtain ⟨a, b, off, cap, rfl, h1, h3, h5⟩ := h
  clear h1 h5
  have HV := Lib.hid (fun w h => implValid n (.slice a zs.length cap) zs w h)
  have HK := Lib.hid (fun w h => slContains (.slice a zs.length cap) zs t w h)
  have HX := Lib.hid (fun w h => slIndexAny (.slice a zs.length cap) zs s w h)
  have B0 := Lib.hid (Box.made n (.slice a zs.length cap) w 25)
  generalize hL : zs.length = L at *
  clear hL
  obtain ⟨r, hr1, hr2, HI⟩ := HX.out (w.alloc (.cells #[.int .i64 n, .slice a L cap] 25)) (H.out.below (k := w.heap.size) (by go_grown) (Nat.le_refl _))
  have HI' := Lib.hid HI
  have HR1 := Lib.hid hr1
  have HR2 := Lib.hid hr2
  have HK2 := Lib.hid hk
  clear HI hr1 hr2 hk HX
  go_enter Try.func13, Try.ntmps13
  go_wp2_with fail
  refine HI'.out.mono ?_
  rintro e w0 ⟨rfl, hw0⟩
  subst hw0
  go_wp2_with fail
  refine (HV.out _ (H.out.below (k := w.heap.size) (by go_grown) (Nat.le_refl _))).mono ?_
  rintro e w1 ⟨rfl, hb⟩
  have B1 := Lib.hid (B0.out.next (by simp) hb)
  clear hb B0
  have c0 := B1.out.at0
  have c1 := B1.out.at1
  cases hv : vldB n zs with
  | false =>
    clear HK
    go_wp2_with fail
    go_ret
    exact ⟨rfl, B1.out.below⟩
  | true =>
    cases ha : hasB zs s with
    | false =>
      obtain rfl := HR1.out ha
      clear HK ha
      go_wp2_with fail
      go_ret
      exact ⟨rfl, B1.out.below⟩
    | true =>
      have hr := HR2.out ha
      have hbf : hasB zs t = false := by
        have := HK2.out
        simp only [dOk, hv, ha, Bool.true_and] at this
        exact this
      rw [hbf] at HK
      clear ha hbf
      go_wp2_with fail
      refine (HK.out _ (H.out.below B1.out.below (Nat.le_refl _))).mono ?_
      rintro e w0 ⟨rfl, hw0⟩
      subst hw0
      go_wp2_with fail
      go_ret
      exact ⟨rfl, B1.out.below⟩

set_option maxHeartbeats 3200000 in
set_option maxRecDepth 100000 in
theorem specDistNo (n : Int) (v : Value) (zs : List Int) (s t : Int) (w : World) (hk : dOk n zs s t = false) (h : Rd w v zs) :
    Calls Try.prog 14 #[.agg #[.int .i64 n, v], .int .i64 s, .int .i64 t] w fun e w' => e = .returned (.int .i64 (-1)) ∧ Below w.heap.size w w' := by
  have H := Lib.hid h
  obtain ⟨a, b, off, cap, rfl, h1, h3, h5⟩ := h
  clear h1 h5
  have HV := Lib.hid (fun w h => specValid n (.slice a zs.length cap) zs w h)
  have HA := Lib.hid (fun w h => specHasInt (.slice a zs.length cap) zs s w h)
  have HB := Lib.hid (fun w h => specHasInt (.slice a zs.length cap) zs t w h)
  have B0 := Lib.hid (Box.made n (.slice a zs.length cap) w 25)
  have HK2 := Lib.hid hk
  generalize hL : zs.length = L at *
  clear hL hk
  go_enter Try.func14, Try.ntmps14
  go_wp2_with fail
  refine (HV.out _ (H.out.below (k := w.heap.size) (by go_grown) (Nat.le_refl _))).mono ?_
  rintro e w1 ⟨rfl, hb⟩
  have B1 := Lib.hid (B0.out.next (by simp) hb)
  clear hb B0
  have c0 := B1.out.at0
  have c1 := B1.out.at1
  cases hv : vldB n zs with
  | false =>
    clear HA HB
    go_wp2_with fail
    go_ret
    exact ⟨rfl, B1.out.below⟩
  | true =>
    cases ha : hasB zs s with
    | false =>
      rw [ha] at HA
      clear HB ha
      go_wp2_with fail
      refine (HA.out _ (H.out.below B1.out.below (Nat.le_refl _))).mono ?_
      rintro e w0 ⟨rfl, hw0⟩
      subst hw0
      go_wp2_with fail
      go_ret
      exact ⟨rfl, B1.out.below⟩
    | true =>
      have hbf : hasB zs t = false := by
        have := HK2.out
        simp only [dOk, hv, ha, Bool.true_and] at this
        exact this
      rw [ha] at HA
      rw [hbf] at HB
      clear ha hbf
      go_wp2_with fail
      refine (HA.out _ (H.out.below B1.out.below (Nat.le_refl _))).mono ?_
      rintro e w0 ⟨rfl, hw0⟩
      subst hw0
      go_wp2_with fail
      refine (HB.out _ (H.out.below B1.out.below (Nat.le_refl _))).mono ?_
      rintro e w0 ⟨rfl, hw0⟩
      subst hw0
      go_wp2_with fail
      go_ret
      exact ⟨rfl, B1.out.below⟩

set_option maxHeartbeats 3200000 in
set_option maxRecDepth 100000 in
theorem specDistIn (m : Nat) (ns : List Nat) (i j : Nat) (v : Value) (w : World) (hc : Cls m ns) (hv : vldB m (toI ns) = true) (hi : i < ns.length) (hj : j < ns.length) (h : Rd w v (toI ns)) :
    Calls Try.prog 14 #[.agg #[.int .i64 m, v], .int .i64 ((ns.getD i 0 : Nat) : Int), .int .i64 ((ns.getD j 0 : Nat) : Int)] w fun e w' => ∃ d, e = .returned (.int .i64 d) ∧ Dst (nR ns) i j d ∧ Below w.heap.size w w' := by
  have H := Lib.hid h
  obtain ⟨a, b, off, cap, rfl, h1, h3, h5⟩ := h
  rw [toI_length] at H h1 h3 h5 ⊢
  have HI := Lib.hid (fun w h => specIndexInt (.slice a ns.length cap) (toI ns) ((ns.getD i 0 : Nat) : Int) i w h (by rw [toI_length]; exact hi) (toI_getD ns i) (at_first hc hi))
  have HJ := Lib.hid (fun w h => specIndexInt (.slice a ns.length cap) (toI ns) ((ns.getD j 0 : Nat) : Int) j w h (by rw [toI_length]; exact hj) (toI_getD ns j) (at_first hc hj))
  have HV := Lib.hid (fun w h => specValid m (.slice a ns.length cap) (toI ns) w h)
  rw [hv] at HV
  have HA := Lib.hid (fun w h => specHasInt (.slice a ns.length cap) (toI ns) ((ns.getD i 0 : Nat) : Int) w h)
  have HB := Lib.hid (fun w h => specHasInt (.slice a ns.length cap) (toI ns) ((ns.getD j 0 : Nat) : Int) w h)
  rw [at_hasB hi] at HA
  rw [at_hasB hj] at HB
  have HS := Lib.hid (fun w h => specSteps (.slice a ns.length cap) ns i w hc.length hc.lt32 hi h)
  have B0 := Lib.hid (Box.made m (.slice a ns.length cap) w 25)
  have hjI : (j : Int) < (ns.length : Int) := by omega
  clear h1 h5 hv hc
  generalize ns.getD i 0 = x at *
  generalize ns.getD j 0 = y at *
  go_enter Try.func14, Try.ntmps14
  go_wp2_with fail
  refine (HV.out _ (H.out.below (k := w.heap.size) (by go_grown) (Nat.le_refl _))).mono ?_
  rintro e w1 ⟨rfl, hb⟩
  have B1 := Lib.hid (B0.out.next (by simp) hb)
  have hs1 : w.heap.size < w1.heap.size := by have := hb.size; simp at this; omega
  clear hb B0
  have c0 := B1.out.at0
  have c1 := B1.out.at1
  go_wp2_with fail
  refine (HA.out _ (H.out.below B1.out.below (Nat.le_refl _))).mono ?_
  rintro e w0 ⟨rfl, hw0⟩
  subst hw0
  go_wp2_with fail
  refine (HB.out _ (H.out.below B1.out.below (Nat.le_refl _))).mono ?_
  rintro e w0 ⟨rfl, hw0⟩
  subst hw0
  go_wp2_with fail
  refine wp_region_held_drew (S := fun w' => w'.cell? ⟨w.heap.size, 1, none⟩ = some (.slice a ns.length cap)) (by kernel_rfl) (by first | exact c1 | go_keep) (fun hHeld => ?_)
  refine wpAnyH_take (i := 0) (v := ?_) rfl (by kernel_rfl) (by kernel_rfl) (by kernel_rfl) (fun _ _ _ h => h) (Or.inl ⟨by rfl, ?_⟩) (by assumption) ?_
  rotate_left
  · (intro w hSw; (try dsimp only at hSw); go_simp; try with_reducible rfl)
  try simp only [List.getElem_toArray, List.getElem_cons_zero, Act.put, List.setIfInBounds_toArray, List.set_cons_zero, List.set_cons_succ]
  refine wpAnyH_take (i := 1) (v := ?_) rfl (by kernel_rfl) (by kernel_rfl) (by kernel_rfl) (fun _ _ _ h => h) (Or.inl ⟨by rfl, ?_⟩) (by assumption) ?_
  rotate_left
  · (intro w hSw; (try dsimp only at hSw); go_simp; try with_reducible rfl)
  try simp only [List.getElem_toArray, List.getElem_cons_zero, List.getElem_cons_succ, Act.put, List.setIfInBounds_toArray, List.set_cons_zero, List.set_cons_succ]
  refine wpAnyH_take (i := 2) (v := ?_) rfl (by kernel_rfl) (by kernel_rfl) (by kernel_rfl) (fun _ _ _ h => h) (Or.inl ⟨by rfl, ?_⟩) (by assumption) ?_
  rotate_left
  · (intro w hSw; (try dsimp only at hSw); go_simp; try with_reducible rfl)
  try simp only [List.getElem_toArray, List.getElem_cons_zero, List.getElem_cons_succ, Act.put, List.setIfInBounds_toArray, List.set_cons_zero, List.set_cons_succ]
  refine wpAnyH_take (i := 3) (v := ?_) rfl (by kernel_rfl) (by kernel_rfl) (by kernel_rfl) (fun _ _ _ h => h) (Or.inl ⟨by rfl, ?_⟩) (by assumption) ?_
  rotate_left
  · (intro w hSw; (try dsimp only at hSw); go_simp; try with_reducible rfl)
  try simp only [List.getElem_toArray, List.getElem_cons_zero, List.getElem_cons_succ, Act.put, List.setIfInBounds_toArray, List.set_cons_zero, List.set_cons_succ]
  refine wpAnyH_take (i := 4) (v := ?_) rfl (by kernel_rfl) (by kernel_rfl) (by kernel_rfl) (fun _ _ _ h => h) (Or.inl ⟨by rfl, ?_⟩) (by assumption) ?_
  rotate_left
  · (intro w hSw; (try dsimp only at hSw); go_simp; try with_reducible rfl)
  try simp only [List.getElem_toArray, List.getElem_cons_zero, List.getElem_cons_succ, Act.put, List.setIfInBounds_toArray, List.set_cons_zero, List.set_cons_succ]
  refine wpAnyH_take (i := 7) (v := ?_) rfl (by kernel_rfl) (by kernel_rfl) (by kernel_rfl) (fun _ _ _ h => h) (Or.inl ⟨by rfl, ?_⟩) (by assumption) ?_
  rotate_left
  · (intro w hSw; (try dsimp only at hSw); go_simp; try with_reducible rfl)
  try simp only [List.getElem_toArray, List.getElem_cons_zero, List.getElem_cons_succ, Act.put, List.setIfInBounds_toArray, List.set_cons_zero, List.set_cons_succ]
  refine wpAnyH_take (i := 8) (v := ?_) rfl (by kernel_rfl) (by kernel_rfl) (by kernel_rfl) (fun _ _ _ h => h) (Or.inl ⟨by rfl, ?_⟩) (by assumption) ?_
  rotate_left
  · (intro w hSw; (try dsimp only at hSw); go_simp; try with_reducible rfl)
  try simp only [List.getElem_toArray, List.getElem_cons_zero, List.getElem_cons_succ, Act.put, List.setIfInBounds_toArray, List.set_cons_zero, List.set_cons_succ]
  refine wpAnyH_take (i := 9) (v := ?_) rfl (by kernel_rfl) (by kernel_rfl) (by kernel_rfl) (fun _ _ _ h => h) (Or.inl ⟨by rfl, ?_⟩) (by assumption) ?_
  rotate_left
  · (intro w hSw; (try dsimp only at hSw); go_simp; try with_reducible rfl)
  try simp only [List.getElem_toArray, List.getElem_cons_zero, List.getElem_cons_succ, Act.put, List.setIfInBounds_toArray, List.set_cons_zero, List.set_cons_succ]
  refine wpAnyH_ready (rs := [5]) (by kernel_rfl) (by simp) ?_
  refine AllReadyH.cons rfl (fun K hK => ?_) AllReadyH.nil
  try simp only [List.getElem_toArray]
  go_simp
  (go_at_call 60; refine (HI.out _ (H.out.below (k := w.heap.size) (by first | exact B1.out.below | exact B1.out.below.drew) (Nat.le_refl _))).mono ?_; rintro e w9 ⟨rfl, hw9⟩; subst hw9)
  refine hK.out _ _ (by first | exact c1 | go_keep) (fun hHeld => ?_)
  clear hK K
  try simp only [List.getElem_toArray, List.getElem_cons_zero, List.getElem_cons_succ, Act.put, List.setIfInBounds_toArray, List.set_cons_zero, List.set_cons_succ]
  refine wpAnyH_ready (rs := [6]) (by kernel_rfl) (by simp) ?_
  refine AllReadyH.cons rfl (fun K hK => ?_) AllReadyH.nil
  try simp only [List.getElem_toArray]
  go_simp
  (go_at_call 59; refine (HS.out _ (H.out.below (k := w.heap.size) (by first | exact B1.out.below | exact B1.out.below.drew) (Nat.le_refl _))).mono ?_; rintro e w2 ⟨st, a2, c2, rfl, hin2, hst, hbd⟩; have hb2 : Below w1.heap.size w1 w2 := (by first | exact hbd | exact ⟨hbd.os, hbd.tape, hbd.output, hbd.size, hbd.block⟩); have B2 := Lib.hid (B1.out.next hs1 hb2); have HD := Lib.hid (hst j); obtain ⟨g2, rfl, _, _⟩ := hin2.someAt (by omega); have hcv := (hin2.cellAt j (by rw [mkL_len]; exact hj)).1; rw [mkL_at st hj] at hcv; clear hin2 hst hbd hb2 c0 c1; have c0 := B2.out.at0; have c1 := B2.out.at1)
  refine hK.out _ _ (by first | exact c1 | go_keep) (fun hHeld => ?_)
  clear hK K
  try simp only [List.getElem_toArray, List.getElem_cons_zero, List.getElem_cons_succ, Act.put, List.setIfInBounds_toArray, List.set_cons_zero, List.set_cons_succ]
  refine wpAnyH_ready (rs := [10]) (by kernel_rfl) (by simp) ?_
  refine AllReadyH.cons rfl (fun K hK => ?_) AllReadyH.nil
  try simp only [List.getElem_toArray]
  go_simp
  (go_at_call 60; refine (HJ.out _ (H.out.below (k := w.heap.size) (by first | exact B2.out.below | exact B2.out.below.drew) (Nat.le_refl _))).mono ?_; rintro e w9 ⟨rfl, hw9⟩; subst hw9)
  refine hK.out _ _ (by first | exact c1 | go_keep) (fun hHeld => ?_)
  clear hK K
  try simp only [List.getElem_toArray, List.getElem_cons_zero, List.getElem_cons_succ, Act.put, List.setIfInBounds_toArray, List.set_cons_zero, List.set_cons_succ]
  refine wpAnyH_take (i := 11) (v := ?_) rfl (by kernel_rfl) (by kernel_rfl) (by kernel_rfl) (fun _ _ _ h => h) (Or.inl ⟨by rfl, ?_⟩) (by assumption) ?_
  rotate_left
  · (intro w hSw; (try dsimp only at hSw); go_simp; try with_reducible rfl)
  try simp only [List.getElem_toArray, List.getElem_cons_zero, List.getElem_cons_succ, Act.put, List.setIfInBounds_toArray, List.set_cons_zero, List.set_cons_succ]
  refine wpAnyH_ready (rs := [12]) (by kernel_rfl) (by simp) ?_
  refine AllReadyH.cons rfl (fun K hK => ?_) AllReadyH.nil
  try simp only [List.getElem_toArray]
  go_simp
  skip
  refine hK.out _ _ (by first | exact c1 | go_keep) (fun hHeld => ?_)
  clear hK K
  try simp only [List.getElem_toArray, List.getElem_cons_zero, List.getElem_cons_succ, Act.put, List.setIfInBounds_toArray, List.set_cons_zero, List.set_cons_succ]
  refine wpAnyH_take (i := 13) (v := ?_) rfl (by kernel_rfl) (by kernel_rfl) (by kernel_rfl) (fun _ _ _ h => h) (Or.inl ⟨by rfl, ?_⟩) (by assumption) ?_
  rotate_left
  · (intro w hSw; (try dsimp only at hSw); go_simp; try with_reducible rfl)
  try simp only [List.getElem_toArray, List.getElem_cons_zero, List.getElem_cons_succ, Act.put, List.setIfInBounds_toArray, List.set_cons_zero, List.set_cons_succ]
  refine wpAnyH_done (by kernel_rfl) ?_ _
  go_wp2_with fail
  go_ret
  exact ⟨_, rfl, HD.out, by first | exact B2.out.below | exact B2.out.below.drew⟩

end Go.Proofs.Ytgldckgecoijfaa

namespace Go.Proofs.Ytgldckgecoijfaa
open Go.RowKit

theorem least_of (P : Nat → Prop) : ∀ n, P n → ∃ k, P k ∧ ∀ j, P j → k ≤ j := by
  intro n
  induction n using Nat.strongRecOn with
  | ind n ih =>
    intro hn
    by_cases h : ∃ j, j < n ∧ P j
    · obtain ⟨j, hj, hp⟩ := h
      exact ih j hj hp
    · exact ⟨n, hn, fun j hj => Nat.le_of_not_lt (fun hlt => h ⟨j, hlt, hj⟩)⟩
theorem dst_ex (R : Nat → Nat → Prop) (s t : Nat) : ∃ d, Dst R s t d := by
  by_cases h : ∃ k, Pth R s k t
  · obtain ⟨k, hk⟩ := h
    obtain ⟨l, h1, h2⟩ := least_of (fun k => Pth R s k t) k hk
    exact ⟨(l : Int), .inr ⟨l, rfl, h1, h2⟩⟩
  · exact ⟨-1, .inl ⟨rfl, fun k hk => h ⟨k, hk⟩⟩⟩
/-- both answer one number -/
theorem distBoth (n : Int) (zs : List Int) (s t : Int) : ∃ R : Int,
    (∀ v w, Rd w v zs → Calls Try.prog 14 #[.agg #[.int .i64 n, v], .int .i64 s, .int .i64 t] w fun e w' => e = .returned (.int .i64 R) ∧ Below w.heap.size w w') ∧
    (∀ v w, Rd w v zs → Calls Try.prog 13 #[.agg #[.int .i64 n, v], .int .i64 s, .int .i64 t] w fun e w' => e = .returned (.int .i64 R) ∧ Below w.heap.size w w') := by
  by_cases hk : dOk n zs s t = true
  · obtain ⟨m, ns, i, j, rfl, rfl, hc, hi, hj, rfl, rfl, hv⟩ := dOk_at hk
    obtain ⟨d, hd⟩ := dst_ex (nR ns) i j
    refine ⟨d, fun v w h => (specDistIn m ns i j v w hc hv hi hj h).mono ?_, fun v w h => (implDistIn m ns i j v w hc hv hi hj h).mono ?_⟩
    · rintro e w' ⟨d', rfl, h1, h2⟩
      exact ⟨by rw [h1.uniq hd], h2⟩
    · rintro e w' ⟨d', rfl, h1, h2⟩
      exact ⟨by rw [h1.uniq hd], h2⟩
  · rw [Bool.not_eq_true] at hk
    exact ⟨-1, fun v w h => specDistNo n v zs s t w hk h, fun v w h => implDistNo n v zs s t w hk h⟩

end Go.Proofs.Ytgldckgecoijfaa

namespace Go.Proofs.Ytgldckgecoijfaa
open Go.RowKit

/-- the steps from the first i places are as few as the points that differ, and those from the i-th one to the first k -/
def isoTo (ns : List Nat) (i k : Nat) : Prop := (∀ a, a < i → ∀ b, b < ns.length → Dst (nR ns) a b ((pc (ns.getD a 0 ^^^ ns.getD b 0) : Nat) : Int)) ∧ ∀ b, b < k → Dst (nR ns) i b ((pc (ns.getD i 0 ^^^ ns.getD b 0) : Nat) : Int)
theorem isoTo.zero (ns : List Nat) : isoTo ns 0 0 := ⟨fun a ha => by omega, fun b hb => by omega⟩
theorem isoTo.step {ns : List Nat} {i k : Nat} (h : isoTo ns i k) (hd : Dst (nR ns) i k ((pc (ns.getD i 0 ^^^ ns.getD k 0) : Nat) : Int)) : isoTo ns i (k + 1) :=
  ⟨h.1, fun b hb => by
    by_cases e : b = k
    · subst e; exact hd
    · exact h.2 b (by omega)⟩
theorem isoTo.next {ns : List Nat} {i : Nat} (h : isoTo ns i ns.length) : isoTo ns (i + 1) 0 :=
  ⟨fun a ha b hb => by
    by_cases e : a = i
    · subst e; exact h.2 b hb
    · exact h.1 a (by omega) b hb, fun b hb => by omega⟩
/-- R tells whether they all are -/
def Iso (ns : List Nat) (R : Bool) : Prop := R = true ↔ ∀ a, a < ns.length → ∀ b, b < ns.length → Dst (nR ns) a b ((pc (ns.getD a 0 ^^^ ns.getD b 0) : Nat) : Int)
theorem Iso.no {ns : List Nat} {R : Bool} (h : Iso ns R) {i k : Nat} (hi : i < ns.length) (hk : k < ns.length) {d : Int} (hd : Dst (nR ns) i k d) (hne : ¬ d = ((pc (ns.getD i 0 ^^^ ns.getD k 0) : Nat) : Int)) : R = false := by
  cases R with
  | false => rfl
  | true => exact absurd (hd.uniq (h.1 rfl i hi k hk)) hne
theorem Iso.yes {ns : List Nat} {R : Bool} (h : Iso ns R) (hd : isoTo ns ns.length 0) : R = true := h.2 hd.1
theorem iso_ex (ns : List Nat) : ∃ R, Iso ns R := by
  by_cases h : ∀ a, a < ns.length → ∀ b, b < ns.length → Dst (nR ns) a b ((pc (ns.getD a 0 ^^^ ns.getD b 0) : Nat) : Int)
  · exact ⟨true, ⟨fun _ => h, fun _ => rfl⟩⟩
  · exact ⟨false, ⟨fun k => (by cases k), fun k => absurd k h⟩⟩

set_option maxHeartbeats 6400000 in
set_option maxRecDepth 100000 in
theorem specIsoIn (m : Nat) (ns : List Nat) (R : Bool) (v : Value) (w : World) (hc : Cls m ns) (hv : vldB m (toI ns) = true) (hR : Iso ns R) (h : Rd w v (toI ns)) :
    Calls Try.prog 21 #[.agg #[.int .i64 m, v]] w fun e w' => e = .returned (.bool R) ∧ Below w.heap.size w w' := by
  have H := Lib.hid h
  obtain ⟨a, b, off, cap, rfl, h1, h3, h5⟩ := h
  rw [toI_length] at H h1 h3 h5 ⊢
  have H1 := Lib.hid h1
  have H5 := Lib.hid h5
  have HV := Lib.hid (fun w h => specValid m (.slice a ns.length cap) (toI ns) w h)
  rw [hv] at HV
  have HS := Lib.hid (fun i hi w h => specSteps (.slice a ns.length cap) ns i w hc.length hc.lt32 hi h)
  have HR := Lib.hid hR
  have H32 := Lib.hid hc.lt32
  have hl := hc.length
  have B0 := Lib.hid (Box.made m (.slice a ns.length cap) w 25)
  clear h1 h5 hv hc hR
  go_enter Try.func21, Try.ntmps21
  go_wp2_with fail
  refine (HV.out _ (H.out.below (k := w.heap.size) (by go_grown) (Nat.le_refl _))).mono ?_
  rintro e w1 ⟨rfl, hb⟩
  have B1 := Lib.hid (B0.out.next (by simp) hb)
  have hs1 : w.heap.size < w1.heap.size := by have := hb.size; simp at this; omega
  clear hb B0
  have c0 := B1.out.at0
  have c1 := B1.out.at1
  go_wp2_with fail
  clear c0 c1
  go_loopw [3] (fun q wr => ∃ i : Nat, i ≤ ns.length ∧ q = .int .i64 i ∧ Hid (isoTo ns i 0) ∧ Below w1.heap.size w1 wr) (fun q _ => ns.length - (intOf q).toNat)
  case atStart => exact ⟨0, Nat.zero_le _, rfl, Lib.hid (isoTo.zero ns), Below.refl _ _⟩
  case round =>
    obtain ⟨i, hi, rfl, IS, hbe⟩ := hrel
    have B2 := Lib.hid (B1.out.next hs1 hbe)
    have BE := Lib.hid hbe
    have hz2 := hbe.size
    have c1 := B2.out.at1
    clear hbe
    by_cases hil : i < ns.length
    · obtain ⟨rfl, hbl⟩ := H1.out (by omega)
      have hxm := getD_of_lt hil
      have hx32 := H32.out _ hxm
      have hcx := (B2.out.below.cell (p := ⟨b, off + i, none⟩) hbl).trans (H5.out i hil)
      rw [toI_getD] at hcx
      have HCX := Lib.hid hcx
      have hiI : (i : Int) < (ns.length : Int) := by omega
      clear hcx hxm
      go_wp2_with fail
      refine (HS.out i hil _ (H.out.below B2.out.below (Nat.le_refl _))).mono ?_
      rintro e w3 ⟨st, a3, c3, rfl, hin3, hst, hb3⟩
      obtain ⟨g3, rfl, -, hg3⟩ := hin3.someAt (by omega)
      have I3 := Lib.hid hin3
      have ST := Lib.hid hst
      have BE3 := Lib.hid (BE.out.trans (hb3.mono (by omega)))
      have B3 := Lib.hid (B2.out.next (by omega) hb3)
      have HCX3 := Lib.hid ((hb3.cell (p := ⟨b, off + i, none⟩) (by show b < wr.heap.size; omega)).trans HCX.out)
      have hz3 := hb3.size
      clear hin3 hst hb3 c1
      go_wp2_with fail
      go_loopw [5] (fun q wq => ∃ k : Nat, k ≤ ns.length ∧ q = .int .i64 k ∧ Hid (isoTo ns i k) ∧ Below w3.heap.size w3 wq) (fun q _ => ns.length - (intOf q).toNat)
      case atStart => exact ⟨0, Nat.zero_le _, rfl, IS, Below.refl _ _⟩
      case round =>
        obtain ⟨k, hk, rfl, IK, hbq⟩ := hrel
        have BQ := Lib.hid hbq
        have B4 := Lib.hid (B3.out.next (by omega) hbq)
        have c1 := B4.out.at1
        have hzq := hbq.size
        by_cases hkl : k < ns.length
        · have hym := getD_of_lt hkl
          have hy32 := H32.out _ hym
          have hcy := (B4.out.below.cell (p := ⟨b, off + k, none⟩) hbl).trans (H5.out k hkl)
          rw [toI_getD] at hcy
          have hcx := (hbq.cell (p := ⟨b, off + i, none⟩) (by show b < w3.heap.size; omega)).trans HCX3.out
          have hct := ((I3.out.below hbq (Nat.le_refl _)).cellAt k (by rw [mkL_len]; exact hkl)).1
          rw [mkL_at st hkl] at hct
          have hkI : (k : Int) < (ns.length : Int) := by omega
          have HD := Lib.hid (ST.out k)
          have HNo := Lib.hid (fun hne => HR.out.no hil hkl (ST.out k) hne)
          have HSt := Lib.hid (fun hd => IK.out.step hd)
          clear hbq hym
          generalize st k = z at *
          generalize ns.getD i 0 = x at *
          generalize ns.getD k 0 = y at *
          have hz32 : x ^^^ y < 32 := Nat.xor_lt_two_pow (n := 5) hx32 hy32
          have HF := Lib.hid (fun w => specFlip x y (by omega) (by omega) w)
          have HZ := Lib.hid (fun w => (specSize (x ^^^ y) hz32 w).mono fun e w' h => And.intro h.1 h.2.symm)
          generalize hpp : pc (x ^^^ y) = p at *
          by_cases hzp : z = (p : Int)
          · have HSn := Lib.hid (HSt.out (by rw [← hzp]; exact HD.out))
            subst hzp
            clear hpp HNo HSt
            go_wp2_with fail
            go_region_held3 (fun w' => w'.cell? ⟨w.heap.size, 1, none⟩ = some (.slice (some ⟨b, off, none⟩) ns.length cap) ∧ w'.cell? ⟨b, off + i, none⟩ = some (.int .i64 (x : Int)) ∧ w'.cell? ⟨b, off + k, none⟩ = some (.int .i64 (y : Int)) ∧ w'.cell? ⟨g3, k, none⟩ = some (.int .i64 (p : Int))) (first | exact ⟨c1, hcx, hcy, hct⟩ | go_keep) (first
              | (go_at_call 63; refine (HF.out _).mono ?_; rintro e w9 ⟨rfl, hw9⟩; subst w9)
              | (go_at_call 62; refine (HZ.out _).mono ?_; rintro e w9 ⟨rfl, hw9⟩; subst w9))
            go_wp2_with fail
            go_roundw
            case rel => exact ⟨k + 1, by omega, by go_num, HSn, BQ.out.drew⟩
            case measure => simp [intOf]; omega
          · have hRf := HNo.out hzp
            subst hRf
            have hzb : (z != (p : Int)) = true := by simp; exact hzp
            clear hpp HNo HSt
            go_wp2_with fail
            go_region_held3 (fun w' => w'.cell? ⟨w.heap.size, 1, none⟩ = some (.slice (some ⟨b, off, none⟩) ns.length cap) ∧ w'.cell? ⟨b, off + i, none⟩ = some (.int .i64 (x : Int)) ∧ w'.cell? ⟨b, off + k, none⟩ = some (.int .i64 (y : Int)) ∧ w'.cell? ⟨g3, k, none⟩ = some (.int .i64 z)) (first | exact ⟨c1, hcx, hcy, hct⟩ | go_keep) (first
              | (go_at_call 63; refine (HF.out _).mono ?_; rintro e w9 ⟨rfl, hw9⟩; subst w9)
              | (go_at_call 62; refine (HZ.out _).mono ?_; rintro e w9 ⟨rfl, hw9⟩; subst w9))
            go_wp2_with fail
            go_ret
            exact ⟨rfl, B4.out.below.drew⟩
        · obtain rfl : k = ns.length := by omega
          clear hbq
          have IN := Lib.hid (IK.out.next)
          go_wp2_with fail
          go_roundw
          case rel => exact ⟨i + 1, by omega, by go_num, IN, BE3.out.trans (BQ.out.mono (by omega))⟩
          case measure => simp [intOf]; omega
    · obtain rfl : i = ns.length := by omega
      have hRt := HR.out.yes IS.out
      subst hRt
      go_wp2_with fail
      go_ret
      exact ⟨rfl, B2.out.below⟩

end Go.Proofs.Ytgldckgecoijfaa

namespace Go.Proofs.Ytgldckgecoijfaa
open Go.RowKit

theorem Nds.below {bl : Nat → Nat} {w w' : World} {v : Value} {ns : List Nat} {m k : Nat} (h : Nds bl w v ns m) (hb : Below k w w') (hk : w.heap.size ≤ k) : Nds bl w' v ns m := by
  refine ⟨h.row.below hb hk, fun s hs => ?_, fun s hs => ?_, fun s hs => ?_⟩
  · obtain ⟨h1, h2⟩ := h.set s hs
    exact ⟨Nat.lt_of_lt_of_le h1 hb.size, (hb.cell (p := ⟨bl s, 0, none⟩) (Nat.lt_of_lt_of_le h1 hk)).trans h2⟩
  · obtain ⟨nv, h1, h2⟩ := h.near s hs
    exact ⟨nv, (hb.cell (p := ⟨bl s, 1, none⟩) (Nat.lt_of_lt_of_le (h.set s hs).1 hk)).trans h1, h2.below hb hk⟩
  · exact (hb.cell (p := ⟨bl s, 2, none⟩) (Nat.lt_of_lt_of_le (h.set s hs).1 hk)).trans (h.given s hs)

set_option maxHeartbeats 6400000 in
set_option maxRecDepth 100000 in
theorem implIsoIn (m : Nat) (ns : List Nat) (R : Bool) (v : Value) (w : World) (hc : Cls m ns) (hv : vldB m (toI ns) = true) (hR : Iso ns R) (h : Rd w v (toI ns)) :
    Calls Try.prog 20 #[.agg #[.int .i64 m, v]] w fun e w' => e = .returned (.bool R) ∧ Below w.heap.size w w' := by
  have H := Lib.hid h
  obtain ⟨a, b, off, cap, rfl, h1, h3, h5⟩ := h
  rw [toI_length] at H h1 h3 h5 ⊢
  have H1 := Lib.hid h1
  have H5 := Lib.hid h5
  have HV := Lib.hid (fun w h => implValid m (.slice a ns.length cap) (toI ns) w h)
  rw [hv] at HV
  have HN := Lib.hid (fun w h => implNodesOf m ns (.slice a ns.length cap) w hc h)
  have HD := Lib.hid (fun bl nv s (hs : s ∈ ns) w h => implDistances bl m ns nv s w hc h hs)
  have HL := Lib.hid (fun i (hi : i < ns.length) j (hj : j < ns.length) d => dst_set hc hi hj (d := d))
  have HR := Lib.hid hR
  have H32 := Lib.hid hc.lt32
  have hl := hc.length
  have B0 := Lib.hid (Box.made m (.slice a ns.length cap) w 25)
  clear h1 h5 hv hc hR
  go_enter Try.func20, Try.ntmps20
  go_wp2_with fail
  refine (HV.out _ (H.out.below (k := w.heap.size) (by go_grown) (Nat.le_refl _))).mono ?_
  rintro e w1 ⟨rfl, hb⟩
  have B1 := Lib.hid (B0.out.next (by simp) hb)
  have hs1 : w.heap.size < w1.heap.size := by have := hb.size; simp at this; omega
  clear hb B0
  have c0 := B1.out.at0
  have c1 := B1.out.at1
  go_wp2_with fail
  refine (HN.out _ (H.out.below B1.out.below (Nat.le_refl _))).mono ?_
  rintro e w2 ⟨bl, v2, rfl, hnd, hb2⟩
  have B2 := Lib.hid (B1.out.next hs1 hb2)
  have hs2 : w.heap.size < w2.heap.size := by have := hb2.size; omega
  have ND := Lib.hid hnd
  obtain ⟨na, nb, noff, ncap, rfl, hn1, _, hn3⟩ := hnd.row
  rw [List.length_map] at hn1 hn3 ND ⊢
  have HN1 := Lib.hid hn1
  have HN3 := Lib.hid hn3
  clear hn1 hn3 hnd hb2 c0 c1
  go_wp2_with fail
  go_loopw [14] (fun q wr => ∃ i : Nat, i ≤ ns.length ∧ q = .int .i64 i ∧ Hid (isoTo ns i 0) ∧ Below w2.heap.size w2 wr) (fun q _ => ns.length - (intOf q).toNat)
  case atStart => exact ⟨0, Nat.zero_le _, rfl, Lib.hid (isoTo.zero ns), Below.refl _ _⟩
  case round =>
    obtain ⟨i, hi, rfl, IS, hbe⟩ := hrel
    have B3 := Lib.hid (B2.out.next hs2 hbe)
    have BE := Lib.hid hbe
    have hz2 := hbe.size
    by_cases hil : i < ns.length
    · obtain ⟨rfl, hnl⟩ := HN1.out (by omega)
      obtain ⟨rfl, hbl⟩ := H1.out (by omega)
      have hxm := getD_of_lt hil
      have hx32 := H32.out _ hxm
      have hp0 : wr.cell? ⟨nb, noff + i, none⟩ = some (.pointer (some ⟨bl (ns.getD i 0), 0, none⟩)) := (hbe.cell (p := ⟨nb, noff + i, none⟩) hnl).trans ((HN3.out i hil).trans (by rw [mapbl_getD hil]; rfl))
      have HDi := Lib.hid (HD.out bl _ _ hxm _ (ND.out.below hbe (Nat.le_refl _)))
      obtain ⟨hxl, hx0⟩ := (ND.out.below hbe (Nat.le_refl _)).set _ hxm
      have HX0 := Lib.hid hx0
      have HXE := Lib.hid (show ns.getD i 0 = ns.getD i 0 from rfl)
      have hiI : (i : Int) < (ns.length : Int) := by omega
      have HLi := Lib.hid (fun j hj d => HL.out i hil j hj d)
      clear hbe hx0 hxm
      obtain ⟨x, hxe⟩ : ∃ x, x = ns.getD i 0 := ⟨_, rfl⟩
      rw [← hxe] at hp0 HDi hxl HX0 hx32
      have HXD := Lib.hid hxe
      clear hxe HXE
      go_wp2_with fail
      refine HDi.out.mono ?_
      rintro e w3 ⟨st, rfl, hst, hb3⟩
      have ST := Lib.hid hst
      have hz3 := hb3.size
      have B4 := Lib.hid (B3.out.next (by omega) hb3)
      have BE3 := Lib.hid (BE.out.trans (hb3.mono (by omega)))
      have HX3 := Lib.hid ((hb3.cell (p := ⟨bl x, 0, none⟩) hxl).trans HX0.out)
      clear hst hb3 hp0
      go_upto_region 7 with ((with_reducible show wpList _ _ _ (Oper.mk _ (Op.store _ _ _) _ _ _ _ :: _) _ _); refine wpList_store_row rfl 57 (.tmp 5) (.tmp 19) rfl w3.heap.size (tbC st) rfl rfl 57 (tbC fun _ => 0) (heap_alloc_new w3 _) (infoT _) (by rw [tbC_size, tbC_size]) (tbC_one _) ?_)
      have A5 := Lib.hid (show Pb ((w3.alloc (.cells #[.int .i64 0, .int .i64 0, .int .i64 0, .int .i64 0, .int .i64 0, .int .i64 0, .int .i64 0, .int .i64 0, .int .i64 0, .int .i64 0, .int .i64 0, .int .i64 0, .int .i64 0, .int .i64 0, .int .i64 0, .int .i64 0, .int .i64 0, .int .i64 0, .int .i64 0, .int .i64 0, .int .i64 0, .int .i64 0, .int .i64 0, .int .i64 0, .int .i64 0, .int .i64 0, .int .i64 0, .int .i64 0, .int .i64 0, .int .i64 0, .int .i64 0, .int .i64 0] 57)).setRow w3.heap.size (tbC st)) w3.heap.size 32 (fun t => .int .i64 (st t)) 57 from setRow_heap _ _ _ _ _ _ (heap_alloc_new w3 _))
      have Y5 := Lib.hid (show Below w3.heap.size w3 ((w3.alloc (.cells #[.int .i64 0, .int .i64 0, .int .i64 0, .int .i64 0, .int .i64 0, .int .i64 0, .int .i64 0, .int .i64 0, .int .i64 0, .int .i64 0, .int .i64 0, .int .i64 0, .int .i64 0, .int .i64 0, .int .i64 0, .int .i64 0, .int .i64 0, .int .i64 0, .int .i64 0, .int .i64 0, .int .i64 0, .int .i64 0, .int .i64 0, .int .i64 0, .int .i64 0, .int .i64 0, .int .i64 0, .int .i64 0, .int .i64 0, .int .i64 0, .int .i64 0, .int .i64 0] 57)).setRow w3.heap.size (tbC st)) from below_setRow ((Below.refl _ _).alloc (Nat.le_refl _) _) (Nat.le_refl _) _)
      obtain ⟨h5, hh5⟩ : ∃ h5, h5 = w3.heap.size := ⟨_, rfl⟩
      have HH5 := Lib.hid hh5
      have hsz5 : w3.heap.size < ((w3.alloc (.cells #[.int .i64 0, .int .i64 0, .int .i64 0, .int .i64 0, .int .i64 0, .int .i64 0, .int .i64 0, .int .i64 0, .int .i64 0, .int .i64 0, .int .i64 0, .int .i64 0, .int .i64 0, .int .i64 0, .int .i64 0, .int .i64 0, .int .i64 0, .int .i64 0, .int .i64 0, .int .i64 0, .int .i64 0, .int .i64 0, .int .i64 0, .int .i64 0, .int .i64 0, .int .i64 0, .int .i64 0, .int .i64 0, .int .i64 0, .int .i64 0, .int .i64 0, .int .i64 0] 57)).setRow w3.heap.size (tbC st)).heap.size := by simp
      rw [← hh5] at A5 Y5 hsz5 ⊢
      have h5e : h5 = w3.heap.size := HH5.out
      clear hh5
      generalize (w3.alloc (.cells #[.int .i64 0, .int .i64 0, .int .i64 0, .int .i64 0, .int .i64 0, .int .i64 0, .int .i64 0, .int .i64 0, .int .i64 0, .int .i64 0, .int .i64 0, .int .i64 0, .int .i64 0, .int .i64 0, .int .i64 0, .int .i64 0, .int .i64 0, .int .i64 0, .int .i64 0, .int .i64 0, .int .i64 0, .int .i64 0, .int .i64 0, .int .i64 0, .int .i64 0, .int .i64 0, .int .i64 0, .int .i64 0, .int .i64 0, .int .i64 0, .int .i64 0, .int .i64 0] 57)).setRow h5 (tbC st) = w5 at *
      have BE5 := Lib.hid (BE3.out.trans (Y5.out.mono (by omega)))
      have B5 := Lib.hid (B4.out.next (by omega) (show Below w3.heap.size w3 w5 from by rw [← h5e]; exact Y5.out))
      have HX5 := Lib.hid ((Y5.out.cell (p := ⟨bl x, 0, none⟩) (by show bl x < h5; omega)).trans HX3.out)
      have hz5 : w.heap.size < w5.heap.size := by omega
      have hz6 : w2.heap.size ≤ w5.heap.size := by omega
      have hz7 : h5 < w5.heap.size := by omega
      have hz8 : bl x < w5.heap.size := by omega
      clear h5e HX0 HX3 Y5 hsz5
      have c1 := B5.out.at1
      go_wp2_with fail
      clear c1
      go_loopw [23] (fun q wq => ∃ k : Nat, k ≤ ns.length ∧ q = .int .i64 k ∧ Hid (isoTo ns i k) ∧ Below w5.heap.size w5 wq) (fun q _ => ns.length - (intOf q).toNat)
      case atStart => exact ⟨0, Nat.zero_le _, rfl, IS, Below.refl _ _⟩
      case round =>
        obtain ⟨k, hk, rfl, IK, hbq⟩ := hrel
        have BQ := Lib.hid hbq
        have B6 := Lib.hid (B5.out.next (by omega) hbq)
        have hzq := hbq.size
        by_cases hkl : k < ns.length
        · have hym := getD_of_lt hkl
          have hy32 := H32.out _ hym
          have hcy := (B6.out.below.cell (p := ⟨b, off + k, none⟩) hbl).trans (H5.out k hkl)
          rw [toI_getD] at hcy
          have hcx := (hbq.cell (p := ⟨bl x, 0, none⟩) (by show bl x < w5.heap.size; omega)).trans HX5.out
          have hkI : (k : Int) < (ns.length : Int) := by omega
          obtain ⟨y, hye⟩ : ∃ y, y = ns.getD k 0 := ⟨_, rfl⟩
          have HYE := Lib.hid hye
          rw [← hye] at hcy hy32
          have hct := (hbq.cell (p := ⟨h5, y, none⟩) (by show h5 < w5.heap.size; omega)).trans (A5.out.cell hy32).1
          have HD5 := Lib.hid (show Dst (nR ns) i k (st y) from HLi.out k hkl _ (by have := ST.out y; rw [HXD.out, HYE.out] at this; rw [HYE.out]; exact this))
          have HNo := Lib.hid (fun hne => HR.out.no hil hkl HD5.out hne)
          have HSt := Lib.hid (fun hd => IK.out.step hd)
          rw [← HXD.out, ← hye] at HNo HSt
          clear hbq hym hye
          generalize st y = z at *
          have hz32 : x ^^^ y < 32 := Nat.xor_lt_two_pow (n := 5) hx32 hy32
          have hxor := i64_xor x y (by omega) (by omega)
          have HZ := Lib.hid (fun w => (implSizeOf (x ^^^ y) hz32 w).mono fun e w' h => And.intro h.1 h.2.symm)
          have hyI : (y : Int) < 32 := by omega
          generalize hpp : pc (x ^^^ y) = p at *
          generalize x ^^^ y = xy at *
          by_cases hzp : z = (p : Int)
          · have HSn := Lib.hid (HSt.out (by rw [← hzp]; exact HD5.out))
            subst hzp
            clear hpp HNo HSt
            go_wp2_with fail
            go_quiet ((go_at_call 61; (try rw [hxor]); exact Calls.quiet_of_same (HZ.out _)))
            go_wp2_with fail
            go_roundw
            case rel => exact ⟨k + 1, by omega, by go_num, HSn, Below.drwN BQ.out nq⟩
            case measure => simp [intOf]; omega
          · have hRf := HNo.out hzp
            subst hRf
            have hzb : (z != (p : Int)) = true := by simp; exact hzp
            clear hpp HNo HSt
            go_wp2_with fail
            go_quiet ((go_at_call 61; (try rw [hxor]); exact Calls.quiet_of_same (HZ.out _)))
            go_wp2_with fail
            go_ret
            exact ⟨rfl, Below.drwN B6.out.below nq⟩
        · obtain rfl : k = ns.length := by omega
          clear hbq
          have IN := Lib.hid (IK.out.next)
          go_wp2_with fail
          go_roundw
          case rel => exact ⟨i + 1, by omega, by go_num, IN, BE5.out.trans (BQ.out.mono (by omega))⟩
          case measure => simp [intOf]; omega
    · obtain rfl : i = ns.length := by omega
      clear hbe
      have hRt := HR.out.yes IS.out
      subst hRt
      go_wp2_with fail
      go_ret
      exact ⟨rfl, B3.out.below⟩

end Go.Proofs.Ytgldckgecoijfaa

namespace Go.Proofs.Ytgldckgecoijfaa
open Go.RowKit

set_option maxHeartbeats 1600000 in
set_option maxRecDepth 100000 in
theorem specIsoNo (n : Int) (v : Value) (zs : List Int) (w : World) (hv : vldB n zs = false) (h : Rd w v zs) :
    Calls Try.prog 21 #[.agg #[.int .i64 n, v]] w fun e w' => e = .returned (.bool false) ∧ Below w.heap.size w w' := by
  have H := Lib.hid h
  obtain ⟨a, b, off, cap, rfl, _, _, _⟩ := h
  have HV := Lib.hid (fun w h => specValid n (.slice a zs.length cap) zs w h)
  rw [hv] at HV
  have B0 := Lib.hid (Box.made n (.slice a zs.length cap) w 25)
  clear hv
  go_enter Try.func21, Try.ntmps21
  go_wp2_with fail
  refine (HV.out _ (H.out.below (k := w.heap.size) (by go_grown) (Nat.le_refl _))).mono ?_
  rintro e w1 ⟨rfl, hb⟩
  have B1 := Lib.hid (B0.out.next (by simp) hb)
  clear hb B0
  go_wp2_with fail
  go_ret
  exact ⟨rfl, B1.out.below⟩
set_option maxHeartbeats 1600000 in
set_option maxRecDepth 100000 in
theorem implIsoNo (n : Int) (v : Value) (zs : List Int) (w : World) (hv : vldB n zs = false) (h : Rd w v zs) :
    Calls Try.prog 20 #[.agg #[.int .i64 n, v]] w fun e w' => e = .returned (.bool false) ∧ Below w.heap.size w w' := by
  have H := Lib.hid h
  obtain ⟨a, b, off, cap, rfl, _, _, _⟩ := h
  have HV := Lib.hid (fun w h => implValid n (.slice a zs.length cap) zs w h)
  rw [hv] at HV
  have B0 := Lib.hid (Box.made n (.slice a zs.length cap) w 25)
  clear hv
  go_enter Try.func20, Try.ntmps20
  go_wp2_with fail
  refine (HV.out _ (H.out.below (k := w.heap.size) (by go_grown) (Nat.le_refl _))).mono ?_
  rintro e w1 ⟨rfl, hb⟩
  have B1 := Lib.hid (B0.out.next (by simp) hb)
  clear hb B0
  go_wp2_with fail
  go_ret
  exact ⟨rfl, B1.out.below⟩
/-- both answer one bool -/
theorem isoBoth (n : Int) (zs : List Int) : ∃ R : Bool,
    (∀ v w, Rd w v zs → Calls Try.prog 21 #[.agg #[.int .i64 n, v]] w fun e w' => e = .returned (.bool R) ∧ Below w.heap.size w w') ∧
    (∀ v w, Rd w v zs → Calls Try.prog 20 #[.agg #[.int .i64 n, v]] w fun e w' => e = .returned (.bool R) ∧ Below w.heap.size w w') := by
  by_cases hv : vldB n zs = true
  · obtain ⟨m, ns, rfl, rfl, hc⟩ := vldB_cls hv
    obtain ⟨R, hR⟩ := iso_ex ns
    exact ⟨R, fun v w h => specIsoIn m ns R v w hc hv hR h, fun v w h => implIsoIn m ns R v w hc hv hR h⟩
  · rw [Bool.not_eq_true] at hv
    exact ⟨false, fun v w h => specIsoNo n v zs w hv h, fun v w h => implIsoNo n v zs w hv h⟩

end Go.Proofs.Ytgldckgecoijfaa

namespace Go.Proofs.Ytgldckgecoijfaa
open Go.RowKit

theorem pth_app {R : Nat → Nat → Prop} {a b : Nat} : ∀ l k c, Pth R a k b → Pth R b l c → Pth R a (k + l) c := by
  intro l
  induction l with
  | zero =>
    intro k c h1 h2
    have : c = b := h2
    subst this
    exact h1
  | succ l ih =>
    rintro k c h1 ⟨v, h2, h3⟩
    exact ⟨v, ih k v h1 h2, h3⟩
theorem nR_turn {ns : List Nat} {i k : Nat} (hi : i < ns.length) (h : nR ns i k) : nR ns k i := ⟨hi, by rw [adj, Nat.xor_comm]; exact h.2⟩
theorem pth_turn {ns : List Nat} {i : Nat} (hi : i < ns.length) : ∀ k j, Pth (nR ns) i k j → j < ns.length ∧ Pth (nR ns) j k i := by
  intro k
  induction k with
  | zero =>
    intro j h
    have : j = i := h
    subst this
    exact ⟨hi, rfl⟩
  | succ k ih =>
    rintro j ⟨v, h1, h2⟩
    obtain ⟨h3, h4⟩ := ih v h1
    have h5 := nR_turn h3 h2
    refine ⟨h2.1, ?_⟩
    have := pth_app k 1 i (show Pth (nR ns) j 1 v from ⟨j, rfl, h5⟩) h4
    rw [Nat.add_comm] at this
    exact this
/-- some path leads from i to j -/
def Rch (ns : List Nat) (i j : Nat) : Prop := ∃ k, Pth (nR ns) i k j
theorem Rch.self (ns : List Nat) (i : Nat) : Rch ns i i := ⟨0, rfl⟩
theorem Rch.turn {ns : List Nat} {i j : Nat} (hi : i < ns.length) (h : Rch ns i j) : Rch ns j i := by
  obtain ⟨k, hk⟩ := h
  exact ⟨k, (pth_turn hi k j hk).2⟩
theorem Rch.trans {ns : List Nat} {i j k : Nat} (h : Rch ns i j) (h2 : Rch ns j k) : Rch ns i k := by
  obtain ⟨a, ha⟩ := h
  obtain ⟨b, hb⟩ := h2
  exact ⟨a + b, pth_app b a k ha hb⟩
theorem dst_rch {ns : List Nat} {i j : Nat} {d : Int} (h : Dst (nR ns) i j d) : (d < 0 ↔ ¬ Rch ns i j) := by
  rcases h with ⟨h1, h2⟩ | ⟨k, h1, h2, _⟩
  · exact ⟨fun _ hr => by obtain ⟨k, hk⟩ := hr; exact h2 k hk, fun _ => by omega⟩
  · exact ⟨fun k2 => by omega, fun hn => absurd ⟨k, h2⟩ hn⟩
/-- F tells which places are reached from no earlier one -/
def Fst (ns : List Nat) (F : Nat → Bool) : Prop := ∀ i, F i = true ↔ ∀ k, k < i → ¬ Rch ns i k
theorem fst_ex (ns : List Nat) : ∃ F, Fst ns F := by
  apply Classical.axiomOfChoice (r := fun i (b : Bool) => b = true ↔ ∀ k, k < i → ¬ Rch ns i k)
  intro i
  by_cases h : ∀ k, k < i → ¬ Rch ns i k
  · exact ⟨true, ⟨fun _ => h, fun _ => rfl⟩⟩
  · exact ⟨false, ⟨fun k => (by cases k), fun k => absurd k h⟩⟩
/-- how many of the first i there are -/
def cmTo (F : Nat → Bool) (i : Nat) : Nat := (List.range i).countP F
theorem cmTo_succ (F : Nat → Bool) (i : Nat) : cmTo F (i + 1) = cmTo F i + if F i = true then 1 else 0 := by
  rw [cmTo, List.range_succ, List.countP_append, List.countP_cons, List.countP_nil, Nat.zero_add]; rfl
theorem cmTo_le (F : Nat → Bool) (i : Nat) : cmTo F i ≤ i := by
  have := List.countP_le_length (p := F) (l := List.range i)
  rw [List.length_range] at this
  exact this
/-- none of the first k is reached from i -/
def nonTo (ns : List Nat) (i k : Nat) (B : Bool) : Prop := B = true ↔ ∀ a, a < k → ¬ Rch ns i a

set_option maxHeartbeats 6400000 in
set_option maxRecDepth 100000 in
theorem specComps (ns : List Nat) (F : Nat → Bool) (v : Value) (w : World) (hl : ns.length ≤ 32) (h32 : ∀ t ∈ ns, t < 32) (hF : Fst ns F) (h : Rd w v (toI ns)) :
    Calls Try.prog 65 #[v] w fun e w' => e = .returned (.int .i64 (cmTo F ns.length : Nat)) ∧ Below w.heap.size w w' := by
  have H := Lib.hid h
  obtain ⟨a, b, off, cap, rfl, h1, h3, h5⟩ := h
  rw [toI_length] at H h1 h3 h5 ⊢
  have HS := Lib.hid (fun i hi w h => specSteps (.slice a ns.length cap) ns i w hl h32 hi h)
  have HF := Lib.hid hF
  clear h1 h5 hF
  go_enter Try.func65, Try.ntmps65
  go_wp2_with fail
  go_loopw [3, 4] (fun n q wr => ∃ i : Nat, i ≤ ns.length ∧ q = .int .i64 i ∧ n = .int .i64 (cmTo F i : Nat) ∧ Below w.heap.size w wr) (fun _ q _ => ns.length - (intOf q).toNat)
  case atStart => exact ⟨0, Nat.zero_le _, rfl, rfl, Below.refl _ _⟩
  case round =>
    obtain ⟨i, hi, rfl, rfl, hbe⟩ := hrel
    have BE := Lib.hid hbe
    have hcl := cmTo_le F i
    by_cases hil : i < ns.length
    · have HSc := Lib.hid (cmTo_succ F i)
      have hiI : (i : Int) < (ns.length : Int) := by omega
      have HFi := Lib.hid (HF.out i)
      generalize cmTo F i = c at *
      clear hbe
      go_wp2_with fail
      refine (HS.out i hil _ (H.out.below BE.out (Nat.le_refl _))).mono ?_
      rintro e w3 ⟨st, a3, c3, rfl, hin3, hst, hb3⟩
      obtain ⟨g3, rfl, -, -⟩ := hin3.someAt (by omega)
      have I3 := Lib.hid hin3
      have ST := Lib.hid hst
      have BE3 := Lib.hid (BE.out.trans (hb3.mono BE.out.size))
      clear hin3 hst hb3
      go_wp2_with fail
      go_loop [6, 7] (fun B q => ∃ (k : Nat) (G : Bool), k ≤ i ∧ q = .int .i64 k ∧ B = .bool G ∧ Hid (nonTo ns i k G)) (fun _ q => i - (intOf q).toNat)
      case atStart => exact ⟨0, true, Nat.zero_le _, rfl, rfl, Lib.hid ⟨fun _ a ha => by omega, fun _ => rfl⟩⟩
      case round =>
        obtain ⟨k, G, hk, rfl, rfl, NT⟩ := hrel
        by_cases hki : k < i
        · have hkI : (k : Int) < (i : Int) := by omega
          have hkL : (k : Int) < (ns.length : Int) := by omega
          have hct := (I3.out.cellAt k (by rw [mkL_len]; omega)).1
          rw [mkL_at st (show k < ns.length by omega)] at hct
          have HRk := Lib.hid (dst_rch (ST.out k))
          generalize st k = z at *
          cases G with
          | true =>
            by_cases hz : z < 0
            · have NS := Lib.hid (show nonTo ns i (k + 1) true from ⟨fun _ a ha => by
                by_cases e : a = k
                · subst e; exact HRk.out.1 hz
                · exact NT.out.1 rfl a (by omega), fun _ => rfl⟩)
              go_wp2_with fail
              go_round
              case rel => exact ⟨k + 1, true, by omega, by go_num, rfl, NS⟩
              case measure => simp [intOf]; omega
            · have NS := Lib.hid (show nonTo ns i (k + 1) false from ⟨fun h => (by cases h), fun h => absurd (HRk.out.2 (h k (by omega))) hz⟩)
              go_wp2_with fail
              go_round
              case rel => exact ⟨k + 1, false, by omega, by go_num, rfl, NS⟩
              case measure => simp [intOf]; omega
          | false =>
            have NS := Lib.hid (show nonTo ns i (k + 1) false from ⟨fun h => (by cases h), fun h => NT.out.2 (fun a ha => h a (by omega))⟩)
            go_wp2_with fail
            go_round
            case rel => exact ⟨k + 1, false, by omega, by go_num, rfl, NS⟩
            case measure => simp [intOf]; omega
        · obtain rfl : k = i := by omega
          have hGF : G = F k := by
            have h1 := NT.out
            have h2 := HFi.out
            rw [Bool.eq_iff_iff]
            exact h1.trans h2.symm
          have HGF := Lib.hid hGF
          clear hGF
          cases G with
          | true =>
            have HSt := Lib.hid (show cmTo F (k + 1) = c + 1 from by rw [HSc.out, ← HGF.out]; rfl)
            go_wp2_with fail
            go_roundw
            case rel => exact ⟨k + 1, by omega, by go_num, by rw [HSt.out]; first | rfl | (congr 1; omega) | go_num, BE3.out⟩
            case measure => simp [intOf]; omega
          | false =>
            have HSt := Lib.hid (show cmTo F (k + 1) = c from by rw [HSc.out, ← HGF.out]; rfl)
            go_wp2_with fail
            go_roundw
            case rel => exact ⟨k + 1, by omega, by go_num, by rw [HSt.out], BE3.out⟩
            case measure => simp [intOf]; omega
    · obtain rfl : i = ns.length := by omega
      go_wp2_with fail
      go_ret
      exact ⟨rfl, BE.out⟩

end Go.Proofs.Ytgldckgecoijfaa

namespace Go.Proofs.Ytgldckgecoijfaa
open Go.RowKit

/-- what is marked: the sets that some of the first i reach -/
def Mkd (ns : List Nat) (i : Nat) (P : Nat → Bool) : Prop := ∀ j, j < ns.length → (P (ns.getD j 0) = true ↔ ∃ a, a < i ∧ Rch ns a j)
theorem Mkd.zero (ns : List Nat) : Mkd ns 0 (fun _ => false) := fun j _ => ⟨fun h => (by cases h), fun ⟨a, ha, _⟩ => absurd ha (by omega)⟩
theorem Mkd.skip {ns : List Nat} {i : Nat} {P : Nat → Bool} (h : Mkd ns i P) (hi : i < ns.length) (hp : P (ns.getD i 0) = true) : Mkd ns (i + 1) P := fun j hj => by
  rw [h j hj]
  constructor
  · rintro ⟨a, ha, hr⟩
    exact ⟨a, by omega, hr⟩
  · rintro ⟨a, ha, hr⟩
    by_cases e : a = i
    · subst e
      obtain ⟨b, hb, h2⟩ := (h a hi).1 hp
      exact ⟨b, hb, h2.trans hr⟩
    · exact ⟨a, by omega, hr⟩
theorem Mkd.next {ns : List Nat} {i : Nat} {P : Nat → Bool} {st : Nat → Int} (h : Mkd ns i P) (hs : ∀ j, j < ns.length → Dst (nR ns) i j (st (ns.getD j 0))) : Mkd ns (i + 1) (fun t => P t || decide (0 ≤ st t)) := fun j hj => by
  have h1 := dst_rch (hs j hj)
  have h2 : 0 ≤ st (ns.getD j 0) ↔ Rch ns i j := by
    constructor
    · intro k
      exact Classical.byContradiction fun hn => by have := h1.2 hn; omega
    · intro k
      exact Classical.byContradiction fun hn => h1.1 (by omega) k
  rw [Bool.or_eq_true, decide_eq_true_eq, h j hj, h2]
  constructor
  · rintro (⟨a, ha, hr⟩ | hr)
    · exact ⟨a, by omega, hr⟩
    · exact ⟨i, by omega, hr⟩
  · rintro ⟨a, ha, hr⟩
    by_cases e : a = i
    · subst e; exact .inr hr
    · exact .inl ⟨a, by omega, hr⟩
theorem Mkd.first {ns : List Nat} {i : Nat} {P : Nat → Bool} {F : Nat → Bool} (h : Mkd ns i P) (hi : i < ns.length) (hF : Fst ns F) : F i = !P (ns.getD i 0) := by
  have h1 := hF i
  have h2 := h i hi
  cases hp : P (ns.getD i 0) with
  | true =>
    rw [hp] at h2
    obtain ⟨a, ha, hr⟩ := h2.1 rfl
    cases hf : F i with
    | false => rfl
    | true => exact absurd (hr.turn (by omega)) (h1.1 hf a ha)
  | false =>
    rw [hp] at h2
    refine h1.2 (fun k hk hr => ?_)
    have := h2.2 ⟨k, hk, hr.turn hi⟩
    cases this
theorem Pb.of_false {w : World} : Pb (w.alloc (.cells #[.bool false, .bool false, .bool false, .bool false, .bool false, .bool false, .bool false, .bool false, .bool false, .bool false, .bool false, .bool false, .bool false, .bool false, .bool false, .bool false, .bool false, .bool false, .bool false, .bool false, .bool false, .bool false, .bool false, .bool false, .bool false, .bool false, .bool false, .bool false, .bool false, .bool false, .bool false, .bool false] 64)) w.heap.size 32 (fun _ => .bool false) 64 := heap_alloc_new w _

/-- nodes stay where only a block of marks is written -/
theorem Nds.keep {bl : Nat → Nat} {w w' : World} {v : Value} {ns : List Nat} {m o : Nat} {P : Nat → Bool} {T : TypeId} (h : Nds bl w v ns m) (hP : Pb w o 32 (fun t => .bool (P t)) T) (hs : w.heap.size ≤ w'.heap.size) (hb : ∀ b, b < w.heap.size → b ≠ o → w'.heap[b]? = w.heap[b]?) : Nds bl w' v ns m := by
  have hcell : ∀ (j : Nat) (u : Value), w.cell? ⟨o, j, none⟩ = some u → ∃ q, u = .bool q := fun j u hu => by
    by_cases hj : j < 32
    · rw [(hP.cell hj).1] at hu
      exact ⟨_, (Option.some.inj hu).symm⟩
    · rw [cell_of_row _ _ _ _ _ _ hP] at hu
      simp [hj] at hu
  have hno : ∀ b j, w.cell? ⟨o, j, none⟩ ≠ some (ndp b) := fun b j hu => by
    obtain ⟨q, e⟩ := hcell j _ hu
    cases e
  have hne : ∀ s ∈ ns, bl s ≠ o := fun s hs e => by
    obtain ⟨q, e2⟩ := hcell 0 _ (e ▸ (h.set s hs).2)
    cases e2
  have hc : ∀ s ∈ ns, ∀ j, w'.cell? ⟨bl s, j, none⟩ = w.cell? ⟨bl s, j, none⟩ := fun s hs j => World.cell?_of_block (w := w) (w' := w') (a := ⟨bl s, j, none⟩) (hb _ (h.set s hs).1 (hne s hs))
  refine ⟨h.row.keep hs hb hno, fun s k => ⟨Nat.lt_of_lt_of_le (h.set s k).1 hs, (hc s k 0).trans (h.set s k).2⟩, fun s k => ?_, fun s k => (hc s k 2).trans (h.given s k)⟩
  obtain ⟨nv, h1, h2⟩ := h.near s k
  exact ⟨nv, (hc s k 1).trans h1, h2.keep hs hb hno⟩

set_option maxHeartbeats 6400000 in
set_option maxRecDepth 100000 in
theorem implCompsIn (m : Nat) (ns : List Nat) (F : Nat → Bool) (v : Value) (w : World) (hc : Cls m ns) (hv : vldB m (toI ns) = true) (hF : Fst ns F) (h : Rd w v (toI ns)) :
    Calls Try.prog 17 #[.agg #[.int .i64 m, v]] w fun e w' => e = .returned (.int .i64 (cmTo F ns.length : Nat)) ∧ Below w.heap.size w w' := by
  have H := Lib.hid h
  obtain ⟨a, b, off, cap, rfl, h1, h3, h5⟩ := h
  rw [toI_length] at H h1 h3 h5 ⊢
  have HV := Lib.hid (fun w h => implValid m (.slice a ns.length cap) (toI ns) w h)
  rw [hv] at HV
  have HN := Lib.hid (fun w h => implNodesOf m ns (.slice a ns.length cap) w hc h)
  have HD := Lib.hid (fun bl nv s (hs : s ∈ ns) w h => implDistances bl m ns nv s w hc h hs)
  have HL := Lib.hid (fun i (hi : i < ns.length) j (hj : j < ns.length) d => dst_set hc hi hj (d := d))
  have HF := Lib.hid hF
  have H32 := Lib.hid hc.lt32
  have hl := hc.length
  have B0 := Lib.hid (Box.made m (.slice a ns.length cap) w 25)
  clear h1 h5 hv hc hF
  go_enter Try.func17, Try.ntmps17
  go_wp2_with fail
  refine (HV.out _ (H.out.below (k := w.heap.size) (by go_grown) (Nat.le_refl _))).mono ?_
  rintro e w1 ⟨rfl, hb⟩
  have B1 := Lib.hid (B0.out.next (by simp) hb)
  have hs1 : w.heap.size < w1.heap.size := by have := hb.size; simp at this; omega
  clear hb B0
  go_upto_region 4 with (fail)
  have M1 := Lib.hid (Pb.of_false (w := w1))
  have Y1 := Lib.hid ((Below.refl w1.heap.size w1).alloc (Nat.le_refl _) (.cells #[.bool false, .bool false, .bool false, .bool false, .bool false, .bool false, .bool false, .bool false, .bool false, .bool false, .bool false, .bool false, .bool false, .bool false, .bool false, .bool false, .bool false, .bool false, .bool false, .bool false, .bool false, .bool false, .bool false, .bool false, .bool false, .bool false, .bool false, .bool false, .bool false, .bool false, .bool false, .bool false] 64))
  have hsz1 : w1.heap.size < (w1.alloc (.cells #[.bool false, .bool false, .bool false, .bool false, .bool false, .bool false, .bool false, .bool false, .bool false, .bool false, .bool false, .bool false, .bool false, .bool false, .bool false, .bool false, .bool false, .bool false, .bool false, .bool false, .bool false, .bool false, .bool false, .bool false, .bool false, .bool false, .bool false, .bool false, .bool false, .bool false, .bool false, .bool false] 64)).heap.size := by simp
  generalize w1.alloc (.cells #[.bool false, .bool false, .bool false, .bool false, .bool false, .bool false, .bool false, .bool false, .bool false, .bool false, .bool false, .bool false, .bool false, .bool false, .bool false, .bool false, .bool false, .bool false, .bool false, .bool false, .bool false, .bool false, .bool false, .bool false, .bool false, .bool false, .bool false, .bool false, .bool false, .bool false, .bool false, .bool false] 64) = w1b at *
  obtain ⟨hm, hhm⟩ : ∃ hm, hm = w1.heap.size := ⟨_, rfl⟩
  rw [← hhm] at M1 hsz1 ⊢
  have B1b := Lib.hid (B1.out.next hs1 Y1.out)
  have hwm : w.heap.size < hm := by omega
  clear hhm Y1 B1
  have c0 := B1b.out.at0
  have c1 := B1b.out.at1
  go_wp2_with fail
  refine (HN.out _ (H.out.below B1b.out.below (Nat.le_refl _))).mono ?_
  rintro e w2 ⟨bl, v2, rfl, hnd, hb2⟩
  have B2 := Lib.hid (B1b.out.next (by omega) hb2)
  have hs2 : hm < w2.heap.size := by have := hb2.size; omega
  have M2 := Lib.hid (M1.out.keep (hb2.block hm hsz1))
  have ND := Lib.hid hnd
  have HBL := Lib.hid (fun s (hs : s ∈ ns) => (hnd.set s hs).1)
  obtain ⟨na, nb, noff, ncap, rfl, hn1, _, hn3⟩ := hnd.row
  rw [List.length_map] at hn1 hn3 ND ⊢
  have hn1' := Lib.hid hn1
  clear hn1 hn3 hnd hb2 c0 c1 M1
  go_wp2_with fail
  go_loopw [4, 15] (fun n q wr => ∃ (i : Nat) (P : Nat → Bool), i ≤ ns.length ∧ q = .int .i64 i ∧ n = .int .i64 (cmTo F i : Nat) ∧ Hid (Mkd ns i P) ∧ Pb wr hm 32 (fun t => .bool (P t)) 64 ∧ Below hm w2 wr ∧ (∀ b, b < w2.heap.size → b ≠ hm → wr.heap[b]? = w2.heap[b]?)) (fun _ q _ => ns.length - (intOf q).toNat)
  case atStart => exact ⟨0, _, Nat.zero_le _, rfl, rfl, Lib.hid (Mkd.zero ns), M2.out, Below.refl _ _, fun _ _ _ => rfl⟩
  case round =>
    obtain ⟨i, P, hi, rfl, rfl, MK, hpb, hbe, hfr⟩ := hrel
    have PB := Lib.hid hpb
    have BE := Lib.hid hbe
    have FR := Lib.hid hfr
    have hz2 := hbe.size
    have hcl := cmTo_le F i
    have NDr := Lib.hid (ND.out.keep M2.out hbe.size hfr)
    clear hpb hbe hfr
    by_cases hil : i < ns.length
    · have hxm := getD_of_lt hil
      have hx32 := H32.out _ hxm
      obtain ⟨na2, nb2, noff2, ncap2, e9, hn1, -, hn3⟩ := NDr.out.row
      rw [List.length_map] at e9 hn1 hn3
      simp only [Value.slice.injEq] at e9
      obtain ⟨rfl, -, rfl⟩ := e9
      obtain ⟨rfl, hnl⟩ := hn1 (by omega)
      have hp0 : wr.cell? ⟨nb2, noff2 + i, none⟩ = some (.pointer (some ⟨bl (ns.getD i 0), 0, none⟩)) := (hn3 i hil).trans (by rw [mapbl_getD hil]; rfl)
      obtain ⟨hxl, hx0⟩ := NDr.out.set _ hxm
      have HDi := Lib.hid (HD.out bl _ _ hxm _ NDr.out)
      have HLi := Lib.hid (fun j hj d => HL.out i hil j hj d)
      have HFi := Lib.hid (MK.out.first hil HF.out)
      have HSk := Lib.hid (fun hp => MK.out.skip hil hp)
      have HNx := Lib.hid (fun (st : Nat → Int) hs => MK.out.next (i := i) (st := st) hs)
      have HSc := Lib.hid (cmTo_succ F i)
      have hiI : (i : Int) < (ns.length : Int) := by omega
      have hcm := (PB.out.cell hx32).1
      clear hn1 hn3 hxm
      generalize cmTo F i = c at *
      obtain ⟨x, hxe⟩ : ∃ x, x = ns.getD i 0 := ⟨_, rfl⟩
      rw [← hxe] at hp0 HDi hxl hx0 hx32 HFi HSk hcm
      have HXE := Lib.hid hxe
      have hxI : (x : Int) < 32 := by omega
      clear hxe
      cases hpx : P x with
      | true =>
        rw [hpx] at hcm
        have HSt := Lib.hid (show cmTo F (i + 1) = c from by rw [HSc.out, HFi.out, hpx]; rfl)
        have HMk := Lib.hid (HSk.out hpx)
        clear hpx
        go_wp2_with fail
        go_roundw
        case rel => exact ⟨i + 1, P, by omega, by go_num, by rw [HSt.out], HMk, PB.out, BE.out, FR.out⟩
        case measure => simp [intOf]; omega
      | false =>
        rw [hpx] at hcm
        have HSt := Lib.hid (show cmTo F (i + 1) = c + 1 from by rw [HSc.out, HFi.out, hpx]; rfl)
        clear hpx
        go_wp2_with fail
        refine HDi.out.mono ?_
        rintro e w3 ⟨st, rfl, hst, hb3⟩
        have HMk := Lib.hid (HNx.out st (fun j hj => HLi.out j hj _ (by have := hst (ns.getD j 0); rw [HXE.out] at this; exact this)))
        have hz3 := hb3.size
        have hml := PB.out.lt
        have PB3 := Lib.hid (PB.out.keep (hb3.block hm hml))
        have BE3 := Lib.hid (BE.out.trans (hb3.mono (by omega)))
        have FR3 := Lib.hid (show ∀ b, b < w2.heap.size → b ≠ hm → w3.heap[b]? = w2.heap[b]? from fun b h1 h2 => (hb3.block b (by omega)).trans (FR.out b h1 h2))
        clear hst hb3 hp0 hx0 hcm
        go_wp2_with fail
        go_loopw [29] (fun q wq => ∃ k : Nat, k ≤ 32 ∧ q = .int .i64 k ∧ Pb wq hm 32 (fun t => .bool (if t < k then (P t || decide (0 ≤ st t)) else P t)) 64 ∧ Below hm w2 wq ∧ (∀ b, b < w2.heap.size → b ≠ hm → wq.heap[b]? = w2.heap[b]?)) (fun q _ => 32 - (intOf q).toNat)
        case atStart => exact ⟨0, Nat.zero_le _, rfl, PB3.out.congr (fun t _ => by simp), BE3.out, FR3.out⟩
        case round =>
          obtain ⟨k, hk, rfl, hpq, hbq, hfq⟩ := hrel
          have PQ := Lib.hid hpq
          have BQ := Lib.hid hbq
          have FQ := Lib.hid hfq
          clear hpq hbq hfq
          by_cases hk32 : k < 32
          · have hkI : (k : Int) < 32 := by omega
            have hix : ∀ w, Sem.run Try.prog (Instr.index 57 (.agg (tbC st)) (.int .i64 (k : Int))) w = .ok (.int .i64 (st k)) w := fun w => run_indexT st k hk32 w
            obtain ⟨hq1, hq2⟩ := PQ.out.cell hk32
            rw [if_neg (Nat.lt_irrefl k)] at hq1
            have HST := Lib.hid (fun (u : Bool) (hu : u = (P k || decide (0 ≤ st k))) => (PQ.out.set k (.bool u)).congr (g := fun t => .bool (if t < k + 1 then (P t || decide (0 ≤ st t)) else P t)) (fun t _ => by
              by_cases e : t = k
              · subst e; simp [hu]
              · by_cases h2 : t < k
                · simp [e, h2, show t < k + 1 by omega]
                · simp [e, h2, show ¬ t < k + 1 by omega]))
            have HFQ := Lib.hid (fun (u : Value) => show ∀ b, b < w2.heap.size → b ≠ hm → (wr.setCell ⟨hm, k, none⟩ u).heap[b]? = w2.heap[b]? from fun b h1 h2 => (heap_setCell_other wr ⟨hm, k, none⟩ b u h2).trans (FQ.out b h1 h2))
            have HBQ := Lib.hid (fun (u : Value) => BQ.out.setCell (p := ⟨hm, k, none⟩) (Nat.le_refl _) u)
            cases hpk : P k with
            | true =>
              rw [hpk] at hq1 HST
              clear hpk
              go_wp2_with fail
              go_roundw
              case rel => exact ⟨k + 1, by omega, by go_num, HST.out true (by simp), HBQ.out _, HFQ.out _⟩
              case measure => simp [intOf]; omega
            | false =>
              rw [hpk] at hq1 HST
              clear hpk
              by_cases hz : 0 ≤ st k
              · have hd : decide (0 ≤ st k) = true := decide_eq_true hz
                rw [hd] at HST
                generalize st k = z at *
                go_wp2_with fail
                go_roundw
                case rel => exact ⟨k + 1, by omega, by go_num, HST.out true (by simp), HBQ.out _, HFQ.out _⟩
                case measure => simp [intOf]; omega
              · have hd : decide (0 ≤ st k) = false := decide_eq_false hz
                rw [hd] at HST
                generalize st k = z at *
                go_wp2_with fail
                go_roundw
                case rel => exact ⟨k + 1, by omega, by go_num, HST.out false (by simp), HBQ.out _, HFQ.out _⟩
                case measure => simp [intOf]; omega
          · have e32 : k = 32 := by omega
            have PE := Lib.hid (PQ.out.congr (g := fun t => .bool (P t || decide (0 ≤ st t))) (fun t ht => by rw [if_pos (by omega)]))
            clear e32
            go_wp2_with fail
            go_roundw
            case rel => exact ⟨i + 1, _, by omega, by go_num, by rw [HSt.out]; first | rfl | go_num, HMk, PE.out, BQ.out, FQ.out⟩
            case measure => simp [intOf]; omega
    · obtain rfl : i = ns.length := by omega
      go_wp2_with fail
      go_ret
      exact ⟨rfl, B2.out.below.trans (BE.out.mono (by omega))⟩

end Go.Proofs.Ytgldckgecoijfaa

namespace Go.Proofs.Ytgldckgecoijfaa
open Go.RowKit

set_option maxHeartbeats 1600000 in
set_option maxRecDepth 100000 in
theorem specCompsIn (m : Nat) (ns : List Nat) (F : Nat → Bool) (v : Value) (w : World) (hc : Cls m ns) (hv : vldB m (toI ns) = true) (hF : Fst ns F) (h : Rd w v (toI ns)) :
    Calls Try.prog 24 #[.agg #[.int .i64 m, v]] w fun e w' => e = .returned (.int .i64 (cmTo F ns.length : Nat)) ∧ Below w.heap.size w w' := by
  have H := Lib.hid h
  obtain ⟨a, b, off, cap, rfl, _, _, _⟩ := h
  rw [toI_length] at H ⊢
  have HV := Lib.hid (fun w h => specValid m (.slice a ns.length cap) (toI ns) w h)
  rw [hv] at HV
  have HS := Lib.hid (fun w h => specComps ns F (.slice a ns.length cap) w hc.length hc.lt32 hF h)
  have B0 := Lib.hid (Box.made m (.slice a ns.length cap) w 25)
  clear hv hF hc
  generalize cmTo F ns.length = c at *
  go_enter Try.func24, Try.ntmps24
  go_wp2_with fail
  refine (HV.out _ (H.out.below (k := w.heap.size) (by go_grown) (Nat.le_refl _))).mono ?_
  rintro e w1 ⟨rfl, hb⟩
  have B1 := Lib.hid (B0.out.next (by simp) hb)
  have hs1 : w.heap.size < w1.heap.size := by have := hb.size; simp at this; omega
  clear hb B0
  have c0 := B1.out.at0
  have c1 := B1.out.at1
  go_wp2_with fail
  refine (HS.out _ (H.out.below B1.out.below (Nat.le_refl _))).mono ?_
  rintro e w2 ⟨rfl, hb2⟩
  have B2 := Lib.hid (B1.out.next hs1 hb2)
  clear hb2 c0 c1
  go_wp2_with fail
  go_ret
  exact ⟨rfl, B2.out.below⟩
set_option maxHeartbeats 1600000 in
set_option maxRecDepth 100000 in
theorem specCompsNo (n : Int) (v : Value) (zs : List Int) (w : World) (hv : vldB n zs = false) (h : Rd w v zs) :
    Calls Try.prog 24 #[.agg #[.int .i64 n, v]] w fun e w' => e = .returned (.int .i64 (-1)) ∧ Below w.heap.size w w' := by
  have H := Lib.hid h
  obtain ⟨a, b, off, cap, rfl, _, _, _⟩ := h
  have HV := Lib.hid (fun w h => specValid n (.slice a zs.length cap) zs w h)
  rw [hv] at HV
  have B0 := Lib.hid (Box.made n (.slice a zs.length cap) w 25)
  clear hv
  go_enter Try.func24, Try.ntmps24
  go_wp2_with fail
  refine (HV.out _ (H.out.below (k := w.heap.size) (by go_grown) (Nat.le_refl _))).mono ?_
  rintro e w1 ⟨rfl, hb⟩
  have B1 := Lib.hid (B0.out.next (by simp) hb)
  clear hb B0
  go_wp2_with fail
  go_ret
  exact ⟨rfl, B1.out.below⟩
set_option maxHeartbeats 1600000 in
set_option maxRecDepth 100000 in
theorem implCompsNo (n : Int) (v : Value) (zs : List Int) (w : World) (hv : vldB n zs = false) (h : Rd w v zs) :
    Calls Try.prog 17 #[.agg #[.int .i64 n, v]] w fun e w' => e = .returned (.int .i64 (-1)) ∧ Below w.heap.size w w' := by
  have H := Lib.hid h
  obtain ⟨a, b, off, cap, rfl, _, _, _⟩ := h
  have HV := Lib.hid (fun w h => implValid n (.slice a zs.length cap) zs w h)
  rw [hv] at HV
  have B0 := Lib.hid (Box.made n (.slice a zs.length cap) w 25)
  clear hv
  go_enter Try.func17, Try.ntmps17
  go_wp2_with fail
  refine (HV.out _ (H.out.below (k := w.heap.size) (by go_grown) (Nat.le_refl _))).mono ?_
  rintro e w1 ⟨rfl, hb⟩
  have B1 := Lib.hid (B0.out.next (by simp) hb)
  clear hb B0
  go_wp2_with fail
  go_ret
  exact ⟨rfl, B1.out.below⟩
/-- both answer one number -/
theorem compBoth (n : Int) (zs : List Int) : ∃ R : Int,
    (∀ v w, Rd w v zs → Calls Try.prog 24 #[.agg #[.int .i64 n, v]] w fun e w' => e = .returned (.int .i64 R) ∧ Below w.heap.size w w') ∧
    (∀ v w, Rd w v zs → Calls Try.prog 17 #[.agg #[.int .i64 n, v]] w fun e w' => e = .returned (.int .i64 R) ∧ Below w.heap.size w w') := by
  by_cases hv : vldB n zs = true
  · obtain ⟨m, ns, rfl, rfl, hc⟩ := vldB_cls hv
    obtain ⟨F, hF⟩ := fst_ex ns
    exact ⟨_, fun v w h => specCompsIn m ns F v w hc hv hF h, fun v w h => implCompsIn m ns F v w hc hv hF h⟩
  · rw [Bool.not_eq_true] at hv
    exact ⟨-1, fun v w h => specCompsNo n v zs w hv h, fun v w h => implCompsNo n v zs w hv h⟩

end Go.Proofs.Ytgldckgecoijfaa
