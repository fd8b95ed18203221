/- DistanceIn, the program's and the model's. Conditions: Sets is a slice of ints. -/
import Derived.Deep.RegionHeld3
import Derived.Test.YtbjaacppomobeaaDistI
import Derived.Test.YtbjaacppomobeaaIdxC
import Derived.Test.YtbjaacppomobeaaNods
import Derived.Test.YtbjaacppomobeaaZB
namespace Go.Proofs.Ytbjaacppomobeaa
open Go.RowKit

theorem infoI : (Try.prog.info? 3).map (·.size) = some 1 := by kernel_rfl
theorem run_indexT (f : Nat → Int) (k : Nat) (hk : k < 32) (w : World) : (Instr.index 75 (.agg (tbC f)) (.int .i64 (k : Int))).run Try.prog w = .ok (.int .i64 (f k)) w := by
  obtain ⟨i, hi, hs⟩ := Option.map_eq_some_iff.1 infoI
  have hg : (tbC f)[k]? = some (.int .i64 (f k)) := by simp [tbC, hk]
  have h0 : (0 : Int) ≤ (k : Int) ∧ (k : Int) < 32 := by omega
  simp [Instr.index, asIntOf, run_underlying Try.underlying75, h0, sizeOf, typeInfo, hi, hs, part, hg, isAgg, run_underlying Try.underlying3]
  intro h
  omega
/-- a step from place to place is a step from set to set -/
theorem nR_set {m : Nat} {ns : List Nat} (h : Cls m ns) {i k : Nat} (hi : i < ns.length) (hk : k < ns.length) : nR ns i k ↔ ns.getD k 0 ∈ nearTo ns (ns.getD i 0) m := by
  have hm := h.pts
  have h1 := getD_of_lt hi
  have h2 := getD_of_lt hk
  have h3 := adj_iff ⟨m, by omega⟩ ⟨_, h.lt32 _ h1⟩ ⟨_, h.lt32 _ h2⟩ (h.lt _ h1) (h.lt _ h2)
  dsimp only at h3
  rw [nR, nearTo, List.mem_filter, h3]
  exact ⟨fun k => ⟨k.2, decide_eq_true h2⟩, fun k => ⟨hk, k.1⟩⟩
theorem pth_set {m : Nat} {ns : List Nat} (h : Cls m ns) {i : Nat} (hi : i < ns.length) : ∀ k j, Pth (nR ns) i k j → j < ns.length ∧ Pth (fun u v => v ∈ nearTo ns u m) (ns.getD i 0) k (ns.getD j 0) := by
  intro k
  induction k with
  | zero =>
    intro j hj
    have : j = i := hj
    subst this
    exact ⟨hi, rfl⟩
  | succ k ih =>
    rintro j ⟨v, hv, hR⟩
    obtain ⟨h1, h2⟩ := ih v hv
    exact ⟨hR.1, _, h2, (nR_set h h1 hR.1).1 hR⟩
theorem pth_place {m : Nat} {ns : List Nat} (h : Cls m ns) {i : Nat} (hi : i < ns.length) : ∀ k t, Pth (fun u v => v ∈ nearTo ns u m) (ns.getD i 0) k t → ∃ j, j < ns.length ∧ ns.getD j 0 = t ∧ Pth (nR ns) i k j := by
  intro k
  induction k with
  | zero =>
    intro t ht
    have : t = ns.getD i 0 := ht
    exact ⟨i, hi, this.symm, rfl⟩
  | succ k ih =>
    rintro t ⟨v, hv, hR⟩
    obtain ⟨a, h1, h2, h3⟩ := ih v hv
    obtain ⟨b, hb, e⟩ := List.getElem_of_mem (near_mem hR)
    have eb : ns.getD b 0 = t := by rw [List.getD_eq_getElem?_getD, List.getElem?_eq_getElem hb]; exact e
    exact ⟨b, hb, eb, a, h3, (nR_set h h1 hb).2 (by rw [eb, h2]; exact hR)⟩
theorem dst_set {m : Nat} {ns : List Nat} (h : Cls m ns) {i j : Nat} (hi : i < ns.length) (hj : j < ns.length) {d : Int} (hd : Dst (fun u v => v ∈ nearTo ns u m) (ns.getD i 0) (ns.getD j 0) d) : Dst (nR ns) i j d := by
  rcases hd with ⟨h1, h2⟩ | ⟨k, h1, h2, h3⟩
  · exact .inl ⟨h1, fun k hk => h2 k (pth_set h hi k j hk).2⟩
  · obtain ⟨b, hb, eb, hp⟩ := pth_place h hi k _ h2
    have := getD_inj h.asc hb hj eb
    subst this
    exact .inr ⟨k, h1, hp, fun l hl => h3 l (pth_set h hi l b hl).2⟩
theorem at_first {m : Nat} {ns : List Nat} (h : Cls m ns) {i : Nat} (hi : i < ns.length) : ∀ k, k < i → (toI ns).getD k 0 ≠ ((ns.getD i 0 : Nat) : Int) := by
  intro k hk e
  rw [toI_getD] at e
  have := getD_inj h.asc (show k < ns.length by omega) hi (Int.ofNat_inj.1 e)
  omega
theorem at_hasB {ns : List Nat} {i : Nat} (hi : i < ns.length) : hasB (toI ns) ((ns.getD i 0 : Nat) : Int) = true := by
  rw [hasB_nat]; exact decide_eq_true (getD_of_lt hi)
/-- are both sets of a valid class? -/
def dOk (n : Int) (zs : List Int) (a b : Int) : Bool := vldB n zs && (hasB zs a && hasB zs b)
theorem dOk_at {n : Int} {zs : List Int} {a b : Int} (h : dOk n zs a b = true) : ∃ (m : Nat) (ns : List Nat) (i j : Nat), n = m ∧ zs = toI ns ∧ Cls m ns ∧ i < ns.length ∧ j < ns.length ∧ a = ((ns.getD i 0 : Nat) : Int) ∧ b = ((ns.getD j 0 : Nat) : Int) ∧ vldB m (toI ns) = true := by
  simp only [dOk, Bool.and_eq_true] at h
  obtain ⟨hv, ha, hb⟩ := h
  obtain ⟨m, ns, rfl, rfl, hc⟩ := vldB_cls hv
  obtain ⟨i, hi, e, _⟩ := first_at _ _ ha
  obtain ⟨j, hj, f, _⟩ := first_at _ _ hb
  rw [toI_length] at hi hj
  rw [toI_getD] at e f
  exact ⟨m, ns, i, j, rfl, rfl, hc, hi, hj, e.symm, f.symm, hv⟩

set_option maxHeartbeats 3200000 in
set_option maxRecDepth 100000 in
theorem implDistIn (m : Nat) (ns : List Nat) (i j : Nat) (v : Value) (w : World) (hc : Cls m ns) (hv : vldB m (toI ns) = true) (hi : i < ns.length) (hj : j < ns.length) (h : Rd w v (toI ns)) :
    Calls Try.prog 56 #[.agg #[.int .i64 m, v], .int .i64 ((ns.getD i 0 : Nat) : Int), .int .i64 ((ns.getD j 0 : Nat) : Int)] w fun e w' => ∃ d, e = .returned (.int .i64 d) ∧ Dst (nR ns) i j d ∧ Below w.heap.size w w' := by
  have H := Lib.hid h
  obtain ⟨a, b, off, cap, rfl, h1, h3, h5⟩ := h
  rw [toI_length] at H h1 h3 h5 ⊢
  have HI := Lib.hid (fun w h => slIndexIn (.slice a ns.length cap) (toI ns) ((ns.getD i 0 : Nat) : Int) i w h (by rw [toI_length]; exact hi) (toI_getD ns i) (at_first hc hi))
  have HK := Lib.hid (fun w h => slContains (.slice a ns.length cap) (toI ns) ((ns.getD j 0 : Nat) : Int) w h)
  rw [at_hasB hj] at HK
  have HV := Lib.hid (fun w h => implValid m (.slice a ns.length cap) (toI ns) w h)
  rw [hv] at HV
  have HN := Lib.hid (fun w h => implNodesOf m ns (.slice a ns.length cap) w hc h)
  have him := getD_of_lt hi
  have HD := Lib.hid (fun bl nv w h => implDistances bl m ns nv (ns.getD i 0) w hc h him)
  have HL := Lib.hid (fun d => dst_set hc hi hj (d := d))
  have hj32 := hc.lt32 _ (getD_of_lt hj)
  have hi32 := hc.lt32 _ him
  have HIM := Lib.hid him
  have hiI : (i : Int) < (ns.length : Int) := by omega
  have hMB := Lib.hid (fun bl => mapbl_getD (bl := bl) hi)
  have B0 := Lib.hid (Box.made m (.slice a ns.length cap) w 28)
  clear h1 h5 him hv hc
  generalize ns.getD i 0 = x at *
  generalize ns.getD j 0 = y at *
  have hyI : (y : Int) < 32 := by omega
  go_enter Try.func56, Try.ntmps56
  go_wp2_with fail
  refine (HI.out _ (H.out.below (k := w.heap.size) (by go_grown) (Nat.le_refl _))).mono ?_
  rintro e w0 ⟨rfl, hw0⟩
  subst hw0
  go_wp2_with fail
  refine (HV.out _ (H.out.below (k := w.heap.size) (by go_grown) (Nat.le_refl _))).mono ?_
  rintro e w1 ⟨rfl, hb⟩
  have B1 := Lib.hid (B0.out.next (by simp) hb)
  have hs1 : w.heap.size < w1.heap.size := by have := hb.size; simp at this; omega
  clear hb B0
  have c0 := B1.out.at0
  have c1 := B1.out.at1
  go_wp2_with fail
  refine (HK.out _ (H.out.below B1.out.below (Nat.le_refl _))).mono ?_
  rintro e w0 ⟨rfl, hw0⟩
  subst hw0
  go_wp2_with fail
  refine (HN.out _ (H.out.below B1.out.below (Nat.le_refl _))).mono ?_
  rintro e w2 ⟨bl, v2, rfl, hnd, hb2⟩
  have B2 := Lib.hid (B1.out.next hs1 hb2)
  obtain ⟨na, nb, noff, ncap, rfl, hn1, _, hn3⟩ := hnd.row
  rw [List.length_map] at hn1 hn3 hnd ⊢
  obtain ⟨rfl, hnl⟩ := hn1 (by omega)
  have hp0 : w2.cell? ⟨nb, noff + i, none⟩ = some (.pointer (some ⟨bl x, 0, none⟩)) := (hn3 i hi).trans (by rw [hMB.out]; rfl)
  have HDn := Lib.hid (HD.out bl _ w2 hnd)
  have hz2 := hb2.size
  clear hn3 hnd hb2 c0 c1
  go_wp2_with fail
  refine HDn.out.mono ?_
  rintro e w3 ⟨st, rfl, hst, hb3⟩
  have HST := Lib.hid (HL.out _ (hst y))
  have B3 := Lib.hid (B2.out.next (by omega) hb3)
  clear hst hb3 hp0
  have hix : ∀ w, Sem.run Try.prog (Instr.index 75 (.agg (tbC st)) (.int .i64 (y : Int))) w = .ok (.int .i64 (st y)) w := fun w => run_indexT st y hj32 w
  go_wp2_with fail
  go_ret
  exact ⟨_, rfl, HST.out, B3.out.below⟩

end Go.Proofs.Ytbjaacppomobeaa
