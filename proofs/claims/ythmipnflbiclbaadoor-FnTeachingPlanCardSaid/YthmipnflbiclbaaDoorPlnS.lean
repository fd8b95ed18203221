/- TeachingPlan, the model's. Conditions: Sets is a slice of ints. -/
import Derived.Deep.RegionHeld3
import Derived.Test.YthmipnflbiclbaaDoorZH
import Derived.Test.YthmipnflbiclbaaDoorZX
import Derived.Test.YthmipnflbiclbaaDoorZY
namespace Go.Proofs.YthmipnflbiclbaaDoor
open Go.RowKit

/-- the first i values of f on a list, the others of g -/
def mixL (f g : Nat → Nat) (ns : List Nat) (i : Nat) : List Nat := (ns.take i).map f ++ (ns.drop i).map g
theorem mixL_len (f g : Nat → Nat) (ns : List Nat) (i : Nat) : (mixL f g ns i).length = ns.length := by
  rw [mixL, List.length_append, List.length_map, List.length_map, ← List.length_append, List.take_append_drop]
theorem mixL_zero (f g : Nat → Nat) (ns : List Nat) : mixL f g ns 0 = ns.map g := by simp [mixL]
theorem mixL_all (f g : Nat → Nat) (ns : List Nat) : mixL f g ns ns.length = ns.map f := by simp [mixL]
theorem mixL_set (f g : Nat → Nat) {ns : List Nat} {i : Nat} (hi : i < ns.length) : (mixL f g ns i).set i (f (ns.getD i 0)) = mixL f g ns (i + 1) := by
  have h1 : ((ns.take i).map f).length = i := by rw [List.length_map, List.length_take]; omega
  have h2 : ns.drop i = ns.getD i 0 :: ns.drop (i + 1) := by rw [List.getD_eq_getElem?_getD, List.getElem?_eq_getElem hi, Option.getD_some]; exact List.drop_eq_getElem_cons hi
  rw [mixL, mixL, h2, List.map_cons, List.set_append_right _ _ (by omega), h1, Nat.sub_self, List.set_cons_zero, List.take_succ_eq_append_getElem hi, List.map_append, List.append_assoc]
  rw [List.getD_eq_getElem?_getD, List.getElem?_eq_getElem hi, Option.getD_some]
  rfl
theorem mixL_same (f g : Nat → Nat) {ns : List Nat} {i : Nat} (hi : i < ns.length) (h : f (ns.getD i 0) = g (ns.getD i 0)) : mixL f g ns i = mixL f g ns (i + 1) := by
  have h2 : ns.drop i = ns.getD i 0 :: ns.drop (i + 1) := by rw [List.getD_eq_getElem?_getD, List.getElem?_eq_getElem hi, Option.getD_some]; exact List.drop_eq_getElem_cons hi
  rw [mixL, mixL, h2, List.map_cons, ← h, List.take_succ_eq_append_getElem hi, List.map_append, List.append_assoc]
  rw [List.getD_eq_getElem?_getD, List.getElem?_eq_getElem hi, Option.getD_some]
  rfl
theorem toI_setN (l : List Nat) (i x : Nat) : (toI l).set i (x : Int) = toI (l.set i x) := by
  rw [toI, toI, ← List.map_set]
/-- what TeachingPlan answers -/
def plnL (m : Nat) (ns : List Nat) : List Nat := ns.map (plV m (lys ns))
def tpB (n : Int) (zs : List Int) : List Int := if vldB n zs = true then toI (plnL n.toNat (zs.map Int.toNat)) else []
theorem tpB_in {m : Nat} {ns : List Nat} (hv : vldB (m : Int) (toI ns) = true) : tpB (m : Int) (toI ns) = toI (plnL m ns) := by rw [tpB, if_pos hv, Int.toNat_natCast, toNat_toI]
theorem tpB_bad {n : Int} {zs : List Int} (hv : vldB n zs = false) : tpB n zs = [] := by rw [tpB, hv]; rfl
theorem plnL_len (m : Nat) (ns : List Nat) : (plnL m ns).length = ns.length := by simp [plnL]
theorem tpB_len (n : Int) (zs : List Int) : (tpB n zs).length ≤ 1048576 := by
  unfold tpB
  split
  · rename_i hv
    obtain ⟨m, ns, rfl, rfl, hc⟩ := vldB_cls hv
    rw [toI_length, plnL_len, toNat_toI]
    have := hc.length; omega
  · simp
theorem plV_zero (m : Nat) (ns : List Nat) : toI (ns.map (plV m [])) = List.replicate ns.length 0 := by
  induction ns with
  | nil => rfl
  | cons a l ih =>
    rw [List.map_cons, List.length_cons, List.replicate_succ, ← ih]
    rfl

/-- a slice that reads as xs, its block another one than go -/
def RdA (go : Nat) (w : World) (v : Value) (xs : List Int) : Prop :=
  ∃ (a : Option Addr) (b off cap : Nat), v = .slice a xs.length cap ∧ (0 < xs.length → a = some ⟨b, off, none⟩ ∧ b < w.heap.size ∧ b ≠ go) ∧ xs.length ≤ 9223372036854775807 ∧ ∀ j, j < xs.length → w.cell? ⟨b, off + j, none⟩ = some (.int .i64 (xs.getD j 0))
theorem RdA.rd {go : Nat} {w : World} {v : Value} {xs : List Int} (h : RdA go w v xs) : Rd w v xs := by
  obtain ⟨a, b, off, cap, e, h1, h3, h5⟩ := h
  exact ⟨a, b, off, cap, e, fun h => ⟨(h1 h).1, (h1 h).2.1⟩, h3, h5⟩
theorem RdA.next {go : Nat} {w w' : World} {v : Value} {xs : List Int} (h : RdA go w v xs) (hb : Below w.heap.size w w') : RdA go w' v xs := by
  obtain ⟨a, b, off, cap, e, h1, h3, h5⟩ := h
  refine ⟨a, b, off, cap, e, fun h => ⟨(h1 h).1, Nat.lt_of_lt_of_le (h1 h).2.1 hb.size, (h1 h).2.2⟩, h3, fun j hj => ?_⟩
  rw [hb.cell (p := ⟨b, off + j, none⟩) (h1 (by omega)).2.1]
  exact h5 j hj
theorem RdA.put {go k : Nat} {w : World} {v u : Value} {xs : List Int} (h : RdA go w v xs) : RdA go (w.setCell ⟨go, k, none⟩ u) v xs := by
  obtain ⟨a, b, off, cap, e, h1, h3, h5⟩ := h
  refine ⟨a, b, off, cap, e, fun h => ⟨(h1 h).1, Nat.lt_of_lt_of_le (h1 h).2.1 (KeepsOthers.setCell _ _ _).size, (h1 h).2.2⟩, h3, fun j hj => ?_⟩
  rw [World.cell?_setCell_far _ _ _ _ (fun e => (h1 (by omega)).2.2 e.symm)]
  exact h5 j hj
theorem Rd.apart {go : Nat} {w w' : World} {v : Value} {xs : List Int} (h : Rd w v xs) (hg : w.heap.size ≤ go) (hb : Below w.heap.size w w') : RdA go w' v xs := by
  obtain ⟨a, b, off, cap, e, h1, h3, h5⟩ := h
  refine ⟨a, b, off, cap, e, fun h => ⟨(h1 h).1, Nat.lt_of_lt_of_le (h1 h).2 hb.size, by have := (h1 h).2; omega⟩, h3, fun j hj => ?_⟩
  rw [hb.cell (p := ⟨b, off + j, none⟩) (h1 (by omega)).2]
  exact h5 j hj
theorem Ints.rdA {go B : Nat} {w : World} {v : Value} {xs : List Int} (h : Ints B w v xs) (hg : go < B) : RdA go w v xs := by
  obtain ⟨a, g, cap, rfl, h1, h2, h3, h4, h5, _⟩ := h.shape
  have hn : 0 < xs.length → a ≠ none := fun hp h => by rw [(h2 h).1] at hp; simp at hp
  refine ⟨a, g, 0, cap, rfl, fun hp => ⟨h1.resolve_right (hn hp), (h4 (hn hp)).2, by have := (h4 (hn hp)).1; omega⟩, by unfold maxLen at h3; omega, fun j hj => ?_⟩
  rw [Nat.zero_add]
  exact h5 j hj

set_option maxRecDepth 100000 in
set_option maxHeartbeats 6400000 in
theorem specPlnIn (m : Nat) (v : Value) (ns : List Nat) (w : World) (hc : Cls m ns) (hvd : vldB (m : Int) (toI ns) = true) (h : Rd w v (toI ns)) :
    Calls Tryd.prog 27 #[.agg #[.int .i64 (m : Int), v]] w (RetInts (toI (plnL m ns)) w) := by
  have H := Lib.hid h
  obtain ⟨a, b, off, cap, rfl, h1, h3, h5⟩ := h
  have HV := Lib.hid (fun w0 h0 => specValid (m : Int) (.slice a (toI ns).length cap) (toI ns) w0 h0)
  rw [hvd] at HV
  obtain ⟨i0, hi, hz0, hz1, hz2⟩ := info_parts info3
  have Hz2 := Lib.hid hz2
  clear hz2
  have hl := hc.length
  have hm := hc.pts
  rw [toI_length] at *
  have H1 := Lib.hid h1
  have H5 := Lib.hid h5
  have HC := Lib.hid hc
  have HG := Lib.hid (fun k (hk : k < ns.length) => hc.lt32 _ (getD_of_lt hk))
  have HML := Lib.hid (fun f g i => mixL_len f g ns i)
  have HM0 := Lib.hid (fun f g => mixL_zero f g ns)
  have HMA := Lib.hid (fun f g => mixL_all f g ns)
  have HMS := Lib.hid (fun f g i (hi : i < ns.length) => mixL_set f g (ns := ns) hi)
  have HMN := Lib.hid (fun f g i (hi : i < ns.length) h => mixL_same f g (ns := ns) (i := i) hi h)
  have HP0 := Lib.hid (plV_zero m ns)
  have HLm := Lib.hid (fun (f : Nat → Nat) => show (ns.map f).length = ns.length by simp)
  clear h1 h5 hc hvd
  generalize hL : ns.length = L at *
  have HL := Lib.hid hL.symm
  clear hL
  go_enter Tryd.func27, Tryd.ntmps27
  go_wp2_with fail
  refine (HV.out _ (H.out.below (by go_grown) (Nat.le_refl _))).mono ?_
  rintro e w1 ⟨rfl, hb⟩
  have X1 := Lib.hid ((Bx.new (m : Int) (.slice a L cap) w).next hb (by simp))
  have B1 := Lib.hid (show Below w.heap.size w w1 from Below.trans ((Below.refl _ w).alloc (Nat.le_refl _) _) (hb.mono (by simp)))
  have hs1 : w.heap.size < w1.heap.size := X1.out.lt
  clear hb
  generalize ho : w.heap.size = o at *
  have x0 := X1.out.out.at0
  have x1 := X1.out.out.at1
  go_wp2_with (at_make; go_loud (refine wpList_make_full _ rfl _ _ 23 rfl w1.heap.size 3 i0 (.int .i64 0) 1 Tryd.underlying23 hi hz0 hz1 _ _ _ _ L rfl rfl rfl rfl (by rw [Hz2.out]; omega) (by unfold maxLen; omega) (Nat.le_refl _) ?_; intro w2 hown hgrow; have hin := Ints.of_made hown; have hb2 : Below w1.heap.size w1 w2 := (Below.refl _ _).grown hgrow (Nat.le_refl _) (fun k hk => by simp at hk); have X2 := Lib.hid (X1.out.next hb2 X1.out.lt); have B2 := Lib.hid (B1.out.trans (hb2.mono (by omega))); have hz2 := hb2.size; clear x0 x1 hown hgrow hb2; have x0 := X2.out.out.at0; have x1 := X2.out.out.at1))
  have IO := Lib.hid (show Ints w1.heap.size w2 (.slice (some ⟨w1.heap.size, 0, none⟩) L L) (toI (ns.map (plV m []))) by rw [HP0.out, HL.out]; rw [HL.out] at hin; exact hin)
  clear hin hi hz0 hz1 x0 x1
  have hgo : o < w1.heap.size := hs1
  generalize w1.heap.size = go at *
  go_loopw [4] (fun s wr => ∃ (cur : List Nat) (Q : List (List Nat × List Nat)) (a' : Option Addr) (c' : Nat), s = .slice a' cur.length c' ∧ RdA go wr (.slice a' cur.length c') (toI cur) ∧ Cls m cur ∧ (∀ t ∈ cur, t ∈ ns) ∧ lys ns = Q ++ lys cur ∧ Ints go wr (.slice (some ⟨go, 0, none⟩) L L) (toI (ns.map (plV m Q))) ∧ Below o w wr ∧ Bx (m : Int) (.slice a L cap) o wr ∧ go ≤ wr.heap.size) (fun s _ => slen s)
  case atStart => exact ⟨ns, [], a, cap, by rw [HL.out], by rw [← HL.out]; exact H.out.apart (by omega) (by rw [ho]; exact B2.out), HC.out, fun t ht => ht, rfl, IO.out, B2.out, X2.out, by omega⟩
  case round =>
    obtain ⟨cur, Q, a', c', rfl, hrd, hcc, hsub, hl2, hio, hbe, hbx, hsz⟩ := hrel
    have R := Lib.hid hrd
    have HCC := Lib.hid hcc
    have HSub := Lib.hid hsub
    have HLy := Lib.hid hl2
    have JO := Lib.hid hio
    have BE := Lib.hid hbe
    have XR := Lib.hid hbx
    have x0 := XR.out.out.at0
    have x1 := XR.out.out.at1
    clear hrd hl2 hio hbe hbx hsub IO B2 X2
    obtain ⟨w3, hw3⟩ : ∃ w3, w3 = wr := ⟨_, rfl⟩
    subst hw3
    by_cases hne : cur.length = 0
    · have HE := Lib.hid (show plnL m ns = ns.map (plV m Q) by
        rw [plnL, HLy.out, List.eq_nil_of_length_eq_zero hne, lys_nil, List.append_nil])
      clear hcc
      rw [hne]
      go_wp2_with fail
      go_ret
      rw [HE.out]
      have h9 := JO.out.mono (show w.heap.size ≤ go by omega)
      refine ⟨some ⟨go, 0, none⟩, L, ?_, ?_, by rw [ho]; exact BE.out⟩
      · rw [toI_length, HLm.out]; rfl
      · rw [toI_length, HLm.out]; exact h9
    · have hne2 : cur ≠ [] := fun e => hne (by rw [e]; rfl)
      have hpos : (0 : Int) < (cur.length : Int) := by omega
      have HEz := Lib.hid (fun v w0 h0 => specEasiest m v cur w0 hcc h0)
      have HLn := Lib.hid (show lys ns = (Q ++ [(lay cur, cur)]) ++ lys (rst cur) by rw [HLy.out, lys_cons hne2]; simp)
      have HCr := Lib.hid (rst_cls hcc)
      have hml := rst_len hne2
      have HPV := Lib.hid (fun t => plV_snoc m Q (lay cur, cur) t)
      have hcl := hcc.length
      have HFt := Lib.hid (fun t (ht : t ∈ cur) v w0 h0 => specFstT m hcc.pts v cur t w0 ht hcc.lt32 (by omega) h0)
      dsimp only at HPV
      clear hcc hne hne2
      generalize hf : plV m (Q ++ [(lay cur, cur)]) = f at *
      have HFE := Lib.hid hf
      clear hf
      generalize plV m Q = g at *
      go_wp2_with fail
      refine (HEz.out _ _ R.out.rd).mono ?_
      rintro e w4 ⟨g1, k1, g2, k2, rfl, hia, hib, hnn, hb4⟩
      have hgo1 := (JO.out.lt go rfl).2
      have RA := Lib.hid (hia.rdA (go := go) hgo1)
      have RB := Lib.hid (hib.rdA (go := go) hgo1)
      have R4 := Lib.hid (R.out.next hb4)
      have B4 := Lib.hid (BE.out.trans (hb4.mono (by have := BE.out.size; omega)))
      have X4 := Lib.hid (XR.out.next hb4 XR.out.lt)
      have O4 := Lib.hid (JO.out.below hb4 (Nat.le_refl _))
      have hsz4 : go < w4.heap.size := Nat.lt_of_lt_of_le hgo1 hb4.size
      have HM2 := Lib.hid (HM0.out f g)
      rw [← HM2.out] at O4
      clear hia hib hnn hb4 x0 x1
      go_wp2_with fail
      go_loopw [7] (fun i wr => ∃ k : Nat, k ≤ L ∧ i = .int .i64 k ∧ Ints go wr (.slice (some ⟨go, 0, none⟩) L L) (toI (mixL f g ns k)) ∧ RdA go wr (.slice a' cur.length c') (toI cur) ∧ RdA go wr (.slice (some ⟨g1, 0, none⟩) (lay cur).length k1) (toI (lay cur)) ∧ RdA go wr (.slice (some ⟨g2, 0, none⟩) (rst cur).length k2) (toI (rst cur)) ∧ Below o w wr ∧ Bx (m : Int) (.slice a L cap) o wr ∧ go < wr.heap.size) (fun i _ => L - (intOf i).toNat)
      case atStart => exact ⟨0, Nat.zero_le _, rfl, O4.out, R4.out, RA.out, RB.out, B4.out, X4.out, hsz4⟩
      case round =>
        obtain ⟨k, hk, rfl, hio, hrd, hra, hrb, hbe, hbx, hsz⟩ := hrel
        have KO := Lib.hid hio
        have KR := Lib.hid hrd
        have KA := Lib.hid hra
        have KB := Lib.hid hrb
        have KE := Lib.hid hbe
        have XK := Lib.hid hbx
        have x0 := XK.out.out.at0
        have x1 := XK.out.out.at1
        clear hio hrd hra hrb hbe hbx O4 R4 RA RB B4 X4 HM2
        obtain ⟨w5, hw5⟩ : ∃ w5, w5 = wr := ⟨_, rfl⟩
        subst hw5
        by_cases hlt : k < L
        · have hkI : (k : Int) < (L : Int) := by omega
          obtain ⟨rfl, hbl⟩ := H1.out (by omega)
          have hc := (KE.out.cell (p := ⟨b, off + k, none⟩) (by show b < o; omega)).trans (H5.out k hlt)
          rw [toI_getD] at hc
          have hbgo : b ≠ go := by omega
          have hogo : o ≠ go := by omega
          have HHi := Lib.hid (fun u => specHasInt _ (toI (lay cur)) ((u : Nat) : Int) w5 KA.out.rd)
          have HHn := Lib.hid (fun u => hasB_nat (lay cur) u)
          have HSet := Lib.hid (HMS.out f g k hlt)
          have HSame := Lib.hid (HMN.out f g k hlt)
          generalize ns.getD k 0 = u at *
          have HHu := Lib.hid (HHi.out u)
          rw [HHn.out] at HHu
          have HPu := Lib.hid (HPV.out u)
          by_cases hin : u ∈ lay cur
          · have HFv := Lib.hid (HPu.out.trans (if_pos hin))
            have HFu := Lib.hid (HFt.out u (lay_sub hin))
            rw [decide_eq_true hin] at HHu
            obtain ⟨hs1, hf1⟩ := KO.out.cellAt k (by rw [toI_length, HML.out]; exact hlt)
            clear HHi HHn HSame HPu hin
            generalize hfv : f u = y at *
            have HY := Lib.hid (HFv.out)
            rw [← HY.out] at HFu
            clear HFv HY
            go_wp2_with fail
            refine HHu.out.mono ?_
            rintro e w6 ⟨rfl, rfl⟩
            go_wp2_with fail
            go_region_held3 (fun w' => w'.cell? ⟨o, 0, none⟩ = some (.int .i64 (m : Int)) ∧ w'.cell? ⟨o, 1, none⟩ = some (.slice (some ⟨b, off, none⟩) L cap) ∧ w'.cell? ⟨b, off + k, none⟩ = some (.int .i64 (u : Int))) (first | exact ⟨x0, x1, hc⟩ | exact ⟨z0, z1, z2⟩ | exact ⟨(World.cell?_setCell_far _ _ _ _ (show go ≠ o by omega)).trans z0, (World.cell?_setCell_far _ _ _ _ (show go ≠ o by omega)).trans z1, (World.cell?_setCell_far _ _ _ _ (show go ≠ b by omega)).trans z2⟩ | go_keep) (first
              | (go_at_call 78; refine (HFu.out _ _ (by first | exact KR.out.rd | exact KR.out.rd.below (k := w5.heap.size) ((Below.refl _ _).drew) (Nat.le_refl _))).mono ?_; rintro e w7 ⟨rfl, hbd⟩; have hb7 : Below w5.heap.size w5 w7 := (by first | exact hbd | exact ⟨hbd.os, hbd.tape, hbd.output, hbd.size, hbd.block⟩); clear hbd; have X7 := Lib.hid (XK.out.next hb7 XK.out.lt); have z0 := X7.out.out.at0; have z1 := X7.out.out.at1; have z2 := (hb7.cell (p := ⟨b, off + k, none⟩) (World.block_lt_of_cell? _ _ hc)).trans hc; have O7 := Lib.hid (KO.out.below hb7 (Nat.le_refl _)); obtain ⟨hs7, hf7⟩ := O7.out.cellAt k (by rw [toI_length, HML.out]; exact hlt); have KR7 := Lib.hid (KR.out.next hb7); have KA7 := Lib.hid (KA.out.next hb7); have KB7 := Lib.hid (KB.out.next hb7); have KE7 := Lib.hid (KE.out.trans (hb7.mono (by have := KE.out.size; omega))); have hz7 := hb7.size; clear hb7))
            all_goals
              go_wp2_with fail
              go_roundw
              case rel =>
                refine ⟨k + 1, by omega, by go_num, ?_, KR7.out.put, KA7.out.put, KB7.out.put, KE7.out.setCell (p := ⟨go, k, none⟩) (by show o ≤ go; omega) _, X7.out.other (by omega) _, by simp [World.setCell]; omega⟩
                have h9 := O7.out.store k (y : Int)
                rw [toI_setN, HSet.out] at h9
                exact h9
              case measure => simp [intOf]; omega
          · have HFv := Lib.hid (HPu.out.trans (if_neg hin))
            have HMx := Lib.hid (HSame.out HFv.out)
            rw [decide_eq_false hin] at HHu
            clear HHi HHn HSet HSame HPu hin HFv
            go_wp2_with fail
            refine HHu.out.mono ?_
            rintro e w6 ⟨rfl, rfl⟩
            go_wp2_with fail
            go_roundw
            case rel => exact ⟨k + 1, by omega, by go_num, by rw [← HMx.out]; exact KO.out, KR.out, KA.out, KB.out, KE.out, XK.out, hsz⟩
            case measure => simp [intOf]; omega
        · have HKL := Lib.hid (show k = L by omega)
          have hlk : ¬ (k : Int) < (L : Int) := by omega
          go_wp2_with fail
          go_roundw
          case rel =>
            refine ⟨rst cur, Q ++ [(lay cur, cur)], _, _, rfl, KB.out, HCr.out, fun t ht => HSub.out t (mem_rst.1 ht).1, HLn.out, ?_, KE.out, XK.out, by omega⟩
            have h9 := KO.out
            rw [HKL.out, HMA.out] at h9
            rw [HFE.out]
            exact h9
          case measure => exact hml

set_option maxRecDepth 100000 in
set_option maxHeartbeats 1600000 in
theorem specTeachingPlan (n : Int) (v : Value) (zs : List Int) (w : World) (h : Rd w v zs) :
    Calls Tryd.prog 27 #[.agg #[.int .i64 n, v]] w (RetInts (tpB n zs) w) := by
  by_cases hv : vldB n zs = true
  · obtain ⟨m, ns, rfl, rfl, hc⟩ := vldB_cls hv
    rw [tpB_in hv]
    exact specPlnIn m v ns w hc hv h
  · rw [Bool.not_eq_true] at hv
    have H := Lib.hid h
    obtain ⟨a, b, off, cap, rfl, _, _, _⟩ := h
    have HV := Lib.hid (fun w0 h0 => specValid n (.slice a zs.length cap) zs w0 h0)
    rw [tpB_bad hv]
    rw [hv] at HV
    clear hv
    go_enter Tryd.func27, Tryd.ntmps27
    go_wp2_with fail
    refine (HV.out _ (H.out.below (by go_grown) (Nat.le_refl _))).mono ?_
    rintro e w1 ⟨rfl, hb⟩
    have B1 := Lib.hid ((Box.made n (.slice a zs.length cap) w _).next (by simp) hb)
    clear hb
    go_wp2_with fail
    go_ret
    exact RetInts.of (Ints.nil _ _) B1.out.below

end Go.Proofs.YthmipnflbiclbaaDoor
