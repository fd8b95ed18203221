/- The text of a class, both sides. Conditions: the slice reads as ints. -/
import Derived.Test.YtkamocciaaapmaaDoorTxt
import Derived.Test.YtkamocciaaapmaaDoorZA
import Derived.Test.YtkamocciaaapmaaDoorZB
namespace Go.Proofs.YtkamocciaaapmaaDoor
open Go.RowKit

theorem join_snoc (l : List (List UInt8)) (x sep : List UInt8) : Lib.join (l ++ [x]) sep = if l = [] then x else Lib.join l sep ++ sep ++ x := by
  cases l with
  | nil => rw [if_pos rfl]; exact Lib.join_one x sep
  | cons y r =>
    rw [if_neg (by simp), List.cons_append, Lib.join_cons, Lib.join_cons]
    simp [Lib.joinTail, List.append_assoc]
theorem ctT_eq (m : Nat) (ns : List Nat) : ∀ k, k ≤ ns.length → ctT m ns k = ⟨(Lib.decDigits m ++ [58] ++ Lib.join ((ns.take k).map Lib.decDigits) [44]).toArray⟩
  | 0, _ => by
    rw [ctT, nb, show (⟨#[58]⟩ : ByteArray) = ⟨([58] : List UInt8).toArray⟩ from rfl, ByteArray.mk_append_mk]
    simp [Lib.join]
  | k + 1, hk => by
    have hg : ns.take (k + 1) = ns.take k ++ [ns.getD k 0] := by
      rw [List.take_add_one, List.getElem?_eq_getElem (by omega), List.getD_eq_getElem?_getD, List.getElem?_eq_getElem (by omega)]
      rfl
    rw [ctT, ctT_eq m ns k (by omega), nb, hg, List.map_append, List.map_cons, List.map_nil, join_snoc, show (⟨#[44]⟩ : ByteArray) = ⟨([44] : List UInt8).toArray⟩ from rfl]
    by_cases h0 : 0 < k
    · rw [if_pos h0, if_neg (by intro h9; have h8 := congrArg List.length h9; rw [List.length_map, List.length_take, List.length_nil] at h8; omega), ByteArray.mk_append_mk, ByteArray.mk_append_mk]
      simp only [List.append_assoc]
    · obtain rfl : k = 0 := by omega
      rw [if_neg h0, if_pos (by simp), ByteArray.mk_append_mk]
      simp [Lib.join]
/-- the text of a class, empty if it is not valid -/
def ctB (n : Int) (zs : List Int) : ByteArray := if vldB n zs = true then ctT n.toNat (zs.map Int.toNat) zs.length else ⟨#[]⟩
theorem ctB_in {m : Nat} {ns : List Nat} (h : vldB m (toI ns) = true) : ctB m (toI ns) = ctT m ns ns.length := by
  rw [ctB, if_pos h, toI_length, toNat_toI, Int.toNat_natCast]
theorem ctB_out {n : Int} {zs : List Int} (h : vldB n zs = false) : ctB n zs = ⟨#[]⟩ := by rw [ctB, if_neg (by rw [h]; simp)]

set_option maxHeartbeats 800000 in
set_option maxRecDepth 100000 in
theorem specClassText (n : Int) (v : Value) (zs : List Int) (w : World) (h : Rd w v zs) :
    Calls Tryd.prog 8 #[.agg #[.int .i64 n, v]] w fun e w' => e = .returned (.string (ctB n zs)) ∧ Below w.heap.size w w' := by
  have H := Lib.hid h
  obtain ⟨a, b, off, cap, rfl, -, -, -⟩ := h
  have HB := Lib.hid (show Below w.heap.size w (w.alloc (Obj.cells #[.int .i64 n, .slice a zs.length cap] 27)) from (Below.refl _ _).alloc (Nat.le_refl _) _)
  have HX := Lib.hid (Bx.new n (.slice a zs.length cap) w)
  have HZ := Lib.hid (show (w.alloc (Obj.cells #[.int .i64 n, .slice a zs.length cap] 27)).heap.size = w.heap.size + 1 by simp)
  have HV := Lib.hid (fun w h => specValid n (.slice a zs.length cap) zs w h)
  go_enter Tryd.func8, Tryd.ntmps8
  go_wp2_with fail
  generalize w.alloc (Obj.cells #[.int .i64 n, .slice a zs.length cap] 27) = w0 at *
  have hz0 := HZ.out
  generalize hH : w.heap.size = o at *
  have x0 := HX.out.out.at0
  have x1 := HX.out.out.at1
  go_wp2_with fail
  refine (HV.out _ (H.out.below HB.out (by omega))).mono ?_
  rintro e w1 ⟨rfl, hb1⟩
  have X1 := Lib.hid (HX.out.next hb1 (by omega))
  have B1 := Lib.hid (HB.out.trans (hb1.mono (by omega)))
  clear hb1 HX HB x0 x1 HV
  by_cases hv : vldB n zs = true
  · obtain ⟨m, ns, rfl, rfl, hc⟩ := vldB_cls hv
    have hm := hc.pts
    have hl := hc.length
    have HT := Lib.hid (ctB_in hv)
    have HS := Lib.hid (fun w h => specClassTextIn m (.slice a (toI ns).length cap) ns w h (by omega) (fun t ht => by have := hc.lt t ht; have := pow_le_32 hm; omega) (by omega))
    rw [hv]
    clear hv hc
    have x0 := X1.out.out.at0
    have x1 := X1.out.out.at1
    go_wp2_with fail
    refine (HS.out _ (H.out.below B1.out (by omega))).mono ?_
    rintro e w2 ⟨rfl, hb2⟩
    have B2 := Lib.hid (B1.out.trans (hb2.mono (by have := B1.out.size; omega)))
    clear hb2
    go_wp2_with fail
    go_ret
    rw [HT.out]
    exact ⟨rfl, by rw [hH]; exact B2.out⟩
  · rw [Bool.not_eq_true] at hv
    have HT := Lib.hid (ctB_out hv)
    rw [hv]
    clear hv
    go_wp2_with fail
    go_ret
    rw [HT.out]
    exact ⟨rfl, by rw [hH]; exact B1.out⟩

/-- a row of strings of our own -/
def Strs (B : Nat) (w : World) (v : Value) (ss : List ByteArray) : Prop := w.ownsRow B 9 1 v ss.length (ss.map Value.string)
theorem infoStr : (Tryd.prog.info? 9).map (fun i => (i.zero, i.size, i.bytes)) = some (some (.string ⟨#[]⟩), 1, 16) := by kernel_rfl
theorem Strs.of_made {B g n : Nat} {w : World} (h : w.ownsRow B 9 1 (.slice (some ⟨g, 0, none⟩) n n) n (madeCells (Value.string ⟨#[]⟩).cells (n * 1)).toList) :
    Strs B w (.slice (some ⟨g, 0, none⟩) n n) (List.replicate n ⟨#[]⟩) := by
  unfold Strs
  rw [List.length_replicate, show (List.replicate n (⟨#[]⟩ : ByteArray)).map Value.string = (madeCells (Value.string ⟨#[]⟩).cells (n * 1)).toList from by rw [Nat.mul_one]; exact ((toList_madeCells_one (.string ⟨#[]⟩) n).trans (by simp)).symm]
  exact h
theorem Strs.store {B g n cap : Nat} {w : World} {ss : List ByteArray} (hn : n = ss.length) (h : Strs B w (.slice (some ⟨g, 0, none⟩) n cap) ss) (k : Nat) (x : ByteArray) :
    Strs B (w.setCell ⟨g, k, none⟩ (.string x)) (.slice (some ⟨g, 0, none⟩) n cap) (ss.set k x) := by
  subst hn
  have := (World.ownsRow.stored h k (.string x)).1
  unfold Strs
  rw [List.length_set, List.map_set]
  exact this
theorem Strs.cellAt {B g n cap : Nat} {w : World} {ss : List ByteArray} (h : Strs B w (.slice (some ⟨g, 0, none⟩) n cap) ss) (k : Nat) (x : ByteArray) (hk : ss[k]? = some x) :
    w.cell? ⟨g, k, none⟩ = some (.string x) ∧ w.frozen? ⟨g, k, none⟩ = false ∧ g < w.heap.size := by
  have hlt : k < ss.length := by rcases Nat.lt_or_ge k ss.length with h | h; exact h; rw [List.getElem?_eq_none h] at hk; cases hk
  rcases h.2 with ⟨e, _⟩ | ⟨g2, cap2, cur, e, h1, h2, h3, h4, h5, h6⟩
  · cases e
  · simp only [Value.slice.injEq, Option.some.injEq, Addr.mk.injEq, and_true] at e
    obtain ⟨rfl, rfl, rfl⟩ := e
    refine ⟨?_, frozen_of_row _ _ _ _ _ h2, (Array.getElem?_eq_some_iff.1 h2).1⟩
    rw [cell_of_row _ _ _ _ _ _ h2, ← Array.getElem?_toList]
    have h7 : (cur.toList.take (ss.length * 1))[k]? = some (.string x) := by rw [h6, List.getElem?_map, hk]; rfl
    rw [List.getElem?_take] at h7
    split at h7
    · exact h7
    · cases h7
theorem Strs.other {B : Nat} {w : World} {v : Value} {ss : List ByteArray} (h : Strs B w v ss) {a : Addr} (ha : a.block < B) (u : Value) : Strs B (w.setCell a u) v ss := ownsRow_setCell_below h ha u

set_option maxHeartbeats 1600000 in
set_option maxRecDepth 100000 in
theorem implClassText (n : Int) (v : Value) (zs : List Int) (w : World) (h : Rd w v zs) :
    Calls Tryd.prog 10 #[.agg #[.int .i64 n, v]] w fun e w' => e = .returned (.string (ctB n zs)) ∧ Below w.heap.size w w' := by
  have H := Lib.hid h
  obtain ⟨a, b, off, cap, rfl, h1, h3, h5⟩ := h
  obtain ⟨i0, hi, hi0, hi1, hi2⟩ := info_parts infoStr
  have Hi2 := Lib.hid hi2
  clear hi2
  have HB := Lib.hid (show Below w.heap.size w (w.alloc (Obj.cells #[.int .i64 n, .slice a zs.length cap] 27)) from (Below.refl _ _).alloc (Nat.le_refl _) _)
  have HX := Lib.hid (Bx.new n (.slice a zs.length cap) w)
  have HZ := Lib.hid (show (w.alloc (Obj.cells #[.int .i64 n, .slice a zs.length cap] 27)).heap.size = w.heap.size + 1 by simp)
  have HV := Lib.hid (fun w h => implValid n (.slice a zs.length cap) zs w h)
  have H1 := Lib.hid h1
  have H5 := Lib.hid h5
  clear h1 h5
  go_enter Tryd.func10, Tryd.ntmps10
  go_wp2_with fail
  generalize w.alloc (Obj.cells #[.int .i64 n, .slice a zs.length cap] 27) = w0 at *
  have hz0 := HZ.out
  generalize hH : w.heap.size = o at *
  have x0 := HX.out.out.at0
  have x1 := HX.out.out.at1
  go_wp2_with fail
  refine (HV.out _ (H.out.below HB.out (by omega))).mono ?_
  rintro e w1 ⟨rfl, hb1⟩
  have hz1 := hb1.size
  have X1 := Lib.hid (HX.out.next hb1 (by omega))
  have B1 := Lib.hid (HB.out.trans (hb1.mono (by omega)))
  clear hb1 HX HB x0 x1 HV
  by_cases hv : vldB n zs = true
  · obtain ⟨m, ns, rfl, rfl, hc⟩ := vldB_cls hv
    have hm := hc.pts
    have hl := hc.length
    have HT := Lib.hid (ctB_in hv)
    have HC := Lib.hid hc
    rw [hv]
    clear hv hc
    rw [toI_length] at *
    generalize hL : ns.length = L at *
    have HL := Lib.hid hL
    clear hL
    have x0 := X1.out.out.at0
    have x1 := X1.out.out.at1
    go_wp2_with (at_make; refine wpList_make_full _ rfl _ _ 42 rfl w1.heap.size 9 i0 (.string ⟨#[]⟩) 1 Tryd.underlying42 hi hi0 hi1 _ _ _ _ L rfl rfl rfl rfl (by rw [Hi2.out]; omega) (by unfold maxLen; omega) (Nat.le_refl _) ?_; intro w2 hown hgrow; have hz2 := hgrow.size; have HO := Lib.hid (Strs.of_made hown); have B2 := Lib.hid (B1.out.grown hgrow (by have := B1.out.size; omega) (fun k hk => by simp at hk)); have X2 := Lib.hid (X1.out.kept hgrow (by simp)); clear hown hgrow x0 x1; have x1 := X2.out.out.at1)
    clear hi hi0 hi1 X1 B1
    generalize hG : w1.heap.size = G at *
    have hoG : o < G := by omega
    go_loopw [16] (fun i wr => ∃ (k : Nat) (ss : List ByteArray), k ≤ L ∧ i = .int .i64 k ∧ L = ss.length ∧ Hid (∀ j, j < k → ss[j]? = some (nb (ns.getD j 0))) ∧ Strs G wr (.slice (some ⟨G, 0, none⟩) L L) ss ∧ Bx (m : Int) (.slice a L cap) o wr ∧ Below o w wr) (fun i _ => L - (intOf i).toNat)
    case atStart => exact ⟨0, _, Nat.zero_le _, rfl, by simp, Lib.hid (fun j hj => by omega), HO.out, X2.out, B2.out⟩
    case round =>
      obtain ⟨k, ss, hk, rfl, hsl, HJ, hstr, hx, hbl⟩ := hrel
      have HSL := Lib.hid hsl
      have HST := Lib.hid hstr
      have HX := Lib.hid hx
      have HBL := Lib.hid hbl
      clear hsl hstr hx hbl x1
      by_cases hlt : k < L
      · obtain ⟨rfl, hbb⟩ := H1.out (by omega)
        have hc := (HBL.out.cell (p := ⟨b, off + k, none⟩) hbb).trans (H5.out k hlt)
        rw [toI_getD] at hc
        have hx32 : ns.getD k 0 < 100 := by have := HC.out.lt _ (getD_of_lt (l := ns) (k := k) (by rw [HL.out]; exact hlt)); have := pow_le_32 hm; omega
        obtain ⟨x, hxe⟩ : ∃ x, x = ns.getD k 0 := ⟨_, rfl⟩
        have HXE := Lib.hid hxe
        rw [← hxe] at hc hx32
        clear hxe
        have HNx := Lib.hid (show ∀ w, Calls Tryd.prog 24 #[.int .i64 x] w fun e w' => e = .returned (.string (nb x)) ∧ w' = w from libItoa x hx32)
        have hcs := HST.out.cellAt k (ss.getD k ⟨#[]⟩) (by rw [List.getD_eq_getElem?_getD, List.getElem?_eq_getElem (by have := HSL.out; omega)]; rfl)
        have hs1 := hcs.1
        have hs2 := hcs.2.1
        clear hcs
        generalize ss.getD k ⟨#[]⟩ = old at hs1
        go_wp2_with fail
        refine (HNx.out _).mono ?_
        rintro e w9 ⟨rfl, rfl⟩
        generalize hSx : nb x = Sx at *
        go_wp2_with fail
        go_roundw
        case rel =>
          refine ⟨k + 1, ss.set k Sx, by omega, by go_num, by rw [List.length_set]; exact HSL.out, Lib.hid (fun j hj => ?_), HST.out.store HSL.out k Sx, HX.out.other (show o ≠ G by omega) _, HBL.out.setCell (show o ≤ G by omega) _⟩
          rw [List.getElem?_set]
          by_cases hjk : k = j
          · subst hjk
            rw [if_pos rfl, if_pos (by have := HSL.out; omega), ← HXE.out, hSx]
          · rw [if_neg hjk]
            exact HJ.out j (by omega)
        case measure => simp [intOf]; omega
      · obtain rfl : k = L := by omega
        have hss : ss = ns.map nb := by
          apply List.ext_getElem?
          intro j
          by_cases hj : j < k
          · rw [HJ.out j hj, List.getElem?_map, List.getD_eq_getElem?_getD, List.getElem?_eq_getElem (by have := HL.out; omega)]
            rfl
          · rw [List.getElem?_eq_none (by have := HSL.out; omega), List.getElem?_eq_none (by rw [List.length_map]; have := HL.out; omega)]
        have hje : (ss.map (·.data.toList)) = ns.map Lib.decDigits := by rw [hss, List.map_map]; rfl
        have HCE := ctT_eq m ns k (by have := HL.out; omega)
        rw [List.take_of_length_le (by have := HL.out; omega)] at HCE
        have hsz := ctT_size (m := m) (ns := ns) (by omega) (fun t ht => by have := HC.out.lt t ht; have := pow_le_32 hm; omega) k (by have := HL.out; omega)
        have HNm := Lib.hid (show ∀ w, Calls Tryd.prog 24 #[.int .i64 m] w fun e w' => e = .returned (.string (nb m)) ∧ w' = w from libItoa m (by omega))
        have hJL : (Lib.join (ns.map Lib.decDigits) [44]).length ≤ 1000 := by
          rw [HCE] at hsz
          have h9 : (Lib.decDigits m ++ [58] ++ Lib.join (ns.map Lib.decDigits) [44]).length ≤ 3 + 3 * k := by simpa [ByteArray.size] using hsz
          rw [List.length_append] at h9
          omega
        have hse : ([44] : List UInt8) = (⟨#[44]⟩ : ByteArray).data.toList := rfl
        have hGw : 0 < k → G < wr.heap.size := fun h => (HST.out.cellAt 0 (nb (ns.getD 0 0)) (HJ.out 0 h)).2.2
        have HJN := Lib.hid (show Calls Tryd.prog 25 #[.slice (some ⟨G, 0, none⟩) k k, .string ⟨#[44]⟩] wr fun e w' => e = .returned (.string ⟨(Lib.join (ns.map Lib.decDigits) [44]).toArray⟩) ∧ Below wr.heap.size wr w' from by
          by_cases h0 : 0 < k
          · have h8 := libJoin G 0 k ss ⟨#[44]⟩ wr (fun j x hx => by rw [Nat.zero_add]; exact (HST.out.cellAt j x hx).1) (hGw h0) (by have := HSL.out; omega) (by have := HSL.out; omega) (by rw [hje, ← hse]; omega)
            rw [hje, ← hse, ← HSL.out] at h8
            exact h8
          · obtain rfl : k = 0 := by omega
            obtain rfl : ns = [] := List.eq_nil_of_length_eq_zero HL.out
            exact (libJoin_none _ _ _ _).mono (fun e w' ⟨he, hw⟩ => ⟨he, hw ▸ Below.refl _ _⟩))
        have hs1 := nb_size m (by omega)
        have hno1 : ¬ 9223372036854775807 < (nb m).size + 1 := by omega
        have HFIN := Lib.hid (show nb m ++ ⟨#[58]⟩ ++ ⟨(Lib.join (ns.map Lib.decDigits) [44]).toArray⟩ = ctT m ns k by rw [HCE, nb, show (⟨#[58]⟩ : ByteArray) = ⟨([58] : List UInt8).toArray⟩ from rfl, ByteArray.mk_append_mk, ByteArray.mk_append_mk])
        generalize hJJ : Lib.join (ns.map Lib.decDigits) [44] = J at *
        generalize nb m = Sm at *
        have hno2 : ¬ 9223372036854775807 < Sm.size + 1 + J.length := by omega
        clear hss hje HCE hsz hse hJJ HJ
        have x0 := HX.out.out.at0
        go_wp2_with fail
        refine (HNm.out _).mono ?_
        rintro e w9 ⟨rfl, rfl⟩
        go_wp2_with fail
        refine HJN.out.mono ?_
        rintro e w9 ⟨rfl, hb9⟩
        have hbz := HBL.out.size
        have B9 := Lib.hid (HBL.out.trans (hb9.mono (by omega)))
        clear hb9
        go_wp2_with fail
        go_ret
        rw [HT.out]
        exact ⟨congrArg (fun x => Ending.returned (Value.string x)) HFIN.out, by rw [hH]; exact B9.out⟩
  · rw [Bool.not_eq_true] at hv
    have HT := Lib.hid (ctB_out hv)
    rw [hv]
    clear hv
    go_wp2_with fail
    go_ret
    rw [HT.out]
    exact ⟨rfl, by rw [hH]; exact B1.out⟩

end Go.Proofs.YtkamocciaaapmaaDoor
