/- The layers, the model's: a slice of slices, one for each layer. Conditions: the sets are a slice of ints of a class. -/
import Derived.Test.YthmipnflbiclbaaDoorAppL
import Derived.Test.YthmipnflbiclbaaDoorZY
namespace Go.Proofs.YthmipnflbiclbaaDoor
open Go.RowKit

theorem LsS.lit (B : Nat) (w : World) (hB : B ≤ w.heap.size) : LsS B (w.alloc (.cells #[] 23)) (.slice (some ⟨w.heap.size, 0, none⟩) 0 0) [] := World.ownsRow_lit w #[] 0 hB (by unfold maxLen; omega) rfl
/-- a slice of slices and one of ints do not share a block -/
theorem ls_apart {B B' : Nat} {w : World} {v u : Value} {bs : List Sl} {zs : List Int} (h : LsS B w v bs) (h2 : Ints B' w u zs) : u.ownBlock = none ∨ u.ownBlock ≠ v.ownBlock := by
  rcases h.2 with ⟨rfl, _⟩ | ⟨g, cap, cur, rfl, _, hg, _⟩
  · rcases h2.2 with ⟨rfl, _⟩ | ⟨g2, cap2, cur2, rfl, _, hg2, _⟩
    · exact .inl rfl
    · exact .inr (fun e => by cases e)
  · rcases h2.2 with ⟨rfl, _⟩ | ⟨g2, cap2, cur2, rfl, _, hg2, _⟩
    · exact .inl rfl
    · refine .inr (fun e => ?_)
      obtain rfl : g2 = g := Option.some.inj e
      rw [hg] at hg2
      exact absurd (Obj.cells.inj (Option.some.inj hg2)).2 (by decide)
/-- the slices bs hold the layers P -/
def LyR (B : Nat) (W : World) (bs : List Sl) (P : List (List Nat × List Nat)) : Prop := bs.length = P.length ∧ ∀ i, i < bs.length → Ints B W (slv (bs.getD i sl0)) (toI (P.getD i ([], [])).1)
theorem LyR.below {B k : Nat} {W W' : World} {bs : List Sl} {P : List (List Nat × List Nat)} (h : LyR B W bs P) (hb : Below k W W') (hk : W.heap.size ≤ k) : LyR B W' bs P := ⟨h.1, fun i hi => (h.2 i hi).below hb hk⟩
theorem LyR.alloc {B : Nat} {W : World} {bs : List Sl} {P : List (List Nat × List Nat)} (h : LyR B W bs P) (o : Obj) : LyR B (W.alloc o) bs P := ⟨h.1, fun i hi => (h.2 i hi).alloc o⟩
theorem LyR.kept {B B' : Nat} {W W' : World} {v : Value} {bs bs' : List Sl} {P : List (List Nat × List Nat)} (h : LyR B W bs P) (hg : W.grownBy W' v.ownBlock) (hv : LsS B' W v bs') : LyR B W' bs P := ⟨h.1, fun i hi => (h.2 i hi).kept hg (ls_apart hv (h.2 i hi))⟩
theorem LyR.snoc {B : Nat} {W : World} {bs : List Sl} {P : List (List Nat × List Nat)} (h : LyR B W bs P) {s : Sl} {p : List Nat × List Nat} (hs : Ints B W (slv s) (toI p.1)) : LyR B W (bs ++ [s]) (P ++ [p]) := by
  refine ⟨by simp [h.1], fun i hi => ?_⟩
  rw [List.length_append, List.length_singleton] at hi
  by_cases e : i = bs.length
  · subst e
    rw [List.getD_eq_getElem?_getD, List.getElem?_append_right (Nat.le_refl _), Nat.sub_self, List.getD_eq_getElem?_getD, h.1, List.getElem?_append_right (Nat.le_refl _), Nat.sub_self]
    exact hs
  · have h1 := h.2 i (by omega)
    have h2 := h.1
    rw [List.getD_eq_getElem?_getD, List.getElem?_append_left (by omega), List.getD_eq_getElem?_getD, List.getElem?_append_left (by omega), ← List.getD_eq_getElem?_getD, ← List.getD_eq_getElem?_getD]
    exact h1
set_option maxRecDepth 100000 in
set_option maxHeartbeats 3200000 in
theorem specLayers (m : Nat) (v : Value) (ns : List Nat) (w : World) (hc : Cls m ns) (h : Rd w v (toI ns)) :
    Calls Tryd.prog 69 #[v, .int .i64 (m : Int)] w fun e w' => ∃ (a : Option Addr) (cap : Nat) (bs : List Sl), e = .returned (.slice a bs.length cap) ∧ LsS w.heap.size w' (.slice a bs.length cap) bs ∧ LyR w.heap.size w' bs (lys ns) ∧ Below w.heap.size w w' := by
  have H := Lib.hid h
  have HC := Lib.hid hc
  have hn32 := hc.length
  have hls := lys_len ns
  obtain ⟨a, b, off, cap, rfl, _, _, _⟩ := h
  rw [toI_length] at H ⊢
  clear hc
  go_enter Tryd.func69, Tryd.ntmps69
  go_wp2_with fail
  have L0 := Lib.hid (LsS.lit w.heap.size w (Nat.le_refl _))
  have B0 := Lib.hid ((Below.refl _ w).alloc (Nat.le_refl _) (.cells #[] 23))
  go_loopw [0, 5] (fun s o wr => ∃ (cur : List Nat) (P : List (List Nat × List Nat)) (a' : Option Addr) (c' : Nat) (ao : Option Addr) (co : Nat) (bs : List Sl), s = .slice a' cur.length c' ∧ o = .slice ao bs.length co ∧ Rd wr (.slice a' cur.length c') (toI cur) ∧ Cls m cur ∧ lys ns = P ++ lys cur ∧ LsS w.heap.size wr (.slice ao bs.length co) bs ∧ LyR w.heap.size wr bs P ∧ Below w.heap.size w wr) (fun s _ _ => slen s)
  case atStart => exact ⟨ns, [], a, cap, _, _, [], rfl, rfl, H.out.below B0.out (Nat.le_refl _), HC.out, rfl, L0.out, ⟨rfl, fun i hi => by cases hi⟩, B0.out⟩
  case round =>
    obtain ⟨cur, P, a', c', ao, co, bs, rfl, rfl, hrd, hcc, hl, hlst, hly, hbe⟩ := hrel
    have hbl : bs.length ≤ 32 := by
      have h1 := congrArg List.length hl
      rw [List.length_append] at h1
      have h2 := hly.1
      omega
    have R := Lib.hid hrd
    have HL := Lib.hid hl
    have BE := Lib.hid hbe
    have LS := Lib.hid hlst
    have LY := Lib.hid hly
    have hzr := hbe.size
    clear hrd hl hbe hlst hly
    by_cases hne : cur.length = 0
    · have HE := Lib.hid (show lys ns = P by rw [HL.out, List.eq_nil_of_length_eq_zero hne, lys_nil, List.append_nil])
      clear hcc
      rw [hne]
      go_wp2_with fail
      go_ret
      exact ⟨_, _, bs, rfl, LS.out, by rw [HE.out]; exact LY.out, BE.out⟩
    · have hne2 : cur ≠ [] := fun e => hne (by rw [e]; rfl)
      have hpos : (0 : Int) < (cur.length : Int) := by omega
      have HEz := Lib.hid (fun v w0 h0 => specEasiest m v cur w0 hcc h0)
      have HLn := Lib.hid (show lys ns = (P ++ [(lay cur, cur)]) ++ lys (rst cur) by rw [HL.out, lys_cons hne2]; simp)
      have HCr := Lib.hid (rst_cls hcc)
      have hml := rst_len hne2
      clear hcc hne hne2
      go_wp2_with fail
      refine (HEz.out _ _ R.out).mono ?_
      rintro e w3 ⟨g1, k1, g2, k2, rfl, hia, hib, hne, hb3⟩
      have B3 := Lib.hid (BE.out.trans (hb3.mono hzr))
      have I1 := Lib.hid (hia.mono hzr)
      have I2 := Lib.hid (hib.mono hzr)
      have LS3 := Lib.hid (LS.out.below hb3 (Nat.le_refl _))
      have LY3 := Lib.hid (LY.out.below hb3 (Nat.le_refl _))
      have hz3 := hb3.size
      have I1a := Lib.hid (I1.out.alloc (Obj.cells #[.slice (some ⟨g1, 0, none⟩) (lay cur).length k1] 23))
      have I2a := Lib.hid (I2.out.alloc (Obj.cells #[.slice (some ⟨g1, 0, none⟩) (lay cur).length k1] 23))
      have LSa := Lib.hid (LS3.out.alloc (Obj.cells #[.slice (some ⟨g1, 0, none⟩) (lay cur).length k1] 23))
      have LYa := Lib.hid (LY3.out.alloc (Obj.cells #[.slice (some ⟨g1, 0, none⟩) (lay cur).length k1] 23))
      have Ba := Lib.hid (B3.out.alloc (show w.heap.size ≤ w3.heap.size by omega) (Obj.cells #[.slice (some ⟨g1, 0, none⟩) (lay cur).length k1] 23))
      have HLB := Lib.hid (show ∀ s : Sl, (bs ++ [s]).length = bs.length + 1 from fun s => by simp)
      clear hia hib hne hb3 LS LY R BE
      go_wp2_with (at_builtin; refine wpList_appL rfl (.tmp 18) (.tmp 20) rfl w.heap.size _ bs rfl (by exact LSa.out) w3.heap.size ⟨g1, (lay cur).length, k1⟩ rfl (by rw [World.cell?_alloc_at _ _ _ _ rfl]; rfl) (by omega) (by simp; omega) ?_; intro g' cap' w4 hls4 hb4 hgr4)
      have B4 := Lib.hid (Ba.out.trans hb4)
      have LY4 := Lib.hid ((LYa.out.kept hgr4 LSa.out).snoc (s := ⟨g1, (lay cur).length, k1⟩) (p := (lay cur, cur)) (I1a.out.kept hgr4 (ls_apart LSa.out I1a.out)))
      have R4 := Lib.hid (I2a.out.kept hgr4 (ls_apart LSa.out I2a.out)).rd
      have LS4 := Lib.hid hls4
      clear hls4 hb4 hgr4 B3 I1 I2 LS3 LY3 I1a I2a LSa LYa Ba
      go_roundw
      case rel => exact ⟨rst cur, P ++ [(lay cur, cur)], _, _, _, _, bs ++ [⟨g1, (lay cur).length, k1⟩], rfl, by rw [HLB.out], R4.out, HCr.out, HLn.out, by rw [HLB.out]; exact LS4.out, LY4.out, B4.out⟩
      case measure => exact hml

end Go.Proofs.YthmipnflbiclbaaDoor
