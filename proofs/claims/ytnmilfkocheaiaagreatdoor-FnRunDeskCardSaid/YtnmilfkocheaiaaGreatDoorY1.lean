/- Numbers in decimal, as the model writes them. Conditions: below 100. The text of a class, both sides. Conditions: the slice reads as ints. The model's number below a million, and readNumber. Conditions: below a million; at most 1048576 bytes. The model's splitAt: the parts of a text between the bytes of a kind. Conditions: at most 1048576 bytes. What Atoi, Cut and Split of Go's library are, at this program's numbers. No conditions. The program's numberOr: the number that a text tells by Atoi, or -1. Conditions: the library's two errors are laid; at most 2^48 bytes. The mathematics of reading a class's text: the model and the program read the same class off every text. No conditions. What the reading of a class's text leans on: the library's Cut and Split at this program, and its errors kept. Conditions: at most 1048576 bytes. -/
import Derived.Laws.Concat
import Derived.Lib.AtoiErrMem
import Derived.Lib.Split
import Derived.Lib.SplitLaws
import Derived.Maps.AppendAt
import Derived.Shelf.Strconv.ErrVarAll
import Derived.Shelf.Strings.Shaped
import Derived.Shelf.Strings.SplitShaped
import Derived.Test.YtnmilfkocheaiaaGreatDoorShelf
import Derived.Test.YtnmilfkocheaiaaGreatDoorZA
import Derived.Test.YtnmilfkocheaiaaGreatDoorZB
import Derived.Test.YtnmilfkocheaiaaGreatDoorZH
import Derived.WalkSmall
namespace Go.Proofs.YtnmilfkocheaiaaGreatDoor
open Go.RowKit

/-- the text of a list of bytes -/
abbrev tx (l : List UInt8) : Value := .string ⟨l.toArray⟩
theorem dig10 (i : Nat) (hi : i < 10) : Lib.decDigits i = [UInt8.ofNat (48 + i)] := by rw [Lib.decDigits, dif_pos hi]
theorem dig100 (i : Nat) (hi : ¬ i < 10) : Lib.decDigits i = Lib.decDigits (i / 10) ++ Lib.decDigits (i % 10) := by
  rw [Lib.decDigits, dif_neg hi, dig10 (i % 10) (by omega)]

set_option maxRecDepth 100000 in
theorem specNumber10 (i : Nat) (hi : i < 10) (w : World) :
    Calls Tryz.prog 44 #[.int .i64 i] w fun e w' => e = .returned (tx (Lib.decDigits i)) ∧ w' = w := by
  have h : i = 0 ∨ i = 1 ∨ i = 2 ∨ i = 3 ∨ i = 4 ∨ i = 5 ∨ i = 6 ∨ i = 7 ∨ i = 8 ∨ i = 9 := by omega
  rcases h with rfl | rfl | rfl | rfl | rfl | rfl | rfl | rfl | rfl | rfl
  · rw [dig10 0 (by omega)]
    show Calls Tryz.prog 44 #[.int .i64 0] _ _
    go_enter Tryz.func44, Tryz.ntmps44
    go_wp2_with fail
    go_ret
    exact ⟨rfl, rfl⟩
  · rw [dig10 1 (by omega)]
    show Calls Tryz.prog 44 #[.int .i64 1] _ _
    go_enter Tryz.func44, Tryz.ntmps44
    go_wp2_with fail
    go_ret
    exact ⟨rfl, rfl⟩
  · rw [dig10 2 (by omega)]
    show Calls Tryz.prog 44 #[.int .i64 2] _ _
    go_enter Tryz.func44, Tryz.ntmps44
    go_wp2_with fail
    go_ret
    exact ⟨rfl, rfl⟩
  · rw [dig10 3 (by omega)]
    show Calls Tryz.prog 44 #[.int .i64 3] _ _
    go_enter Tryz.func44, Tryz.ntmps44
    go_wp2_with fail
    go_ret
    exact ⟨rfl, rfl⟩
  · rw [dig10 4 (by omega)]
    show Calls Tryz.prog 44 #[.int .i64 4] _ _
    go_enter Tryz.func44, Tryz.ntmps44
    go_wp2_with fail
    go_ret
    exact ⟨rfl, rfl⟩
  · rw [dig10 5 (by omega)]
    show Calls Tryz.prog 44 #[.int .i64 5] _ _
    go_enter Tryz.func44, Tryz.ntmps44
    go_wp2_with fail
    go_ret
    exact ⟨rfl, rfl⟩
  · rw [dig10 6 (by omega)]
    show Calls Tryz.prog 44 #[.int .i64 6] _ _
    go_enter Tryz.func44, Tryz.ntmps44
    go_wp2_with fail
    go_ret
    exact ⟨rfl, rfl⟩
  · rw [dig10 7 (by omega)]
    show Calls Tryz.prog 44 #[.int .i64 7] _ _
    go_enter Tryz.func44, Tryz.ntmps44
    go_wp2_with fail
    go_ret
    exact ⟨rfl, rfl⟩
  · rw [dig10 8 (by omega)]
    show Calls Tryz.prog 44 #[.int .i64 8] _ _
    go_enter Tryz.func44, Tryz.ntmps44
    go_wp2_with fail
    go_ret
    exact ⟨rfl, rfl⟩
  · rw [dig10 9 (by omega)]
    show Calls Tryz.prog 44 #[.int .i64 9] _ _
    go_enter Tryz.func44, Tryz.ntmps44
    go_wp2_with fail
    go_ret
    exact ⟨rfl, rfl⟩

set_option maxRecDepth 100000 in
theorem specNumber (i : Nat) (hi : i < 100) (w : World) :
    Calls Tryz.prog 44 #[.int .i64 i] w fun e w' => e = .returned (tx (Lib.decDigits i)) ∧ w' = w := by
  by_cases h : i < 10
  · exact specNumber10 i h w
  · have h1 : ¬ (i : Int) < 10 := by omega
    obtain ⟨p, hp⟩ : ∃ p, p = i / 10 := ⟨_, rfl⟩
    obtain ⟨q, hq⟩ : ∃ q, q = i % 10 := ⟨_, rfl⟩
    have hp10 : p < 10 := by omega
    have hq10 : q < 10 := by omega
    have hd : Int.tdiv (i : Int) 10 = (p : Int) := by rw [hp]; rfl
    have hm : Int.tmod (i : Int) 10 = (q : Int) := by rw [hq]; rfl
    have hwp : IntKind.i64.wrap (p : Int) = (p : Int) := by rw [IntKind.wrap_i64]; omega
    have hwq : IntKind.i64.wrap (q : Int) = (q : Int) := by rw [IntKind.wrap_i64]; omega
    have HD := Lib.hid (show Lib.decDigits i = Lib.decDigits p ++ Lib.decDigits q by rw [hp, hq]; exact dig100 i h)
    have hno : ¬ 9223372036854775807 < (Lib.decDigits p).length + (Lib.decDigits q).length := by rw [dig10 p hp10, dig10 q hq10]; simp
    clear hp hq h
    go_enter Tryz.func44, Tryz.ntmps44
    go_wp2_with fail
    refine (specNumber10 p hp10 _).mono ?_
    rintro e w1 ⟨rfl, rfl⟩
    go_wp2_with fail
    refine (specNumber10 q hq10 _).mono ?_
    rintro e w1 ⟨rfl, rfl⟩
    go_wp2_with fail
    go_ret
    rw [HD.out]
    exact ⟨congrArg (fun x => Ending.returned (Value.string x)) (ByteArray.mk_append_mk _ _), rfl⟩

theorem dig_len (i : Nat) (hi : i < 100) : (Lib.decDigits i).length ≤ 2 := by
  by_cases h : i < 10
  · rw [dig10 i h]; simp
  · rw [dig100 i h, dig10 (i / 10) (by omega), dig10 (i % 10) (by omega)]; simp
/-- a number's text -/
def nb (i : Nat) : ByteArray := ⟨(Lib.decDigits i).toArray⟩
theorem nb_size (i : Nat) (hi : i < 100) : (nb i).size ≤ 2 := by
  have := dig_len i hi
  simpa [nb, ByteArray.size] using this
/-- a class's text as far as its first j sets -/
def ctT (m : Nat) (ns : List Nat) : Nat → ByteArray
  | 0 => nb m ++ ⟨#[58]⟩
  | j + 1 => (if 0 < j then ctT m ns j ++ ⟨#[44]⟩ else ctT m ns j) ++ nb (ns.getD j 0)
theorem ctT_size {m : Nat} {ns : List Nat} (hm : m < 100) (h : ∀ t ∈ ns, t < 100) : ∀ j, j ≤ ns.length → (ctT m ns j).size ≤ 3 + 3 * j
  | 0, _ => by
    have := nb_size m hm
    rw [ctT, ByteArray.size_append]
    show _ + 1 ≤ _
    omega
  | j + 1, hj => by
    have h1 := ctT_size hm h j (by omega)
    have h2 := nb_size (ns.getD j 0) (h _ (getD_of_lt (by omega)))
    rw [ctT, ByteArray.size_append]
    split
    · rw [ByteArray.size_append]
      have : (⟨#[44]⟩ : ByteArray).size = 1 := rfl
      omega
    · omega

set_option maxHeartbeats 1600000 in
set_option maxRecDepth 100000 in
theorem specClassTextIn (m : Nat) (v : Value) (ns : List Nat) (w : World) (h : Rd w v (toI ns)) (hm : m < 100) (hns : ∀ t ∈ ns, t < 100) (hl : ns.length ≤ 100) :
    Calls Tryz.prog 19 #[.agg #[.int .i64 m, v]] w fun e w' => e = .returned (.string (ctT m ns ns.length)) ∧ Below w.heap.size w w' := by
  obtain ⟨a, b, off, cap, rfl, h1, h3, h5⟩ := h
  rw [toI_length] at *
  have H1 := Lib.hid h1
  have H5 := Lib.hid h5
  have HNS := Lib.hid hns
  have HT0 := Lib.hid (show nb m ++ ⟨#[58]⟩ = ctT m ns 0 from rfl)
  have HB := Lib.hid (show Below w.heap.size w (w.alloc (Obj.cells #[.int .i64 m, .slice a ns.length cap] 47)) from (Below.refl _ _).alloc (Nat.le_refl _) _)
  have HX := Lib.hid (Bx.new (m : Int) (.slice a ns.length cap) w)
  have hs0 := nb_size m hm
  have hno0 : ¬ 9223372036854775807 < (nb m).size + 1 := by omega
  have HN := Lib.hid (show ∀ w, Calls Tryz.prog 44 #[.int .i64 m] w fun e w' => e = .returned (.string (nb m)) ∧ w' = w from specNumber m hm)
  have HCT := Lib.hid (fun j hj => ctT_size (m := m) hm hns j hj)
  clear h1 h5 hns hm
  go_enter Tryz.func19, Tryz.ntmps19
  go_wp2_with fail
  generalize w.alloc (Obj.cells #[.int .i64 m, .slice a ns.length cap] 47) = w0 at *
  generalize hH : w.heap.size = H at *
  have x0 := HX.out.out.at0
  have x1 := HX.out.out.at1
  go_wp2_with fail
  refine (HN.out _).mono ?_
  rintro e w1 ⟨rfl, rfl⟩
  generalize nb m = S at *
  go_wp2_with fail
  rw [HT0.out]
  clear HT0 hno0 hs0
  go_loop [3, 4] (fun o i => ∃ k : Nat, k ≤ ns.length ∧ i = .int .i64 k ∧ o = .string (ctT m ns k)) (fun _ i => ns.length - (intOf i).toNat)
  case atStart => exact ⟨0, Nat.zero_le _, rfl, rfl⟩
  case round =>
    obtain ⟨k, hk, rfl, rfl⟩ := hrel
    have HS := Lib.hid (show ctT m ns (k + 1) = (if 0 < k then ctT m ns k ++ ⟨#[44]⟩ else ctT m ns k) ++ nb (ns.getD k 0) from rfl)
    have hsz := HCT.out k hk
    by_cases hlt : k < ns.length
    · obtain ⟨rfl, hbl⟩ := H1.out (by omega)
      have hc := (HB.out.cell (p := ⟨b, off + k, none⟩) (by rw [← hH] at *; exact hbl)).trans (H5.out k hlt)
      rw [toI_getD] at hc
      have hx := HNS.out _ (getD_of_lt hlt)
      generalize ns.getD k 0 = x at *
      have HNx := Lib.hid (show ∀ w, Calls Tryz.prog 44 #[.int .i64 x] w fun e w' => e = .returned (.string (nb x)) ∧ w' = w from specNumber x hx)
      have hsx := nb_size x hx
      generalize nb x = Sx at *
      generalize ctT m ns k = So at *
      by_cases h0 : 0 < k
      · have HS' := Lib.hid (show ctT m ns (k + 1) = So ++ ⟨#[44]⟩ ++ Sx by rw [HS.out, if_pos h0])
        have h0I : (0 : Int) < (k : Int) := by omega
        have hno1 : ¬ 9223372036854775807 < So.size + 1 := by omega
        have hno2 : ¬ 9223372036854775807 < So.size + 1 + Sx.size := by omega
        clear HS
        go_wp2_with fail
        refine (HNx.out _).mono ?_
        rintro e w2 ⟨rfl, rfl⟩
        go_wp2_with fail
        go_round
        case rel => exact ⟨k + 1, by omega, by go_num, by rw [HS'.out]⟩
        case measure => simp [intOf]; omega
      · have HS' := Lib.hid (show ctT m ns (k + 1) = So ++ Sx by rw [HS.out, if_neg h0])
        have h0I : ¬ (0 : Int) < (k : Int) := by omega
        have hno2 : ¬ 9223372036854775807 < So.size + Sx.size := by omega
        clear HS
        go_wp2_with fail
        refine (HNx.out _).mono ?_
        rintro e w2 ⟨rfl, rfl⟩
        go_wp2_with fail
        go_round
        case rel => exact ⟨k + 1, by omega, by go_num, by rw [HS'.out]⟩
        case measure => simp [intOf]; omega
    · obtain rfl : k = ns.length := by omega
      clear HS
      go_wp2_with fail
      go_ret
      exact ⟨rfl, HB.out⟩

end Go.Proofs.YtnmilfkocheaiaaGreatDoor

namespace Go.Proofs.YtnmilfkocheaiaaGreatDoor
open Go.RowKit

theorem join_snoc (l : List (List UInt8)) (x sep : List UInt8) : Lib.join (l ++ [x]) sep = if l = [] then x else Lib.join l sep ++ sep ++ x := by
  cases l with
  | nil => rw [if_pos rfl]; exact Lib.join_one x sep
  | cons y r =>
    rw [if_neg (by simp), List.cons_append, Lib.join_cons, Lib.join_cons]
    simp [Lib.joinTail, List.append_assoc]
theorem ctT_eq (m : Nat) (ns : List Nat) : ∀ k, k ≤ ns.length → ctT m ns k = ⟨(Lib.decDigits m ++ [58] ++ Lib.join ((ns.take k).map Lib.decDigits) [44]).toArray⟩
  | 0, _ => by
    rw [ctT, nb, show (⟨#[58]⟩ : ByteArray) = ⟨([58] : List UInt8).toArray⟩ from rfl, ByteArray.mk_append_mk]
    simp [Lib.join]
  | k + 1, hk => by
    have hg : ns.take (k + 1) = ns.take k ++ [ns.getD k 0] := by
      rw [List.take_add_one, List.getElem?_eq_getElem (by omega), List.getD_eq_getElem?_getD, List.getElem?_eq_getElem (by omega)]
      rfl
    rw [ctT, ctT_eq m ns k (by omega), nb, hg, List.map_append, List.map_cons, List.map_nil, join_snoc, show (⟨#[44]⟩ : ByteArray) = ⟨([44] : List UInt8).toArray⟩ from rfl]
    by_cases h0 : 0 < k
    · rw [if_pos h0, if_neg (by intro h9; have h8 := congrArg List.length h9; rw [List.length_map, List.length_take, List.length_nil] at h8; omega), ByteArray.mk_append_mk, ByteArray.mk_append_mk]
      simp only [List.append_assoc]
    · obtain rfl : k = 0 := by omega
      rw [if_neg h0, if_pos (by simp), ByteArray.mk_append_mk]
      simp [Lib.join]
/-- the text of a class, empty if it is not valid -/
def ctB (n : Int) (zs : List Int) : ByteArray := if vldB n zs = true then ctT n.toNat (zs.map Int.toNat) zs.length else ⟨#[]⟩
theorem ctB_in {m : Nat} {ns : List Nat} (h : vldB m (toI ns) = true) : ctB m (toI ns) = ctT m ns ns.length := by
  rw [ctB, if_pos h, toI_length, toNat_toI, Int.toNat_natCast]
theorem ctB_out {n : Int} {zs : List Int} (h : vldB n zs = false) : ctB n zs = ⟨#[]⟩ := by rw [ctB, if_neg (by rw [h]; simp)]


/-- a row of strings of our own -/
def Strs (B : Nat) (w : World) (v : Value) (ss : List ByteArray) : Prop := w.ownsRow B 9 1 v ss.length (ss.map Value.string)
theorem infoStr : (Tryz.prog.info? 9).map (fun i => (i.zero, i.size, i.bytes)) = some (some (.string ⟨#[]⟩), 1, 16) := by kernel_rfl
theorem Strs.of_made {B g n : Nat} {w : World} (h : w.ownsRow B 9 1 (.slice (some ⟨g, 0, none⟩) n n) n (madeCells (Value.string ⟨#[]⟩).cells (n * 1)).toList) :
    Strs B w (.slice (some ⟨g, 0, none⟩) n n) (List.replicate n ⟨#[]⟩) := by
  unfold Strs
  rw [List.length_replicate, show (List.replicate n (⟨#[]⟩ : ByteArray)).map Value.string = (madeCells (Value.string ⟨#[]⟩).cells (n * 1)).toList from by rw [Nat.mul_one]; exact ((toList_madeCells_one (.string ⟨#[]⟩) n).trans (by simp)).symm]
  exact h
theorem Strs.store {B g n cap : Nat} {w : World} {ss : List ByteArray} (hn : n = ss.length) (h : Strs B w (.slice (some ⟨g, 0, none⟩) n cap) ss) (k : Nat) (x : ByteArray) :
    Strs B (w.setCell ⟨g, k, none⟩ (.string x)) (.slice (some ⟨g, 0, none⟩) n cap) (ss.set k x) := by
  subst hn
  have := (World.ownsRow.stored h k (.string x)).1
  unfold Strs
  rw [List.length_set, List.map_set]
  exact this
theorem Strs.cellAt {B g n cap : Nat} {w : World} {ss : List ByteArray} (h : Strs B w (.slice (some ⟨g, 0, none⟩) n cap) ss) (k : Nat) (x : ByteArray) (hk : ss[k]? = some x) :
    w.cell? ⟨g, k, none⟩ = some (.string x) ∧ w.frozen? ⟨g, k, none⟩ = false ∧ g < w.heap.size := by
  have hlt : k < ss.length := by rcases Nat.lt_or_ge k ss.length with h | h; exact h; rw [List.getElem?_eq_none h] at hk; cases hk
  rcases h.2 with ⟨e, _⟩ | ⟨g2, cap2, cur, e, h1, h2, h3, h4, h5, h6⟩
  · cases e
  · simp only [Value.slice.injEq, Option.some.injEq, Addr.mk.injEq, and_true] at e
    obtain ⟨rfl, rfl, rfl⟩ := e
    refine ⟨?_, frozen_of_row _ _ _ _ _ h2, (Array.getElem?_eq_some_iff.1 h2).1⟩
    rw [cell_of_row _ _ _ _ _ _ h2, ← Array.getElem?_toList]
    have h7 : (cur.toList.take (ss.length * 1))[k]? = some (.string x) := by rw [h6, List.getElem?_map, hk]; rfl
    rw [List.getElem?_take] at h7
    split at h7
    · exact h7
    · cases h7
theorem Strs.other {B : Nat} {w : World} {v : Value} {ss : List ByteArray} (h : Strs B w v ss) {a : Addr} (ha : a.block < B) (u : Value) : Strs B (w.setCell a u) v ss := ownsRow_setCell_below h ha u

set_option maxHeartbeats 1600000 in
set_option maxRecDepth 100000 in
theorem implClassText (n : Int) (v : Value) (zs : List Int) (w : World) (h : Rd w v zs) :
    Calls Tryz.prog 79 #[.agg #[.int .i64 n, v]] w fun e w' => e = .returned (.string (ctB n zs)) ∧ Below w.heap.size w w' := by
  have H := Lib.hid h
  obtain ⟨a, b, off, cap, rfl, h1, h3, h5⟩ := h
  obtain ⟨i0, hi, hi0, hi1, hi2⟩ := info_parts infoStr
  have Hi2 := Lib.hid hi2
  clear hi2
  have HB := Lib.hid (show Below w.heap.size w (w.alloc (Obj.cells #[.int .i64 n, .slice a zs.length cap] 47)) from (Below.refl _ _).alloc (Nat.le_refl _) _)
  have HX := Lib.hid (Bx.new n (.slice a zs.length cap) w)
  have HZ := Lib.hid (show (w.alloc (Obj.cells #[.int .i64 n, .slice a zs.length cap] 47)).heap.size = w.heap.size + 1 by simp)
  have HV := Lib.hid (fun w h => implValid n (.slice a zs.length cap) zs w h)
  have H1 := Lib.hid h1
  have H5 := Lib.hid h5
  clear h1 h5
  go_enter Tryz.func79, Tryz.ntmps79
  go_wp2_with fail
  generalize w.alloc (Obj.cells #[.int .i64 n, .slice a zs.length cap] 47) = w0 at *
  have hz0 := HZ.out
  generalize hH : w.heap.size = o at *
  have x0 := HX.out.out.at0
  have x1 := HX.out.out.at1
  go_wp2_with fail
  refine (HV.out _ (H.out.below HB.out (by omega))).mono ?_
  rintro e w1 ⟨rfl, hb1⟩
  have hz1 := hb1.size
  have X1 := Lib.hid (HX.out.next hb1 (by omega))
  have B1 := Lib.hid (HB.out.trans (hb1.mono (by omega)))
  clear hb1 HX HB x0 x1 HV
  by_cases hv : vldB n zs = true
  · obtain ⟨m, ns, rfl, rfl, hc⟩ := vldB_cls hv
    have hm := hc.pts
    have hl := hc.length
    have HT := Lib.hid (ctB_in hv)
    have HC := Lib.hid hc
    rw [hv]
    clear hv hc
    rw [toI_length] at *
    generalize hL : ns.length = L at *
    have HL := Lib.hid hL
    clear hL
    have x0 := X1.out.out.at0
    have x1 := X1.out.out.at1
    go_wp2_with (at_make; refine wpList_make_full _ rfl _ _ 22 rfl w1.heap.size 9 i0 (.string ⟨#[]⟩) 1 Tryz.underlying22 hi hi0 hi1 _ _ _ _ L rfl rfl rfl rfl (by rw [Hi2.out]; omega) (by unfold maxLen; omega) (Nat.le_refl _) ?_; intro w2 hown hgrow; have hz2 := hgrow.size; have HO := Lib.hid (Strs.of_made hown); have B2 := Lib.hid (B1.out.grown hgrow (by have := B1.out.size; omega) (fun k hk => by simp at hk)); have X2 := Lib.hid (X1.out.kept hgrow (by simp)); clear hown hgrow x0 x1; have x1 := X2.out.out.at1)
    clear hi hi0 hi1 X1 B1
    generalize hG : w1.heap.size = G at *
    have hoG : o < G := by omega
    go_loopw [16] (fun i wr => ∃ (k : Nat) (ss : List ByteArray), k ≤ L ∧ i = .int .i64 k ∧ L = ss.length ∧ Hid (∀ j, j < k → ss[j]? = some (nb (ns.getD j 0))) ∧ Strs G wr (.slice (some ⟨G, 0, none⟩) L L) ss ∧ Bx (m : Int) (.slice a L cap) o wr ∧ Below o w wr) (fun i _ => L - (intOf i).toNat)
    case atStart => exact ⟨0, _, Nat.zero_le _, rfl, by simp, Lib.hid (fun j hj => by omega), HO.out, X2.out, B2.out⟩
    case round =>
      obtain ⟨k, ss, hk, rfl, hsl, HJ, hstr, hx, hbl⟩ := hrel
      have HSL := Lib.hid hsl
      have HST := Lib.hid hstr
      have HX := Lib.hid hx
      have HBL := Lib.hid hbl
      clear hsl hstr hx hbl x1
      by_cases hlt : k < L
      · obtain ⟨rfl, hbb⟩ := H1.out (by omega)
        have hc := (HBL.out.cell (p := ⟨b, off + k, none⟩) hbb).trans (H5.out k hlt)
        rw [toI_getD] at hc
        have hx32 : ns.getD k 0 < 100 := by have := HC.out.lt _ (getD_of_lt (l := ns) (k := k) (by rw [HL.out]; exact hlt)); have := pow_le_32 hm; omega
        obtain ⟨x, hxe⟩ : ∃ x, x = ns.getD k 0 := ⟨_, rfl⟩
        have HXE := Lib.hid hxe
        rw [← hxe] at hc hx32
        clear hxe
        have HNx := Lib.hid (show ∀ w, Calls Tryz.prog 68 #[.int .i64 x] w fun e w' => e = .returned (.string (nb x)) ∧ w' = w from libItoa x hx32)
        have hcs := HST.out.cellAt k (ss.getD k ⟨#[]⟩) (by rw [List.getD_eq_getElem?_getD, List.getElem?_eq_getElem (by have := HSL.out; omega)]; rfl)
        have hs1 := hcs.1
        have hs2 := hcs.2.1
        clear hcs
        generalize ss.getD k ⟨#[]⟩ = old at hs1
        go_wp2_with fail
        refine (HNx.out _).mono ?_
        rintro e w9 ⟨rfl, rfl⟩
        generalize hSx : nb x = Sx at *
        go_wp2_with fail
        go_roundw
        case rel =>
          refine ⟨k + 1, ss.set k Sx, by omega, by go_num, by rw [List.length_set]; exact HSL.out, Lib.hid (fun j hj => ?_), HST.out.store HSL.out k Sx, HX.out.other (show o ≠ G by omega) _, HBL.out.setCell (show o ≤ G by omega) _⟩
          rw [List.getElem?_set]
          by_cases hjk : k = j
          · subst hjk
            rw [if_pos rfl, if_pos (by have := HSL.out; omega), ← HXE.out, hSx]
          · rw [if_neg hjk]
            exact HJ.out j (by omega)
        case measure => simp [intOf]; omega
      · obtain rfl : k = L := by omega
        have hss : ss = ns.map nb := by
          apply List.ext_getElem?
          intro j
          by_cases hj : j < k
          · rw [HJ.out j hj, List.getElem?_map, List.getD_eq_getElem?_getD, List.getElem?_eq_getElem (by have := HL.out; omega)]
            rfl
          · rw [List.getElem?_eq_none (by have := HSL.out; omega), List.getElem?_eq_none (by rw [List.length_map]; have := HL.out; omega)]
        have hje : (ss.map (·.data.toList)) = ns.map Lib.decDigits := by rw [hss, List.map_map]; rfl
        have HCE := ctT_eq m ns k (by have := HL.out; omega)
        rw [List.take_of_length_le (by have := HL.out; omega)] at HCE
        have hsz := ctT_size (m := m) (ns := ns) (by omega) (fun t ht => by have := HC.out.lt t ht; have := pow_le_32 hm; omega) k (by have := HL.out; omega)
        have HNm := Lib.hid (show ∀ w, Calls Tryz.prog 68 #[.int .i64 m] w fun e w' => e = .returned (.string (nb m)) ∧ w' = w from libItoa m (by omega))
        have hJL : (Lib.join (ns.map Lib.decDigits) [44]).length ≤ 1000 := by
          rw [HCE] at hsz
          have h9 : (Lib.decDigits m ++ [58] ++ Lib.join (ns.map Lib.decDigits) [44]).length ≤ 3 + 3 * k := by simpa [ByteArray.size] using hsz
          rw [List.length_append] at h9
          omega
        have hse : ([44] : List UInt8) = (⟨#[44]⟩ : ByteArray).data.toList := rfl
        have hGw : 0 < k → G < wr.heap.size := fun h => (HST.out.cellAt 0 (nb (ns.getD 0 0)) (HJ.out 0 h)).2.2
        have HJN := Lib.hid (show Calls Tryz.prog 111 #[.slice (some ⟨G, 0, none⟩) k k, .string ⟨#[44]⟩] wr fun e w' => e = .returned (.string ⟨(Lib.join (ns.map Lib.decDigits) [44]).toArray⟩) ∧ Below wr.heap.size wr w' from by
          by_cases h0 : 0 < k
          · have h8 := libJoin G 0 k ss ⟨#[44]⟩ wr (fun j x hx => by rw [Nat.zero_add]; exact (HST.out.cellAt j x hx).1) (hGw h0) (by have := HSL.out; omega) (by have := HSL.out; omega) (by rw [hje, ← hse]; omega)
            rw [hje, ← hse, ← HSL.out] at h8
            exact h8
          · obtain rfl : k = 0 := by omega
            obtain rfl : ns = [] := List.eq_nil_of_length_eq_zero HL.out
            exact (libJoin_none _ _ _ _).mono (fun e w' ⟨he, hw⟩ => ⟨he, hw ▸ Below.refl _ _⟩))
        have hs1 := nb_size m (by omega)
        have hno1 : ¬ 9223372036854775807 < (nb m).size + 1 := by omega
        have HFIN := Lib.hid (show nb m ++ ⟨#[58]⟩ ++ ⟨(Lib.join (ns.map Lib.decDigits) [44]).toArray⟩ = ctT m ns k by rw [HCE, nb, show (⟨#[58]⟩ : ByteArray) = ⟨([58] : List UInt8).toArray⟩ from rfl, ByteArray.mk_append_mk, ByteArray.mk_append_mk])
        generalize hJJ : Lib.join (ns.map Lib.decDigits) [44] = J at *
        generalize nb m = Sm at *
        have hno2 : ¬ 9223372036854775807 < Sm.size + 1 + J.length := by omega
        clear hss hje HCE hsz hse hJJ HJ
        have x0 := HX.out.out.at0
        go_wp2_with fail
        refine (HNm.out _).mono ?_
        rintro e w9 ⟨rfl, rfl⟩
        go_wp2_with fail
        refine HJN.out.mono ?_
        rintro e w9 ⟨rfl, hb9⟩
        have hbz := HBL.out.size
        have B9 := Lib.hid (HBL.out.trans (hb9.mono (by omega)))
        clear hb9
        go_wp2_with fail
        go_ret
        rw [HT.out]
        exact ⟨congrArg (fun x => Ending.returned (Value.string x)) HFIN.out, by rw [hH]; exact B9.out⟩
  · rw [Bool.not_eq_true] at hv
    have HT := Lib.hid (ctB_out hv)
    rw [hv]
    clear hv
    go_wp2_with fail
    go_ret
    rw [HT.out]
    exact ⟨rfl, by rw [hH]; exact B1.out⟩

end Go.Proofs.YtnmilfkocheaiaaGreatDoor

namespace Go.Proofs.YtnmilfkocheaiaaGreatDoor
open Go.RowKit

theorem dig_len6 : ∀ (d i : Nat), i < 10 ^ (d + 1) → (Lib.decDigits i).length ≤ d + 1
  | 0, i, h => by rw [dig10 i (by simpa using h)]; simp
  | d + 1, i, h => by
    by_cases h1 : i < 10
    · rw [dig10 i h1]; simp
    · have h2 := dig_len6 d (i / 10) (by rw [Nat.div_lt_iff_lt_mul (by omega)]; rw [Nat.pow_succ] at h; omega)
      rw [dig100 i h1, List.length_append, dig10 (i % 10) (by omega)]
      simp only [List.length_cons, List.length_nil]
      omega

set_option maxRecDepth 100000 in
theorem specNumberAll : ∀ (d i : Nat), d ≤ 6 → i < 10 ^ (d + 1) → ∀ (w : World),
    Calls Tryz.prog 44 #[.int .i64 i] w fun e w' => e = .returned (tx (Lib.decDigits i)) ∧ w' = w
  | 0, i, _, h, w => specNumber10 i (by simpa using h) w
  | d + 1, i, hd6, h, w => by
    by_cases h0 : i < 10
    · exact specNumber10 i h0 w
    · have h1 : ¬ (i : Int) < 10 := by omega
      have h10 : i < 10 ^ 8 := Nat.lt_of_lt_of_le h (Nat.pow_le_pow_right (by omega) (by omega))
      have h8 : (10 : Nat) ^ 8 = 100000000 := rfl
      obtain ⟨p, hp⟩ : ∃ p, p = i / 10 := ⟨_, rfl⟩
      obtain ⟨q, hq⟩ : ∃ q, q = i % 10 := ⟨_, rfl⟩
      have hp10 : p < 10 ^ (d + 1) := by rw [hp, Nat.div_lt_iff_lt_mul (by omega)]; rw [Nat.pow_succ] at h; omega
      have hq10 : q < 10 := by omega
      have hd : Int.tdiv (i : Int) 10 = (p : Int) := by rw [hp]; rfl
      have hm : Int.tmod (i : Int) 10 = (q : Int) := by rw [hq]; rfl
      have hwp : IntKind.i64.wrap (p : Int) = (p : Int) := by rw [IntKind.wrap_i64]; omega
      have hwq : IntKind.i64.wrap (q : Int) = (q : Int) := by rw [IntKind.wrap_i64]; omega
      have HD := Lib.hid (show Lib.decDigits i = Lib.decDigits p ++ Lib.decDigits q by rw [hp, hq]; exact dig100 i h0)
      have hlp := dig_len6 d p hp10
      have hno : ¬ 9223372036854775807 < (Lib.decDigits p).length + (Lib.decDigits q).length := by rw [dig10 q hq10]; simp; omega
      have HP := Lib.hid (specNumberAll d p (by omega) hp10)
      clear hp hq h0 h h10 h8 hp10 hlp
      go_enter Tryz.func44, Tryz.ntmps44
      go_wp2_with fail
      refine (HP.out _).mono ?_
      rintro e w1 ⟨rfl, rfl⟩
      go_wp2_with fail
      refine (specNumber10 q hq10 _).mono ?_
      rintro e w1 ⟨rfl, rfl⟩
      go_wp2_with fail
      go_ret
      rw [HD.out]
      exact ⟨congrArg (fun x => Ending.returned (Value.string x)) (ByteArray.mk_append_mk _ _), rfl⟩

/-- the loop of readNumber over the first k bytes: the number, none where it gives up -/
def rdTo (l : List UInt8) : Nat → Option Nat
  | 0 => some 0
  | k + 1 => match rdTo l k with
    | none => none
    | some n => if (l.getD k 0).toNat < 48 ∨ 57 < (l.getD k 0).toNat ∨ 1000 < n then none else some (10 * n + ((l.getD k 0).toNat - 48))
theorem rdTo_le (l : List UInt8) : ∀ k n, rdTo l k = some n → n ≤ 10009
  | 0, n, h => by simp [rdTo] at h; omega
  | k + 1, n, h => by
    rw [rdTo] at h
    split at h
    · cases h
    · split at h
      · cases h
      · simp only [Option.some.injEq] at h; omega
theorem rdTo_none (l : List UInt8) {k : Nat} (h : rdTo l k = none) : ∀ j, rdTo l (k + j) = none
  | 0 => h
  | j + 1 => by rw [← Nat.add_assoc, rdTo, rdTo_none l h j]
/-- what readNumber answers -/
def rdN (s : ByteArray) : Int := match rdTo s.data.toList s.size with
  | none => -1
  | some n => if s = ⟨#[]⟩ ∨ ¬ nb n = s then -1 else n

set_option maxHeartbeats 1600000 in
set_option maxRecDepth 100000 in
theorem specReadNumber (s : ByteArray) (hs : s.size ≤ 1048576) (w : World) :
    Calls Tryz.prog 46 #[.string s] w fun e w' => e = .returned (.int .i64 (rdN s)) ∧ w' = w := by
  have HL := Lib.hid (rdTo_le s.data.toList)
  go_enter Tryz.func46, Tryz.ntmps46
  go_wp2_with fail
  go_loop [3, 4] (fun n i => ∃ k m : Nat, k ≤ s.size ∧ i = .int .i64 k ∧ rdTo s.data.toList k = some m ∧ n = .int .i64 m) (fun _ i => s.size - (intOf i).toNat)
  case atStart => exact ⟨0, 0, Nat.zero_le _, rfl, rfl, rfl⟩
  case round =>
    obtain ⟨k, m, hk, rfl, hm, rfl⟩ := hrel
    have HM := Lib.hid hm
    have hm9 := HL.out k m hm
    clear hm
    by_cases hlt : k < s.size
    · have hki : (k : Int) < (s.size : Int) := by omega
      have HB := Lib.hid (show s.data.toList.getD k 0 = s[k] from by
        rw [List.getD_eq_getElem?_getD, List.getElem?_eq_getElem (by rw [Array.length_toList]; exact hlt)]
        rfl)
      have HR := Lib.hid (show rdTo s.data.toList (k + 1) = if s[k].toNat < 48 ∨ 57 < s[k].toNat ∨ 1000 < m then none else some (10 * m + (s[k].toNat - 48)) by rw [rdTo, HM.out, HB.out])
      have HNO := Lib.hid (fun (h : rdTo s.data.toList (k + 1) = none) => show rdN s = -1 by
        have h2 := rdTo_none _ h (s.size - (k + 1))
        rw [show k + 1 + (s.size - (k + 1)) = s.size by omega] at h2
        rw [rdN, h2])
      by_cases h1 : s[k].toNat < 48
      · have h1I : (s[k].toNat : Int) < 48 := by omega
        have HF := Lib.hid (HNO.out (by rw [HR.out, if_pos (Or.inl h1)]))
        clear HR HNO
        go_wp2_with fail
        go_ret
        rw [HF.out]
        exact ⟨rfl, rfl⟩
      · have h1I : ¬ (s[k].toNat : Int) < 48 := by omega
        by_cases h2 : 57 < s[k].toNat
        · have h2I : (57 : Int) < (s[k].toNat : Int) := by omega
          have HF := Lib.hid (HNO.out (by rw [HR.out, if_pos (Or.inr (Or.inl h2))]))
          clear HR HNO
          go_wp2_with fail
          go_ret
          rw [HF.out]
          exact ⟨rfl, rfl⟩
        · have h2I : ¬ (57 : Int) < (s[k].toNat : Int) := by omega
          by_cases h3 : 1000 < m
          · have h3I : (1000 : Int) < (m : Int) := by omega
            have HF := Lib.hid (HNO.out (by rw [HR.out, if_pos (Or.inr (Or.inr h3))]))
            clear HR HNO
            go_wp2_with fail
            go_ret
            rw [HF.out]
            exact ⟨rfl, rfl⟩
          · have h3I : ¬ (1000 : Int) < (m : Int) := by omega
            have HF := Lib.hid (show rdTo s.data.toList (k + 1) = some (10 * m + (s[k].toNat - 48)) by rw [HR.out, if_neg (by omega)])
            clear HR HNO
            go_wp2_with fail
            go_round
            case rel => exact ⟨k + 1, _, by omega, by go_num, HF.out, by congr 1; omega⟩
            case measure => simp [intOf]; omega
    · obtain rfl : k = s.size := by omega
      have hRD : rdN s = if s = ⟨#[]⟩ ∨ ¬ nb m = s then -1 else (m : Int) := by rw [rdN, HM.out]
      have HNx := Lib.hid (show ∀ w, Calls Tryz.prog 44 #[.int .i64 m] w fun e w' => e = .returned (.string (nb m)) ∧ w' = w from specNumberAll 5 m (by omega) (by have : (10 : Nat) ^ (5 + 1) = 1000000 := rfl; omega))
      by_cases he : s = ⟨#[]⟩
      · have HF := Lib.hid (show rdN s = -1 by rw [hRD, if_pos (Or.inl he)])
        have hd : s.toList.isEmpty = true := (decide_eq_emptyBytes s).symm.trans (decide_eq_true (show s = ByteArray.empty from he))
        clear hRD he
        go_wp2_with fail
        go_ret
        rw [HF.out]
        exact ⟨rfl, rfl⟩
      · have hd : s.toList.isEmpty = false := (decide_eq_emptyBytes s).symm.trans (decide_eq_false (show ¬ s = ByteArray.empty from he))
        by_cases hn : nb m = s
        · have HF := Lib.hid (show rdN s = m by rw [hRD, if_neg (by rintro (h | h); exact he h; exact h hn)])
          have hq : ((nb m).toList == s.toList) = true := by rw [hn]; exact beq_self_eq_true _
          clear hRD he hn
          go_wp2_with fail
          refine (HNx.out _).mono ?_
          rintro e w1 ⟨rfl, rfl⟩
          go_wp2_with fail
          go_ret
          rw [HF.out]
          exact ⟨rfl, rfl⟩
        · have HF := Lib.hid (show rdN s = -1 by rw [hRD, if_pos (Or.inr hn)])
          have hq : ((nb m).toList == s.toList) = false := beq_eq_false_iff_ne.2 (fun h => hn (by rw [ByteArray.toList_eq, ByteArray.toList_eq] at h; exact ByteArray.ext (Array.toList_inj.1 h)))
          clear hRD he hn
          go_wp2_with fail
          refine (HNx.out _).mono ?_
          rintro e w1 ⟨rfl, rfl⟩
          go_wp2_with fail
          go_ret
          rw [HF.out]
          exact ⟨rfl, rfl⟩

end Go.Proofs.YtnmilfkocheaiaaGreatDoor

namespace Go.Proofs.YtnmilfkocheaiaaGreatDoor
open Go.RowKit

/-- where the part at hand begins, after k bytes -/
def spF (s : ByteArray) (c : Nat) : Nat → Nat
  | 0 => 0
  | k + 1 => if (s.data.toList.getD k 0).toNat = c then k + 1 else spF s c k
/-- the parts that are whole after k bytes -/
def spP (s : ByteArray) (c : Nat) : Nat → List ByteArray
  | 0 => []
  | k + 1 => if (s.data.toList.getD k 0).toNat = c then spP s c k ++ [s.extract (spF s c k) k] else spP s c k
theorem spF_le (s : ByteArray) (c : Nat) : ∀ k, spF s c k ≤ k
  | 0 => Nat.le_refl _
  | k + 1 => by rw [spF]; split; exact Nat.le_refl _; exact Nat.le_succ_of_le (spF_le s c k)
theorem spP_len (s : ByteArray) (c : Nat) : ∀ k, (spP s c k).length ≤ k
  | 0 => Nat.le_refl _
  | k + 1 => by
    rw [spP]
    split
    · rw [List.length_append]; have := spP_len s c k; simp; omega
    · exact Nat.le_succ_of_le (spP_len s c k)
def spL (s : ByteArray) (c : Nat) : List ByteArray := spP s c s.size ++ [s.extract (spF s c s.size) s.size]

theorem run_str_lh (w : World) (s : ByteArray) (l h : Nat) (h1 : l ≤ h) (h2 : h ≤ s.size) : (Instr.slice 9 (.string s) (some (.int .i64 (l : Int))) (some (.int .i64 (h : Int))) none).run Tryz.prog w = .ok (.string (s.extract l h)) w := by
  simp [Instr.slice, run_underlying Tryz.underlying9, Instr.sliceBounds, run_sliceBound, (by omega : (0 : Int) ≤ (l : Int)), (by omega : (0 : Int) ≤ (h : Int)), (by omega : (l : Int) ≤ (h : Int)), (by omega : (h : Int) ≤ (s.size : Int))]

theorem Strs.alloc {B : Nat} {w : World} {v : Value} {ss : List ByteArray} (h : Strs B w v ss) (o : Obj) : Strs B (w.alloc o) v ss := World.ownsRow.alloc h o
theorem Strs.lit (B : Nat) (w : World) (hB : B ≤ w.heap.size) : Strs B (w.alloc (.cells #[] 9)) (.slice (some ⟨w.heap.size, 0, none⟩) 0 0) [] := World.ownsRow_lit w #[] 0 hB (by unfold maxLen; omega) rfl

theorem Strs.own {B k : Nat} {w : World} {v : Value} {ss : List ByteArray} (h : Strs B w v ss) (hk : v.ownBlock = some k) : B ≤ k := by
  rcases h.2 with ⟨rfl, _⟩ | ⟨g, cap, cur, rfl, hb, _⟩
  · simp [Value.ownBlock] at hk
  · simp [Value.ownBlock] at hk
    omega
theorem Strs.snoc {B : Nat} {w : World} {v : Value} {ss : List ByteArray} {x : ByteArray} (h : w.ownsRow B 9 1 v (ss.length + 1) (ss.map Value.string ++ [.string x])) : ∃ a c, v = .slice a (ss ++ [x]).length c ∧ Strs B w (.slice a (ss ++ [x]).length c) (ss ++ [x]) := by
  have h1 : Strs B w v (ss ++ [x]) := by
    unfold Strs
    rw [List.length_append, List.map_append]
    exact h
  rcases h.2 with ⟨_, e⟩ | ⟨g, cap, cur, e, _⟩
  · omega
  · refine ⟨some ⟨g, 0, none⟩, cap, by rw [List.length_append]; exact e, ?_⟩
    have h2 : v = .slice (some ⟨g, 0, none⟩) (ss ++ [x]).length cap := by rw [List.length_append]; exact e
    rwa [h2] at h1

set_option maxHeartbeats 1600000 in
set_option maxRecDepth 100000 in
theorem specSplitAt (s : ByteArray) (c : Nat) (hs : s.size ≤ 1048576) (w : World) :
    Calls Tryz.prog 23 #[.string s, .int .u8 c] w fun e w' => ∃ a cap, e = .returned (.slice a (spL s c).length cap) ∧ Strs w.heap.size w' (.slice a (spL s c).length cap) (spL s c) ∧ Below w.heap.size w w' := by
  obtain ⟨i0, hi, hi0, hi1, hi2⟩ := info_parts infoStr
  have H0 := Lib.hid (Strs.lit w.heap.size w (Nat.le_refl _))
  have B0 := Lib.hid (show Below w.heap.size w (w.alloc (.cells #[] 9)) from (Below.refl _ _).alloc (Nat.le_refl _) _)
  go_enter Tryz.func23, Tryz.ntmps23
  go_wp2_with fail
  go_loopw [5, 6, 7] (fun o f i wr => ∃ (k : Nat) (a' : Option Addr) (c' : Nat), k ≤ s.size ∧ i = .int .i64 k ∧ f = .int .i64 (spF s c k) ∧ o = .slice a' (spP s c k).length c' ∧ Strs w.heap.size wr (.slice a' (spP s c k).length c') (spP s c k) ∧ Below w.heap.size w wr) (fun _ _ i _ => s.size - (intOf i).toNat)
  case atStart => exact ⟨0, _, _, Nat.zero_le _, rfl, rfl, rfl, H0.out, B0.out⟩
  case round =>
    obtain ⟨k, a', c', hk, rfl, rfl, rfl, hst, hbl⟩ := hrel
    have HST := Lib.hid hst
    have HBL := Lib.hid hbl
    have hfk := spF_le s c k
    have hpk := spP_len s c k
    have hwz := hbl.size
    clear hst hbl
    by_cases hlt : k < s.size
    · have hki : (k : Int) < (s.size : Int) := by omega
      have HB := Lib.hid (show s.data.toList.getD k 0 = s[k] from by
        rw [List.getD_eq_getElem?_getD, List.getElem?_eq_getElem (by rw [Array.length_toList]; exact hlt)]
        rfl)
      have HF := Lib.hid (show spF s c (k + 1) = if s[k].toNat = c then k + 1 else spF s c k by rw [spF, HB.out])
      have HP := Lib.hid (show spP s c (k + 1) = if s[k].toNat = c then spP s c k ++ [s.extract (spF s c k) k] else spP s c k by rw [spP, HB.out])
      obtain ⟨f, hf⟩ : ∃ f, f = spF s c k := ⟨_, rfl⟩
      rw [← hf] at HF HP hfk ⊢
      clear hf
      obtain ⟨ps, hps⟩ : ∃ ps, ps = spP s c k := ⟨_, rfl⟩
      rw [← hps] at HP HST hpk ⊢
      clear hps
      have hsl := fun w => run_str_lh w s f k hfk hk
      by_cases hc : s[k].toNat = c
      · have HF1 := Lib.hid (show spF s c (k + 1) = k + 1 by rw [HF.out, if_pos hc])
        have HP1 := Lib.hid (show spP s c (k + 1) = ps ++ [s.extract f k] by rw [HP.out, if_pos hc])
        have hcd : ((s[k].toNat : Int) == (c : Int)) = true := by simp [hc]
        clear HF HP hc
        generalize s.extract f k = x at *
        go_wp2_with (at_builtin; refine wpList_append_own _ rfl (.tmp 20) (.tmp 25) 22 rfl w.heap.size 9 i0 (.string ⟨#[]⟩) 1 16 Tryz.underlying22 hi hi0 hi1 hi2 rfl (by decide) _ _ _ rfl (World.ownsRow.alloc HST.out _) ⟨wr.heap.size, 0, none⟩ 1 1 [.string x] rfl rfl (cell_one_new _ _ _) (by simp [Value.oneCell']) (by unfold maxLen; omega) (by omega) (by first | omega | (simp; omega)) ?_; intro v' w1 hown' hgrow _)
        obtain ⟨a2, c2, rfl, hS2⟩ := Strs.snoc hown'
        have hB2 : Below w.heap.size w w1 := (HBL.out.alloc hwz _).grown hgrow (by simp; omega) (fun j hj => HST.out.own hj)
        go_roundw
        case rel => exact ⟨k + 1, a2, c2, by omega, by go_num, by rw [HF1.out]; go_num, by rw [HP1.out], by rw [HP1.out]; exact hS2, hB2⟩
        case measure => simp [intOf]; omega
      · have HF1 := Lib.hid (show spF s c (k + 1) = f by rw [HF.out, if_neg hc])
        have HP1 := Lib.hid (show spP s c (k + 1) = ps by rw [HP.out, if_neg hc])
        have hcd : ((s[k].toNat : Int) == (c : Int)) = false := beq_eq_false_iff_ne.2 (by omega)
        clear HF HP hc
        go_wp2_with fail
        go_roundw
        case rel => exact ⟨k + 1, a', c', by omega, by go_num, by rw [HF1.out], by rw [HP1.out], by rw [HP1.out]; exact HST.out, HBL.out⟩
        case measure => simp [intOf]; omega
    · obtain rfl : k = s.size := by omega
      have HE := Lib.hid (show spL s c = spP s c s.size ++ [s.extract (spF s c s.size) s.size] from rfl)
      obtain ⟨f, hf⟩ : ∃ f, f = spF s c s.size := ⟨_, rfl⟩
      rw [← hf] at HE hfk ⊢
      clear hf
      obtain ⟨ps, hps⟩ : ∃ ps, ps = spP s c s.size := ⟨_, rfl⟩
      rw [← hps] at HE HST hpk ⊢
      clear hps
      have hf1 : (f : Int) ≤ (s.size : Int) := by omega
      go_wp2_with (at_builtin; refine wpList_append_own _ rfl (.tmp 29) (.tmp 33) 22 rfl w.heap.size 9 i0 (.string ⟨#[]⟩) 1 16 Tryz.underlying22 hi hi0 hi1 hi2 rfl (by decide) _ _ _ rfl (World.ownsRow.alloc HST.out _) ⟨wr.heap.size, 0, none⟩ 1 1 [.string (s.extract f s.size)] rfl rfl (cell_one_new _ _ _) (by simp [Value.oneCell']) (by unfold maxLen; omega) (by omega) (by first | omega | (simp; omega)) ?_; intro v' w1 hown' hgrow _)
      obtain ⟨a2, c2, rfl, hS2⟩ := Strs.snoc hown'
      have hB2 : Below w.heap.size w w1 := (HBL.out.alloc hwz _).grown hgrow (by simp; omega) (fun j hj => HST.out.own hj)
      go_wp2_with fail
      go_ret
      rw [HE.out]
      exact ⟨a2, c2, rfl, hS2, hB2⟩

end Go.Proofs.YtnmilfkocheaiaaGreatDoor

namespace Go.Proofs.YtnmilfkocheaiaaGreatDoor
open Go.Shelf Go.RowKit

def shAtoi_ren : Go.Shelf.Ren := ⟨fun | 172 => 119 | 244 => 140 | 245 => 141 | 247 => 162 | 279 => 163 | 280 => 164 | 281 => 165 | 282 => 166 | 287 => 178 | 316 => 179 | 171 => 68 | 205 => 180 | 321 => 184 | 322 => 185 | 243 => 98 | 246 => 121 | 283 => 144 | 284 => 145 | 285 => 146 | 286 => 147 | 129 => 171 | 317 => 170 | 318 => 172 | 319 => 173 | 320 => 174 | 337 => 182 | 338 => 183 | n => n, fun | 9 => 9 | 3 => 3 | 75 => 37 | 76 => 38 | 4 => 4 | 5 => 5 | 167 => 163 | 37 => 28 | 0 => 0 | 85 => 164 | 2 => 2 | 168 => 166 | 53 => 147 | 175 => 176 | 46 => 131 | 210 => 179 | 127 => 66 | 145 => 185 | 143 => 183 | 21 => 21 | 171 => 146 | 173 => 150 | 212 => 172 | 51 => 115 | 20 => 20 | 213 => 173 | 232 => 190 | 233 => 191 | 80 => 40 | n => n, fun | 15 => 6 | 16 => 7 | 17 => 4 | 18 => 10 | 19 => 11 | n => n⟩
theorem shAtoi : Go.Proofs.LaysC.n172 Tryz.prog shAtoi_ren := {
  mixed := by kernel_rfl,
  f129 := Tryz.func171.trans (congrArg some (by kernel_rfl)),
  f171 := Tryz.func68.trans (congrArg some (by kernel_rfl)),
  f172 := Tryz.func119.trans (congrArg some (by kernel_rfl)),
  f205 := Tryz.func180.trans (congrArg some (by kernel_rfl)),
  f243 := Tryz.func98.trans (congrArg some (by kernel_rfl)),
  f244 := Tryz.func140.trans (congrArg some (by kernel_rfl)),
  f245 := Tryz.func141.trans (congrArg some (by kernel_rfl)),
  f246 := Tryz.func121.trans (congrArg some (by kernel_rfl)),
  f247 := Tryz.func162.trans (congrArg some (by kernel_rfl)),
  f279 := Tryz.func163.trans (congrArg some (by kernel_rfl)),
  f280 := Tryz.func164.trans (congrArg some (by kernel_rfl)),
  f281 := Tryz.func165.trans (congrArg some (by kernel_rfl)),
  f282 := Tryz.func166.trans (congrArg some (by kernel_rfl)),
  f283 := Tryz.func144.trans (congrArg some (by kernel_rfl)),
  f284 := Tryz.func145.trans (congrArg some (by kernel_rfl)),
  f285 := Tryz.func146.trans (congrArg some (by kernel_rfl)),
  f286 := Tryz.func147.trans (congrArg some (by kernel_rfl)),
  f287 := Tryz.func178.trans (congrArg some (by kernel_rfl)),
  f316 := Tryz.func179.trans (congrArg some (by kernel_rfl)),
  f317 := Tryz.func170.trans (congrArg some (by kernel_rfl)),
  f318 := Tryz.func172.trans (congrArg some (by kernel_rfl)),
  f319 := Tryz.func173.trans (congrArg some (by kernel_rfl)),
  f320 := Tryz.func174.trans (congrArg some (by kernel_rfl)),
  f321 := Tryz.func184.trans (congrArg some (by kernel_rfl)),
  f322 := Tryz.func185.trans (congrArg some (by kernel_rfl)),
  f337 := Tryz.func182.trans (congrArg some (by kernel_rfl)),
  f338 := Tryz.func183.trans (congrArg some (by kernel_rfl)),
  t0 := Tryz.underlying0,
  a0 := Tryz.isAgg0,
  z0 := Tryz.sizeOf0,
  v0 := Tryz.zeroValue0,
  t2 := Tryz.underlying2,
  a2 := Tryz.isAgg2,
  z2 := Tryz.sizeOf2,
  v2 := Tryz.zeroValue2,
  t3 := Tryz.underlying3,
  a3 := Tryz.isAgg3,
  z3 := Tryz.sizeOf3,
  v3 := Tryz.zeroValue3,
  t4 := Tryz.underlying4,
  a4 := Tryz.isAgg4,
  z4 := Tryz.sizeOf4,
  v4 := Tryz.zeroValue4,
  t5 := Tryz.underlying5,
  a5 := Tryz.isAgg5,
  z5 := Tryz.sizeOf5,
  v5 := Tryz.zeroValue5,
  t9 := Tryz.underlying9,
  a9 := Tryz.isAgg9,
  z9 := Tryz.sizeOf9,
  v9 := Tryz.zeroValue9,
  t20 := Tryz.underlying20,
  a20 := Tryz.isAgg20,
  z20 := Tryz.sizeOf20,
  v20 := Tryz.zeroValue20,
  t21 := Tryz.underlying21,
  a21 := Tryz.isAgg21,
  z21 := Tryz.sizeOf21,
  v21 := Tryz.zeroValue21,
  t37 := Tryz.underlying28,
  a37 := Tryz.isAgg28,
  z37 := Tryz.sizeOf28,
  v37 := Tryz.zeroValue28,
  t46 := Tryz.underlying131,
  a46 := Tryz.isAgg131,
  z46 := Tryz.sizeOf131,
  v46 := Tryz.zeroValue131,
  t51 := Tryz.underlying115,
  a51 := Tryz.isAgg115,
  z51 := Tryz.sizeOf115,
  v51 := Tryz.zeroValue115,
  t53 := Tryz.underlying147,
  a53 := Tryz.isAgg147,
  z53 := Tryz.sizeOf147,
  v53 := Tryz.zeroValue147,
  t75 := Tryz.underlying37,
  a75 := Tryz.isAgg37,
  z75 := Tryz.sizeOf37,
  v75 := Tryz.zeroValue37,
  t76 := Tryz.underlying38,
  a76 := Tryz.isAgg38,
  z76 := Tryz.sizeOf38,
  v76 := Tryz.zeroValue38,
  t85 := Tryz.underlying164,
  a85 := Tryz.isAgg164,
  z85 := Tryz.sizeOf164,
  v85 := Tryz.zeroValue164,
  t127 := Tryz.underlying66,
  a127 := Tryz.isAgg66,
  z127 := Tryz.sizeOf66,
  v127 := Tryz.zeroValue66,
  t143 := Tryz.underlying183,
  a143 := Tryz.isAgg183,
  z143 := Tryz.sizeOf183,
  v143 := Tryz.zeroValue183,
  t145 := Tryz.underlying185,
  a145 := Tryz.isAgg185,
  z145 := Tryz.sizeOf185,
  v145 := Tryz.zeroValue185,
  t167 := Tryz.underlying163,
  a167 := Tryz.isAgg163,
  z167 := Tryz.sizeOf163,
  v167 := Tryz.zeroValue163,
  t168 := Tryz.underlying166,
  a168 := Tryz.isAgg166,
  z168 := Tryz.sizeOf166,
  v168 := Tryz.zeroValue166,
  t171 := Tryz.underlying146,
  a171 := Tryz.isAgg146,
  z171 := Tryz.sizeOf146,
  v171 := Tryz.zeroValue146,
  t173 := Tryz.underlying150,
  a173 := Tryz.isAgg150,
  z173 := Tryz.sizeOf150,
  v173 := Tryz.zeroValue150,
  t175 := Tryz.underlying176,
  a175 := Tryz.isAgg176,
  z175 := Tryz.sizeOf176,
  v175 := Tryz.zeroValue176,
  t210 := Tryz.underlying179,
  a210 := Tryz.isAgg179,
  z210 := Tryz.sizeOf179,
  v210 := Tryz.zeroValue179,
  t212 := Tryz.underlying172,
  a212 := Tryz.isAgg172,
  z212 := Tryz.sizeOf172,
  v212 := Tryz.zeroValue172,
  t213 := Tryz.underlying173,
  a213 := Tryz.isAgg173,
  z213 := Tryz.sizeOf173,
  t232 := Tryz.underlying190,
  a232 := Tryz.isAgg190,
  z232 := Tryz.sizeOf190,
  v232 := Tryz.zeroValue190,
  t233 := Tryz.underlying191,
  a233 := Tryz.isAgg191,
  z233 := Tryz.sizeOf191,
  v233 := Tryz.zeroValue191,
  g15 := by kernel_rfl,
  g16 := by kernel_rfl,
  g17 := by kernel_rfl,
  g18 := by kernel_rfl,
  g19 := by kernel_rfl,
  t80 := Tryz.underlying40,
  a80 := Tryz.isAgg40,
  z80 := Tryz.sizeOf40,
  v80 := Tryz.zeroValue40,
  i0 := by kernel_rfl,
  i2 := by kernel_rfl,
  i3 := by kernel_rfl,
  i4 := by kernel_rfl,
  i5 := by kernel_rfl,
  i9 := by kernel_rfl,
  i20 := by kernel_rfl,
  i21 := by kernel_rfl,
  i37 := by kernel_rfl,
  i46 := by kernel_rfl,
  i51 := by kernel_rfl,
  i53 := by kernel_rfl,
  i75 := by kernel_rfl,
  i76 := by kernel_rfl,
  i80 := by kernel_rfl,
  i85 := by kernel_rfl,
  i127 := by kernel_rfl,
  i143 := by kernel_rfl,
  i145 := by kernel_rfl,
  i167 := by kernel_rfl,
  i168 := by kernel_rfl,
  i171 := by kernel_rfl,
  i173 := by kernel_rfl,
  i175 := by kernel_rfl,
  i210 := by kernel_rfl,
  i212 := by kernel_rfl,
  i232 := by kernel_rfl,
  i233 := by kernel_rfl,
  m15 := by kernel_rfl,
  m16 := by kernel_rfl,
  m17 := by kernel_rfl,
  m18 := by kernel_rfl,
  m19 := by kernel_rfl,
  c0 := by kernel_rfl,
  c2 := by kernel_rfl,
  c3 := by kernel_rfl,
  c4 := by kernel_rfl,
  c5 := by kernel_rfl,
  c9 := by kernel_rfl,
  c20 := by kernel_rfl,
  c21 := by kernel_rfl,
  c37 := by kernel_rfl,
  c46 := by kernel_rfl,
  c51 := by kernel_rfl,
  c53 := by kernel_rfl,
  c75 := by kernel_rfl,
  c76 := by kernel_rfl,
  c80 := by kernel_rfl,
  c85 := by kernel_rfl,
  c127 := by kernel_rfl,
  c143 := by kernel_rfl,
  c145 := by kernel_rfl,
  c167 := by kernel_rfl,
  c168 := by kernel_rfl,
  c171 := by kernel_rfl,
  c173 := by kernel_rfl,
  c175 := by kernel_rfl,
  c210 := by kernel_rfl,
  c212 := by kernel_rfl,
  c213 := by kernel_rfl,
  c232 := by kernel_rfl,
  c233 := by kernel_rfl }
def shCut_ren : Go.Shelf.Ren := ⟨fun | 145 => 62 | 220 => 93 | 219 => 118 | 217 => 136 | 225 => 137 | 224 => 138 | 267 => 139 | 266 => 160 | 314 => 161 | n => n, fun | 9 => 9 | 4 => 4 | 59 => 83 | 3 => 3 | 5 => 5 | 46 => 131 | 146 => 161 | 51 => 115 | n => n, fun | 1 => 3 | n => n⟩
theorem shCut : Go.Proofs.LaysM.n145 Tryz.prog shCut_ren := {
  mixed := by kernel_rfl,
  f145 := Tryz.func62.trans (congrArg some (by kernel_rfl)),
  f217 := Tryz.func136.trans (congrArg some (by kernel_rfl)),
  f219 := Tryz.func118.trans (congrArg some (by kernel_rfl)),
  f220 := Tryz.func93.trans (congrArg some (by kernel_rfl)),
  f224 := Tryz.func138.trans (congrArg some (by kernel_rfl)),
  f225 := Tryz.func137.trans (congrArg some (by kernel_rfl)),
  f266 := Tryz.func160.trans (congrArg some (by kernel_rfl)),
  f267 := Tryz.func139.trans (congrArg some (by kernel_rfl)),
  f314 := Tryz.func161.trans (congrArg some (by kernel_rfl)),
  t3 := Tryz.underlying3,
  a3 := Tryz.isAgg3,
  z3 := Tryz.sizeOf3,
  v3 := Tryz.zeroValue3,
  t4 := Tryz.underlying4,
  a4 := Tryz.isAgg4,
  z4 := Tryz.sizeOf4,
  v4 := Tryz.zeroValue4,
  t5 := Tryz.underlying5,
  a5 := Tryz.isAgg5,
  z5 := Tryz.sizeOf5,
  v5 := Tryz.zeroValue5,
  t9 := Tryz.underlying9,
  a9 := Tryz.isAgg9,
  z9 := Tryz.sizeOf9,
  v9 := Tryz.zeroValue9,
  t46 := Tryz.underlying131,
  a46 := Tryz.isAgg131,
  z46 := Tryz.sizeOf131,
  v46 := Tryz.zeroValue131,
  t51 := Tryz.underlying115,
  a51 := Tryz.isAgg115,
  z51 := Tryz.sizeOf115,
  v51 := Tryz.zeroValue115,
  t59 := Tryz.underlying83,
  a59 := Tryz.isAgg83,
  z59 := Tryz.sizeOf83,
  v59 := Tryz.zeroValue83,
  t146 := Tryz.underlying161,
  a146 := Tryz.isAgg161,
  z146 := Tryz.sizeOf161,
  v146 := Tryz.zeroValue161,
  g1 := by kernel_rfl,
  i3 := by kernel_rfl,
  i4 := by kernel_rfl,
  i5 := by kernel_rfl,
  i9 := by kernel_rfl,
  i46 := by kernel_rfl,
  i51 := by kernel_rfl,
  i59 := by kernel_rfl,
  i146 := by kernel_rfl,
  m1 := by kernel_rfl,
  s1_3 := fun w h => Go.Proofs.cell_of_shapedOpen_int (zero := #[.int .i64 0]) (t := 3) h (of_decide_eq_true (by kernel_rfl)) (by kernel_rfl) rfl (by kernel_rfl) (by kernel_rfl) Tryz.underlying3 }
def shSplit_ren : Go.Shelf.Ren := ⟨fun | 146 => 96 | 221 => 120 | 268 => 142 | 138 => 143 | 143 => 94 | 195 => 167 | 197 => 168 | 218 => 169 | 219 => 118 | 260 => 181 | 217 => 136 | 225 => 137 | 224 => 138 | 267 => 139 | 266 => 160 | 314 => 161 | n => n, fun | 9 => 9 | 31 => 22 | 3 => 3 | 4 => 4 | 0 => 0 | 105 => 169 | 21 => 21 | 5 => 5 | 46 => 131 | 119 => 186 | 139 => 189 | 138 => 188 | 146 => 161 | 51 => 115 | n => n, fun | 1 => 3 | 3 => 8 | 4 => 9 | n => n⟩
theorem shSplit : Go.Proofs.LaysM.n146 Tryz.prog shSplit_ren := {
  mixed := by kernel_rfl,
  f138 := Tryz.func143.trans (congrArg some (by kernel_rfl)),
  f143 := Tryz.func94.trans (congrArg some (by kernel_rfl)),
  f146 := Tryz.func96.trans (congrArg some (by kernel_rfl)),
  f195 := Tryz.func167.trans (congrArg some (by kernel_rfl)),
  f197 := Tryz.func168.trans (congrArg some (by kernel_rfl)),
  f217 := Tryz.func136.trans (congrArg some (by kernel_rfl)),
  f218 := Tryz.func169.trans (congrArg some (by kernel_rfl)),
  f219 := Tryz.func118.trans (congrArg some (by kernel_rfl)),
  f221 := Tryz.func120.trans (congrArg some (by kernel_rfl)),
  f224 := Tryz.func138.trans (congrArg some (by kernel_rfl)),
  f225 := Tryz.func137.trans (congrArg some (by kernel_rfl)),
  f260 := Tryz.func181.trans (congrArg some (by kernel_rfl)),
  f266 := Tryz.func160.trans (congrArg some (by kernel_rfl)),
  f267 := Tryz.func139.trans (congrArg some (by kernel_rfl)),
  f268 := Tryz.func142.trans (congrArg some (by kernel_rfl)),
  f314 := Tryz.func161.trans (congrArg some (by kernel_rfl)),
  t0 := Tryz.underlying0,
  a0 := Tryz.isAgg0,
  z0 := Tryz.sizeOf0,
  v0 := Tryz.zeroValue0,
  t3 := Tryz.underlying3,
  a3 := Tryz.isAgg3,
  z3 := Tryz.sizeOf3,
  v3 := Tryz.zeroValue3,
  t4 := Tryz.underlying4,
  a4 := Tryz.isAgg4,
  z4 := Tryz.sizeOf4,
  v4 := Tryz.zeroValue4,
  t5 := Tryz.underlying5,
  a5 := Tryz.isAgg5,
  z5 := Tryz.sizeOf5,
  v5 := Tryz.zeroValue5,
  t9 := Tryz.underlying9,
  a9 := Tryz.isAgg9,
  z9 := Tryz.sizeOf9,
  v9 := Tryz.zeroValue9,
  t21 := Tryz.underlying21,
  a21 := Tryz.isAgg21,
  z21 := Tryz.sizeOf21,
  v21 := Tryz.zeroValue21,
  t31 := Tryz.underlying22,
  a31 := Tryz.isAgg22,
  z31 := Tryz.sizeOf22,
  v31 := Tryz.zeroValue22,
  t46 := Tryz.underlying131,
  a46 := Tryz.isAgg131,
  z46 := Tryz.sizeOf131,
  v46 := Tryz.zeroValue131,
  t51 := Tryz.underlying115,
  a51 := Tryz.isAgg115,
  z51 := Tryz.sizeOf115,
  v51 := Tryz.zeroValue115,
  t105 := Tryz.underlying169,
  a105 := Tryz.isAgg169,
  z105 := Tryz.sizeOf169,
  v105 := Tryz.zeroValue169,
  t119 := Tryz.underlying186,
  a119 := Tryz.isAgg186,
  z119 := Tryz.sizeOf186,
  t138 := Tryz.underlying188,
  a138 := Tryz.isAgg188,
  z138 := Tryz.sizeOf188,
  v138 := Tryz.zeroValue188,
  t139 := Tryz.underlying189,
  a139 := Tryz.isAgg189,
  z139 := Tryz.sizeOf189,
  v139 := Tryz.zeroValue189,
  t146 := Tryz.underlying161,
  a146 := Tryz.isAgg161,
  z146 := Tryz.sizeOf161,
  v146 := Tryz.zeroValue161,
  g1 := by kernel_rfl,
  g3 := by kernel_rfl,
  g4 := by kernel_rfl,
  i0 := by kernel_rfl,
  i3 := by kernel_rfl,
  i4 := by kernel_rfl,
  i5 := by kernel_rfl,
  i9 := by kernel_rfl,
  i21 := by kernel_rfl,
  i31 := by kernel_rfl,
  i46 := by kernel_rfl,
  i51 := by kernel_rfl,
  i105 := by kernel_rfl,
  i138 := by kernel_rfl,
  i139 := by kernel_rfl,
  i146 := by kernel_rfl,
  m1 := by kernel_rfl,
  s1_3 := fun w h => Go.Proofs.cell_of_shapedOpen_int (zero := #[.int .i64 0]) (t := 3) h (of_decide_eq_true (by kernel_rfl)) (by kernel_rfl) rfl (by kernel_rfl) (by kernel_rfl) Tryz.underlying3,
  m3 := by kernel_rfl,
  m4 := by kernel_rfl }

end Go.Proofs.YtnmilfkocheaiaaGreatDoor

namespace Go.Proofs.YtnmilfkocheaiaaGreatDoor
open Go.RowKit

/-- the number of a text by Atoi's rules, or -1 -/
def numO (s : ByteArray) : Int := match Lib.atoiAll s.data.toList with
  | .ok v => v
  | _ => -1
/-- the library's two errors lie as its text lays them -/
def Errs (w : World) : Prop := (∃ tp p, w.var? Tryz.prog "strconv.ErrSyntax" = some #[.iface tp p]) ∧ ∃ tp p, w.var? Tryz.prog "strconv.ErrRange" = some #[.iface tp p]
theorem libAtoi_ok (s : ByteArray) (hs : s.size ≤ 1048576) (v : Int) (h : Lib.atoiAll s.data.toList = .ok v) (w : World) :
    Calls Tryz.prog 119 #[.string s] w fun e w' => e = .returned (.tuple #[.int .i64 v, .nilIface]) ∧ Below w.heap.size w w' := by
  refine (Any.strconv_Atoi_ok shAtoi s (by omega) v h w).mono fun e w' ⟨he, hw⟩ => ⟨he, ?_⟩
  rcases hw with rfl | ⟨t, rfl⟩
  · exact Below.refl _ _
  · exact Lib.bytesWorld_below _ _ _

set_option maxRecDepth 100000 in
theorem implNumberOr (s : ByteArray) (hs : s.size ≤ 1048576) (w : World) (hE : Errs w) :
    Calls Tryz.prog 95 #[.string s] w fun e w' => e = .returned (.int .i64 (numO s)) ∧ Below w.heap.size w w' := by
  obtain ⟨⟨t1, p1, h1⟩, ⟨t2, p2, h2⟩⟩ := hE
  cases hr : Lib.atoiAll s.data.toList with
  | ok v =>
    have HN := Lib.hid (show numO s = v by rw [numO, hr])
    have HA := Lib.hid (libAtoi_ok s hs v hr w)
    clear hr h1 h2
    go_enter Tryz.func95, Tryz.ntmps95
    go_wp2_with fail
    refine HA.out.mono ?_
    rintro e w1 ⟨rfl, hb⟩
    have HB := Lib.hid hb
    clear hb
    go_wp2_with fail
    go_ret
    rw [HN.out]
    exact ⟨rfl, HB.out⟩
  | «syntax» =>
    have HN := Lib.hid (show numO s = -1 by rw [numO, hr])
    have HA := Lib.hid (Any.strconv_Atoi_syntax_var shAtoi s (by omega) hr t1 p1 w h1)
    clear hr h1 h2
    go_enter Tryz.func95, Tryz.ntmps95
    go_wp2_with fail
    refine HA.out.mono ?_
    rintro e w1 ⟨N, rfl, -, -, hb⟩
    have HB := Lib.hid hb
    clear hb
    go_wp2_with fail
    go_ret
    rw [HN.out]
    exact ⟨rfl, HB.out⟩
  | range =>
    have HN := Lib.hid (show numO s = -1 by rw [numO, hr])
    have HA := Lib.hid (Any.strconv_Atoi_range_var shAtoi s (by omega) hr t2 p2 w h2)
    clear hr h1 h2
    go_enter Tryz.func95, Tryz.ntmps95
    go_wp2_with fail
    refine HA.out.mono ?_
    rintro e w1 ⟨N, rfl, -, -, hb⟩
    have HB := Lib.hid hb
    clear hb
    go_wp2_with fail
    go_ret
    rw [HN.out]
    exact ⟨rfl, HB.out⟩

end Go.Proofs.YtnmilfkocheaiaaGreatDoor

namespace Go.Proofs.YtnmilfkocheaiaaGreatDoor
open Go.RowKit

/-- a list cut at a byte, behind what is done -/
def sqA (c : Nat) : List (List UInt8) → List UInt8 → List UInt8 → List (List UInt8)
  | acc, cur, [] => acc ++ [cur]
  | acc, cur, x :: l => if x.toNat = c then sqA c (acc ++ [cur]) [] l else sqA c acc (cur ++ [x]) l
theorem sqA_none (c : Nat) : ∀ (l : List UInt8) (acc : List (List UInt8)) (cur : List UInt8), (∀ x ∈ l, ¬ x.toNat = c) → sqA c acc cur l = acc ++ [cur ++ l]
  | [], acc, cur, _ => by rw [sqA, List.append_nil]
  | x :: l, acc, cur, h => by
    rw [sqA, if_neg (h x (List.mem_cons_self ..)), sqA_none c l acc (cur ++ [x]) (fun y hy => h y (List.mem_cons_of_mem _ hy)), List.append_assoc]
    rfl
theorem sqA_hit (c : Nat) (d : UInt8) (hd : d.toNat = c) (r : List UInt8) : ∀ (l : List UInt8) (acc : List (List UInt8)) (cur : List UInt8), (∀ x ∈ l, ¬ x.toNat = c) → sqA c acc cur (l ++ d :: r) = sqA c (acc ++ [cur ++ l]) [] r
  | [], acc, cur, _ => by rw [List.nil_append, sqA, if_pos hd, List.append_nil]
  | x :: l, acc, cur, h => by
    rw [List.cons_append, sqA, if_neg (h x (List.mem_cons_self ..)), sqA_hit c d hd r l acc (cur ++ [x]) (fun y hy => h y (List.mem_cons_of_mem _ hy)), List.append_assoc]
    rfl
theorem sqA_join (d : UInt8) : ∀ (l : List UInt8) (acc : List (List UInt8)) (cur : List UInt8), Lib.join (sqA d.toNat acc cur l) [d] = Lib.join (acc ++ [cur]) [d] ++ l
  | [], acc, cur => by rw [sqA, List.append_nil]
  | x :: l, acc, cur => by
    rw [sqA]
    by_cases h : x.toNat = d.toNat
    · have hx : x = d := UInt8.toNat_inj.1 h
      rw [if_pos h, sqA_join d l, join_snoc, if_neg (by simp), hx]
      simp
    · rw [if_neg h, sqA_join d l, join_snoc, join_snoc]
      split <;> simp
theorem sqA_len (c : Nat) : ∀ (l : List UInt8) (acc : List (List UInt8)) (cur : List UInt8), acc.length + 1 ≤ (sqA c acc cur l).length
  | [], acc, cur => by rw [sqA]; simp
  | x :: l, acc, cur => by
    rw [sqA]
    split
    · have := sqA_len c l (acc ++ [cur]) []; simp at this; omega
    · exact sqA_len c l acc (cur ++ [x])

theorem ext_list (s : ByteArray) (f k : Nat) : (s.extract f k).data.toList = (s.data.toList.drop f).take (k - f) := by
  rw [Lib.extract_data]
theorem spL_sqK (s : ByteArray) (c : Nat) : ∀ k, k ≤ s.size → sqA c [] [] s.data.toList = sqA c ((spP s c k).map (·.data.toList)) ((s.data.toList.drop (spF s c k)).take (k - spF s c k)) (s.data.toList.drop k)
  | 0, _ => by simp [spP, spF]
  | k + 1, hk => by
    have hlt : k < s.data.toList.length := by rw [Array.length_toList]; exact hk
    have hf := spF_le s c k
    rw [spL_sqK s c k (by omega), List.drop_eq_getElem_cons hlt, sqA, spP, spF, List.getD_eq_getElem?_getD, List.getElem?_eq_getElem hlt, Option.getD_some]
    by_cases h : (s.data.toList[k]).toNat = c
    · rw [if_pos h, if_pos h, if_pos h, List.map_append, List.map_cons, List.map_nil, ext_list, Nat.sub_self, List.take_zero]
    · rw [if_neg h, if_neg h, if_neg h, Nat.succ_sub hf, List.take_add_one, List.getElem?_drop, Nat.add_sub_cancel' hf, List.getElem?_eq_getElem hlt]
      rfl
theorem spL_sq (s : ByteArray) (c : Nat) : (spL s c).map (·.data.toList) = sqA c [] [] s.data.toList := by
  have hz : s.data.toList.drop s.size = [] := List.drop_of_length_le (by rw [Array.length_toList]; exact Nat.le_refl _)
  rw [spL_sqK s c s.size (Nat.le_refl _), hz, sqA, spL, List.map_append, List.map_cons, List.map_nil, ext_list]
theorem ba_ext {a b : ByteArray} (h : a.data.toList = b.data.toList) : a = b := ByteArray.ext (Array.toList_inj.1 h)
theorem map_dl_inj : ∀ {a b : List ByteArray}, a.map (·.data.toList) = b.map (·.data.toList) → a = b
  | [], [], _ => rfl
  | [], _ :: _, h => by simp at h
  | _ :: _, [], h => by simp at h
  | x :: a, y :: b, h => by
    simp only [List.map_cons, List.cons.injEq] at h
    rw [ba_ext h.1, map_dl_inj h.2]

/-- where a byte first stands -/
theorem idx_none (c : UInt8) : ∀ (l : List UInt8), (∀ x ∈ l, ¬ x = c) → Lib.index l [c] = -1
  | [], _ => rfl
  | x :: l, h => by
    have h1 := h x (List.mem_cons_self ..)
    rw [Lib.index, idx_none c l (fun y hy => h y (List.mem_cons_of_mem _ hy))]
    have : ([c] : List UInt8).isPrefixOf (x :: l) = false := by simp [List.isPrefixOf, Ne.symm h1]
    rw [this]
    rfl
theorem idx_hit (c : UInt8) (r : List UInt8) : ∀ (l : List UInt8), (∀ x ∈ l, ¬ x = c) → Lib.index (l ++ c :: r) [c] = l.length
  | [], _ => by
    rw [List.nil_append, Lib.index, if_pos (by simp [List.isPrefixOf])]
    rfl
  | x :: l, h => by
    have h1 := h x (List.mem_cons_self ..)
    rw [List.cons_append, Lib.index, idx_hit c r l (fun y hy => h y (List.mem_cons_of_mem _ hy))]
    have h2 : ([c] : List UInt8).isPrefixOf (x :: (l ++ c :: r)) = false := by simp [List.isPrefixOf, Ne.symm h1]
    have h3 : ((l.length : Int) == -1) = false := beq_eq_false_iff_ne.2 (by omega)
    rw [h2, h3, List.length_cons]
    simp
theorem joinTail_app (x : List UInt8) (r : List (List UInt8)) (sep : List UInt8) : Lib.join (x :: r) sep = if r = [] then x else x ++ (sep ++ Lib.join r sep) := by
  cases r with
  | nil => rw [if_pos rfl]; exact Lib.join_one x sep
  | cons y r => rw [if_neg (by simp), Lib.join_cons, Lib.join_cons]; simp [Lib.joinTail]
theorem sqA_list (c : UInt8) : ∀ (L acc : List (List UInt8)), L ≠ [] → (∀ l ∈ L, ∀ x ∈ l, ¬ x = c) → sqA c.toNat acc [] (Lib.join L [c]) = acc ++ L
  | [], _, h, _ => absurd rfl h
  | l :: r, acc, _, h => by
    have h1 : ∀ x ∈ l, ¬ x.toNat = c.toNat := fun x hx h9 => h l (List.mem_cons_self ..) x hx (UInt8.toNat_inj.1 h9)
    rw [joinTail_app]
    by_cases h0 : r = []
    · subst h0
      rw [if_pos rfl, sqA_none _ _ _ _ h1, List.nil_append]
    · rw [if_neg h0, List.singleton_append, sqA_hit c.toNat c rfl _ l acc [] h1, sqA_list c r _ h0 (fun l hl => h l (List.mem_cons_of_mem _ hl)), List.nil_append, List.append_assoc]
      rfl
theorem splK_list (c : UInt8) : ∀ (L : List (List UInt8)), L ≠ [] → (∀ l ∈ L, ∀ x ∈ l, ¬ x = c) → Lib.splitK [c] 0 (Lib.count (Lib.join L [c]) [c]) (Lib.join L [c]) = L
  | [], h, _ => absurd rfl h
  | l :: r, _, h => by
    have h1 := h l (List.mem_cons_self ..)
    rw [joinTail_app]
    by_cases h0 : r = []
    · subst h0
      rw [if_pos rfl, Lib.count_miss (idx_none c l h1), Lib.splitK]
    · have hi := idx_hit c (Lib.join r [c]) l h1
      have hd : (l ++ c :: Lib.join r [c]).drop (l.length + 1) = Lib.join r [c] := by
        rw [List.drop_append, List.drop_of_length_le (by omega)]
        simp
      rw [if_neg h0, List.singleton_append, Lib.count_hit (by simp) hi, Nat.add_comm 1, Lib.splitK, hi, if_neg (by rw [beq_iff_eq]; omega), Int.toNat_natCast, List.length_cons, List.length_nil, Nat.zero_add, hd, splK_list c r h0 (fun l hl => h l (List.mem_cons_of_mem _ hl))]
      simp

/-- numbers below 100 -/
theorem dig_two (k : Nat) (hk : k < 100) (h : ¬ k < 10) : Lib.decDigits k = [UInt8.ofNat (48 + k / 10), UInt8.ofNat (48 + k % 10)] := by
  rw [dig100 k h, dig10 (k / 10) (by omega), dig10 (k % 10) (by omega)]
  rfl
theorem dig_byte (k : Nat) (hk : k < 100) : ∀ x ∈ Lib.decDigits k, 48 ≤ x.toNat ∧ x.toNat ≤ 57 := by
  have h9 : ∀ i, i < 10 → 48 ≤ (UInt8.ofNat (48 + i)).toNat ∧ (UInt8.ofNat (48 + i)).toNat ≤ 57 := by decide
  by_cases h : k < 10
  · rw [dig10 k h]
    intro x hx
    rw [List.mem_singleton] at hx
    rw [hx]
    exact h9 k h
  · rw [dig_two k hk h]
    intro x hx
    rw [List.mem_cons, List.mem_singleton] at hx
    rcases hx with rfl | rfl
    · exact h9 _ (by omega)
    · exact h9 _ (by omega)
theorem dig_ne (k : Nat) (hk : k < 100) : Lib.decDigits k ≠ [] := by
  by_cases h : k < 10
  · rw [dig10 k h]; simp
  · rw [dig_two k hk h]; simp
theorem numO_nb (k : Nat) (hk : k < 100) : numO (nb k) = k := by
  have e : (nb k).data.toList = Lib.decDigits k := rfl
  rw [numO, e]
  by_cases h : k < 10
  · have : ∀ i, i < 10 → Lib.atoiAll [UInt8.ofNat (48 + i)] = .ok (i : Int) := by decide
    rw [dig10 k h, this k h]
  · have : ∀ i, i < 10 → ∀ j, j < 10 → Lib.atoiAll [UInt8.ofNat (48 + i), UInt8.ofNat (48 + j)] = .ok ((10 * i + j : Nat) : Int) := by decide
    rw [dig_two k hk h, this (k / 10) (by omega) (k % 10) (by omega), show 10 * (k / 10) + k % 10 = k by omega]
theorem rdN_nb (k : Nat) (hk : k < 100) : rdN (nb k) = k := by
  have e : (nb k).data.toList = Lib.decDigits k := rfl
  have hn : ¬ nb k = ⟨#[]⟩ := fun h => dig_ne k hk (e.symm.trans (by rw [h]))
  have hz : (nb k).size = (Lib.decDigits k).length := by simp [nb, ByteArray.size]
  have hr : rdTo (nb k).data.toList (nb k).size = some k := by
    rw [e, hz]
    by_cases h : k < 10
    · have : ∀ i, i < 10 → rdTo [UInt8.ofNat (48 + i)] 1 = some i := by decide
      rw [dig10 k h]
      exact this k h
    · have : ∀ i, i < 10 → ∀ j, j < 10 → rdTo [UInt8.ofNat (48 + i), UInt8.ofNat (48 + j)] 2 = some (10 * i + j) := by decide
      rw [dig_two k hk h]
      exact (this (k / 10) (by omega) (k % 10) (by omega)).trans (by rw [show 10 * (k / 10) + k % 10 = k by omega])
  rw [rdN, hr]
  exact if_neg (by rintro (h | h); exact hn h; exact h rfl)
theorem rdN_is {s : ByteArray} {k : Nat} (h : rdN s = k) : s = nb k := by
  rw [rdN] at h
  split at h
  · omega
  · split at h
    · omega
    · rename_i n _ hc
      have : n = k := by omega
      subst this
      exact (Decidable.not_not.1 (fun h9 => hc (Or.inr h9))).symm

/-- what the model reads off a text -/
def zsM (t : ByteArray) : List Int := if t = ⟨#[]⟩ then [] else (spL t 44).map rdN
def pM (s : ByteArray) : Option (Int × List Int) :=
  if (spL s 58).length = 2 then
    if vldB (rdN ((spL s 58).getD 0 ⟨#[]⟩)) (zsM ((spL s 58).getD 1 ⟨#[]⟩)) = true then some (rdN ((spL s 58).getD 0 ⟨#[]⟩), zsM ((spL s 58).getD 1 ⟨#[]⟩)) else none
  else none
/-- what the program reads off a text -/
def cutH (s : ByteArray) : ByteArray := ⟨(Lib.cut s.data.toList [58]).1.toArray⟩
def cutT (s : ByteArray) : ByteArray := ⟨(Lib.cut s.data.toList [58]).2.1.toArray⟩
def spB (t : ByteArray) : List ByteArray := Lib.splitB ⟨#[44]⟩ 0 (Lib.countB t ⟨#[44]⟩) t
def zsI (t : ByteArray) : List Int := if t = ⟨#[]⟩ then [] else (spB t).map numO
def pI (s : ByteArray) : Option (Int × List Int) :=
  if vldB (numO (cutH s)) (zsI (cutT s)) = true ∧ ctB (numO (cutH s)) (zsI (cutT s)) = s then some (numO (cutH s), zsI (cutT s)) else none

theorem map_nat {α : Type} (f : α → Int) (g : Nat → α) (hfg : ∀ k, k < 100 → f (g k) = k) : ∀ (ns : List Nat), (∀ t ∈ ns, t < 100) → (ns.map g).map f = toI ns
  | [], _ => rfl
  | t :: ns, h => by
    have h1 := map_nat f g hfg ns (fun t ht => h t (List.mem_cons_of_mem _ ht))
    simp only [List.map_cons, toI] at h1 ⊢
    rw [h1, hfg t (h t (List.mem_cons_self ..))]
theorem map_rd : ∀ (L : List ByteArray) (ns : List Nat), L.map rdN = toI ns → L = ns.map nb
  | [], [], _ => rfl
  | [], _ :: _, h => by simp [toI] at h
  | _ :: _, [], h => by simp [toI] at h
  | x :: L, t :: ns, h => by
    simp only [List.map_cons, toI, List.cons.injEq] at h
    rw [List.map_cons, rdN_is h.1, map_rd L ns h.2]
theorem map_nb_dl (ns : List Nat) : (ns.map nb).map (·.data.toList) = ns.map Lib.decDigits := by rw [List.map_map]; rfl
theorem ctB_list {m : Nat} {ns : List Nat} (h : vldB m (toI ns) = true) : (ctB m (toI ns)).data.toList = Lib.decDigits m ++ 58 :: Lib.join (ns.map Lib.decDigits) [44] := by
  rw [ctB_in h, ctT_eq m ns ns.length (Nat.le_refl _), List.take_length]
  simp
theorem join_nil_iff (ns : List Nat) (h : ∀ t ∈ ns, t < 100) (h0 : Lib.join (ns.map Lib.decDigits) [44] = []) : ns = [] := by
  cases ns with
  | nil => rfl
  | cons t r =>
    rw [List.map_cons, Lib.join_cons] at h0
    exact absurd (List.append_eq_nil_iff.1 h0).1 (dig_ne t (h t (List.mem_cons_self ..)))
theorem vld_lt {m : Nat} {ns : List Nat} (h : vldB m (toI ns) = true) : m < 100 ∧ ∀ t ∈ ns, t < 100 := by
  obtain ⟨m', ns', e1, e2, hc⟩ := vldB_cls h
  have e1 : m = m' := by omega
  have e2 : ns = ns' := by
    have := congrArg (List.map Int.toNat) e2
    rwa [toNat_toI, toNat_toI] at this
  subst e1 e2
  have hm := hc.pts
  exact ⟨by omega, fun t ht => by have := hc.lt t ht; have := pow_le_32 hm; omega⟩
theorem join_no (ns : List Nat) (h : ∀ t ∈ ns, t < 100) : ∀ x ∈ Lib.join (ns.map Lib.decDigits) [44], ¬ x.toNat = 58 := by
  induction ns with
  | nil => intro x hx; simp [Lib.join] at hx
  | cons t r ih =>
    rw [List.map_cons, joinTail_app]
    have h1 := dig_byte t (h t (List.mem_cons_self ..))
    split
    · intro x hx; have := h1 x hx; omega
    · intro x hx
      rw [List.mem_append, List.singleton_append, List.mem_cons] at hx
      rcases hx with hx | rfl | hx
      · have := h1 x hx; omega
      · decide
      · exact ih (fun t ht => h t (List.mem_cons_of_mem _ ht)) x hx
theorem pM_back (m : Nat) (ns : List Nat) (h : vldB m (toI ns) = true) : pM (ctB m (toI ns)) = some ((m : Int), toI ns) := by
  obtain ⟨hm, hns⟩ := vld_lt h
  have hl := ctB_list h
  generalize ctB (m : Int) (toI ns) = s at *
  have hd := dig_byte m hm
  have h1 : (spL s 58).map (·.data.toList) = [Lib.decDigits m, Lib.join (ns.map Lib.decDigits) [44]] := by
    rw [spL_sq, hl, sqA_hit 58 58 rfl _ _ _ _ (fun x hx => by have := hd x hx; omega), sqA_none 58 _ _ _ (join_no ns hns)]
    rfl
  have h2 : spL s 58 = [nb m, ⟨(Lib.join (ns.map Lib.decDigits) [44]).toArray⟩] := map_dl_inj (by rw [h1]; rfl)
  have hz : zsM ⟨(Lib.join (ns.map Lib.decDigits) [44]).toArray⟩ = toI ns := by
    rw [zsM]
    by_cases h0 : ns = []
    · subst h0
      rw [if_pos (by rfl)]
      rfl
    · rw [if_neg (fun h9 => h0 (join_nil_iff ns hns (by have := congrArg (fun b : ByteArray => b.data.toList) h9; simpa using this)))]
      have h3 : spL ⟨(Lib.join (ns.map Lib.decDigits) [44]).toArray⟩ 44 = ns.map nb := map_dl_inj (by
        rw [spL_sq, map_nb_dl]
        refine (sqA_list 44 (ns.map Lib.decDigits) [] (by simpa using h0) (fun l hl x hx h9 => ?_))
        obtain ⟨t, ht, rfl⟩ := List.mem_map.1 hl
        have := dig_byte t (hns t ht) x hx
        rw [h9] at this
        revert this
        decide)
      rw [h3, map_nat rdN nb rdN_nb ns hns]
  rw [pM, h2, if_pos (show ([nb m, ⟨(Lib.join (ns.map Lib.decDigits) [44]).toArray⟩] : List ByteArray).length = 2 from rfl), show ([nb m, ⟨(Lib.join (ns.map Lib.decDigits) [44]).toArray⟩] : List ByteArray).getD 0 ⟨#[]⟩ = nb m from rfl, show ([nb m, ⟨(Lib.join (ns.map Lib.decDigits) [44]).toArray⟩] : List ByteArray).getD 1 ⟨#[]⟩ = ⟨(Lib.join (ns.map Lib.decDigits) [44]).toArray⟩ from rfl, hz, rdN_nb m hm, if_pos h]
theorem pM_text {s : ByteArray} {n : Int} {zs : List Int} (h : pM s = some (n, zs)) : vldB n zs = true ∧ ctB n zs = s := by
  rw [pM] at h
  split at h
  · rename_i h2
    split at h
    · rename_i hv
      simp only [Option.some.injEq, Prod.mk.injEq] at h
      obtain ⟨rfl, rfl⟩ := h
      refine ⟨hv, ?_⟩
      obtain ⟨a, b, hab⟩ : ∃ a b, spL s 58 = [a, b] := by
        match hL : spL s 58, h2 with
        | [a, b], _ => exact ⟨a, b, rfl⟩
      have hj := sqA_join 58 s.data.toList [] []
      rw [show (58 : UInt8).toNat = 58 from rfl, ← spL_sq, hab] at hj
      rw [hab] at hv ⊢
      simp only [List.getD_cons_zero, List.getD_cons_succ] at hv ⊢
      obtain ⟨m, ns, e1, e2, -⟩ := vldB_cls hv
      rw [e1, e2] at hv ⊢
      have ha := rdN_is e1
      refine ba_ext ?_
      rw [ctB_list hv]
      have hj2 : a.data.toList ++ 58 :: b.data.toList = s.data.toList := by
        simpa [Lib.join, Lib.joinTail] using hj
      rw [← hj2, ha]
      have hb : Lib.join (ns.map Lib.decDigits) [44] = b.data.toList := by
        rw [zsM] at e2
        by_cases h0 : b = ⟨#[]⟩
        · rw [if_pos h0] at e2
          have : ns = [] := by cases ns with | nil => rfl | cons t r => simp [toI] at e2
          rw [this, h0]
          rfl
        · rw [if_neg h0] at e2
          have h4 := map_rd _ _ e2
          have h5 := sqA_join 44 b.data.toList [] []
          rw [show (44 : UInt8).toNat = 44 from rfl, ← spL_sq, h4, map_nb_dl] at h5
          rw [h5]
          rfl
      rw [hb]
      rfl
    · cases h
  · cases h
theorem pI_back (m : Nat) (ns : List Nat) (h : vldB m (toI ns) = true) : pI (ctB m (toI ns)) = some ((m : Int), toI ns) := by
  obtain ⟨hm, hns⟩ := vld_lt h
  have hl := ctB_list h
  generalize hs : ctB (m : Int) (toI ns) = s at hl ⊢
  have hd := dig_byte m hm
  have hcut : Lib.cut s.data.toList [58] = (Lib.decDigits m, Lib.join (ns.map Lib.decDigits) [44], true) := by
    have hi := idx_hit 58 (Lib.join (ns.map Lib.decDigits) [44]) (Lib.decDigits m) (fun x hx h9 => by have := hd x hx; rw [h9] at this; revert this; decide)
    rw [hl, Lib.cut, hi, if_pos (by omega), Int.toNat_natCast]
    rw [List.take_append_of_le_length (Nat.le_refl _), List.take_length, List.drop_append, List.drop_of_length_le (by simp)]
    simp
  have h1 : cutH s = nb m := by rw [cutH, hcut]; rfl
  have h2 : cutT s = ⟨(Lib.join (ns.map Lib.decDigits) [44]).toArray⟩ := by rw [cutT, hcut]
  have hz : zsI ⟨(Lib.join (ns.map Lib.decDigits) [44]).toArray⟩ = toI ns := by
    rw [zsI]
    by_cases h0 : ns = []
    · subst h0
      rw [if_pos (by rfl)]
      rfl
    · rw [if_neg (fun h9 => h0 (join_nil_iff ns hns (by have := congrArg (fun b : ByteArray => b.data.toList) h9; simpa using this)))]
      have h3 : spB ⟨(Lib.join (ns.map Lib.decDigits) [44]).toArray⟩ = ns.map nb := map_dl_inj (by
        rw [spB, Lib.splitB_data, map_nb_dl]
        refine (splK_list 44 (ns.map Lib.decDigits) (by simpa using h0) (fun l hl x hx h9 => ?_))
        obtain ⟨t, ht, rfl⟩ := List.mem_map.1 hl
        have := dig_byte t (hns t ht) x hx
        rw [h9] at this
        revert this
        decide)
      rw [h3, map_nat numO nb numO_nb ns hns]
  rw [pI, h1, h2, hz, numO_nb m hm, if_pos ⟨h, hs⟩]
theorem pI_text {s : ByteArray} {n : Int} {zs : List Int} (h : pI s = some (n, zs)) : vldB n zs = true ∧ ctB n zs = s := by
  rw [pI] at h
  split at h
  · rename_i h2
    simp only [Option.some.injEq, Prod.mk.injEq] at h
    obtain ⟨rfl, rfl⟩ := h
    exact h2
  · cases h
theorem pI_pM (s : ByteArray) : pI s = pM s := by
  cases hM : pM s with
  | some p =>
    obtain ⟨n, zs⟩ := p
    obtain ⟨hv, rfl⟩ := pM_text hM
    obtain ⟨m, ns, rfl, rfl, -⟩ := vldB_cls hv
    exact pI_back m ns hv
  | none =>
    cases hI : pI s with
    | none => rfl
    | some p =>
      obtain ⟨n, zs⟩ := p
      obtain ⟨hv, rfl⟩ := pI_text hI
      obtain ⟨m, ns, rfl, rfl, -⟩ := vldB_cls hv
      rw [pM_back m ns hv] at hM
      cases hM

/-- what ParseClass answers -/
def prN (s : ByteArray) : Int := match pM s with | some p => p.1 | none => 0
def prL (s : ByteArray) : List Int := match pM s with | some p => p.2 | none => []
def prB (s : ByteArray) : Bool := (pM s).isSome

end Go.Proofs.YtnmilfkocheaiaaGreatDoor

namespace Go.Proofs.YtnmilfkocheaiaaGreatDoor
open Go.RowKit

theorem var_keep {P : Program} {w w' : World} {n : String} {cs : Array Value} (h : w.var? P n = some cs) (hb : Below w.heap.size w w') : w'.var? P n = some cs := by
  unfold World.var? at h ⊢
  cases hg : P.globalNamed n with
  | none => rw [hg] at h; simp at h
  | some g =>
    rw [hg] at h
    simp only [Option.bind_some] at h ⊢
    have hlt : g < w.heap.size := by
      rcases Nat.lt_or_ge g w.heap.size with h' | h'
      · exact h'
      · rw [Array.getElem?_eq_none h'] at h; simp at h
    rw [hb.block g hlt]
    exact h
theorem Errs.keep {w w' : World} (h : Errs w) (hb : Below w.heap.size w w') : Errs w' := by
  obtain ⟨⟨t1, p1, h1⟩, ⟨t2, p2, h2⟩⟩ := h
  exact ⟨⟨t1, p1, var_keep h1 hb⟩, ⟨t2, p2, var_keep h2 hb⟩⟩
/-- what the library reads of its own variables -/
def Lbs (w : World) : Prop := Errs w ∧ ∃ m, w.cell? ⟨shCut_ren.g 1, 0, none⟩ = some (.int .i64 m)
theorem Lbs.keep {w w' : World} (h : Lbs w) (hb : Below w.heap.size w w') : Lbs w' := by
  obtain ⟨h1, m, h2⟩ := h
  exact ⟨h1.keep hb, m, (hb.cell (World.block_lt_of_cell? w _ h2)).trans h2⟩
theorem Lbs.below {w w' : World} {B : Nat} (h : Lbs w) (hb : Below B w w') (hB : w.heap.size ≤ B) : Lbs w' := h.keep (hb.mono hB)
theorem Lbs.alloc {w : World} (h : Lbs w) (o : Obj) : Lbs (w.alloc o) := h.keep ((Below.refl _ _).alloc (Nat.le_refl _) o)

theorem cutH_size (s : ByteArray) : (cutH s).size ≤ s.size := by
  have : (Lib.cut s.data.toList [58]).1.length ≤ s.data.toList.length := by
    unfold Lib.cut
    split
    · rw [List.length_take]; omega
    · exact Nat.le_refl _
  show (Lib.cut s.data.toList [58]).1.toArray.size ≤ s.data.size
  rw [List.size_toArray, ← Array.length_toList]
  exact this
theorem cutT_size (s : ByteArray) : (cutT s).size ≤ s.size := by
  have : (Lib.cut s.data.toList [58]).2.1.length ≤ s.data.toList.length := by
    unfold Lib.cut
    split
    · rw [List.length_drop]; omega
    · exact Nat.zero_le _
  show (Lib.cut s.data.toList [58]).2.1.toArray.size ≤ s.data.size
  rw [List.size_toArray, ← Array.length_toList]
  exact this
theorem splK_size (sep : List UInt8) : ∀ (k : Nat) (s : List UInt8), ∀ x ∈ Lib.splitK sep 0 k s, x.length ≤ s.length
  | 0, s => by intro x hx; rw [Lib.splitK, List.mem_singleton] at hx; rw [hx]; exact Nat.le_refl _
  | k + 1, s => by
    intro x hx
    rw [Lib.splitK] at hx
    split at hx
    · rw [List.mem_singleton] at hx; rw [hx]; exact Nat.le_refl _
    · rw [List.mem_cons] at hx
      rcases hx with rfl | hx
      · rw [List.length_take]; omega
      · have := splK_size sep k _ x hx
        rw [List.length_drop] at this
        omega
theorem spB_size (t : ByteArray) : ∀ x ∈ spB t, x.size ≤ t.size := by
  intro x hx
  have h1 : x.data.toList ∈ (spB t).map (·.data.toList) := List.mem_map.2 ⟨x, hx, rfl⟩
  rw [spB, Lib.splitB_data] at h1
  have := splK_size _ _ _ _ h1
  rw [Array.length_toList, Array.length_toList] at this
  exact this
theorem spB_length (t : ByteArray) : (spB t).length = Lib.countB t ⟨#[44]⟩ + 1 := Lib.splitB_all ⟨#[44]⟩ (Nat.le_refl _) 0 _ t rfl
theorem spB_few (t : ByteArray) : (spB t).length ≤ t.size + 1 := by
  rw [spB_length]
  have := Lib.countB_le ⟨#[44]⟩ (Nat.le_refl _) t.size t (Nat.le_refl _)
  omega

theorem libCut (s : ByteArray) (hs : s.size ≤ 1048576) (w : World) (h : Lbs w) :
    Calls Tryz.prog 62 #[.string s, .string ⟨#[58]⟩] w fun e w' => (∃ b, e = .returned (.tuple #[.string (cutH s), .string (cutT s), .bool b])) ∧ Below w.heap.size w w' := by
  obtain ⟨-, m, hm⟩ := h
  refine (Any.strings_Cut { shCut with } s ⟨#[58]⟩ m w (by omega) hm).mono ?_
  rintro e w' ⟨rfl, n, rfl⟩
  exact ⟨⟨_, rfl⟩, below_drewN (Below.refl _ _) n⟩
theorem libSplit (t : ByteArray) (hs : t.size ≤ 1048576) (w : World) (h : Lbs w) :
    Calls Tryz.prog 96 #[.string t, .string ⟨#[44]⟩] w fun e w' => e = .returned (.slice (some ⟨w.heap.size, 0, none⟩) (spB t).length (spB t).length) ∧ w' = w.alloc (.cells ((spB t).map Value.string).toArray 9) := by
  obtain ⟨-, m, hm⟩ := h
  have h9 := Any.strings_Split { shSplit with } shSplit.i9 t ⟨#[44]⟩ m w (by omega) hm (Nat.le_refl _)
  refine h9.mono ?_
  rintro e w' ⟨rfl, rfl⟩
  rw [spB_length]
  exact ⟨rfl, rfl⟩

/-- what a call answers whose results are a class of its own and a bool -/
def RetPC (n : Int) (xs : List Int) (b : Bool) (w : World) (e : Ending) (w' : World) : Prop :=
  ∃ a cap, e = .returned (.tuple #[.agg #[.int .i64 n, .slice a xs.length cap], .bool b]) ∧ Ints w.heap.size w' (.slice a xs.length cap) xs ∧ Below w.heap.size w w'

theorem prs_some {s : ByteArray} {n : Int} {zs : List Int} (h : pM s = some (n, zs)) : prN s = n ∧ prL s = zs ∧ prB s = true := by
  refine ⟨by rw [prN, h], by rw [prL, h], by rw [prB, h]; rfl⟩
theorem prs_none {s : ByteArray} (h : pM s = none) : prN s = 0 ∧ prL s = [] ∧ prB s = false := by
  refine ⟨by rw [prN, h], by rw [prL, h], by rw [prB, h]; rfl⟩
theorem prs_yes {s : ByteArray} (h1 : vldB (numO (cutH s)) (zsI (cutT s)) = true) (h2 : ctB (numO (cutH s)) (zsI (cutT s)) = s) : prN s = numO (cutH s) ∧ prL s = zsI (cutT s) ∧ prB s = true :=
  prs_some (by rw [← pI_pM, pI, if_pos ⟨h1, h2⟩])
theorem prs_no {s : ByteArray} (h : ¬ (vldB (numO (cutH s)) (zsI (cutT s)) = true ∧ ctB (numO (cutH s)) (zsI (cutT s)) = s)) : prN s = 0 ∧ prL s = [] ∧ prB s = false :=
  prs_none (by rw [← pI_pM, pI, if_neg h])
theorem prL_len (s : ByteArray) : (prL s).length ≤ 1048576 := by
  cases h : pM s with
  | none => rw [(prs_none h).2.1]; simp
  | some p =>
    obtain ⟨n, zs⟩ := p
    rw [(prs_some h).2.1]
    obtain ⟨m, ns, -, rfl, hc⟩ := vldB_cls (pM_text h).1
    have h1 := hc.length
    have h2 := hc.pts
    rw [toI_length]
    omega

end Go.Proofs.YtnmilfkocheaiaaGreatDoor
