/- Sets of sets as the bits of a number: familyOf, split. Conditions: the table setsWith reads as its initialiser lays it. The program's familyOf. Conditions: Sets is a slice of small sets. The model's fits, keep, yes, no. Conditions: sets is a slice of small sets, the point is below 5. DisagreementOf, the program's and the model's. Conditions: Sets is a slice of ints; the table setsWith is laid. The program's treeDepth. Conditions: the table setsWith is laid. The model's littlestone. Conditions: sets of n points, at most 32. -/
import Derived.Deep.RegionHeld3
import Derived.Laws.EntriesVeiled
import Derived.Test.YtiocaopabkbgpaaDoorFits
import Derived.Test.YtiocaopabkbgpaaDoorKeepM
import Derived.Test.YtiocaopabkbgpaaDoorZA
import Derived.Test.YtiocaopabkbgpaaDoorZB
import Derived.Test.YtiocaopabkbgpaaDoorZH
namespace Go.Proofs.YtiocaopabkbgpaaDoor
open Go.RowKit

/-- the sets below 32 that have the point x, as bits -/
def swZ : List Int := [2863311530, 3435973836, 4042322160, 4278255360, 4294901760]
def sw (x : Nat) : BitVec 32 := BitVec.ofInt 32 (swZ.getD x 0)
/-- the table -/
def SW (w : World) : Prop := 0 < w.heap.size ∧ ∀ x, x < 5 → w.cell? ⟨0, x, none⟩ = some (.int .u32 (swZ.getD x 0))
theorem SW.below {w w' : World} {B : Nat} (h : SW w) (hb : Below B w w') (hB : 0 < B) : SW w' :=
  ⟨Nat.lt_of_lt_of_le h.1 hb.size, fun x hx => by rw [hb.cell (p := ⟨0, x, none⟩) hB]; exact h.2 x hx⟩
theorem SW.next {w w' : World} (h : SW w) (hb : Below w.heap.size w w') : SW w' := h.below hb h.1

theorem sw_bit {x s : Nat} (hx : x < 5) (hs : s < 32) : (sw x).getLsbD s = hasX x s := by
  have key : ∀ x : Fin 5, ∀ s : Fin 32, (sw x).getLsbD s = hasX x s := by decide +kernel
  exact key ⟨x, hx⟩ ⟨s, hs⟩
theorem sw_int {x : Nat} (hx : x < 5) : swZ.getD x 0 = ((sw x).toNat : Int) := by
  have key : ∀ x : Fin 5, swZ.getD x 0 = ((sw x).toNat : Int) := by decide +kernel
  exact key ⟨x, hx⟩

/-- the sets of a list, as bits -/
def famB : List Nat → BitVec 32
  | [] => 0
  | s :: l => famB l ||| (1#32 <<< s)
def fm (l : List Nat) : Int := ((famB l).toNat : Int)
theorem famB_bit (l : List Nat) {s : Nat} (hs : s < 32) : (famB l).getLsbD s = decide (s ∈ l) := by
  induction l with
  | nil => simp [famB]
  | cons t l ih =>
    rw [famB, BitVec.getLsbD_or, ih, Bool.eq_iff_iff]
    simp [hs]
    constructor
    · rintro (h | ⟨h1, h2⟩)
      · exact .inr h
      · exact .inl (by omega)
    · rintro (rfl | h)
      · exact .inr ⟨Nat.le_refl _, by omega⟩
      · exact .inl h
theorem famB_ext {a : BitVec 32} {l : List Nat} (h : ∀ s, s < 32 → a.getLsbD s = decide (s ∈ l)) : a = famB l := by
  apply BitVec.eq_of_getLsbD_eq
  intro s hs
  rw [h s hs, famB_bit l hs]
theorem fm_nil : fm [] = 0 := by simp [fm, famB]
theorem fm_ne {l : List Nat} (h32 : ∀ s ∈ l, s < 32) : fm l ≠ 0 ↔ l ≠ [] := by
  constructor
  · rintro h rfl
    exact h fm_nil
  · intro h h0
    cases l with
    | nil => exact h rfl
    | cons t l =>
      have h1 : famB (t :: l) = 0 := by
        apply BitVec.eq_of_toNat_eq
        unfold fm at h0
        simp
        omega
      have h2 := famB_bit (t :: l) (h32 t (by simp))
      rw [h1] at h2
      simp at h2
theorem ofInt_toNat (b : BitVec 32) : BitVec.ofInt 32 (b.toNat : Int) = b := by simp
theorem wrap_u32 (c : BitVec 32) : IntKind.u32.wrap (c.toNat : Int) = (c.toNat : Int) := by
  have := c.isLt
  simp [IntKind.wrap, IntKind.bits, IntKind.signed]
  omega
theorem u32_and (a b : BitVec 32) : bits .and .u32 (a.toNat : Int) (b.toNat : Int) = ((a &&& b).toNat : Int) := by
  show IntKind.u32.wrap ((BitVec.ofInt 32 (a.toNat : Int) &&& BitVec.ofInt 32 (b.toNat : Int)).toNat : Int) = _
  rw [ofInt_toNat, ofInt_toNat]
  exact wrap_u32 _
theorem u32_andNot (a b : BitVec 32) : bits .andNot .u32 (a.toNat : Int) (b.toNat : Int) = ((a &&& ~~~ b).toNat : Int) := by
  show IntKind.u32.wrap ((BitVec.ofInt 32 (a.toNat : Int) &&& ~~~ BitVec.ofInt 32 (b.toNat : Int)).toNat : Int) = _
  rw [ofInt_toNat, ofInt_toNat]
  exact wrap_u32 _
theorem u32_or (a b : BitVec 32) : bits .or .u32 (a.toNat : Int) (b.toNat : Int) = ((a ||| b).toNat : Int) := by
  show IntKind.u32.wrap ((BitVec.ofInt 32 (a.toNat : Int) ||| BitVec.ofInt 32 (b.toNat : Int)).toNat : Int) = _
  rw [ofInt_toNat, ofInt_toNat]
  exact wrap_u32 _
/-- those that have x, and those that do not -/
def wth (x : Nat) (l : List Nat) : List Nat := l.filter (fun s => hasX x s)
def wto (x : Nat) (l : List Nat) : List Nat := l.filter (fun s => !hasX x s)
theorem fm_wth {x : Nat} (hx : x < 5) (l : List Nat) : bits .and .u32 (fm l) (swZ.getD x 0) = fm (wth x l) := by
  rw [sw_int hx, fm, u32_and, fm]
  congr 2
  apply famB_ext
  intro s hs
  rw [BitVec.getLsbD_and, famB_bit l hs, sw_bit hx hs, Bool.eq_iff_iff]
  simp [wth]
theorem fm_wto {x : Nat} (hx : x < 5) (l : List Nat) : bits .andNot .u32 (fm l) (swZ.getD x 0) = fm (wto x l) := by
  rw [sw_int hx, fm, u32_andNot, fm]
  congr 2
  apply famB_ext
  intro s hs
  rw [BitVec.getLsbD_and, BitVec.getLsbD_not, famB_bit l hs, sw_bit hx hs, Bool.eq_iff_iff]
  simp [wto, hs]

set_option maxHeartbeats 800000 in
theorem implSplit (l : List Nat) (x : Nat) (hx : x < 5) (w : World) (h : SW w) :
    Calls Tryd.prog 97 #[.int .u32 (fm l), .int .i64 (x : Int)] w fun e w' => e = .returned (.tuple #[.int .u32 (fm (wth x l)), .int .u32 (fm (wto x l))]) ∧ ∃ d, w' = w.drewN d := by
  have hc := h.2 x hx
  have h1 := fm_wth hx l
  have h2 := fm_wto hx l
  generalize swZ.getD x 0 = z at *
  generalize fm l = F at *
  generalize fm (wth x l) = F1 at *
  generalize fm (wto x l) = F2 at *
  have hx5 : (x : Int) < 5 := by omega
  go_enter Tryd.func97, Tryd.ntmps97
  go_wp2_with fail
  go_quiet (fail)
  go_wp2_with fail
  refine bodyPost_ret (v := .tuple #[.int .u32 F1, .int .u32 F2]) (by simp [results, Tryd.results97, go_sem]) rfl ?_
  exact ⟨rfl, nq, rfl⟩

end Go.Proofs.YtiocaopabkbgpaaDoor

namespace Go.Proofs.YtiocaopabkbgpaaDoor
open Go.RowKit

theorem fm_succ {ns : List Nat} {k : Nat} (hk : k < ns.length) (h32 : ∀ t ∈ ns, t < 32) : bits .or .u32 (fm (ns.take k)) ((2 : Int) ^ ns.getD k 0) = fm (ns.take (k + 1)) := by
  have h1 := h32 _ (getD_of_lt hk)
  have e1 : ns.take (k + 1) = ns.take k ++ [ns.getD k 0] := by
    rw [List.take_add_one, List.getElem?_eq_getElem hk, List.getD_eq_getElem?_getD, List.getElem?_eq_getElem hk]; rfl
  rw [e1]
  generalize ns.getD k 0 = s at *
  have h2 : (2 : Int) ^ s = ((1#32 <<< s).toNat : Int) := by
    have key : ∀ s : Fin 32, (2 : Int) ^ (s : Nat) = ((1#32 <<< (s : Nat)).toNat : Int) := by decide +kernel
    exact key ⟨s, h1⟩
  rw [h2, fm, u32_or, fm]
  congr 2
  apply famB_ext
  intro t ht
  have h3 : (1#32 <<< s).getLsbD t = decide (t = s) := by
    have := famB_bit [s] ht
    simpa [famB] using this
  rw [BitVec.getLsbD_or, famB_bit _ ht, h3, Bool.eq_iff_iff]
  simp

set_option maxHeartbeats 800000 in
theorem implFamilyOf (n : Int) (v : Value) (ns : List Nat) (h32 : ∀ t ∈ ns, t < 32) (w : World) (h : Rd w v (toI ns)) :
    Calls Tryd.prog 49 #[.agg #[.int .i64 n, v]] w fun e w' => e = .returned (.int .u32 (fm ns)) ∧ Below w.heap.size w w' := by
  obtain ⟨a, b, off, cap, rfl, h1, h3, h5⟩ := h
  rw [toI_length] at *
  have H5 := Lib.hid h5
  have H1 := Lib.hid h1
  clear h5 h1
  go_enter Tryd.func49, Tryd.ntmps49
  go_wp2_with fail
  go_loopw [3, 9] (fun f i wr => ∃ k : Nat, k ≤ ns.length ∧ i = .int .i64 k ∧ f = .int .u32 (fm (ns.take k)) ∧ wr = w.alloc (Obj.cells #[.int .i64 n, .slice a ns.length cap] 25)) (fun _ i _ => ns.length - (intOf i).toNat)
  case atStart => exact ⟨0, Nat.zero_le _, rfl, by rw [List.take_zero, fm_nil], rfl⟩
  case round =>
    obtain ⟨k, hk, rfl, rfl, rfl⟩ := hrel
    by_cases hlt : k < ns.length
    · obtain ⟨rfl, hbl⟩ := H1.out (by omega)
      have hc := H5.out k hlt
      rw [toI_getD] at hc
      have hx := h32 _ (getD_of_lt hlt)
      have HS := Lib.hid (fm_succ hlt h32)
      have HM := Lib.hid (show (2 : Int) ^ ns.getD k 0 % 4294967296 = 2 ^ ns.getD k 0 by
        have key : ∀ s : Fin 32, (2 : Int) ^ (s : Nat) % 4294967296 = 2 ^ (s : Nat) := by decide +kernel
        exact key ⟨_, hx⟩)
      generalize ns.getD k 0 = x at *
      have hc2 := (show Below w.heap.size w (w.alloc (Obj.cells #[.int .i64 n, .slice (some ⟨b, off, none⟩) ns.length cap] 25)) from (Below.refl _ _).alloc (Nat.le_refl _) _).cell (p := ⟨b, off + k, none⟩) hbl
      rw [hc] at hc2
      go_wp2_with fail
      go_roundw
      case rel => exact ⟨k + 1, by omega, by go_num, by rw [← HS.out, HM.out], trivial⟩
      case measure => simp [intOf]; omega
    · obtain rfl : k = ns.length := by omega
      go_wp2_with fail
      go_ret
      exact ⟨ret_int (by rw [List.take_length]), by go_grown⟩

end Go.Proofs.YtiocaopabkbgpaaDoor

namespace Go.Proofs.YtiocaopabkbgpaaDoor
open Go.RowKit

set_option maxHeartbeats 3200000 in
set_option maxRecDepth 100000 in
theorem specKeep (v : Value) (ns : List Nat) (x : Nat) (l : Bool) (hx : x < 5) (h32 : ∀ t ∈ ns, t < 32) (hl : ns.length ≤ 32) (w : World) (h : Rd w v (toI ns)) :
    Calls Tryd.prog 72 #[v, .agg #[.int .i64 (x : Int), .bool l]] w (RetInts (toI (ns.filter (fun s => hasX x s == l))) w) := by
  have H := Lib.hid h
  obtain ⟨a, b, off, cap, rfl, h1, h3, h5⟩ := h
  rw [toI_length] at h1 h3 h5 H ⊢
  have H5 := Lib.hid h5
  have H1 := Lib.hid h1
  clear h5 h1
  obtain ⟨P, hP⟩ : ∃ P, P = (fun s => hasX x s == l) := ⟨_, rfl⟩
  rw [← hP]
  have HPP := Lib.hid hP
  clear hP
  have HB := Lib.hid (show Below w.heap.size w (w.alloc (Obj.cells #[.int .i64 (x : Int), .bool l] 59)) from (Below.refl _ _).alloc (Nat.le_refl _) _)
  have HE0 := Lib.hid (show (w.alloc (Obj.cells #[.int .i64 (x : Int), .bool l] 59)).cell? ⟨w.heap.size, 0, none⟩ = some (.int .i64 (x : Int)) by simp [go_sem])
  have HE1 := Lib.hid (show (w.alloc (Obj.cells #[.int .i64 (x : Int), .bool l] 59)).cell? ⟨w.heap.size, 1, none⟩ = some (.bool l) by simp [go_sem])
  have HZ := Lib.hid (show (w.alloc (Obj.cells #[.int .i64 (x : Int), .bool l] 59)).heap.size = w.heap.size + 1 by simp)
  go_enter Tryd.func72, Tryd.ntmps72
  go_wp2_with fail
  generalize (w.alloc (Obj.cells #[.int .i64 (x : Int), .bool l] 59)) = w1 at *
  have hz1 := HZ.out
  go_loopw [5, 6] (fun o i wr => ∃ (k : Nat) (a' : Option Addr) (c' : Nat), k ≤ ns.length ∧ i = .int .i64 k ∧ o = .slice a' (keepTo P ns k).length c' ∧ Ints w1.heap.size wr (.slice a' (keepTo P ns k).length c') (toI (keepTo P ns k)) ∧ Below w1.heap.size w1 wr) (fun _ i _ => ns.length - (intOf i).toNat)
  case atStart => exact ⟨0, _, _, Nat.zero_le _, rfl, rfl, Ints.lit' (by first | omega | simp) (by first | omega | simp), by go_grown⟩
  case round =>
    obtain ⟨k, a', c', hk, rfl, rfl, hin, hbe⟩ := hrel
    have HIN := Lib.hid hin
    have HBE := Lib.hid hbe
    have hz := hbe.size
    have d0 := (hbe.cell (p := ⟨w.heap.size, 0, none⟩) (by show w.heap.size < _; omega)).trans HE0.out
    have d1 := (hbe.cell (p := ⟨w.heap.size, 1, none⟩) (by show w.heap.size < _; omega)).trans HE1.out
    clear hin hbe
    by_cases hlt : k < ns.length
    · obtain ⟨rfl, hbl⟩ := H1.out (by omega)
      have hcx := (HBE.out.cell (p := ⟨b, off + k, none⟩) (by show b < w1.heap.size; omega)).trans ((HB.out.cell (p := ⟨b, off + k, none⟩) hbl).trans (H5.out k (by omega)))
      rw [toI_getD] at hcx
      have hxx := h32 _ (getD_of_lt hlt)
      have HY := Lib.hid (keepTo_yes (p := P) hlt)
      have HN := Lib.hid (keepTo_no (p := P) hlt)
      have hA32 := keepTo_le P ns k
      have hkI : (k : Int) < (ns.length : Int) := by omega
      generalize ns.getD k 0 = s at *
      generalize keepTo P ns k = A at *
      have HAl := Lib.hid (toI_length A)
      have HFT := Lib.hid (fun w => specFits s x l (by omega) hx w)
      rw [show (hasX x s == l) = P s by rw [HPP.out]] at HFT
      by_cases hp : P s = true
      · have HF := Lib.hid (HY.out hp)
        rw [hp] at HFT
        clear hp
        go_wp2_with fail
        go_region_held3 (fun w' => w'.cell? ⟨b, off + k, none⟩ = some (.int .i64 (s : Int)) ∧ w'.cell? ⟨w.heap.size, 0, none⟩ = some (.int .i64 (x : Int)) ∧ w'.cell? ⟨w.heap.size, 1, none⟩ = some (.bool l)) (first | exact ⟨hcx, d0, d1⟩ | exact ⟨hcx2, f0, f1⟩ | go_keep) (first | (go_at_call 101; refine (HFT.out _).mono ?_; rintro e w4 ⟨rfl, hb4⟩; have hb34 : Below wr.heap.size wr w4 := Below.trans (by first | exact Below.refl _ _ | exact (Below.refl _ _).drew) hb4; have B34 := Lib.hid hb34; have hcx2 := (hb34.cell (p := ⟨b, off + k, none⟩) (by show b < wr.heap.size; omega)).trans hcx; have f0 := (hb34.cell (p := ⟨w.heap.size, 0, none⟩) (by show w.heap.size < wr.heap.size; omega)).trans d0; have f1 := (hb34.cell (p := ⟨w.heap.size, 1, none⟩) (by show w.heap.size < wr.heap.size; omega)).trans d1; clear hb4 hb34))
        have HIN2 := Lib.hid (HIN.out.below B34.out (Nat.le_refl _))
        have HBE2 := Lib.hid (HBE.out.trans (B34.out.mono hz))
        have hz2 := B34.out.size
        go_wp2_with (at_builtin; refine wpList_app rfl (.tmp 20) (.tmp 25) rfl w1.heap.size _ (toI A) rfl (by exact HIN2.out.alloc _) _ _ _ [(s : Int)] rfl (src_cell (by rw [World.cell?_alloc_at _ _ _ _ rfl]; rfl)) (by rw [HAl.out]; omega) (by simp; omega) ?_; intro a1 c1 w5 hin5 hb5 hg5; rw [HAl.out] at hin5; have I5 := Lib.hid hin5; have B5 := Lib.hid (HBE2.out.trans (Below.trans ((Below.refl _ _).alloc (by omega) _) hb5)); clear hin5 hb5 hg5; rw [HAl.out])
        go_roundw
        case rel => exact ⟨k + 1, a1, c1, by omega, by go_num, by rw [HF.out]; simp, by rw [HF.out, toI_append]; simpa [toI] using I5.out, B5.out⟩
        case measure => simp [intOf]; omega
      · rw [Bool.not_eq_true] at hp
        have HF := Lib.hid (HN.out hp)
        rw [hp] at HFT
        clear hp
        go_wp2_with fail
        go_region_held3 (fun w' => w'.cell? ⟨b, off + k, none⟩ = some (.int .i64 (s : Int)) ∧ w'.cell? ⟨w.heap.size, 0, none⟩ = some (.int .i64 (x : Int)) ∧ w'.cell? ⟨w.heap.size, 1, none⟩ = some (.bool l)) (first | exact ⟨hcx, d0, d1⟩ | exact ⟨hcx2, f0, f1⟩ | go_keep) (first | (go_at_call 101; refine (HFT.out _).mono ?_; rintro e w4 ⟨rfl, hb4⟩; have hb34 : Below wr.heap.size wr w4 := Below.trans (by first | exact Below.refl _ _ | exact (Below.refl _ _).drew) hb4; have B34 := Lib.hid hb34; have hcx2 := (hb34.cell (p := ⟨b, off + k, none⟩) (by show b < wr.heap.size; omega)).trans hcx; have f0 := (hb34.cell (p := ⟨w.heap.size, 0, none⟩) (by show w.heap.size < wr.heap.size; omega)).trans d0; have f1 := (hb34.cell (p := ⟨w.heap.size, 1, none⟩) (by show w.heap.size < wr.heap.size; omega)).trans d1; clear hb4 hb34))
        have HIN2 := Lib.hid (HIN.out.below B34.out (Nat.le_refl _))
        have HBE2 := Lib.hid (HBE.out.trans (B34.out.mono hz))
        go_wp2_with fail
        go_roundw
        case rel => exact ⟨k + 1, a', c', by omega, by go_num, by rw [HF.out], by rw [HF.out]; exact HIN2.out, HBE2.out⟩
        case measure => simp [intOf]; omega
    · obtain rfl : k = ns.length := by omega
      rw [keepTo_all] at HIN ⊢
      generalize ns.filter P = R at *
      have HRl := Lib.hid (toI_length R)
      go_wp2_with fail
      go_ret
      exact ⟨a', c', by rw [HRl.out]; rfl, by rw [HRl.out]; exact HIN.out.mono (by omega), HB.out.trans (HBE.out.mono (by omega))⟩

set_option maxHeartbeats 800000 in
theorem specYes (v : Value) (ns : List Nat) (x : Nat) (hx : x < 5) (h32 : ∀ t ∈ ns, t < 32) (hl : ns.length ≤ 32) (w : World) (h : Rd w v (toI ns)) :
    Calls Tryd.prog 71 #[v, .int .i64 (x : Int)] w (RetInts (toI (wth x ns)) w) := by
  have HK := Lib.hid (specKeep v ns x true hx h32 hl w h)
  rw [show ns.filter (fun s => hasX x s == true) = wth x ns by unfold wth; congr 1; funext s; cases hasX x s <;> rfl] at HK
  generalize wth x ns = R at *
  obtain ⟨a, b, off, cap, rfl, _, _, _⟩ := h
  have HRl := Lib.hid (toI_length R)
  go_enter Tryd.func71, Tryd.ntmps71
  go_wp2_with fail
  refine HK.out.mono ?_
  rintro e w1 ⟨a1, c1, rfl, hin, hb⟩
  rw [HRl.out] at hin ⊢
  go_wp2_with fail
  go_ret
  exact ⟨a1, c1, by rw [HRl.out]; rfl, by rw [HRl.out]; exact hin, hb⟩

set_option maxHeartbeats 800000 in
theorem specNo (v : Value) (ns : List Nat) (x : Nat) (hx : x < 5) (h32 : ∀ t ∈ ns, t < 32) (hl : ns.length ≤ 32) (w : World) (h : Rd w v (toI ns)) :
    Calls Tryd.prog 91 #[v, .int .i64 (x : Int)] w (RetInts (toI (wto x ns)) w) := by
  have HK := Lib.hid (specKeep v ns x false hx h32 hl w h)
  rw [show ns.filter (fun s => hasX x s == false) = wto x ns by unfold wto; congr 1; funext s; cases hasX x s <;> rfl] at HK
  generalize wto x ns = R at *
  obtain ⟨a, b, off, cap, rfl, _, _, _⟩ := h
  have HRl := Lib.hid (toI_length R)
  go_enter Tryd.func91, Tryd.ntmps91
  go_wp2_with fail
  refine HK.out.mono ?_
  rintro e w1 ⟨a1, c1, rfl, hin, hb⟩
  rw [HRl.out] at hin ⊢
  go_wp2_with fail
  go_ret
  exact ⟨a1, c1, by rw [HRl.out]; rfl, by rw [HRl.out]; exact hin, hb⟩

end Go.Proofs.YtiocaopabkbgpaaDoor

namespace Go.Proofs.YtiocaopabkbgpaaDoor
open Go.RowKit

/-- do the sets differ at x? -/
def disP (ns : List Nat) (x : Nat) : Bool := decide (wth x ns ≠ []) && decide (wto x ns ≠ [])
def disL (n : Int) (zs : List Int) : List Int := if vldB n zs = true then toI ((List.range n.toNat).filter (disP (zs.map Int.toNat))) else []
theorem disL_len (n : Int) (zs : List Int) : (disL n zs).length ≤ 1048576 := by
  unfold disL
  split
  · rename_i hv
    obtain ⟨m, ns, rfl, rfl, hc⟩ := vldB_cls hv
    rw [toI_length, Int.toNat_natCast]
    have := filt_le (disP ((toI ns).map Int.toNat)) m
    have := hc.pts
    omega
  · simp
theorem wth_lt {x : Nat} {ns : List Nat} (h32 : ∀ t ∈ ns, t < 32) : ∀ t ∈ wth x ns, t < 32 := fun t ht => h32 t (List.mem_filter.1 ht).1
theorem wto_lt {x : Nat} {ns : List Nat} (h32 : ∀ t ∈ ns, t < 32) : ∀ t ∈ wto x ns, t < 32 := fun t ht => h32 t (List.mem_filter.1 ht).1



end Go.Proofs.YtiocaopabkbgpaaDoor

namespace Go.Proofs.YtiocaopabkbgpaaDoor
open Go.RowKit

theorem cell_heap {w w' : World} (e : w'.heap = w.heap) (a : Addr) : w'.cell? a = w.cell? a := by simp only [World.cell?, e]
theorem SW.heap {w w' : World} (h : SW w) (e : w'.heap = w.heap) : SW w' := ⟨by rw [e]; exact h.1, fun x hx => (cell_heap e _).trans (h.2 x hx)⟩

/-- a tree's depth so far: J joins the depths of both branches, C chooses of two trees -/
def stp (J C : Int → Int → Int) (D : List Nat → Int) (l : List Nat) (best : Int) (x : Nat) : Int :=
  if wth x l = [] ∨ wto x l = [] then best else if 0 < best then C best (1 + J (D (wth x l)) (D (wto x l))) else 1 + J (D (wth x l)) (D (wto x l))
def dep (J C : Int → Int → Int) : Nat → List Nat → Int
  | 0, _ => 0
  | n + 1, l => (List.range 5).foldl (stp J C (dep J C n) l) 0
def depTo (J C : Int → Int → Int) (n : Nat) (l : List Nat) (k : Nat) : Int := (List.range k).foldl (stp J C (dep J C n) l) 0
theorem depTo_succ (J C : Int → Int → Int) (n : Nat) (l : List Nat) (k : Nat) : depTo J C n l (k + 1) = stp J C (dep J C n) l (depTo J C n l k) k := by
  rw [depTo, List.range_succ, List.foldl_append]; rfl
theorem split_len (x : Nat) (l : List Nat) (h1 : wth x l ≠ []) (h2 : wto x l ≠ []) : (wth x l).length < l.length ∧ (wto x l).length < l.length := by
  have h : (wth x l).length + (wto x l).length = l.length := by
    induction l with
    | nil => rfl
    | cons t l ih =>
      have hh : ∀ l : List Nat, (wth x l).length + (wto x l).length = l.length := by
        intro l
        induction l with
        | nil => rfl
        | cons t l ih =>
          by_cases e : hasX x t = true <;> simp [wth, wto, e] at ih ⊢ <;> omega
      exact hh (t :: l)
  have := List.length_pos_iff.2 h1
  have := List.length_pos_iff.2 h2
  omega
theorem dep_bdLo (n : Nat) (l : List Nat) : 0 ≤ dep min max n l ∧ dep min max n l ≤ n := by
  induction n generalizing l with
  | zero => simp [dep]
  | succ n ih =>
    have key : ∀ k, 0 ≤ depTo min max n l k ∧ depTo min max n l k ≤ n + 1 := by
      intro k
      induction k with
      | zero => simp [depTo]; omega
      | succ k ihk =>
        rw [depTo_succ, stp]
        have a := ih (wth k l)
        have b := ih (wto k l)
        split
        · exact ihk
        · split <;> omega
    have := key 5
    simp only [dep]
    simp only [depTo] at this
    omega
theorem depTo_bdLo (n : Nat) (l : List Nat) (k : Nat) : 0 ≤ depTo min max n l k ∧ depTo min max n l k ≤ n + 1 := by
  induction k with
  | zero => simp [depTo]; omega
  | succ k ihk =>
    rw [depTo_succ, stp]
    have a := dep_bdLo n (wth k l)
    have b := dep_bdLo n (wto k l)
    split
    · exact ihk
    · split <;> omega
theorem dep_bdQu (n : Nat) (l : List Nat) : 0 ≤ dep max min n l ∧ dep max min n l ≤ n := by
  induction n generalizing l with
  | zero => simp [dep]
  | succ n ih =>
    have key : ∀ k, 0 ≤ depTo max min n l k ∧ depTo max min n l k ≤ n + 1 := by
      intro k
      induction k with
      | zero => simp [depTo]; omega
      | succ k ihk =>
        rw [depTo_succ, stp]
        have a := ih (wth k l)
        have b := ih (wto k l)
        split
        · exact ihk
        · split <;> omega
    have := key 5
    simp only [dep]
    simp only [depTo] at this
    omega
theorem depTo_bdQu (n : Nat) (l : List Nat) (k : Nat) : 0 ≤ depTo max min n l k ∧ depTo max min n l k ≤ n + 1 := by
  induction k with
  | zero => simp [depTo]; omega
  | succ k ihk =>
    rw [depTo_succ, stp]
    have a := dep_bdQu n (wth k l)
    have b := dep_bdQu n (wto k l)
    split
    · exact ihk
    · split <;> omega

set_option maxHeartbeats 400000 in
theorem impl_lesser (a b : Int) (w : World) : Calls Tryd.prog 104 #[.int .i64 a, .int .i64 b] w fun e w' => e = .returned (.int .i64 (min a b)) ∧ w' = w := by
  go_enter Tryd.func104, Tryd.ntmps104
  go_wp2_with fail
  all_goals
    go_ret
    exact ⟨ret_int (by omega), rfl⟩

set_option maxHeartbeats 400000 in
theorem impl_greater (a b : Int) (w : World) : Calls Tryd.prog 105 #[.int .i64 a, .int .i64 b] w fun e w' => e = .returned (.int .i64 (max a b)) ∧ w' = w := by
  go_enter Tryd.func105, Tryd.ntmps105
  go_wp2_with fail
  all_goals
    go_ret
    exact ⟨ret_int (by omega), rfl⟩

/-- the three captured cells -/
def CapsLo (bj bd bc : Nat) (w : World) : Prop := (w.cell? ⟨bj, 0, none⟩ = some (.func (Fn.func 104) #[] #[]) ∧ w.cell? ⟨bd, 0, none⟩ = some (.func (Fn.func 116) #[] #[.pointer (some ⟨bj, 0, none⟩), .pointer (some ⟨bd, 0, none⟩), .pointer (some ⟨bc, 0, none⟩)]) ∧ w.cell? ⟨bc, 0, none⟩ = some (.func (Fn.func 105) #[] #[]))

theorem CapsLo.heap {bj bd bc : Nat} {w w' : World} (h : CapsLo bj bd bc w) (e : w'.heap = w.heap) : CapsLo bj bd bc w' := by
  have hc : ∀ a, w'.cell? a = w.cell? a := fun a => cell_heap e a
  exact ⟨(hc _).trans h.1, (hc _).trans h.2.1, (hc _).trans h.2.2⟩

set_option maxHeartbeats 3200000 in
set_option maxRecDepth 100000 in
theorem implStepLo (bj bd bc n : Nat) (hn : n ≤ 32) (IH : ∀ l : List Nat, (∀ t ∈ l, t < 32) → l.length ≤ n → l ≠ [] → ∀ w, SW w → CapsLo bj bd bc w → Calls Tryd.prog 116 #[.int .u32 (fm l), .pointer (some ⟨bj, 0, none⟩), .pointer (some ⟨bd, 0, none⟩), .pointer (some ⟨bc, 0, none⟩)] w (fun e w' => e = .returned (.int .i64 (dep min max n l)) ∧ ∃ d, w' = w.drewN d))
    (l : List Nat) (h32 : ∀ t ∈ l, t < 32) (hl : l.length ≤ n + 1) (w : World) (hsw : SW w) (hc : CapsLo bj bd bc w) :
    Calls Tryd.prog 116 #[.int .u32 (fm l), .pointer (some ⟨bj, 0, none⟩), .pointer (some ⟨bd, 0, none⟩), .pointer (some ⟨bc, 0, none⟩)] w (fun e w' => e = .returned (.int .i64 (dep min max (n + 1) l)) ∧ ∃ d, w' = w.drewN d) := by
  have HSW := Lib.hid hsw
  have HC := Lib.hid hc
  have HI := Lib.hid IH
  have H32 := Lib.hid h32
  clear hsw hc IH h32
  go_enter Tryd.func116, Tryd.ntmps116
  go_wp2_with fail
  go_loopw [6, 11] (fun b i wr => ∃ k : Nat, k ≤ 5 ∧ i = .int .i64 k ∧ b = .int .i64 (depTo min max n l k) ∧ ∃ d, wr = w.drewN d) (fun _ i _ => 5 - (intOf i).toNat)
  case atStart => exact ⟨0, Nat.zero_le _, rfl, rfl, 0, rfl⟩
  case round =>
    obtain ⟨k, hk, rfl, rfl, d, rfl⟩ := hrel
    obtain ⟨hb0, hb1⟩ := depTo_bdLo n l k
    by_cases hlt : k < 5
    · have HS := Lib.hid (depTo_succ min max n l k)
      have HSp := Lib.hid (show SW (w.drewN d) from HSW.out)
      have HCp := Lib.hid (show CapsLo bj bd bc (w.drewN d) from HC.out)
      generalize hB : depTo min max n l k = B at *
      clear hB
      have hkI : (k : Int) < 5 := by omega
      go_wp2_with fail
      refine (implSplit l k hlt _ HSp.out).mono ?_
      rintro e w4 ⟨rfl, d4, rfl⟩
      by_cases h1 : wth k l = []
      · have HK := Lib.hid (show depTo min max n l (k + 1) = B by rw [HS.out, stp, if_pos (.inl h1)])
        rw [h1, fm_nil]
        clear h1
        generalize fm (wto k l) = F2 at *
        go_wp2_with fail
        go_roundw
        case rel => exact ⟨k + 1, by omega, by go_num, by rw [HK.out], _, by first | rfl | exact World.drewN_drewN _ _ _⟩
        case measure => simp [intOf]; omega
      · have hf1 : fm (wth k l) ≠ 0 := (fm_ne (wth_lt H32.out)).2 h1
        have hb1' : (fm (wth k l) == 0) = false := by simpa using hf1
        by_cases h2 : wto k l = []
        · have HK := Lib.hid (show depTo min max n l (k + 1) = B by rw [HS.out, stp, if_pos (.inr h2)])
          rw [h2, fm_nil]
          clear h1 h2
          generalize fm (wth k l) = F1 at *
          go_wp2_with fail
          go_roundw
          case rel => exact ⟨k + 1, by omega, by go_num, by rw [HK.out], _, by first | rfl | exact World.drewN_drewN _ _ _⟩
          case measure => simp [intOf]; omega
        · have hf2 : fm (wto k l) ≠ 0 := (fm_ne (wto_lt H32.out)).2 h2
          have hb2' : (fm (wto k l) == 0) = false := by simpa using hf2
          have hlen := split_len k l h1 h2
          have HD1 := Lib.hid (HI.out (wth k l) (wth_lt H32.out) (by omega) h1)
          have HD2 := Lib.hid (HI.out (wto k l) (wto_lt H32.out) (by omega) h2)
          have HK := Lib.hid (show depTo min max n l (k + 1) = (if 0 < B then max B (1 + min (dep min max n (wth k l)) (dep min max n (wto k l))) else 1 + min (dep min max n (wth k l)) (dep min max n (wto k l))) by rw [HS.out, stp, if_neg (by simp [h1, h2])])
          obtain ⟨p0, p1⟩ := dep_bdLo n (wth k l)
          obtain ⟨q0, q1⟩ := dep_bdLo n (wto k l)
          clear h1 h2
          generalize fm (wth k l) = F1 at *
          generalize fm (wto k l) = F2 at *
          generalize dep min max n (wth k l) = D1 at *
          generalize dep min max n (wto k l) = D2 at *
          have HU := Lib.hid (show ∀ F dd, (F = F1 ∧ dd = D1 ∨ F = F2 ∧ dd = D2) → ∀ w0, SW w0 → CapsLo bj bd bc w0 → Calls Tryd.prog 116 #[.int .u32 F, .pointer (some ⟨bj, 0, none⟩), .pointer (some ⟨bd, 0, none⟩), .pointer (some ⟨bc, 0, none⟩)] w0 (fun e w' => e = .returned (.int .i64 dd) ∧ ∃ d, w' = w0.drewN d) from by
            rintro F dd (⟨rfl, rfl⟩ | ⟨rfl, rfl⟩)
            · exact HD1.out
            · exact HD2.out)
          clear HD1 HD2
          rw [World.drewN_drewN]
          obtain ⟨wb, hwb⟩ : ∃ wb, wb = w.drewN (d + d4) := ⟨_, rfl⟩
          rw [← hwb]
          have HWB := Lib.hid hwb
          have HSp2 := Lib.hid (show ∀ q, SW (wb.drewN q) from fun _ => by rw [hwb]; exact HSW.out)
          have HCp2 := Lib.hid (show ∀ q, CapsLo bj bd bc (wb.drewN q) from fun _ => by rw [hwb]; exact HC.out)
          obtain ⟨x0, x1, x2⟩ : CapsLo bj bd bc wb := HCp2.out 0
          clear hwb
          have HJ := Lib.hid (fun w => impl_lesser D1 D2 w)
          go_wp2_with fail
          go_quiet (first | (go_at_call 116; exact Calls.quiet_of (HU.out _ _ (by first | exact .inl ⟨rfl, rfl⟩ | exact .inr ⟨rfl, rfl⟩) _ (HSp2.out _) (HCp2.out _))) | (go_at_call 104; exact Calls.quiet_of_same (HJ.out _)))
          have HDD := Lib.hid (show 0 ≤ min D1 D2 ∧ min D1 D2 ≤ 32 by omega)
          generalize min D1 D2 = DD at *
          have hdd := HDD.out
          obtain ⟨y0, y1, y2⟩ : CapsLo bj bd bc (wb.drewN nq) := HCp2.out nq
          have HEQ := Lib.hid (show wb.drewN nq = w.drewN (d + d4 + nq) by rw [HWB.out, World.drewN_drewN])
          generalize wb.drewN nq = wc at *
          by_cases hB : 0 < B
          · have HK2 := Lib.hid (show depTo min max n l (k + 1) = max B (1 + DD) by rw [HK.out, if_pos hB])
            have hd : decide (0 < B) = true := decide_eq_true hB
            clear x0 x1 x2
            go_wp2_with fail
            refine (impl_greater _ _ _).mono ?_
            rintro e w9 ⟨rfl, rfl⟩
            go_wp2_with fail
            go_roundw
            case rel => exact ⟨k + 1, by omega, by go_num, by rw [HK2.out], _, HEQ.out⟩
            case measure => simp [intOf]; omega
          · have HK2 := Lib.hid (show depTo min max n l (k + 1) = 1 + DD by rw [HK.out, if_neg hB])
            have hd : decide (0 < B) = false := decide_eq_false hB
            clear x0 x1 x2
            go_wp2_with fail
            go_roundw
            case rel => exact ⟨k + 1, by omega, by go_num, by rw [HK2.out], _, HEQ.out⟩
            case measure => simp [intOf]; omega
    · obtain rfl : k = 5 := by omega
      go_wp2_with fail
      go_ret
      exact ⟨rfl, d, rfl⟩

theorem implDepthLo (bj bd bc : Nat) (n : Nat) (hn : n ≤ 32) : ∀ l : List Nat, (∀ t ∈ l, t < 32) → l.length ≤ n + 1 → ∀ w, SW w → CapsLo bj bd bc w → Calls Tryd.prog 116 #[.int .u32 (fm l), .pointer (some ⟨bj, 0, none⟩), .pointer (some ⟨bd, 0, none⟩), .pointer (some ⟨bc, 0, none⟩)] w (fun e w' => e = .returned (.int .i64 (dep min max (n + 1) l)) ∧ ∃ d, w' = w.drewN d) := by
  induction n with
  | zero => exact fun l h32 hl w hs hc => implStepLo bj bd bc 0 hn (fun l _ h1 h2 => absurd (List.eq_nil_of_length_eq_zero (by omega)) h2) l h32 hl w hs hc
  | succ n ih => exact fun l h32 hl w hs hc => implStepLo bj bd bc (n + 1) hn (fun l h1 h2 _ => ih (by omega) l h1 h2) l h32 hl w hs hc

set_option maxHeartbeats 1600000 in
set_option maxRecDepth 100000 in
theorem implTreeLo (l : List Nat) (h32 : ∀ t ∈ l, t < 32) (hl : l.length ≤ 32) (w : World) (hsw : SW w) :
    Calls Tryd.prog 103 #[.int .u32 (fm l), .func (Fn.func 104) #[] #[], .func (Fn.func 105) #[] #[]] w fun e w' => e = .returned (.int .i64 (dep min max 32 l)) ∧ Below w.heap.size w w' := by
  have HSW := Lib.hid hsw
  have HI := Lib.hid (implDepthLo w.heap.size (w.heap.size + 1 + 1) (w.heap.size + 1) 31 (by omega) l h32 hl)
  clear hsw h32
  go_enter Tryd.func103, Tryd.ntmps103
  go_wp2_with fail
  refine (HI.out _ (HSW.out.next (by go_grown)) (by refine ⟨?_, ?_, ?_⟩ <;> simp [go_sem])).mono ?_
  rintro e w1 ⟨rfl, d, rfl⟩
  go_wp2_with fail
  go_ret
  exact ⟨rfl, below_drewN (by go_grown) d⟩

/-- the three captured cells -/
def CapsQu (bj bd bc : Nat) (w : World) : Prop := (w.cell? ⟨bj, 0, none⟩ = some (.func (Fn.func 105) #[] #[]) ∧ w.cell? ⟨bd, 0, none⟩ = some (.func (Fn.func 116) #[] #[.pointer (some ⟨bj, 0, none⟩), .pointer (some ⟨bd, 0, none⟩), .pointer (some ⟨bc, 0, none⟩)]) ∧ w.cell? ⟨bc, 0, none⟩ = some (.func (Fn.func 104) #[] #[]))

theorem CapsQu.heap {bj bd bc : Nat} {w w' : World} (h : CapsQu bj bd bc w) (e : w'.heap = w.heap) : CapsQu bj bd bc w' := by
  have hc : ∀ a, w'.cell? a = w.cell? a := fun a => cell_heap e a
  exact ⟨(hc _).trans h.1, (hc _).trans h.2.1, (hc _).trans h.2.2⟩

set_option maxHeartbeats 3200000 in
set_option maxRecDepth 100000 in
theorem implStepQu (bj bd bc n : Nat) (hn : n ≤ 32) (IH : ∀ l : List Nat, (∀ t ∈ l, t < 32) → l.length ≤ n → l ≠ [] → ∀ w, SW w → CapsQu bj bd bc w → Calls Tryd.prog 116 #[.int .u32 (fm l), .pointer (some ⟨bj, 0, none⟩), .pointer (some ⟨bd, 0, none⟩), .pointer (some ⟨bc, 0, none⟩)] w (fun e w' => e = .returned (.int .i64 (dep max min n l)) ∧ ∃ d, w' = w.drewN d))
    (l : List Nat) (h32 : ∀ t ∈ l, t < 32) (hl : l.length ≤ n + 1) (w : World) (hsw : SW w) (hc : CapsQu bj bd bc w) :
    Calls Tryd.prog 116 #[.int .u32 (fm l), .pointer (some ⟨bj, 0, none⟩), .pointer (some ⟨bd, 0, none⟩), .pointer (some ⟨bc, 0, none⟩)] w (fun e w' => e = .returned (.int .i64 (dep max min (n + 1) l)) ∧ ∃ d, w' = w.drewN d) := by
  have HSW := Lib.hid hsw
  have HC := Lib.hid hc
  have HI := Lib.hid IH
  have H32 := Lib.hid h32
  clear hsw hc IH h32
  go_enter Tryd.func116, Tryd.ntmps116
  go_wp2_with fail
  go_loopw [6, 11] (fun b i wr => ∃ k : Nat, k ≤ 5 ∧ i = .int .i64 k ∧ b = .int .i64 (depTo max min n l k) ∧ ∃ d, wr = w.drewN d) (fun _ i _ => 5 - (intOf i).toNat)
  case atStart => exact ⟨0, Nat.zero_le _, rfl, rfl, 0, rfl⟩
  case round =>
    obtain ⟨k, hk, rfl, rfl, d, rfl⟩ := hrel
    obtain ⟨hb0, hb1⟩ := depTo_bdQu n l k
    by_cases hlt : k < 5
    · have HS := Lib.hid (depTo_succ max min n l k)
      have HSp := Lib.hid (show SW (w.drewN d) from HSW.out)
      have HCp := Lib.hid (show CapsQu bj bd bc (w.drewN d) from HC.out)
      generalize hB : depTo max min n l k = B at *
      clear hB
      have hkI : (k : Int) < 5 := by omega
      go_wp2_with fail
      refine (implSplit l k hlt _ HSp.out).mono ?_
      rintro e w4 ⟨rfl, d4, rfl⟩
      by_cases h1 : wth k l = []
      · have HK := Lib.hid (show depTo max min n l (k + 1) = B by rw [HS.out, stp, if_pos (.inl h1)])
        rw [h1, fm_nil]
        clear h1
        generalize fm (wto k l) = F2 at *
        go_wp2_with fail
        go_roundw
        case rel => exact ⟨k + 1, by omega, by go_num, by rw [HK.out], _, by first | rfl | exact World.drewN_drewN _ _ _⟩
        case measure => simp [intOf]; omega
      · have hf1 : fm (wth k l) ≠ 0 := (fm_ne (wth_lt H32.out)).2 h1
        have hb1' : (fm (wth k l) == 0) = false := by simpa using hf1
        by_cases h2 : wto k l = []
        · have HK := Lib.hid (show depTo max min n l (k + 1) = B by rw [HS.out, stp, if_pos (.inr h2)])
          rw [h2, fm_nil]
          clear h1 h2
          generalize fm (wth k l) = F1 at *
          go_wp2_with fail
          go_roundw
          case rel => exact ⟨k + 1, by omega, by go_num, by rw [HK.out], _, by first | rfl | exact World.drewN_drewN _ _ _⟩
          case measure => simp [intOf]; omega
        · have hf2 : fm (wto k l) ≠ 0 := (fm_ne (wto_lt H32.out)).2 h2
          have hb2' : (fm (wto k l) == 0) = false := by simpa using hf2
          have hlen := split_len k l h1 h2
          have HD1 := Lib.hid (HI.out (wth k l) (wth_lt H32.out) (by omega) h1)
          have HD2 := Lib.hid (HI.out (wto k l) (wto_lt H32.out) (by omega) h2)
          have HK := Lib.hid (show depTo max min n l (k + 1) = (if 0 < B then min B (1 + max (dep max min n (wth k l)) (dep max min n (wto k l))) else 1 + max (dep max min n (wth k l)) (dep max min n (wto k l))) by rw [HS.out, stp, if_neg (by simp [h1, h2])])
          obtain ⟨p0, p1⟩ := dep_bdQu n (wth k l)
          obtain ⟨q0, q1⟩ := dep_bdQu n (wto k l)
          clear h1 h2
          generalize fm (wth k l) = F1 at *
          generalize fm (wto k l) = F2 at *
          generalize dep max min n (wth k l) = D1 at *
          generalize dep max min n (wto k l) = D2 at *
          have HU := Lib.hid (show ∀ F dd, (F = F1 ∧ dd = D1 ∨ F = F2 ∧ dd = D2) → ∀ w0, SW w0 → CapsQu bj bd bc w0 → Calls Tryd.prog 116 #[.int .u32 F, .pointer (some ⟨bj, 0, none⟩), .pointer (some ⟨bd, 0, none⟩), .pointer (some ⟨bc, 0, none⟩)] w0 (fun e w' => e = .returned (.int .i64 dd) ∧ ∃ d, w' = w0.drewN d) from by
            rintro F dd (⟨rfl, rfl⟩ | ⟨rfl, rfl⟩)
            · exact HD1.out
            · exact HD2.out)
          clear HD1 HD2
          rw [World.drewN_drewN]
          obtain ⟨wb, hwb⟩ : ∃ wb, wb = w.drewN (d + d4) := ⟨_, rfl⟩
          rw [← hwb]
          have HWB := Lib.hid hwb
          have HSp2 := Lib.hid (show ∀ q, SW (wb.drewN q) from fun _ => by rw [hwb]; exact HSW.out)
          have HCp2 := Lib.hid (show ∀ q, CapsQu bj bd bc (wb.drewN q) from fun _ => by rw [hwb]; exact HC.out)
          obtain ⟨x0, x1, x2⟩ : CapsQu bj bd bc wb := HCp2.out 0
          clear hwb
          have HJ := Lib.hid (fun w => impl_greater D1 D2 w)
          go_wp2_with fail
          go_quiet (first | (go_at_call 116; exact Calls.quiet_of (HU.out _ _ (by first | exact .inl ⟨rfl, rfl⟩ | exact .inr ⟨rfl, rfl⟩) _ (HSp2.out _) (HCp2.out _))) | (go_at_call 105; exact Calls.quiet_of_same (HJ.out _)))
          have HDD := Lib.hid (show 0 ≤ max D1 D2 ∧ max D1 D2 ≤ 32 by omega)
          generalize max D1 D2 = DD at *
          have hdd := HDD.out
          obtain ⟨y0, y1, y2⟩ : CapsQu bj bd bc (wb.drewN nq) := HCp2.out nq
          have HEQ := Lib.hid (show wb.drewN nq = w.drewN (d + d4 + nq) by rw [HWB.out, World.drewN_drewN])
          generalize wb.drewN nq = wc at *
          by_cases hB : 0 < B
          · have HK2 := Lib.hid (show depTo max min n l (k + 1) = min B (1 + DD) by rw [HK.out, if_pos hB])
            have hd : decide (0 < B) = true := decide_eq_true hB
            clear x0 x1 x2
            go_wp2_with fail
            refine (impl_lesser _ _ _).mono ?_
            rintro e w9 ⟨rfl, rfl⟩
            go_wp2_with fail
            go_roundw
            case rel => exact ⟨k + 1, by omega, by go_num, by rw [HK2.out], _, HEQ.out⟩
            case measure => simp [intOf]; omega
          · have HK2 := Lib.hid (show depTo max min n l (k + 1) = 1 + DD by rw [HK.out, if_neg hB])
            have hd : decide (0 < B) = false := decide_eq_false hB
            clear x0 x1 x2
            go_wp2_with fail
            go_roundw
            case rel => exact ⟨k + 1, by omega, by go_num, by rw [HK2.out], _, HEQ.out⟩
            case measure => simp [intOf]; omega
    · obtain rfl : k = 5 := by omega
      go_wp2_with fail
      go_ret
      exact ⟨rfl, d, rfl⟩

theorem implDepthQu (bj bd bc : Nat) (n : Nat) (hn : n ≤ 32) : ∀ l : List Nat, (∀ t ∈ l, t < 32) → l.length ≤ n + 1 → ∀ w, SW w → CapsQu bj bd bc w → Calls Tryd.prog 116 #[.int .u32 (fm l), .pointer (some ⟨bj, 0, none⟩), .pointer (some ⟨bd, 0, none⟩), .pointer (some ⟨bc, 0, none⟩)] w (fun e w' => e = .returned (.int .i64 (dep max min (n + 1) l)) ∧ ∃ d, w' = w.drewN d) := by
  induction n with
  | zero => exact fun l h32 hl w hs hc => implStepQu bj bd bc 0 hn (fun l _ h1 h2 => absurd (List.eq_nil_of_length_eq_zero (by omega)) h2) l h32 hl w hs hc
  | succ n ih => exact fun l h32 hl w hs hc => implStepQu bj bd bc (n + 1) hn (fun l h1 h2 _ => ih (by omega) l h1 h2) l h32 hl w hs hc

set_option maxHeartbeats 1600000 in
set_option maxRecDepth 100000 in
theorem implTreeQu (l : List Nat) (h32 : ∀ t ∈ l, t < 32) (hl : l.length ≤ 32) (w : World) (hsw : SW w) :
    Calls Tryd.prog 103 #[.int .u32 (fm l), .func (Fn.func 105) #[] #[], .func (Fn.func 104) #[] #[]] w fun e w' => e = .returned (.int .i64 (dep max min 32 l)) ∧ Below w.heap.size w w' := by
  have HSW := Lib.hid hsw
  have HI := Lib.hid (implDepthQu w.heap.size (w.heap.size + 1 + 1) (w.heap.size + 1) 31 (by omega) l h32 hl)
  clear hsw h32
  go_enter Tryd.func103, Tryd.ntmps103
  go_wp2_with fail
  refine (HI.out _ (HSW.out.next (by go_grown)) (by refine ⟨?_, ?_, ?_⟩ <;> simp [go_sem])).mono ?_
  rintro e w1 ⟨rfl, d, rfl⟩
  go_wp2_with fail
  go_ret
  exact ⟨rfl, below_drewN (by go_grown) d⟩

/-- what mistakeDepth answers -/
def mst (l : List Nat) : Int := if l = [] then -1 else dep min max 32 l
def qst (l : List Nat) : Int := dep max min 32 l

set_option maxHeartbeats 800000 in
theorem implMistakeDepth (l : List Nat) (h32 : ∀ t ∈ l, t < 32) (hl : l.length ≤ 32) (w : World) (hsw : SW w) :
    Calls Tryd.prog 76 #[.int .u32 (fm l)] w fun e w' => e = .returned (.int .i64 (mst l)) ∧ Below w.heap.size w w' := by
  have HSW := Lib.hid hsw
  have HT := Lib.hid (implTreeLo l h32 hl)
  clear hsw
  by_cases h : l = []
  · have HM := Lib.hid (show mst l = -1 by rw [mst, if_pos h])
    rw [h, fm_nil]
    go_enter Tryd.func76, Tryd.ntmps76
    go_wp2_with fail
    go_ret
    exact ⟨ret_int (by rw [← h, HM.out]), Below.refl _ _⟩
  · have HM := Lib.hid (show mst l = dep min max 32 l by rw [mst, if_neg h])
    have hf := (fm_ne h32).2 h
    have hfb : (fm l == 0) = false := by simpa using hf
    clear h h32
    generalize fm l = F at *
    go_enter Tryd.func76, Tryd.ntmps76
    go_wp2_with fail
    refine (HT.out _ HSW.out).mono ?_
    rintro e w1 ⟨rfl, hb⟩
    go_wp2_with fail
    go_ret
    exact ⟨ret_int HM.out.symm, hb⟩

set_option maxHeartbeats 800000 in
theorem implQuestionDepth (l : List Nat) (h32 : ∀ t ∈ l, t < 32) (hl : l.length ≤ 32) (w : World) (hsw : SW w) :
    Calls Tryd.prog 83 #[.int .u32 (fm l)] w fun e w' => e = .returned (.int .i64 (qst l)) ∧ Below w.heap.size w w' := by
  have HSW := Lib.hid hsw
  have HT := Lib.hid (implTreeQu l h32 hl)
  clear hsw h32
  generalize fm l = F at *
  go_enter Tryd.func83, Tryd.ntmps83
  go_wp2_with fail
  refine (HT.out _ HSW.out).mono ?_
  rintro e w1 ⟨rfl, hb⟩
  go_wp2_with fail
  go_ret
  exact ⟨rfl, hb⟩

end Go.Proofs.YtiocaopabkbgpaaDoor

namespace Go.Proofs.YtiocaopabkbgpaaDoor
open Go.RowKit

theorem wth_nil {x n : Nat} {l : List Nat} (hl : ∀ t ∈ l, t < 2 ^ n) (hx : n ≤ x) : wth x l = [] := by
  rw [wth, List.filter_eq_nil_iff]
  intro t ht
  have h1 := hl t ht
  have h2 : 2 ^ n ≤ 2 ^ x := Nat.pow_le_pow_right (by omega) hx
  simp only [hasX, decide_eq_true_eq]
  rw [Nat.div_eq_of_lt (by omega)]
  omega
theorem stp_skip {J C : Int → Int → Int} {D : List Nat → Int} {l : List Nat} {b : Int} {x : Nat} (h : wth x l = [] ∨ wto x l = []) : stp J C D l b x = b := by rw [stp, if_pos h]
theorem dep_fuel (J C : Int → Int → Int) (n m : Nat) (l : List Nat) (h1 : l.length ≤ n) (h2 : l.length ≤ m) : dep J C n l = dep J C m l := by
  induction n generalizing m l with
  | zero =>
    have hl := List.eq_nil_of_length_eq_zero (Nat.le_zero.1 h1)
    subst hl
    cases m with
    | zero => rfl
    | succ m => simp [dep, List.range_succ, stp, wth]
  | succ n ih =>
    cases m with
    | zero =>
      have hl := List.eq_nil_of_length_eq_zero (Nat.le_zero.1 h2)
      subst hl
      simp [dep, List.range_succ, stp, wth]
    | succ m =>
      simp only [dep]
      congr 1
      funext b x
      simp only [stp]
      by_cases e : wth x l = [] ∨ wto x l = []
      · rw [if_pos e, if_pos e]
      · have e1 : wth x l ≠ [] := fun h => e (.inl h)
        have e2 : wto x l ≠ [] := fun h => e (.inr h)
        have := split_len x l e1 e2
        rw [if_neg e, if_neg e, ih m (wth x l) (by omega) (by omega), ih m (wto x l) (by omega) (by omega)]
theorem depTo_up (J C : Int → Int → Int) (f : Nat) {n : Nat} {l : List Nat} (hl : ∀ t ∈ l, t < 2 ^ n) (k : Nat) : depTo J C f l (n + k) = depTo J C f l n := by
  induction k with
  | zero => rfl
  | succ k ih => rw [show n + (k + 1) = (n + k) + 1 from rfl, depTo_succ, stp_skip (.inl (wth_nil hl (by omega))), ih]
theorem depTo_end (J C : Int → Int → Int) {n : Nat} (hn : n ≤ 5) {l : List Nat} (hl : ∀ t ∈ l, t < 2 ^ n) : depTo J C 31 l n = dep J C 32 l := by
  have := depTo_up J C 31 hl (5 - n)
  rw [show n + (5 - n) = 5 by omega] at this
  rw [← this]
  rfl
theorem wth_pts {x n : Nat} {l : List Nat} (hl : ∀ t ∈ l, t < 2 ^ n) : ∀ t ∈ wth x l, t < 2 ^ n := fun t ht => hl t (List.mem_filter.1 ht).1
theorem wto_pts {x n : Nat} {l : List Nat} (hl : ∀ t ∈ l, t < 2 ^ n) : ∀ t ∈ wto x l, t < 2 ^ n := fun t ht => hl t (List.mem_filter.1 ht).1
theorem mst_ne {l : List Nat} (h : l ≠ []) (hl : l.length ≤ 31) : mst l = dep min max 31 l := by
  rw [mst, if_neg h]
  exact dep_fuel _ _ _ _ _ (by omega) (by omega)

set_option maxHeartbeats 3200000 in
set_option maxRecDepth 100000 in
theorem specLit_step (n N : Nat) (hn : n ≤ 5) (IH : ∀ (l : List Nat) (v : Value) (w : World), l.length < N → (∀ t ∈ l, t < 2 ^ n) → Rd w v (toI l) → Calls Tryd.prog 90 #[v, .int .i64 (n : Int)] w (fun e w' => e = .returned (.int .i64 (mst l)) ∧ Below w.heap.size w w'))
    (l : List Nat) (v : Value) (w : World) (hN : l.length ≤ N) (h32 : l.length ≤ 32) (hpt : ∀ t ∈ l, t < 2 ^ n) (h : Rd w v (toI l)) :
    Calls Tryd.prog 90 #[v, .int .i64 (n : Int)] w (fun e w' => e = .returned (.int .i64 (mst l)) ∧ Below w.heap.size w w') := by
  have H := Lib.hid h
  have HI := Lib.hid IH
  have HP := Lib.hid hpt
  have HL32 := Lib.hid (fun t ht => Nat.lt_of_lt_of_le (hpt t ht) (pow_le_32 hn))
  clear IH hpt
  obtain ⟨a, b, off, cap, rfl, _, _, _⟩ := h
  rw [toI_length] at H ⊢
  by_cases hl : l = []
  · have HM := Lib.hid (show mst l = -1 by rw [mst, if_pos hl])
    have hl0 : l.length = 0 := by rw [hl]; rfl
    rw [hl0]
    clear hl hl0
    go_enter Tryd.func90, Tryd.ntmps90
    go_wp2_with fail
    go_ret
    exact ⟨ret_int HM.out.symm, Below.refl _ _⟩
  · have HM := Lib.hid (show mst l = dep min max 32 l by rw [mst, if_neg hl])
    have hpos := List.length_pos_iff.2 hl
    have hfl : ((l.length : Int) == 0) = false := by simp; exact hl
    clear hl
    generalize hq : l.length = L at *
    have HQ := Lib.hid hq
    clear hq
    go_enter Tryd.func90, Tryd.ntmps90
    go_wp2_with fail
    go_loopw [5, 6] (fun bb i wr => ∃ k : Nat, k ≤ n ∧ i = .int .i64 k ∧ bb = .int .i64 (depTo min max 31 l k) ∧ Below w.heap.size w wr) (fun _ i _ => n - (intOf i).toNat)
    case atStart => exact ⟨0, Nat.zero_le _, rfl, rfl, Below.refl _ _⟩
    case round =>
      obtain ⟨k, hk, rfl, rfl, hbe⟩ := hrel
      obtain ⟨hb0, hb1⟩ := depTo_bdLo 31 l k
      have HBE := Lib.hid hbe
      have hz := hbe.size
      have R2 := Lib.hid (H.out.below hbe (Nat.le_refl _))
      clear hbe
      by_cases hlt : k < n
      · have HS := Lib.hid (depTo_succ min max 31 l k)
        generalize hB : depTo min max 31 l k = B at *
        clear hB
        go_wp2_with fail
        refine (specYes _ l k (by omega) HL32.out (by rw [HQ.out]; omega) _ R2.out).mono ?_
        rintro e w3 ⟨a3, c3, rfl, hin3, hb3⟩
        have hz3 := hb3.size
        have R3 := Lib.hid hin3.rd
        have R23 := Lib.hid (R2.out.below hb3 (Nat.le_refl _))
        have B3 := Lib.hid (HBE.out.trans (hb3.mono hz))
        rw [toI_length] at R3 ⊢
        clear hin3 hb3
        go_wp2_with fail
        refine (specNo _ l k (by omega) HL32.out (by rw [HQ.out]; omega) _ R23.out).mono ?_
        rintro e w4 ⟨a4, c4, rfl, hin4, hb4⟩
        have hz4 := hb4.size
        have R4 := Lib.hid hin4.rd
        have R34 := Lib.hid (R3.out.below hb4 (Nat.le_refl _))
        have B4 := Lib.hid (B3.out.trans (hb4.mono (by omega)))
        rw [toI_length] at R4 ⊢
        clear hin4 hb4
        by_cases h1 : wth k l = []
        · have HK := Lib.hid (show depTo min max 31 l (k + 1) = B by rw [HS.out, stp_skip (.inl h1)])
          have hl1 : (wth k l).length = 0 := by rw [h1]; rfl
          rw [hl1]
          clear h1 hl1
          generalize (wto k l).length = L2 at *
          go_wp2_with fail
          go_roundw
          case rel => exact ⟨k + 1, by omega, by go_num, by rw [HK.out], B4.out⟩
          case measure => simp [intOf]; omega
        · have hl1 : 0 < (wth k l).length := List.length_pos_iff.2 h1
          have hd1 : decide ((0 : Int) < ((wth k l).length : Int)) = true := decide_eq_true (by omega)
          by_cases h2 : wto k l = []
          · have HK := Lib.hid (show depTo min max 31 l (k + 1) = B by rw [HS.out, stp_skip (.inr h2)])
            have hl2 : (wto k l).length = 0 := by rw [h2]; rfl
            rw [hl2]
            clear h1 h2 hl2
            generalize (wth k l).length = L1 at *
            go_wp2_with fail
            go_roundw
            case rel => exact ⟨k + 1, by omega, by go_num, by rw [HK.out], B4.out⟩
            case measure => simp [intOf]; omega
          · have hl2 : 0 < (wto k l).length := List.length_pos_iff.2 h2
            have hd2 : decide ((0 : Int) < ((wto k l).length : Int)) = true := decide_eq_true (by omega)
            have hlen := split_len k l h1 h2
            rw [HQ.out] at hlen
            have HD1 := Lib.hid (fun v w h => HI.out (wth k l) v w (by omega) (wth_pts HP.out) h)
            have HD2 := Lib.hid (fun v w h => HI.out (wto k l) v w (by omega) (wto_pts HP.out) h)
            rw [mst_ne h1 (by omega)] at HD1
            rw [mst_ne h2 (by omega)] at HD2
            obtain ⟨p0, p1⟩ := dep_bdLo 31 (wth k l)
            obtain ⟨q0, q1⟩ := dep_bdLo 31 (wto k l)
            have HK := Lib.hid (show depTo min max 31 l (k + 1) = max B (1 + min (dep min max 31 (wth k l)) (dep min max 31 (wto k l))) by
              rw [HS.out, stp, if_neg (by simp [h1, h2])]
              split <;> omega)
            clear h1 h2
            generalize dep min max 31 (wth k l) = D1 at *
            generalize dep min max 31 (wto k l) = D2 at *
            generalize wth k l = l1 at *
            generalize wto k l = l2 at *
            generalize l1.length = L1 at *
            generalize l2.length = L2 at *
            go_wp2_with fail
            refine (HD1.out _ _ R34.out).mono ?_
            rintro e w5 ⟨rfl, hb5⟩
            have hz5 := hb5.size
            have R45 := Lib.hid (R4.out.below hb5 (Nat.le_refl _))
            have B5 := Lib.hid (B4.out.trans (hb5.mono (by omega)))
            clear hb5
            go_wp2_with fail
            refine (HD2.out _ _ R45.out).mono ?_
            rintro e w6 ⟨rfl, hb6⟩
            have B6 := Lib.hid (B5.out.trans (hb6.mono (by omega)))
            clear hb6
            go_wp2_with fail
            all_goals
              go_roundw
              case rel => exact ⟨k + 1, by omega, by go_num, by rw [HK.out]; congr 1; omega, B6.out⟩
              case measure => simp [intOf]; omega
      · obtain rfl : k = n := by omega
        have HE := Lib.hid (depTo_end min max hn HP.out)
        rw [HE.out]
        go_wp2_with fail
        go_ret
        exact ⟨ret_int HM.out.symm, HBE.out⟩

theorem specLittlestone (n : Nat) (hn : n ≤ 5) (l : List Nat) (v : Value) (w : World) (h32 : l.length ≤ 32) (hpt : ∀ t ∈ l, t < 2 ^ n) (h : Rd w v (toI l)) :
    Calls Tryd.prog 90 #[v, .int .i64 (n : Int)] w (fun e w' => e = .returned (.int .i64 (mst l)) ∧ Below w.heap.size w w') := by
  suffices key : ∀ N, N ≤ 32 → ∀ (l : List Nat) (v : Value) (w : World), l.length ≤ N → (∀ t ∈ l, t < 2 ^ n) → Rd w v (toI l) → Calls Tryd.prog 90 #[v, .int .i64 (n : Int)] w (fun e w' => e = .returned (.int .i64 (mst l)) ∧ Below w.heap.size w w') from
    key 32 (Nat.le_refl _) l v w h32 hpt h
  intro N hN
  induction N with
  | zero => exact fun l v w h1 h2 h3 => specLit_step n 0 hn (fun _ _ _ h _ _ => absurd h (by omega)) l v w h1 (by omega) h2 h3
  | succ N ih => exact fun l v w h1 h2 h3 => specLit_step n (N + 1) hn (fun l' v' w' h4 h5 h6 => ih (by omega) l' v' w' (by omega) h5 h6) l v w h1 (by omega) h2 h3

end Go.Proofs.YtiocaopabkbgpaaDoor
