/- The sets of one class, with those of another one put behind them: behind, the program's. Conditions: few small sets. -/
import Derived.Deep.Cut
import Derived.Deep.RegionHeld3
import Derived.Test.YtnoppclajhfnjabDoorZA
import Derived.Test.YtnoppclajhfnjabDoorZH
namespace Go.Proofs.YtnoppclajhfnjabDoor
open Go.RowKit

/-- the first j sets with t behind their m points -/
def pdIn (m : Nat) (ns : List Nat) (t j : Nat) : List Nat := (ns.take j).map (fun s => s + t * 2 ^ m)
/-- the sets with each of the first k of the others behind them -/
def pdTo (m : Nat) (ns ms : List Nat) (k : Nat) : List Nat := (ms.take k).flatMap (fun t => pdIn m ns t ns.length)
theorem pdIn_len {m : Nat} {ns : List Nat} {t j : Nat} (h : j ≤ ns.length) : (pdIn m ns t j).length = j := by simp [pdIn]; omega
theorem pdIn_succ {m : Nat} {ns : List Nat} {t j : Nat} (h : j < ns.length) : pdIn m ns t (j + 1) = pdIn m ns t j ++ [ns.getD j 0 + t * 2 ^ m] := by
  rw [pdIn, List.take_succ_eq_append_getElem h, List.map_append, List.getD_eq_getElem?_getD, List.getElem?_eq_getElem h]; rfl
theorem pdTo_succ {m : Nat} {ns ms : List Nat} {k : Nat} (h : k < ms.length) : pdTo m ns ms (k + 1) = pdTo m ns ms k ++ pdIn m ns (ms.getD k 0) ns.length := by
  rw [pdTo, List.take_succ_eq_append_getElem h, List.flatMap_append, List.getD_eq_getElem?_getD, List.getElem?_eq_getElem h]; simp [pdTo]
theorem pdTo_len {m : Nat} {ns ms : List Nat} : ∀ k, k ≤ ms.length → (pdTo m ns ms k).length = k * ns.length
  | 0, _ => by simp [pdTo]
  | k + 1, h => by
    rw [pdTo_succ (by omega), List.length_append, pdTo_len k (by omega), pdIn_len (Nat.le_refl _), Nat.succ_mul]
theorem or_behind {m s t : Nat} (h : s < 2 ^ m) : s ||| t * 2 ^ m = s + t * 2 ^ m := by
  rw [Nat.or_comm, Nat.mul_comm t, ← Nat.two_pow_add_eq_or_of_lt h, Nat.add_comm]

set_option maxHeartbeats 3200000 in
set_option maxRecDepth 100000 in
theorem implBehind (m : Nat) (hm : m ≤ 5) (va : Value) (ns : List Nat) (n2 : Int) (vb : Value) (ms : List Nat) (w : World) (ha : Rd w va (toI ns)) (hb : Rd w vb (toI ms)) (h1 : ∀ s ∈ ns, s < 2 ^ m) (h2 : ∀ t ∈ ms, t < 32) (l1 : ns.length ≤ 32) (l2 : ms.length ≤ 32) :
    Calls Tryd.prog 132 #[.agg #[.int .i64 (m : Int), va], .agg #[.int .i64 n2, vb]] w (RetInts (toI (pdTo m ns ms ms.length)) w) := by
  obtain ⟨a, ba, oa, ca, rfl, a1, _, a5⟩ := ha
  obtain ⟨b, bb, ob, cb, rfl, b1, _, b5⟩ := hb
  simp only [toI_length] at a1 a5 b1 b5 ⊢
  have HA1 := Lib.hid a1
  have HA5 := Lib.hid a5
  have HB1 := Lib.hid b1
  have HB5 := Lib.hid b5
  have H1 := Lib.hid h1
  have H2 := Lib.hid h2
  have hp5 := pow_le_32 hm
  clear a1 a5 b1 b5 h1 h2
  have X := Lib.hid (show Bx (m : Int) (.slice a ns.length ca) w.heap.size ((w.alloc (Obj.cells #[.int .i64 (m : Int), .slice a ns.length ca] 25)).alloc (Obj.cells #[.int .i64 n2, .slice b ms.length cb] 25)) from (Bx.new _ _ _).alloc _)
  have Y := Lib.hid (show Bx n2 (.slice b ms.length cb) (w.heap.size + 1) ((w.alloc (Obj.cells #[.int .i64 (m : Int), .slice a ns.length ca] 25)).alloc (Obj.cells #[.int .i64 n2, .slice b ms.length cb] 25)) from heap_alloc_at (by simp))
  have B := Lib.hid (show Below w.heap.size w ((w.alloc (Obj.cells #[.int .i64 (m : Int), .slice a ns.length ca] 25)).alloc (Obj.cells #[.int .i64 n2, .slice b ms.length cb] 25)) from ((Below.refl _ _).alloc (Nat.le_refl _) _).alloc (by simp) _)
  have HZ := Lib.hid (show ((w.alloc (Obj.cells #[.int .i64 (m : Int), .slice a ns.length ca] 25)).alloc (Obj.cells #[.int .i64 n2, .slice b ms.length cb] 25)).heap.size = w.heap.size + 2 by simp)
  have HLen := Lib.hid (fun k (h : k ≤ ms.length) => pdTo_len (m := m) (ns := ns) k h)
  generalize hLa : ns.length = La at *
  generalize hLb : ms.length = Lb at *
  go_enter Tryd.func132, Tryd.ntmps132
  have x0 := X.out.out.at0
  have x1 := X.out.out.at1
  have y0 := Y.out.out.at0
  have y1 := Y.out.out.at1
  go_wp2_with fail
  clear x0 x1 y0 y1
  generalize (w.alloc (Obj.cells #[.int .i64 (m : Int), .slice a La ca] 25)).alloc (Obj.cells #[.int .i64 n2, .slice b Lb cb] 25) = w0 at *
  have hz0 : w.heap.size + 2 ≤ w0.heap.size := Nat.le_of_eq HZ.out.symm
  clear HZ
  go_loopw [5, 13] (fun o i wr => ∃ (k c' : Nat) (a' : Option Addr), k ≤ Lb ∧ i = .int .i64 k ∧ o = .slice a' (k * La) c' ∧ Ints w0.heap.size wr (.slice a' (k * La) c') (toI (pdTo m ns ms k)) ∧ Below w0.heap.size w0 wr) (fun _ i _ => Lb - (intOf i).toNat)
  case atStart => exact ⟨0, 0, none, Nat.zero_le _, rfl, by rw [Nat.zero_mul], by rw [Nat.zero_mul]; exact Ints.nil _ _, Below.refl _ _⟩
  case round =>
    obtain ⟨k, c', a', hk, rfl, rfl, hin, hbe⟩ := hrel
    have IO := Lib.hid hin
    have HBE := Lib.hid hbe
    have hzr := hbe.size
    have X2 := Lib.hid (X.out.next hbe (by omega))
    have Y2 := Lib.hid (Y.out.next hbe (by omega))
    clear hin
    by_cases hlt : k < Lb
    · obtain ⟨rfl, hbl⟩ := HB1.out (by omega)
      have hct := (hbe.cell (p := ⟨bb, ob + k, none⟩) (show bb < w0.heap.size by omega)).trans ((B.out.cell (p := ⟨bb, ob + k, none⟩) hbl).trans (HB5.out k hlt))
      rw [toI_getD] at hct
      have ht32 := H2.out _ (getD_of_lt (show k < ms.length by omega))
      have HPT := Lib.hid (pdTo_succ (m := m) (ns := ns) (show k < ms.length by omega))
      generalize ms.getD k 0 = t at *
      clear hbe
      have hkI : (k : Int) < (Lb : Int) := by omega
      have hkl : k * La ≤ 992 := Nat.le_trans (Nat.mul_le_mul (show k ≤ 31 by omega) l1) (by omega)
      have x0 := X2.out.out.at0
      have x1 := X2.out.out.at1
      have y0 := Y2.out.out.at0
      have y1 := Y2.out.out.at1
      go_wp2_with fail
      clear x0 x1 y0 y1 hct
      go_loopw [5, 20] (fun o i ws => ∃ (j c' : Nat) (a' : Option Addr), j ≤ La ∧ i = .int .i64 j ∧ o = .slice a' (k * La + j) c' ∧ Ints w0.heap.size ws (.slice a' (k * La + j) c') (toI (pdTo m ns ms k ++ pdIn m ns t j)) ∧ Below w0.heap.size w0 ws) (fun _ i _ => La - (intOf i).toNat)
      case atStart => exact ⟨0, _, _, Nat.zero_le _, rfl, rfl, by rw [show pdIn m ns t 0 = [] from rfl, List.append_nil]; exact IO.out, HBE.out⟩
      case round =>
        rename_i ws
        obtain ⟨j, c2, a2, hj, rfl, rfl, hin, hbe⟩ := hrel
        have IS := Lib.hid hin
        have HBS := Lib.hid hbe
        have hzs := hbe.size
        have X3 := Lib.hid (X.out.next hbe (by omega))
        clear hin
        by_cases hjl : j < La
        · obtain ⟨rfl, hal⟩ := HA1.out (by omega)
          have hcs := (hbe.cell (p := ⟨ba, oa + j, none⟩) (show ba < w0.heap.size by omega)).trans ((B.out.cell (p := ⟨ba, oa + j, none⟩) hal).trans (HA5.out j hjl))
          rw [toI_getD] at hcs
          have hs := H1.out _ (getD_of_lt (show j < ns.length by omega))
          have HPI := Lib.hid (pdIn_succ (m := m) (t := t) (show j < ns.length by omega))
          generalize ns.getD j 0 = s at *
          clear hbe
          have hjI : (j : Int) < (La : Int) := by omega
          have x0 := X3.out.out.at0
          have x1 := X3.out.out.at1
          have HSl := Lib.hid (show (toI (pdTo m ns ms k ++ pdIn m ns t j)).length = k * La + j by rw [toI_length, List.length_append, pdTo_len k (by omega), pdIn_len (by omega), hLa])
          have hx4 : t * 2 ^ m < 1024 := Nat.lt_of_lt_of_le (Nat.mul_lt_mul_of_lt_of_le ht32 hp5 (by omega)) (by omega)
          have hor := i64_or s (t * 2 ^ m) (by omega) (by omega)
          rw [or_behind hs] at hor
          have hwI : wrap64 ((t : Int) * 2 ^ m) = ((t * 2 ^ m : Nat) : Int) := by
            have : (t : Int) * 2 ^ m = ((t * 2 ^ m : Nat) : Int) := by simp
            rw [this]
            simp only [wrap64]
            omega
          generalize s + t * 2 ^ m = y at *
          generalize t * 2 ^ m = x at *
          clear hs hx4
          go_wp2_with (at_builtin; refine wpList_app rfl (.tmp 24) (.tmp 31) rfl w0.heap.size _ (toI (pdTo m ns ms k ++ pdIn m ns t j)) rfl (by exact IS.out.alloc _) _ _ _ [(y : Int)] rfl (src_cell (by rw [World.cell?_alloc_at _ _ _ _ rfl]; rfl)) (by rw [HSl.out]; omega) (by simp; omega) ?_; intro a3 c3 w6 hin6 hb6 hg6; rw [HSl.out] at hin6 ⊢; have I6 := Lib.hid hin6; have B6 := Lib.hid (show Below w0.heap.size w0 w6 from (HBS.out.alloc (by omega) _).trans hb6); clear hin6 hb6 hg6)
          go_roundw
          case rel => exact ⟨j + 1, c3, a3, by omega, by go_num, rfl, by rw [HPI.out, ← List.append_assoc, toI_append]; exact I6.out, B6.out⟩
          case measure => simp [intOf]; omega
        · obtain rfl : j = La := by omega
          rw [hLa] at HPT
          go_wp2_with fail
          go_roundw
          case rel => exact ⟨k + 1, c2, a2, by omega, by go_num, by rw [Nat.succ_mul], by rw [HPT.out, Nat.succ_mul]; exact IS.out, HBS.out⟩
          case measure => simp [intOf]; omega
    · obtain rfl : k = Lb := by omega
      go_wp2_with fail
      go_ret
      have hfin : (toI (pdTo m ns ms k)).length = k * La := by rw [toI_length, pdTo_len _ (by omega), hLa]
      refine ⟨a', c', by rw [hfin]; rfl, ?_, B.out.trans (HBE.out.mono (by omega))⟩
      rw [hfin]
      exact IO.out.mono (by omega)

end Go.Proofs.YtnoppclajhfnjabDoor
