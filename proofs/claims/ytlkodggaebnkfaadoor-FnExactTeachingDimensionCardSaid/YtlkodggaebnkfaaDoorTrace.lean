/- The model's trace, validSet, TraceOf, shatters, IsShattered. Conditions: Sets is a slice of ints. -/
import Derived.Test.YtlkodggaebnkfaaDoorTidy
import Derived.Test.YtlkodggaebnkfaaDoorValS
namespace Go.Proofs.YtlkodggaebnkfaaDoor
open Go.RowKit

theorem RetInts.after {xs : List Int} {w w2 w' : World} {e : Ending} (hb : Below w.heap.size w w2) (h : RetInts xs w2 e w') : RetInts xs w e w' := by
  obtain ⟨a, c, he, hin, hb2⟩ := h
  exact ⟨a, c, he, hin.mono hb.size, hb.trans (hb2.mono hb.size)⟩

theorem and_lt32 {a : Nat} (s : Nat) (h : a < 32) : a &&& s < 32 := Nat.lt_of_le_of_lt Nat.and_le_left h

theorem tidy_tr (ns : List Nat) (s : Nat) : tidyL (ns.map (fun t => t &&& s)) = tr ns s := by
  unfold tidyL tr
  apply flt_congr
  intro x _
  rw [Bool.eq_iff_iff]
  simp

set_option maxHeartbeats 1600000 in
set_option maxRecDepth 100000 in
theorem specTrace (v : Value) (ns : List Nat) (s : Nat) (w : World) (hm : ∀ m ∈ ns, m < 32) (hlen : ns.length ≤ 1048576) (hs : s < 32) (h : Rd w v (toI ns)) :
    Calls Tryd.prog 72 #[v, .int .i64 s] w (RetInts (toI (tr ns s)) w) := by
  obtain ⟨a, b, off, cap, rfl, h1, h3, h5⟩ := h
  rw [toI_length] at *
  have H5 := Lib.hid h5
  have H1 := Lib.hid h1
  clear h5 h1
  go_enter Tryd.func72, Tryd.ntmps72
  go_wp2_with fail
  go_loopw [5, 6] (fun o i wr => ∃ k : Nat, k ≤ ns.length ∧ i = .int .i64 k ∧ (∃ a' c', o = .slice a' k c') ∧ Ints w.heap.size wr o (toI ((ns.map (fun t => t &&& s)).take k)) ∧ Below w.heap.size w wr) (fun _ i _ => ns.length - (intOf i).toNat)
  case atStart =>
    refine ⟨0, Nat.zero_le _, rfl, ⟨_, _, rfl⟩, ?_, ?_⟩
    · exact Ints.lit _ _ (Nat.le_refl _)
    · go_grown
  case round =>
    obtain ⟨k, hk, rfl, ⟨a', c', rfl⟩, hin, hbe⟩ := hrel
    have HIN := Lib.hid hin
    have HBE := Lib.hid hbe
    have hsz := hbe.size
    clear hin hbe
    by_cases hlt : k < ns.length
    · obtain ⟨rfl, hbl⟩ := H1.out (by omega)
      have hc := (HBE.out.cell (p := ⟨b, off + k, none⟩) hbl).trans (H5.out k hlt)
      rw [toI_getD] at hc
      have hx := hm _ (getD_of_lt hlt)
      have HT := Lib.hid (show (ns.map (fun t => t &&& s)).take (k + 1) = (ns.map (fun t => t &&& s)).take k ++ [ns.getD k 0 &&& s] by
        rw [List.take_add_one]
        simp [List.getElem?_eq_getElem hlt, List.getD])
      have HAl := Lib.hid (show (toI ((ns.map (fun t => t &&& s)).take k)).length = k by simp [toI_length]; omega)
      generalize (ns.map (fun t => t &&& s)).take k = A at *
      generalize ns.getD k 0 = x at *
      go_wp2_with fail
      refine (specMeet x s (by omega) (by omega) _).mono ?_
      rintro e w1 ⟨rfl, rfl⟩
      generalize hz : x &&& s = z at *
      clear hz
      go_wp2_with (at_builtin; refine wpList_app rfl (.tmp 14) (.tmp 21) rfl w.heap.size _ (toI A) rfl (by exact HIN.out.alloc _) _ _ _ [(z : Int)] rfl (src_cell (by rw [World.cell?_alloc_at _ _ _ _ rfl]; rfl)) (by rw [HAl.out]; omega) (by simp; omega) ?_; intro a1 c1 w1 hin1 hb1 hg1)
      rw [HAl.out] at hin1
      have hW : Below w.heap.size w w1 := HBE.out.trans (Below.trans ((Below.refl _ _).alloc (by omega) _) hb1)
      have HW := Lib.hid hW
      have HI1 := Lib.hid hin1
      clear hW hin1 hb1 hg1
      go_roundw
      case rel => exact ⟨k + 1, by omega, by go_num, ⟨_, _, by rw [HAl.out]⟩, by rw [HT.out, toI_append, HAl.out]; exact HI1.out, HW.out⟩
      case measure => simp [intOf]; omega
    · obtain rfl : k = ns.length := by omega
      have hfull : (ns.map (fun t => t &&& s)).take ns.length = ns.map (fun t => t &&& s) := List.take_of_length_le (by simp)
      rw [hfull] at HIN
      clear hfull
      go_wp2_with fail
      refine (specTidy _ (ns.map (fun t => t &&& s)) _ (fun m hm' => ?_) (by simp; omega) HIN.out.rd).mono ?_
      · obtain ⟨t, ht, rfl⟩ := List.mem_map.1 hm'
        exact and_lt32 s (hm t ht)
      · intro e w2 h2
        rw [tidy_tr] at h2
        obtain ⟨a2, c2, rfl, hin2, hb2⟩ := RetInts.after HBE.out h2
        have HI2 := Lib.hid hin2
        have HB2 := Lib.hid hb2
        clear hin2 hb2 h2
        go_wp2_with fail
        go_ret
        exact ⟨a2, c2, rfl, HI2.out, HB2.out⟩

end Go.Proofs.YtlkodggaebnkfaaDoor
