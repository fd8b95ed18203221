/- The model's neighbours: the places of the sets that differ at one point. Conditions: Sets is a slice of ints below 32. -/
import Derived.Test.YtgldckgecoijfaaDst
import Derived.Test.YtgldckgecoijfaaEdgS
namespace Go.Proofs.Ytgldckgecoijfaa
open Go.RowKit

/-- the places of the sets that differ from the i-th one at one point, among the first k -/
def nbTo (ns : List Nat) (i k : Nat) : List Nat := (List.range k).filter (fun j => adj (ns.getD i 0) (ns.getD j 0))
theorem nbTo_yes {ns : List Nat} {i k : Nat} (h : adj (ns.getD i 0) (ns.getD k 0) = true) : nbTo ns i (k + 1) = nbTo ns i k ++ [k] := by
  simp only [nbTo, List.range_succ, List.filter_append, List.filter_cons, List.filter_nil, h, ↓reduceIte]
theorem nbTo_no {ns : List Nat} {i k : Nat} (h : adj (ns.getD i 0) (ns.getD k 0) = false) : nbTo ns i (k + 1) = nbTo ns i k := by
  simp only [nbTo, List.range_succ, List.filter_append, List.filter_cons, List.filter_nil, h, Bool.false_eq_true, ↓reduceIte, List.append_nil]
theorem nbTo_len (ns : List Nat) (i k : Nat) : (nbTo ns i k).length ≤ k := by
  have := List.length_filter_le (fun j => adj (ns.getD i 0) (ns.getD j 0)) (List.range k)
  rw [List.length_range] at this
  exact this
/-- one step, from place to place -/
def nR (ns : List Nat) (i k : Nat) : Prop := k < ns.length ∧ adj (ns.getD i 0) (ns.getD k 0) = true
theorem nb_iff {ns : List Nat} {i k : Nat} : k ∈ nbTo ns i ns.length ↔ nR ns i k := by rw [nbTo, List.mem_filter, List.mem_range]; rfl

set_option maxHeartbeats 3200000 in
set_option maxRecDepth 100000 in
theorem specNeighbours (v : Value) (ns : List Nat) (i : Nat) (w : World) (hl : ns.length ≤ 32) (h32 : ∀ t ∈ ns, t < 32) (hi : i < ns.length) (h : Rd w v (toI ns)) :
    Calls Try.prog 88 #[v, .int .i64 (i : Int)] w (RetInts (toI (nbTo ns i ns.length)) w) := by
  obtain ⟨a, b, off, cap, rfl, h1, h3, h5⟩ := h
  rw [toI_length] at h1 h3 h5 ⊢
  have H5 := Lib.hid h5
  have H32 := Lib.hid h32
  obtain ⟨rfl, hbl⟩ := h1 (by omega)
  have hx32 := h32 _ (getD_of_lt hi)
  have HJ0 := Lib.hid ((h5 i hi).trans (by rw [toI_getD]))
  have hiI : (i : Int) < (ns.length : Int) := by omega
  clear h1 h5 h32
  have HE := Lib.hid ((Below.refl w.heap.size w).alloc (Nat.le_refl _) (Obj.cells #[] 3))
  have HP0 := Lib.hid (Ints.lit' (B := w.heap.size) (w := w) (Nat.le_refl _) rfl)
  go_enter Try.func88, Try.ntmps88
  go_wp2_with fail
  go_loopw [5, 6] (fun o q wr => ∃ (k : Nat) (a' : Option Addr) (c' : Nat), k ≤ ns.length ∧ q = .int .i64 k ∧ o = .slice a' (nbTo ns i k).length c' ∧ Ints w.heap.size wr (.slice a' (nbTo ns i k).length c') (toI (nbTo ns i k)) ∧ Below w.heap.size w wr) (fun _ q _ => ns.length - (intOf q).toNat)
  case atStart => exact ⟨0, _, 0, Nat.zero_le _, rfl, rfl, HP0.out, HE.out⟩
  case round =>
    obtain ⟨k, a', c', hk, rfl, rfl, hin, hbe⟩ := hrel
    have HIN := Lib.hid hin
    have HBE := Lib.hid hbe
    have hzr := hbe.size
    clear hin hbe
    by_cases hkl : k < ns.length
    · have hil := nbTo_len ns i k
      have hy32 := H32.out _ (getD_of_lt hkl)
      have hcj := (HBE.out.cell (p := ⟨b, off + i, none⟩) hbl).trans HJ0.out
      have hck := (HBE.out.cell (p := ⟨b, off + k, none⟩) hbl).trans (H5.out k hkl)
      rw [toI_getD] at hck
      have hcy : adj (ns.getD i 0) (ns.getD k 0) = true → nbTo ns i (k + 1) = nbTo ns i k ++ [k] := fun h => nbTo_yes h
      have hcn : adj (ns.getD i 0) (ns.getD k 0) = false → nbTo ns i (k + 1) = nbTo ns i k := fun h => nbTo_no h
      rw [adj] at hcy hcn
      have HFl := Lib.hid (toI_length (nbTo ns i k))
      generalize nbTo ns i k = F at *
      generalize ns.getD i 0 = x at *
      generalize ns.getD k 0 = y at *
      have hz32 : x ^^^ y < 32 := Nat.xor_lt_two_pow (n := 5) hx32 hy32
      have HF := Lib.hid (fun w => specFlip x y (by omega) (by omega) w)
      have HZ := Lib.hid (fun w => (specSize (x ^^^ y) hz32 w).mono fun e w' h => And.intro h.1 h.2.symm)
      generalize pc (x ^^^ y) = p at *
      by_cases hp : p = 1
      · have hpI : (p : Int) = 1 := by omega
        have HCY := Lib.hid (hcy (by rw [hp]; rfl))
        clear hcy hcn hp
        go_wp2_with fail
        go_region_held3 (fun w' => w'.cell? ⟨b, off + i, none⟩ = some (.int .i64 (x : Int)) ∧ w'.cell? ⟨b, off + k, none⟩ = some (.int .i64 (y : Int))) (first | exact ⟨hcj, hck⟩ | go_keep) (first
          | (go_at_call 63; refine (HF.out _).mono ?_; rintro e w9 ⟨rfl, hw9⟩; subst w9)
          | (go_at_call 62; refine (HZ.out _).mono ?_; rintro e w9 ⟨rfl, hw9⟩; subst w9))
        go_wp2_with (at_builtin; go_loud (refine wpList_app rfl (.tmp 25) (.tmp 27) rfl w.heap.size _ (toI F) rfl (by first | exact HIN.out.alloc _ | exact (show Ints _ (World.drew _) _ _ from HIN.out).alloc _ | exact (show Ints _ (World.drew _) _ _ from HIN.out.alloc _)) _ _ _ [(k : Int)] rfl (src_cell (by first | (rw [World.cell?_alloc_at _ _ _ _ rfl]; rfl) | (rw [World.cell?_alloc_at _ _ _ _ (by simp)]; rfl) | (simp only [cell_drew]; rw [World.cell?_alloc_at _ _ _ _ (by simp)]; rfl))) (by rw [HFl.out]; omega) (by simp; omega) ?_; intro a1 c1 w3 hin3 hb3 hg3; rw [HFl.out] at hin3 ⊢; have H13 := Lib.hid (show Below w.heap.size w w3 from Below.trans (by first | exact (HBE.out.drew).alloc (by first | omega | (simp; omega)) _ | exact (HBE.out.alloc (by omega) _).drew | exact HBE.out.alloc (by omega) _) hb3); have I3 := Lib.hid hin3; clear hin3 hb3 hg3))
        go_roundw
        case rel => exact ⟨k + 1, a1, c1, by omega, by go_num, by rw [HCY.out, List.length_append]; rfl, by rw [HCY.out, List.length_append, toI_append]; exact I3.out, H13.out⟩
        case measure => simp [intOf]; omega
      · have hpI : ¬ (p : Int) = 1 := by omega
        have HCN := Lib.hid (hcn (beq_eq_false_iff_ne.2 hp))
        clear hcy hcn hp
        go_wp2_with fail
        go_region_held3 (fun w' => w'.cell? ⟨b, off + i, none⟩ = some (.int .i64 (x : Int)) ∧ w'.cell? ⟨b, off + k, none⟩ = some (.int .i64 (y : Int))) (first | exact ⟨hcj, hck⟩ | go_keep) (first
          | (go_at_call 63; refine (HF.out _).mono ?_; rintro e w9 ⟨rfl, hw9⟩; subst w9)
          | (go_at_call 62; refine (HZ.out _).mono ?_; rintro e w9 ⟨rfl, hw9⟩; subst w9))
        go_wp2_with fail
        go_roundw
        case rel => exact ⟨k + 1, a', c', by omega, by go_num, by rw [HCN.out], by rw [HCN.out]; exact HIN.out, HBE.out.drew⟩
        case measure => simp [intOf]; omega
    · obtain rfl : k = ns.length := by omega
      go_wp2_with fail
      go_ret
      exact RetInts.of HIN.out HBE.out

end Go.Proofs.Ytgldckgecoijfaa
