/- The model's splitAt: the parts of a text between the bytes of a kind. Conditions: at most 1048576 bytes. -/
import Derived.Maps.AppendAt
import Derived.Test.YtkamocciaaapmaaDoorNumN
import Derived.Test.YtkamocciaaapmaaDoorTxtI
import Derived.Test.YtkamocciaaapmaaDoorZA
namespace Go.Proofs.YtkamocciaaapmaaDoor
open Go.RowKit

/-- where the part at hand begins, after k bytes -/
def spF (s : ByteArray) (c : Nat) : Nat → Nat
  | 0 => 0
  | k + 1 => if (s.data.toList.getD k 0).toNat = c then k + 1 else spF s c k
/-- the parts that are whole after k bytes -/
def spP (s : ByteArray) (c : Nat) : Nat → List ByteArray
  | 0 => []
  | k + 1 => if (s.data.toList.getD k 0).toNat = c then spP s c k ++ [s.extract (spF s c k) k] else spP s c k
theorem spF_le (s : ByteArray) (c : Nat) : ∀ k, spF s c k ≤ k
  | 0 => Nat.le_refl _
  | k + 1 => by rw [spF]; split; exact Nat.le_refl _; exact Nat.le_succ_of_le (spF_le s c k)
theorem spP_len (s : ByteArray) (c : Nat) : ∀ k, (spP s c k).length ≤ k
  | 0 => Nat.le_refl _
  | k + 1 => by
    rw [spP]
    split
    · rw [List.length_append]; have := spP_len s c k; simp; omega
    · exact Nat.le_succ_of_le (spP_len s c k)
def spL (s : ByteArray) (c : Nat) : List ByteArray := spP s c s.size ++ [s.extract (spF s c s.size) s.size]

theorem run_str_lh (w : World) (s : ByteArray) (l h : Nat) (h1 : l ≤ h) (h2 : h ≤ s.size) : (Instr.slice 9 (.string s) (some (.int .i64 (l : Int))) (some (.int .i64 (h : Int))) none).run Tryd.prog w = .ok (.string (s.extract l h)) w := by
  simp [Instr.slice, run_underlying Tryd.underlying9, Instr.sliceBounds, run_sliceBound, (by omega : (0 : Int) ≤ (l : Int)), (by omega : (0 : Int) ≤ (h : Int)), (by omega : (l : Int) ≤ (h : Int)), (by omega : (h : Int) ≤ (s.size : Int))]

theorem Strs.alloc {B : Nat} {w : World} {v : Value} {ss : List ByteArray} (h : Strs B w v ss) (o : Obj) : Strs B (w.alloc o) v ss := World.ownsRow.alloc h o
theorem Strs.lit (B : Nat) (w : World) (hB : B ≤ w.heap.size) : Strs B (w.alloc (.cells #[] 9)) (.slice (some ⟨w.heap.size, 0, none⟩) 0 0) [] := World.ownsRow_lit w #[] 0 hB (by unfold maxLen; omega) rfl

theorem Strs.own {B k : Nat} {w : World} {v : Value} {ss : List ByteArray} (h : Strs B w v ss) (hk : v.ownBlock = some k) : B ≤ k := by
  rcases h.2 with ⟨rfl, _⟩ | ⟨g, cap, cur, rfl, hb, _⟩
  · simp [Value.ownBlock] at hk
  · simp [Value.ownBlock] at hk
    omega
theorem Strs.snoc {B : Nat} {w : World} {v : Value} {ss : List ByteArray} {x : ByteArray} (h : w.ownsRow B 9 1 v (ss.length + 1) (ss.map Value.string ++ [.string x])) : ∃ a c, v = .slice a (ss ++ [x]).length c ∧ Strs B w (.slice a (ss ++ [x]).length c) (ss ++ [x]) := by
  have h1 : Strs B w v (ss ++ [x]) := by
    unfold Strs
    rw [List.length_append, List.map_append]
    exact h
  rcases h.2 with ⟨_, e⟩ | ⟨g, cap, cur, e, _⟩
  · omega
  · refine ⟨some ⟨g, 0, none⟩, cap, by rw [List.length_append]; exact e, ?_⟩
    have h2 : v = .slice (some ⟨g, 0, none⟩) (ss ++ [x]).length cap := by rw [List.length_append]; exact e
    rwa [h2] at h1

set_option maxHeartbeats 1600000 in
set_option maxRecDepth 100000 in
theorem specSplitAt (s : ByteArray) (c : Nat) (hs : s.size ≤ 1048576) (w : World) :
    Calls Tryd.prog 50 #[.string s, .int .u8 c] w fun e w' => ∃ a cap, e = .returned (.slice a (spL s c).length cap) ∧ Strs w.heap.size w' (.slice a (spL s c).length cap) (spL s c) ∧ Below w.heap.size w w' := by
  obtain ⟨i0, hi, hi0, hi1, hi2⟩ := info_parts infoStr
  have H0 := Lib.hid (Strs.lit w.heap.size w (Nat.le_refl _))
  have B0 := Lib.hid (show Below w.heap.size w (w.alloc (.cells #[] 9)) from (Below.refl _ _).alloc (Nat.le_refl _) _)
  go_enter Tryd.func50, Tryd.ntmps50
  go_wp2_with fail
  go_loopw [5, 6, 7] (fun o f i wr => ∃ (k : Nat) (a' : Option Addr) (c' : Nat), k ≤ s.size ∧ i = .int .i64 k ∧ f = .int .i64 (spF s c k) ∧ o = .slice a' (spP s c k).length c' ∧ Strs w.heap.size wr (.slice a' (spP s c k).length c') (spP s c k) ∧ Below w.heap.size w wr) (fun _ _ i _ => s.size - (intOf i).toNat)
  case atStart => exact ⟨0, _, _, Nat.zero_le _, rfl, rfl, rfl, H0.out, B0.out⟩
  case round =>
    obtain ⟨k, a', c', hk, rfl, rfl, rfl, hst, hbl⟩ := hrel
    have HST := Lib.hid hst
    have HBL := Lib.hid hbl
    have hfk := spF_le s c k
    have hpk := spP_len s c k
    have hwz := hbl.size
    clear hst hbl
    by_cases hlt : k < s.size
    · have hki : (k : Int) < (s.size : Int) := by omega
      have HB := Lib.hid (show s.data.toList.getD k 0 = s[k] from by
        rw [List.getD_eq_getElem?_getD, List.getElem?_eq_getElem (by rw [Array.length_toList]; exact hlt)]
        rfl)
      have HF := Lib.hid (show spF s c (k + 1) = if s[k].toNat = c then k + 1 else spF s c k by rw [spF, HB.out])
      have HP := Lib.hid (show spP s c (k + 1) = if s[k].toNat = c then spP s c k ++ [s.extract (spF s c k) k] else spP s c k by rw [spP, HB.out])
      obtain ⟨f, hf⟩ : ∃ f, f = spF s c k := ⟨_, rfl⟩
      rw [← hf] at HF HP hfk ⊢
      clear hf
      obtain ⟨ps, hps⟩ : ∃ ps, ps = spP s c k := ⟨_, rfl⟩
      rw [← hps] at HP HST hpk ⊢
      clear hps
      have hsl := fun w => run_str_lh w s f k hfk hk
      by_cases hc : s[k].toNat = c
      · have HF1 := Lib.hid (show spF s c (k + 1) = k + 1 by rw [HF.out, if_pos hc])
        have HP1 := Lib.hid (show spP s c (k + 1) = ps ++ [s.extract f k] by rw [HP.out, if_pos hc])
        have hcd : ((s[k].toNat : Int) == (c : Int)) = true := by simp [hc]
        clear HF HP hc
        generalize s.extract f k = x at *
        go_wp2_with (at_builtin; refine wpList_append_own _ rfl (.tmp 20) (.tmp 25) 42 rfl w.heap.size 9 i0 (.string ⟨#[]⟩) 1 16 Tryd.underlying42 hi hi0 hi1 hi2 rfl (by decide) _ _ _ rfl (World.ownsRow.alloc HST.out _) ⟨wr.heap.size, 0, none⟩ 1 1 [.string x] rfl rfl (cell_one_new _ _ _) (by simp [Value.oneCell']) (by unfold maxLen; omega) (by omega) (by first | omega | (simp; omega)) ?_; intro v' w1 hown' hgrow _)
        obtain ⟨a2, c2, rfl, hS2⟩ := Strs.snoc hown'
        have hB2 : Below w.heap.size w w1 := (HBL.out.alloc hwz _).grown hgrow (by simp; omega) (fun j hj => HST.out.own hj)
        go_roundw
        case rel => exact ⟨k + 1, a2, c2, by omega, by go_num, by rw [HF1.out]; go_num, by rw [HP1.out], by rw [HP1.out]; exact hS2, hB2⟩
        case measure => simp [intOf]; omega
      · have HF1 := Lib.hid (show spF s c (k + 1) = f by rw [HF.out, if_neg hc])
        have HP1 := Lib.hid (show spP s c (k + 1) = ps by rw [HP.out, if_neg hc])
        have hcd : ((s[k].toNat : Int) == (c : Int)) = false := beq_eq_false_iff_ne.2 (by omega)
        clear HF HP hc
        go_wp2_with fail
        go_roundw
        case rel => exact ⟨k + 1, a', c', by omega, by go_num, by rw [HF1.out], by rw [HP1.out], by rw [HP1.out]; exact HST.out, HBL.out⟩
        case measure => simp [intOf]; omega
    · obtain rfl : k = s.size := by omega
      have HE := Lib.hid (show spL s c = spP s c s.size ++ [s.extract (spF s c s.size) s.size] from rfl)
      obtain ⟨f, hf⟩ : ∃ f, f = spF s c s.size := ⟨_, rfl⟩
      rw [← hf] at HE hfk ⊢
      clear hf
      obtain ⟨ps, hps⟩ : ∃ ps, ps = spP s c s.size := ⟨_, rfl⟩
      rw [← hps] at HE HST hpk ⊢
      clear hps
      have hf1 : (f : Int) ≤ (s.size : Int) := by omega
      go_wp2_with (at_builtin; refine wpList_append_own _ rfl (.tmp 29) (.tmp 33) 42 rfl w.heap.size 9 i0 (.string ⟨#[]⟩) 1 16 Tryd.underlying42 hi hi0 hi1 hi2 rfl (by decide) _ _ _ rfl (World.ownsRow.alloc HST.out _) ⟨wr.heap.size, 0, none⟩ 1 1 [.string (s.extract f s.size)] rfl rfl (cell_one_new _ _ _) (by simp [Value.oneCell']) (by unfold maxLen; omega) (by omega) (by first | omega | (simp; omega)) ?_; intro v' w1 hown' hgrow _)
      obtain ⟨a2, c2, rfl, hS2⟩ := Strs.snoc hown'
      have hB2 : Below w.heap.size w w1 := (HBL.out.alloc hwz _).grown hgrow (by simp; omega) (fun j hj => HST.out.own hj)
      go_wp2_with fail
      go_ret
      rw [HE.out]
      exact ⟨a2, c2, rfl, hS2, hB2⟩

end Go.Proofs.YtkamocciaaapmaaDoor
