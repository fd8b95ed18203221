/- TeachingDimension and EasiestTeaching, the program's and the model's. Conditions: Sets is a slice of ints; the table setsWith is laid. -/
import Derived.Test.YtffmcibpboejnaaDoorTNums
namespace Go.Proofs.YtffmcibpboejnaaDoor
open Go.RowKit

/-- the greatest and the least of the first k numbers, -1 for none -/
def gTo (xs : List Int) : Nat → Int
  | 0 => -1
  | k + 1 => if gTo xs k < xs.getD k 0 then xs.getD k 0 else gTo xs k
def sTo (xs : List Int) : Nat → Int
  | 0 => -1
  | k + 1 => if sTo xs k < 0 ∨ xs.getD k 0 < sTo xs k then xs.getD k 0 else sTo xs k
def natural (xs : List Int) : Prop := ∀ k, k < xs.length → 0 ≤ xs.getD k 0
theorem gTo_step (xs : List Int) (k : Nat) : gTo xs (k + 1) = if gTo xs k < xs.getD k 0 then xs.getD k 0 else gTo xs k := rfl
theorem sTo_step (xs : List Int) (k : Nat) : sTo xs (k + 1) = if sTo xs k < 0 ∨ xs.getD k 0 < sTo xs k then xs.getD k 0 else sTo xs k := rfl
theorem gTo_bd {xs : List Int} (h : natural xs) (k : Nat) (hk : k < xs.length) : 0 ≤ gTo xs (k + 1) := by
  have h1 := h k hk
  rw [gTo_step]
  by_cases hc : gTo xs k < xs.getD k 0
  · rw [if_pos hc]; exact h1
  · rw [if_neg hc]; omega
theorem gTo_one {xs : List Int} (h : natural xs) (h0 : 0 < xs.length) : gTo xs 1 = xs.getD 0 0 := by
  have h1 := h 0 h0
  have e : gTo xs 0 = -1 := rfl
  rw [gTo_step, if_pos (by omega)]
theorem sTo_bd {xs : List Int} (h : natural xs) (k : Nat) (hk : k < xs.length) : 0 ≤ sTo xs (k + 1) := by
  have h1 := h k hk
  rw [sTo_step]
  by_cases hc : sTo xs k < 0 ∨ xs.getD k 0 < sTo xs k
  · rw [if_pos hc]; exact h1
  · rw [if_neg hc]; omega
theorem sTo_one (xs : List Int) : sTo xs 1 = xs.getD 0 0 := by
  have e : sTo xs 0 = -1 := rfl
  rw [sTo_step, if_pos (.inl (by omega))]

set_option maxHeartbeats 800000 in
theorem slicesMax (v : Value) (xs : List Int) (w : World) (h : Rd w v xs) (hn : natural xs) (h0 : 0 < xs.length) :
    Calls Tryd.prog 32 #[v] w fun e w' => e = .returned (.int .i64 (gTo xs xs.length)) ∧ w = w' := by
  obtain ⟨a, b, off, cap, rfl, h1, h3, h5⟩ := h
  have H5 := Lib.hid h5
  have HG := Lib.hid (gTo_one hn h0)
  obtain ⟨rfl, _⟩ := h1 h0
  have hc0 := h5 0 h0
  rw [Nat.add_zero] at hc0
  generalize xs.getD 0 0 = x0 at hc0 HG
  clear h5
  have h0I : (0 : Int) < (xs.length : Int) := by omega
  have h0J : ¬ (xs.length : Int) < 1 := by omega
  go_enter Tryd.func32, Tryd.ntmps32
  go_wp2
  go_loop [3, 4] (fun m i => ∃ k : Nat, 0 < k ∧ k ≤ xs.length ∧ i = .int .i64 k ∧ m = .int .i64 (gTo xs k)) (fun _ i => xs.length - (intOf i).toNat)
  case atStart => exact ⟨1, by omega, by omega, rfl, by rw [HG.out]⟩
  case round =>
    obtain ⟨k, hk0, hk, rfl, rfl⟩ := hrel
    by_cases hlt : k < xs.length
    · have hc := H5.out k hlt
      have HS := Lib.hid (show gTo xs (k + 1) = if gTo xs k < xs.getD k 0 then xs.getD k 0 else gTo xs k from rfl)
      generalize xs.getD k 0 = x at *
      generalize gTo xs k = g at *
      by_cases hx : g < x
      · have HE := Lib.hid (HS.out.trans (if_pos hx))
        go_wp2
        go_round
        case rel => exact ⟨k + 1, by omega, by omega, by go_num, by rw [HE.out]⟩
        case measure => simp [intOf]; omega
      · have HE := Lib.hid (HS.out.trans (if_neg hx))
        go_wp2
        go_round
        case rel => exact ⟨k + 1, by omega, by omega, by go_num, by rw [HE.out]⟩
        case measure => simp [intOf]; omega
    · obtain rfl : k = xs.length := by omega
      go_wp2
      go_ret
      exact ⟨rfl, rfl⟩




theorem tnsL_nat (n : Int) (zs : List Int) : natural (tnsL n zs) := fun k hk => by
  have hm : (tnsL n zs).getD k 0 ∈ tnsL n zs := by
    rw [List.getD_eq_getElem?_getD, List.getElem?_eq_getElem hk]
    exact List.getElem_mem hk
  unfold tnsL at hm ⊢
  split at hm
  · rename_i hv
    rw [if_pos hv]
    obtain ⟨u, _, e⟩ := List.mem_map.1 hm
    rw [← e]
    exact Int.natCast_nonneg _
  · simp at hm
/-- TeachingDimension's and EasiestTeaching's answers -/
def tdB (n : Int) (zs : List Int) : Int := gTo (tnsL n zs) (tnsL n zs).length
def etB (n : Int) (zs : List Int) : Int := sTo (tnsL n zs) (tnsL n zs).length

set_option maxRecDepth 100000 in
set_option maxHeartbeats 1600000 in
theorem implTeachingDimension (n : Int) (v : Value) (zs : List Int) (w : World) (h : Rd w v zs) (hsw : SW w) :
    Calls Tryd.prog 15 #[.agg #[.int .i64 n, v]] w fun e w' => e = .returned (.int .i64 (tdB n zs)) ∧ Below w.heap.size w w' := by
  have H := Lib.hid h
  have HSW := Lib.hid hsw
  clear hsw
  have HT := Lib.hid (fun w0 h0 hs0 => implTeachingNumbers n v zs w0 h0 hs0)
  have HN := Lib.hid (tnsL_nat n zs)
  have HD := Lib.hid (show tdB n zs = gTo (tnsL n zs) (tnsL n zs).length from rfl)
  have hln := tnsL_len n zs
  rw [HD.out]
  obtain ⟨a, b, off, cap, rfl, _, h3, _⟩ := h
  generalize tnsL n zs = L at *
  by_cases hL : L.length = 0
  · have HE := Lib.hid (show gTo L L.length = -1 by rw [hL]; rfl)
    rw [HE.out]
    go_enter Tryd.func15, Tryd.ntmps15
    go_wp2_with fail
    refine (HT.out _ (H.out.below (by go_grown) (Nat.le_refl _)) (HSW.out.next (by go_grown))).mono ?_
    rintro e w1 ⟨a1, c1, rfl, hin, hb⟩
    have B1 := Lib.hid ((Box.made n (.slice a zs.length cap) w _).next (by simp) hb)
    clear hb hin
    rw [hL]
    go_wp2_with fail
    go_ret
    exact ⟨rfl, B1.out.below⟩
  · have hd1 : ((L.length : Int) == 0) = false := by simpa using (show ¬ (L.length : Int) = 0 by omega)
    go_enter Tryd.func15, Tryd.ntmps15
    go_wp2_with fail
    refine (HT.out _ (H.out.below (by go_grown) (Nat.le_refl _)) (HSW.out.next (by go_grown))).mono ?_
    rintro e w1 ⟨a1, c1, rfl, hin, hb⟩
    have B1 := Lib.hid ((Box.made n (.slice a zs.length cap) w _).next (by simp) hb)
    have HM := Lib.hid (slicesMax _ L w1 hin.rd HN.out (by omega))
    clear hb hin
    go_wp2_with fail
    refine HM.out.mono ?_
    rintro e w2 ⟨rfl, rfl⟩
    go_wp2_with fail
    go_ret
    exact ⟨rfl, B1.out.below⟩




end Go.Proofs.YtffmcibpboejnaaDoor
