/- The model's tidy: the different numbers of a list, ascending. Conditions: numbers below 32, at most 1048576 of them. -/
import Derived.Test.YtpkilacappjkhaaZA
namespace Go.Proofs.Ytpkilacappjkhaa
open Go.RowKit

/-- membership so far -/
def memTo (ms : List Nat) (k : Nat) (p : Nat) : Bool := decide (p ∈ ms.take k)
theorem memTo_succ (ms : List Nat) (k : Nat) (hk : k < ms.length) (p : Nat) : memTo ms (k + 1) p = (memTo ms k p || p == ms.getD k 0) := by
  have e : ms.take (k + 1) = ms.take k ++ [ms.getD k 0] := by
    rw [List.take_add_one, List.getElem?_eq_getElem hk, List.getD_eq_getElem?_getD, List.getElem?_eq_getElem hk]; rfl
  simp only [memTo, e, List.mem_append, List.mem_singleton, Bool.decide_or]
  rfl
theorem flt_same (ms : List Nat) (k : Nat) (hk : k < ms.length) (h : memTo ms k (ms.getD k 0) = true) : flt (memTo ms (k + 1)) = flt (memTo ms k) :=
  flt_congr fun x _ => by
    rw [memTo_succ ms k hk]
    by_cases e : x = ms.getD k 0
    · rw [e, h]; rfl
    · have e' : (x == ms.getD k 0) = false := by simpa using e
      rw [e', Bool.or_false]
theorem hasB_toI (p : Nat → Bool) (x : Nat) (hx : x < 32) : hasB (toI (flt p)) (x : Int) = p x := by
  rw [hasB]
  by_cases h : p x = true
  · rw [h, decide_eq_true_eq]
    exact List.mem_map.2 ⟨x, mem_flt.2 ⟨hx, h⟩, rfl⟩
  · rw [Bool.not_eq_true] at h
    rw [h, decide_eq_false_iff_not]
    intro hm
    obtain ⟨y, hy, e⟩ := List.mem_map.1 hm
    have e : y = x := by omega
    subst e
    rw [(mem_flt.1 hy).2] at h
    cases h
theorem toI_put {p : Nat → Bool} {x : Nat} (hx : x < 32) (hp : p x = false) :
    toI (flt (fun y => p y || y == x)) = (([] ++ (toI (flt p)).take (before p x)) ++ [(x : Int)]) ++ (toI (flt p)).drop (before p x) := by
  rw [flt_put hx hp]
  simp [toI]

theorem tidy_rel {B : Nat} {w : World} {a : Option Addr} {n c : Nat} {A D A2 : List Int} {x : Int} {M : List Nat} (h : Ints B w (.slice a n c) (A2 ++ D)) (hA2 : A2 = A ++ [x]) (hM : toI M = (([] ++ A) ++ [x]) ++ D) :
    (∃ g c', Value.slice a n c = .slice (some ⟨g, 0, none⟩) M.length c') ∧ Ints B w (.slice a n c) (toI M) := by
  have e : A2 ++ D = toI M := by rw [hM, hA2]; simp
  rw [e] at h
  refine ⟨?_, h⟩
  obtain ⟨a', g, cap, e', h1, h2, _⟩ := h.shape
  simp only [Value.slice.injEq] at e'
  obtain ⟨rfl, rfl, rfl⟩ := e'
  rcases h1 with rfl | rfl
  · exact ⟨g, c, by rw [toI_length]⟩
  · have := (h2 rfl).1
    rw [hM] at this
    simp at this

set_option maxHeartbeats 3200000 in
set_option maxRecDepth 100000 in
theorem specTidy (v : Value) (ms : List Nat) (w : World) (hm : ∀ m ∈ ms, m < 32) (hlen : ms.length ≤ 1048576) (h : Rd w v (toI ms)) :
    Calls Try.prog 50 #[v] w (RetInts (toI (tidyL ms)) w) := by
  obtain ⟨a, b, off, cap, rfl, h1, h3, h5⟩ := h
  rw [toI_length] at *
  have H5 := Lib.hid h5
  have H1 := Lib.hid h1
  clear h5 h1
  go_enter Try.func50, Try.ntmps50
  go_wp2_with fail
  go_loopw [3, 4] (fun o i wr => ∃ k : Nat, k ≤ ms.length ∧ i = .int .i64 k ∧ (∃ g c, o = .slice (some ⟨g, 0, none⟩) (flt (memTo ms k)).length c) ∧ Ints w.heap.size wr o (toI (flt (memTo ms k))) ∧ Below w.heap.size w wr) (fun _ i _ => ms.length - (intOf i).toNat)
  case atStart =>
    refine ⟨0, Nat.zero_le _, rfl, ⟨_, _, rfl⟩, ?_, ?_⟩
    · exact Ints.lit _ _ (Nat.le_refl _)
    · go_grown
  case round =>
    obtain ⟨k, hk, rfl, ⟨g, c, rfl⟩, hin, hbe⟩ := hrel
    have HIN := Lib.hid hin
    have HBE := Lib.hid hbe
    clear hin hbe
    by_cases hlt : k < ms.length
    · obtain ⟨rfl, hbl⟩ := H1.out (by omega)
      have hc := (HBE.out.cell (p := ⟨b, off + k, none⟩) hbl).trans (H5.out k hlt)
      rw [toI_getD] at hc
      have hx := hm _ (getD_of_lt hlt)
      have HS := Lib.hid (memTo_succ ms k hlt)
      have HF := Lib.hid (flt_same ms k hlt)
      have hkI : (k : Int) < (ms.length : Int) := by omega
      generalize ms.getD k 0 = x at *
      go_wp2_with fail
      refine (specHasInt _ _ _ _ HIN.out.rd).mono ?_
      rintro e w1 ⟨rfl, rfl⟩
      rw [hasB_toI _ _ hx]
      by_cases hmem : memTo ms k x = true
      · rw [hmem]
        have HM := Lib.hid hmem
        clear hmem
        go_wp2_with fail
        go_roundw
        case rel => rw [← HF.out HM.out] at HIN ⊢; exact ⟨k + 1, by omega, by go_num, ⟨_, _, rfl⟩, HIN.out, HBE.out⟩
        case measure => simp [intOf]; omega
      · rw [Bool.not_eq_true] at hmem
        rw [hmem]
        have HM := Lib.hid hmem
        clear hmem
        have HB := Lib.hid (before_le hx HM.out)
        have HLs := Lib.hid (fun j h => flt_less (k := j) hx HM.out h)
        have HMo := Lib.hid (fun h => flt_more hx HM.out h)
        have HP := Lib.hid (toI_put hx HM.out)
        have hl32 := flt_length (memTo ms k)
        clear HF
        generalize hq : before (memTo ms k) x = q at *
        generalize hL : flt (memTo ms k) = L at *
        have HQ := Lib.hid hq
        have HL := Lib.hid hL
        clear hq hL
        go_wp2_with fail
        go_loopw [5] (fun u wq => ∃ j : Nat, j ≤ q ∧ u = .int .i64 j ∧ ∃ d, wq = wr.drewN d) (fun u _ => 40 - (intOf u).toNat)
        case atStart => exact ⟨0, by omega, rfl, 0, rfl⟩
        case round =>
          obtain ⟨j, hj, rfl, d, rfl⟩ := hrel
          have hql := HB.out
          by_cases hjq : j < q
          · have hy := HLs.out j hjq
            have hcj := (HIN.out.cellAt j (by rw [toI_length]; omega)).1
            rw [toI_getD] at hcj
            have hjl : (j : Int) < (L.length : Int) := by omega
            have hd : decide (j < L.length) = true := by simp; omega
            generalize L.getD j 0 = y at *
            have hd2 : decide (y < x) = true := by simpa using hy
            go_wp2_with fail
            go_quiet (fail)
            go_wp2_with fail
            go_roundw
            case rel => exact ⟨j + 1, by omega, by go_num, d + nq, by first | rfl | exact World.drewN_drewN _ _ _⟩
            case measure => simp [intOf]; omega
          · obtain rfl : j = q := by omega
            by_cases hjl' : j < L.length
            have hy := HMo.out hjl'
            have hcj := (HIN.out.cellAt j (by rw [toI_length]; omega)).1
            rw [toI_getD] at hcj
            have hjl : (j : Int) < (L.length : Int) := by omega
            have hd : decide (j < L.length) = true := by simp; omega
            generalize L.getD j 0 = y at *
            have hd2 : decide (y < x) = false := by simp; omega
            go_wp2_with fail
            go_quiet (fail)
            go_wp2_with fail
            rotate_left
            have hd : decide (j < L.length) = false := by simp; omega
            go_wp2_with fail
            go_quiet (fail)
            go_wp2_with fail
            all_goals
              have HINW := Lib.hid (show Ints w.heap.size ((wr.drewN d).drewN nq) (.slice (some ⟨g, 0, none⟩) L.length c) (toI L) from HIN.out)
              have HBEW := Lib.hid (below_drewN (below_drewN HBE.out d) nq)
              have hcW : ((wr.drewN d).drewN nq).cell? ⟨b, off + k, none⟩ = some (.int .i64 x) := hc
              have hjc : (j : Int) ≤ (c : Int) := by have := HIN.out.len_le_cap; omega
              have hjl : (j : Int) ≤ (L.length : Int) := by omega
              have hLc : (L.length : Int) ≤ (c : Int) := by have := HIN.out.len_le_cap; omega
              have hbW : b < ((wr.drewN d).drewN nq).heap.size := Nat.lt_of_lt_of_le hbl HBEW.out.size
              clear hc
              generalize (wr.drewN d).drewN nq = W at *
              have SA := Lib.hid (HINW.out.src_take j (by omega) c)
              have hAl : ((toI L).take j).length = j := by simp [toI_length]; omega
              have hDl : ((toI L).drop j).length = L.length - j := by simp [toI_length]
              have HPP := HP
              generalize (toI L).take j = A at *
              have HA := Lib.hid hAl
              clear hAl
              have HD := Lib.hid hDl
              clear hDl
              go_region_law (first
                | (refine step_app rfl (.tmp 36) (.tmp 39) rfl W.heap.size _ [] rfl (by first | exact Ints.lit' (by simp) (by simp) | exact (Ints.lit' (by simp) (by simp)).alloc _) _ _ _ A rfl (by exact SA.out.below (by go_grown)) (by simp; omega) (by first | (simp; done) | (simp; omega)) ?_
                   intro a1 c1 w1 hin1 hb1 hg1
                   have hW1 : Below W.heap.size W w1 := Below.trans (by go_grown) hb1
                   have hs1 : W.heap.size ≤ w1.heap.size := hW1.size
                   have hcW1 : w1.cell? ⟨b, off + k, none⟩ = some (.int .i64 x) := (hW1.cell (p := ⟨b, off + k, none⟩) hbW).trans hcW
                   first
                     | (have hx1 : w1.cell? ⟨W.heap.size + 1, 0, none⟩ = some (.int .i64 x) := hg1.cell (a := ⟨W.heap.size + 1, 0, none⟩) (by first | (rw [cell_drew, World.cell?_alloc_at _ _ _ _ (by simp)]; rfl) | (rw [World.cell?_alloc_at _ _ _ _ (by simp)]; rfl)) (show some (W.heap.size + 1) ≠ some W.heap.size by simp))
                     | (have hx1 : w1.cell? ⟨W.heap.size, 0, none⟩ = some (.int .i64 x) := hg1.cell (a := ⟨W.heap.size, 0, none⟩) (by first | (rw [cell_drew, World.cell?_alloc_past _ _ _ (by simp), World.cell?_alloc_at _ _ _ _ (by simp)]; rfl) | (rw [World.cell?_alloc_past _ _ _ (by simp), World.cell?_alloc_at _ _ _ _ (by simp)]; rfl)) (show some W.heap.size ≠ some (W.heap.size + 1) by simp))
                     | skip
                   simp only [List.length_nil, Nat.zero_add, List.nil_append] at hin1
                   have HI1 := Lib.hid hin1
                   clear hin1 hb1 hg1)
                | (refine step_app rfl (.tmp 40) (.tmp 45) rfl W.heap.size _ A rfl (by first | exact HI1.out | exact HI1.out.alloc _) _ _ _ [(x : Int)] rfl (src_cell (by first | assumption | (first | (rw [cell_drew, World.cell?_alloc_at _ _ _ _ (by simp)]; rfl) | (rw [World.cell?_alloc_at _ _ _ _ (by simp)]; rfl)))) (by rw [HA.out]; simp; omega) (by first | exact hs1 | (simp; omega)) ?_
                   intro a2 c2 w2 hin2 hb2 hg2
                   have hW2 : Below W.heap.size W w2 := Below.trans (by go_grown) hb2
                   obtain ⟨A2, hA2⟩ : ∃ A2, A2 = A ++ [(x : Int)] := ⟨_, rfl⟩
                   rw [← hA2] at hin2
                   have HA2 := Lib.hid hA2
                   have HI2 := Lib.hid hin2
                   clear hin2 hb2 hg2 hA2)
                | (refine step_app rfl (.tmp 46) (.tmp 49) rfl W.heap.size _ A2 rfl (by exact HI2.out) _ _ _ ((toI L).drop j) rfl (by exact (HINW.out.below hW2 (Nat.le_refl _)).src_drop j (by omega) _ _ (by split <;> simp) (fun h => if_neg (by omega))) (by rw [HA2.out, List.length_append, HA.out]; simp; omega) (by have := hW2.size; omega) ?_
                   intro a3 c3 w3 hin3 hb3 hg3
                   have hW3 : Below W.heap.size W w3 := Below.trans (by go_grown) hb3
                   have HI3 := Lib.hid (tidy_rel hin3 HA2.out HP.out)
                   have HB3 := Lib.hid hW3
                   clear hin3 hb3 hg3 hW3 hW2 hW1 hcW1 hcW))
              all_goals
                go_wp2_with fail
                go_roundw
                case rel =>
                  have HE : flt (memTo ms (k + 1)) = flt (fun y => memTo ms k y || y == x) := flt_congr (fun y _ => HS.out y)
                  exact ⟨k + 1, by omega, by go_num, by rw [HE]; exact HI3.out.1, by rw [HE]; exact HI3.out.2.mono HBEW.out.size, HBEW.out.trans (HB3.out.mono HBEW.out.size)⟩
                case measure => simp [intOf]; omega
    · go_wp2_with fail
      go_ret
      obtain rfl : k = ms.length := by omega
      have e : toI (tidyL ms) = toI (flt (memTo ms ms.length)) := by
        rw [tidyL, flt_congr (fun y _ => show decide (y ∈ ms) = memTo ms ms.length y by simp [memTo])]
      rw [e]
      exact RetInts.of HIN.out HBE.out

end Go.Proofs.Ytpkilacappjkhaa
