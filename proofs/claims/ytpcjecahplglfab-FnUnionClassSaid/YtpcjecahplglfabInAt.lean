/- inAtLeast of two classes. Conditions: their Sets are slices of ints. -/
import Derived.Deep.RegionHeld3
import Derived.LoopN
import Derived.Test.YtpcjecahplglfabBall
import Derived.Test.YtpcjecahplglfabCnt
import Derived.Test.YtpcjecahplglfabSetsWA
namespace Go.Proofs.Ytpcjecahplglfab
open Go.RowKit

/-- are both valid, and of as many points? -/
def twoB (na : Int) (xs : List Int) (nb : Int) (ys : List Int) : Bool := vldB na xs && (vldB nb ys && decide (nb = na))
/-- the sets that are in at least k of two classes -/
def atL (k : Int) (m : Nat) (xs ys : List Nat) : List Nat := (List.range (2 ^ m)).filter (fun x => decide (k ≤ cnt2 xs ys x))
def iaN (na : Int) (xs : List Int) (nb : Int) (ys : List Int) : Int := if twoB na xs nb ys = true then na else 0
def iaL (k na : Int) (xs : List Int) (nb : Int) (ys : List Int) : List Int := if twoB na xs nb ys = true then toI (atL k na.toNat (xs.map Int.toNat) (ys.map Int.toNat)) else []
theorem iaN_no {na nb : Int} {xs ys : List Int} (h : twoB na xs nb ys = false) : iaN na xs nb ys = 0 := by rw [iaN, if_neg (by rw [h]; simp)]
theorem iaL_no {k na nb : Int} {xs ys : List Int} (h : twoB na xs nb ys = false) : iaL k na xs nb ys = [] := by rw [iaL, if_neg (by rw [h]; simp)]
theorem iaL_len (k na : Int) (xs : List Int) (nb : Int) (ys : List Int) : (iaL k na xs nb ys).length ≤ 1048576 := by
  unfold iaL
  split
  · rename_i h
    simp only [twoB, Bool.and_eq_true] at h
    obtain ⟨m, ns, rfl, _, hc⟩ := vldB_cls h.1
    rw [toI_length, atL, Int.toNat_natCast]
    have := filt_le (fun x => decide (k ≤ cnt2 (xs.map Int.toNat) (ys.map Int.toNat) x)) (2 ^ m)
    have := pow_le_32 hc.pts
    omega
  · simp

set_option maxHeartbeats 800000 in
theorem implIn1 (m j : Nat) (k : Int) (o1 o2 : Nat) (f : Nat → Int) (hj : j < 32) (w : World) (h1 : w.cell? ⟨o1, j, none⟩ = some (.int .i64 (f j))) (h2 : w.cell? ⟨o2, 0, none⟩ = some (.int .i64 k)) :
    Calls Try.prog 70 #[.agg #[.int .i64 (m : Int), .slice none 0 0], .int .i64 (j : Int), .pointer (some ⟨o1, 0, none⟩), .pointer (some ⟨o2, 0, none⟩)] w fun e w' => e = .returned (.bool (decide (k ≤ f j))) ∧ Below w.heap.size w w' := by
  have HB := Lib.hid (show Below w.heap.size w (w.alloc (Obj.cells #[.int .i64 (m : Int), .slice none 0 0] 26)) from (Below.refl _ _).alloc (Nat.le_refl _) _)
  have c1 := (HB.out.cell (p := ⟨o1, j, none⟩) (World.block_lt_of_cell? w _ h1)).trans h1
  have c2 := (HB.out.cell (p := ⟨o2, 0, none⟩) (World.block_lt_of_cell? w _ h2)).trans h2
  generalize f j = y at *
  clear h1 h2
  go_enter Try.func70, Try.ntmps70
  go_wp2_with fail
  go_quiet (fail)
  go_wp2_with fail
  go_ret
  exact ⟨rfl, below_drewN HB.out nq⟩

set_option maxRecDepth 100000 in
set_option maxHeartbeats 12800000 in
theorem implInAtLeastNA (k na : Int) (va : Value) (xs : List Int) (nb : Int) (vb : Value) (ys : List Int) (H : Nat) (w : World) (ha : Rd w va xs) (hb : Rd w vb ys) (hva : vldB na xs = false)
    (c0 : w.cell? ⟨H, 0, none⟩ = some (.int .i64 na)) (c1 : w.cell? ⟨H, 1, none⟩ = some va) (c2 : w.cell? ⟨H, 2, none⟩ = some (.int .i64 nb)) (c3 : w.cell? ⟨H, 3, none⟩ = some vb) :
    Calls Try.prog 45 #[.int .i64 k, .slice (some ⟨H, 0, none⟩) 2 2] w (RetCB (iaN na xs nb ys) (iaL k na xs nb ys) (twoB na xs nb ys) w) := by
  have HA := Lib.hid ha
  have HBb := Lib.hid hb
  have hHlt : H < w.heap.size := World.block_lt_of_cell? w _ c0
  have HVA := Lib.hid (fun w h => implValid na va xs w h)
  have HVB := Lib.hid (fun w h => implValid nb vb ys w h)
  obtain ⟨a, ba, offa, ca, rfl, a1, _, a5⟩ := ha
  obtain ⟨b, bb, offb, cb, rfl, b1, _, b5⟩ := hb
  have HA1 := Lib.hid a1
  have HA5 := Lib.hid a5
  have HB1 := Lib.hid b1
  have HB5 := Lib.hid b5
  have HC0 := Lib.hid c0
  have HC1 := Lib.hid c1
  have HC2 := Lib.hid c2
  have HC3 := Lib.hid c3
  have B := Lib.hid (show Below w.heap.size w ((((w.alloc (Obj.cells #[.int .i64 k] 3)).alloc (Obj.cells #[.int .i64 0, .slice none 0 0] 26)).alloc (Obj.cells #[.int .i64 0, .int .i64 0, .int .i64 0, .int .i64 0, .int .i64 0, .int .i64 0, .int .i64 0, .int .i64 0, .int .i64 0, .int .i64 0, .int .i64 0, .int .i64 0, .int .i64 0, .int .i64 0, .int .i64 0, .int .i64 0, .int .i64 0, .int .i64 0, .int .i64 0, .int .i64 0, .int .i64 0, .int .i64 0, .int .i64 0, .int .i64 0, .int .i64 0, .int .i64 0, .int .i64 0, .int .i64 0, .int .i64 0, .int .i64 0, .int .i64 0, .int .i64 0] 68)).alloc (Obj.cells #[.int .i64 0, .slice none 0 0] 26)) from ((((Below.refl _ _).alloc (Nat.le_refl _) _).alloc (by simp) _).alloc (by simp; omega) _).alloc (by simp; omega) _)
  have HZ := Lib.hid (show ((((w.alloc (Obj.cells #[.int .i64 k] 3)).alloc (Obj.cells #[.int .i64 0, .slice none 0 0] 26)).alloc (Obj.cells #[.int .i64 0, .int .i64 0, .int .i64 0, .int .i64 0, .int .i64 0, .int .i64 0, .int .i64 0, .int .i64 0, .int .i64 0, .int .i64 0, .int .i64 0, .int .i64 0, .int .i64 0, .int .i64 0, .int .i64 0, .int .i64 0, .int .i64 0, .int .i64 0, .int .i64 0, .int .i64 0, .int .i64 0, .int .i64 0, .int .i64 0, .int .i64 0, .int .i64 0, .int .i64 0, .int .i64 0, .int .i64 0, .int .i64 0, .int .i64 0, .int .i64 0, .int .i64 0] 68)).alloc (Obj.cells #[.int .i64 0, .slice none 0 0] 26)).heap.size = w.heap.size + 4 by simp)
  have N0 := Lib.hid (show ((((w.alloc (Obj.cells #[.int .i64 k] 3)).alloc (Obj.cells #[.int .i64 0, .slice none 0 0] 26)).alloc (Obj.cells #[.int .i64 0, .int .i64 0, .int .i64 0, .int .i64 0, .int .i64 0, .int .i64 0, .int .i64 0, .int .i64 0, .int .i64 0, .int .i64 0, .int .i64 0, .int .i64 0, .int .i64 0, .int .i64 0, .int .i64 0, .int .i64 0, .int .i64 0, .int .i64 0, .int .i64 0, .int .i64 0, .int .i64 0, .int .i64 0, .int .i64 0, .int .i64 0, .int .i64 0, .int .i64 0, .int .i64 0, .int .i64 0, .int .i64 0, .int .i64 0, .int .i64 0, .int .i64 0] 68)).alloc (Obj.cells #[.int .i64 0, .slice none 0 0] 26)).cell? ⟨w.heap.size, 0, none⟩ = some (.int .i64 k) by
    refine cell_alloc_l _ (cell_alloc_l _ (cell_alloc_l _ ?_))
    exact (cell_new_l w (.int .i64 k) 3).1)
  have Y := Lib.hid (show Bx 0 (.slice none 0 0) (w.heap.size + 1) ((((w.alloc (Obj.cells #[.int .i64 k] 3)).alloc (Obj.cells #[.int .i64 0, .slice none 0 0] 26)).alloc (Obj.cells #[.int .i64 0, .int .i64 0, .int .i64 0, .int .i64 0, .int .i64 0, .int .i64 0, .int .i64 0, .int .i64 0, .int .i64 0, .int .i64 0, .int .i64 0, .int .i64 0, .int .i64 0, .int .i64 0, .int .i64 0, .int .i64 0, .int .i64 0, .int .i64 0, .int .i64 0, .int .i64 0, .int .i64 0, .int .i64 0, .int .i64 0, .int .i64 0, .int .i64 0, .int .i64 0, .int .i64 0, .int .i64 0, .int .i64 0, .int .i64 0, .int .i64 0, .int .i64 0] 68)).alloc (Obj.cells #[.int .i64 0, .slice none 0 0] 26)) from ((show Bx 0 (.slice none 0 0) (w.heap.size + 1) ((w.alloc (Obj.cells #[.int .i64 k] 3)).alloc (Obj.cells #[.int .i64 0, .slice none 0 0] 26)) from heap_alloc_at (by simp)).alloc _).alloc _)
  have C := Lib.hid (show ArrI ((((w.alloc (Obj.cells #[.int .i64 k] 3)).alloc (Obj.cells #[.int .i64 0, .slice none 0 0] 26)).alloc (Obj.cells #[.int .i64 0, .int .i64 0, .int .i64 0, .int .i64 0, .int .i64 0, .int .i64 0, .int .i64 0, .int .i64 0, .int .i64 0, .int .i64 0, .int .i64 0, .int .i64 0, .int .i64 0, .int .i64 0, .int .i64 0, .int .i64 0, .int .i64 0, .int .i64 0, .int .i64 0, .int .i64 0, .int .i64 0, .int .i64 0, .int .i64 0, .int .i64 0, .int .i64 0, .int .i64 0, .int .i64 0, .int .i64 0, .int .i64 0, .int .i64 0, .int .i64 0, .int .i64 0] 68)).alloc (Obj.cells #[.int .i64 0, .slice none 0 0] 26)) (w.heap.size + 2) (fun _ => 0) from ArrI.next (B := w.heap.size + 3) (arrI_zero (by simp)) ((Below.refl _ _).alloc (by simp) _) (by omega))
  have X := Lib.hid (show Bx 0 (.slice none 0 0) (w.heap.size + 3) ((((w.alloc (Obj.cells #[.int .i64 k] 3)).alloc (Obj.cells #[.int .i64 0, .slice none 0 0] 26)).alloc (Obj.cells #[.int .i64 0, .int .i64 0, .int .i64 0, .int .i64 0, .int .i64 0, .int .i64 0, .int .i64 0, .int .i64 0, .int .i64 0, .int .i64 0, .int .i64 0, .int .i64 0, .int .i64 0, .int .i64 0, .int .i64 0, .int .i64 0, .int .i64 0, .int .i64 0, .int .i64 0, .int .i64 0, .int .i64 0, .int .i64 0, .int .i64 0, .int .i64 0, .int .i64 0, .int .i64 0, .int .i64 0, .int .i64 0, .int .i64 0, .int .i64 0, .int .i64 0, .int .i64 0] 68)).alloc (Obj.cells #[.int .i64 0, .slice none 0 0] 26)) from heap_alloc_at (by simp))
  clear a1 a5 b1 b5 c0 c1 c2 c3
  have ht : twoB na xs nb ys = false := by rw [twoB, hva]; rfl
  rw [iaN_no ht, iaL_no ht, ht]
  rw [hva] at HVA
  clear hva ht
  go_enter Try.func45, Try.ntmps45
  go_wp2_with fail
  generalize ((((w.alloc (Obj.cells #[.int .i64 k] 3)).alloc (Obj.cells #[.int .i64 0, .slice none 0 0] 26)).alloc (Obj.cells #[.int .i64 0, .int .i64 0, .int .i64 0, .int .i64 0, .int .i64 0, .int .i64 0, .int .i64 0, .int .i64 0, .int .i64 0, .int .i64 0, .int .i64 0, .int .i64 0, .int .i64 0, .int .i64 0, .int .i64 0, .int .i64 0, .int .i64 0, .int .i64 0, .int .i64 0, .int .i64 0, .int .i64 0, .int .i64 0, .int .i64 0, .int .i64 0, .int .i64 0, .int .i64 0, .int .i64 0, .int .i64 0, .int .i64 0, .int .i64 0, .int .i64 0, .int .i64 0] 68)).alloc (Obj.cells #[.int .i64 0, .slice none 0 0] 26)) = W0 at *
  have hw0 : w.heap.size + 4 ≤ W0.heap.size := by have := HZ.out; omega
  clear HZ
  refine wp_loop_rounds 3 ?_
  have HH0 := Lib.hid ((B.out.cell (p := ⟨H, 0, none⟩) hHlt).trans HC0.out)
  have HH1 := Lib.hid ((B.out.cell (p := ⟨H, 1, none⟩) hHlt).trans HC1.out)
  have HH2 := Lib.hid ((B.out.cell (p := ⟨H, 2, none⟩) hHlt).trans HC2.out)
  have HH3 := Lib.hid ((B.out.cell (p := ⟨H, 3, none⟩) hHlt).trans HC3.out)
  rw [rounds_succ]
  have h0 := HH0.out
  have h1 := HH1.out
  have h2 := HH2.out
  have h3 := HH3.out
  have T := Lib.hid (Bx.new na (.slice a xs.length ca) W0)
  replace N0 := Lib.hid ((show Below W0.heap.size W0 (W0.alloc (Obj.cells #[.int .i64 na, .slice a xs.length ca] 26)) from (Below.refl _ _).alloc (Nat.le_refl _) _).cell (p := ⟨w.heap.size, 0, none⟩) (show w.heap.size < W0.heap.size by omega) |>.trans N0.out)
  replace Y := Lib.hid (Y.out.alloc (Obj.cells #[.int .i64 na, .slice a xs.length ca] 26))
  replace X := Lib.hid (X.out.alloc (Obj.cells #[.int .i64 na, .slice a xs.length ca] 26))
  replace C := Lib.hid (C.out.next (show Below W0.heap.size W0 (W0.alloc (Obj.cells #[.int .i64 na, .slice a xs.length ca] 26)) from (Below.refl _ _).alloc (Nat.le_refl _) _) (by omega))
  replace B := Lib.hid (B.out.alloc B.out.size (Obj.cells #[.int .i64 na, .slice a xs.length ca] 26))
  have HZ := Lib.hid (show (W0.alloc (Obj.cells #[.int .i64 na, .slice a xs.length ca] 26)).heap.size = W0.heap.size + 1 by simp)
  have t0 := T.out.out.at0
  have t1 := T.out.out.at1
  go_wp2_with fail
  clear h0 h1 h2 h3
  generalize (W0.alloc (Obj.cells #[.int .i64 na, .slice a xs.length ca] 26)) = V0 at *
  have hv0 : W0.heap.size < V0.heap.size := by have := HZ.out; omega
  clear HZ
  have h0 := (B.out.cell (p := ⟨H, 0, none⟩) hHlt).trans HC0.out
  refine wp_region_held_drew (S := fun w' => w'.cell? ⟨W0.heap.size, 0, none⟩ = some (.int .i64 na) ∧ w'.cell? ⟨W0.heap.size, 1, none⟩ = some (.slice a xs.length ca) ∧ w'.cell? ⟨H, 0, none⟩ = some (.int .i64 na)) (by kernel_rfl) (by first | exact ⟨t0, t1, h0⟩ | exact ⟨t0_, t1_, h0_⟩ | go_keep) (fun hHeld => ?_)
  refine wpAnyH_take (i := 0) (v := ?_) rfl (by kernel_rfl) (by kernel_rfl) (by kernel_rfl) (fun _ _ _ h => h) (Or.inl ⟨by rfl, ?_⟩) (by assumption) ?_
  rotate_left
  · (intro w hSw; (try dsimp only at hSw); go_simp; try with_reducible rfl)
  try simp only [List.getElem_toArray, List.getElem_cons_zero, Act.put, List.setIfInBounds_toArray, List.set_cons_zero, List.set_cons_succ]
  refine wpAnyH_ready (rs := [1]) (by kernel_rfl) (by simp) ?_
  refine AllReadyH.cons rfl (fun K hK => ?_) AllReadyH.nil
  try simp only [List.getElem_toArray]
  go_simp
  (go_at_call 29; refine (HVA.out _ (by first | exact HA.out.below B.out (Nat.le_refl _) | exact HA.out.below B.out.drew (Nat.le_refl _))).mono ?_; rintro e U0 ⟨rfl, hbd⟩; have hx0 : Below V0.heap.size V0 U0 := (by first | exact hbd | exact ⟨hbd.os, hbd.tape, hbd.output, hbd.size, hbd.block⟩); clear hbd; replace N0 := Lib.hid ((hx0.cell (p := ⟨w.heap.size, 0, none⟩) (show w.heap.size < V0.heap.size by omega)).trans N0.out); replace Y := Lib.hid (Y.out.next hx0 (by omega)); replace X := Lib.hid (X.out.next hx0 (by omega)); replace T := Lib.hid (T.out.next hx0 (by omega)); replace C := Lib.hid (C.out.next hx0 (by omega)); replace B := Lib.hid (B.out.trans (hx0.mono (by omega))); have hzx0 := hx0.size; have t0_ := T.out.out.at0; have t1_ := T.out.out.at1; have h0_ := (B.out.cell (p := ⟨H, 0, none⟩) hHlt).trans HC0.out; clear hx0)
  refine hK.out _ _ (by first | exact ⟨t0, t1, h0⟩ | exact ⟨t0_, t1_, h0_⟩ | go_keep) (fun hHeld => ?_)
  clear hK K
  try simp only [List.getElem_toArray, List.getElem_cons_zero, List.getElem_cons_succ, Act.put, List.setIfInBounds_toArray, List.set_cons_zero, List.set_cons_succ]
  refine wpAnyH_take (i := 2) (v := ?_) rfl (by kernel_rfl) (by kernel_rfl) (by kernel_rfl) (fun _ _ _ h => h) (Or.inl ⟨by rfl, ?_⟩) (by assumption) ?_
  rotate_left
  · (intro w hSw; (try dsimp only at hSw); go_simp; try with_reducible rfl)
  try simp only [List.getElem_toArray, List.getElem_cons_zero, List.getElem_cons_succ, Act.put, List.setIfInBounds_toArray, List.set_cons_zero, List.set_cons_succ]
  refine wpAnyH_take (i := 3) (v := ?_) rfl (by kernel_rfl) (by kernel_rfl) (by kernel_rfl) (fun _ _ _ h => h) (Or.inl ⟨by rfl, ?_⟩) (by assumption) ?_
  rotate_left
  · (intro w hSw; (try dsimp only at hSw); go_simp; try with_reducible rfl)
  try simp only [List.getElem_toArray, List.getElem_cons_zero, List.getElem_cons_succ, Act.put, List.setIfInBounds_toArray, List.set_cons_zero, List.set_cons_succ]
  refine wpAnyH_take (i := 4) (v := undef) rfl (by kernel_rfl) (by kernel_rfl) (by kernel_rfl) (fun _ _ _ h => h) (Or.inr ⟨by rfl, rfl⟩) (by assumption) ?_
  try simp only [List.getElem_toArray, List.getElem_cons_zero, List.getElem_cons_succ, Act.put, List.setIfInBounds_toArray, List.set_cons_zero, List.set_cons_succ]
  refine wpAnyH_take (i := 5) (v := undef) rfl (by kernel_rfl) (by kernel_rfl) (by kernel_rfl) (fun _ _ _ h => h) (Or.inr ⟨by rfl, rfl⟩) (by assumption) ?_
  try simp only [List.getElem_toArray, List.getElem_cons_zero, List.getElem_cons_succ, Act.put, List.setIfInBounds_toArray, List.set_cons_zero, List.set_cons_succ]
  refine wpAnyH_take (i := 6) (v := undef) rfl (by kernel_rfl) (by kernel_rfl) (by kernel_rfl) (fun _ _ _ h => h) (Or.inr ⟨by rfl, rfl⟩) (by assumption) ?_
  try simp only [List.getElem_toArray, List.getElem_cons_zero, List.getElem_cons_succ, Act.put, List.setIfInBounds_toArray, List.set_cons_zero, List.set_cons_succ]
  refine wpAnyH_take (i := 7) (v := undef) rfl (by kernel_rfl) (by kernel_rfl) (by kernel_rfl) (fun _ _ _ h => h) (Or.inr ⟨by rfl, rfl⟩) (by assumption) ?_
  try simp only [List.getElem_toArray, List.getElem_cons_zero, List.getElem_cons_succ, Act.put, List.setIfInBounds_toArray, List.set_cons_zero, List.set_cons_succ]
  refine wpAnyH_take (i := 8) (v := undef) rfl (by kernel_rfl) (by kernel_rfl) (by kernel_rfl) (fun _ _ _ h => h) (Or.inr ⟨by rfl, rfl⟩) (by assumption) ?_
  try simp only [List.getElem_toArray, List.getElem_cons_zero, List.getElem_cons_succ, Act.put, List.setIfInBounds_toArray, List.set_cons_zero, List.set_cons_succ]
  refine wpAnyH_take (i := 9) (v := undef) rfl (by kernel_rfl) (by kernel_rfl) (by kernel_rfl) (fun _ _ _ h => h) (Or.inr ⟨by rfl, rfl⟩) (by assumption) ?_
  try simp only [List.getElem_toArray, List.getElem_cons_zero, List.getElem_cons_succ, Act.put, List.setIfInBounds_toArray, List.set_cons_zero, List.set_cons_succ]
  refine wpAnyH_take (i := 10) (v := undef) rfl (by kernel_rfl) (by kernel_rfl) (by kernel_rfl) (fun _ _ _ h => h) (Or.inr ⟨by rfl, rfl⟩) (by assumption) ?_
  try simp only [List.getElem_toArray, List.getElem_cons_zero, List.getElem_cons_succ, Act.put, List.setIfInBounds_toArray, List.set_cons_zero, List.set_cons_succ]
  refine wpAnyH_take (i := 11) (v := ?_) rfl (by kernel_rfl) (by kernel_rfl) (by kernel_rfl) (fun _ _ _ h => h) (Or.inl ⟨by rfl, ?_⟩) (by assumption) ?_
  rotate_left
  · (intro w hSw; (try dsimp only at hSw); go_simp; try with_reducible rfl)
  try simp only [List.getElem_toArray, List.getElem_cons_zero, List.getElem_cons_succ, Act.put, List.setIfInBounds_toArray, List.set_cons_zero, List.set_cons_succ]
  refine wpAnyH_done (by kernel_rfl) ?_ _
  clear t0 t1 h0 t0_ t1_ h0_
  have r0 := Y.out.out.at0
  have r1 := Y.out.out.at1
  have q0 := Y.out.out.free0
  have q1 := Y.out.out.free1
  go_wp2_with fail
  refine bodyPost_ret (v := .tuple #[.agg #[.int .i64 0, .slice none 0 0], .bool false]) (by simp [results, Try.results45, go_sem, r0, r1]) rfl ?_
  refine ⟨none, 0, rfl, Ints.nil _ _, ?_⟩
  have hb0 := B.out
  clear r0 r1 q0 q1
  go_grown

set_option maxRecDepth 100000 in
set_option maxHeartbeats 12800000 in
theorem implInAtLeastNB (k na : Int) (va : Value) (xs : List Int) (nb : Int) (vb : Value) (ys : List Int) (H : Nat) (w : World) (ha : Rd w va xs) (hb : Rd w vb ys) (hva : vldB na xs = true) (hvb : vldB nb ys = false)
    (c0 : w.cell? ⟨H, 0, none⟩ = some (.int .i64 na)) (c1 : w.cell? ⟨H, 1, none⟩ = some va) (c2 : w.cell? ⟨H, 2, none⟩ = some (.int .i64 nb)) (c3 : w.cell? ⟨H, 3, none⟩ = some vb) :
    Calls Try.prog 45 #[.int .i64 k, .slice (some ⟨H, 0, none⟩) 2 2] w (RetCB (iaN na xs nb ys) (iaL k na xs nb ys) (twoB na xs nb ys) w) := by
  have HA := Lib.hid ha
  have HBb := Lib.hid hb
  have hHlt : H < w.heap.size := World.block_lt_of_cell? w _ c0
  have HVA := Lib.hid (fun w h => implValid na va xs w h)
  have HVB := Lib.hid (fun w h => implValid nb vb ys w h)
  obtain ⟨a, ba, offa, ca, rfl, a1, _, a5⟩ := ha
  obtain ⟨b, bb, offb, cb, rfl, b1, _, b5⟩ := hb
  have HA1 := Lib.hid a1
  have HA5 := Lib.hid a5
  have HB1 := Lib.hid b1
  have HB5 := Lib.hid b5
  have HC0 := Lib.hid c0
  have HC1 := Lib.hid c1
  have HC2 := Lib.hid c2
  have HC3 := Lib.hid c3
  have B := Lib.hid (show Below w.heap.size w ((((w.alloc (Obj.cells #[.int .i64 k] 3)).alloc (Obj.cells #[.int .i64 0, .slice none 0 0] 26)).alloc (Obj.cells #[.int .i64 0, .int .i64 0, .int .i64 0, .int .i64 0, .int .i64 0, .int .i64 0, .int .i64 0, .int .i64 0, .int .i64 0, .int .i64 0, .int .i64 0, .int .i64 0, .int .i64 0, .int .i64 0, .int .i64 0, .int .i64 0, .int .i64 0, .int .i64 0, .int .i64 0, .int .i64 0, .int .i64 0, .int .i64 0, .int .i64 0, .int .i64 0, .int .i64 0, .int .i64 0, .int .i64 0, .int .i64 0, .int .i64 0, .int .i64 0, .int .i64 0, .int .i64 0] 68)).alloc (Obj.cells #[.int .i64 0, .slice none 0 0] 26)) from ((((Below.refl _ _).alloc (Nat.le_refl _) _).alloc (by simp) _).alloc (by simp; omega) _).alloc (by simp; omega) _)
  have HZ := Lib.hid (show ((((w.alloc (Obj.cells #[.int .i64 k] 3)).alloc (Obj.cells #[.int .i64 0, .slice none 0 0] 26)).alloc (Obj.cells #[.int .i64 0, .int .i64 0, .int .i64 0, .int .i64 0, .int .i64 0, .int .i64 0, .int .i64 0, .int .i64 0, .int .i64 0, .int .i64 0, .int .i64 0, .int .i64 0, .int .i64 0, .int .i64 0, .int .i64 0, .int .i64 0, .int .i64 0, .int .i64 0, .int .i64 0, .int .i64 0, .int .i64 0, .int .i64 0, .int .i64 0, .int .i64 0, .int .i64 0, .int .i64 0, .int .i64 0, .int .i64 0, .int .i64 0, .int .i64 0, .int .i64 0, .int .i64 0] 68)).alloc (Obj.cells #[.int .i64 0, .slice none 0 0] 26)).heap.size = w.heap.size + 4 by simp)
  have N0 := Lib.hid (show ((((w.alloc (Obj.cells #[.int .i64 k] 3)).alloc (Obj.cells #[.int .i64 0, .slice none 0 0] 26)).alloc (Obj.cells #[.int .i64 0, .int .i64 0, .int .i64 0, .int .i64 0, .int .i64 0, .int .i64 0, .int .i64 0, .int .i64 0, .int .i64 0, .int .i64 0, .int .i64 0, .int .i64 0, .int .i64 0, .int .i64 0, .int .i64 0, .int .i64 0, .int .i64 0, .int .i64 0, .int .i64 0, .int .i64 0, .int .i64 0, .int .i64 0, .int .i64 0, .int .i64 0, .int .i64 0, .int .i64 0, .int .i64 0, .int .i64 0, .int .i64 0, .int .i64 0, .int .i64 0, .int .i64 0] 68)).alloc (Obj.cells #[.int .i64 0, .slice none 0 0] 26)).cell? ⟨w.heap.size, 0, none⟩ = some (.int .i64 k) by
    refine cell_alloc_l _ (cell_alloc_l _ (cell_alloc_l _ ?_))
    exact (cell_new_l w (.int .i64 k) 3).1)
  have Y := Lib.hid (show Bx 0 (.slice none 0 0) (w.heap.size + 1) ((((w.alloc (Obj.cells #[.int .i64 k] 3)).alloc (Obj.cells #[.int .i64 0, .slice none 0 0] 26)).alloc (Obj.cells #[.int .i64 0, .int .i64 0, .int .i64 0, .int .i64 0, .int .i64 0, .int .i64 0, .int .i64 0, .int .i64 0, .int .i64 0, .int .i64 0, .int .i64 0, .int .i64 0, .int .i64 0, .int .i64 0, .int .i64 0, .int .i64 0, .int .i64 0, .int .i64 0, .int .i64 0, .int .i64 0, .int .i64 0, .int .i64 0, .int .i64 0, .int .i64 0, .int .i64 0, .int .i64 0, .int .i64 0, .int .i64 0, .int .i64 0, .int .i64 0, .int .i64 0, .int .i64 0] 68)).alloc (Obj.cells #[.int .i64 0, .slice none 0 0] 26)) from ((show Bx 0 (.slice none 0 0) (w.heap.size + 1) ((w.alloc (Obj.cells #[.int .i64 k] 3)).alloc (Obj.cells #[.int .i64 0, .slice none 0 0] 26)) from heap_alloc_at (by simp)).alloc _).alloc _)
  have C := Lib.hid (show ArrI ((((w.alloc (Obj.cells #[.int .i64 k] 3)).alloc (Obj.cells #[.int .i64 0, .slice none 0 0] 26)).alloc (Obj.cells #[.int .i64 0, .int .i64 0, .int .i64 0, .int .i64 0, .int .i64 0, .int .i64 0, .int .i64 0, .int .i64 0, .int .i64 0, .int .i64 0, .int .i64 0, .int .i64 0, .int .i64 0, .int .i64 0, .int .i64 0, .int .i64 0, .int .i64 0, .int .i64 0, .int .i64 0, .int .i64 0, .int .i64 0, .int .i64 0, .int .i64 0, .int .i64 0, .int .i64 0, .int .i64 0, .int .i64 0, .int .i64 0, .int .i64 0, .int .i64 0, .int .i64 0, .int .i64 0] 68)).alloc (Obj.cells #[.int .i64 0, .slice none 0 0] 26)) (w.heap.size + 2) (fun _ => 0) from ArrI.next (B := w.heap.size + 3) (arrI_zero (by simp)) ((Below.refl _ _).alloc (by simp) _) (by omega))
  have X := Lib.hid (show Bx 0 (.slice none 0 0) (w.heap.size + 3) ((((w.alloc (Obj.cells #[.int .i64 k] 3)).alloc (Obj.cells #[.int .i64 0, .slice none 0 0] 26)).alloc (Obj.cells #[.int .i64 0, .int .i64 0, .int .i64 0, .int .i64 0, .int .i64 0, .int .i64 0, .int .i64 0, .int .i64 0, .int .i64 0, .int .i64 0, .int .i64 0, .int .i64 0, .int .i64 0, .int .i64 0, .int .i64 0, .int .i64 0, .int .i64 0, .int .i64 0, .int .i64 0, .int .i64 0, .int .i64 0, .int .i64 0, .int .i64 0, .int .i64 0, .int .i64 0, .int .i64 0, .int .i64 0, .int .i64 0, .int .i64 0, .int .i64 0, .int .i64 0, .int .i64 0] 68)).alloc (Obj.cells #[.int .i64 0, .slice none 0 0] 26)) from heap_alloc_at (by simp))
  clear a1 a5 b1 b5 c0 c1 c2 c3
  obtain ⟨m, ns, rfl, rfl, hca⟩ := vldB_cls hva
  have hm := hca.pts
  have hla := hca.length
  rw [hva] at HVA
  rw [toI_length] at *
  have La32 := Lib.hid hca.lt32
  have MB0 := Lib.hid (mkTo_bd (fun _ => 0) ns (fun x => by show (0 : Int) ≤ 0 ∧ (0 : Int) ≤ 32; omega))
  have M1 := Lib.hid (mk_one hca.asc)
  have ht : twoB (m : Int) (toI ns) nb ys = false := by rw [twoB, hvb]; simp
  rw [iaN_no ht, iaL_no ht, ht]
  rw [hvb] at HVB
  clear hva hvb ht hca
  go_enter Try.func45, Try.ntmps45
  go_wp2_with fail
  generalize ((((w.alloc (Obj.cells #[.int .i64 k] 3)).alloc (Obj.cells #[.int .i64 0, .slice none 0 0] 26)).alloc (Obj.cells #[.int .i64 0, .int .i64 0, .int .i64 0, .int .i64 0, .int .i64 0, .int .i64 0, .int .i64 0, .int .i64 0, .int .i64 0, .int .i64 0, .int .i64 0, .int .i64 0, .int .i64 0, .int .i64 0, .int .i64 0, .int .i64 0, .int .i64 0, .int .i64 0, .int .i64 0, .int .i64 0, .int .i64 0, .int .i64 0, .int .i64 0, .int .i64 0, .int .i64 0, .int .i64 0, .int .i64 0, .int .i64 0, .int .i64 0, .int .i64 0, .int .i64 0, .int .i64 0] 68)).alloc (Obj.cells #[.int .i64 0, .slice none 0 0] 26)) = W0 at *
  have hw0 : w.heap.size + 4 ≤ W0.heap.size := by have := HZ.out; omega
  clear HZ
  refine wp_loop_rounds 3 ?_
  have HH0 := Lib.hid ((B.out.cell (p := ⟨H, 0, none⟩) hHlt).trans HC0.out)
  have HH1 := Lib.hid ((B.out.cell (p := ⟨H, 1, none⟩) hHlt).trans HC1.out)
  have HH2 := Lib.hid ((B.out.cell (p := ⟨H, 2, none⟩) hHlt).trans HC2.out)
  have HH3 := Lib.hid ((B.out.cell (p := ⟨H, 3, none⟩) hHlt).trans HC3.out)
  rw [rounds_succ]
  have h0 := HH0.out
  have h1 := HH1.out
  have h2 := HH2.out
  have h3 := HH3.out
  have T := Lib.hid (Bx.new (m : Int) (.slice a ns.length ca) W0)
  replace N0 := Lib.hid ((show Below W0.heap.size W0 (W0.alloc (Obj.cells #[.int .i64 (m : Int), .slice a ns.length ca] 26)) from (Below.refl _ _).alloc (Nat.le_refl _) _).cell (p := ⟨w.heap.size, 0, none⟩) (show w.heap.size < W0.heap.size by omega) |>.trans N0.out)
  replace Y := Lib.hid (Y.out.alloc (Obj.cells #[.int .i64 (m : Int), .slice a ns.length ca] 26))
  replace X := Lib.hid (X.out.alloc (Obj.cells #[.int .i64 (m : Int), .slice a ns.length ca] 26))
  replace C := Lib.hid (C.out.next (show Below W0.heap.size W0 (W0.alloc (Obj.cells #[.int .i64 (m : Int), .slice a ns.length ca] 26)) from (Below.refl _ _).alloc (Nat.le_refl _) _) (by omega))
  replace B := Lib.hid (B.out.alloc B.out.size (Obj.cells #[.int .i64 (m : Int), .slice a ns.length ca] 26))
  have HZ := Lib.hid (show (W0.alloc (Obj.cells #[.int .i64 (m : Int), .slice a ns.length ca] 26)).heap.size = W0.heap.size + 1 by simp)
  have t0 := T.out.out.at0
  have t1 := T.out.out.at1
  go_wp2_with fail
  clear h0 h1 h2 h3
  generalize (W0.alloc (Obj.cells #[.int .i64 (m : Int), .slice a ns.length ca] 26)) = V0 at *
  have hv0 : W0.heap.size < V0.heap.size := by have := HZ.out; omega
  clear HZ
  have h0 := (B.out.cell (p := ⟨H, 0, none⟩) hHlt).trans HC0.out
  go_region_held3 (fun w' => w'.cell? ⟨W0.heap.size, 0, none⟩ = some (.int .i64 (m : Int)) ∧ w'.cell? ⟨W0.heap.size, 1, none⟩ = some (.slice a ns.length ca) ∧ w'.cell? ⟨H, 0, none⟩ = some (.int .i64 (m : Int))) (first | exact ⟨t0, t1, h0⟩ | exact ⟨t0_, t1_, h0_⟩ | go_keep) (first | (go_at_call 29; refine (HVA.out _ (by first | exact HA.out.below B.out (Nat.le_refl _) | exact HA.out.below B.out.drew (Nat.le_refl _))).mono ?_; rintro e U0 ⟨rfl, hbd⟩; have hx0 : Below V0.heap.size V0 U0 := (by first | exact hbd | exact ⟨hbd.os, hbd.tape, hbd.output, hbd.size, hbd.block⟩); clear hbd; replace N0 := Lib.hid ((hx0.cell (p := ⟨w.heap.size, 0, none⟩) (show w.heap.size < V0.heap.size by omega)).trans N0.out); replace Y := Lib.hid (Y.out.next hx0 (by omega)); replace X := Lib.hid (X.out.next hx0 (by omega)); replace T := Lib.hid (T.out.next hx0 (by omega)); replace C := Lib.hid (C.out.next hx0 (by omega)); replace B := Lib.hid (B.out.trans (hx0.mono (by omega))); have hzx0 := hx0.size; have t0_ := T.out.out.at0; have t1_ := T.out.out.at1; have h0_ := (B.out.cell (p := ⟨H, 0, none⟩) hHlt).trans HC0.out; clear hx0))
  clear t0 t1 h0 t0_ t1_ h0_
  have t0 := T.out.out.at0
  have t1 := T.out.out.at1
  have x0 := X.out.out.at0
  have x1 := X.out.out.at1
  have y0 := X.out.out.free0
  have XN := Lib.hid (X.out.setN (m : Int))
  have CN := Lib.hid (C.out.other (j := 0) (show w.heap.size + 2 ≠ w.heap.size + 3 by omega) (.int .i64 (m : Int)))
  have YN := Lib.hid (Y.out.other (j := 0) (show w.heap.size + 1 ≠ w.heap.size + 3 by omega) (.int .i64 (m : Int)))
  have TN := Lib.hid (T.out.other (j := 0) (show W0.heap.size ≠ w.heap.size + 3 by omega) (.int .i64 (m : Int)))
  have NN := Lib.hid ((World.cell?_setCell_other U0 ⟨w.heap.size + 3, 0, none⟩ ⟨w.heap.size, 0, none⟩ (.int .i64 (m : Int)) (by simp)).trans N0.out)
  have BN := Lib.hid (B.out.setCell (p := ⟨w.heap.size + 3, 0, none⟩) (by show w.heap.size ≤ w.heap.size + 3; omega) (.int .i64 (m : Int)))
  have HZ := Lib.hid (show (U0.setCell ⟨w.heap.size + 3, 0, none⟩ (.int .i64 (m : Int))).heap.size = U0.heap.size by simp)
  clear t0 t1
  have t0 := TN.out.out.at0
  have t1 := TN.out.out.at1
  have t0' := T.out.out.at0
  go_wp2_with fail
  generalize (U0.setCell ⟨w.heap.size + 3, 0, none⟩ (.int .i64 (m : Int))) = Z0 at *
  have hZ0 : U0.heap.size ≤ Z0.heap.size := by have := HZ.out; omega
  clear HZ t0 t1 x0 x1 y0 t0' N0 Y X C B T TN
  go_loopw [37] (fun i wr => ∃ j : Nat, j ≤ ns.length ∧ i = .int .i64 j ∧ ArrI wr (w.heap.size + 2) (mkTo (fun _ => 0) ns j) ∧ Bx (m : Int) (.slice none 0 0) (w.heap.size + 3) wr ∧ Below (w.heap.size + 2) Z0 wr ∧ Z0.heap.size ≤ wr.heap.size) (fun i _ => ns.length - (intOf i).toNat)
  case atStart => exact ⟨0, Nat.zero_le _, rfl, CN.out, XN.out, Below.refl _ _, Nat.le_refl _⟩
  case round =>
    obtain ⟨j, hj, rfl, hc, hx, hbe, hsz⟩ := hrel
    have C := Lib.hid hc
    have X := Lib.hid hx
    have HBE := Lib.hid hbe
    clear hc hx hbe
    by_cases hlt : j < ns.length
    · obtain ⟨rfl, hbl⟩ := HA1.out (by omega)
      have hc0 := (HBE.out.cell (p := ⟨ba, offa + j, none⟩) (show ba < w.heap.size + 2 by omega)).trans ((BN.out.cell (p := ⟨ba, offa + j, none⟩) hbl).trans (HA5.out j (by omega)))
      rw [toI_getD] at hc0
      have hy32 := La32.out _ (getD_of_lt hlt)
      have hbd := MB0.out j (ns.getD j 0)
      have HMk := Lib.hid (show mkTo (fun _ => 0) ns (j + 1) = fun x => if x = ns.getD j 0 then mkTo (fun _ => 0) ns j (ns.getD j 0) + 1 else mkTo (fun _ => 0) ns j x from rfl)
      generalize ns.getD j 0 = y at *
      have ca := (C.out.cell y hy32).1
      have cf := (C.out.cell y hy32).2
      have C2 := Lib.hid (C.out.set y (mkTo (fun _ => 0) ns j y + 1))
      rw [← HMk.out] at C2
      have X2 := Lib.hid (X.out.other (j := y) (show w.heap.size + 3 ≠ w.heap.size + 2 by omega) (.int .i64 (mkTo (fun _ => 0) ns j y + 1)))
      have B2 := Lib.hid (HBE.out.setCell (p := ⟨w.heap.size + 2, y, none⟩) (Nat.le_refl _) (.int .i64 (mkTo (fun _ => 0) ns j y + 1)))
      generalize mkTo (fun _ => 0) ns j y = z at *
      have hy0 : (0 : Int) ≤ (y : Int) := by omega
      have hyI : (y : Int) < 32 := by omega
      go_wp2_with fail
      go_roundw
      case rel => exact ⟨j + 1, by omega, by go_num, C2.out, X2.out, B2.out, by simp; omega⟩
      case measure => simp [intOf]; omega
    · obtain rfl : j = ns.length := by omega
      replace Y := Lib.hid (YN.out.next HBE.out (by omega))
      replace N0 := Lib.hid ((HBE.out.cell (p := ⟨w.heap.size, 0, none⟩) (show w.heap.size < w.heap.size + 2 by omega)).trans NN.out)
      replace B := Lib.hid (BN.out.trans (HBE.out.mono (by omega)))
      clear YN NN BN CN XN HBE
      obtain ⟨W1, hW1⟩ : ∃ W1, W1 = wr := ⟨_, rfl⟩
      subst hW1
      replace HH0 := Lib.hid ((B.out.cell (p := ⟨H, 0, none⟩) hHlt).trans HC0.out)
      replace HH1 := Lib.hid ((B.out.cell (p := ⟨H, 1, none⟩) hHlt).trans HC1.out)
      replace HH2 := Lib.hid ((B.out.cell (p := ⟨H, 2, none⟩) hHlt).trans HC2.out)
      replace HH3 := Lib.hid ((B.out.cell (p := ⟨H, 3, none⟩) hHlt).trans HC3.out)
      go_wp2_with fail
      rw [rounds_succ]
      have h0 := HH0.out
      have h1 := HH1.out
      have h2 := HH2.out
      have h3 := HH3.out
      have T := Lib.hid (Bx.new nb (.slice b ys.length cb) W1)
      replace N0 := Lib.hid ((show Below W1.heap.size W1 (W1.alloc (Obj.cells #[.int .i64 nb, .slice b ys.length cb] 26)) from (Below.refl _ _).alloc (Nat.le_refl _) _).cell (p := ⟨w.heap.size, 0, none⟩) (show w.heap.size < W1.heap.size by omega) |>.trans N0.out)
      replace Y := Lib.hid (Y.out.alloc (Obj.cells #[.int .i64 nb, .slice b ys.length cb] 26))
      replace X := Lib.hid (X.out.alloc (Obj.cells #[.int .i64 nb, .slice b ys.length cb] 26))
      replace C := Lib.hid (C.out.next (show Below W1.heap.size W1 (W1.alloc (Obj.cells #[.int .i64 nb, .slice b ys.length cb] 26)) from (Below.refl _ _).alloc (Nat.le_refl _) _) (by omega))
      replace B := Lib.hid (B.out.alloc B.out.size (Obj.cells #[.int .i64 nb, .slice b ys.length cb] 26))
      have HZ := Lib.hid (show (W1.alloc (Obj.cells #[.int .i64 nb, .slice b ys.length cb] 26)).heap.size = W1.heap.size + 1 by simp)
      have t0 := T.out.out.at0
      have t1 := T.out.out.at1
      go_wp2_with fail
      clear h0 h1 h2 h3
      generalize (W1.alloc (Obj.cells #[.int .i64 nb, .slice b ys.length cb] 26)) = V1 at *
      have hv1 : W1.heap.size < V1.heap.size := by have := HZ.out; omega
      clear HZ
      have h0 := (B.out.cell (p := ⟨H, 0, none⟩) hHlt).trans HC0.out
      refine wp_region_held_drew (S := fun w' => w'.cell? ⟨W1.heap.size, 0, none⟩ = some (.int .i64 nb) ∧ w'.cell? ⟨W1.heap.size, 1, none⟩ = some (.slice b ys.length cb) ∧ w'.cell? ⟨H, 0, none⟩ = some (.int .i64 (m : Int))) (by kernel_rfl) (by first | exact ⟨t0, t1, h0⟩ | exact ⟨t0_, t1_, h0_⟩ | go_keep) (fun hHeld => ?_)
      refine wpAnyH_take (i := 0) (v := ?_) rfl (by kernel_rfl) (by kernel_rfl) (by kernel_rfl) (fun _ _ _ h => h) (Or.inl ⟨by rfl, ?_⟩) (by assumption) ?_
      rotate_left
      · (intro w hSw; (try dsimp only at hSw); go_simp; try with_reducible rfl)
      try simp only [List.getElem_toArray, List.getElem_cons_zero, Act.put, List.setIfInBounds_toArray, List.set_cons_zero, List.set_cons_succ]
      refine wpAnyH_ready (rs := [1]) (by kernel_rfl) (by simp) ?_
      refine AllReadyH.cons rfl (fun K hK => ?_) AllReadyH.nil
      try simp only [List.getElem_toArray]
      go_simp
      (go_at_call 29; refine (HVB.out _ (by first | exact HBb.out.below B.out (Nat.le_refl _) | exact HBb.out.below B.out.drew (Nat.le_refl _))).mono ?_; rintro e U1 ⟨rfl, hbd⟩; have hx1 : Below V1.heap.size V1 U1 := (by first | exact hbd | exact ⟨hbd.os, hbd.tape, hbd.output, hbd.size, hbd.block⟩); clear hbd; replace N0 := Lib.hid ((hx1.cell (p := ⟨w.heap.size, 0, none⟩) (show w.heap.size < V1.heap.size by omega)).trans N0.out); replace Y := Lib.hid (Y.out.next hx1 (by omega)); replace X := Lib.hid (X.out.next hx1 (by omega)); replace T := Lib.hid (T.out.next hx1 (by omega)); replace C := Lib.hid (C.out.next hx1 (by omega)); replace B := Lib.hid (B.out.trans (hx1.mono (by omega))); have hzx1 := hx1.size; have t0_ := T.out.out.at0; have t1_ := T.out.out.at1; have h0_ := (B.out.cell (p := ⟨H, 0, none⟩) hHlt).trans HC0.out; clear hx1)
      refine hK.out _ _ (by first | exact ⟨t0, t1, h0⟩ | exact ⟨t0_, t1_, h0_⟩ | go_keep) (fun hHeld => ?_)
      clear hK K
      try simp only [List.getElem_toArray, List.getElem_cons_zero, List.getElem_cons_succ, Act.put, List.setIfInBounds_toArray, List.set_cons_zero, List.set_cons_succ]
      refine wpAnyH_take (i := 2) (v := ?_) rfl (by kernel_rfl) (by kernel_rfl) (by kernel_rfl) (fun _ _ _ h => h) (Or.inl ⟨by rfl, ?_⟩) (by assumption) ?_
      rotate_left
      · (intro w hSw; (try dsimp only at hSw); go_simp; try with_reducible rfl)
      try simp only [List.getElem_toArray, List.getElem_cons_zero, List.getElem_cons_succ, Act.put, List.setIfInBounds_toArray, List.set_cons_zero, List.set_cons_succ]
      refine wpAnyH_take (i := 3) (v := ?_) rfl (by kernel_rfl) (by kernel_rfl) (by kernel_rfl) (fun _ _ _ h => h) (Or.inl ⟨by rfl, ?_⟩) (by assumption) ?_
      rotate_left
      · (intro w hSw; (try dsimp only at hSw); go_simp; try with_reducible rfl)
      try simp only [List.getElem_toArray, List.getElem_cons_zero, List.getElem_cons_succ, Act.put, List.setIfInBounds_toArray, List.set_cons_zero, List.set_cons_succ]
      refine wpAnyH_take (i := 4) (v := undef) rfl (by kernel_rfl) (by kernel_rfl) (by kernel_rfl) (fun _ _ _ h => h) (Or.inr ⟨by rfl, rfl⟩) (by assumption) ?_
      try simp only [List.getElem_toArray, List.getElem_cons_zero, List.getElem_cons_succ, Act.put, List.setIfInBounds_toArray, List.set_cons_zero, List.set_cons_succ]
      refine wpAnyH_take (i := 5) (v := undef) rfl (by kernel_rfl) (by kernel_rfl) (by kernel_rfl) (fun _ _ _ h => h) (Or.inr ⟨by rfl, rfl⟩) (by assumption) ?_
      try simp only [List.getElem_toArray, List.getElem_cons_zero, List.getElem_cons_succ, Act.put, List.setIfInBounds_toArray, List.set_cons_zero, List.set_cons_succ]
      refine wpAnyH_take (i := 6) (v := undef) rfl (by kernel_rfl) (by kernel_rfl) (by kernel_rfl) (fun _ _ _ h => h) (Or.inr ⟨by rfl, rfl⟩) (by assumption) ?_
      try simp only [List.getElem_toArray, List.getElem_cons_zero, List.getElem_cons_succ, Act.put, List.setIfInBounds_toArray, List.set_cons_zero, List.set_cons_succ]
      refine wpAnyH_take (i := 7) (v := undef) rfl (by kernel_rfl) (by kernel_rfl) (by kernel_rfl) (fun _ _ _ h => h) (Or.inr ⟨by rfl, rfl⟩) (by assumption) ?_
      try simp only [List.getElem_toArray, List.getElem_cons_zero, List.getElem_cons_succ, Act.put, List.setIfInBounds_toArray, List.set_cons_zero, List.set_cons_succ]
      refine wpAnyH_take (i := 8) (v := undef) rfl (by kernel_rfl) (by kernel_rfl) (by kernel_rfl) (fun _ _ _ h => h) (Or.inr ⟨by rfl, rfl⟩) (by assumption) ?_
      try simp only [List.getElem_toArray, List.getElem_cons_zero, List.getElem_cons_succ, Act.put, List.setIfInBounds_toArray, List.set_cons_zero, List.set_cons_succ]
      refine wpAnyH_take (i := 9) (v := undef) rfl (by kernel_rfl) (by kernel_rfl) (by kernel_rfl) (fun _ _ _ h => h) (Or.inr ⟨by rfl, rfl⟩) (by assumption) ?_
      try simp only [List.getElem_toArray, List.getElem_cons_zero, List.getElem_cons_succ, Act.put, List.setIfInBounds_toArray, List.set_cons_zero, List.set_cons_succ]
      refine wpAnyH_take (i := 10) (v := undef) rfl (by kernel_rfl) (by kernel_rfl) (by kernel_rfl) (fun _ _ _ h => h) (Or.inr ⟨by rfl, rfl⟩) (by assumption) ?_
      try simp only [List.getElem_toArray, List.getElem_cons_zero, List.getElem_cons_succ, Act.put, List.setIfInBounds_toArray, List.set_cons_zero, List.set_cons_succ]
      refine wpAnyH_take (i := 11) (v := ?_) rfl (by kernel_rfl) (by kernel_rfl) (by kernel_rfl) (fun _ _ _ h => h) (Or.inl ⟨by rfl, ?_⟩) (by assumption) ?_
      rotate_left
      · (intro w hSw; (try dsimp only at hSw); go_simp; try with_reducible rfl)
      try simp only [List.getElem_toArray, List.getElem_cons_zero, List.getElem_cons_succ, Act.put, List.setIfInBounds_toArray, List.set_cons_zero, List.set_cons_succ]
      refine wpAnyH_done (by kernel_rfl) ?_ _
      clear t0 t1 h0 t0_ t1_ h0_
      have r0 := Y.out.out.at0
      have r1 := Y.out.out.at1
      have q0 := Y.out.out.free0
      have q1 := Y.out.out.free1
      go_wp2_with fail
      refine bodyPost_ret (v := .tuple #[.agg #[.int .i64 0, .slice none 0 0], .bool false]) (by simp [results, Try.results45, go_sem, r0, r1]) rfl ?_
      refine ⟨none, 0, rfl, Ints.nil _ _, ?_⟩
      have hb0 := B.out
      clear r0 r1 q0 q1
      go_grown

set_option maxRecDepth 100000 in
set_option maxHeartbeats 12800000 in
theorem implInAtLeastNE (k na : Int) (va : Value) (xs : List Int) (nb : Int) (vb : Value) (ys : List Int) (H : Nat) (w : World) (ha : Rd w va xs) (hb : Rd w vb ys) (hva : vldB na xs = true) (hvb : vldB nb ys = true) (he : ¬ nb = na)
    (c0 : w.cell? ⟨H, 0, none⟩ = some (.int .i64 na)) (c1 : w.cell? ⟨H, 1, none⟩ = some va) (c2 : w.cell? ⟨H, 2, none⟩ = some (.int .i64 nb)) (c3 : w.cell? ⟨H, 3, none⟩ = some vb) :
    Calls Try.prog 45 #[.int .i64 k, .slice (some ⟨H, 0, none⟩) 2 2] w (RetCB (iaN na xs nb ys) (iaL k na xs nb ys) (twoB na xs nb ys) w) := by
  have HA := Lib.hid ha
  have HBb := Lib.hid hb
  have hHlt : H < w.heap.size := World.block_lt_of_cell? w _ c0
  have HVA := Lib.hid (fun w h => implValid na va xs w h)
  have HVB := Lib.hid (fun w h => implValid nb vb ys w h)
  obtain ⟨a, ba, offa, ca, rfl, a1, _, a5⟩ := ha
  obtain ⟨b, bb, offb, cb, rfl, b1, _, b5⟩ := hb
  have HA1 := Lib.hid a1
  have HA5 := Lib.hid a5
  have HB1 := Lib.hid b1
  have HB5 := Lib.hid b5
  have HC0 := Lib.hid c0
  have HC1 := Lib.hid c1
  have HC2 := Lib.hid c2
  have HC3 := Lib.hid c3
  have B := Lib.hid (show Below w.heap.size w ((((w.alloc (Obj.cells #[.int .i64 k] 3)).alloc (Obj.cells #[.int .i64 0, .slice none 0 0] 26)).alloc (Obj.cells #[.int .i64 0, .int .i64 0, .int .i64 0, .int .i64 0, .int .i64 0, .int .i64 0, .int .i64 0, .int .i64 0, .int .i64 0, .int .i64 0, .int .i64 0, .int .i64 0, .int .i64 0, .int .i64 0, .int .i64 0, .int .i64 0, .int .i64 0, .int .i64 0, .int .i64 0, .int .i64 0, .int .i64 0, .int .i64 0, .int .i64 0, .int .i64 0, .int .i64 0, .int .i64 0, .int .i64 0, .int .i64 0, .int .i64 0, .int .i64 0, .int .i64 0, .int .i64 0] 68)).alloc (Obj.cells #[.int .i64 0, .slice none 0 0] 26)) from ((((Below.refl _ _).alloc (Nat.le_refl _) _).alloc (by simp) _).alloc (by simp; omega) _).alloc (by simp; omega) _)
  have HZ := Lib.hid (show ((((w.alloc (Obj.cells #[.int .i64 k] 3)).alloc (Obj.cells #[.int .i64 0, .slice none 0 0] 26)).alloc (Obj.cells #[.int .i64 0, .int .i64 0, .int .i64 0, .int .i64 0, .int .i64 0, .int .i64 0, .int .i64 0, .int .i64 0, .int .i64 0, .int .i64 0, .int .i64 0, .int .i64 0, .int .i64 0, .int .i64 0, .int .i64 0, .int .i64 0, .int .i64 0, .int .i64 0, .int .i64 0, .int .i64 0, .int .i64 0, .int .i64 0, .int .i64 0, .int .i64 0, .int .i64 0, .int .i64 0, .int .i64 0, .int .i64 0, .int .i64 0, .int .i64 0, .int .i64 0, .int .i64 0] 68)).alloc (Obj.cells #[.int .i64 0, .slice none 0 0] 26)).heap.size = w.heap.size + 4 by simp)
  have N0 := Lib.hid (show ((((w.alloc (Obj.cells #[.int .i64 k] 3)).alloc (Obj.cells #[.int .i64 0, .slice none 0 0] 26)).alloc (Obj.cells #[.int .i64 0, .int .i64 0, .int .i64 0, .int .i64 0, .int .i64 0, .int .i64 0, .int .i64 0, .int .i64 0, .int .i64 0, .int .i64 0, .int .i64 0, .int .i64 0, .int .i64 0, .int .i64 0, .int .i64 0, .int .i64 0, .int .i64 0, .int .i64 0, .int .i64 0, .int .i64 0, .int .i64 0, .int .i64 0, .int .i64 0, .int .i64 0, .int .i64 0, .int .i64 0, .int .i64 0, .int .i64 0, .int .i64 0, .int .i64 0, .int .i64 0, .int .i64 0] 68)).alloc (Obj.cells #[.int .i64 0, .slice none 0 0] 26)).cell? ⟨w.heap.size, 0, none⟩ = some (.int .i64 k) by
    refine cell_alloc_l _ (cell_alloc_l _ (cell_alloc_l _ ?_))
    exact (cell_new_l w (.int .i64 k) 3).1)
  have Y := Lib.hid (show Bx 0 (.slice none 0 0) (w.heap.size + 1) ((((w.alloc (Obj.cells #[.int .i64 k] 3)).alloc (Obj.cells #[.int .i64 0, .slice none 0 0] 26)).alloc (Obj.cells #[.int .i64 0, .int .i64 0, .int .i64 0, .int .i64 0, .int .i64 0, .int .i64 0, .int .i64 0, .int .i64 0, .int .i64 0, .int .i64 0, .int .i64 0, .int .i64 0, .int .i64 0, .int .i64 0, .int .i64 0, .int .i64 0, .int .i64 0, .int .i64 0, .int .i64 0, .int .i64 0, .int .i64 0, .int .i64 0, .int .i64 0, .int .i64 0, .int .i64 0, .int .i64 0, .int .i64 0, .int .i64 0, .int .i64 0, .int .i64 0, .int .i64 0, .int .i64 0] 68)).alloc (Obj.cells #[.int .i64 0, .slice none 0 0] 26)) from ((show Bx 0 (.slice none 0 0) (w.heap.size + 1) ((w.alloc (Obj.cells #[.int .i64 k] 3)).alloc (Obj.cells #[.int .i64 0, .slice none 0 0] 26)) from heap_alloc_at (by simp)).alloc _).alloc _)
  have C := Lib.hid (show ArrI ((((w.alloc (Obj.cells #[.int .i64 k] 3)).alloc (Obj.cells #[.int .i64 0, .slice none 0 0] 26)).alloc (Obj.cells #[.int .i64 0, .int .i64 0, .int .i64 0, .int .i64 0, .int .i64 0, .int .i64 0, .int .i64 0, .int .i64 0, .int .i64 0, .int .i64 0, .int .i64 0, .int .i64 0, .int .i64 0, .int .i64 0, .int .i64 0, .int .i64 0, .int .i64 0, .int .i64 0, .int .i64 0, .int .i64 0, .int .i64 0, .int .i64 0, .int .i64 0, .int .i64 0, .int .i64 0, .int .i64 0, .int .i64 0, .int .i64 0, .int .i64 0, .int .i64 0, .int .i64 0, .int .i64 0] 68)).alloc (Obj.cells #[.int .i64 0, .slice none 0 0] 26)) (w.heap.size + 2) (fun _ => 0) from ArrI.next (B := w.heap.size + 3) (arrI_zero (by simp)) ((Below.refl _ _).alloc (by simp) _) (by omega))
  have X := Lib.hid (show Bx 0 (.slice none 0 0) (w.heap.size + 3) ((((w.alloc (Obj.cells #[.int .i64 k] 3)).alloc (Obj.cells #[.int .i64 0, .slice none 0 0] 26)).alloc (Obj.cells #[.int .i64 0, .int .i64 0, .int .i64 0, .int .i64 0, .int .i64 0, .int .i64 0, .int .i64 0, .int .i64 0, .int .i64 0, .int .i64 0, .int .i64 0, .int .i64 0, .int .i64 0, .int .i64 0, .int .i64 0, .int .i64 0, .int .i64 0, .int .i64 0, .int .i64 0, .int .i64 0, .int .i64 0, .int .i64 0, .int .i64 0, .int .i64 0, .int .i64 0, .int .i64 0, .int .i64 0, .int .i64 0, .int .i64 0, .int .i64 0, .int .i64 0, .int .i64 0] 68)).alloc (Obj.cells #[.int .i64 0, .slice none 0 0] 26)) from heap_alloc_at (by simp))
  clear a1 a5 b1 b5 c0 c1 c2 c3
  obtain ⟨m, ns, rfl, rfl, hca⟩ := vldB_cls hva
  have hm := hca.pts
  have hla := hca.length
  rw [hva] at HVA
  rw [toI_length] at *
  have La32 := Lib.hid hca.lt32
  have MB0 := Lib.hid (mkTo_bd (fun _ => 0) ns (fun x => by show (0 : Int) ≤ 0 ∧ (0 : Int) ≤ 32; omega))
  have M1 := Lib.hid (mk_one hca.asc)
  obtain ⟨m2, ms, rfl, rfl, hcb⟩ := vldB_cls hvb
  rw [hvb] at HVB
  rw [toI_length] at *
  have ht : twoB (m : Int) (toI ns) (m2 : Int) (toI ms) = false := by rw [twoB, hva, hvb, decide_eq_false he]; rfl
  rw [iaN_no ht, iaL_no ht, ht]
  have hnm : ((m2 : Int) == (m : Int)) = false := beq_eq_false_iff_ne.2 he
  have hnm2 : (m2 == m) = false := by simp; omega
  clear hva hvb ht hca hcb he
  go_enter Try.func45, Try.ntmps45
  go_wp2_with fail
  generalize ((((w.alloc (Obj.cells #[.int .i64 k] 3)).alloc (Obj.cells #[.int .i64 0, .slice none 0 0] 26)).alloc (Obj.cells #[.int .i64 0, .int .i64 0, .int .i64 0, .int .i64 0, .int .i64 0, .int .i64 0, .int .i64 0, .int .i64 0, .int .i64 0, .int .i64 0, .int .i64 0, .int .i64 0, .int .i64 0, .int .i64 0, .int .i64 0, .int .i64 0, .int .i64 0, .int .i64 0, .int .i64 0, .int .i64 0, .int .i64 0, .int .i64 0, .int .i64 0, .int .i64 0, .int .i64 0, .int .i64 0, .int .i64 0, .int .i64 0, .int .i64 0, .int .i64 0, .int .i64 0, .int .i64 0] 68)).alloc (Obj.cells #[.int .i64 0, .slice none 0 0] 26)) = W0 at *
  have hw0 : w.heap.size + 4 ≤ W0.heap.size := by have := HZ.out; omega
  clear HZ
  refine wp_loop_rounds 3 ?_
  have HH0 := Lib.hid ((B.out.cell (p := ⟨H, 0, none⟩) hHlt).trans HC0.out)
  have HH1 := Lib.hid ((B.out.cell (p := ⟨H, 1, none⟩) hHlt).trans HC1.out)
  have HH2 := Lib.hid ((B.out.cell (p := ⟨H, 2, none⟩) hHlt).trans HC2.out)
  have HH3 := Lib.hid ((B.out.cell (p := ⟨H, 3, none⟩) hHlt).trans HC3.out)
  rw [rounds_succ]
  have h0 := HH0.out
  have h1 := HH1.out
  have h2 := HH2.out
  have h3 := HH3.out
  have T := Lib.hid (Bx.new (m : Int) (.slice a ns.length ca) W0)
  replace N0 := Lib.hid ((show Below W0.heap.size W0 (W0.alloc (Obj.cells #[.int .i64 (m : Int), .slice a ns.length ca] 26)) from (Below.refl _ _).alloc (Nat.le_refl _) _).cell (p := ⟨w.heap.size, 0, none⟩) (show w.heap.size < W0.heap.size by omega) |>.trans N0.out)
  replace Y := Lib.hid (Y.out.alloc (Obj.cells #[.int .i64 (m : Int), .slice a ns.length ca] 26))
  replace X := Lib.hid (X.out.alloc (Obj.cells #[.int .i64 (m : Int), .slice a ns.length ca] 26))
  replace C := Lib.hid (C.out.next (show Below W0.heap.size W0 (W0.alloc (Obj.cells #[.int .i64 (m : Int), .slice a ns.length ca] 26)) from (Below.refl _ _).alloc (Nat.le_refl _) _) (by omega))
  replace B := Lib.hid (B.out.alloc B.out.size (Obj.cells #[.int .i64 (m : Int), .slice a ns.length ca] 26))
  have HZ := Lib.hid (show (W0.alloc (Obj.cells #[.int .i64 (m : Int), .slice a ns.length ca] 26)).heap.size = W0.heap.size + 1 by simp)
  have t0 := T.out.out.at0
  have t1 := T.out.out.at1
  go_wp2_with fail
  clear h0 h1 h2 h3
  generalize (W0.alloc (Obj.cells #[.int .i64 (m : Int), .slice a ns.length ca] 26)) = V0 at *
  have hv0 : W0.heap.size < V0.heap.size := by have := HZ.out; omega
  clear HZ
  have h0 := (B.out.cell (p := ⟨H, 0, none⟩) hHlt).trans HC0.out
  go_region_held3 (fun w' => w'.cell? ⟨W0.heap.size, 0, none⟩ = some (.int .i64 (m : Int)) ∧ w'.cell? ⟨W0.heap.size, 1, none⟩ = some (.slice a ns.length ca) ∧ w'.cell? ⟨H, 0, none⟩ = some (.int .i64 (m : Int))) (first | exact ⟨t0, t1, h0⟩ | exact ⟨t0_, t1_, h0_⟩ | go_keep) (first | (go_at_call 29; refine (HVA.out _ (by first | exact HA.out.below B.out (Nat.le_refl _) | exact HA.out.below B.out.drew (Nat.le_refl _))).mono ?_; rintro e U0 ⟨rfl, hbd⟩; have hx0 : Below V0.heap.size V0 U0 := (by first | exact hbd | exact ⟨hbd.os, hbd.tape, hbd.output, hbd.size, hbd.block⟩); clear hbd; replace N0 := Lib.hid ((hx0.cell (p := ⟨w.heap.size, 0, none⟩) (show w.heap.size < V0.heap.size by omega)).trans N0.out); replace Y := Lib.hid (Y.out.next hx0 (by omega)); replace X := Lib.hid (X.out.next hx0 (by omega)); replace T := Lib.hid (T.out.next hx0 (by omega)); replace C := Lib.hid (C.out.next hx0 (by omega)); replace B := Lib.hid (B.out.trans (hx0.mono (by omega))); have hzx0 := hx0.size; have t0_ := T.out.out.at0; have t1_ := T.out.out.at1; have h0_ := (B.out.cell (p := ⟨H, 0, none⟩) hHlt).trans HC0.out; clear hx0))
  clear t0 t1 h0 t0_ t1_ h0_
  have t0 := T.out.out.at0
  have t1 := T.out.out.at1
  have x0 := X.out.out.at0
  have x1 := X.out.out.at1
  have y0 := X.out.out.free0
  have XN := Lib.hid (X.out.setN (m : Int))
  have CN := Lib.hid (C.out.other (j := 0) (show w.heap.size + 2 ≠ w.heap.size + 3 by omega) (.int .i64 (m : Int)))
  have YN := Lib.hid (Y.out.other (j := 0) (show w.heap.size + 1 ≠ w.heap.size + 3 by omega) (.int .i64 (m : Int)))
  have TN := Lib.hid (T.out.other (j := 0) (show W0.heap.size ≠ w.heap.size + 3 by omega) (.int .i64 (m : Int)))
  have NN := Lib.hid ((World.cell?_setCell_other U0 ⟨w.heap.size + 3, 0, none⟩ ⟨w.heap.size, 0, none⟩ (.int .i64 (m : Int)) (by simp)).trans N0.out)
  have BN := Lib.hid (B.out.setCell (p := ⟨w.heap.size + 3, 0, none⟩) (by show w.heap.size ≤ w.heap.size + 3; omega) (.int .i64 (m : Int)))
  have HZ := Lib.hid (show (U0.setCell ⟨w.heap.size + 3, 0, none⟩ (.int .i64 (m : Int))).heap.size = U0.heap.size by simp)
  clear t0 t1
  have t0 := TN.out.out.at0
  have t1 := TN.out.out.at1
  have t0' := T.out.out.at0
  go_wp2_with fail
  generalize (U0.setCell ⟨w.heap.size + 3, 0, none⟩ (.int .i64 (m : Int))) = Z0 at *
  have hZ0 : U0.heap.size ≤ Z0.heap.size := by have := HZ.out; omega
  clear HZ t0 t1 x0 x1 y0 t0' N0 Y X C B T TN
  go_loopw [37] (fun i wr => ∃ j : Nat, j ≤ ns.length ∧ i = .int .i64 j ∧ ArrI wr (w.heap.size + 2) (mkTo (fun _ => 0) ns j) ∧ Bx (m : Int) (.slice none 0 0) (w.heap.size + 3) wr ∧ Below (w.heap.size + 2) Z0 wr ∧ Z0.heap.size ≤ wr.heap.size) (fun i _ => ns.length - (intOf i).toNat)
  case atStart => exact ⟨0, Nat.zero_le _, rfl, CN.out, XN.out, Below.refl _ _, Nat.le_refl _⟩
  case round =>
    obtain ⟨j, hj, rfl, hc, hx, hbe, hsz⟩ := hrel
    have C := Lib.hid hc
    have X := Lib.hid hx
    have HBE := Lib.hid hbe
    clear hc hx hbe
    by_cases hlt : j < ns.length
    · obtain ⟨rfl, hbl⟩ := HA1.out (by omega)
      have hc0 := (HBE.out.cell (p := ⟨ba, offa + j, none⟩) (show ba < w.heap.size + 2 by omega)).trans ((BN.out.cell (p := ⟨ba, offa + j, none⟩) hbl).trans (HA5.out j (by omega)))
      rw [toI_getD] at hc0
      have hy32 := La32.out _ (getD_of_lt hlt)
      have hbd := MB0.out j (ns.getD j 0)
      have HMk := Lib.hid (show mkTo (fun _ => 0) ns (j + 1) = fun x => if x = ns.getD j 0 then mkTo (fun _ => 0) ns j (ns.getD j 0) + 1 else mkTo (fun _ => 0) ns j x from rfl)
      generalize ns.getD j 0 = y at *
      have ca := (C.out.cell y hy32).1
      have cf := (C.out.cell y hy32).2
      have C2 := Lib.hid (C.out.set y (mkTo (fun _ => 0) ns j y + 1))
      rw [← HMk.out] at C2
      have X2 := Lib.hid (X.out.other (j := y) (show w.heap.size + 3 ≠ w.heap.size + 2 by omega) (.int .i64 (mkTo (fun _ => 0) ns j y + 1)))
      have B2 := Lib.hid (HBE.out.setCell (p := ⟨w.heap.size + 2, y, none⟩) (Nat.le_refl _) (.int .i64 (mkTo (fun _ => 0) ns j y + 1)))
      generalize mkTo (fun _ => 0) ns j y = z at *
      have hy0 : (0 : Int) ≤ (y : Int) := by omega
      have hyI : (y : Int) < 32 := by omega
      go_wp2_with fail
      go_roundw
      case rel => exact ⟨j + 1, by omega, by go_num, C2.out, X2.out, B2.out, by simp; omega⟩
      case measure => simp [intOf]; omega
    · obtain rfl : j = ns.length := by omega
      replace Y := Lib.hid (YN.out.next HBE.out (by omega))
      replace N0 := Lib.hid ((HBE.out.cell (p := ⟨w.heap.size, 0, none⟩) (show w.heap.size < w.heap.size + 2 by omega)).trans NN.out)
      replace B := Lib.hid (BN.out.trans (HBE.out.mono (by omega)))
      clear YN NN BN CN XN HBE
      obtain ⟨W1, hW1⟩ : ∃ W1, W1 = wr := ⟨_, rfl⟩
      subst hW1
      replace HH0 := Lib.hid ((B.out.cell (p := ⟨H, 0, none⟩) hHlt).trans HC0.out)
      replace HH1 := Lib.hid ((B.out.cell (p := ⟨H, 1, none⟩) hHlt).trans HC1.out)
      replace HH2 := Lib.hid ((B.out.cell (p := ⟨H, 2, none⟩) hHlt).trans HC2.out)
      replace HH3 := Lib.hid ((B.out.cell (p := ⟨H, 3, none⟩) hHlt).trans HC3.out)
      go_wp2_with fail
      rw [rounds_succ]
      have h0 := HH0.out
      have h1 := HH1.out
      have h2 := HH2.out
      have h3 := HH3.out
      have T := Lib.hid (Bx.new (m2 : Int) (.slice b ms.length cb) W1)
      replace N0 := Lib.hid ((show Below W1.heap.size W1 (W1.alloc (Obj.cells #[.int .i64 (m2 : Int), .slice b ms.length cb] 26)) from (Below.refl _ _).alloc (Nat.le_refl _) _).cell (p := ⟨w.heap.size, 0, none⟩) (show w.heap.size < W1.heap.size by omega) |>.trans N0.out)
      replace Y := Lib.hid (Y.out.alloc (Obj.cells #[.int .i64 (m2 : Int), .slice b ms.length cb] 26))
      replace X := Lib.hid (X.out.alloc (Obj.cells #[.int .i64 (m2 : Int), .slice b ms.length cb] 26))
      replace C := Lib.hid (C.out.next (show Below W1.heap.size W1 (W1.alloc (Obj.cells #[.int .i64 (m2 : Int), .slice b ms.length cb] 26)) from (Below.refl _ _).alloc (Nat.le_refl _) _) (by omega))
      replace B := Lib.hid (B.out.alloc B.out.size (Obj.cells #[.int .i64 (m2 : Int), .slice b ms.length cb] 26))
      have HZ := Lib.hid (show (W1.alloc (Obj.cells #[.int .i64 (m2 : Int), .slice b ms.length cb] 26)).heap.size = W1.heap.size + 1 by simp)
      have t0 := T.out.out.at0
      have t1 := T.out.out.at1
      go_wp2_with fail
      clear h0 h1 h2 h3
      generalize (W1.alloc (Obj.cells #[.int .i64 (m2 : Int), .slice b ms.length cb] 26)) = V1 at *
      have hv1 : W1.heap.size < V1.heap.size := by have := HZ.out; omega
      clear HZ
      have h0 := (B.out.cell (p := ⟨H, 0, none⟩) hHlt).trans HC0.out
      go_region_held3 (fun w' => w'.cell? ⟨W1.heap.size, 0, none⟩ = some (.int .i64 (m2 : Int)) ∧ w'.cell? ⟨W1.heap.size, 1, none⟩ = some (.slice b ms.length cb) ∧ w'.cell? ⟨H, 0, none⟩ = some (.int .i64 (m : Int))) (first | exact ⟨t0, t1, h0⟩ | exact ⟨t0_, t1_, h0_⟩ | go_keep) (first | (go_at_call 29; refine (HVB.out _ (by first | exact HBb.out.below B.out (Nat.le_refl _) | exact HBb.out.below B.out.drew (Nat.le_refl _))).mono ?_; rintro e U1 ⟨rfl, hbd⟩; have hx1 : Below V1.heap.size V1 U1 := (by first | exact hbd | exact ⟨hbd.os, hbd.tape, hbd.output, hbd.size, hbd.block⟩); clear hbd; replace N0 := Lib.hid ((hx1.cell (p := ⟨w.heap.size, 0, none⟩) (show w.heap.size < V1.heap.size by omega)).trans N0.out); replace Y := Lib.hid (Y.out.next hx1 (by omega)); replace X := Lib.hid (X.out.next hx1 (by omega)); replace T := Lib.hid (T.out.next hx1 (by omega)); replace C := Lib.hid (C.out.next hx1 (by omega)); replace B := Lib.hid (B.out.trans (hx1.mono (by omega))); have hzx1 := hx1.size; have t0_ := T.out.out.at0; have t1_ := T.out.out.at1; have h0_ := (B.out.cell (p := ⟨H, 0, none⟩) hHlt).trans HC0.out; clear hx1))
      clear t0 t1 h0 t0_ t1_ h0_
      have r0 := Y.out.out.at0
      have r1 := Y.out.out.at1
      have q0 := Y.out.out.free0
      have q1 := Y.out.out.free1
      go_wp2_with fail
      refine bodyPost_ret (v := .tuple #[.agg #[.int .i64 0, .slice none 0 0], .bool false]) (by simp [results, Try.results45, go_sem, r0, r1]) rfl ?_
      refine ⟨none, 0, rfl, Ints.nil _ _, ?_⟩
      have hb0 := B.out
      clear r0 r1 q0 q1
      go_grown

set_option maxRecDepth 100000 in
set_option maxHeartbeats 12800000 in
theorem implInAtLeastOK (k na : Int) (va : Value) (xs : List Int) (nb : Int) (vb : Value) (ys : List Int) (H : Nat) (w : World) (ha : Rd w va xs) (hb : Rd w vb ys) (hva : vldB na xs = true) (hvb : vldB nb ys = true) (he : nb = na)
    (c0 : w.cell? ⟨H, 0, none⟩ = some (.int .i64 na)) (c1 : w.cell? ⟨H, 1, none⟩ = some va) (c2 : w.cell? ⟨H, 2, none⟩ = some (.int .i64 nb)) (c3 : w.cell? ⟨H, 3, none⟩ = some vb) :
    Calls Try.prog 45 #[.int .i64 k, .slice (some ⟨H, 0, none⟩) 2 2] w (RetCB (iaN na xs nb ys) (iaL k na xs nb ys) (twoB na xs nb ys) w) := by
  have HA := Lib.hid ha
  have HBb := Lib.hid hb
  have hHlt : H < w.heap.size := World.block_lt_of_cell? w _ c0
  have HVA := Lib.hid (fun w h => implValid na va xs w h)
  have HVB := Lib.hid (fun w h => implValid nb vb ys w h)
  obtain ⟨a, ba, offa, ca, rfl, a1, _, a5⟩ := ha
  obtain ⟨b, bb, offb, cb, rfl, b1, _, b5⟩ := hb
  have HA1 := Lib.hid a1
  have HA5 := Lib.hid a5
  have HB1 := Lib.hid b1
  have HB5 := Lib.hid b5
  have HC0 := Lib.hid c0
  have HC1 := Lib.hid c1
  have HC2 := Lib.hid c2
  have HC3 := Lib.hid c3
  have B := Lib.hid (show Below w.heap.size w ((((w.alloc (Obj.cells #[.int .i64 k] 3)).alloc (Obj.cells #[.int .i64 0, .slice none 0 0] 26)).alloc (Obj.cells #[.int .i64 0, .int .i64 0, .int .i64 0, .int .i64 0, .int .i64 0, .int .i64 0, .int .i64 0, .int .i64 0, .int .i64 0, .int .i64 0, .int .i64 0, .int .i64 0, .int .i64 0, .int .i64 0, .int .i64 0, .int .i64 0, .int .i64 0, .int .i64 0, .int .i64 0, .int .i64 0, .int .i64 0, .int .i64 0, .int .i64 0, .int .i64 0, .int .i64 0, .int .i64 0, .int .i64 0, .int .i64 0, .int .i64 0, .int .i64 0, .int .i64 0, .int .i64 0] 68)).alloc (Obj.cells #[.int .i64 0, .slice none 0 0] 26)) from ((((Below.refl _ _).alloc (Nat.le_refl _) _).alloc (by simp) _).alloc (by simp; omega) _).alloc (by simp; omega) _)
  have HZ := Lib.hid (show ((((w.alloc (Obj.cells #[.int .i64 k] 3)).alloc (Obj.cells #[.int .i64 0, .slice none 0 0] 26)).alloc (Obj.cells #[.int .i64 0, .int .i64 0, .int .i64 0, .int .i64 0, .int .i64 0, .int .i64 0, .int .i64 0, .int .i64 0, .int .i64 0, .int .i64 0, .int .i64 0, .int .i64 0, .int .i64 0, .int .i64 0, .int .i64 0, .int .i64 0, .int .i64 0, .int .i64 0, .int .i64 0, .int .i64 0, .int .i64 0, .int .i64 0, .int .i64 0, .int .i64 0, .int .i64 0, .int .i64 0, .int .i64 0, .int .i64 0, .int .i64 0, .int .i64 0, .int .i64 0, .int .i64 0] 68)).alloc (Obj.cells #[.int .i64 0, .slice none 0 0] 26)).heap.size = w.heap.size + 4 by simp)
  have N0 := Lib.hid (show ((((w.alloc (Obj.cells #[.int .i64 k] 3)).alloc (Obj.cells #[.int .i64 0, .slice none 0 0] 26)).alloc (Obj.cells #[.int .i64 0, .int .i64 0, .int .i64 0, .int .i64 0, .int .i64 0, .int .i64 0, .int .i64 0, .int .i64 0, .int .i64 0, .int .i64 0, .int .i64 0, .int .i64 0, .int .i64 0, .int .i64 0, .int .i64 0, .int .i64 0, .int .i64 0, .int .i64 0, .int .i64 0, .int .i64 0, .int .i64 0, .int .i64 0, .int .i64 0, .int .i64 0, .int .i64 0, .int .i64 0, .int .i64 0, .int .i64 0, .int .i64 0, .int .i64 0, .int .i64 0, .int .i64 0] 68)).alloc (Obj.cells #[.int .i64 0, .slice none 0 0] 26)).cell? ⟨w.heap.size, 0, none⟩ = some (.int .i64 k) by
    refine cell_alloc_l _ (cell_alloc_l _ (cell_alloc_l _ ?_))
    exact (cell_new_l w (.int .i64 k) 3).1)
  have Y := Lib.hid (show Bx 0 (.slice none 0 0) (w.heap.size + 1) ((((w.alloc (Obj.cells #[.int .i64 k] 3)).alloc (Obj.cells #[.int .i64 0, .slice none 0 0] 26)).alloc (Obj.cells #[.int .i64 0, .int .i64 0, .int .i64 0, .int .i64 0, .int .i64 0, .int .i64 0, .int .i64 0, .int .i64 0, .int .i64 0, .int .i64 0, .int .i64 0, .int .i64 0, .int .i64 0, .int .i64 0, .int .i64 0, .int .i64 0, .int .i64 0, .int .i64 0, .int .i64 0, .int .i64 0, .int .i64 0, .int .i64 0, .int .i64 0, .int .i64 0, .int .i64 0, .int .i64 0, .int .i64 0, .int .i64 0, .int .i64 0, .int .i64 0, .int .i64 0, .int .i64 0] 68)).alloc (Obj.cells #[.int .i64 0, .slice none 0 0] 26)) from ((show Bx 0 (.slice none 0 0) (w.heap.size + 1) ((w.alloc (Obj.cells #[.int .i64 k] 3)).alloc (Obj.cells #[.int .i64 0, .slice none 0 0] 26)) from heap_alloc_at (by simp)).alloc _).alloc _)
  have C := Lib.hid (show ArrI ((((w.alloc (Obj.cells #[.int .i64 k] 3)).alloc (Obj.cells #[.int .i64 0, .slice none 0 0] 26)).alloc (Obj.cells #[.int .i64 0, .int .i64 0, .int .i64 0, .int .i64 0, .int .i64 0, .int .i64 0, .int .i64 0, .int .i64 0, .int .i64 0, .int .i64 0, .int .i64 0, .int .i64 0, .int .i64 0, .int .i64 0, .int .i64 0, .int .i64 0, .int .i64 0, .int .i64 0, .int .i64 0, .int .i64 0, .int .i64 0, .int .i64 0, .int .i64 0, .int .i64 0, .int .i64 0, .int .i64 0, .int .i64 0, .int .i64 0, .int .i64 0, .int .i64 0, .int .i64 0, .int .i64 0] 68)).alloc (Obj.cells #[.int .i64 0, .slice none 0 0] 26)) (w.heap.size + 2) (fun _ => 0) from ArrI.next (B := w.heap.size + 3) (arrI_zero (by simp)) ((Below.refl _ _).alloc (by simp) _) (by omega))
  have X := Lib.hid (show Bx 0 (.slice none 0 0) (w.heap.size + 3) ((((w.alloc (Obj.cells #[.int .i64 k] 3)).alloc (Obj.cells #[.int .i64 0, .slice none 0 0] 26)).alloc (Obj.cells #[.int .i64 0, .int .i64 0, .int .i64 0, .int .i64 0, .int .i64 0, .int .i64 0, .int .i64 0, .int .i64 0, .int .i64 0, .int .i64 0, .int .i64 0, .int .i64 0, .int .i64 0, .int .i64 0, .int .i64 0, .int .i64 0, .int .i64 0, .int .i64 0, .int .i64 0, .int .i64 0, .int .i64 0, .int .i64 0, .int .i64 0, .int .i64 0, .int .i64 0, .int .i64 0, .int .i64 0, .int .i64 0, .int .i64 0, .int .i64 0, .int .i64 0, .int .i64 0] 68)).alloc (Obj.cells #[.int .i64 0, .slice none 0 0] 26)) from heap_alloc_at (by simp))
  clear a1 a5 b1 b5 c0 c1 c2 c3
  obtain ⟨m, ns, rfl, rfl, hca⟩ := vldB_cls hva
  have hm := hca.pts
  have hla := hca.length
  rw [hva] at HVA
  rw [toI_length] at *
  have La32 := Lib.hid hca.lt32
  have MB0 := Lib.hid (mkTo_bd (fun _ => 0) ns (fun x => by show (0 : Int) ≤ 0 ∧ (0 : Int) ≤ 32; omega))
  have M1 := Lib.hid (mk_one hca.asc)
  obtain ⟨m2, ms, rfl, rfl, hcb⟩ := vldB_cls hvb
  rw [hvb] at HVB
  rw [toI_length] at *
  obtain rfl : m = m2 := by omega
  have ht : twoB (m : Int) (toI ns) (m : Int) (toI ms) = true := by rw [twoB, hva, hvb, decide_eq_true rfl]; rfl
  rw [show iaN (m : Int) (toI ns) (m : Int) (toI ms) = m by rw [iaN, if_pos ht], show iaL k (m : Int) (toI ns) (m : Int) (toI ms) = toI (atL k m ns ms) by rw [iaL, if_pos ht, toNat_toI, toNat_toI, Int.toNat_natCast], ht]
  have hlb := hcb.length
  have Lb32 := Lib.hid hcb.lt32
  have MB1 := Lib.hid (mkTo_bd (mkTo (fun _ => 0) ns ns.length) ms M1.out)
  have MT := Lib.hid (mk_two hca.asc hcb.asc)
  have HGl := Lib.hid (toI_length (atL k m ns ms))
  have HW := Lib.hid (fun W hcs f => setsWhereA m hm (w.heap.size + 2) w.heap.size (fun x => decide (k ≤ cnt2 ns ms x)) ((⟨w.heap.size, 0, none⟩, .int .i64 k) :: (List.range 32).map (fun j => (⟨w.heap.size + 2, j, none⟩, .int .i64 (cnt2 ns ms j)))) W hcs f)
  have h32m := pow_le_32 hm
  have HIn := Lib.hid (show ∀ (j : Nat) (W : World), j < 2 ^ m → CS ((⟨w.heap.size, 0, none⟩, .int .i64 k) :: (List.range 32).map (fun j => (⟨w.heap.size + 2, j, none⟩, .int .i64 (cnt2 ns ms j)))) W → Calls Try.prog 70 #[.agg #[.int .i64 (m : Int), .slice none 0 0], .int .i64 ((j : Nat) : Int), .pointer (some ⟨w.heap.size + 2, 0, none⟩), .pointer (some ⟨w.heap.size, 0, none⟩)] W fun e w' => e = .returned (.bool (decide (k ≤ cnt2 ns ms j))) ∧ Below W.heap.size W w' from fun j W hj h0 => implIn1 m j k (w.heap.size + 2) w.heap.size (cnt2 ns ms) (by omega) W (h0 (⟨w.heap.size + 2, j, none⟩, .int .i64 (cnt2 ns ms j)) (List.mem_cons_of_mem _ (List.mem_map.2 ⟨j, List.mem_range.2 (by omega), rfl⟩))) (h0 (⟨w.heap.size, 0, none⟩, .int .i64 k) (by simp)))
  have HE := Lib.hid (show (List.range (2 ^ m)).filter (fun x => decide (k ≤ cnt2 ns ms x)) = atL k m ns ms from rfl)
  rw [HE.out] at HW
  clear hva hvb he ht hca hcb
  go_enter Try.func45, Try.ntmps45
  go_wp2_with fail
  generalize ((((w.alloc (Obj.cells #[.int .i64 k] 3)).alloc (Obj.cells #[.int .i64 0, .slice none 0 0] 26)).alloc (Obj.cells #[.int .i64 0, .int .i64 0, .int .i64 0, .int .i64 0, .int .i64 0, .int .i64 0, .int .i64 0, .int .i64 0, .int .i64 0, .int .i64 0, .int .i64 0, .int .i64 0, .int .i64 0, .int .i64 0, .int .i64 0, .int .i64 0, .int .i64 0, .int .i64 0, .int .i64 0, .int .i64 0, .int .i64 0, .int .i64 0, .int .i64 0, .int .i64 0, .int .i64 0, .int .i64 0, .int .i64 0, .int .i64 0, .int .i64 0, .int .i64 0, .int .i64 0, .int .i64 0] 68)).alloc (Obj.cells #[.int .i64 0, .slice none 0 0] 26)) = W0 at *
  have hw0 : w.heap.size + 4 ≤ W0.heap.size := by have := HZ.out; omega
  clear HZ
  refine wp_loop_rounds 3 ?_
  have HH0 := Lib.hid ((B.out.cell (p := ⟨H, 0, none⟩) hHlt).trans HC0.out)
  have HH1 := Lib.hid ((B.out.cell (p := ⟨H, 1, none⟩) hHlt).trans HC1.out)
  have HH2 := Lib.hid ((B.out.cell (p := ⟨H, 2, none⟩) hHlt).trans HC2.out)
  have HH3 := Lib.hid ((B.out.cell (p := ⟨H, 3, none⟩) hHlt).trans HC3.out)
  rw [rounds_succ]
  have h0 := HH0.out
  have h1 := HH1.out
  have h2 := HH2.out
  have h3 := HH3.out
  have T := Lib.hid (Bx.new (m : Int) (.slice a ns.length ca) W0)
  replace N0 := Lib.hid ((show Below W0.heap.size W0 (W0.alloc (Obj.cells #[.int .i64 (m : Int), .slice a ns.length ca] 26)) from (Below.refl _ _).alloc (Nat.le_refl _) _).cell (p := ⟨w.heap.size, 0, none⟩) (show w.heap.size < W0.heap.size by omega) |>.trans N0.out)
  replace Y := Lib.hid (Y.out.alloc (Obj.cells #[.int .i64 (m : Int), .slice a ns.length ca] 26))
  replace X := Lib.hid (X.out.alloc (Obj.cells #[.int .i64 (m : Int), .slice a ns.length ca] 26))
  replace C := Lib.hid (C.out.next (show Below W0.heap.size W0 (W0.alloc (Obj.cells #[.int .i64 (m : Int), .slice a ns.length ca] 26)) from (Below.refl _ _).alloc (Nat.le_refl _) _) (by omega))
  replace B := Lib.hid (B.out.alloc B.out.size (Obj.cells #[.int .i64 (m : Int), .slice a ns.length ca] 26))
  have HZ := Lib.hid (show (W0.alloc (Obj.cells #[.int .i64 (m : Int), .slice a ns.length ca] 26)).heap.size = W0.heap.size + 1 by simp)
  have t0 := T.out.out.at0
  have t1 := T.out.out.at1
  go_wp2_with fail
  clear h0 h1 h2 h3
  generalize (W0.alloc (Obj.cells #[.int .i64 (m : Int), .slice a ns.length ca] 26)) = V0 at *
  have hv0 : W0.heap.size < V0.heap.size := by have := HZ.out; omega
  clear HZ
  have h0 := (B.out.cell (p := ⟨H, 0, none⟩) hHlt).trans HC0.out
  go_region_held3 (fun w' => w'.cell? ⟨W0.heap.size, 0, none⟩ = some (.int .i64 (m : Int)) ∧ w'.cell? ⟨W0.heap.size, 1, none⟩ = some (.slice a ns.length ca) ∧ w'.cell? ⟨H, 0, none⟩ = some (.int .i64 (m : Int))) (first | exact ⟨t0, t1, h0⟩ | exact ⟨t0_, t1_, h0_⟩ | go_keep) (first | (go_at_call 29; refine (HVA.out _ (by first | exact HA.out.below B.out (Nat.le_refl _) | exact HA.out.below B.out.drew (Nat.le_refl _))).mono ?_; rintro e U0 ⟨rfl, hbd⟩; have hx0 : Below V0.heap.size V0 U0 := (by first | exact hbd | exact ⟨hbd.os, hbd.tape, hbd.output, hbd.size, hbd.block⟩); clear hbd; replace N0 := Lib.hid ((hx0.cell (p := ⟨w.heap.size, 0, none⟩) (show w.heap.size < V0.heap.size by omega)).trans N0.out); replace Y := Lib.hid (Y.out.next hx0 (by omega)); replace X := Lib.hid (X.out.next hx0 (by omega)); replace T := Lib.hid (T.out.next hx0 (by omega)); replace C := Lib.hid (C.out.next hx0 (by omega)); replace B := Lib.hid (B.out.trans (hx0.mono (by omega))); have hzx0 := hx0.size; have t0_ := T.out.out.at0; have t1_ := T.out.out.at1; have h0_ := (B.out.cell (p := ⟨H, 0, none⟩) hHlt).trans HC0.out; clear hx0))
  clear t0 t1 h0 t0_ t1_ h0_
  have t0 := T.out.out.at0
  have t1 := T.out.out.at1
  have x0 := X.out.out.at0
  have x1 := X.out.out.at1
  have y0 := X.out.out.free0
  have XN := Lib.hid (X.out.setN (m : Int))
  have CN := Lib.hid (C.out.other (j := 0) (show w.heap.size + 2 ≠ w.heap.size + 3 by omega) (.int .i64 (m : Int)))
  have YN := Lib.hid (Y.out.other (j := 0) (show w.heap.size + 1 ≠ w.heap.size + 3 by omega) (.int .i64 (m : Int)))
  have TN := Lib.hid (T.out.other (j := 0) (show W0.heap.size ≠ w.heap.size + 3 by omega) (.int .i64 (m : Int)))
  have NN := Lib.hid ((World.cell?_setCell_other U0 ⟨w.heap.size + 3, 0, none⟩ ⟨w.heap.size, 0, none⟩ (.int .i64 (m : Int)) (by simp)).trans N0.out)
  have BN := Lib.hid (B.out.setCell (p := ⟨w.heap.size + 3, 0, none⟩) (by show w.heap.size ≤ w.heap.size + 3; omega) (.int .i64 (m : Int)))
  have HZ := Lib.hid (show (U0.setCell ⟨w.heap.size + 3, 0, none⟩ (.int .i64 (m : Int))).heap.size = U0.heap.size by simp)
  clear t0 t1
  have t0 := TN.out.out.at0
  have t1 := TN.out.out.at1
  have t0' := T.out.out.at0
  go_wp2_with fail
  generalize (U0.setCell ⟨w.heap.size + 3, 0, none⟩ (.int .i64 (m : Int))) = Z0 at *
  have hZ0 : U0.heap.size ≤ Z0.heap.size := by have := HZ.out; omega
  clear HZ t0 t1 x0 x1 y0 t0' N0 Y X C B T TN
  go_loopw [37] (fun i wr => ∃ j : Nat, j ≤ ns.length ∧ i = .int .i64 j ∧ ArrI wr (w.heap.size + 2) (mkTo (fun _ => 0) ns j) ∧ Bx (m : Int) (.slice none 0 0) (w.heap.size + 3) wr ∧ Below (w.heap.size + 2) Z0 wr ∧ Z0.heap.size ≤ wr.heap.size) (fun i _ => ns.length - (intOf i).toNat)
  case atStart => exact ⟨0, Nat.zero_le _, rfl, CN.out, XN.out, Below.refl _ _, Nat.le_refl _⟩
  case round =>
    obtain ⟨j, hj, rfl, hc, hx, hbe, hsz⟩ := hrel
    have C := Lib.hid hc
    have X := Lib.hid hx
    have HBE := Lib.hid hbe
    clear hc hx hbe
    by_cases hlt : j < ns.length
    · obtain ⟨rfl, hbl⟩ := HA1.out (by omega)
      have hc0 := (HBE.out.cell (p := ⟨ba, offa + j, none⟩) (show ba < w.heap.size + 2 by omega)).trans ((BN.out.cell (p := ⟨ba, offa + j, none⟩) hbl).trans (HA5.out j (by omega)))
      rw [toI_getD] at hc0
      have hy32 := La32.out _ (getD_of_lt hlt)
      have hbd := MB0.out j (ns.getD j 0)
      have HMk := Lib.hid (show mkTo (fun _ => 0) ns (j + 1) = fun x => if x = ns.getD j 0 then mkTo (fun _ => 0) ns j (ns.getD j 0) + 1 else mkTo (fun _ => 0) ns j x from rfl)
      generalize ns.getD j 0 = y at *
      have ca := (C.out.cell y hy32).1
      have cf := (C.out.cell y hy32).2
      have C2 := Lib.hid (C.out.set y (mkTo (fun _ => 0) ns j y + 1))
      rw [← HMk.out] at C2
      have X2 := Lib.hid (X.out.other (j := y) (show w.heap.size + 3 ≠ w.heap.size + 2 by omega) (.int .i64 (mkTo (fun _ => 0) ns j y + 1)))
      have B2 := Lib.hid (HBE.out.setCell (p := ⟨w.heap.size + 2, y, none⟩) (Nat.le_refl _) (.int .i64 (mkTo (fun _ => 0) ns j y + 1)))
      generalize mkTo (fun _ => 0) ns j y = z at *
      have hy0 : (0 : Int) ≤ (y : Int) := by omega
      have hyI : (y : Int) < 32 := by omega
      go_wp2_with fail
      go_roundw
      case rel => exact ⟨j + 1, by omega, by go_num, C2.out, X2.out, B2.out, by simp; omega⟩
      case measure => simp [intOf]; omega
    · obtain rfl : j = ns.length := by omega
      replace Y := Lib.hid (YN.out.next HBE.out (by omega))
      replace N0 := Lib.hid ((HBE.out.cell (p := ⟨w.heap.size, 0, none⟩) (show w.heap.size < w.heap.size + 2 by omega)).trans NN.out)
      replace B := Lib.hid (BN.out.trans (HBE.out.mono (by omega)))
      clear YN NN BN CN XN HBE
      obtain ⟨W1, hW1⟩ : ∃ W1, W1 = wr := ⟨_, rfl⟩
      subst hW1
      replace HH0 := Lib.hid ((B.out.cell (p := ⟨H, 0, none⟩) hHlt).trans HC0.out)
      replace HH1 := Lib.hid ((B.out.cell (p := ⟨H, 1, none⟩) hHlt).trans HC1.out)
      replace HH2 := Lib.hid ((B.out.cell (p := ⟨H, 2, none⟩) hHlt).trans HC2.out)
      replace HH3 := Lib.hid ((B.out.cell (p := ⟨H, 3, none⟩) hHlt).trans HC3.out)
      go_wp2_with fail
      rw [rounds_succ]
      have h0 := HH0.out
      have h1 := HH1.out
      have h2 := HH2.out
      have h3 := HH3.out
      have T := Lib.hid (Bx.new (m : Int) (.slice b ms.length cb) W1)
      replace N0 := Lib.hid ((show Below W1.heap.size W1 (W1.alloc (Obj.cells #[.int .i64 (m : Int), .slice b ms.length cb] 26)) from (Below.refl _ _).alloc (Nat.le_refl _) _).cell (p := ⟨w.heap.size, 0, none⟩) (show w.heap.size < W1.heap.size by omega) |>.trans N0.out)
      replace Y := Lib.hid (Y.out.alloc (Obj.cells #[.int .i64 (m : Int), .slice b ms.length cb] 26))
      replace X := Lib.hid (X.out.alloc (Obj.cells #[.int .i64 (m : Int), .slice b ms.length cb] 26))
      replace C := Lib.hid (C.out.next (show Below W1.heap.size W1 (W1.alloc (Obj.cells #[.int .i64 (m : Int), .slice b ms.length cb] 26)) from (Below.refl _ _).alloc (Nat.le_refl _) _) (by omega))
      replace B := Lib.hid (B.out.alloc B.out.size (Obj.cells #[.int .i64 (m : Int), .slice b ms.length cb] 26))
      have HZ := Lib.hid (show (W1.alloc (Obj.cells #[.int .i64 (m : Int), .slice b ms.length cb] 26)).heap.size = W1.heap.size + 1 by simp)
      have t0 := T.out.out.at0
      have t1 := T.out.out.at1
      go_wp2_with fail
      clear h0 h1 h2 h3
      generalize (W1.alloc (Obj.cells #[.int .i64 (m : Int), .slice b ms.length cb] 26)) = V1 at *
      have hv1 : W1.heap.size < V1.heap.size := by have := HZ.out; omega
      clear HZ
      have h0 := (B.out.cell (p := ⟨H, 0, none⟩) hHlt).trans HC0.out
      go_region_held3 (fun w' => w'.cell? ⟨W1.heap.size, 0, none⟩ = some (.int .i64 (m : Int)) ∧ w'.cell? ⟨W1.heap.size, 1, none⟩ = some (.slice b ms.length cb) ∧ w'.cell? ⟨H, 0, none⟩ = some (.int .i64 (m : Int))) (first | exact ⟨t0, t1, h0⟩ | exact ⟨t0_, t1_, h0_⟩ | go_keep) (first | (go_at_call 29; refine (HVB.out _ (by first | exact HBb.out.below B.out (Nat.le_refl _) | exact HBb.out.below B.out.drew (Nat.le_refl _))).mono ?_; rintro e U1 ⟨rfl, hbd⟩; have hx1 : Below V1.heap.size V1 U1 := (by first | exact hbd | exact ⟨hbd.os, hbd.tape, hbd.output, hbd.size, hbd.block⟩); clear hbd; replace N0 := Lib.hid ((hx1.cell (p := ⟨w.heap.size, 0, none⟩) (show w.heap.size < V1.heap.size by omega)).trans N0.out); replace Y := Lib.hid (Y.out.next hx1 (by omega)); replace X := Lib.hid (X.out.next hx1 (by omega)); replace T := Lib.hid (T.out.next hx1 (by omega)); replace C := Lib.hid (C.out.next hx1 (by omega)); replace B := Lib.hid (B.out.trans (hx1.mono (by omega))); have hzx1 := hx1.size; have t0_ := T.out.out.at0; have t1_ := T.out.out.at1; have h0_ := (B.out.cell (p := ⟨H, 0, none⟩) hHlt).trans HC0.out; clear hx1))
      clear t0 t1 h0 t0_ t1_ h0_
      have t0 := T.out.out.at0
      have t1 := T.out.out.at1
      have x0 := X.out.out.at0
      have x1 := X.out.out.at1
      have y0 := X.out.out.free0
      have XN := Lib.hid (X.out.setN (m : Int))
      have CN := Lib.hid (C.out.other (j := 0) (show w.heap.size + 2 ≠ w.heap.size + 3 by omega) (.int .i64 (m : Int)))
      have YN := Lib.hid (Y.out.other (j := 0) (show w.heap.size + 1 ≠ w.heap.size + 3 by omega) (.int .i64 (m : Int)))
      have TN := Lib.hid (T.out.other (j := 0) (show W1.heap.size ≠ w.heap.size + 3 by omega) (.int .i64 (m : Int)))
      have NN := Lib.hid ((World.cell?_setCell_other U1 ⟨w.heap.size + 3, 0, none⟩ ⟨w.heap.size, 0, none⟩ (.int .i64 (m : Int)) (by simp)).trans N0.out)
      have BN := Lib.hid (B.out.setCell (p := ⟨w.heap.size + 3, 0, none⟩) (by show w.heap.size ≤ w.heap.size + 3; omega) (.int .i64 (m : Int)))
      have HZ := Lib.hid (show (U1.setCell ⟨w.heap.size + 3, 0, none⟩ (.int .i64 (m : Int))).heap.size = U1.heap.size by simp)
      clear t0 t1
      have t0 := TN.out.out.at0
      have t1 := TN.out.out.at1
      have t0' := T.out.out.at0
      go_wp2_with fail
      generalize (U1.setCell ⟨w.heap.size + 3, 0, none⟩ (.int .i64 (m : Int))) = Z1 at *
      have hZ1 : U1.heap.size ≤ Z1.heap.size := by have := HZ.out; omega
      clear HZ t0 t1 x0 x1 y0 t0' N0 Y X C B T TN
      go_loopw [37] (fun i wr => ∃ j : Nat, j ≤ ms.length ∧ i = .int .i64 j ∧ ArrI wr (w.heap.size + 2) (mkTo (mkTo (fun _ => 0) ns ns.length) ms j) ∧ Bx (m : Int) (.slice none 0 0) (w.heap.size + 3) wr ∧ Below (w.heap.size + 2) Z1 wr ∧ Z1.heap.size ≤ wr.heap.size) (fun i _ => ms.length - (intOf i).toNat)
      case atStart => exact ⟨0, Nat.zero_le _, rfl, CN.out, XN.out, Below.refl _ _, Nat.le_refl _⟩
      case round =>
        obtain ⟨j, hj, rfl, hc, hx, hbe, hsz⟩ := hrel
        have C := Lib.hid hc
        have X := Lib.hid hx
        have HBE := Lib.hid hbe
        clear hc hx hbe
        by_cases hlt : j < ms.length
        · obtain ⟨rfl, hbl⟩ := HB1.out (by omega)
          have hc0 := (HBE.out.cell (p := ⟨bb, offb + j, none⟩) (show bb < w.heap.size + 2 by omega)).trans ((BN.out.cell (p := ⟨bb, offb + j, none⟩) hbl).trans (HB5.out j (by omega)))
          rw [toI_getD] at hc0
          have hy32 := Lb32.out _ (getD_of_lt hlt)
          have hbd := MB1.out j (ms.getD j 0)
          have HMk := Lib.hid (show mkTo (mkTo (fun _ => 0) ns ns.length) ms (j + 1) = fun x => if x = ms.getD j 0 then mkTo (mkTo (fun _ => 0) ns ns.length) ms j (ms.getD j 0) + 1 else mkTo (mkTo (fun _ => 0) ns ns.length) ms j x from rfl)
          generalize ms.getD j 0 = y at *
          have ca := (C.out.cell y hy32).1
          have cf := (C.out.cell y hy32).2
          have C2 := Lib.hid (C.out.set y (mkTo (mkTo (fun _ => 0) ns ns.length) ms j y + 1))
          rw [← HMk.out] at C2
          have X2 := Lib.hid (X.out.other (j := y) (show w.heap.size + 3 ≠ w.heap.size + 2 by omega) (.int .i64 (mkTo (mkTo (fun _ => 0) ns ns.length) ms j y + 1)))
          have B2 := Lib.hid (HBE.out.setCell (p := ⟨w.heap.size + 2, y, none⟩) (Nat.le_refl _) (.int .i64 (mkTo (mkTo (fun _ => 0) ns ns.length) ms j y + 1)))
          generalize mkTo (mkTo (fun _ => 0) ns ns.length) ms j y = z at *
          have hy0 : (0 : Int) ≤ (y : Int) := by omega
          have hyI : (y : Int) < 32 := by omega
          go_wp2_with fail
          go_roundw
          case rel => exact ⟨j + 1, by omega, by go_num, C2.out, X2.out, B2.out, by simp; omega⟩
          case measure => simp [intOf]; omega
        · obtain rfl : j = ms.length := by omega
          replace Y := Lib.hid (YN.out.next HBE.out (by omega))
          replace N0 := Lib.hid ((HBE.out.cell (p := ⟨w.heap.size, 0, none⟩) (show w.heap.size < w.heap.size + 2 by omega)).trans NN.out)
          replace B := Lib.hid (BN.out.trans (HBE.out.mono (by omega)))
          clear YN NN BN CN XN HBE
          obtain ⟨W2, hW2⟩ : ∃ W2, W2 = wr := ⟨_, rfl⟩
          subst hW2
          replace C := Lib.hid (C.out.congr (fun x _ => MT.out x))
          have HCS := Lib.hid (show CS ((⟨w.heap.size, 0, none⟩, .int .i64 k) :: (List.range 32).map (fun j => (⟨w.heap.size + 2, j, none⟩, .int .i64 (cnt2 ns ms j)))) W2 from fun p hp => by
            rcases List.mem_cons.1 hp with rfl | hp
            · exact N0.out
            · obtain ⟨j, hj, rfl⟩ := List.mem_map.1 hp
              exact (C.out.cell j (List.mem_range.1 hj)).1)
          go_wp2_with fail
          rw [rounds_succ]
          have x0 := X.out.out.at0
          have x1 := X.out.out.at1
          go_wp2_with fail
          refine (HW.out _ HCS.out (Lib.hid HIn.out)).mono ?_
          rintro e w2 ⟨a2, c2, rfl, hin2, hb2⟩
          rw [HGl.out] at hin2 ⊢
          have hz2 := hb2.size
          have Y2 := Lib.hid (Y.out.next hb2 (by omega))
          have X2 := Lib.hid (X.out.next hb2 (by omega))
          have B2 := Lib.hid (B.out.trans (hb2.mono (by omega)))
          have I2 := Lib.hid hin2
          clear hin2 hb2 x0 x1
          have X3 := Lib.hid (X2.out.set (.slice a2 (atL k m ns ms).length c2))
          generalize (atL k m ns ms).length = gl at *
          have x0 := X2.out.out.at0
          have x1 := X2.out.out.at1
          have f1 := X2.out.out.free1
          have g0 := X3.out.out.at0
          have g1 := X3.out.out.at1
          have r0 := (World.cell?_setCell_other w2 ⟨w.heap.size + 3, 1, none⟩ ⟨w.heap.size + 1, 0, none⟩ (.slice a2 gl c2) (by simp)).trans Y2.out.out.at0
          have r1 := (World.cell?_setCell_other w2 ⟨w.heap.size + 3, 1, none⟩ ⟨w.heap.size + 1, 1, none⟩ (.slice a2 gl c2) (by simp)).trans Y2.out.out.at1
          have q0 := Y2.out.out.free0
          have q1 := Y2.out.out.free1
          go_wp2_with fail
          refine bodyPost_ret (v := .tuple #[.agg #[.int .i64 (m : Int), .slice a2 gl c2], .bool true]) (by simp [results, Try.results45, go_sem, r0, r1]) rfl ?_
          refine ⟨a2, c2, by rw [HGl.out], ?_, ?_⟩
          · rw [HGl.out]
            refine Ints.mono (B := W2.heap.size) ?_ (by omega)
            repeat (refine Ints.setCell_below ?_ (by simp; try omega) _)
            exact I2.out
          · have hb0 := B2.out
            clear r0 r1 q0 q1 x0 x1 f1 g0 g1
            go_grown

theorem implInAtLeast (k na : Int) (va : Value) (xs : List Int) (nb : Int) (vb : Value) (ys : List Int) (H : Nat) (w : World) (ha : Rd w va xs) (hb : Rd w vb ys)
    (c0 : w.cell? ⟨H, 0, none⟩ = some (.int .i64 na)) (c1 : w.cell? ⟨H, 1, none⟩ = some va) (c2 : w.cell? ⟨H, 2, none⟩ = some (.int .i64 nb)) (c3 : w.cell? ⟨H, 3, none⟩ = some vb) :
    Calls Try.prog 45 #[.int .i64 k, .slice (some ⟨H, 0, none⟩) 2 2] w (RetCB (iaN na xs nb ys) (iaL k na xs nb ys) (twoB na xs nb ys) w) := by
  cases hva : vldB na xs with
  | false => exact implInAtLeastNA k na va xs nb vb ys H w ha hb hva c0 c1 c2 c3
  | true =>
    cases hvb : vldB nb ys with
    | false => exact implInAtLeastNB k na va xs nb vb ys H w ha hb hva hvb c0 c1 c2 c3
    | true =>
      by_cases he : nb = na
      · exact implInAtLeastOK k na va xs nb vb ys H w ha hb hva hvb he c0 c1 c2 c3
      · exact implInAtLeastNE k na va xs nb vb ys H w ha hb hva hvb he c0 c1 c2 c3

end Go.Proofs.Ytpcjecahplglfab
