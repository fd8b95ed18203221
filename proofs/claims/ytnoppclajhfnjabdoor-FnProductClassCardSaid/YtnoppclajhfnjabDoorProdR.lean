/- inARow of two classes, and ProductClass, the program's. Conditions: their Sets are slices of ints. -/
import Derived.Deep.AppendLies
import Derived.Deep.Cut
import Derived.Deep.CutRange
import Derived.Deep.RegionWith
import Derived.LoopN
import Derived.Test.YtnoppclajhfnjabDoorBall
import Derived.Test.YtnoppclajhfnjabDoorProdB
namespace Go.Proofs.YtnoppclajhfnjabDoor
open Go.RowKit

/-- are both valid, and of at most five points together? -/
def twoP (na : Int) (xs : List Int) (nb : Int) (ys : List Int) : Bool := vldB na xs && (vldB nb ys && decide (na + nb ≤ 5))
def pdN (na : Int) (xs : List Int) (nb : Int) (ys : List Int) : Int := if twoP na xs nb ys = true then na + nb else 0
def pdL (na : Int) (xs : List Int) (nb : Int) (ys : List Int) : List Int := if twoP na xs nb ys = true then toI (pdTo na.toNat (xs.map Int.toNat) (ys.map Int.toNat) (ys.map Int.toNat).length) else []
theorem pdN_no {na nb : Int} {xs ys : List Int} (h : twoP na xs nb ys = false) : pdN na xs nb ys = 0 := by rw [pdN, if_neg (by rw [h]; simp)]
theorem pdL_no {na nb : Int} {xs ys : List Int} (h : twoP na xs nb ys = false) : pdL na xs nb ys = [] := by rw [pdL, if_neg (by rw [h]; simp)]
theorem pdL_len (na : Int) (xs : List Int) (nb : Int) (ys : List Int) : (pdL na xs nb ys).length ≤ 1048576 := by
  unfold pdL
  split
  · rename_i h
    simp only [twoP, Bool.and_eq_true] at h
    obtain ⟨m, ns, rfl, rfl, hc⟩ := vldB_cls h.1
    obtain ⟨m2, ms, rfl, rfl, hc2⟩ := vldB_cls h.2.1
    rw [toI_length, toNat_toI, toNat_toI, pdTo_len _ (Nat.le_refl _)]
    have h1 := hc.length
    have h2 := hc2.length
    exact Nat.le_trans (Nat.mul_le_mul h2 h1) (by omega)
  · simp
theorem pdTo_zero (ns : List Nat) : pdTo 0 [0] ns ns.length = ns := by
  rw [pdTo, List.take_length]
  induction ns with
  | nil => rfl
  | cons t ns ih => rw [List.flatMap_cons, ih]; simp [pdIn]

set_option maxRecDepth 100000 in
set_option maxHeartbeats 12800000 in
theorem implInARow (na : Int) (va : Value) (xs : List Int) (nb : Int) (vb : Value) (ys : List Int) (H : Nat) (w : World) (ha : Rd w va xs) (hb : Rd w vb ys)
    (c0 : w.cell? ⟨H, 0, none⟩ = some (.int .i64 na)) (c1 : w.cell? ⟨H, 1, none⟩ = some va) (c2 : w.cell? ⟨H, 2, none⟩ = some (.int .i64 nb)) (c3 : w.cell? ⟨H, 3, none⟩ = some vb) :
    Calls Tryd.prog 98 #[.slice (some ⟨H, 0, none⟩) 2 2] w (RetCB (pdN na xs nb ys) (pdL na xs nb ys) (twoP na xs nb ys) w) := by
  have HA := Lib.hid ha
  have HBb := Lib.hid hb
  have hHlt : H < w.heap.size := World.block_lt_of_cell? w _ c0
  have HVA := Lib.hid (fun w h => implValid na va xs w h)
  have HVB := Lib.hid (fun w h => implValid nb vb ys w h)
  obtain ⟨a, ba, offa, ca, rfl, -, -, -⟩ := ha
  obtain ⟨b, bb, offb, cb, rfl, -, -, -⟩ := hb
  have HC0 := Lib.hid c0
  have HC1 := Lib.hid c1
  have HC2 := Lib.hid c2
  have HC3 := Lib.hid c3
  have B := Lib.hid (show Below w.heap.size w (((w.alloc (Obj.cells #[.int .i64 0, .slice none 0 0] 25)).alloc (Obj.cells #[.int .i64 0] 3)).alloc (Obj.cells #[.int .i64 0, .slice (some ⟨w.heap.size + 1, 0, none⟩) 1 1] 25)) from (((Below.refl _ _).alloc (Nat.le_refl _) _).alloc (by simp) _).alloc (by simp; omega) _)
  have HZ := Lib.hid (show (((w.alloc (Obj.cells #[.int .i64 0, .slice none 0 0] 25)).alloc (Obj.cells #[.int .i64 0] 3)).alloc (Obj.cells #[.int .i64 0, .slice (some ⟨w.heap.size + 1, 0, none⟩) 1 1] 25)).heap.size = w.heap.size + 3 by simp)
  have Y := Lib.hid (show Bx 0 (.slice none 0 0) w.heap.size (((w.alloc (Obj.cells #[.int .i64 0, .slice none 0 0] 25)).alloc (Obj.cells #[.int .i64 0] 3)).alloc (Obj.cells #[.int .i64 0, .slice (some ⟨w.heap.size + 1, 0, none⟩) 1 1] 25)) from ((Bx.new _ _ _).alloc _).alloc _)
  have O := Lib.hid (show Bx 0 (.slice (some ⟨w.heap.size + 1, 0, none⟩) 1 1) (w.heap.size + 2) (((w.alloc (Obj.cells #[.int .i64 0, .slice none 0 0] 25)).alloc (Obj.cells #[.int .i64 0] 3)).alloc (Obj.cells #[.int .i64 0, .slice (some ⟨w.heap.size + 1, 0, none⟩) 1 1] 25)) from heap_alloc_at (by simp))
  have J := Lib.hid (show Ints (w.heap.size + 1) (((w.alloc (Obj.cells #[.int .i64 0, .slice none 0 0] 25)).alloc (Obj.cells #[.int .i64 0] 3)).alloc (Obj.cells #[.int .i64 0, .slice (some ⟨w.heap.size + 1, 0, none⟩) 1 1] 25)) (.slice (some ⟨w.heap.size + 1, 0, none⟩) 1 1) [0] from by
    have h9 : Ints (w.heap.size + 1) ((w.alloc (Obj.cells #[.int .i64 0, .slice none 0 0] 25)).alloc (Obj.cells #[.int .i64 0] 3)) (.slice (some ⟨(w.alloc (Obj.cells #[.int .i64 0, .slice none 0 0] 25)).heap.size, 0, none⟩) 1 1) [0] := World.ownsRow_lit _ #[.int .i64 0] 1 (by simp) (by unfold maxLen; omega) rfl
    rw [show (w.alloc (Obj.cells #[.int .i64 0, .slice none 0 0] 25)).heap.size = w.heap.size + 1 by simp] at h9
    exact (show Ints (w.heap.size + 1) _ (.slice (some ⟨w.heap.size + 1, 0, none⟩) 1 1) [0] from h9).alloc _)
  clear c0 c1 c2 c3
  by_cases hva : vldB na xs = true
  · obtain ⟨m, ns, rfl, rfl, hca⟩ := vldB_cls hva
    have hm := hca.pts
    have hla := hca.length
    have HVa := Lib.hid hva
    rw [hva] at HVA
    have HB0 := Lib.hid (show ∀ u v w, Rd w u [0] → Rd w v (toI ns) → Calls Tryd.prog 132 #[.agg #[.int .i64 0, u], .agg #[.int .i64 (m : Int), v]] w (RetInts (toI ns) w) from fun u v w h1 h2 => by
      have h9 := implBehind 0 (by omega) u [0] (m : Int) v ns w h1 h2 (by simp) hca.lt32 (by simp) hla
      rw [pdTo_zero] at h9
      exact h9)
    have HBh := Lib.hid (fun u n2 v ms w h1 h2 h3 l2 => implBehind m hm u ns n2 v ms w h1 h2 hca.lt h3 hla l2)
    have hwm : IntKind.i64.wrap (m : Int) = (m : Int) := by rw [IntKind.wrap_i64]; omega
    have hm5 : ¬ (5 : Int) < (m : Int) := by omega
    have hm6 : decide ((5 : Int) < (m : Int)) = false := decide_eq_false hm5
    clear hva hca
    go_enter Tryd.func98, Tryd.ntmps98
    go_wp2_with fail
    generalize (((w.alloc (Obj.cells #[.int .i64 0, .slice none 0 0] 25)).alloc (Obj.cells #[.int .i64 0] 3)).alloc (Obj.cells #[.int .i64 0, .slice (some ⟨w.heap.size + 1, 0, none⟩) 1 1] 25)) = W0 at *
    have hw0 : w.heap.size + 3 ≤ W0.heap.size := Nat.le_of_eq HZ.out.symm
    clear HZ
    go_loopw [11] (fun i wr => Bx 0 (.slice none 0 0) w.heap.size wr ∧ Below w.heap.size w wr ∧ w.heap.size + 3 ≤ wr.heap.size ∧ ((i = .int .i64 0 ∧ Bx 0 (.slice (some ⟨w.heap.size + 1, 0, none⟩) 1 1) (w.heap.size + 2) wr ∧ Ints (w.heap.size + 1) wr (.slice (some ⟨w.heap.size + 1, 0, none⟩) 1 1) [0]) ∨ (i = .int .i64 1 ∧ ∃ (a9 : Option Addr) (c9 : Nat), Bx (m : Int) (.slice a9 (toI ns).length c9) (w.heap.size + 2) wr ∧ Ints (w.heap.size + 3) wr (.slice a9 (toI ns).length c9) (toI ns)) ∨ (i = .int .i64 2 ∧ twoP (m : Int) (toI ns) nb ys = true ∧ ∃ (a9 : Option Addr) (c9 : Nat), Bx (pdN (m : Int) (toI ns) nb ys) (.slice a9 (pdL (m : Int) (toI ns) nb ys).length c9) (w.heap.size + 2) wr ∧ Ints (w.heap.size + 3) wr (.slice a9 (pdL (m : Int) (toI ns) nb ys).length c9) (pdL (m : Int) (toI ns) nb ys)))) (fun i _ => 2 - (intOf i).toNat)
    case atStart => exact ⟨Y.out, B.out, hw0, .inl ⟨rfl, O.out, J.out⟩⟩
    case round =>
      obtain ⟨hY, hB, hsz, hst⟩ := hrel
      clear Y O J B
      have Y := Lib.hid hY
      have B := Lib.hid hB
      clear hY hB
      rcases hst with ⟨rfl, hO, hJ⟩ | ⟨rfl, a09, c09, hO, hJ⟩ | ⟨rfl, ht, a19, c19, hO, hJ⟩
      · have O := Lib.hid hO
        have J := Lib.hid hJ
        clear hO hJ
        obtain ⟨W0, hWr⟩ : ∃ w', w' = wr := ⟨_, rfl⟩
        subst hWr
        have h0 := (B.out.cell (p := ⟨H, 0, none⟩) hHlt).trans HC0.out
        have h1 := (B.out.cell (p := ⟨H, 1, none⟩) hHlt).trans HC1.out
        have h2 := (B.out.cell (p := ⟨H, 2, none⟩) hHlt).trans HC2.out
        have h3 := (B.out.cell (p := ⟨H, 3, none⟩) hHlt).trans HC3.out
        have T := Lib.hid (Bx.new (m : Int) (.slice a (toI ns).length ca) W0)
        replace Y := Lib.hid (Y.out.alloc (Obj.cells #[.int .i64 (m : Int), .slice a (toI ns).length ca] 25))
        replace O := Lib.hid (O.out.alloc (Obj.cells #[.int .i64 (m : Int), .slice a (toI ns).length ca] 25))
        replace J := Lib.hid (J.out.alloc (Obj.cells #[.int .i64 (m : Int), .slice a (toI ns).length ca] 25))
        replace B := Lib.hid (B.out.alloc B.out.size (Obj.cells #[.int .i64 (m : Int), .slice a (toI ns).length ca] 25))
        have HZ := Lib.hid (show (W0.alloc (Obj.cells #[.int .i64 (m : Int), .slice a (toI ns).length ca] 25)).heap.size = W0.heap.size + 1 by simp)
        go_wp2_with fail
        clear h0 h1 h2 h3
        generalize (W0.alloc (Obj.cells #[.int .i64 (m : Int), .slice a (toI ns).length ca] 25)) = V0 at *
        generalize hT0 : W0.heap.size = T0 at *
        have hv0 : T0 < V0.heap.size := by have := HZ.out; omega
        clear HZ
        refine (HVA.out _ (by exact HA.out.below B.out (Nat.le_refl _))).mono ?_
        rintro e U0 ⟨rfl, hx⟩
        have hu0 := hx.size
        replace T := Lib.hid (T.out.next hx T.out.lt)
        replace Y := Lib.hid (Y.out.next hx Y.out.lt)
        replace O := Lib.hid (O.out.next hx O.out.lt)
        replace J := Lib.hid (J.out.below hx (Nat.le_refl _))
        replace B := Lib.hid (B.out.trans (hx.mono B.out.size))
        clear hx
        have t0 := T.out.out.at0
        have t1 := T.out.out.at1
        have o0 := O.out.out.at0
        have o1 := O.out.out.at1
        have hT3 : w.heap.size + 3 ≤ T0 := by omega
        go_wp2_with fail
        clear t0 t1 o0 o1
        refine wp_region_held_drew (S := fun w' => w'.cell? ⟨T0, 0, none⟩ = some (.int .i64 (m : Int)) ∧ w'.cell? ⟨T0, 1, none⟩ = some (.slice a (toI ns).length ca)) (by kernel_rfl) (by exact ⟨T.out.out.at0, T.out.out.at1⟩) (fun hHeld => ?_)
        replace T := Lib.hid (show Bx _ _ _ U0.drew from T.out)
        replace O := Lib.hid (show Bx _ _ _ U0.drew from O.out)
        replace Y := Lib.hid (show Bx _ _ _ U0.drew from Y.out)
        replace J := Lib.hid (show Ints _ U0.drew _ _ from J.out)
        replace B := Lib.hid B.out.drew
        have hzd : U0.heap.size ≤ U0.drew.heap.size := Nat.le_refl _
        generalize U0.drew = D0 at *
        refine wpAnyH_take (i := 0) (v := ?_) rfl (by kernel_rfl) (by kernel_rfl) (by kernel_rfl) (fun _ _ _ h => h) (Or.inl ⟨by rfl, ?_⟩) (by assumption) ?_
        rotate_left
        · (intro w hSw; (try dsimp only at hSw); go_simp; try with_reducible rfl)
        try simp only [List.getElem_toArray, List.getElem_cons_zero, Act.put, List.setIfInBounds_toArray, List.set_cons_zero, List.set_cons_succ]
        refine wpAnyH_take (i := 2) (v := ?_) rfl (by kernel_rfl) (by kernel_rfl) (by kernel_rfl) (fun _ _ _ h => h) (Or.inl ⟨by rfl, ?_⟩) (by assumption) ?_
        rotate_left
        · (intro w hSw; (try dsimp only at hSw); go_simp; try with_reducible rfl)
        try simp only [List.getElem_toArray, List.getElem_cons_zero, List.getElem_cons_succ, Act.put, List.setIfInBounds_toArray, List.set_cons_zero, List.set_cons_succ]
        refine wpAnyH_take (i := 3) (v := ?_) rfl (by kernel_rfl) (by kernel_rfl) (by kernel_rfl) (fun _ _ _ h => h) (Or.inl ⟨by rfl, ?_⟩) (by assumption) ?_
        rotate_left
        · (intro w hSw; (try dsimp only at hSw); go_simp; try with_reducible rfl)
        try simp only [List.getElem_toArray, List.getElem_cons_zero, List.getElem_cons_succ, Act.put, List.setIfInBounds_toArray, List.set_cons_zero, List.set_cons_succ]
        refine wpAnyH_take (i := 6) (v := ?_) rfl (by kernel_rfl) (by kernel_rfl) (by kernel_rfl) (fun _ _ _ h => h) (Or.inl ⟨by rfl, ?_⟩) (by assumption) ?_
        rotate_left
        · (intro w hSw; (try dsimp only at hSw); go_simp; try with_reducible rfl)
        try simp only [List.getElem_toArray, List.getElem_cons_zero, List.getElem_cons_succ, Act.put, List.setIfInBounds_toArray, List.set_cons_zero, List.set_cons_succ]
        refine wpAnyH_ready (rs := [1, 5]) (by kernel_rfl) (by simp) ?_
        refine (AllReadyH.cons rfl (fun K hK => ?_) (AllReadyH.cons rfl (fun K hK => ?_) AllReadyH.nil))
        · skip
          try simp only [List.getElem_toArray]
          have o0 := O.out.out.at0
          have o1 := O.out.out.at1
          go_simp
          clear o0 o1
          refine hK.out _ _ (by exact ⟨T.out.out.at0, T.out.out.at1⟩) (fun hHeld => ?_)
          clear hK K
          try simp only [List.getElem_toArray, List.getElem_cons_zero, List.getElem_cons_succ, Act.put, List.setIfInBounds_toArray, List.set_cons_zero, List.set_cons_succ]
          refine wpAnyH_take (i := 4) (v := ?_) rfl (by kernel_rfl) (by kernel_rfl) (by kernel_rfl) (fun _ _ _ h => h) (Or.inl ⟨by rfl, ?_⟩) (by assumption) ?_
          rotate_left
          · (intro w hSw; (try dsimp only at hSw); go_simp; (try rw [hwm]); try with_reducible rfl)
          try simp only [List.getElem_toArray, List.getElem_cons_zero, List.getElem_cons_succ, Act.put, List.setIfInBounds_toArray, List.set_cons_zero, List.set_cons_succ]
          refine wpAnyH_ready (rs := [5]) (by kernel_rfl) (by simp) ?_
          refine (AllReadyH.cons rfl (fun K hK => ?_) AllReadyH.nil)
          try simp only [List.getElem_toArray]
          have o0 := O.out.out.at0
          have o1 := O.out.out.at1
          go_simp
          clear o0 o1
          refine hK.out _ _ (by exact ⟨T.out.out.at0, T.out.out.at1⟩) (fun hHeld => ?_)
          clear hK K
          try simp only [List.getElem_toArray, List.getElem_cons_zero, List.getElem_cons_succ, Act.put, List.setIfInBounds_toArray, List.set_cons_zero, List.set_cons_succ]
          refine wpAnyH_ready (rs := [7]) (by kernel_rfl) (by simp) ?_
          refine (AllReadyH.cons rfl (fun K hK => ?_) AllReadyH.nil)
          try simp only [List.getElem_toArray]
          go_simp
          refine (HB0.out _ _ _ (by exact J.out.rd) (by first | exact HA.out.below B.out (Nat.le_refl _))).mono ?_
          rintro e X0 ⟨a9, c9, rfl, hin, hx⟩
          have hxs := hx.size
          replace T := Lib.hid (T.out.next hx T.out.lt)
          replace O := Lib.hid (O.out.next hx O.out.lt)
          replace Y := Lib.hid (Y.out.next hx Y.out.lt)
          replace B := Lib.hid (B.out.trans (hx.mono B.out.size))
          have JX := Lib.hid (hin.mono (show w.heap.size + 3 ≤ D0.heap.size by omega))
          clear hin hx
          refine hK.out _ _ (by exact ⟨T.out.out.at0, T.out.out.at1⟩) (fun hHeld => ?_)
          clear hK K
          try simp only [List.getElem_toArray, List.getElem_cons_zero, List.getElem_cons_succ, Act.put, List.setIfInBounds_toArray, List.set_cons_zero, List.set_cons_succ]
          refine wpAnyH_take (i := 8) (v := ?_) rfl (by kernel_rfl) (by kernel_rfl) (by kernel_rfl) (fun _ _ _ h => h) (Or.inl ⟨by rfl, ?_⟩) (by assumption) ?_
          rotate_left
          · (intro w hSw; (try dsimp only at hSw); go_simp; try with_reducible rfl)
          try simp only [List.getElem_toArray, List.getElem_cons_zero, List.getElem_cons_succ, Act.put, List.setIfInBounds_toArray, List.set_cons_zero, List.set_cons_succ]
          refine wpAnyH_ready (rs := [9]) (by kernel_rfl) (by simp) ?_
          refine (AllReadyH.cons rfl (fun K hK => ?_) AllReadyH.nil)
          try simp only [List.getElem_toArray]
          have o0 := O.out.out.at0
          have o1 := O.out.out.at1
          have p0 := O.out.out.free0
          have p1 := O.out.out.free1
          go_simp
          clear o0 o1 p0 p1
          replace T := Lib.hid ((T.out.other (p := w.heap.size + 2) (j := 0) (by omega) (.int .i64 (m : Int))).other (p := w.heap.size + 2) (j := 1) (by omega) (.slice a9 (toI ns).length c9))
          replace Y := Lib.hid ((Y.out.other (p := w.heap.size + 2) (j := 0) (by omega) (.int .i64 (m : Int))).other (p := w.heap.size + 2) (j := 1) (by omega) (.slice a9 (toI ns).length c9))
          replace JX := Lib.hid ((JX.out.setCell_below (a := ⟨w.heap.size + 2, 0, none⟩) (by show w.heap.size + 2 < w.heap.size + 3; omega) (.int .i64 (m : Int))).setCell_below (a := ⟨w.heap.size + 2, 1, none⟩) (by show w.heap.size + 2 < w.heap.size + 3; omega) (.slice a9 (toI ns).length c9))
          replace B := Lib.hid ((B.out.setCell (p := ⟨w.heap.size + 2, 0, none⟩) (by show w.heap.size ≤ w.heap.size + 2; omega) (.int .i64 (m : Int))).setCell (p := ⟨w.heap.size + 2, 1, none⟩) (by show w.heap.size ≤ w.heap.size + 2; omega) (.slice a9 (toI ns).length c9))
          replace O := Lib.hid ((O.out.setN (m : Int)).set (.slice a9 (toI ns).length c9))
          have hzN : w.heap.size + 3 ≤ ((X0.setCell ⟨w.heap.size + 2, 0, none⟩ (.int .i64 (m : Int))).setCell ⟨w.heap.size + 2, 1, none⟩ (.slice a9 (toI ns).length c9)).heap.size := by simp; omega
          refine hK.out _ _ (by exact ⟨T.out.out.at0, T.out.out.at1⟩) (fun hHeld => ?_)
          clear hK K
          try simp only [List.getElem_toArray, List.getElem_cons_zero, List.getElem_cons_succ, Act.put, List.setIfInBounds_toArray, List.set_cons_zero, List.set_cons_succ]
          refine wpAnyH_done (by kernel_rfl) ?_ _
          go_wp2_with fail
          go_roundw
          case rel => exact ⟨Y.out, B.out, hzN, .inr <| .inl ⟨rfl, a9, c9, O.out, JX.out⟩⟩
          case measure => simp [intOf]
        · skip
          try simp only [List.getElem_toArray]
          have o0 := O.out.out.at0
          have o1 := O.out.out.at1
          go_simp
          clear o0 o1
          refine hK.out _ _ (by exact ⟨T.out.out.at0, T.out.out.at1⟩) (fun hHeld => ?_)
          clear hK K
          try simp only [List.getElem_toArray, List.getElem_cons_zero, List.getElem_cons_succ, Act.put, List.setIfInBounds_toArray, List.set_cons_zero, List.set_cons_succ]
          refine wpAnyH_ready (rs := [1, 7]) (by kernel_rfl) (by simp) ?_
          refine (AllReadyH.cons rfl (fun K hK => ?_) (AllReadyH.cons rfl (fun K hK => ?_) AllReadyH.nil))
          · skip
            try simp only [List.getElem_toArray]
            have o0 := O.out.out.at0
            have o1 := O.out.out.at1
            go_simp
            clear o0 o1
            refine hK.out _ _ (by exact ⟨T.out.out.at0, T.out.out.at1⟩) (fun hHeld => ?_)
            clear hK K
            try simp only [List.getElem_toArray, List.getElem_cons_zero, List.getElem_cons_succ, Act.put, List.setIfInBounds_toArray, List.set_cons_zero, List.set_cons_succ]
            refine wpAnyH_take (i := 4) (v := ?_) rfl (by kernel_rfl) (by kernel_rfl) (by kernel_rfl) (fun _ _ _ h => h) (Or.inl ⟨by rfl, ?_⟩) (by assumption) ?_
            rotate_left
            · (intro w hSw; (try dsimp only at hSw); go_simp; (try rw [hwm]); try with_reducible rfl)
            try simp only [List.getElem_toArray, List.getElem_cons_zero, List.getElem_cons_succ, Act.put, List.setIfInBounds_toArray, List.set_cons_zero, List.set_cons_succ]
            refine wpAnyH_ready (rs := [7]) (by kernel_rfl) (by simp) ?_
            refine (AllReadyH.cons rfl (fun K hK => ?_) AllReadyH.nil)
            try simp only [List.getElem_toArray]
            go_simp
            refine (HB0.out _ _ _ (by exact J.out.rd) (by first | exact HA.out.below B.out (Nat.le_refl _))).mono ?_
            rintro e X0 ⟨a9, c9, rfl, hin, hx⟩
            have hxs := hx.size
            replace T := Lib.hid (T.out.next hx T.out.lt)
            replace O := Lib.hid (O.out.next hx O.out.lt)
            replace Y := Lib.hid (Y.out.next hx Y.out.lt)
            replace B := Lib.hid (B.out.trans (hx.mono B.out.size))
            have JX := Lib.hid (hin.mono (show w.heap.size + 3 ≤ D0.heap.size by omega))
            clear hin hx
            refine hK.out _ _ (by exact ⟨T.out.out.at0, T.out.out.at1⟩) (fun hHeld => ?_)
            clear hK K
            try simp only [List.getElem_toArray, List.getElem_cons_zero, List.getElem_cons_succ, Act.put, List.setIfInBounds_toArray, List.set_cons_zero, List.set_cons_succ]
            refine wpAnyH_take (i := 8) (v := ?_) rfl (by kernel_rfl) (by kernel_rfl) (by kernel_rfl) (fun _ _ _ h => h) (Or.inl ⟨by rfl, ?_⟩) (by assumption) ?_
            rotate_left
            · (intro w hSw; (try dsimp only at hSw); go_simp; try with_reducible rfl)
            try simp only [List.getElem_toArray, List.getElem_cons_zero, List.getElem_cons_succ, Act.put, List.setIfInBounds_toArray, List.set_cons_zero, List.set_cons_succ]
            refine wpAnyH_ready (rs := [9]) (by kernel_rfl) (by simp) ?_
            refine (AllReadyH.cons rfl (fun K hK => ?_) AllReadyH.nil)
            try simp only [List.getElem_toArray]
            have o0 := O.out.out.at0
            have o1 := O.out.out.at1
            have p0 := O.out.out.free0
            have p1 := O.out.out.free1
            go_simp
            clear o0 o1 p0 p1
            replace T := Lib.hid ((T.out.other (p := w.heap.size + 2) (j := 0) (by omega) (.int .i64 (m : Int))).other (p := w.heap.size + 2) (j := 1) (by omega) (.slice a9 (toI ns).length c9))
            replace Y := Lib.hid ((Y.out.other (p := w.heap.size + 2) (j := 0) (by omega) (.int .i64 (m : Int))).other (p := w.heap.size + 2) (j := 1) (by omega) (.slice a9 (toI ns).length c9))
            replace JX := Lib.hid ((JX.out.setCell_below (a := ⟨w.heap.size + 2, 0, none⟩) (by show w.heap.size + 2 < w.heap.size + 3; omega) (.int .i64 (m : Int))).setCell_below (a := ⟨w.heap.size + 2, 1, none⟩) (by show w.heap.size + 2 < w.heap.size + 3; omega) (.slice a9 (toI ns).length c9))
            replace B := Lib.hid ((B.out.setCell (p := ⟨w.heap.size + 2, 0, none⟩) (by show w.heap.size ≤ w.heap.size + 2; omega) (.int .i64 (m : Int))).setCell (p := ⟨w.heap.size + 2, 1, none⟩) (by show w.heap.size ≤ w.heap.size + 2; omega) (.slice a9 (toI ns).length c9))
            replace O := Lib.hid ((O.out.setN (m : Int)).set (.slice a9 (toI ns).length c9))
            have hzN : w.heap.size + 3 ≤ ((X0.setCell ⟨w.heap.size + 2, 0, none⟩ (.int .i64 (m : Int))).setCell ⟨w.heap.size + 2, 1, none⟩ (.slice a9 (toI ns).length c9)).heap.size := by simp; omega
            refine hK.out _ _ (by exact ⟨T.out.out.at0, T.out.out.at1⟩) (fun hHeld => ?_)
            clear hK K
            try simp only [List.getElem_toArray, List.getElem_cons_zero, List.getElem_cons_succ, Act.put, List.setIfInBounds_toArray, List.set_cons_zero, List.set_cons_succ]
            refine wpAnyH_done (by kernel_rfl) ?_ _
            go_wp2_with fail
            go_roundw
            case rel => exact ⟨Y.out, B.out, hzN, .inr <| .inl ⟨rfl, a9, c9, O.out, JX.out⟩⟩
            case measure => simp [intOf]
          · skip
            try simp only [List.getElem_toArray]
            go_simp
            refine (HB0.out _ _ _ (by exact J.out.rd) (by first | exact HA.out.below B.out (Nat.le_refl _))).mono ?_
            rintro e X0 ⟨a9, c9, rfl, hin, hx⟩
            have hxs := hx.size
            replace T := Lib.hid (T.out.next hx T.out.lt)
            replace O := Lib.hid (O.out.next hx O.out.lt)
            replace Y := Lib.hid (Y.out.next hx Y.out.lt)
            replace B := Lib.hid (B.out.trans (hx.mono B.out.size))
            have JX := Lib.hid (hin.mono (show w.heap.size + 3 ≤ D0.heap.size by omega))
            clear hin hx
            refine hK.out _ _ (by exact ⟨T.out.out.at0, T.out.out.at1⟩) (fun hHeld => ?_)
            clear hK K
            try simp only [List.getElem_toArray, List.getElem_cons_zero, List.getElem_cons_succ, Act.put, List.setIfInBounds_toArray, List.set_cons_zero, List.set_cons_succ]
            refine wpAnyH_ready (rs := [1]) (by kernel_rfl) (by simp) ?_
            refine (AllReadyH.cons rfl (fun K hK => ?_) AllReadyH.nil)
            try simp only [List.getElem_toArray]
            have o0 := O.out.out.at0
            have o1 := O.out.out.at1
            go_simp
            clear o0 o1
            refine hK.out _ _ (by exact ⟨T.out.out.at0, T.out.out.at1⟩) (fun hHeld => ?_)
            clear hK K
            try simp only [List.getElem_toArray, List.getElem_cons_zero, List.getElem_cons_succ, Act.put, List.setIfInBounds_toArray, List.set_cons_zero, List.set_cons_succ]
            refine wpAnyH_take (i := 4) (v := ?_) rfl (by kernel_rfl) (by kernel_rfl) (by kernel_rfl) (fun _ _ _ h => h) (Or.inl ⟨by rfl, ?_⟩) (by assumption) ?_
            rotate_left
            · (intro w hSw; (try dsimp only at hSw); go_simp; (try rw [hwm]); try with_reducible rfl)
            try simp only [List.getElem_toArray, List.getElem_cons_zero, List.getElem_cons_succ, Act.put, List.setIfInBounds_toArray, List.set_cons_zero, List.set_cons_succ]
            refine wpAnyH_take (i := 8) (v := ?_) rfl (by kernel_rfl) (by kernel_rfl) (by kernel_rfl) (fun _ _ _ h => h) (Or.inl ⟨by rfl, ?_⟩) (by assumption) ?_
            rotate_left
            · (intro w hSw; (try dsimp only at hSw); go_simp; try with_reducible rfl)
            try simp only [List.getElem_toArray, List.getElem_cons_zero, List.getElem_cons_succ, Act.put, List.setIfInBounds_toArray, List.set_cons_zero, List.set_cons_succ]
            refine wpAnyH_ready (rs := [9]) (by kernel_rfl) (by simp) ?_
            refine (AllReadyH.cons rfl (fun K hK => ?_) AllReadyH.nil)
            try simp only [List.getElem_toArray]
            have o0 := O.out.out.at0
            have o1 := O.out.out.at1
            have p0 := O.out.out.free0
            have p1 := O.out.out.free1
            go_simp
            clear o0 o1 p0 p1
            replace T := Lib.hid ((T.out.other (p := w.heap.size + 2) (j := 0) (by omega) (.int .i64 (m : Int))).other (p := w.heap.size + 2) (j := 1) (by omega) (.slice a9 (toI ns).length c9))
            replace Y := Lib.hid ((Y.out.other (p := w.heap.size + 2) (j := 0) (by omega) (.int .i64 (m : Int))).other (p := w.heap.size + 2) (j := 1) (by omega) (.slice a9 (toI ns).length c9))
            replace JX := Lib.hid ((JX.out.setCell_below (a := ⟨w.heap.size + 2, 0, none⟩) (by show w.heap.size + 2 < w.heap.size + 3; omega) (.int .i64 (m : Int))).setCell_below (a := ⟨w.heap.size + 2, 1, none⟩) (by show w.heap.size + 2 < w.heap.size + 3; omega) (.slice a9 (toI ns).length c9))
            replace B := Lib.hid ((B.out.setCell (p := ⟨w.heap.size + 2, 0, none⟩) (by show w.heap.size ≤ w.heap.size + 2; omega) (.int .i64 (m : Int))).setCell (p := ⟨w.heap.size + 2, 1, none⟩) (by show w.heap.size ≤ w.heap.size + 2; omega) (.slice a9 (toI ns).length c9))
            replace O := Lib.hid ((O.out.setN (m : Int)).set (.slice a9 (toI ns).length c9))
            have hzN : w.heap.size + 3 ≤ ((X0.setCell ⟨w.heap.size + 2, 0, none⟩ (.int .i64 (m : Int))).setCell ⟨w.heap.size + 2, 1, none⟩ (.slice a9 (toI ns).length c9)).heap.size := by simp; omega
            refine hK.out _ _ (by exact ⟨T.out.out.at0, T.out.out.at1⟩) (fun hHeld => ?_)
            clear hK K
            try simp only [List.getElem_toArray, List.getElem_cons_zero, List.getElem_cons_succ, Act.put, List.setIfInBounds_toArray, List.set_cons_zero, List.set_cons_succ]
            refine wpAnyH_done (by kernel_rfl) ?_ _
            go_wp2_with fail
            go_roundw
            case rel => exact ⟨Y.out, B.out, hzN, .inr <| .inl ⟨rfl, a9, c9, O.out, JX.out⟩⟩
            case measure => simp [intOf]
      · have O := Lib.hid hO
        have J := Lib.hid hJ
        clear hO hJ
        obtain ⟨W1, hWr⟩ : ∃ w', w' = wr := ⟨_, rfl⟩
        subst hWr
        by_cases hvb : vldB nb ys = true
        · obtain ⟨m2, ms, rfl, rfl, hcb⟩ := vldB_cls hvb
          have hm2 := hcb.pts
          have hlb := hcb.length
          have hwn : IntKind.i64.wrap ((m : Int) + (m2 : Int)) = (m : Int) + (m2 : Int) := by rw [IntKind.wrap_i64]; omega
          rw [hvb] at HVB
          by_cases hs : (m : Int) + (m2 : Int) ≤ 5
          · have ht : twoP (m : Int) (toI ns) (m2 : Int) (toI ms) = true := by rw [twoP, HVa.out, hvb, decide_eq_true hs]; rfl
            have eN : pdN (m : Int) (toI ns) (m2 : Int) (toI ms) = (m : Int) + (m2 : Int) := by rw [pdN, if_pos ht]
            have eL : pdL (m : Int) (toI ns) (m2 : Int) (toI ms) = toI (pdTo m ns ms ms.length) := by rw [pdL, if_pos ht, toNat_toI, toNat_toI, Int.toNat_natCast]
            have HB1 := Lib.hid (fun u v w h1 h2 => HBh.out u (m2 : Int) v ms w h1 h2 hcb.lt32 hlb)
            generalize pdTo m ns ms ms.length = PD at *
            have hn5 : ¬ (5 : Int) < (m : Int) + (m2 : Int) := by omega
            have hn6 : decide ((5 : Int) < (m : Int) + (m2 : Int)) = false := decide_eq_false hn5
            clear hvb hcb
            have h0 := (B.out.cell (p := ⟨H, 0, none⟩) hHlt).trans HC0.out
            have h1 := (B.out.cell (p := ⟨H, 1, none⟩) hHlt).trans HC1.out
            have h2 := (B.out.cell (p := ⟨H, 2, none⟩) hHlt).trans HC2.out
            have h3 := (B.out.cell (p := ⟨H, 3, none⟩) hHlt).trans HC3.out
            have T := Lib.hid (Bx.new (m2 : Int) (.slice b (toI ms).length cb) W1)
            replace Y := Lib.hid (Y.out.alloc (Obj.cells #[.int .i64 (m2 : Int), .slice b (toI ms).length cb] 25))
            replace O := Lib.hid (O.out.alloc (Obj.cells #[.int .i64 (m2 : Int), .slice b (toI ms).length cb] 25))
            replace J := Lib.hid (J.out.alloc (Obj.cells #[.int .i64 (m2 : Int), .slice b (toI ms).length cb] 25))
            replace B := Lib.hid (B.out.alloc B.out.size (Obj.cells #[.int .i64 (m2 : Int), .slice b (toI ms).length cb] 25))
            have HZ := Lib.hid (show (W1.alloc (Obj.cells #[.int .i64 (m2 : Int), .slice b (toI ms).length cb] 25)).heap.size = W1.heap.size + 1 by simp)
            go_wp2_with fail
            clear h0 h1 h2 h3
            generalize (W1.alloc (Obj.cells #[.int .i64 (m2 : Int), .slice b (toI ms).length cb] 25)) = V1 at *
            generalize hT1 : W1.heap.size = T1 at *
            have hv1 : T1 < V1.heap.size := by have := HZ.out; omega
            clear HZ
            refine (HVB.out _ (by exact HBb.out.below B.out (Nat.le_refl _))).mono ?_
            rintro e U1 ⟨rfl, hx⟩
            have hu1 := hx.size
            replace T := Lib.hid (T.out.next hx T.out.lt)
            replace Y := Lib.hid (Y.out.next hx Y.out.lt)
            replace O := Lib.hid (O.out.next hx O.out.lt)
            replace J := Lib.hid (J.out.below hx (Nat.le_refl _))
            replace B := Lib.hid (B.out.trans (hx.mono B.out.size))
            clear hx
            have t0 := T.out.out.at0
            have t1 := T.out.out.at1
            have o0 := O.out.out.at0
            have o1 := O.out.out.at1
            have hT3 : w.heap.size + 3 ≤ T1 := by omega
            go_wp2_with fail
            clear t0 t1 o0 o1
            refine wp_region_held_drew (S := fun w' => w'.cell? ⟨T1, 0, none⟩ = some (.int .i64 (m2 : Int)) ∧ w'.cell? ⟨T1, 1, none⟩ = some (.slice b (toI ms).length cb)) (by kernel_rfl) (by exact ⟨T.out.out.at0, T.out.out.at1⟩) (fun hHeld => ?_)
            replace T := Lib.hid (show Bx _ _ _ U1.drew from T.out)
            replace O := Lib.hid (show Bx _ _ _ U1.drew from O.out)
            replace Y := Lib.hid (show Bx _ _ _ U1.drew from Y.out)
            replace J := Lib.hid (show Ints _ U1.drew _ _ from J.out)
            replace B := Lib.hid B.out.drew
            have hzd : U1.heap.size ≤ U1.drew.heap.size := Nat.le_refl _
            generalize U1.drew = D1 at *
            refine wpAnyH_take (i := 0) (v := ?_) rfl (by kernel_rfl) (by kernel_rfl) (by kernel_rfl) (fun _ _ _ h => h) (Or.inl ⟨by rfl, ?_⟩) (by assumption) ?_
            rotate_left
            · (intro w hSw; (try dsimp only at hSw); go_simp; try with_reducible rfl)
            try simp only [List.getElem_toArray, List.getElem_cons_zero, Act.put, List.setIfInBounds_toArray, List.set_cons_zero, List.set_cons_succ]
            refine wpAnyH_take (i := 2) (v := ?_) rfl (by kernel_rfl) (by kernel_rfl) (by kernel_rfl) (fun _ _ _ h => h) (Or.inl ⟨by rfl, ?_⟩) (by assumption) ?_
            rotate_left
            · (intro w hSw; (try dsimp only at hSw); go_simp; try with_reducible rfl)
            try simp only [List.getElem_toArray, List.getElem_cons_zero, List.getElem_cons_succ, Act.put, List.setIfInBounds_toArray, List.set_cons_zero, List.set_cons_succ]
            refine wpAnyH_take (i := 3) (v := ?_) rfl (by kernel_rfl) (by kernel_rfl) (by kernel_rfl) (fun _ _ _ h => h) (Or.inl ⟨by rfl, ?_⟩) (by assumption) ?_
            rotate_left
            · (intro w hSw; (try dsimp only at hSw); go_simp; try with_reducible rfl)
            try simp only [List.getElem_toArray, List.getElem_cons_zero, List.getElem_cons_succ, Act.put, List.setIfInBounds_toArray, List.set_cons_zero, List.set_cons_succ]
            refine wpAnyH_take (i := 6) (v := ?_) rfl (by kernel_rfl) (by kernel_rfl) (by kernel_rfl) (fun _ _ _ h => h) (Or.inl ⟨by rfl, ?_⟩) (by assumption) ?_
            rotate_left
            · (intro w hSw; (try dsimp only at hSw); go_simp; try with_reducible rfl)
            try simp only [List.getElem_toArray, List.getElem_cons_zero, List.getElem_cons_succ, Act.put, List.setIfInBounds_toArray, List.set_cons_zero, List.set_cons_succ]
            refine wpAnyH_ready (rs := [1, 5]) (by kernel_rfl) (by simp) ?_
            refine (AllReadyH.cons rfl (fun K hK => ?_) (AllReadyH.cons rfl (fun K hK => ?_) AllReadyH.nil))
            · skip
              try simp only [List.getElem_toArray]
              have o0 := O.out.out.at0
              have o1 := O.out.out.at1
              go_simp
              clear o0 o1
              refine hK.out _ _ (by exact ⟨T.out.out.at0, T.out.out.at1⟩) (fun hHeld => ?_)
              clear hK K
              try simp only [List.getElem_toArray, List.getElem_cons_zero, List.getElem_cons_succ, Act.put, List.setIfInBounds_toArray, List.set_cons_zero, List.set_cons_succ]
              refine wpAnyH_take (i := 4) (v := ?_) rfl (by kernel_rfl) (by kernel_rfl) (by kernel_rfl) (fun _ _ _ h => h) (Or.inl ⟨by rfl, ?_⟩) (by assumption) ?_
              rotate_left
              · (intro w hSw; (try dsimp only at hSw); go_simp; (try rw [hwn]); try with_reducible rfl)
              try simp only [List.getElem_toArray, List.getElem_cons_zero, List.getElem_cons_succ, Act.put, List.setIfInBounds_toArray, List.set_cons_zero, List.set_cons_succ]
              refine wpAnyH_ready (rs := [5]) (by kernel_rfl) (by simp) ?_
              refine (AllReadyH.cons rfl (fun K hK => ?_) AllReadyH.nil)
              try simp only [List.getElem_toArray]
              have o0 := O.out.out.at0
              have o1 := O.out.out.at1
              go_simp
              clear o0 o1
              refine hK.out _ _ (by exact ⟨T.out.out.at0, T.out.out.at1⟩) (fun hHeld => ?_)
              clear hK K
              try simp only [List.getElem_toArray, List.getElem_cons_zero, List.getElem_cons_succ, Act.put, List.setIfInBounds_toArray, List.set_cons_zero, List.set_cons_succ]
              refine wpAnyH_ready (rs := [7]) (by kernel_rfl) (by simp) ?_
              refine (AllReadyH.cons rfl (fun K hK => ?_) AllReadyH.nil)
              try simp only [List.getElem_toArray]
              go_simp
              refine (HB1.out _ _ _ (by exact J.out.rd) (by first | exact HBb.out.below B.out (Nat.le_refl _))).mono ?_
              rintro e X1 ⟨a9, c9, rfl, hin, hx⟩
              have hxs := hx.size
              replace T := Lib.hid (T.out.next hx T.out.lt)
              replace O := Lib.hid (O.out.next hx O.out.lt)
              replace Y := Lib.hid (Y.out.next hx Y.out.lt)
              replace B := Lib.hid (B.out.trans (hx.mono B.out.size))
              have JX := Lib.hid (hin.mono (show w.heap.size + 3 ≤ D1.heap.size by omega))
              clear hin hx
              refine hK.out _ _ (by exact ⟨T.out.out.at0, T.out.out.at1⟩) (fun hHeld => ?_)
              clear hK K
              try simp only [List.getElem_toArray, List.getElem_cons_zero, List.getElem_cons_succ, Act.put, List.setIfInBounds_toArray, List.set_cons_zero, List.set_cons_succ]
              refine wpAnyH_take (i := 8) (v := ?_) rfl (by kernel_rfl) (by kernel_rfl) (by kernel_rfl) (fun _ _ _ h => h) (Or.inl ⟨by rfl, ?_⟩) (by assumption) ?_
              rotate_left
              · (intro w hSw; (try dsimp only at hSw); go_simp; try with_reducible rfl)
              try simp only [List.getElem_toArray, List.getElem_cons_zero, List.getElem_cons_succ, Act.put, List.setIfInBounds_toArray, List.set_cons_zero, List.set_cons_succ]
              refine wpAnyH_ready (rs := [9]) (by kernel_rfl) (by simp) ?_
              refine (AllReadyH.cons rfl (fun K hK => ?_) AllReadyH.nil)
              try simp only [List.getElem_toArray]
              have o0 := O.out.out.at0
              have o1 := O.out.out.at1
              have p0 := O.out.out.free0
              have p1 := O.out.out.free1
              go_simp
              clear o0 o1 p0 p1
              replace T := Lib.hid ((T.out.other (p := w.heap.size + 2) (j := 0) (by omega) (.int .i64 ((m : Int) + (m2 : Int)))).other (p := w.heap.size + 2) (j := 1) (by omega) (.slice a9 (toI PD).length c9))
              replace Y := Lib.hid ((Y.out.other (p := w.heap.size + 2) (j := 0) (by omega) (.int .i64 ((m : Int) + (m2 : Int)))).other (p := w.heap.size + 2) (j := 1) (by omega) (.slice a9 (toI PD).length c9))
              replace JX := Lib.hid ((JX.out.setCell_below (a := ⟨w.heap.size + 2, 0, none⟩) (by show w.heap.size + 2 < w.heap.size + 3; omega) (.int .i64 ((m : Int) + (m2 : Int)))).setCell_below (a := ⟨w.heap.size + 2, 1, none⟩) (by show w.heap.size + 2 < w.heap.size + 3; omega) (.slice a9 (toI PD).length c9))
              replace B := Lib.hid ((B.out.setCell (p := ⟨w.heap.size + 2, 0, none⟩) (by show w.heap.size ≤ w.heap.size + 2; omega) (.int .i64 ((m : Int) + (m2 : Int)))).setCell (p := ⟨w.heap.size + 2, 1, none⟩) (by show w.heap.size ≤ w.heap.size + 2; omega) (.slice a9 (toI PD).length c9))
              replace O := Lib.hid ((O.out.setN ((m : Int) + (m2 : Int))).set (.slice a9 (toI PD).length c9))
              have hzN : w.heap.size + 3 ≤ ((X1.setCell ⟨w.heap.size + 2, 0, none⟩ (.int .i64 ((m : Int) + (m2 : Int)))).setCell ⟨w.heap.size + 2, 1, none⟩ (.slice a9 (toI PD).length c9)).heap.size := by simp; omega
              refine hK.out _ _ (by exact ⟨T.out.out.at0, T.out.out.at1⟩) (fun hHeld => ?_)
              clear hK K
              try simp only [List.getElem_toArray, List.getElem_cons_zero, List.getElem_cons_succ, Act.put, List.setIfInBounds_toArray, List.set_cons_zero, List.set_cons_succ]
              refine wpAnyH_done (by kernel_rfl) ?_ _
              go_wp2_with fail
              go_roundw
              case rel => exact ⟨Y.out, B.out, hzN, .inr <| .inr ⟨rfl, ht, a9, c9, by rw [eN, eL]; exact O.out, by rw [eL]; exact JX.out⟩⟩
              case measure => simp [intOf]
            · skip
              try simp only [List.getElem_toArray]
              have o0 := O.out.out.at0
              have o1 := O.out.out.at1
              go_simp
              clear o0 o1
              refine hK.out _ _ (by exact ⟨T.out.out.at0, T.out.out.at1⟩) (fun hHeld => ?_)
              clear hK K
              try simp only [List.getElem_toArray, List.getElem_cons_zero, List.getElem_cons_succ, Act.put, List.setIfInBounds_toArray, List.set_cons_zero, List.set_cons_succ]
              refine wpAnyH_ready (rs := [1, 7]) (by kernel_rfl) (by simp) ?_
              refine (AllReadyH.cons rfl (fun K hK => ?_) (AllReadyH.cons rfl (fun K hK => ?_) AllReadyH.nil))
              · skip
                try simp only [List.getElem_toArray]
                have o0 := O.out.out.at0
                have o1 := O.out.out.at1
                go_simp
                clear o0 o1
                refine hK.out _ _ (by exact ⟨T.out.out.at0, T.out.out.at1⟩) (fun hHeld => ?_)
                clear hK K
                try simp only [List.getElem_toArray, List.getElem_cons_zero, List.getElem_cons_succ, Act.put, List.setIfInBounds_toArray, List.set_cons_zero, List.set_cons_succ]
                refine wpAnyH_take (i := 4) (v := ?_) rfl (by kernel_rfl) (by kernel_rfl) (by kernel_rfl) (fun _ _ _ h => h) (Or.inl ⟨by rfl, ?_⟩) (by assumption) ?_
                rotate_left
                · (intro w hSw; (try dsimp only at hSw); go_simp; (try rw [hwn]); try with_reducible rfl)
                try simp only [List.getElem_toArray, List.getElem_cons_zero, List.getElem_cons_succ, Act.put, List.setIfInBounds_toArray, List.set_cons_zero, List.set_cons_succ]
                refine wpAnyH_ready (rs := [7]) (by kernel_rfl) (by simp) ?_
                refine (AllReadyH.cons rfl (fun K hK => ?_) AllReadyH.nil)
                try simp only [List.getElem_toArray]
                go_simp
                refine (HB1.out _ _ _ (by exact J.out.rd) (by first | exact HBb.out.below B.out (Nat.le_refl _))).mono ?_
                rintro e X1 ⟨a9, c9, rfl, hin, hx⟩
                have hxs := hx.size
                replace T := Lib.hid (T.out.next hx T.out.lt)
                replace O := Lib.hid (O.out.next hx O.out.lt)
                replace Y := Lib.hid (Y.out.next hx Y.out.lt)
                replace B := Lib.hid (B.out.trans (hx.mono B.out.size))
                have JX := Lib.hid (hin.mono (show w.heap.size + 3 ≤ D1.heap.size by omega))
                clear hin hx
                refine hK.out _ _ (by exact ⟨T.out.out.at0, T.out.out.at1⟩) (fun hHeld => ?_)
                clear hK K
                try simp only [List.getElem_toArray, List.getElem_cons_zero, List.getElem_cons_succ, Act.put, List.setIfInBounds_toArray, List.set_cons_zero, List.set_cons_succ]
                refine wpAnyH_take (i := 8) (v := ?_) rfl (by kernel_rfl) (by kernel_rfl) (by kernel_rfl) (fun _ _ _ h => h) (Or.inl ⟨by rfl, ?_⟩) (by assumption) ?_
                rotate_left
                · (intro w hSw; (try dsimp only at hSw); go_simp; try with_reducible rfl)
                try simp only [List.getElem_toArray, List.getElem_cons_zero, List.getElem_cons_succ, Act.put, List.setIfInBounds_toArray, List.set_cons_zero, List.set_cons_succ]
                refine wpAnyH_ready (rs := [9]) (by kernel_rfl) (by simp) ?_
                refine (AllReadyH.cons rfl (fun K hK => ?_) AllReadyH.nil)
                try simp only [List.getElem_toArray]
                have o0 := O.out.out.at0
                have o1 := O.out.out.at1
                have p0 := O.out.out.free0
                have p1 := O.out.out.free1
                go_simp
                clear o0 o1 p0 p1
                replace T := Lib.hid ((T.out.other (p := w.heap.size + 2) (j := 0) (by omega) (.int .i64 ((m : Int) + (m2 : Int)))).other (p := w.heap.size + 2) (j := 1) (by omega) (.slice a9 (toI PD).length c9))
                replace Y := Lib.hid ((Y.out.other (p := w.heap.size + 2) (j := 0) (by omega) (.int .i64 ((m : Int) + (m2 : Int)))).other (p := w.heap.size + 2) (j := 1) (by omega) (.slice a9 (toI PD).length c9))
                replace JX := Lib.hid ((JX.out.setCell_below (a := ⟨w.heap.size + 2, 0, none⟩) (by show w.heap.size + 2 < w.heap.size + 3; omega) (.int .i64 ((m : Int) + (m2 : Int)))).setCell_below (a := ⟨w.heap.size + 2, 1, none⟩) (by show w.heap.size + 2 < w.heap.size + 3; omega) (.slice a9 (toI PD).length c9))
                replace B := Lib.hid ((B.out.setCell (p := ⟨w.heap.size + 2, 0, none⟩) (by show w.heap.size ≤ w.heap.size + 2; omega) (.int .i64 ((m : Int) + (m2 : Int)))).setCell (p := ⟨w.heap.size + 2, 1, none⟩) (by show w.heap.size ≤ w.heap.size + 2; omega) (.slice a9 (toI PD).length c9))
                replace O := Lib.hid ((O.out.setN ((m : Int) + (m2 : Int))).set (.slice a9 (toI PD).length c9))
                have hzN : w.heap.size + 3 ≤ ((X1.setCell ⟨w.heap.size + 2, 0, none⟩ (.int .i64 ((m : Int) + (m2 : Int)))).setCell ⟨w.heap.size + 2, 1, none⟩ (.slice a9 (toI PD).length c9)).heap.size := by simp; omega
                refine hK.out _ _ (by exact ⟨T.out.out.at0, T.out.out.at1⟩) (fun hHeld => ?_)
                clear hK K
                try simp only [List.getElem_toArray, List.getElem_cons_zero, List.getElem_cons_succ, Act.put, List.setIfInBounds_toArray, List.set_cons_zero, List.set_cons_succ]
                refine wpAnyH_done (by kernel_rfl) ?_ _
                go_wp2_with fail
                go_roundw
                case rel => exact ⟨Y.out, B.out, hzN, .inr <| .inr ⟨rfl, ht, a9, c9, by rw [eN, eL]; exact O.out, by rw [eL]; exact JX.out⟩⟩
                case measure => simp [intOf]
              · skip
                try simp only [List.getElem_toArray]
                go_simp
                refine (HB1.out _ _ _ (by exact J.out.rd) (by first | exact HBb.out.below B.out (Nat.le_refl _))).mono ?_
                rintro e X1 ⟨a9, c9, rfl, hin, hx⟩
                have hxs := hx.size
                replace T := Lib.hid (T.out.next hx T.out.lt)
                replace O := Lib.hid (O.out.next hx O.out.lt)
                replace Y := Lib.hid (Y.out.next hx Y.out.lt)
                replace B := Lib.hid (B.out.trans (hx.mono B.out.size))
                have JX := Lib.hid (hin.mono (show w.heap.size + 3 ≤ D1.heap.size by omega))
                clear hin hx
                refine hK.out _ _ (by exact ⟨T.out.out.at0, T.out.out.at1⟩) (fun hHeld => ?_)
                clear hK K
                try simp only [List.getElem_toArray, List.getElem_cons_zero, List.getElem_cons_succ, Act.put, List.setIfInBounds_toArray, List.set_cons_zero, List.set_cons_succ]
                refine wpAnyH_ready (rs := [1]) (by kernel_rfl) (by simp) ?_
                refine (AllReadyH.cons rfl (fun K hK => ?_) AllReadyH.nil)
                try simp only [List.getElem_toArray]
                have o0 := O.out.out.at0
                have o1 := O.out.out.at1
                go_simp
                clear o0 o1
                refine hK.out _ _ (by exact ⟨T.out.out.at0, T.out.out.at1⟩) (fun hHeld => ?_)
                clear hK K
                try simp only [List.getElem_toArray, List.getElem_cons_zero, List.getElem_cons_succ, Act.put, List.setIfInBounds_toArray, List.set_cons_zero, List.set_cons_succ]
                refine wpAnyH_take (i := 4) (v := ?_) rfl (by kernel_rfl) (by kernel_rfl) (by kernel_rfl) (fun _ _ _ h => h) (Or.inl ⟨by rfl, ?_⟩) (by assumption) ?_
                rotate_left
                · (intro w hSw; (try dsimp only at hSw); go_simp; (try rw [hwn]); try with_reducible rfl)
                try simp only [List.getElem_toArray, List.getElem_cons_zero, List.getElem_cons_succ, Act.put, List.setIfInBounds_toArray, List.set_cons_zero, List.set_cons_succ]
                refine wpAnyH_take (i := 8) (v := ?_) rfl (by kernel_rfl) (by kernel_rfl) (by kernel_rfl) (fun _ _ _ h => h) (Or.inl ⟨by rfl, ?_⟩) (by assumption) ?_
                rotate_left
                · (intro w hSw; (try dsimp only at hSw); go_simp; try with_reducible rfl)
                try simp only [List.getElem_toArray, List.getElem_cons_zero, List.getElem_cons_succ, Act.put, List.setIfInBounds_toArray, List.set_cons_zero, List.set_cons_succ]
                refine wpAnyH_ready (rs := [9]) (by kernel_rfl) (by simp) ?_
                refine (AllReadyH.cons rfl (fun K hK => ?_) AllReadyH.nil)
                try simp only [List.getElem_toArray]
                have o0 := O.out.out.at0
                have o1 := O.out.out.at1
                have p0 := O.out.out.free0
                have p1 := O.out.out.free1
                go_simp
                clear o0 o1 p0 p1
                replace T := Lib.hid ((T.out.other (p := w.heap.size + 2) (j := 0) (by omega) (.int .i64 ((m : Int) + (m2 : Int)))).other (p := w.heap.size + 2) (j := 1) (by omega) (.slice a9 (toI PD).length c9))
                replace Y := Lib.hid ((Y.out.other (p := w.heap.size + 2) (j := 0) (by omega) (.int .i64 ((m : Int) + (m2 : Int)))).other (p := w.heap.size + 2) (j := 1) (by omega) (.slice a9 (toI PD).length c9))
                replace JX := Lib.hid ((JX.out.setCell_below (a := ⟨w.heap.size + 2, 0, none⟩) (by show w.heap.size + 2 < w.heap.size + 3; omega) (.int .i64 ((m : Int) + (m2 : Int)))).setCell_below (a := ⟨w.heap.size + 2, 1, none⟩) (by show w.heap.size + 2 < w.heap.size + 3; omega) (.slice a9 (toI PD).length c9))
                replace B := Lib.hid ((B.out.setCell (p := ⟨w.heap.size + 2, 0, none⟩) (by show w.heap.size ≤ w.heap.size + 2; omega) (.int .i64 ((m : Int) + (m2 : Int)))).setCell (p := ⟨w.heap.size + 2, 1, none⟩) (by show w.heap.size ≤ w.heap.size + 2; omega) (.slice a9 (toI PD).length c9))
                replace O := Lib.hid ((O.out.setN ((m : Int) + (m2 : Int))).set (.slice a9 (toI PD).length c9))
                have hzN : w.heap.size + 3 ≤ ((X1.setCell ⟨w.heap.size + 2, 0, none⟩ (.int .i64 ((m : Int) + (m2 : Int)))).setCell ⟨w.heap.size + 2, 1, none⟩ (.slice a9 (toI PD).length c9)).heap.size := by simp; omega
                refine hK.out _ _ (by exact ⟨T.out.out.at0, T.out.out.at1⟩) (fun hHeld => ?_)
                clear hK K
                try simp only [List.getElem_toArray, List.getElem_cons_zero, List.getElem_cons_succ, Act.put, List.setIfInBounds_toArray, List.set_cons_zero, List.set_cons_succ]
                refine wpAnyH_done (by kernel_rfl) ?_ _
                go_wp2_with fail
                go_roundw
                case rel => exact ⟨Y.out, B.out, hzN, .inr <| .inr ⟨rfl, ht, a9, c9, by rw [eN, eL]; exact O.out, by rw [eL]; exact JX.out⟩⟩
                case measure => simp [intOf]
          · have ht : twoP (m : Int) (toI ns) (m2 : Int) (toI ms) = false := by rw [twoP, HVa.out, hvb, decide_eq_false hs]; rfl
            have hn5 : (5 : Int) < (m : Int) + (m2 : Int) := by omega
            have hn6 : decide ((5 : Int) < (m : Int) + (m2 : Int)) = true := decide_eq_true hn5
            clear hvb hcb hs
            have h0 := (B.out.cell (p := ⟨H, 0, none⟩) hHlt).trans HC0.out
            have h1 := (B.out.cell (p := ⟨H, 1, none⟩) hHlt).trans HC1.out
            have h2 := (B.out.cell (p := ⟨H, 2, none⟩) hHlt).trans HC2.out
            have h3 := (B.out.cell (p := ⟨H, 3, none⟩) hHlt).trans HC3.out
            have T := Lib.hid (Bx.new (m2 : Int) (.slice b (toI ms).length cb) W1)
            replace Y := Lib.hid (Y.out.alloc (Obj.cells #[.int .i64 (m2 : Int), .slice b (toI ms).length cb] 25))
            replace O := Lib.hid (O.out.alloc (Obj.cells #[.int .i64 (m2 : Int), .slice b (toI ms).length cb] 25))
            replace J := Lib.hid (J.out.alloc (Obj.cells #[.int .i64 (m2 : Int), .slice b (toI ms).length cb] 25))
            replace B := Lib.hid (B.out.alloc B.out.size (Obj.cells #[.int .i64 (m2 : Int), .slice b (toI ms).length cb] 25))
            have HZ := Lib.hid (show (W1.alloc (Obj.cells #[.int .i64 (m2 : Int), .slice b (toI ms).length cb] 25)).heap.size = W1.heap.size + 1 by simp)
            go_wp2_with fail
            clear h0 h1 h2 h3
            generalize (W1.alloc (Obj.cells #[.int .i64 (m2 : Int), .slice b (toI ms).length cb] 25)) = V1 at *
            generalize hT1 : W1.heap.size = T1 at *
            have hv1 : T1 < V1.heap.size := by have := HZ.out; omega
            clear HZ
            refine (HVB.out _ (by exact HBb.out.below B.out (Nat.le_refl _))).mono ?_
            rintro e U1 ⟨rfl, hx⟩
            have hu1 := hx.size
            replace T := Lib.hid (T.out.next hx T.out.lt)
            replace Y := Lib.hid (Y.out.next hx Y.out.lt)
            replace O := Lib.hid (O.out.next hx O.out.lt)
            replace J := Lib.hid (J.out.below hx (Nat.le_refl _))
            replace B := Lib.hid (B.out.trans (hx.mono B.out.size))
            clear hx
            have t0 := T.out.out.at0
            have t1 := T.out.out.at1
            have o0 := O.out.out.at0
            have o1 := O.out.out.at1
            have r0 := Y.out.out.at0
            have r1 := Y.out.out.at1
            have q0 := Y.out.out.free0
            have q1 := Y.out.out.free1
            go_wp2_with fail
            refine bodyPost_ret (v := .tuple #[.agg #[.int .i64 0, .slice none 0 0], .bool false]) (by simp [results, Tryd.results98, go_sem, r0, r1]) rfl ?_
            rw [pdN_no ht, pdL_no ht, ht]
            refine ⟨none, 0, rfl, Ints.nil _ _, ?_⟩
            have hb0 := B.out
            clear r0 r1 q0 q1 t0 t1 o0 o1
            go_grown
        · rw [Bool.not_eq_true] at hvb
          have ht : twoP (m : Int) (toI ns) nb ys = false := by rw [twoP, HVa.out, hvb]; rfl
          rw [hvb] at HVB
          clear hvb
          have h0 := (B.out.cell (p := ⟨H, 0, none⟩) hHlt).trans HC0.out
          have h1 := (B.out.cell (p := ⟨H, 1, none⟩) hHlt).trans HC1.out
          have h2 := (B.out.cell (p := ⟨H, 2, none⟩) hHlt).trans HC2.out
          have h3 := (B.out.cell (p := ⟨H, 3, none⟩) hHlt).trans HC3.out
          have T := Lib.hid (Bx.new nb (.slice b ys.length cb) W1)
          replace Y := Lib.hid (Y.out.alloc (Obj.cells #[.int .i64 nb, .slice b ys.length cb] 25))
          replace O := Lib.hid (O.out.alloc (Obj.cells #[.int .i64 nb, .slice b ys.length cb] 25))
          replace J := Lib.hid (J.out.alloc (Obj.cells #[.int .i64 nb, .slice b ys.length cb] 25))
          replace B := Lib.hid (B.out.alloc B.out.size (Obj.cells #[.int .i64 nb, .slice b ys.length cb] 25))
          have HZ := Lib.hid (show (W1.alloc (Obj.cells #[.int .i64 nb, .slice b ys.length cb] 25)).heap.size = W1.heap.size + 1 by simp)
          go_wp2_with fail
          clear h0 h1 h2 h3
          generalize (W1.alloc (Obj.cells #[.int .i64 nb, .slice b ys.length cb] 25)) = V1 at *
          generalize hT1 : W1.heap.size = T1 at *
          have hv1 : T1 < V1.heap.size := by have := HZ.out; omega
          clear HZ
          refine (HVB.out _ (by exact HBb.out.below B.out (Nat.le_refl _))).mono ?_
          rintro e U1 ⟨rfl, hx⟩
          have hu1 := hx.size
          replace T := Lib.hid (T.out.next hx T.out.lt)
          replace Y := Lib.hid (Y.out.next hx Y.out.lt)
          replace O := Lib.hid (O.out.next hx O.out.lt)
          replace J := Lib.hid (J.out.below hx (Nat.le_refl _))
          replace B := Lib.hid (B.out.trans (hx.mono B.out.size))
          clear hx
          have t0 := T.out.out.at0
          have t1 := T.out.out.at1
          have o0 := O.out.out.at0
          have o1 := O.out.out.at1
          have r0 := Y.out.out.at0
          have r1 := Y.out.out.at1
          have q0 := Y.out.out.free0
          have q1 := Y.out.out.free1
          go_wp2_with fail
          refine bodyPost_ret (v := .tuple #[.agg #[.int .i64 0, .slice none 0 0], .bool false]) (by simp [results, Tryd.results98, go_sem, r0, r1]) rfl ?_
          rw [pdN_no ht, pdL_no ht, ht]
          refine ⟨none, 0, rfl, Ints.nil _ _, ?_⟩
          have hb0 := B.out
          clear r0 r1 q0 q1 t0 t1 o0 o1
          go_grown
      · have O := Lib.hid hO
        have J := Lib.hid hJ
        clear hO hJ
        obtain ⟨W2, hWr⟩ : ∃ w', w' = wr := ⟨_, rfl⟩
        subst hWr
        have o0 := O.out.out.at0
        have o1 := O.out.out.at1
        have r0 := Y.out.out.at0
        have r1 := Y.out.out.at1
        have q0 := Y.out.out.free0
        have q1 := Y.out.out.free1
        go_wp2_with fail
        refine bodyPost_ret (v := .tuple #[.agg #[.int .i64 (pdN (m : Int) (toI ns) nb ys), .slice a19 (pdL (m : Int) (toI ns) nb ys).length c19], .bool true]) (by simp [results, Tryd.results98, go_sem, r0, r1]) rfl ?_
        rw [ht]
        refine ⟨a19, c19, rfl, ?_, ?_⟩
        · refine Ints.mono (B := w.heap.size + 3) ?_ (by omega)
          repeat (refine Ints.setCell_below ?_ (by simp; try omega) _)
          exact J.out
        · have hb0 := B.out
          clear r0 r1 q0 q1 o0 o1
          go_grown
  · rw [Bool.not_eq_true] at hva
    have ht : twoP na xs nb ys = false := by rw [twoP, hva]; rfl
    rw [pdN_no ht, pdL_no ht, ht]
    rw [hva] at HVA
    clear ht hva
    go_enter Tryd.func98, Tryd.ntmps98
    go_wp2_with fail
    generalize (((w.alloc (Obj.cells #[.int .i64 0, .slice none 0 0] 25)).alloc (Obj.cells #[.int .i64 0] 3)).alloc (Obj.cells #[.int .i64 0, .slice (some ⟨w.heap.size + 1, 0, none⟩) 1 1] 25)) = W0 at *
    have hw0 : w.heap.size + 3 ≤ W0.heap.size := Nat.le_of_eq HZ.out.symm
    clear HZ
    go_loopw [11] (fun i wr => Bx 0 (.slice none 0 0) w.heap.size wr ∧ Below w.heap.size w wr ∧ w.heap.size + 3 ≤ wr.heap.size ∧ (i = .int .i64 0 ∧ Bx 0 (.slice (some ⟨w.heap.size + 1, 0, none⟩) 1 1) (w.heap.size + 2) wr ∧ Ints (w.heap.size + 1) wr (.slice (some ⟨w.heap.size + 1, 0, none⟩) 1 1) [0])) (fun i _ => 2 - (intOf i).toNat)
    case atStart => exact ⟨Y.out, B.out, hw0, id ⟨rfl, O.out, J.out⟩⟩
    case round =>
      obtain ⟨hY, hB, hsz, hst⟩ := hrel
      clear Y O J B
      have Y := Lib.hid hY
      have B := Lib.hid hB
      clear hY hB
      obtain ⟨rfl, hO, hJ⟩ := hst
      · have O := Lib.hid hO
        have J := Lib.hid hJ
        clear hO hJ
        obtain ⟨W0, hWr⟩ : ∃ w', w' = wr := ⟨_, rfl⟩
        subst hWr
        have h0 := (B.out.cell (p := ⟨H, 0, none⟩) hHlt).trans HC0.out
        have h1 := (B.out.cell (p := ⟨H, 1, none⟩) hHlt).trans HC1.out
        have h2 := (B.out.cell (p := ⟨H, 2, none⟩) hHlt).trans HC2.out
        have h3 := (B.out.cell (p := ⟨H, 3, none⟩) hHlt).trans HC3.out
        have T := Lib.hid (Bx.new na (.slice a xs.length ca) W0)
        replace Y := Lib.hid (Y.out.alloc (Obj.cells #[.int .i64 na, .slice a xs.length ca] 25))
        replace O := Lib.hid (O.out.alloc (Obj.cells #[.int .i64 na, .slice a xs.length ca] 25))
        replace J := Lib.hid (J.out.alloc (Obj.cells #[.int .i64 na, .slice a xs.length ca] 25))
        replace B := Lib.hid (B.out.alloc B.out.size (Obj.cells #[.int .i64 na, .slice a xs.length ca] 25))
        have HZ := Lib.hid (show (W0.alloc (Obj.cells #[.int .i64 na, .slice a xs.length ca] 25)).heap.size = W0.heap.size + 1 by simp)
        go_wp2_with fail
        clear h0 h1 h2 h3
        generalize (W0.alloc (Obj.cells #[.int .i64 na, .slice a xs.length ca] 25)) = V0 at *
        generalize hT0 : W0.heap.size = T0 at *
        have hv0 : T0 < V0.heap.size := by have := HZ.out; omega
        clear HZ
        refine (HVA.out _ (by exact HA.out.below B.out (Nat.le_refl _))).mono ?_
        rintro e U0 ⟨rfl, hx⟩
        have hu0 := hx.size
        replace T := Lib.hid (T.out.next hx T.out.lt)
        replace Y := Lib.hid (Y.out.next hx Y.out.lt)
        replace O := Lib.hid (O.out.next hx O.out.lt)
        replace J := Lib.hid (J.out.below hx (Nat.le_refl _))
        replace B := Lib.hid (B.out.trans (hx.mono B.out.size))
        clear hx
        have t0 := T.out.out.at0
        have t1 := T.out.out.at1
        have o0 := O.out.out.at0
        have o1 := O.out.out.at1
        have r0 := Y.out.out.at0
        have r1 := Y.out.out.at1
        have q0 := Y.out.out.free0
        have q1 := Y.out.out.free1
        go_wp2_with fail
        refine bodyPost_ret (v := .tuple #[.agg #[.int .i64 0, .slice none 0 0], .bool false]) (by simp [results, Tryd.results98, go_sem, r0, r1]) rfl ?_
        refine ⟨none, 0, rfl, Ints.nil _ _, ?_⟩
        have hb0 := B.out
        clear r0 r1 q0 q1 t0 t1 o0 o1
        go_grown

set_option maxRecDepth 100000 in
set_option maxHeartbeats 3200000 in
theorem implProductClass (na : Int) (va : Value) (xs : List Int) (nb : Int) (vb : Value) (ys : List Int) (w : World) (ha : Rd w va xs) (hb : Rd w vb ys) :
    Calls Tryd.prog 49 #[.agg #[.int .i64 na, va], .agg #[.int .i64 nb, vb]] w (RetCB (pdN na xs nb ys) (pdL na xs nb ys) (twoP na xs nb ys) w) := by
  have HA := Lib.hid ha
  have HB := Lib.hid hb
  obtain ⟨a, ba, offa, ca, rfl, _, _, _⟩ := ha
  obtain ⟨b, bb, offb, cb, rfl, _, _, _⟩ := hb
  have B := Lib.hid (show Below w.heap.size w ((((w.alloc (Obj.cells #[.int .i64 na, .slice a xs.length ca] 25)).alloc (Obj.cells #[.int .i64 nb, .slice b ys.length cb] 25)).alloc (Obj.cells #[.int .i64 0, .slice none 0 0] 25)).alloc (Obj.cells #[.int .i64 na, .slice a xs.length ca, .int .i64 nb, .slice b ys.length cb] 25)) from ((((Below.refl _ _).alloc (Nat.le_refl _) _).alloc (by simp) _).alloc (by simp; omega) _).alloc (by simp; omega) _)
  have HZ := Lib.hid (show ((((w.alloc (Obj.cells #[.int .i64 na, .slice a xs.length ca] 25)).alloc (Obj.cells #[.int .i64 nb, .slice b ys.length cb] 25)).alloc (Obj.cells #[.int .i64 0, .slice none 0 0] 25)).alloc (Obj.cells #[.int .i64 na, .slice a xs.length ca, .int .i64 nb, .slice b ys.length cb] 25)).heap.size = w.heap.size + 4 by simp)
  have Y := Lib.hid (show Bx 0 (.slice none 0 0) (w.heap.size + 2) ((((w.alloc (Obj.cells #[.int .i64 na, .slice a xs.length ca] 25)).alloc (Obj.cells #[.int .i64 nb, .slice b ys.length cb] 25)).alloc (Obj.cells #[.int .i64 0, .slice none 0 0] 25)).alloc (Obj.cells #[.int .i64 na, .slice a xs.length ca, .int .i64 nb, .slice b ys.length cb] 25)) from (show Bx 0 (.slice none 0 0) (w.heap.size + 2) (((w.alloc (Obj.cells #[.int .i64 na, .slice a xs.length ca] 25)).alloc (Obj.cells #[.int .i64 nb, .slice b ys.length cb] 25)).alloc (Obj.cells #[.int .i64 0, .slice none 0 0] 25)) from heap_alloc_at (by simp)).alloc _)
  have E0 := Lib.hid (show ((((w.alloc (Obj.cells #[.int .i64 na, .slice a xs.length ca] 25)).alloc (Obj.cells #[.int .i64 nb, .slice b ys.length cb] 25)).alloc (Obj.cells #[.int .i64 0, .slice none 0 0] 25)).alloc (Obj.cells #[.int .i64 na, .slice a xs.length ca, .int .i64 nb, .slice b ys.length cb] 25)).cell? ⟨w.heap.size + 3, 0, none⟩ = some (.int .i64 na) by rw [World.cell?_alloc_at _ _ _ _ (by simp)]; rfl)
  have E1 := Lib.hid (show ((((w.alloc (Obj.cells #[.int .i64 na, .slice a xs.length ca] 25)).alloc (Obj.cells #[.int .i64 nb, .slice b ys.length cb] 25)).alloc (Obj.cells #[.int .i64 0, .slice none 0 0] 25)).alloc (Obj.cells #[.int .i64 na, .slice a xs.length ca, .int .i64 nb, .slice b ys.length cb] 25)).cell? ⟨w.heap.size + 3, 1, none⟩ = some (.slice a xs.length ca) by rw [World.cell?_alloc_at _ _ _ _ (by simp)]; rfl)
  have E2 := Lib.hid (show ((((w.alloc (Obj.cells #[.int .i64 na, .slice a xs.length ca] 25)).alloc (Obj.cells #[.int .i64 nb, .slice b ys.length cb] 25)).alloc (Obj.cells #[.int .i64 0, .slice none 0 0] 25)).alloc (Obj.cells #[.int .i64 na, .slice a xs.length ca, .int .i64 nb, .slice b ys.length cb] 25)).cell? ⟨w.heap.size + 3, 2, none⟩ = some (.int .i64 nb) by rw [World.cell?_alloc_at _ _ _ _ (by simp)]; rfl)
  have E3 := Lib.hid (show ((((w.alloc (Obj.cells #[.int .i64 na, .slice a xs.length ca] 25)).alloc (Obj.cells #[.int .i64 nb, .slice b ys.length cb] 25)).alloc (Obj.cells #[.int .i64 0, .slice none 0 0] 25)).alloc (Obj.cells #[.int .i64 na, .slice a xs.length ca, .int .i64 nb, .slice b ys.length cb] 25)).cell? ⟨w.heap.size + 3, 3, none⟩ = some (.slice b ys.length cb) by rw [World.cell?_alloc_at _ _ _ _ (by simp)]; rfl)
  have HL := Lib.hid (fun W ha hb c0 c1 c2 c3 => implInARow na (.slice a xs.length ca) xs nb (.slice b ys.length cb) ys (w.heap.size + 3) W ha hb c0 c1 c2 c3)
  generalize pdN na xs nb ys = N at *
  generalize pdL na xs nb ys = R at *
  generalize twoP na xs nb ys = K at *
  go_enter Tryd.func49, Tryd.ntmps49
  go_wp2_with fail
  generalize ((((w.alloc (Obj.cells #[.int .i64 na, .slice a xs.length ca] 25)).alloc (Obj.cells #[.int .i64 nb, .slice b ys.length cb] 25)).alloc (Obj.cells #[.int .i64 0, .slice none 0 0] 25)).alloc (Obj.cells #[.int .i64 na, .slice a xs.length ca, .int .i64 nb, .slice b ys.length cb] 25)) = W at *
  have hz0 : w.heap.size + 4 ≤ W.heap.size := by have := HZ.out; omega
  refine (HL.out _ (HA.out.below B.out (Nat.le_refl _)) (HB.out.below B.out (Nat.le_refl _)) E0.out E1.out E2.out E3.out).mono ?_
  rintro e w2 ⟨a2, c2, rfl, hin2, hb2⟩
  have Y2 := Lib.hid (Y.out.next hb2 (by omega))
  have B2 := Lib.hid (B.out.trans (hb2.mono (by omega)))
  have I2 := Lib.hid hin2
  clear hin2 hb2
  have r0 := Y2.out.out.at0
  have r1 := Y2.out.out.at1
  have q0 := Y2.out.out.free0
  have q1 := Y2.out.out.free1
  go_wp2_with fail
  refine bodyPost_ret (v := .tuple #[.agg #[.int .i64 N, .slice a2 R.length c2], .bool K]) (by simp [results, Tryd.results49, go_sem, r0, r1]) rfl ?_
  refine ⟨a2, c2, rfl, ?_, ?_⟩
  · refine Ints.mono (B := W.heap.size) ?_ (by omega)
    repeat (refine Ints.setCell_below ?_ (by simp; try omega) _)
    exact I2.out
  · have hb0 := B2.out
    clear r0 r1 q0 q1
    go_grown


end Go.Proofs.YtnoppclajhfnjabDoor
