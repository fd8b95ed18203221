/- EulerOf, the program's and the model's. Conditions: Sets is a slice of ints. -/
import Derived.Test.YtnmilfkocheaiaaGreatDoorCub
import Derived.Test.YtnmilfkocheaiaaGreatDoorCubS
import Derived.Test.YtnmilfkocheaiaaGreatDoorZC
namespace Go.Proofs.YtnmilfkocheaiaaGreatDoor
open Go.RowKit

/-- the turns of the first k cubes -/
def eulTo (es : List (Int × Int)) : Nat → Int
  | 0 => 0
  | k + 1 => eulTo es k + if pc (es.getD k (0, 0)).2.toNat % 2 = 0 then 1 else -1
theorem eulTo_succ (es : List (Int × Int)) (k : Nat) : eulTo es (k + 1) = eulTo es k + if pc (es.getD k (0, 0)).2.toNat % 2 = 0 then 1 else -1 := rfl
theorem eulTo_bd (es : List (Int × Int)) (k : Nat) : -(k : Int) ≤ eulTo es k ∧ eulTo es k ≤ k := by
  induction k with
  | zero => simp [eulTo]
  | succ k ih =>
    rw [eulTo_succ]
    split <;> omega
def eulB (n : Int) (zs : List Int) : Int := eulTo (cubL n zs) (cubL n zs).length
theorem eulB_bad {n : Int} {zs : List Int} (h : vldB n zs = false) : eulB n zs = 0 := by rw [eulB, cubL_bad h]; rfl
theorem eulB_in {m : Nat} {ns : List Nat} (h : vldB (m : Int) (toI ns) = true) : eulB (m : Int) (toI ns) = eulTo (cbTo ns m ns.length) (cbTo ns m ns.length).length := by rw [eulB, cubL_in h]
theorem getD_mem {α : Type} {l : List α} {k : Nat} {d : α} (h : k < l.length) : l.getD k d ∈ l := by
  rw [List.getD_eq_getElem?_getD, List.getElem?_eq_getElem h]
  exact List.getElem_mem h
/-- the sets along which cubes lie are sets -/
theorem cub_set {n : Int} {zs : List Int} {k : Nat} (h : k < (cubL n zs).length) : ∃ b : Nat, b < 32 ∧ ((cubL n zs).getD k (0, 0)).2 = (b : Int) := by
  have hm := getD_mem (d := ((0 : Int), (0 : Int))) h
  generalize (cubL n zs).getD k (0, 0) = e at *
  unfold cubL at hm
  split at hm
  · rename_i hv
    obtain ⟨m, ns, rfl, rfl, hc⟩ := vldB_cls hv
    rw [toNat_toI, Int.toNat_natCast, cbTo, List.mem_flatMap] at hm
    obtain ⟨a, _, ha⟩ := hm
    rw [cbIn, List.mem_map] at ha
    obtain ⟨b, hb, rfl⟩ := ha
    have := List.mem_range.1 (List.mem_filter.1 hb).1
    have := pow_le_32 hc.pts
    exact ⟨b, by omega, rfl⟩
  · cases hm

set_option maxHeartbeats 6400000 in
set_option maxRecDepth 100000 in
theorem implEulerOf (n : Int) (v : Value) (zs : List Int) (w : World) (h : Rd w v zs) :
    Calls Tryz.prog 75 #[.agg #[.int .i64 n, v]] w fun e w' => e = .returned (.int .i64 (eulB n zs)) ∧ Below w.heap.size w w' := by
  have H := Lib.hid h
  have HC := Lib.hid (fun v w h => implCubesOf n v zs w h)
  have HB := Lib.hid (fun k h => cub_set (n := n) (zs := zs) (k := k) h)
  have hlen := cubL_len n zs
  have HT := Lib.hid (show eulB n zs = eulTo (cubL n zs) (cubL n zs).length from rfl)
  generalize cubL n zs = E at *
  obtain ⟨a, b, off, cap, rfl, _, _, _⟩ := h
  have B0 := Lib.hid (Box.made n (.slice a zs.length cap) w 47)
  have c0 := B0.out.at0
  have c1 := B0.out.at1
  go_enter Tryz.func75, Tryz.ntmps75
  go_wp2_with fail
  refine (HC.out _ _ (H.out.below B0.out.below (Nat.le_refl _))).mono ?_
  rintro e w1 ⟨a1, cap1, rfl, hin, hb⟩
  have hs1 : w.heap.size < w1.heap.size := by have := hb.size; simp at this; omega
  have B1 := Lib.hid (B0.out.next (by simp) hb)
  obtain ⟨a', b', off', cap', e9, e1, e3, e5⟩ := hin.rd
  simp only [Value.slice.injEq, true_and] at e9
  obtain ⟨rfl, rfl⟩ := e9
  have E1 := Lib.hid e1
  have E5 := Lib.hid e5
  clear hb hin c0 c1 e1 e5
  generalize hL : E.length = L at *
  go_wp2_with fail
  go_loopw [9, 3] (fun i s wr => ∃ k : Nat, k ≤ L ∧ i = .int .i64 k ∧ s = .int .i64 (eulTo E k) ∧ Below w1.heap.size w1 wr) (fun i _ _ => L - (intOf i).toNat)
  case atStart => exact ⟨0, Nat.zero_le _, rfl, rfl, Below.refl _ _⟩
  case round =>
    obtain ⟨k, hk, rfl, rfl, hbe⟩ := hrel
    have HBE := Lib.hid hbe
    have hz := hbe.size
    clear hbe
    by_cases hlt : k < L
    · obtain ⟨rfl, hbl⟩ := E1.out (by omega)
      have hc0 := (HBE.out.cell (p := ⟨b', off' + k * 2, none⟩) hbl).trans (E5.out k hlt).1
      have hc1 := (HBE.out.cell (p := ⟨b', off' + k * 2 + 1, none⟩) hbl).trans (E5.out k hlt).2
      obtain ⟨x, hx32, hx⟩ := HB.out k hlt
      have hs := eulTo_succ E k
      have hbd := eulTo_bd E k
      rw [hx] at hc1
      rw [hx, Int.toNat_natCast] at hs
      generalize (E.getD k (0, 0)).1 = p at *
      have HO := Lib.hid (fun w => implSizeOf x hx32 w)
      have hp5 := pc_le5 x
      have hkI : (k : Int) < (L : Int) := by omega
      have EX := Lib.hid (show Below wr.heap.size wr (wr.alloc (Obj.cells #[.int .i64 p, .int .i64 (x : Int)] 78)) from (Below.refl _ _).alloc (Nat.le_refl _) _)
      have hx1 : (wr.alloc (Obj.cells #[.int .i64 p, .int .i64 (x : Int)] 78)).cell? ⟨wr.heap.size, 1, none⟩ = some (.int .i64 (x : Int)) := by simp [go_sem]
      generalize eulTo E k = S at *
      generalize pc x = r at *
      go_wp2_with fail
      refine (HO.out _).mono ?_
      rintro e w9 ⟨rfl, hw9⟩
      subst w9
      have hw1 : IntKind.i64.wrap (S + 1) = S + 1 := by rw [IntKind.wrap_i64]; omega
      have hw2 : IntKind.i64.wrap (S - 1) = S - 1 := by rw [IntKind.wrap_i64]; omega
      rcases (show r = 0 ∨ r = 1 ∨ r = 2 ∨ r = 3 ∨ r = 4 ∨ r = 5 by omega) with rfl | rfl | rfl | rfl | rfl | rfl
      all_goals
        go_wp2_with fail
        go_roundw
        case rel => exact ⟨k + 1, by omega, by go_num, by rw [hs]; first | rfl | (simp; omega) | (congr 1), HBE.out.trans (EX.out.mono hz)⟩
        case measure => simp [intOf]; omega
    · obtain rfl : k = L := by omega
      go_wp2_with fail
      go_ret
      exact ⟨ret_int HT.out.symm, (B1.out.next hs1 HBE.out).below⟩

set_option maxHeartbeats 6400000 in
set_option maxRecDepth 100000 in
theorem specEulerOf (n : Int) (v : Value) (zs : List Int) (w : World) (h : Rd w v zs) :
    Calls Tryz.prog 34 #[.agg #[.int .i64 n, v]] w fun e w' => e = .returned (.int .i64 (eulB n zs)) ∧ Below w.heap.size w w' := by
  have H := Lib.hid h
  obtain ⟨a, b, off, cap, rfl, _, _, _⟩ := h
  have B0 := Lib.hid (Box.made n (.slice a zs.length cap) w 47)
  by_cases hv : vldB n zs = true
  · obtain ⟨m, ns, rfl, rfl, hc⟩ := vldB_cls hv
    have HV := Lib.hid hv
    have hin0 := cubL_in hv
    have HB := Lib.hid (fun k h => cub_set (n := (m : Int)) (zs := toI ns) (k := k) h)
    have HQ := Lib.hid (fun w h => specCubes m (.slice a (toI ns).length cap) ns w hc h)
    have hlen := cubL_len (m : Int) (toI ns)
    have HT := Lib.hid (show eulB (m : Int) (toI ns) = eulTo (cubL (m : Int) (toI ns)) (cubL (m : Int) (toI ns)).length from rfl)
    rw [← hin0] at HQ
    generalize cubL (m : Int) (toI ns) = E at *
    clear hv hc hin0
    go_enter Tryz.func34, Tryz.ntmps34
    go_wp2_with fail
    refine (specValid m _ (toI ns) _ (H.out.below (k := w.heap.size) (by go_grown) (Nat.le_refl _))).mono ?_
    rintro e w0 ⟨rfl, hb⟩
    rw [HV.out]
    have hs0 : w.heap.size < w0.heap.size := by have := hb.size; simp at this; omega
    have B2 := Lib.hid (B0.out.next (by simp) hb)
    clear hb
    have c0 := B2.out.at0
    have c1 := B2.out.at1
    go_wp2_with fail
    refine (HQ.out _ (H.out.below B2.out.below (Nat.le_refl _))).mono ?_
    rintro e w1 ⟨a1, cap1, rfl, hin, hb⟩
    have hs1 : w.heap.size < w1.heap.size := by have := hb.size; omega
    have B1 := Lib.hid (B2.out.next hs0 hb)
    obtain ⟨a', b', off', cap', e9, e1, e3, e5⟩ := hin.rd
    simp only [Value.slice.injEq, true_and] at e9
    obtain ⟨rfl, rfl⟩ := e9
    have E1 := Lib.hid e1
    have E5 := Lib.hid e5
    clear hb hin c0 c1 e1 e5
    generalize hL : E.length = L at *
    go_wp2_with fail
    go_loopw [5, 3] (fun i s wr => ∃ k : Nat, k ≤ L ∧ i = .int .i64 k ∧ s = .int .i64 (eulTo E k) ∧ wr = w1) (fun i _ _ => L - (intOf i).toNat)
    case atStart => exact ⟨0, Nat.zero_le _, rfl, rfl, rfl⟩
    case round =>
      obtain ⟨k, hk, rfl, rfl, hwr⟩ := hrel
      subst hwr
      by_cases hlt : k < L
      · obtain ⟨rfl, hbl⟩ := E1.out (by omega)
        have hc1 := (E5.out k hlt).2
        obtain ⟨x, hx32, hx⟩ := HB.out k hlt
        have hs := eulTo_succ E k
        have hbd := eulTo_bd E k
        rw [hx] at hc1
        rw [hx, Int.toNat_natCast] at hs
        have HO := Lib.hid (fun w => specSize x hx32 w)
        have hp5 := pc_le5 x
        have hkI : (k : Int) < (L : Int) := by omega
        generalize eulTo E k = S at *
        generalize pc x = r at *
        go_wp2_with fail
        refine (HO.out _).mono ?_
        rintro e w9 ⟨rfl, hw9⟩
        subst w9
        have hw1 : IntKind.i64.wrap (S + 1) = S + 1 := by rw [IntKind.wrap_i64]; omega
        rcases (show r = 0 ∨ r = 1 ∨ r = 2 ∨ r = 3 ∨ r = 4 ∨ r = 5 by omega) with rfl | rfl | rfl | rfl | rfl | rfl
        all_goals
          go_wp2_with fail
          go_roundw
          case rel => exact ⟨k + 1, by omega, by go_num, by rw [hs]; first | rfl | (simp; omega) | (congr 1) | (congr 1; go_num), by first | trivial | rfl⟩
          case measure => simp [intOf]; omega
      · obtain rfl : k = L := by omega
        go_wp2_with fail
        go_ret
        exact ⟨ret_int HT.out.symm, B1.out.below⟩
  · have HT := Lib.hid (eulB_bad (by simpa using hv))
    rw [Bool.not_eq_true] at hv
    have HV := Lib.hid hv
    clear hv
    go_enter Tryz.func34, Tryz.ntmps34
    go_wp2_with fail
    refine (specValid n _ zs _ (H.out.below (k := w.heap.size) (by go_grown) (Nat.le_refl _))).mono ?_
    rintro e w1 ⟨rfl, hb⟩
    rw [HV.out]
    have B1 := Lib.hid (B0.out.next (by simp) hb)
    clear hb
    go_wp2_with fail
    go_ret
    exact ⟨ret_int HT.out.symm, B1.out.below⟩

end Go.Proofs.YtnmilfkocheaiaaGreatDoor
