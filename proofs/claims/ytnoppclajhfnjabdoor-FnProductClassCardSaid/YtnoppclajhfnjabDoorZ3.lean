/- CubesOf, the program's. Conditions: Sets is a slice of ints. The model's cubeIn, strongly, IsStrong. Conditions: Sets is a slice of ints. CubesOf, the model's. Conditions: Sets is a slice of ints. EulerOf, the program's and the model's. Conditions: Sets is a slice of ints. CubeCounts, the program's and the model's. Conditions: Sets is a slice of ints. The counts of cubes: how many sets, how many edges, how many in all, and in turns. No program. Euler's number of a class: by the last point, of extremal classes 1, of flipped ones the same. No program. Products of classes: dimensions, mistakes, points to teach and Euler's number: mathematics. No conditions. -/
import Derived.Deep.Cut
import Derived.Test.YtnoppclajhfnjabDoorMstM
import Derived.Test.YtnoppclajhfnjabDoorZ2
import Derived.Test.YtnoppclajhfnjabDoorZ4
import Derived.Test.YtnoppclajhfnjabDoorZA
import Derived.Test.YtnoppclajhfnjabDoorZB
import Derived.Test.YtnoppclajhfnjabDoorZC
import Derived.Test.YtnoppclajhfnjabDoorZD
import Derived.Test.YtnoppclajhfnjabDoorZE
import Derived.Test.YtnoppclajhfnjabDoorZH
import Derived.Test.YtnoppclajhfnjabDoorZY
namespace Go.Proofs.YtnoppclajhfnjabDoor
open Go.RowKit

set_option maxHeartbeats 6400000 in
set_option maxRecDepth 100000 in
theorem implCubesOf (n : Int) (v : Value) (zs : List Int) (w : World) (h : Rd w v zs) :
    Calls Tryd.prog 104 #[.agg #[.int .i64 n, v]] w (RetPr (cubL n zs) w) := by
  have H := Lib.hid h
  obtain ⟨a, b, off, cap, rfl, h1, h3, h5⟩ := h
  by_cases hv : vldB n zs = true
  · obtain ⟨m, ns, rfl, rfl, hc⟩ := vldB_cls hv
    have hm := hc.pts
    rw [toI_length] at H h1 h3 h5 ⊢
    have HT := Lib.hid (cubL_in hv)
    have HV := Lib.hid hv
    have HC := Lib.hid hc
    have hl := hc.length
    have hw := wrap_pow m hm
    have HW := Lib.hid hw.1
    have hw2 := hw.2
    have HP := Lib.hid (show ((2 ^ m : Nat) : Int) = (2 : Int) ^ m by simp)
    have H5 := Lib.hid h5
    have H1 := Lib.hid h1
    have HLen := Lib.hid (fun j => cbTo_len (ns := ns) hm j)
    clear hv hc h1 h5 hw
    go_enter Tryd.func104, Tryd.ntmps104
    go_wp2_with fail
    refine (implValid m _ (toI ns) _ (H.out.below (k := w.heap.size) (by go_grown) (Nat.le_refl _))).mono ?_
    rintro e w1 ⟨rfl, hb⟩
    rw [HV.out]
    have B1 := Lib.hid ((Box.made m (.slice a ns.length cap) w _).next (by simp) hb)
    have hs1 : w.heap.size < w1.heap.size := by have := hb.size; simp at this; omega
    clear hb
    have c0 := B1.out.at0
    have c1 := B1.out.at1
    go_wp2_with fail
    refine (implKeysOf m _ ns _ (H.out.below B1.out.below (Nat.le_refl _)) hl HC.out.lt32).mono ?_
    rintro e w2 ⟨rfl, hk2, hb2⟩
    clear c0 c1
    have B2 := Lib.hid (B1.out.next hs1 hb2)
    have HK := Lib.hid hk2
    have hs2 : w.heap.size < w2.heap.size := by have := hb2.size; omega
    clear hb2 B1 hk2
    generalize w1.heap.size + 1 = mb at *
    have c0 := B2.out.at0
    have c1 := B2.out.at1
    go_wp2_with fail
    clear c0 c1
    go_loopw [16, 4] (fun i o wr => ∃ (j : Nat) (a' : Option Addr) (c' : Nat), j ≤ ns.length ∧ i = .int .i64 j ∧ o = .slice a' (cbTo ns m j).length c' ∧ PrS w2.heap.size wr (.slice a' (cbTo ns m j).length c') (cbTo ns m j) ∧ Below w2.heap.size w2 wr) (fun i _ _ => ns.length - (intOf i).toNat)
    case atStart => exact ⟨0, none, 0, Nat.zero_le _, rfl, rfl, PrS.nil _ _, Below.refl _ _⟩
    case round =>
      obtain ⟨j, a', c', hj, rfl, rfl, hin, hbe⟩ := hrel
      have HIN := Lib.hid hin
      have HBE := Lib.hid hbe
      have hzr := hbe.size
      have B3 := Lib.hid (B2.out.next hs2 hbe)
      clear hin hbe
      have c0 := B3.out.at0
      have c1 := B3.out.at1
      by_cases hlt : j < ns.length
      · obtain ⟨rfl, hbl⟩ := H1.out (by omega)
        have hx := (B3.out.below.cell (p := ⟨b, off + j, none⟩) hbl).trans (H5.out j hlt)
        rw [toI_getD] at hx
        have hx32 := HC.out.lt32 _ (getD_of_lt hlt)
        have HS := Lib.hid (cbTo_succ (m := m) hlt)
        have hel := HLen.out j
        generalize ns.getD j 0 = x at *
        generalize cbTo ns m j = E at *
        go_wp2_with fail
        clear c0 c1
        go_loopw [23, 4] (fun i o wq => ∃ (k : Nat) (a' : Option Addr) (c' : Nat), (k : Int) ≤ wrap64 (2 ^ m) ∧ i = .int .i64 k ∧ o = .slice a' (E ++ cbIn ns x k).length c' ∧ PrS w2.heap.size wq (.slice a' (E ++ cbIn ns x k).length c') (E ++ cbIn ns x k) ∧ Below w2.heap.size w2 wq) (fun i _ _ => 40 - (intOf i).toNat)
        case atStart =>
          refine ⟨0, a', c', by omega, rfl, ?_, ?_, HBE.out⟩
          · rw [show cbIn ns x 0 = [] from rfl, List.append_nil]
          · rw [show cbIn ns x 0 = [] from rfl, List.append_nil]; exact HIN.out
        case round =>
          obtain ⟨k, a2, c2, hk, rfl, rfl, hin2, hbf⟩ := hrel
          have HIN2 := Lib.hid hin2
          have HBF := Lib.hid hbf
          have hzq := hbf.size
          clear hin2 hbf HIN
          by_cases hklt : (k : Int) < wrap64 (2 ^ m)
          · have hk32 : k < 32 := by omega
            have hand := i64_and x k (by omega) (by omega)
            have hil := cbIn_len ns x k
            have HQ := Lib.hid (fun w h => implHasCubeAt mb 32 (fun x => decide (x ∈ ns)) x k hx32 hk32 w h)
            have hcy : crn ns k x = true → E ++ cbIn ns x (k + 1) = E ++ cbIn ns x k ++ [((x : Int), (k : Int))] := fun h => by rw [cbIn_yes h, List.append_assoc]
            have hcn : crn ns k x = false → E ++ cbIn ns x (k + 1) = E ++ cbIn ns x k := fun h => by rw [cbIn_no h]
            rw [crn] at hcy hcn
            have HLE := Lib.hid (show (E ++ cbIn ns x k).length ≤ 1000000 by rw [List.length_append]; omega)
            generalize E ++ cbIn ns x k = F at *
            have HKr := Lib.hid (HK.out.below HBF.out HK.out.lt)
            generalize cubTo (fun x => decide (x ∈ ns)) x k (k + 1) = cc at *
            by_cases hxk : x &&& k = 0
            · have hxI : ((x &&& k : Nat) : Int) = 0 := by rw [hxk]; rfl
              rw [hxk, show ((0 : Nat) == 0) = true from rfl, Bool.true_and] at hcy hcn
              go_wp2_with fail
              refine (HQ.out _ HKr.out).mono ?_
              rintro e w9 ⟨rfl, hw9⟩
              subst w9
              cases cc with
              | true =>
                have HCY := Lib.hid (hcy rfl)
                clear hcy hcn
                go_wp2_with (at_builtin; refine wpList_appP rfl (.tmp 36) (.tmp 40) rfl w2.heap.size _ F rfl (by exact HIN2.out.alloc _) _ (x : Int) (k : Int) rfl ⟨by rw [World.cell?_alloc_at _ _ _ _ rfl]; rfl, by rw [World.cell?_alloc_at _ _ _ _ rfl]; rfl⟩ (by exact HLE.out) (by simp; omega) ?_; intro a1 c1 w3 hin3 hb3 hg3; have H13 := Lib.hid (show Below w2.heap.size wr w3 from Below.trans ((Below.refl _ _).alloc (by omega) _) hb3); have I3 := Lib.hid hin3; clear hin3 hb3 hg3)
                go_roundw
                case rel => exact ⟨k + 1, a1, c1, by omega, by go_num, by rw [HCY.out, List.length_append]; rfl, by rw [HCY.out, List.length_append]; exact I3.out, HBF.out.trans H13.out⟩
                case measure => simp [intOf]; omega
              | false =>
                have HCN := Lib.hid (hcn rfl)
                go_wp2_with fail
                go_roundw
                case rel => exact ⟨k + 1, a2, c2, by omega, by go_num, by rw [HCN.out], by rw [HCN.out]; exact HIN2.out, HBF.out⟩
                case measure => simp [intOf]; omega
            · have hxI : ¬ ((x &&& k : Nat) : Int) = 0 := by omega
              have HCN := Lib.hid (hcn (by rw [beq_eq_false_iff_ne.2 hxk]; rfl))
              go_wp2_with fail
              go_roundw
              case rel => exact ⟨k + 1, a2, c2, by omega, by go_num, by rw [HCN.out], by rw [HCN.out]; exact HIN2.out, HBF.out⟩
              case measure => simp [intOf]; omega
          · have hk2 : k = 2 ^ m := by have := HW.out; have := HP.out; omega
            have HS2 := Lib.hid (show cbTo ns m (j + 1) = E ++ cbIn ns x k by rw [HS.out, hk2])
            clear hk2
            generalize E ++ cbIn ns x k = F at *
            go_wp2_with fail
            go_roundw
            case rel => exact ⟨j + 1, a2, c2, by omega, by go_num, by rw [HS2.out], by rw [HS2.out]; exact HIN2.out, HBF.out⟩
            case measure => simp [intOf]; omega
      · obtain rfl : j = ns.length := by omega
        go_wp2_with fail
        go_ret
        exact ⟨a', c', by rw [HT.out]; rfl, by rw [HT.out]; exact HIN.out.mono (by omega), B3.out.below⟩
  · have HT := Lib.hid (show cubL n zs = [] by rw [cubL, if_neg hv])
    rw [Bool.not_eq_true] at hv
    have HV := Lib.hid hv
    clear hv
    go_enter Tryd.func104, Tryd.ntmps104
    go_wp2_with fail
    refine (implValid n _ zs _ (H.out.below (k := w.heap.size) (by go_grown) (Nat.le_refl _))).mono ?_
    rintro e w1 ⟨rfl, hb⟩
    rw [HV.out]
    have B1 := Lib.hid ((Box.made n (.slice a zs.length cap) w _).next (by simp) hb)
    clear hb
    go_wp2_with fail
    go_ret
    rw [HT.out]
    exact ⟨none, 0, rfl, PrS.nil _ _, B1.out.below⟩

end Go.Proofs.YtnoppclajhfnjabDoor

namespace Go.Proofs.YtnoppclajhfnjabDoor
open Go.RowKit

set_option maxRecDepth 100000 in
theorem add_or_fin : ∀ c a : Fin 32, (c : Nat) &&& (a : Nat) = 0 → (c : Nat) + a = c ||| a := by decide
theorem add_or {c a s : Nat} (hc : c < 32) (ha : a < 32) (h : c &&& s = 0) (h2 : a &&& s = a) : c + a = c ||| a := by
  refine add_or_fin ⟨c, hc⟩ ⟨a, ha⟩ ?_
  show c &&& a = 0
  rw [← h2, Nat.and_comm a s, ← Nat.and_assoc, h, Nat.zero_and]


def spTo (ns : List Nat) (s k : Nat) : Bool := (List.range k).any (crn ns s)
theorem spTo_no {ns : List Nat} {s k : Nat} (h : crn ns s k = false) : spTo ns s (k + 1) = spTo ns s k := by
  simp only [spTo, List.range_succ, List.any_append, List.any_cons, List.any_nil, Bool.or_false]
  rw [h, Bool.or_false]
theorem strg_yes {ns : List Nat} {s c : Nat} (h : crn ns s c = true) : strg ns s = true := strg_iff.2 ⟨c, crn_mem h, h⟩
theorem strg_no {m : Nat} {ns : List Nat} {s : Nat} (hc : Cls m ns) (h : spTo ns s (2 ^ m) = false) : strg ns s = false := by
  rw [← Bool.not_eq_true]
  intro hh
  obtain ⟨c, hm, hr⟩ := strg_iff.1 hh
  rw [← Bool.not_eq_true] at h
  apply h
  simp only [spTo, List.any_eq_true, List.mem_range]
  exact ⟨c, hc.lt c hm, hr⟩



end Go.Proofs.YtnoppclajhfnjabDoor

namespace Go.Proofs.YtnoppclajhfnjabDoor
open Go.RowKit



end Go.Proofs.YtnoppclajhfnjabDoor

namespace Go.Proofs.YtnoppclajhfnjabDoor
open Go.RowKit

/-- the turns of the first k cubes -/
def eulTo (es : List (Int × Int)) : Nat → Int
  | 0 => 0
  | k + 1 => eulTo es k + if pc (es.getD k (0, 0)).2.toNat % 2 = 0 then 1 else -1
theorem eulTo_succ (es : List (Int × Int)) (k : Nat) : eulTo es (k + 1) = eulTo es k + if pc (es.getD k (0, 0)).2.toNat % 2 = 0 then 1 else -1 := rfl
theorem eulTo_bd (es : List (Int × Int)) (k : Nat) : -(k : Int) ≤ eulTo es k ∧ eulTo es k ≤ k := by
  induction k with
  | zero => simp [eulTo]
  | succ k ih =>
    rw [eulTo_succ]
    split <;> omega
def eulB (n : Int) (zs : List Int) : Int := eulTo (cubL n zs) (cubL n zs).length
theorem eulB_bad {n : Int} {zs : List Int} (h : vldB n zs = false) : eulB n zs = 0 := by rw [eulB, cubL_bad h]; rfl
theorem eulB_in {m : Nat} {ns : List Nat} (h : vldB (m : Int) (toI ns) = true) : eulB (m : Int) (toI ns) = eulTo (cbTo ns m ns.length) (cbTo ns m ns.length).length := by rw [eulB, cubL_in h]
theorem getD_mem {α : Type} {l : List α} {k : Nat} {d : α} (h : k < l.length) : l.getD k d ∈ l := by
  rw [List.getD_eq_getElem?_getD, List.getElem?_eq_getElem h]
  exact List.getElem_mem h
/-- the sets along which cubes lie are sets -/
theorem cub_set {n : Int} {zs : List Int} {k : Nat} (h : k < (cubL n zs).length) : ∃ b : Nat, b < 32 ∧ ((cubL n zs).getD k (0, 0)).2 = (b : Int) := by
  have hm := getD_mem (d := ((0 : Int), (0 : Int))) h
  generalize (cubL n zs).getD k (0, 0) = e at *
  unfold cubL at hm
  split at hm
  · rename_i hv
    obtain ⟨m, ns, rfl, rfl, hc⟩ := vldB_cls hv
    rw [toNat_toI, Int.toNat_natCast, cbTo, List.mem_flatMap] at hm
    obtain ⟨a, _, ha⟩ := hm
    rw [cbIn, List.mem_map] at ha
    obtain ⟨b, hb, rfl⟩ := ha
    have := List.mem_range.1 (List.mem_filter.1 hb).1
    have := pow_le_32 hc.pts
    exact ⟨b, by omega, rfl⟩
  · cases hm

set_option maxHeartbeats 6400000 in
set_option maxRecDepth 100000 in
theorem implEulerOf (n : Int) (v : Value) (zs : List Int) (w : World) (h : Rd w v zs) :
    Calls Tryd.prog 54 #[.agg #[.int .i64 n, v]] w fun e w' => e = .returned (.int .i64 (eulB n zs)) ∧ Below w.heap.size w w' := by
  have H := Lib.hid h
  have HC := Lib.hid (fun v w h => implCubesOf n v zs w h)
  have HB := Lib.hid (fun k h => cub_set (n := n) (zs := zs) (k := k) h)
  have hlen := cubL_len n zs
  have HT := Lib.hid (show eulB n zs = eulTo (cubL n zs) (cubL n zs).length from rfl)
  generalize cubL n zs = E at *
  obtain ⟨a, b, off, cap, rfl, _, _, _⟩ := h
  have B0 := Lib.hid (Box.made n (.slice a zs.length cap) w 25)
  have c0 := B0.out.at0
  have c1 := B0.out.at1
  go_enter Tryd.func54, Tryd.ntmps54
  go_wp2_with fail
  refine (HC.out _ _ (H.out.below B0.out.below (Nat.le_refl _))).mono ?_
  rintro e w1 ⟨a1, cap1, rfl, hin, hb⟩
  have hs1 : w.heap.size < w1.heap.size := by have := hb.size; simp at this; omega
  have B1 := Lib.hid (B0.out.next (by simp) hb)
  obtain ⟨a', b', off', cap', e9, e1, e3, e5⟩ := hin.rd
  simp only [Value.slice.injEq, true_and] at e9
  obtain ⟨rfl, rfl⟩ := e9
  have E1 := Lib.hid e1
  have E5 := Lib.hid e5
  clear hb hin c0 c1 e1 e5
  generalize hL : E.length = L at *
  go_wp2_with fail
  go_loopw [9, 3] (fun i s wr => ∃ k : Nat, k ≤ L ∧ i = .int .i64 k ∧ s = .int .i64 (eulTo E k) ∧ Below w1.heap.size w1 wr) (fun i _ _ => L - (intOf i).toNat)
  case atStart => exact ⟨0, Nat.zero_le _, rfl, rfl, Below.refl _ _⟩
  case round =>
    obtain ⟨k, hk, rfl, rfl, hbe⟩ := hrel
    have HBE := Lib.hid hbe
    have hz := hbe.size
    clear hbe
    by_cases hlt : k < L
    · obtain ⟨rfl, hbl⟩ := E1.out (by omega)
      have hc0 := (HBE.out.cell (p := ⟨b', off' + k * 2, none⟩) hbl).trans (E5.out k hlt).1
      have hc1 := (HBE.out.cell (p := ⟨b', off' + k * 2 + 1, none⟩) hbl).trans (E5.out k hlt).2
      obtain ⟨x, hx32, hx⟩ := HB.out k hlt
      have hs := eulTo_succ E k
      have hbd := eulTo_bd E k
      rw [hx] at hc1
      rw [hx, Int.toNat_natCast] at hs
      generalize (E.getD k (0, 0)).1 = p at *
      have HO := Lib.hid (fun w => implSizeOf x hx32 w)
      have hp5 := pc_le5 x
      have hkI : (k : Int) < (L : Int) := by omega
      have EX := Lib.hid (show Below wr.heap.size wr (wr.alloc (Obj.cells #[.int .i64 p, .int .i64 (x : Int)] 105)) from (Below.refl _ _).alloc (Nat.le_refl _) _)
      have hx1 : (wr.alloc (Obj.cells #[.int .i64 p, .int .i64 (x : Int)] 105)).cell? ⟨wr.heap.size, 1, none⟩ = some (.int .i64 (x : Int)) := by simp [go_sem]
      generalize eulTo E k = S at *
      generalize pc x = r at *
      go_wp2_with fail
      refine (HO.out _).mono ?_
      rintro e w9 ⟨rfl, hw9⟩
      subst w9
      have hw1 : IntKind.i64.wrap (S + 1) = S + 1 := by rw [IntKind.wrap_i64]; omega
      have hw2 : IntKind.i64.wrap (S - 1) = S - 1 := by rw [IntKind.wrap_i64]; omega
      rcases (show r = 0 ∨ r = 1 ∨ r = 2 ∨ r = 3 ∨ r = 4 ∨ r = 5 by omega) with rfl | rfl | rfl | rfl | rfl | rfl
      all_goals
        go_wp2_with fail
        go_roundw
        case rel => exact ⟨k + 1, by omega, by go_num, by rw [hs]; first | rfl | (simp; omega) | (congr 1), HBE.out.trans (EX.out.mono hz)⟩
        case measure => simp [intOf]; omega
    · obtain rfl : k = L := by omega
      go_wp2_with fail
      go_ret
      exact ⟨ret_int HT.out.symm, (B1.out.next hs1 HBE.out).below⟩


end Go.Proofs.YtnoppclajhfnjabDoor

namespace Go.Proofs.YtnoppclajhfnjabDoor
open Go.RowKit

/-- how many of the first k cubes there are of each dimension -/
def ccTo (m : Nat) (es : List (Int × Int)) : Nat → List Int
  | 0 => List.replicate (m + 1) 0
  | k + 1 => (ccTo m es k).set (pc (es.getD k (0, 0)).2.toNat) ((ccTo m es k).getD (pc (es.getD k (0, 0)).2.toNat) 0 + 1)
theorem ccTo_succ (m : Nat) (es : List (Int × Int)) (k : Nat) : ccTo m es (k + 1) = (ccTo m es k).set (pc (es.getD k (0, 0)).2.toNat) ((ccTo m es k).getD (pc (es.getD k (0, 0)).2.toNat) 0 + 1) := rfl
theorem ccTo_length (m : Nat) (es : List (Int × Int)) (k : Nat) : (ccTo m es k).length = m + 1 := by
  induction k with
  | zero => simp [ccTo]
  | succ k ih => rw [ccTo_succ, List.length_set, ih]
theorem ccTo_bd (m : Nat) (es : List (Int × Int)) (k j : Nat) : 0 ≤ (ccTo m es k).getD j 0 ∧ (ccTo m es k).getD j 0 ≤ k := by
  induction k generalizing j with
  | zero =>
    rw [ccTo, List.getD_eq_getElem?_getD, List.getElem?_replicate]
    split <;> simp
  | succ k ih =>
    rw [ccTo_succ, List.getD_eq_getElem?_getD, List.getElem?_set]
    split
    · split
      · have := ih (pc (es.getD k (0, 0)).2.toNat)
        simp only [Option.getD_some]
        omega
      · simp only [Option.getD_none]
        omega
    · have := ih j
      rw [List.getD_eq_getElem?_getD] at this
      omega
def ccL (n : Int) (zs : List Int) : List Int := if vldB n zs = true then ccTo n.toNat (cubL n zs) (cubL n zs).length else []
theorem ccL_in {m : Nat} {ns : List Nat} (h : vldB (m : Int) (toI ns) = true) : ccL (m : Int) (toI ns) = ccTo m (cubL (m : Int) (toI ns)) (cubL (m : Int) (toI ns)).length := by rw [ccL, if_pos h, Int.toNat_natCast]
theorem ccL_bad {n : Int} {zs : List Int} (h : vldB n zs = false) : ccL n zs = [] := by rw [ccL, h]; rfl
theorem ccL_len (n : Int) (zs : List Int) : (ccL n zs).length ≤ 1048576 := by
  unfold ccL
  split
  · rename_i hv
    obtain ⟨m, ns, rfl, rfl, hc⟩ := vldB_cls hv
    have := hc.pts
    rw [ccTo_length, Int.toNat_natCast]
    omega
  · simp
/-- a cube's second set is one of the class's points -/
theorem cub_dim {m : Nat} {ns : List Nat} (h : Cls m ns) (hv : vldB (m : Int) (toI ns) = true) {k : Nat} (hk : k < (cubL (m : Int) (toI ns)).length) : ∃ b : Nat, b < 32 ∧ pc b ≤ m ∧ ((cubL (m : Int) (toI ns)).getD k (0, 0)).2 = (b : Int) := by
  have hm := getD_mem (d := ((0 : Int), (0 : Int))) hk
  generalize (cubL (m : Int) (toI ns)).getD k (0, 0) = e at *
  rw [cubL_in hv, cbTo, List.mem_flatMap] at hm
  obtain ⟨a, _, ha⟩ := hm
  rw [cbIn, List.mem_map] at ha
  obtain ⟨b, hb, rfl⟩ := ha
  have h1 := List.mem_range.1 (List.mem_filter.1 hb).1
  have := pow_le_32 h.pts
  exact ⟨b, by omega, pc_le m b h.pts h1, rfl⟩




end Go.Proofs.YtnoppclajhfnjabDoor

namespace Go.Proofs.YtnoppclajhfnjabDoor
open Go.RowKit

/-- the sum of the first k numbers, each as often as c says -/
def wTo (c : Nat → Int) (l : List Int) : Nat → Int
  | 0 => 0
  | k + 1 => wTo c l k + l.getD k 0 * c k
theorem set_getD (l : List Int) (i k : Nat) (v : Int) (hi : i < l.length) : (l.set i v).getD k 0 = if i = k then v else l.getD k 0 := by
  rw [List.getD_eq_getElem?_getD, List.getElem?_set]
  by_cases e : i = k
  · rw [if_pos e, if_pos e, if_pos hi, Option.getD_some]
  · rw [if_neg e, if_neg e, List.getD_eq_getElem?_getD]
theorem wTo_set (c : Nat → Int) (l : List Int) (i : Nat) (v : Int) (hi : i < l.length) (k : Nat) : wTo c (l.set i v) k = wTo c l k + if i < k then (v - l.getD i 0) * c i else 0 := by
  induction k with
  | zero => simp [wTo]
  | succ k ih =>
    rw [wTo, wTo, ih, set_getD l i k v hi]
    by_cases e : i = k
    · subst e
      rw [if_pos rfl, if_neg (Nat.lt_irrefl i), if_pos (Nat.lt_succ_self i), Int.sub_mul]
      omega
    · rw [if_neg e]
      by_cases h2 : i < k
      · rw [if_pos h2, if_pos (by omega)]; omega
      · rw [if_neg h2, if_neg (by omega)]; omega
theorem wTo_zero (c : Nat → Int) (n k : Nat) : wTo c (List.replicate n 0) k = 0 := by
  induction k with
  | zero => rfl
  | succ k ih =>
    rw [wTo, ih, List.getD_eq_getElem?_getD, List.getElem?_replicate]
    split <;> simp
theorem wTo_cc {m : Nat} {es : List (Int × Int)} (c : Nat → Int) (h : ∀ j, j < es.length → pc (es.getD j (0, 0)).2.toNat ≤ m) (k : Nat) (hk : k ≤ es.length) :
    wTo c (ccTo m es (k + 0)) (m + 1) = ((List.range k).map (fun j => c (pc (es.getD j (0, 0)).2.toNat))).sum := by
  induction k with
  | zero => rw [show ccTo m es (0 + 0) = List.replicate (m + 1) 0 from rfl, wTo_zero]; rfl
  | succ k ih =>
    have h1 := h k (by omega)
    rw [Nat.add_zero, ccTo_succ, wTo_set _ _ _ _ (by rw [ccTo_length]; omega), if_pos (by omega), List.range_succ, List.map_append, List.sum_append, ← ih (by omega)]
    simp only [List.map_cons, List.map_nil, List.sum_cons, List.sum_nil, Nat.add_zero]
    rw [show (ccTo m es k).getD (pc (es.getD k (0, 0)).2.toNat) 0 + 1 - (ccTo m es k).getD (pc (es.getD k (0, 0)).2.toNat) 0 = 1 by omega]
    omega
/-- all counts together are the cubes -/
theorem cc_total {m : Nat} {es : List (Int × Int)} (h : ∀ j, j < es.length → pc (es.getD j (0, 0)).2.toNat ≤ m) : wTo (fun _ => 1) (ccTo m es es.length) (m + 1) = (es.length : Int) := by
  have h1 := wTo_cc (fun _ => 1) h es.length (Nat.le_refl _)
  rw [Nat.add_zero] at h1
  rw [h1]
  generalize es.length = n
  induction n with
  | zero => rfl
  | succ n ih =>
    rw [List.range_succ, List.map_append, List.sum_append, ih]
    simp
/-- in turns they are the Euler number -/
theorem cc_turns {m : Nat} {es : List (Int × Int)} (h : ∀ j, j < es.length → pc (es.getD j (0, 0)).2.toNat ≤ m) : wTo (fun j => 1 - 2 * ((j % 2 : Nat) : Int)) (ccTo m es es.length) (m + 1) = eulTo es es.length := by
  have h1 := wTo_cc (fun j => 1 - 2 * ((j % 2 : Nat) : Int)) h es.length (Nat.le_refl _)
  rw [Nat.add_zero] at h1
  rw [h1]
  generalize es.length = n
  induction n with
  | zero => rfl
  | succ n ih =>
    rw [List.range_succ, List.map_append, List.sum_append, ih, eulTo_succ]
    simp only [List.map_cons, List.map_nil, List.sum_cons, List.sum_nil]
    congr 1
    have := Nat.mod_two_eq_zero_or_one (pc (es.getD n (0, 0)).2.toNat)
    rcases this with e | e <;> rw [e] <;> simp
theorem cc_at {m : Nat} {es : List (Int × Int)} (d : Nat) (k : Nat) (hd : d ≤ m) (hk : k ≤ es.length) : (ccTo m es k).getD d 0 = (((es.take k).countP (fun e => pc e.2.toNat == d) : Nat) : Int) := by
  induction k with
  | zero =>
    rw [show ccTo m es 0 = List.replicate (m + 1) 0 from rfl, List.getD_eq_getElem?_getD, List.getElem?_replicate, if_pos (by omega)]
    simp
  | succ k ih =>
    have h0 := ih (by omega)
    rw [ccTo_succ, List.take_succ_eq_append_getElem (by omega), List.countP_append, List.getD_eq_getElem?_getD, List.getElem?_set]
    have e1 : es.getD k (0, 0) = es[k] := by rw [List.getD_eq_getElem?_getD, List.getElem?_eq_getElem (by omega), Option.getD_some]
    rw [e1]
    by_cases e : pc es[k].2.toNat = d
    · rw [if_pos e, if_pos (by rw [ccTo_length]; omega), Option.getD_some, e, h0]
      simp [e]
    · rw [if_neg e, ← List.getD_eq_getElem?_getD, h0]
      simp [e]
theorem crn_iff {ns : List Nat} {s c : Nat} : crn ns s c = true ↔ c &&& s = 0 ∧ ∀ t, t ≤ s → t &&& s = t → c ||| t ∈ ns := by
  simp only [crn, Bool.and_eq_true, cubTo, List.all_eq_true, List.mem_range, beq_iff_eq]
  constructor
  · rintro ⟨h1, h2⟩
    refine ⟨h1, fun t ht he => ?_⟩
    have := h2 t (by omega)
    simpa [he] using this
  · rintro ⟨h1, h2⟩
    refine ⟨h1, fun t ht => ?_⟩
    by_cases he : t &&& s = t
    · simp [he, h2 t (by omega) he]
    · simp [he]
theorem cb_count {ns : List Nat} {m : Nat} (d : Nat) : (cbTo ns m ns.length).countP (fun e => pc e.2.toNat == d) = (ns.map (fun a => (List.range (2 ^ m)).countP (fun b => (pc b == d) && crn ns b a))).sum := by
  rw [cbTo, List.take_length, List.countP_flatMap]
  congr 1
  apply List.map_congr_left
  intro a _
  show (cbIn ns a (2 ^ m)).countP _ = _
  rw [cbIn, List.countP_map, List.countP_filter]
  apply List.countP_congr
  intro b _
  simp
theorem dim_zero : ∀ m : Fin 6, (List.range (2 ^ m.1)).filter (fun b => pc b == 0) = [0] := by decide +kernel
theorem dim_one : ∀ m : Fin 6, (List.range (2 ^ m.1)).filter (fun b => pc b == 1) = (List.range m.1).map (fun y => 2 ^ y) := by decide +kernel
theorem sub_one : ∀ y : Fin 5, ∀ t : Fin 32, t.1 ≤ 2 ^ y.1 → t.1 &&& 2 ^ y.1 = t.1 → t.1 = 0 ∨ t.1 = 2 ^ y.1 := by decide +kernel
theorem up_one : ∀ y : Fin 5, ∀ a : Fin 32, (a.1 &&& 2 ^ y.1 = 0 ↔ a.1 < a.1 ^^^ 2 ^ y.1) ∧ (a.1 &&& 2 ^ y.1 = 0 → a.1 ||| 2 ^ y.1 = a.1 ^^^ 2 ^ y.1) := by decide +kernel
theorem crn_one {ns : List Nat} {y a : Nat} (hy : y < 5) (ha : a < 32) (hm : a ∈ ns) : crn ns (2 ^ y) a = (decide (a ^^^ 2 ^ y ∈ ns) && decide (a < a ^^^ 2 ^ y)) := by
  rw [Bool.eq_iff_iff, crn_iff, Bool.and_eq_true, decide_eq_true_eq, decide_eq_true_eq]
  obtain ⟨u1, u2⟩ := up_one ⟨y, hy⟩ ⟨a, ha⟩
  dsimp only at u1 u2
  have hp : 2 ^ y < 32 := Nat.pow_lt_pow_right (by omega) (show y < 5 from hy)
  constructor
  · rintro ⟨h1, h2⟩
    have h3 := h2 (2 ^ y) (Nat.le_refl _) (Nat.and_self _)
    rw [u2 h1] at h3
    exact ⟨h3, u1.1 h1⟩
  · rintro ⟨h1, h2⟩
    have h0 := u1.2 h2
    refine ⟨h0, fun t ht he => ?_⟩
    rcases sub_one ⟨y, hy⟩ ⟨t, by omega⟩ ht he with e | e <;> dsimp only at e
    · subst e; rw [Nat.or_zero]; exact hm
    · subst e; rw [u2 h0]; exact h1
theorem crn_nil {ns : List Nat} {a : Nat} (hm : a ∈ ns) : crn ns 0 a = true := by
  rw [crn_iff]
  refine ⟨Nat.and_zero a, fun t ht _ => ?_⟩
  obtain rfl : t = 0 := by omega
  rw [Nat.or_zero]; exact hm
theorem cb_sets {m : Nat} {ns : List Nat} (h : Cls m ns) : (cbTo ns m ns.length).countP (fun e => pc e.2.toNat == 0) = ns.length := by
  rw [cb_count]
  have e1 : ns.map (fun a => (List.range (2 ^ m)).countP (fun b => (pc b == 0) && crn ns b a)) = ns.map (fun _ => 1) := List.map_congr_left (fun a ha => by
    have h1 := dim_zero ⟨m, by have := h.pts; omega⟩
    dsimp only at h1
    have h2 := congrArg (List.countP (fun b => crn ns b a)) h1
    rw [List.countP_filter] at h2
    rw [show (List.range (2 ^ m)).countP (fun b => (pc b == 0) && crn ns b a) = (List.range (2 ^ m)).countP (fun b => crn ns b a && (pc b == 0)) from List.countP_congr (fun b _ => by rw [Bool.and_comm]), h2]
    simp [crn_nil ha])
  rw [e1]
  have h3 : ∀ l : List Nat, (l.map (fun _ => 1)).sum = l.length := fun l => by
    induction l with
    | nil => rfl
    | cons a l ih => rw [List.map_cons, List.sum_cons, ih, List.length_cons]; omega
  exact h3 ns
theorem cb_edges {m : Nat} {ns : List Nat} (h : Cls m ns) : (cbTo ns m ns.length).countP (fun e => pc e.2.toNat == 1) = (egTo ns ns.length).length := by
  have hm := h.pts
  have e1 : ns.map (fun a => (List.range (2 ^ m)).countP (fun b => (pc b == 1) && crn ns b a)) = ns.map (fun a => (List.range m).countP (fun y => crn ns (2 ^ y) a)) := List.map_congr_left (fun a _ => by
    have h1 := dim_one ⟨m, by omega⟩
    dsimp only at h1
    have h2 := congrArg (List.countP (fun b => crn ns b a)) h1
    rw [List.countP_filter, List.countP_map] at h2
    rw [show (List.range (2 ^ m)).countP (fun b => (pc b == 1) && crn ns b a) = (List.range (2 ^ m)).countP (fun b => crn ns b a && (pc b == 1)) from List.countP_congr (fun b _ => by rw [Bool.and_comm]), h2]
    rfl)
  rw [cb_count, e1, eg_count h, eF_sum hm, sum_swap]
  congr 1
  apply List.map_congr_left
  intro y hy
  rw [List.mem_range] at hy
  rw [many_cnt h]
  apply cnt_congr
  intro s hs
  have h32 := pow_le_32 hm
  obtain ⟨x1, x2⟩ := xor_has (y := y) (s := s) (by omega) (by omega)
  show (inF ns s && crn ns (2 ^ y) s) = (inF ns s && (!hasX y s && inF ns (s + 2 ^ y)))
  by_cases hin : s ∈ ns
  · rw [crn_one (by omega) (by omega) hin]
    congr 1
    have hp := Nat.two_pow_pos y
    cases hh : hasX y s with
    | false =>
      rw [x1 hh, show decide (s < s + 2 ^ y) = true from decide_eq_true (by omega)]
      simp [inF]
    | true =>
      rw [show decide (s < s ^^^ 2 ^ y) = false from decide_eq_false (x2 hh)]
      simp
  · rw [show inF ns s = false from decide_eq_false hin]
    rfl

end Go.Proofs.YtnoppclajhfnjabDoor

namespace Go.Proofs.YtnoppclajhfnjabDoor
open Go.RowKit

/-- Euler's number -/
def chF : Nat → (Nat → Bool) → Int
  | 0, f => if f 0 then 1 else 0
  | n + 1, f => chF n f + chF n (up n f) - chF n (andF f (up n f))
theorem chF_congr {n : Nat} {f g : Nat → Bool} (h : ∀ s, s < 2 ^ n → f s = g s) : chF n f = chF n g := by
  induction n generalizing f g with
  | zero => simp [chF, h 0 (by simp)]
  | succ n ih =>
    have h1 : ∀ s, s < 2 ^ n → f s = g s := fun s hs => h s (by rw [Nat.pow_succ]; omega)
    have h2 : ∀ s, s < 2 ^ n → up n f s = up n g s := fun s hs => h (s + 2 ^ n) (by rw [Nat.pow_succ]; omega)
    rw [chF, chF, ih h1, ih h2, ih (f := andF f (up n f)) (g := andF g (up n g)) (fun s hs => by simp only [andF]; rw [h1 s hs, h2 s hs])]
theorem chF_flip {n : Nat} (hn : n ≤ 5) (f : Nat → Bool) {x : Nat} (hx : x < 2 ^ n) : chF n (xorF x f) = chF n f := by
  induction n generalizing f x with
  | zero =>
    obtain rfl : x = 0 := by simp at hx; omega
    simp [chF, xorF]
  | succ n ih =>
    obtain ⟨y, hy, ⟨h1, h2⟩ | ⟨h1, h2⟩⟩ := flip_parts (by omega) f hx
    · rw [chF, chF, chF_congr h1, chF_congr h2, ih (by omega) f hy, ih (by omega) (up n f) hy, chF_congr (f := andF (xorF x f) (up n (xorF x f))) (g := xorF y (andF f (up n f))) (fun t ht => by simp only [andF]; rw [h1 t ht, h2 t ht]; rfl), ih (by omega) _ hy]
    · rw [chF, chF, chF_congr h1, chF_congr h2, ih (by omega) f hy, ih (by omega) (up n f) hy, chF_congr (f := andF (xorF x f) (up n (xorF x f))) (g := xorF y (andF f (up n f))) (fun t ht => by simp only [andF]; rw [h1 t ht, h2 t ht, Bool.and_comm]; rfl), ih (by omega) _ hy]
      omega

/-- what is shattered is strong -/
def ampF (n : Nat) (f : Nat → Bool) : Prop := ∀ s, s < 2 ^ n → shF n f s = true → stF n f s = true
theorem stF_mono {n : Nat} (hn : n ≤ 5) {f g : Nat → Bool} (h : ∀ s, f s = true → g s = true) {s : Nat} (hs : s < 2 ^ n) (k : stF n f s = true) : stF n g s = true := by
  obtain ⟨c, c1, c2, c3⟩ := (stF_iff hn f hs).1 k
  exact (stF_iff hn g hs).2 ⟨c, c1, c2, fun t ht he => h _ (c3 t ht he)⟩
theorem cnt_pos {n : Nat} (hn : n ≤ 5) {f : Nat → Bool} {s : Nat} (hs : s < 2 ^ n) (k : shF n f s = true) : cnt n f ≠ 0 := by
  obtain ⟨u, hu, hf, _⟩ := (shF_iff hn f hs).1 k 0 (Nat.two_pow_pos n) (Nat.zero_and s)
  have h1 : cnt n (fun p => decide (p = u)) ≤ cnt n f := cnt_mono (fun s _ he => by
    have := of_decide_eq_true he
    rw [this]; exact hf)
  rw [cnt_one hu] at h1
  omega
theorem amp_parts {n : Nat} (hn : n < 5) {f : Nat → Bool} (h : ampF (n + 1) f) : ampF n f ∧ ampF n (up n f) ∧ ampF n (andF f (up n f)) ∧ (cnt n f ≠ 0 → cnt n (up n f) ≠ 0 → cnt n (andF f (up n f)) ≠ 0) := by
  have hp : 2 ^ (n + 1) = 2 ^ n + 2 ^ n := by rw [Nat.pow_succ]; omega
  have hA : ∀ s, s < 2 ^ n → shF n f s = true → shF n (up n f) s = true → stF n (andF f (up n f)) s = true := fun s hs k1 k2 => by
    have h1 := h (s + 2 ^ n) (by omega) (by rw [shF, if_neg (by omega), Nat.add_sub_cancel, k1, k2]; rfl)
    rw [stF, if_neg (by omega), Nat.add_sub_cancel] at h1
    exact h1
  have hB : ∀ s, s < 2 ^ n → shF n (orF f (up n f)) s = true → stF n f s = true ∨ stF n (up n f) s = true := fun s hs k => by
    have h1 := h s (by omega) (by rw [shF, if_pos hs]; exact k)
    rw [stF, if_pos hs, Bool.or_eq_true] at h1
    exact h1
  have m1 : ∀ s, andF f (up n f) s = true → f s = true := fun s k => by simp only [andF, Bool.and_eq_true] at k; exact k.1
  have m2 : ∀ s, andF f (up n f) s = true → up n f s = true := fun s k => by simp only [andF, Bool.and_eq_true] at k; exact k.2
  refine ⟨fun s hs k => ?_, fun s hs k => ?_, fun s hs k => ?_, fun k1 k2 => ?_⟩
  · rcases hB s hs (shF_or n f (up n f) s (.inl k)) with h1 | h1
    · exact h1
    · exact stF_mono (by omega) m1 hs (hA s hs k (st_sh n _ s h1))
  · rcases hB s hs (shF_or n f (up n f) s (.inr k)) with h1 | h1
    · exact stF_mono (by omega) m2 hs (hA s hs (st_sh n _ s h1) k)
    · exact h1
  · have := shF_and n f (up n f) s k
    exact hA s hs this.1 this.2
  · exact cnt_pos (by omega) (Nat.two_pow_pos n) (st_sh n _ 0 (hA 0 (Nat.two_pow_pos n) (shF_zero k1) (shF_zero k2)))
theorem chF_amp {n : Nat} (hn : n ≤ 5) {f : Nat → Bool} (h : ampF n f) : chF n f = if cnt n f = 0 then 0 else 1 := by
  induction n generalizing f with
  | zero => rw [chF, cnt]; cases f 0 <;> rfl
  | succ n ih =>
    obtain ⟨h1, h2, h3, h4⟩ := amp_parts (by omega) h
    rw [chF, ih (by omega) h1, ih (by omega) h2, ih (by omega) h3, cnt]
    have l1 : cnt n (andF f (up n f)) ≤ cnt n f := cnt_mono (fun s _ k => by simp only [andF, Bool.and_eq_true] at k; exact k.1)
    have l2 : cnt n (andF f (up n f)) ≤ cnt n (up n f) := cnt_mono (fun s _ k => by simp only [andF, Bool.and_eq_true] at k; exact k.2)
    by_cases a : cnt n f = 0
    · rw [if_pos a, if_pos (show cnt n (andF f (up n f)) = 0 by omega)]
      by_cases b : cnt n (up n f) = 0
      · rw [if_pos b, if_pos (by omega)]; rfl
      · rw [if_neg b, if_neg (by omega)]; rfl
    · by_cases b : cnt n (up n f) = 0
      · rw [if_neg a, if_pos b, if_pos (show cnt n (andF f (up n f)) = 0 by omega), if_neg (by omega)]; rfl
      · rw [if_neg a, if_neg b, if_neg (h4 a b), if_neg (by omega)]; rfl

/-- the sum over the sets of n points -/
def smF : Nat → (Nat → Int) → Int
  | 0, g => g 0
  | n + 1, g => smF n g + smF n (fun s => g (s + 2 ^ n))
theorem smF_congr {n : Nat} {f g : Nat → Int} (h : ∀ s, s < 2 ^ n → f s = g s) : smF n f = smF n g := by
  induction n generalizing f g with
  | zero => exact h 0 (by simp)
  | succ n ih =>
    rw [smF, smF, ih (fun s hs => h s (by rw [Nat.pow_succ]; omega)), ih (f := fun s => f (s + 2 ^ n)) (g := fun s => g (s + 2 ^ n)) (fun s hs => h (s + 2 ^ n) (by rw [Nat.pow_succ]; omega))]
theorem smF_add (n : Nat) (f g : Nat → Int) : smF n (fun s => f s + g s) = smF n f + smF n g := by
  induction n generalizing f g with
  | zero => rfl
  | succ n ih =>
    rw [smF, smF, smF, ih, ih (fun s => f (s + 2 ^ n)) (fun s => g (s + 2 ^ n))]
    omega
theorem smF_neg (n : Nat) (f : Nat → Int) : smF n (fun s => - f s) = - smF n f := by
  induction n generalizing f with
  | zero => rfl
  | succ n ih =>
    rw [smF, smF, ih, ih (fun s => f (s + 2 ^ n))]
    omega
theorem smF_zero (n : Nat) : smF n (fun _ => 0) = 0 := by
  induction n with
  | zero => rfl
  | succ n ih => rw [smF, ih]; rfl
theorem sum_range (n : Nat) (g : Nat → Int) : ((List.range (2 ^ n)).map g).sum = smF n g := by
  induction n generalizing g with
  | zero => show ((List.range 1).map g).sum = _; simp [smF]
  | succ n ih =>
    have e : List.range (2 ^ (n + 1)) = List.range (2 ^ n) ++ (List.range (2 ^ n)).map (fun x => 2 ^ n + x) := by
      rw [Nat.pow_succ, show 2 ^ n * 2 = 2 ^ n + 2 ^ n by omega]
      exact List.range_add
    rw [e, List.map_append, List.sum_append, ih, List.map_map, smF, ← ih (fun s => g (s + 2 ^ n))]
    congr 2
    apply List.map_congr_left
    intro x _
    show g (2 ^ n + x) = _
    rw [Nat.add_comm]
/-- a cube at a along b -/
def crB (f : Nat → Bool) (b a : Nat) : Bool := (a &&& b == 0) && cubTo f a b (b + 1)
theorem crB_iff {n : Nat} {f : Nat → Bool} {b a : Nat} (hb : b < 2 ^ n) : crB f b a = true ↔ a &&& b = 0 ∧ ∀ t, t < 2 ^ n → t &&& b = t → f (a ||| t) = true := by
  simp only [crB, Bool.and_eq_true, cubTo, List.all_eq_true, List.mem_range, beq_iff_eq]
  constructor
  · rintro ⟨h1, h2⟩
    refine ⟨h1, fun t _ he => ?_⟩
    have hle : t ≤ b := by rw [← he]; exact Nat.and_le_right
    have := h2 t (by omega)
    simpa [he] using this
  · rintro ⟨h1, h2⟩
    refine ⟨h1, fun t ht => ?_⟩
    by_cases he : t &&& b = t
    · simp [he, h2 t (by omega) he]
    · simp [he]
theorem or_high {n a b : Nat} (hn : n < 5) (ha : a < 2 ^ n) (hb : b < 2 ^ n) : (a + 2 ^ n) ||| b = (a ||| b) + 2 ^ n ∧ a ||| (b + 2 ^ n) = (a ||| b) + 2 ^ n := by
  have key : ∀ n : Fin 5, ∀ a : Fin 16, ∀ b : Fin 16, (a : Nat) < 2 ^ (n : Nat) → (b : Nat) < 2 ^ (n : Nat) → ((a : Nat) + 2 ^ (n : Nat)) ||| (b : Nat) = ((a : Nat) ||| (b : Nat)) + 2 ^ (n : Nat) ∧ (a : Nat) ||| ((b : Nat) + 2 ^ (n : Nat)) = ((a : Nat) ||| (b : Nat)) + 2 ^ (n : Nat) := by decide +kernel
  have h16 := sixteen hn
  exact key ⟨n, hn⟩ ⟨a, by omega⟩ ⟨b, by omega⟩ ha hb
theorem cr_parts {n : Nat} (hn : n < 5) (f : Nat → Bool) {a b : Nat} (ha : a < 2 ^ n) (hb : b < 2 ^ n) :
    crB f b (a + 2 ^ n) = crB (up n f) b a ∧ crB f (b + 2 ^ n) a = crB (andF f (up n f)) b a ∧ crB f (b + 2 ^ n) (a + 2 ^ n) = false := by
  have hp : 2 ^ (n + 1) = 2 ^ n + 2 ^ n := by rw [Nat.pow_succ]; omega
  obtain ⟨a1, a2, a3, _⟩ := and_high hn ha hb
  refine ⟨?_, ?_, ?_⟩
  · rw [Bool.eq_iff_iff, crB_iff hb, crB_iff hb, a1]
    constructor
    · rintro ⟨h1, h2⟩
      refine ⟨h1, fun t ht he => ?_⟩
      have := h2 t ht he
      rw [(or_high hn ha ht).1] at this
      exact this
    · rintro ⟨h1, h2⟩
      refine ⟨h1, fun t ht he => ?_⟩
      rw [(or_high hn ha ht).1]
      exact h2 t ht he
  · rw [Bool.eq_iff_iff, crB_iff (n := n + 1) (by omega), crB_iff hb, a2]
    constructor
    · rintro ⟨h1, h2⟩
      refine ⟨h1, fun t ht he => ?_⟩
      have k1 := h2 t (by omega) (by rw [(and_high hn ht hb).2.1]; exact he)
      have k2 := h2 (t + 2 ^ n) (by omega) (by rw [(and_high hn ht hb).2.2.1, he])
      rw [(or_high hn ha ht).2] at k2
      simp only [andF, up, k1, k2]; rfl
    · rintro ⟨h1, h2⟩
      refine ⟨h1, fun t ht he => ?_⟩
      by_cases hlt : t < 2 ^ n
      · rw [(and_high hn hlt hb).2.1] at he
        have := h2 t hlt he
        simp only [andF, Bool.and_eq_true] at this
        exact this.1
      · obtain ⟨r, rfl⟩ : ∃ r, t = r + 2 ^ n := ⟨t - 2 ^ n, by omega⟩
        have hr : r < 2 ^ n := by omega
        rw [(and_high hn hr hb).2.2.1] at he
        have := h2 r hr (by omega)
        simp only [andF, Bool.and_eq_true] at this
        rw [(or_high hn ha hr).2]
        exact this.2
  · rw [Bool.eq_false_iff]
    intro h
    have := (crB_iff (n := n + 1) (by omega)).1 h
    have h1 := this.1
    rw [a3] at h1
    have := Nat.two_pow_pos n
    omega
/-- even ones count, odd ones count against -/
def sgn (b : Nat) : Int := if pc b % 2 = 0 then 1 else -1
theorem sgn_up {n b : Nat} (hn : n < 5) (hb : b < 2 ^ n) : sgn (b + 2 ^ n) = - sgn b := by
  rw [sgn, sgn, pc_up hn hb]
  by_cases h : pc b % 2 = 0
  · rw [if_pos h, if_neg (by omega)]
  · rw [if_neg h, if_pos (by omega)]; rfl
def euF (n : Nat) (f : Nat → Bool) : Int := smF n (fun a => smF n (fun b => if crB f b a = true then sgn b else 0))
theorem eu_ch {n : Nat} (hn : n ≤ 5) (f : Nat → Bool) : euF n f = chF n f := by
  induction n generalizing f with
  | zero =>
    show (if crB f 0 0 = true then sgn 0 else 0) = _
    rw [chF, show sgn 0 = 1 by decide]
    have : crB f 0 0 = f 0 := by simp [crB, cubTo]
    rw [this]
  | succ n ih =>
    rw [chF, ← ih (by omega) f, ← ih (by omega) (up n f), ← ih (by omega) (andF f (up n f))]
    rw [euF, smF]
    have e1 : smF n (fun a => smF (n + 1) (fun b => if crB f b a = true then sgn b else 0)) = euF n f + - euF n (andF f (up n f)) := by
      rw [euF, euF, ← smF_neg, ← smF_add]
      apply smF_congr
      intro a ha
      rw [smF, ← smF_neg]
      congr 1
      apply smF_congr
      intro b hb
      rw [(cr_parts (by omega) f ha hb).2.1, sgn_up (by omega) hb]
      split <;> rfl
    have e2 : smF n (fun a => smF (n + 1) (fun b => if crB f b (a + 2 ^ n) = true then sgn b else 0)) = euF n (up n f) := by
      rw [euF]
      apply smF_congr
      intro a ha
      rw [smF, smF_congr (f := fun b => if crB f (b + 2 ^ n) (a + 2 ^ n) = true then sgn (b + 2 ^ n) else 0) (g := fun _ => 0) (fun b hb => by rw [(cr_parts (by omega) f ha hb).2.2]; rfl), smF_zero, Int.add_zero]
      apply smF_congr
      intro b hb
      rw [(cr_parts (by omega) f ha hb).1]
    rw [e1, e2]
    omega
theorem eul_sum (es : List (Int × Int)) : eulTo es es.length = (es.map (fun e => sgn e.2.toNat)).sum := by
  have h : ∀ k, k ≤ es.length → eulTo es k = ((es.take k).map (fun e => sgn e.2.toNat)).sum := by
    intro k
    induction k with
    | zero => intro _; rfl
    | succ k ih =>
      intro hk
      rw [eulTo_succ, ih (by omega), List.take_succ_eq_append_getElem (by omega), List.map_append, List.sum_append, List.getD_eq_getElem?_getD, List.getElem?_eq_getElem (show k < es.length by omega)]
      simp [sgn]
  have := h es.length (Nat.le_refl _)
  rw [List.take_length] at this
  exact this
theorem sum_flat {α : Type} (l : List α) (g : α → List Int) : (l.flatMap g).sum = (l.map (fun a => (g a).sum)).sum := by
  induction l with
  | nil => rfl
  | cons a l ih => rw [List.flatMap_cons, List.sum_append, ih, List.map_cons, List.sum_cons]
theorem sum_filt {α : Type} (l : List α) (p : α → Bool) (g : α → Int) : ((l.filter p).map g).sum = (l.map (fun a => if p a = true then g a else 0)).sum := by
  induction l with
  | nil => rfl
  | cons a l ih =>
    rw [List.filter_cons]
    cases h : p a with
    | true => rw [if_pos rfl, List.map_cons, List.map_cons, List.sum_cons, List.sum_cons, ih, if_pos h]
    | false => rw [if_neg (by decide), List.map_cons, List.sum_cons, ih, if_neg (by rw [h]; decide), Int.zero_add]
/-- what EulerOf answers is Euler's number -/
theorem eul_ch {m : Nat} {ns : List Nat} (h : Cls m ns) : eulTo (cbTo ns m ns.length) (cbTo ns m ns.length).length = chF m (inF ns) := by
  rw [eul_sum, ← cs_cb h, ← eu_ch h.pts, csTo, List.map_flatMap, sum_flat, sum_range, euF]
  apply smF_congr
  intro a _
  rw [cbIn, List.map_map]
  rw [← sum_range, ← sum_filt]
  rfl
/-- of an extremal class, and a set, it is 1 -/
theorem eul_ext {m : Nat} {ns : List Nat} (h : Cls m ns) (he : extL m ns) (hne : ns ≠ []) : eulTo (cbTo ns m ns.length) (cbTo ns m ns.length).length = 1 := by
  have hb := ext_both h he
  have ha : ampF m (inF ns) := fun s hs hh => by
    rw [← sht_sh h hs] at hh
    have : s ∈ (List.range (2 ^ m)).filter (strg ns) := by rw [hb, List.mem_filter, List.mem_range]; exact ⟨hs, hh⟩
    rw [List.mem_filter] at this
    rw [← strg_st h hs]
    exact this.2
  rw [eul_ch h, chF_amp h.pts ha, h.cnt, if_neg (fun e => hne (List.eq_nil_of_length_eq_zero e))]
theorem eul_flip {m x : Nat} {ns : List Nat} (h : Cls m ns) (hx : x < 2 ^ m) : eulTo (cbTo (flp x ns) m (flp x ns).length) (cbTo (flp x ns) m (flp x ns).length).length = eulTo (cbTo ns m ns.length) (cbTo ns m ns.length).length := by
  rw [eul_ch h, eul_ch (flp_cls h hx), chF_congr (fun s _ => inF_flp h hx s), chF_flip h.pts _ hx]

end Go.Proofs.YtnoppclajhfnjabDoor

namespace Go.Proofs.YtnoppclajhfnjabDoor
open Go.RowKit

/-- p has the sets of a with those of b behind their m points -/
def Pd (m : Nat) (a b p : List Nat) : Prop := ∀ x, x ∈ p ↔ ∃ s ∈ a, ∃ t ∈ b, x = s + t * 2 ^ m

theorem pd_bit_lo {m x s t : Nat} (hx : x < m) : hasX x (s + t * 2 ^ m) = hasX x s := by
  obtain ⟨d, rfl⟩ : ∃ d, m = x + 1 + d := ⟨m - x - 1, by omega⟩
  have e : s + t * 2 ^ (x + 1 + d) = s + (t * 2 ^ d * 2) * 2 ^ x := by
    rw [show t * 2 ^ d * 2 * 2 ^ x = t * (2 ^ d * 2 * 2 ^ x) by rw [Nat.mul_assoc, Nat.mul_assoc, Nat.mul_assoc], show 2 ^ (x + 1 + d) = 2 ^ d * 2 * 2 ^ x by rw [Nat.pow_add, Nat.pow_add, Nat.pow_one, Nat.mul_comm (2 ^ x * 2), Nat.mul_comm (2 ^ x) 2, Nat.mul_assoc]]
  rw [hasX, hasX, e, Nat.add_mul_div_right _ _ (Nat.two_pow_pos x)]
  congr 1
  rw [Nat.add_mul_mod_self_right]
theorem pd_bit_hi {m x s t : Nat} (hs : s < 2 ^ m) (hx : m ≤ x) : hasX x (s + t * 2 ^ m) = hasX (x - m) t := by
  rw [hasX, hasX]
  have e : (s + t * 2 ^ m) / 2 ^ x = t / 2 ^ (x - m) := by
    rw [show 2 ^ x = 2 ^ m * 2 ^ (x - m) by rw [← Nat.pow_add]; congr 1; omega, ← Nat.div_div_eq_div_mul, Nat.add_mul_div_right _ _ (Nat.two_pow_pos m), Nat.div_eq_of_lt hs, Nat.zero_add]
  rw [e]
theorem pd_and {m s t u v : Nat} (hs : s < 2 ^ m) (hu : u < 2 ^ m) : (s + t * 2 ^ m) &&& (u + v * 2 ^ m) = (s &&& u) + (t &&& v) * 2 ^ m := by
  have hb : s &&& u < 2 ^ m := Nat.lt_of_le_of_lt Nat.and_le_left hs
  apply Nat.eq_of_testBit_eq
  intro i
  rw [Nat.testBit_and, Nat.add_comm s, Nat.add_comm u, Nat.add_comm (s &&& u), Nat.mul_comm t, Nat.mul_comm v, Nat.mul_comm (t &&& v), Nat.testBit_two_pow_mul_add _ hs, Nat.testBit_two_pow_mul_add _ hu, Nat.testBit_two_pow_mul_add _ hb]
  split
  · rw [Nat.testBit_and]
  · rw [Nat.testBit_and]
theorem pd_split {m s t u v : Nat} (hs : s < 2 ^ m) (hu : u < 2 ^ m) (h : s + t * 2 ^ m = u + v * 2 ^ m) : s = u ∧ t = v := by
  have h1 : (s + t * 2 ^ m) % 2 ^ m = (u + v * 2 ^ m) % 2 ^ m := by rw [h]
  rw [Nat.add_mul_mod_self_right, Nat.add_mul_mod_self_right, Nat.mod_eq_of_lt hs, Nat.mod_eq_of_lt hu] at h1
  subst h1
  have h2 : t * 2 ^ m = v * 2 ^ m := by omega
  exact ⟨rfl, Nat.eq_of_mul_eq_mul_right (Nat.two_pow_pos m) h2⟩
theorem pd_pc : ∀ m : Fin 6, ∀ s t : Fin 32, s.1 < 2 ^ m.1 → s.1 + t.1 * 2 ^ m.1 < 32 → pc (s.1 + t.1 * 2 ^ m.1) = pc s.1 + pc t.1 := by decide +kernel
theorem pd_wth_lo {m x : Nat} {a b p : List Nat} (h : Pd m a b p) (hx : x < m) : Pd m (wth x a) b (wth x p) ∧ Pd m (wto x a) b (wto x p) := by
  constructor
  · intro y
    rw [wth_mem, h y]
    constructor
    · rintro ⟨⟨s, hs, t, ht, rfl⟩, hy⟩
      rw [pd_bit_lo hx] at hy
      exact ⟨s, wth_mem.2 ⟨hs, hy⟩, t, ht, rfl⟩
    · rintro ⟨s, hs, t, ht, rfl⟩
      exact ⟨⟨s, (wth_mem.1 hs).1, t, ht, rfl⟩, by rw [pd_bit_lo hx]; exact (wth_mem.1 hs).2⟩
  · intro y
    rw [wto_mem, h y]
    constructor
    · rintro ⟨⟨s, hs, t, ht, rfl⟩, hy⟩
      rw [pd_bit_lo hx] at hy
      exact ⟨s, wto_mem.2 ⟨hs, hy⟩, t, ht, rfl⟩
    · rintro ⟨s, hs, t, ht, rfl⟩
      exact ⟨⟨s, (wto_mem.1 hs).1, t, ht, rfl⟩, by rw [pd_bit_lo hx]; exact (wto_mem.1 hs).2⟩
theorem pd_wth_hi {m x : Nat} {a b p : List Nat} (h : Pd m a b p) (ha : ∀ s ∈ a, s < 2 ^ m) (hx : m ≤ x) : Pd m a (wth (x - m) b) (wth x p) ∧ Pd m a (wto (x - m) b) (wto x p) := by
  constructor
  · intro y
    rw [wth_mem, h y]
    constructor
    · rintro ⟨⟨s, hs, t, ht, rfl⟩, hy⟩
      rw [pd_bit_hi (ha s hs) hx] at hy
      exact ⟨s, hs, t, wth_mem.2 ⟨ht, hy⟩, rfl⟩
    · rintro ⟨s, hs, t, ht, rfl⟩
      exact ⟨⟨s, hs, t, (wth_mem.1 ht).1, rfl⟩, by rw [pd_bit_hi (ha s hs) hx]; exact (wth_mem.1 ht).2⟩
  · intro y
    rw [wto_mem, h y]
    constructor
    · rintro ⟨⟨s, hs, t, ht, rfl⟩, hy⟩
      rw [pd_bit_hi (ha s hs) hx] at hy
      exact ⟨s, hs, t, wto_mem.2 ⟨ht, hy⟩, rfl⟩
    · rintro ⟨s, hs, t, ht, rfl⟩
      exact ⟨⟨s, hs, t, (wto_mem.1 ht).1, rfl⟩, by rw [pd_bit_hi (ha s hs) hx]; exact (wto_mem.1 ht).2⟩
theorem pd_ne {m : Nat} {a b p : List Nat} (h : Pd m a b p) : p ≠ [] ↔ a ≠ [] ∧ b ≠ [] := by
  constructor
  · intro hp
    obtain ⟨x, hx⟩ := List.exists_mem_of_ne_nil _ hp
    obtain ⟨s, hs, t, ht, _⟩ := (h x).1 hx
    exact ⟨List.ne_nil_of_mem hs, List.ne_nil_of_mem ht⟩
  · rintro ⟨h1, h2⟩
    obtain ⟨s, hs⟩ := List.exists_mem_of_ne_nil _ h1
    obtain ⟨t, ht⟩ := List.exists_mem_of_ne_nil _ h2
    exact List.ne_nil_of_mem ((h _).2 ⟨s, hs, t, ht, rfl⟩)
theorem flt_le (q : Nat → Bool) (l : List Nat) {n : Nat} (h : l.length ≤ n) : (l.filter q).length ≤ n := Nat.le_trans (List.length_filter_le _ _) h
theorem bit_pt {x k t : Nat} (ht : t < 2 ^ k) (h : hasX x t = true) : x < k := by
  by_cases hx : x < k
  · exact hx
  · exfalso
    have h2 : 2 ^ k ≤ 2 ^ x := Nat.pow_le_pow_right (by omega) (by omega)
    simp only [hasX, decide_eq_true_eq] at h
    rw [Nat.div_eq_of_lt (by omega)] at h
    omega
/-- numbers of mistakes add up -/
theorem mst_pd {m k : Nat} (hmk : m + k ≤ 5) : ∀ (N : Nat) (a b p : List Nat), a.length + b.length ≤ N → (∀ s ∈ a, s < 2 ^ m) → (∀ t ∈ b, t < 2 ^ k) → a ≠ [] → b ≠ [] → a.length ≤ 32 → b.length ≤ 32 → p.length ≤ 32 → Pd m a b p → mst p = mst a + mst b := by
  intro N
  induction N with
  | zero =>
    intro a b p hN _ _ ha
    exact absurd (List.length_eq_zero_iff.1 (by omega)) ha
  | succ N ih =>
    intro a b p hN h1 h2 ha hb la lb lp h
    have hp := (pd_ne h).2 ⟨ha, hb⟩
    have na := mst_nn ha
    have nb := mst_nn hb
    have np := mst_nn hp
    -- at a point that parts a, at one that parts b
    have lo : ∀ x, x < m → wth x a ≠ [] → wto x a ≠ [] → wth x p ≠ [] ∧ wto x p ≠ [] ∧ mst (wth x p) = mst (wth x a) + mst b ∧ mst (wto x p) = mst (wto x a) + mst b := fun x hx e1 e2 => by
      obtain ⟨d1, d2⟩ := pd_wth_lo h hx
      have hs := split_len x a e1 e2
      exact ⟨(pd_ne d1).2 ⟨e1, hb⟩, (pd_ne d2).2 ⟨e2, hb⟩,
        ih (wth x a) b (wth x p) (by omega) (fun s hs => h1 s (wth_mem.1 hs).1) h2 e1 hb (flt_le _ _ la) lb (flt_le _ _ lp) d1,
        ih (wto x a) b (wto x p) (by omega) (fun s hs => h1 s (wto_mem.1 hs).1) h2 e2 hb (flt_le _ _ la) lb (flt_le _ _ lp) d2⟩
    have hi : ∀ x, m ≤ x → wth (x - m) b ≠ [] → wto (x - m) b ≠ [] → wth x p ≠ [] ∧ wto x p ≠ [] ∧ mst (wth x p) = mst a + mst (wth (x - m) b) ∧ mst (wto x p) = mst a + mst (wto (x - m) b) := fun x hx e1 e2 => by
      obtain ⟨d1, d2⟩ := pd_wth_hi h h1 hx
      have hs := split_len (x - m) b e1 e2
      exact ⟨(pd_ne d1).2 ⟨ha, e1⟩, (pd_ne d2).2 ⟨ha, e2⟩,
        ih a (wth (x - m) b) (wth x p) (by omega) h1 (fun s hs => h2 s (wth_mem.1 hs).1) ha e1 la (flt_le _ _ lb) (flt_le _ _ lp) d1,
        ih a (wto (x - m) b) (wto x p) (by omega) h1 (fun s hs => h2 s (wto_mem.1 hs).1) ha e2 la (flt_le _ _ lb) (flt_le _ _ lp) d2⟩
    apply Int.le_antisymm
    · by_cases hpos : 0 < mst p
      · have hp' := hpos
        rw [mst_to hp] at hp'
        obtain ⟨x, hx, e1, e2, e3⟩ := mst_att 5 hp'
        rw [← mst_to hp, ← (mst_part lp e1 e2).1, ← (mst_part lp e1 e2).2] at e3
        by_cases hxm : x < m
        · obtain ⟨d1, d2⟩ := pd_wth_lo h hxm
          have g1 := ((pd_ne d1).1 e1).1
          have g2 := ((pd_ne d2).1 e2).1
          obtain ⟨_, _, g3, g4⟩ := lo x hxm g1 g2
          have g5 := mst_max (show x < 5 by omega) la g1 g2
          omega
        · obtain ⟨d1, d2⟩ := pd_wth_hi h h1 (show m ≤ x by omega)
          have g1 := ((pd_ne d1).1 e1).2
          have g2 := ((pd_ne d2).1 e2).2
          obtain ⟨_, _, g3, g4⟩ := hi x (by omega) g1 g2
          have g5 := mst_max (show x - m < 5 by omega) lb g1 g2
          omega
      · omega
    · by_cases hpa : 0 < mst a
      · have hp' := hpa
        rw [mst_to ha] at hp'
        obtain ⟨x, hx, e1, e2, e3⟩ := mst_att 5 hp'
        rw [← mst_to ha, ← (mst_part la e1 e2).1, ← (mst_part la e1 e2).2] at e3
        obtain ⟨s, hs⟩ := List.exists_mem_of_ne_nil _ e1
        have hxm := bit_pt (h1 s (wth_mem.1 hs).1) (wth_mem.1 hs).2
        obtain ⟨g1, g2, g3, g4⟩ := lo x hxm e1 e2
        have g5 := mst_max hx lp g1 g2
        omega
      · by_cases hpb : 0 < mst b
        · have hp' := hpb
          rw [mst_to hb] at hp'
          obtain ⟨x, hx, e1, e2, e3⟩ := mst_att 5 hp'
          rw [← mst_to hb, ← (mst_part lb e1 e2).1, ← (mst_part lb e1 e2).2] at e3
          obtain ⟨s, hs⟩ := List.exists_mem_of_ne_nil _ e1
          have hxm := bit_pt (h2 s (wth_mem.1 hs).1) (wth_mem.1 hs).2
          obtain ⟨g1, g2, g3, g4⟩ := hi (x + m) (by omega) (by rw [Nat.add_sub_cancel]; exact e1) (by rw [Nat.add_sub_cancel]; exact e2)
          rw [Nat.add_sub_cancel] at g3 g4
          have g5 := mst_max (show x + m < 5 by omega) lp g1 g2
          omega
        · omega

/-- what teaches in both teaches -/
theorem tch_pd {m : Nat} {a b p : List Nat} (h : Pd m a b p) (h1 : ∀ s ∈ a, s < 2 ^ m) (pa : a.Pairwise (· < ·)) (pb : b.Pairwise (· < ·)) (pp : p.Pairwise (· < ·)) {s t u v : Nat} (hs : s ∈ a) (ht : t ∈ b) (hu : u < 2 ^ m) :
    tch (s + t * 2 ^ m) (u + v * 2 ^ m) p = true ↔ tch s u a = true ∧ tch t v b = true := by
  rw [tch_all pa, tch_all pb, tch_all pp]
  have ex : ∀ x y, x < 2 ^ m → ((x + y * 2 ^ m) &&& (u + v * 2 ^ m) = (s + t * 2 ^ m) &&& (u + v * 2 ^ m) ↔ x &&& u = s &&& u ∧ y &&& v = t &&& v) := fun x y hx => by
    rw [pd_and hx hu, pd_and (h1 s hs) hu]
    constructor
    · exact fun e => pd_split (Nat.lt_of_le_of_lt Nat.and_le_left hx) (Nat.lt_of_le_of_lt Nat.and_le_left (h1 s hs)) e
    · rintro ⟨e1, e2⟩; rw [e1, e2]
  constructor
  · rintro ⟨_, hall⟩
    refine ⟨⟨hs, fun x hx e => ?_⟩, ⟨ht, fun y hy e => ?_⟩⟩
    · exact (pd_split (h1 x hx) (h1 s hs) (hall (x + t * 2 ^ m) ((h _).2 ⟨x, hx, t, ht, rfl⟩) ((ex x t (h1 x hx)).2 ⟨e, rfl⟩))).1
    · exact (pd_split (h1 s hs) (h1 s hs) (hall (s + y * 2 ^ m) ((h _).2 ⟨s, hs, y, hy, rfl⟩) ((ex s y (h1 s hs)).2 ⟨rfl, e⟩))).2
  · rintro ⟨⟨_, ha⟩, ⟨_, hb⟩⟩
    refine ⟨(h _).2 ⟨s, hs, t, ht, rfl⟩, fun z hz e => ?_⟩
    obtain ⟨x, hx, y, hy, rfl⟩ := (h z).1 hz
    obtain ⟨e1, e2⟩ := (ex x y (h1 x hx)).1 e
    rw [ha x hx e1, hb y hy e2]
theorem pd_parts {m k z : Nat} (hz : z < 2 ^ (m + k)) : z % 2 ^ m < 2 ^ m ∧ z / 2 ^ m < 2 ^ k ∧ z % 2 ^ m + z / 2 ^ m * 2 ^ m = z := by
  refine ⟨Nat.mod_lt _ (Nat.two_pow_pos m), ?_, by rw [Nat.mul_comm]; exact Nat.mod_add_div z (2 ^ m)⟩
  rw [Nat.pow_add, Nat.mul_comm] at hz
  exact Nat.div_lt_of_lt_mul (by rw [Nat.mul_comm]; exact hz)
theorem pd_lt {m k s t : Nat} (hs : s < 2 ^ m) (ht : t < 2 ^ k) : s + t * 2 ^ m < 2 ^ (m + k) := by
  have h1 : (t + 1) * 2 ^ m ≤ 2 ^ k * 2 ^ m := Nat.mul_le_mul_right _ ht
  rw [Nat.pow_add, Nat.mul_comm (2 ^ m)]
  rw [Nat.succ_mul] at h1
  omega
theorem pd_pcs {m k s t : Nat} (hmk : m + k ≤ 5) (hs : s < 2 ^ m) (ht : t < 2 ^ k) : pc (s + t * 2 ^ m) = pc s + pc t := by
  have h1 := pd_lt hs ht
  have h2 := pow_le_32 hmk
  have h3 := pow_le_32 (show m ≤ 5 by omega)
  have h4 := pow_le_32 (show k ≤ 5 by omega)
  exact pd_pc ⟨m, by omega⟩ ⟨s, by omega⟩ ⟨t, by omega⟩ hs (by show s + t * 2 ^ m < 32; omega)
theorem ftN_pd {m k : Nat} {a b p : List Nat} (hmk : m + k ≤ 5) (ca : Cls m a) (cb : Cls k b) (cp : Cls (m + k) p) (h : Pd m a b p) {s t : Nat} (hs : s ∈ a) (ht : t ∈ b) :
    pc (ftN (m + k) (s + t * 2 ^ m) p) = pc (ftN m s a) + pc (ftN k t b) := by
  obtain ⟨a1, a2⟩ := ftN_ok ca hs
  obtain ⟨b1, b2⟩ := ftN_ok cb ht
  obtain ⟨p1, p2⟩ := ftN_ok cp ((h _).2 ⟨s, hs, t, ht, rfl⟩)
  apply Nat.le_antisymm
  · rw [← pd_pcs hmk a1 b1]
    exact ftN_min (pd_lt a1 b1) ((tch_pd h ca.lt ca.asc cb.asc cp.asc hs ht a1).2 ⟨a2, b2⟩)
  · obtain ⟨q1, q2, q3⟩ := pd_parts p1
    rw [← q3, tch_pd h ca.lt ca.asc cb.asc cp.asc hs ht q1] at p2
    have h1 := ftN_min q1 p2.1
    have h2 := ftN_min q2 p2.2
    have h3 := pd_pcs hmk q1 q2
    rw [q3] at h3
    omega
theorem gTo_tns {m : Nat} {l : List Nat} (h : l ≠ []) : (∃ u ∈ l, gTo (tns m l) l.length = ((pc (ftN m u l) : Nat) : Int)) ∧ ∀ u ∈ l, ((pc (ftN m u l) : Nat) : Int) ≤ gTo (tns m l) l.length := by
  have hp := List.length_pos_iff.2 h
  have hall : ∀ u ∈ l, ((pc (ftN m u l) : Nat) : Int) ≤ gTo (tns m l) l.length := fun u hu => by
    obtain ⟨i, hi, e⟩ := List.getElem_of_mem hu
    have h7 := (gTo_all (tns m l) l.length).2 i hi
    rwa [tns_getD hi, List.getD_eq_getElem?_getD, List.getElem?_eq_getElem hi, Option.getD_some, e] at h7
  refine ⟨?_, hall⟩
  rcases gTo_one_of (tns m l) l.length with e | ⟨i, hi, e⟩
  · obtain ⟨u, hu⟩ := List.exists_mem_of_ne_nil _ h
    have := hall u hu
    omega
  · exact ⟨l.getD i 0, getD_of_lt hi, by rw [e, tns_getD hi]⟩
/-- numbers of points to teach add up -/
theorem td_pd {m k : Nat} {a b p : List Nat} (hmk : m + k ≤ 5) (ca : Cls m a) (cb : Cls k b) (cp : Cls (m + k) p) (h : Pd m a b p) (ha : a ≠ []) (hb : b ≠ []) :
    gTo (tns (m + k) p) p.length = gTo (tns m a) a.length + gTo (tns k b) b.length := by
  obtain ⟨⟨s, hs, e1⟩, a2⟩ := gTo_tns (m := m) ha
  obtain ⟨⟨t, ht, e2⟩, b2⟩ := gTo_tns (m := k) hb
  obtain ⟨⟨z, hz, e3⟩, p2⟩ := gTo_tns (m := m + k) ((pd_ne h).2 ⟨ha, hb⟩)
  apply Int.le_antisymm
  · obtain ⟨x, hx, y, hy, rfl⟩ := (h z).1 hz
    have h1 := a2 x hx
    have h2 := b2 y hy
    rw [e3, ftN_pd hmk ca cb cp h hx hy]
    omega
  · have h1 := p2 _ ((h _).2 ⟨s, hs, t, ht, rfl⟩)
    rw [ftN_pd hmk ca cb cp h hs ht] at h1
    omega

theorem sht_all {ns : List Nat} {s : Nat} (hs : s < 32) : sht ns s = true ↔ ∀ i, i < 32 → i &&& s = i → ∃ t ∈ ns, t &&& s = i := by
  rw [← sht_marks ns s hs, List.all_eq_true]
  constructor
  · intro h i hi he
    have h1 := h i (List.mem_range.2 hi)
    rw [show (i &&& s == i) = true by simpa using he] at h1
    have h2 : (ns.any fun t => t &&& s == i) = true := by simpa using h1
    obtain ⟨u, hu, h3⟩ := List.any_eq_true.1 h2
    exact ⟨u, hu, by simpa using h3⟩
  · intro h i hi
    have hi := List.mem_range.1 hi
    rw [beq_iff_eq, Bool.eq_iff_iff, List.any_eq_true, beq_iff_eq]
    constructor
    · rintro ⟨u, _, hu⟩
      have e : u &&& s = i := by simpa using hu
      rw [← e, Nat.and_assoc, Nat.and_self]
    · intro he
      obtain ⟨u, hu, h3⟩ := h i hi he
      exact ⟨u, hu, by simpa using h3⟩
theorem sht_pd {m k : Nat} {a b p : List Nat} (hmk : m + k ≤ 5) (ca : Cls m a) (_cb : Cls k b) (_cp : Cls (m + k) p) (h : Pd m a b p) {s t : Nat} (hs : s < 2 ^ m) (ht : t < 2 ^ k) : sht p (s + t * 2 ^ m) = true ↔ sht a s = true ∧ sht b t = true := by
  have h1 := pd_lt hs ht
  have h2 := pow_le_32 hmk
  have h3 := pow_le_32 (show m ≤ 5 by omega)
  have h4 := pow_le_32 (show k ≤ 5 by omega)
  rw [sht_all (show s + t * 2 ^ m < 32 by omega), sht_all (show s < 32 by omega), sht_all (show t < 32 by omega)]
  constructor
  · intro hall
    constructor
    · intro i hi he
      have hi2 : i < 2 ^ m := by rw [← he]; exact Nat.lt_of_le_of_lt Nat.and_le_right hs
      obtain ⟨z, hz, e⟩ := hall (i + 0 * 2 ^ m) (by omega) (by rw [pd_and hi2 hs, he]; simp)
      obtain ⟨x, hx, y, hy, rfl⟩ := (h z).1 hz
      rw [pd_and (ca.lt x hx) hs] at e
      exact ⟨x, hx, (pd_split (Nat.lt_of_le_of_lt Nat.and_le_left (ca.lt x hx)) hi2 e).1⟩
    · intro i hi he
      have hi2 : i < 2 ^ k := by rw [← he]; exact Nat.lt_of_le_of_lt Nat.and_le_right ht
      have h5 := pd_lt (Nat.two_pow_pos m) hi2
      obtain ⟨z, hz, e⟩ := hall (0 + i * 2 ^ m) (by omega) (by rw [pd_and (Nat.two_pow_pos m) hs, he]; simp)
      obtain ⟨x, hx, y, hy, rfl⟩ := (h z).1 hz
      rw [pd_and (ca.lt x hx) hs] at e
      exact ⟨y, hy, (pd_split (Nat.lt_of_le_of_lt Nat.and_le_left (ca.lt x hx)) (Nat.two_pow_pos m) e).2⟩
  · rintro ⟨ha, hb⟩ i hi he
    have hi2 : i < 2 ^ (m + k) := by rw [← he]; exact Nat.lt_of_le_of_lt Nat.and_le_right h1
    obtain ⟨q1, q2, q3⟩ := pd_parts hi2
    rw [← q3, pd_and q1 hs] at he
    obtain ⟨e1, e2⟩ := pd_split (Nat.lt_of_le_of_lt Nat.and_le_left q1) q1 he
    obtain ⟨x, hx, e3⟩ := ha (i % 2 ^ m) (by omega) e1
    obtain ⟨y, hy, e4⟩ := hb (i / 2 ^ m) (by omega) e2
    exact ⟨x + y * 2 ^ m, (h _).2 ⟨x, hx, y, hy, rfl⟩, by rw [pd_and (ca.lt x hx) hs, e3, e4, q3]⟩
/-- dimensions add up -/
theorem vc_pd {m k : Nat} {a b p : List Nat} (hmk : m + k ≤ 5) (ca : Cls m a) (cb : Cls k b) (cp : Cls (m + k) p) (h : Pd m a b p) (ha : a ≠ []) (hb : b ≠ []) : vcL (m + k) p = vcL m a + vcL k b := by
  have att : ∀ {n : Nat} {l : List Nat}, Cls n l → l ≠ [] → ∃ s, s < 2 ^ n ∧ sht l s = true ∧ vcL n l = (pc s : Int) := fun {n l} c e => by
    rcases widL_at ((List.range (2 ^ n)).filter (sht l)) with e1 | ⟨s, hs, e1⟩
    · have := (vcL_neg c).1 (by rw [vcL, e1]; omega)
      exact absurd this e
    · rw [List.mem_filter, List.mem_range] at hs
      exact ⟨s, hs.1, hs.2, e1⟩
  have ge : ∀ {n : Nat} {l : List Nat} {s : Nat}, s < 2 ^ n → sht l s = true → (pc s : Int) ≤ vcL n l := fun {n l s} hs e => widL_ge (List.mem_filter.2 ⟨List.mem_range.2 hs, e⟩)
  obtain ⟨s, hs, e1, e2⟩ := att ca ha
  obtain ⟨t, ht, f1, f2⟩ := att cb hb
  obtain ⟨z, hz, g1, g2⟩ := att cp ((pd_ne h).2 ⟨ha, hb⟩)
  apply Int.le_antisymm
  · obtain ⟨q1, q2, q3⟩ := pd_parts hz
    rw [← q3, sht_pd hmk ca cb cp h q1 q2] at g1
    have h1 := ge q1 g1.1
    have h2 := ge q2 g1.2
    have h3 := pd_pcs hmk q1 q2
    rw [q3] at h3
    omega
  · have h1 := ge (pd_lt hs ht) ((sht_pd hmk ca cb cp h hs ht).2 ⟨e1, f1⟩)
    have h3 := pd_pcs hmk hs ht
    omega
theorem chF_none (n : Nat) : chF n (fun _ => false) = 0 := by
  induction n with
  | zero => rfl
  | succ n ih =>
    have e1 : up n (fun _ => false) = fun _ => false := rfl
    have e2 : andF (fun _ => false) (fun _ => false) = fun _ => false := rfl
    rw [chF, e1, e2, ih]
    omega
theorem chF_pd (m : Nat) (f : Nat → Bool) : ∀ (k : Nat) (h : Nat → Bool), chF (m + k) (fun s => f (s % 2 ^ m) && h (s / 2 ^ m)) = chF m f * chF k h := by
  intro k
  induction k with
  | zero =>
    intro h
    rw [Nat.add_zero]
    cases e : h 0 with
    | true =>
      rw [show chF 0 h = 1 by rw [chF, e]; rfl, Int.mul_one]
      exact chF_congr (fun s hs => by rw [Nat.mod_eq_of_lt hs, Nat.div_eq_of_lt hs, e, Bool.and_true])
    | false =>
      rw [show chF 0 h = 0 by rw [chF, e]; rfl, Int.mul_zero, ← chF_none m]
      exact chF_congr (fun s hs => by rw [Nat.div_eq_of_lt hs, e, Bool.and_false])
  | succ k ih =>
    intro h
    rw [← Nat.add_assoc, chF, chF]
    have e1 : ∀ s, up (m + k) (fun s => f (s % 2 ^ m) && h (s / 2 ^ m)) s = (f (s % 2 ^ m) && up k h (s / 2 ^ m)) := fun s => by
      simp only [up]
      rw [Nat.pow_add, Nat.add_mul_mod_self_left, Nat.mul_comm (2 ^ m) (2 ^ k), Nat.add_mul_div_right _ _ (Nat.two_pow_pos m)]
    rw [chF_congr (f := up (m + k) (fun s => f (s % 2 ^ m) && h (s / 2 ^ m))) (fun s _ => e1 s), ih h, ih (up k h),
      chF_congr (f := andF (fun s => f (s % 2 ^ m) && h (s / 2 ^ m)) (up (m + k) (fun s => f (s % 2 ^ m) && h (s / 2 ^ m)))) (g := fun s => f (s % 2 ^ m) && andF h (up k h) (s / 2 ^ m)) (fun s _ => by
        show ((f (s % 2 ^ m) && h (s / 2 ^ m)) && up (m + k) (fun s => f (s % 2 ^ m) && h (s / 2 ^ m)) s) = _
        rw [e1]
        simp only [andF]
        cases f (s % 2 ^ m) <;> simp), ih (andF h (up k h)), ← Int.mul_add, ← Int.mul_sub]
/-- Euler's numbers are multiplied -/
theorem eul_pd {m k : Nat} {a b p : List Nat} (ca : Cls m a) (cb : Cls k b) (cp : Cls (m + k) p) (h : Pd m a b p) :
    eulTo (cbTo p (m + k) p.length) (cbTo p (m + k) p.length).length = eulTo (cbTo a m a.length) (cbTo a m a.length).length * eulTo (cbTo b k b.length) (cbTo b k b.length).length := by
  rw [eul_ch ca, eul_ch cb, eul_ch cp, ← chF_pd]
  refine chF_congr (fun s hs => ?_)
  obtain ⟨q1, q2, q3⟩ := pd_parts hs
  simp only [inF]
  rw [Bool.eq_iff_iff, Bool.and_eq_true, decide_eq_true_eq, decide_eq_true_eq, decide_eq_true_eq, h s]
  constructor
  · rintro ⟨x, hx, y, hy, e⟩
    rw [← q3] at e
    obtain ⟨e1, e2⟩ := pd_split q1 (ca.lt x hx) e
    rw [e1, e2]; exact ⟨hx, hy⟩
  · rintro ⟨hx, hy⟩
    exact ⟨_, hx, _, hy, q3.symm⟩

end Go.Proofs.YtnoppclajhfnjabDoor
