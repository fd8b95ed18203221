/- OptimalRun, the program's and the model's. Conditions: Sets is a slice of ints, the list one of examples; the table setsWith is laid. -/
import Derived.Test.YtejjimfoihhcoabDoorLittleS
import Derived.Test.YtejjimfoihhcoabDoorSamp
import Derived.Deep.RegionHeld3
namespace Go.Proofs.YtejjimfoihhcoabDoor
open Go.RowKit

/-- those that fit an example -/
def kp (l : List Nat) (e : Int × Bool) : List Nat := l.filter (fun s => hasX e.1.toNat s == e.2)
/-- what is left behind k examples -/
def nowTo (ns : List Nat) (es : List (Int × Bool)) : Nat → List Nat
  | 0 => ns
  | k + 1 => kp (nowTo ns es k) (es.getD k (0, false))
/-- the mistakes of a rule behind k examples -/
def misTo (G : List Nat → Nat → Bool) (ns : List Nat) (es : List (Int × Bool)) : Nat → Int
  | 0 => 0
  | k + 1 => misTo G ns es k + (if G (nowTo ns es k) (es.getD k (0, false)).1.toNat = (es.getD k (0, false)).2 then 0 else 1)
theorem misTo_bd (G : List Nat → Nat → Bool) (ns : List Nat) (es : List (Int × Bool)) (k : Nat) : 0 ≤ misTo G ns es k ∧ misTo G ns es k ≤ k := by
  induction k with
  | zero => simp [misTo]
  | succ k ih =>
    rw [misTo]
    split <;> omega
theorem nowTo_sub (ns : List Nat) (es : List (Int × Bool)) (k : Nat) : (∀ t ∈ nowTo ns es k, t ∈ ns) ∧ (nowTo ns es k).length ≤ ns.length := by
  induction k with
  | zero => exact ⟨fun t h => h, Nat.le_refl _⟩
  | succ k ih =>
    refine ⟨fun t h => ih.1 t (List.mem_filter.1 h).1, Nat.le_trans (List.length_filter_le _ _) ih.2⟩
def gOpt (l : List Nat) (x : Nat) : Bool := decide (mst (wto x l) < mst (wth x l))
def runB (G : List Nat → Nat → Bool) (n : Int) (zs : List Int) (es : List (Int × Bool)) : Int := if vsB n zs es = true then misTo G (zs.map Int.toNat) es es.length else -1
theorem kp_true (l : List Nat) (x : Nat) : kp l ((x : Int), true) = wth x l := by unfold kp wth; congr 1; funext s; simp
theorem kp_false (l : List Nat) (x : Nat) : kp l ((x : Int), false) = wto x l := by unfold kp wto; congr 1; funext s; simp
theorem pts_at {n : Int} {es : List (Int × Bool)} (h : ptsTo n es es.length = true) {k : Nat} (hk : k < es.length) : 0 ≤ (es.getD k (0, false)).1 ∧ (es.getD k (0, false)).1 < n := by
  simp only [ptsTo, List.all_eq_true, List.mem_range, Bool.and_eq_true, decide_eq_true_eq] at h
  exact h k hk

set_option maxHeartbeats 1600000 in
set_option maxRecDepth 100000 in
theorem implFitting (l : List Nat) (x : Nat) (b : Bool) (hx : x < 5) (w : World) (hsw : SW w) :
    Calls Tryd.prog 48 #[.int .u32 (fm l), .agg #[.int .i64 (x : Int), .bool b]] w fun e w' => e = .returned (.int .u32 (fm (kp l ((x : Int), b)))) ∧ Below w.heap.size w w' := by
  have HSW := Lib.hid hsw
  have HS := Lib.hid (fun w h => implSplit l x hx w h)
  cases b with
  | true =>
    rw [kp_true]
    clear hsw
    generalize fm l = F at *
    generalize fm (wth x l) = F1 at *
    generalize fm (wto x l) = F2 at *
    go_enter Tryd.func48, Tryd.ntmps48
    go_wp2_with fail
    refine (HS.out _ (HSW.out.next (by go_grown))).mono ?_
    rintro e w2 ⟨rfl, d, rfl⟩
    go_wp2_with fail
    go_ret
    exact ⟨rfl, below_drewN (by go_grown) d⟩
  | false =>
    rw [kp_false]
    clear hsw
    generalize fm l = F at *
    generalize fm (wth x l) = F1 at *
    generalize fm (wto x l) = F2 at *
    go_enter Tryd.func48, Tryd.ntmps48
    go_wp2_with fail
    refine (HS.out _ (HSW.out.next (by go_grown))).mono ?_
    rintro e w2 ⟨rfl, d, rfl⟩
    go_wp2_with fail
    go_ret
    exact ⟨rfl, below_drewN (by go_grown) d⟩

set_option maxHeartbeats 1600000 in
set_option maxRecDepth 100000 in
theorem implGuessOpt (l : List Nat) (x : Nat) (hx : x < 5) (h32 : ∀ t ∈ l, t < 32) (hl : l.length ≤ 32) (w : World) (hsw : SW w) :
    Calls Tryd.prog 61 #[.agg #[], .int .u32 (fm l), .int .i64 (x : Int)] w fun e w' => e = .returned (.agg #[.int .i64 (x : Int), .bool (gOpt l x)]) ∧ Below w.heap.size w w' := by
  have HSW := Lib.hid hsw
  have hl1 := List.length_filter_le (fun s => hasX x s) l
  have hl2 := List.length_filter_le (fun s => !hasX x s) l
  have HS := Lib.hid (fun w h => implSplit l x hx w h)
  have HM1 := Lib.hid (fun w h => implMistakeDepth (wth x l) (wth_lt h32) (by unfold wth; omega) w h)
  have HM2 := Lib.hid (fun w h => implMistakeDepth (wto x l) (wto_lt h32) (by unfold wto; omega) w h)
  rw [gOpt]
  clear hsw hl1 hl2
  generalize fm l = F at *
  generalize fm (wth x l) = F1 at *
  generalize fm (wto x l) = F2 at *
  generalize mst (wth x l) = D1 at *
  generalize mst (wto x l) = D2 at *
  have r0 := (show ((w.alloc (Obj.cells #[] 69)).alloc (Obj.cells #[.int .i64 0, .bool false] 52)).cell? ⟨w.heap.size + 1, 0, none⟩ = some (.int .i64 0) by simp [go_sem])
  have r1 := (show ((w.alloc (Obj.cells #[] 69)).alloc (Obj.cells #[.int .i64 0, .bool false] 52)).cell? ⟨w.heap.size + 1, 1, none⟩ = some (.bool false) by simp [go_sem])
  have q0 := (show ((w.alloc (Obj.cells #[] 69)).alloc (Obj.cells #[.int .i64 0, .bool false] 52)).frozen? ⟨w.heap.size + 1, 0, none⟩ = false by simp [go_sem])
  have q1 := (show ((w.alloc (Obj.cells #[] 69)).alloc (Obj.cells #[.int .i64 0, .bool false] 52)).frozen? ⟨w.heap.size + 1, 1, none⟩ = false by simp [go_sem])
  have HB0 := Lib.hid (show Below w.heap.size w ((w.alloc (Obj.cells #[] 69)).alloc (Obj.cells #[.int .i64 0, .bool false] 52)) by go_grown)
  have HZ0 := Lib.hid (show ((w.alloc (Obj.cells #[] 69)).alloc (Obj.cells #[.int .i64 0, .bool false] 52)).heap.size = w.heap.size + 2 by simp)
  have HR := Lib.hid (And.intro (And.intro r0 r1) (And.intro q0 q1))
  clear r0 r1 q0 q1
  go_enter Tryd.func61, Tryd.ntmps61
  go_wp2_with fail
  generalize ((w.alloc (Obj.cells #[] 69)).alloc (Obj.cells #[.int .i64 0, .bool false] 52)) = w0 at *
  refine (HS.out _ (HSW.out.next HB0.out)).mono ?_
  rintro e w1 ⟨rfl, d, rfl⟩
  go_wp2_with fail
  have S1 := Lib.hid (show SW (w0.drewN d) from SW.heap (HSW.out.next HB0.out) rfl)
  refine (HM1.out _ S1.out).mono ?_
  rintro e w2 ⟨rfl, hb2⟩
  have B2 := Lib.hid (show Below w0.heap.size w0 w2 from Below.trans (below_drewN (Below.refl _ _) d) hb2)
  have hz2 := B2.out.size
  clear hb2
  go_wp2_with fail
  refine (HM2.out _ ((HSW.out.next HB0.out).next B2.out)).mono ?_
  rintro e w3 ⟨rfl, hb3⟩
  have B3 := Lib.hid (B2.out.trans (hb3.mono hz2))
  clear hb3
  have hlt : w.heap.size + 1 < w0.heap.size := by have := HZ0.out; omega
  have r0 := (B3.out.cell (p := ⟨w.heap.size + 1, 0, none⟩) hlt).trans HR.out.1.1
  have r1 := (B3.out.cell (p := ⟨w.heap.size + 1, 1, none⟩) hlt).trans HR.out.1.2
  have q0 := (B3.out.frozen (p := ⟨w.heap.size + 1, 0, none⟩) hlt).trans HR.out.2.1
  have q1 := (B3.out.frozen (p := ⟨w.heap.size + 1, 1, none⟩) hlt).trans HR.out.2.2
  have HBW := Lib.hid (HB0.out.trans (B3.out.mono (show w.heap.size ≤ w0.heap.size by omega)))
  go_wp2_with fail
  refine bodyPost_ret (v := .agg #[.int .i64 (x : Int), .bool (decide (D2 < D1))]) (by simp [results, Tryd.results61, go_sem, r0, r1]) rfl ?_
  refine ⟨rfl, ?_⟩
  have hb0 := HBW.out
  clear r0 r1 q0 q1
  go_grown

set_option maxHeartbeats 6400000 in
set_option maxRecDepth 100000 in
theorem implMistakesOpt (n : Int) (v : Value) (zs : List Int) (u : Value) (es : List (Int × Bool)) (w : World) (h : Rd w v zs) (hu : RdE w u es) (hsw : SW w) :
    Calls Tryd.prog 53 #[.iface 69 (.agg #[]), .agg #[.int .i64 n, v], u] w fun e w' => e = .returned (.int .i64 (runB gOpt n zs es)) ∧ Below w.heap.size w w' := by
  have H := Lib.hid h
  have HU := Lib.hid hu
  have HSW := Lib.hid hsw
  have HVS := Lib.hid (fun w h hu => implValidSample n v zs u es w h hu)
  obtain ⟨a, b, off, cap, rfl, _, _, _⟩ := h
  obtain ⟨a2, b2, off2, cap2, rfl, he1, _, he5⟩ := hu
  have HE1 := Lib.hid he1
  have HE5 := Lib.hid he5
  clear he1 he5 hsw
  have B0 := Lib.hid (Box.made n (.slice a zs.length cap) w 28)
  by_cases hv : vsB n zs es = true
  · have hvd : vldB n zs = true := by simp only [vsB, Bool.and_eq_true] at hv; exact hv.1
    have hpt : ptsTo n es es.length = true := by simp only [vsB, Bool.and_eq_true] at hv; exact hv.2.2
    have h12 : es.length ≤ 12 := by simp only [vsB, Bool.and_eq_true, decide_eq_true_eq] at hv; exact hv.2.1
    have HV := Lib.hid hv
    obtain ⟨m, ns, rfl, rfl, hc⟩ := vldB_cls hvd
    have hm := hc.pts
    have HC := Lib.hid hc
    have hl := hc.length
    have HP := Lib.hid hpt
    have HT := Lib.hid (show runB gOpt m (toI ns) es = misTo gOpt ns es es.length by rw [runB, if_pos hv, toNat_toI])
    rw [toI_length] at H B0 HVS ⊢
    clear hv hvd hpt hc
    go_enter Tryd.func53, Tryd.ntmps53
    go_wp2_with fail
    refine (HVS.out _ (H.out.below (k := w.heap.size) (by go_grown) (Nat.le_refl _)) (HU.out.below (k := w.heap.size) (by go_grown) (Nat.le_refl _))).mono ?_
    rintro e w1 ⟨rfl, hb⟩
    rw [HV.out]
    have hs1 : w.heap.size < w1.heap.size := by have := hb.size; simp at this; omega
    have B1 := Lib.hid (B0.out.next (by simp) hb)
    clear hb
    have R1 := Lib.hid (H.out.below B1.out.below (Nat.le_refl _))
    have c0 := B1.out.at0
    have c1 := B1.out.at1
    go_wp2_with fail
    refine (implFamilyOf m _ ns HC.out.lt32 _ R1.out).mono ?_
    rintro e w2 ⟨rfl, hb2⟩
    have B2 := Lib.hid (B1.out.next hs1 hb2)
    have hz2 := hb2.size
    clear hb2 c0 c1
    go_wp2_with fail
    go_loopw [7, 8, 19] (fun f mi i wr => ∃ k : Nat, k ≤ es.length ∧ i = .int .i64 k ∧ f = .int .u32 (fm (nowTo ns es k)) ∧ mi = .int .i64 (misTo gOpt ns es k) ∧ Below w.heap.size w wr) (fun _ _ i _ => es.length - (intOf i).toNat)
    case atStart => exact ⟨0, Nat.zero_le _, rfl, rfl, rfl, B2.out.below⟩
    case round =>
      obtain ⟨k, hk, rfl, rfl, rfl, hbe⟩ := hrel
      have BE := Lib.hid hbe
      have hz := hbe.size
      have SW2 := Lib.hid (HSW.out.next hbe)
      obtain ⟨hb0, hb1⟩ := misTo_bd gOpt ns es k
      clear hbe
      by_cases hlt : k < es.length
      · obtain ⟨rfl, hbl⟩ := HE1.out (by omega)
        have hc0 := (BE.out.cell (p := ⟨b2, off2 + k * 2, none⟩) hbl).trans (HE5.out k hlt).1
        have hc1 := (BE.out.cell (p := ⟨b2, off2 + k * 2 + 1, none⟩) hbl).trans (HE5.out k hlt).2
        obtain ⟨hp0, hp1⟩ := pts_at HP.out hlt
        have HE := Lib.hid (show es.getD k (0, false) = ((es.getD k (0, false)).1, (es.getD k (0, false)).2) from rfl)
        have HNS := Lib.hid (show nowTo ns es (k + 1) = kp (nowTo ns es k) (es.getD k (0, false)) from rfl)
        have HMS := Lib.hid (show misTo gOpt ns es (k + 1) = misTo gOpt ns es k + (if gOpt (nowTo ns es k) (es.getD k (0, false)).1.toNat = (es.getD k (0, false)).2 then 0 else 1) from rfl)
        obtain ⟨hsub, hln⟩ := nowTo_sub ns es k
        have HSub := Lib.hid (fun t ht => HC.out.lt32 t (hsub t ht))
        clear hsub
        rw [HE.out] at HNS
        obtain ⟨x, hx⟩ := Int.eq_ofNat_of_zero_le hp0
        rw [hx] at hc0 hp0 hp1 HNS HMS
        rw [Int.toNat_natCast] at HMS
        generalize (es.getD k (0, false)).2 = lb at *
        have hx5 : x < 5 := by omega
        clear hx HE
        generalize nowTo ns es k = L at *
        generalize misTo gOpt ns es k = M at *
        have HG := Lib.hid (fun w h => implGuessOpt L x hx5 HSub.out (by omega) w h)
        have HF := Lib.hid (fun w h => implFitting L x lb hx5 w h)
        generalize gOpt L x = gg at *
        have EX := Lib.hid (show Below wr.heap.size wr (wr.alloc (Obj.cells #[.int .i64 (x : Int), .bool lb] 52)) from (Below.refl _ _).alloc (Nat.le_refl _) _)
        have EZ := Lib.hid (show wr.heap.size < (wr.alloc (Obj.cells #[.int .i64 (x : Int), .bool lb] 52)).heap.size by simp)
        have e0 := (show (wr.alloc (Obj.cells #[.int .i64 (x : Int), .bool lb] 52)).cell? ⟨wr.heap.size, 0, none⟩ = some (.int .i64 (x : Int)) by simp [go_sem])
        have e1 := (show (wr.alloc (Obj.cells #[.int .i64 (x : Int), .bool lb] 52)).cell? ⟨wr.heap.size, 1, none⟩ = some (.bool lb) by simp [go_sem])
        have HSE := Lib.hid (SW2.out.next EX.out)
        cases gg
        · cases lb
          · go_wp2_with fail
            generalize (wr.alloc (Obj.cells #[.int .i64 (x : Int), .bool false] 52)) = we at *
            go_region_held3 (fun w' => w'.cell? ⟨wr.heap.size, 0, none⟩ = some (.int .i64 (x : Int)) ∧ w'.cell? ⟨wr.heap.size, 1, none⟩ = some (.bool false)) (first | exact ⟨e0, e1⟩ | exact ⟨f0, f1⟩ | go_keep) (first | (go_at_call 61; refine (HG.out _ (by first | exact HSE.out | exact SW.heap HSE.out rfl)).mono ?_; rintro e w4 ⟨rfl, hb4⟩; have B4 := Lib.hid (show Below we.heap.size we w4 from Below.trans (by first | exact Below.refl _ _ | exact (Below.refl _ _).drew) hb4); have f0 := (B4.out.cell (p := ⟨wr.heap.size, 0, none⟩) EZ.out).trans e0; have f1 := (B4.out.cell (p := ⟨wr.heap.size, 1, none⟩) EZ.out).trans e1; clear hb4))
            have B5 := Lib.hid (show Below wr.heap.size wr w4 from EX.out.trans (B4.out.mono (Nat.le_of_lt EZ.out)))
            have hz5 := B5.out.size
            clear e0 e1
            go_wp2_with fail
            refine (HF.out _ (SW2.out.next B5.out)).mono ?_
            rintro e w6 ⟨rfl, hb6⟩
            have B6 := Lib.hid (B5.out.trans (hb6.mono hz5))
            clear hb6
            go_wp2_with fail
            go_roundw
            case rel => exact ⟨k + 1, by omega, by go_num, by rw [HNS.out], by rw [HMS.out]; simp, BE.out.trans (B6.out.mono hz)⟩
            case measure => simp [intOf]; omega
          · go_wp2_with fail
            generalize (wr.alloc (Obj.cells #[.int .i64 (x : Int), .bool true] 52)) = we at *
            go_region_held3 (fun w' => w'.cell? ⟨wr.heap.size, 0, none⟩ = some (.int .i64 (x : Int)) ∧ w'.cell? ⟨wr.heap.size, 1, none⟩ = some (.bool true)) (first | exact ⟨e0, e1⟩ | exact ⟨f0, f1⟩ | go_keep) (first | (go_at_call 61; refine (HG.out _ (by first | exact HSE.out | exact SW.heap HSE.out rfl)).mono ?_; rintro e w4 ⟨rfl, hb4⟩; have B4 := Lib.hid (show Below we.heap.size we w4 from Below.trans (by first | exact Below.refl _ _ | exact (Below.refl _ _).drew) hb4); have f0 := (B4.out.cell (p := ⟨wr.heap.size, 0, none⟩) EZ.out).trans e0; have f1 := (B4.out.cell (p := ⟨wr.heap.size, 1, none⟩) EZ.out).trans e1; clear hb4))
            have B5 := Lib.hid (show Below wr.heap.size wr w4 from EX.out.trans (B4.out.mono (Nat.le_of_lt EZ.out)))
            have hz5 := B5.out.size
            clear e0 e1
            go_wp2_with fail
            refine (HF.out _ (SW2.out.next B5.out)).mono ?_
            rintro e w6 ⟨rfl, hb6⟩
            have B6 := Lib.hid (B5.out.trans (hb6.mono hz5))
            clear hb6
            go_wp2_with fail
            go_roundw
            case rel => exact ⟨k + 1, by omega, by go_num, by rw [HNS.out], by rw [HMS.out]; simp, BE.out.trans (B6.out.mono hz)⟩
            case measure => simp [intOf]; omega
        · cases lb
          · go_wp2_with fail
            generalize (wr.alloc (Obj.cells #[.int .i64 (x : Int), .bool false] 52)) = we at *
            go_region_held3 (fun w' => w'.cell? ⟨wr.heap.size, 0, none⟩ = some (.int .i64 (x : Int)) ∧ w'.cell? ⟨wr.heap.size, 1, none⟩ = some (.bool false)) (first | exact ⟨e0, e1⟩ | exact ⟨f0, f1⟩ | go_keep) (first | (go_at_call 61; refine (HG.out _ (by first | exact HSE.out | exact SW.heap HSE.out rfl)).mono ?_; rintro e w4 ⟨rfl, hb4⟩; have B4 := Lib.hid (show Below we.heap.size we w4 from Below.trans (by first | exact Below.refl _ _ | exact (Below.refl _ _).drew) hb4); have f0 := (B4.out.cell (p := ⟨wr.heap.size, 0, none⟩) EZ.out).trans e0; have f1 := (B4.out.cell (p := ⟨wr.heap.size, 1, none⟩) EZ.out).trans e1; clear hb4))
            have B5 := Lib.hid (show Below wr.heap.size wr w4 from EX.out.trans (B4.out.mono (Nat.le_of_lt EZ.out)))
            have hz5 := B5.out.size
            clear e0 e1
            go_wp2_with fail
            refine (HF.out _ (SW2.out.next B5.out)).mono ?_
            rintro e w6 ⟨rfl, hb6⟩
            have B6 := Lib.hid (B5.out.trans (hb6.mono hz5))
            clear hb6
            go_wp2_with fail
            go_roundw
            case rel => exact ⟨k + 1, by omega, by go_num, by rw [HNS.out], by rw [HMS.out]; simp, BE.out.trans (B6.out.mono hz)⟩
            case measure => simp [intOf]; omega
          · go_wp2_with fail
            generalize (wr.alloc (Obj.cells #[.int .i64 (x : Int), .bool true] 52)) = we at *
            go_region_held3 (fun w' => w'.cell? ⟨wr.heap.size, 0, none⟩ = some (.int .i64 (x : Int)) ∧ w'.cell? ⟨wr.heap.size, 1, none⟩ = some (.bool true)) (first | exact ⟨e0, e1⟩ | exact ⟨f0, f1⟩ | go_keep) (first | (go_at_call 61; refine (HG.out _ (by first | exact HSE.out | exact SW.heap HSE.out rfl)).mono ?_; rintro e w4 ⟨rfl, hb4⟩; have B4 := Lib.hid (show Below we.heap.size we w4 from Below.trans (by first | exact Below.refl _ _ | exact (Below.refl _ _).drew) hb4); have f0 := (B4.out.cell (p := ⟨wr.heap.size, 0, none⟩) EZ.out).trans e0; have f1 := (B4.out.cell (p := ⟨wr.heap.size, 1, none⟩) EZ.out).trans e1; clear hb4))
            have B5 := Lib.hid (show Below wr.heap.size wr w4 from EX.out.trans (B4.out.mono (Nat.le_of_lt EZ.out)))
            have hz5 := B5.out.size
            clear e0 e1
            go_wp2_with fail
            refine (HF.out _ (SW2.out.next B5.out)).mono ?_
            rintro e w6 ⟨rfl, hb6⟩
            have B6 := Lib.hid (B5.out.trans (hb6.mono hz5))
            clear hb6
            go_wp2_with fail
            go_roundw
            case rel => exact ⟨k + 1, by omega, by go_num, by rw [HNS.out], by rw [HMS.out]; simp, BE.out.trans (B6.out.mono hz)⟩
            case measure => simp [intOf]; omega
      · obtain rfl : k = es.length := by omega
        go_wp2_with fail
        go_ret
        exact ⟨ret_int HT.out.symm, BE.out⟩
  · have HT := Lib.hid (show runB gOpt n zs es = -1 by rw [runB, if_neg hv])
    rw [Bool.not_eq_true] at hv
    have HV := Lib.hid hv
    clear hv
    go_enter Tryd.func53, Tryd.ntmps53
    go_wp2_with fail
    refine (HVS.out _ (H.out.below (k := w.heap.size) (by go_grown) (Nat.le_refl _)) (HU.out.below (k := w.heap.size) (by go_grown) (Nat.le_refl _))).mono ?_
    rintro e w1 ⟨rfl, hb⟩
    rw [HV.out]
    have B1 := Lib.hid (B0.out.next (by simp) hb)
    clear hb
    go_wp2_with fail
    go_ret
    exact ⟨ret_int HT.out.symm, B1.out.below⟩

set_option maxHeartbeats 800000 in
theorem implOptimalRun (n : Int) (v : Value) (zs : List Int) (u : Value) (es : List (Int × Bool)) (w : World) (h : Rd w v zs) (hu : RdE w u es) (hsw : SW w) :
    Calls Tryd.prog 27 #[.agg #[.int .i64 n, v], u] w fun e w' => e = .returned (.int .i64 (runB gOpt n zs es)) ∧ Below w.heap.size w w' := by
  have HM := Lib.hid (fun w h hu hs => implMistakesOpt n v zs u es w h hu hs)
  have H := Lib.hid h
  have HU := Lib.hid hu
  have HSW := Lib.hid hsw
  obtain ⟨a, b, off, cap, rfl, _, _, _⟩ := h
  obtain ⟨a2, b2, off2, cap2, rfl, _, _, _⟩ := hu
  clear hsw
  go_enter Tryd.func27, Tryd.ntmps27
  go_wp2_with fail
  refine (HM.out _ (H.out.below (k := w.heap.size) (by go_grown) (Nat.le_refl _)) (HU.out.below (k := w.heap.size) (by go_grown) (Nat.le_refl _)) (HSW.out.next (by go_grown))).mono ?_
  rintro e w1 ⟨rfl, hb⟩
  go_wp2_with fail
  go_ret
  exact ⟨rfl, Below.trans (by go_grown) (hb.mono (by simp))⟩

end Go.Proofs.YtejjimfoihhcoabDoor
