/- BestOf, the program's and the model's. Conditions: Sets is a slice of ints, the list one of examples. -/
import Derived.Deep.RegionHeld3
import Derived.Test.YtiocaopabkbgpaaDoorRisk
import Derived.Test.YtiocaopabkbgpaaDoorZN
namespace Go.Proofs.YtiocaopabkbgpaaDoor
open Go.RowKit

/-- the risk of a set -/
def mu (es : List (Int × Bool)) (t : Nat) : Int := msTo t es es.length
theorem mu_nat (es : List (Int × Bool)) (t : Nat) : 0 ≤ mu es t := (msTo_bd t es es.length).1
/-- are there sets, and are the arguments valid? -/
def btK (n : Int) (zs : List Int) (es : List (Int × Bool)) : Bool := vsB n zs es && decide (zs ≠ [])
def btS (n : Int) (zs : List Int) (es : List (Int × Bool)) : Int := if btK n zs es = true then (fstS (mu es) (zs.map Int.toNat) : Nat) else 0
def btM (n : Int) (zs : List Int) (es : List (Int × Bool)) : Int := if btK n zs es = true then fstM (mu es) (zs.map Int.toNat) else 0
theorem btS_no {n : Int} {zs : List Int} {es : List (Int × Bool)} (h : btK n zs es = false) : btS n zs es = 0 := by rw [btS, if_neg (by rw [h]; simp)]
theorem btM_no {n : Int} {zs : List Int} {es : List (Int × Bool)} (h : btK n zs es = false) : btM n zs es = 0 := by rw [btM, if_neg (by rw [h]; simp)]
theorem btS_in {n : Int} {ns : List Nat} {es : List (Int × Bool)} (h : btK n (toI ns) es = true) : btS n (toI ns) es = ((fstS (mu es) ns : Nat) : Int) := by rw [btS, if_pos h, toNat_toI]
theorem btM_in {n : Int} {ns : List Nat} {es : List (Int × Bool)} (h : btK n (toI ns) es = true) : btM n (toI ns) es = fstM (mu es) ns := by rw [btM, if_pos h, toNat_toI]
theorem btK_nil {n : Int} {es : List (Int × Bool)} : btK n [] es = false := by simp [btK]

/-- a list of examples in its block, and its cells -/
def csE (o : Nat) (u : Value) (b off : Nat) (es : List (Int × Bool)) : List (Addr × Value) :=
  (⟨o, 0, none⟩, u) :: (List.range es.length).flatMap (fun j => [(⟨b, off + j * 2, none⟩, .int .i64 (es.getD j (0, false)).1), (⟨b, off + j * 2 + 1, none⟩, .bool (es.getD j (0, false)).2)])
theorem csE_rd {o b off cap : Nat} {a : Option Addr} {es : List (Int × Bool)} (ha : 0 < es.length → a = some ⟨b, off, none⟩) (hl : es.length ≤ 9223372036854775807) {w : World} (h : CS (csE o (.slice a es.length cap) b off es) w) : RdE w (.slice a es.length cap) es := by
  have hc : ∀ j, j < es.length → w.cell? ⟨b, off + j * 2, none⟩ = some (.int .i64 (es.getD j (0, false)).1) ∧ w.cell? ⟨b, off + j * 2 + 1, none⟩ = some (.bool (es.getD j (0, false)).2) := fun j hj =>
    ⟨h (⟨b, off + j * 2, none⟩, .int .i64 (es.getD j (0, false)).1) (List.mem_cons_of_mem _ (List.mem_flatMap.2 ⟨j, List.mem_range.2 hj, by simp⟩)),
     h (⟨b, off + j * 2 + 1, none⟩, .bool (es.getD j (0, false)).2) (List.mem_cons_of_mem _ (List.mem_flatMap.2 ⟨j, List.mem_range.2 hj, by simp⟩))⟩
  exact ⟨a, b, off, cap, rfl, fun h0 => ⟨ha h0, World.block_lt_of_cell? w _ (hc 0 h0).1⟩, hl, hc⟩
theorem csE_of {o b off cap : Nat} {a : Option Addr} {es : List (Int × Bool)} {w : World} (h0 : w.cell? ⟨o, 0, none⟩ = some (.slice a es.length cap)) (h : ∀ j, j < es.length → w.cell? ⟨b, off + j * 2, none⟩ = some (.int .i64 (es.getD j (0, false)).1) ∧ w.cell? ⟨b, off + j * 2 + 1, none⟩ = some (.bool (es.getD j (0, false)).2)) : CS (csE o (.slice a es.length cap) b off es) w := fun p hp => by
  rcases List.mem_cons.1 hp with rfl | hp
  · exact h0
  · obtain ⟨j, hj, hp⟩ := List.mem_flatMap.1 hp
    have := h j (List.mem_range.1 hj)
    simp only [List.mem_cons, List.not_mem_nil, or_false] at hp
    rcases hp with rfl | rfl
    · exact this.1
    · exact this.2

set_option maxHeartbeats 800000 in
theorem implBest1 (t o : Nat) (ht : t < 32) (m : Nat) (hm : m ≤ 5) (u : Value) (es : List (Int × Bool)) (hpt : ptsTo m es es.length = true) (h12 : es.length ≤ 12) (w : World) (hc : w.cell? ⟨o, 0, none⟩ = some u) (hu : RdE w u es) :
    Calls Tryd.prog 78 #[.int .i64 (t : Int), .pointer (some ⟨o, 0, none⟩)] w fun e w' => e = .returned (.int .i64 (mu es t)) ∧ Below w.heap.size w w' := by
  have HM := Lib.hid (implMisses t ht m hm u es hpt h12 w hu)
  obtain ⟨a2, b2, off2, cap2, rfl, _, _, _⟩ := hu
  have HE := Lib.hid (show mu es t = msTo t es es.length from rfl)
  rw [HE.out]
  generalize msTo t es es.length = r at *
  go_enter Tryd.func78, Tryd.ntmps78
  go_wp2_with fail
  refine HM.out.mono ?_
  rintro e w' ⟨rfl, hb⟩
  go_wp2_with fail
  go_ret
  exact ⟨rfl, hb⟩

set_option maxRecDepth 100000 in
set_option maxHeartbeats 3200000 in
theorem implBestOf (n : Int) (v : Value) (zs : List Int) (u : Value) (es : List (Int × Bool)) (w : World) (h : Rd w v zs) (hu : RdE w u es) :
    Calls Tryd.prog 31 #[.agg #[.int .i64 n, v], u] w fun e w' => e = .returned (.tuple #[.int .i64 (btS n zs es), .int .i64 (btM n zs es), .bool (btK n zs es)]) ∧ Below w.heap.size w w' := by
  have H := Lib.hid h
  have HU := Lib.hid hu
  have HVS := Lib.hid (fun w h hu => implValidSample n v zs u es w h hu)
  obtain ⟨a, b, off, cap, rfl, _, _, _⟩ := h
  obtain ⟨a2, b2, off2, cap2, rfl, he1, he3, he5⟩ := hu
  have HE1 := Lib.hid he1
  have HE5 := Lib.hid he5
  have B0 := Lib.hid (show Box n (.slice a zs.length cap) w ((w.alloc (Obj.cells #[.int .i64 n, .slice a zs.length cap] 25)).alloc (Obj.cells #[.slice a2 es.length cap2] 26)) from (Box.made n (.slice a zs.length cap) w 25).next (by simp) ((Below.refl _ _).alloc (Nat.le_refl _) _))
  have HZ := Lib.hid (show ((w.alloc (Obj.cells #[.int .i64 n, .slice a zs.length cap] 25)).alloc (Obj.cells #[.slice a2 es.length cap2] 26)).heap.size = w.heap.size + 2 by simp)
  have HC := Lib.hid (show ((w.alloc (Obj.cells #[.int .i64 n, .slice a zs.length cap] 25)).alloc (Obj.cells #[.slice a2 es.length cap2] 26)).cell? ⟨w.heap.size + 1, 0, none⟩ = some (.slice a2 es.length cap2) by simp [go_sem])
  clear he1 he5
  by_cases hv : vsB n zs es = true
  · have hvd : vldB n zs = true := by simp only [vsB, Bool.and_eq_true] at hv; exact hv.1
    obtain ⟨m, ns, rfl, rfl, hc⟩ := vldB_cls hvd
    have hm := hc.pts
    have hl := hc.length
    obtain ⟨hp, h12⟩ := vsB_pts hv
    have HVals := Lib.hid (show btS (m : Int) (toI ns) es = (if ns = [] then 0 else ((fstS (mu es) ns : Nat) : Int)) ∧ btM (m : Int) (toI ns) es = (if ns = [] then 0 else fstM (mu es) ns) ∧ btK (m : Int) (toI ns) es = decide (ns ≠ []) by
      by_cases hn : ns = []
      · subst hn
        exact ⟨by rw [if_pos rfl]; exact btS_no btK_nil, by rw [if_pos rfl]; exact btM_no btK_nil, by rw [show toI [] = [] from rfl, btK_nil]; rfl⟩
      · have hk : btK (m : Int) (toI ns) es = true := by rw [btK, hv, decide_eq_true (toI_ne hn)]; rfl
        rw [if_neg hn, if_neg hn]
        exact ⟨btS_in hk, btM_in hk, by rw [hk, decide_eq_true hn]⟩)
    rw [HVals.out.1, HVals.out.2.1, HVals.out.2.2]
    have HF := Lib.hid (fun W h hcs => implFirstB (w.heap.size + 1) (mu es) (.slice a (toI ns).length cap) ns (csE (w.heap.size + 1) (.slice a2 es.length cap2) b2 off2 es) W h hc.lt32 hl hcs (Lib.hid (fun x W h0 => implBest1 x.val (w.heap.size + 1) x.isLt m hm (.slice a2 es.length cap2) es hp h12 W (h0 (⟨w.heap.size + 1, 0, none⟩, .slice a2 es.length cap2) (by simp [csE])) (csE_rd (fun h => (HE1.out h).1) he3 h0))))
    rw [hv] at HVS
    generalize (if ns = [] then 0 else ((fstS (mu es) ns : Nat) : Int)) = R1 at *
    generalize (if ns = [] then 0 else fstM (mu es) ns) = R2 at *
    generalize decide (ns ≠ []) = R3 at *
    clear HVals hv hvd hc hp
    go_enter Tryd.func31, Tryd.ntmps31
    go_wp2_with fail
    generalize ((w.alloc (Obj.cells #[.int .i64 (m : Int), .slice a (toI ns).length cap] 25)).alloc (Obj.cells #[.slice a2 es.length cap2] 26)) = w0 at *
    have hz0 := HZ.out
    refine (HVS.out _ (H.out.below B0.out.below (Nat.le_refl _)) (HU.out.below B0.out.below (Nat.le_refl _))).mono ?_
    rintro e w1 ⟨rfl, hb⟩
    have B1 := Lib.hid (B0.out.next (by omega) hb)
    have HC1 := Lib.hid ((hb.cell (p := ⟨w.heap.size + 1, 0, none⟩) (show w.heap.size + 1 < w0.heap.size by omega)).trans HC.out)
    clear hb
    have HCS := Lib.hid (csE_of HC1.out (fun j hj => ⟨(B1.out.below.cell (p := ⟨b2, off2 + j * 2, none⟩) (HE1.out (by omega)).2).trans (HE5.out j hj).1, (B1.out.below.cell (p := ⟨b2, off2 + j * 2 + 1, none⟩) (HE1.out (by omega)).2).trans (HE5.out j hj).2⟩))
    have c1 := B1.out.at1
    go_wp2_with fail
    refine (HF.out _ (H.out.below B1.out.below (Nat.le_refl _)) HCS.out).mono ?_
    rintro e w2 ⟨rfl, hb2⟩
    have B2 := Lib.hid (B1.out.below.trans (hb2.mono B1.out.below.size))
    clear hb2 c1
    go_wp2_with fail
    refine bodyPost_ret (v := .tuple #[.int .i64 R1, .int .i64 R2, .bool R3]) (by simp [results, Tryd.results31, go_sem]) rfl ?_
    exact ⟨rfl, B2.out⟩
  · rw [Bool.not_eq_true] at hv
    have hk : btK n zs es = false := by rw [btK, hv]; rfl
    rw [btS_no hk, btM_no hk, hk]
    rw [hv] at HVS
    clear hv hk
    go_enter Tryd.func31, Tryd.ntmps31
    go_wp2_with fail
    generalize ((w.alloc (Obj.cells #[.int .i64 n, .slice a zs.length cap] 25)).alloc (Obj.cells #[.slice a2 es.length cap2] 26)) = w0 at *
    have hz0 := HZ.out
    refine (HVS.out _ (H.out.below B0.out.below (Nat.le_refl _)) (HU.out.below B0.out.below (Nat.le_refl _))).mono ?_
    rintro e w1 ⟨rfl, hb⟩
    have B1 := Lib.hid (B0.out.below.trans (hb.mono (by omega)))
    clear hb
    go_wp2_with fail
    refine bodyPost_ret (v := .tuple #[.int .i64 0, .int .i64 0, .bool false]) (by simp [results, Tryd.results31, go_sem]) rfl ?_
    exact ⟨rfl, B1.out⟩

/-- the risks of the first k sets -/
def rkTo (es : List (Int × Bool)) (ns : List Nat) (k : Nat) : List Int := (ns.take k).map (mu es)
theorem rkTo_len {es : List (Int × Bool)} {ns : List Nat} {k : Nat} (hk : k ≤ ns.length) : (rkTo es ns k).length = k := by simp [rkTo]; omega
theorem rkTo_succ {es : List (Int × Bool)} {ns : List Nat} {k : Nat} (hk : k < ns.length) : rkTo es ns (k + 1) = rkTo es ns k ++ [mu es (ns.getD k 0)] := by
  rw [rkTo, List.take_succ_eq_append_getElem hk, List.map_append, List.getD_eq_getElem?_getD, List.getElem?_eq_getElem hk]; rfl
theorem rkTo_all (es : List (Int × Bool)) (ns : List Nat) : rkTo es ns ns.length = ns.map (mu es) := by rw [rkTo, List.take_length]

set_option maxRecDepth 100000 in
set_option maxHeartbeats 3200000 in
theorem specRisks (v : Value) (ns : List Nat) (h32 : ∀ t ∈ ns, t < 32) (hl : ns.length ≤ 32) (m : Nat) (hm : m ≤ 5) (u : Value) (es : List (Int × Bool)) (hpt : ptsTo m es es.length = true) (h12 : es.length ≤ 12) (w : World) (h : Rd w v (toI ns)) (hu : RdE w u es) :
    Calls Tryd.prog 79 #[v, u] w (RetInts (ns.map (mu es)) w) := by
  have HU := Lib.hid hu
  have HP := Lib.hid hpt
  have HL := Lib.hid h32
  have HM := Lib.hid (fun t ht w hu => specRisk t ht m hm u es hpt h12 w hu)
  obtain ⟨a, b, off, cap, rfl, h1, h3, h5⟩ := h
  rw [toI_length] at *
  have H1 := Lib.hid h1
  have H5 := Lib.hid h5
  obtain ⟨a2, b2, off2, cap2, rfl, _, _, _⟩ := hu
  clear h1 h5 hpt h32
  have HA := Lib.hid (rkTo_all es ns)
  rw [← HA.out]
  go_enter Tryd.func79, Tryd.ntmps79
  go_wp2_with fail
  go_loopw [5, 6] (fun o i wr => ∃ (k : Nat) (a' : Option Addr) (c' : Nat), k ≤ ns.length ∧ i = .int .i64 k ∧ o = .slice a' k c' ∧ Ints w.heap.size wr (.slice a' k c') (rkTo es ns k) ∧ Below w.heap.size w wr) (fun _ i _ => ns.length - (intOf i).toNat)
  case atStart => exact ⟨0, _, _, Nat.zero_le _, rfl, rfl, Ints.lit' (by first | omega | simp) (by first | omega | simp), by go_grown⟩
  case round =>
    obtain ⟨k, a', c', hk, rfl, rfl, hin, hbe⟩ := hrel
    have HIN := Lib.hid hin
    have HBE := Lib.hid hbe
    have hz := hbe.size
    clear hin hbe
    by_cases hlt : k < ns.length
    · obtain ⟨rfl, hbl⟩ := H1.out (by omega)
      have hc0 := (HBE.out.cell (p := ⟨b, off + k, none⟩) hbl).trans (H5.out k (by omega))
      rw [toI_getD] at hc0
      have hx32 := HL.out _ (getD_of_lt hlt)
      have HD := Lib.hid (rkTo_succ (es := es) hlt)
      have HAl := Lib.hid (rkTo_len (es := es) hk)
      generalize ns.getD k 0 = x at *
      have HMx := Lib.hid (HM.out x hx32)
      have HDx := Lib.hid (show mu es x = msTo x es es.length from rfl)
      rw [← HDx.out] at HMx
      generalize rkTo es ns k = A at *
      generalize mu es x = q at *
      go_wp2_with fail
      refine (HMx.out _ (HU.out.below HBE.out (Nat.le_refl _))).mono ?_
      rintro e w3 ⟨rfl, hb3⟩
      have I3 := Lib.hid (HIN.out.below hb3 (Nat.le_refl _))
      have B3 := Lib.hid (HBE.out.trans (hb3.mono hz))
      have hz3 := hb3.size
      clear hb3
      have hq : A.length + 1 ≤ 1000000000 := by rw [HAl.out]; omega
      go_wp2_with (at_builtin; refine wpList_app rfl (.tmp 14) (.tmp 21) rfl w.heap.size _ A rfl (by exact I3.out.alloc _) _ _ _ [q] rfl (src_cell (by rw [World.cell?_alloc_at _ _ _ _ rfl]; rfl)) hq (by simp; omega) ?_; intro a1 c1' w4 hin4 hb4 hg4)
      rw [HAl.out] at hin4
      have I4 := Lib.hid hin4
      have HB4 := Lib.hid (show Below w.heap.size w w4 from B3.out.trans (Below.trans ((Below.refl _ _).alloc (by omega) _) hb4))
      clear hin4 hb4 hg4 hq
      go_roundw
      case rel => exact ⟨k + 1, a1, c1', by omega, by go_num, by rw [HAl.out], by rw [HD.out]; exact I4.out, HB4.out⟩
      case measure => simp [intOf]; omega
    · obtain rfl : k = ns.length := by omega
      have HAl := Lib.hid (rkTo_len (es := es) hk)
      go_wp2_with fail
      go_ret
      exact ⟨a', c', by rw [HAl.out]; rfl, by rw [HAl.out]; exact HIN.out, HBE.out⟩

set_option maxRecDepth 100000 in
set_option maxHeartbeats 3200000 in
theorem specBestOf (n : Int) (v : Value) (zs : List Int) (u : Value) (es : List (Int × Bool)) (w : World) (h : Rd w v zs) (hu : RdE w u es) :
    Calls Tryd.prog 32 #[.agg #[.int .i64 n, v], u] w fun e w' => e = .returned (.tuple #[.int .i64 (btS n zs es), .int .i64 (btM n zs es), .bool (btK n zs es)]) ∧ Below w.heap.size w w' := by
  have H := Lib.hid h
  have HU := Lib.hid hu
  have HV := Lib.hid (fun w h => specValid n v zs w h)
  obtain ⟨a, b, off, cap, rfl, h1, h3, h5⟩ := h
  have H1 := Lib.hid h1
  have H5 := Lib.hid h5
  clear h1 h5
  obtain ⟨a2, b2, off2, cap2, rfl, _, _, _⟩ := hu
  have B0 := Lib.hid (Box.made n (.slice a zs.length cap) w 25)
  by_cases hvd : vldB n zs = true
  · obtain ⟨m, ns, rfl, rfl, hc⟩ := vldB_cls hvd
    have hm := hc.pts
    have hl := hc.length
    have HSa := Lib.hid (fun w hu => specSample m hm (.slice a2 es.length cap2) es w hu)
    have HvE := Lib.hid (vsB_in (es := es) hvd)
    rw [← HvE.out] at HSa
    rw [hvd] at HV
    rw [toI_length] at *
    by_cases hv : vsB (m : Int) (toI ns) es = true
    · obtain ⟨hp, h12⟩ := vsB_pts hv
      by_cases hn : ns = []
      · subst hn
        have hk : btK (m : Int) (toI []) es = false := btK_nil
        rw [btS_no hk, btM_no hk, hk]
        rw [hv] at HSa
        clear hk hv hvd hc hp
        go_enter Tryd.func32, Tryd.ntmps32
        go_wp2_with fail
        refine (HV.out _ (H.out.below (k := w.heap.size) (by go_grown) (Nat.le_refl _))).mono ?_
        rintro e w1 ⟨rfl, hb⟩
        have hs1 : w.heap.size < w1.heap.size := by have := hb.size; simp at this; omega
        have B1 := Lib.hid (B0.out.next (by simp) hb)
        clear hb
        have c0 := B1.out.at0
        have c1 := B1.out.at1
        go_wp2_with fail
        refine (HSa.out _ (HU.out.below B1.out.below (Nat.le_refl _))).mono ?_
        rintro e w3 ⟨rfl, hw3⟩
        subst w3
        go_wp2_with fail
        refine bodyPost_ret (v := .tuple #[.int .i64 0, .int .i64 0, .bool false]) (by simp [results, Tryd.results32, go_sem]) rfl ?_
        exact ⟨rfl, B1.out.below⟩
      · have hk : btK (m : Int) (toI ns) es = true := by rw [btK, hv, decide_eq_true (toI_ne hn)]; rfl
        rw [btS_in hk, btM_in hk, hk]
        obtain ⟨g1, _, _, j, hj, hS, hM, hM2⟩ := fst_idx (mu_nat es) hn
        have HSm := Lib.hid (fun v w h => specSmallest v (ns.map (mu es)) w h)
        rw [List.length_map, ← g1] at HSm
        have HIx := Lib.hid (fun v w h => specIndexInt v (ns.map (mu es)) (fstM (mu es) ns) j w h (by rw [List.length_map]; exact hj) hM hM2)
        have HRk := Lib.hid (fun w h hu => specRisks (.slice a ns.length cap) ns hc.lt32 hl m hm (.slice a2 es.length cap2) es hp h12 w h hu)
        have HLn := Lib.hid (show (ns.map (mu es)).length = ns.length by rw [List.length_map])
        rw [hS]
        generalize hxj : ns.getD j 0 = xj
        have HXj := Lib.hid hxj
        clear hxj
        have hl0 : 0 < ns.length := List.length_pos_iff.2 hn
        have hd0 : (((ns.length : Nat) : Int) == 0) = false := by simp; omega
        rw [hv] at HSa
        generalize fstM (mu es) ns = D at *
        generalize ns.map (mu es) = A at *
        clear hk hv hvd hc g1 hS hM hM2 hn hp
        go_enter Tryd.func32, Tryd.ntmps32
        go_wp2_with fail
        refine (HV.out _ (H.out.below (k := w.heap.size) (by go_grown) (Nat.le_refl _))).mono ?_
        rintro e w1 ⟨rfl, hb⟩
        have hs1 : w.heap.size < w1.heap.size := by have := hb.size; simp at this; omega
        have B1 := Lib.hid (B0.out.next (by simp) hb)
        clear hb
        have c0 := B1.out.at0
        have c1 := B1.out.at1
        go_wp2_with fail
        refine (HSa.out _ (HU.out.below B1.out.below (Nat.le_refl _))).mono ?_
        rintro e w3 ⟨rfl, hw3⟩
        subst w3
        go_wp2_with fail
        have c0 := B1.out.at0
        have c1 := B1.out.at1
        refine (HRk.out _ (H.out.below B1.out.below (Nat.le_refl _)) (HU.out.below B1.out.below (Nat.le_refl _))).mono ?_
        rintro e w4 ⟨a4, c4, rfl, hin4, hb4⟩
        rw [HLn.out] at hin4 ⊢
        have I4 := Lib.hid hin4
        have B4 := Lib.hid (B1.out.next hs1 hb4)
        clear hin4 hb4 c0 c1
        go_wp2_with fail
        refine (HSm.out _ _ I4.out.rd).mono ?_
        rintro e w5 ⟨rfl, rfl⟩
        have c0 := B4.out.at0
        have c1 := B4.out.at1
        have hcj := (B4.out.below.cell (p := ⟨b, off + j, none⟩) (H1.out (by omega)).2).trans (H5.out j (by omega))
        obtain ⟨rfl, -⟩ := H1.out (by omega)
        rw [toI_getD, HXj.out] at hcj
        go_wp2_with fail
        go_quiet ((go_at_call 81; exact Calls.quiet_of_same ((HIx.out _ _ ((I4.out.drewN _).rd)).mono (fun e w' h => And.intro h.1 h.2.symm))))
        go_wp2_with fail
        refine bodyPost_ret (v := .tuple #[.int .i64 (xj : Int), .int .i64 D, .bool true]) (by simp [results, Tryd.results32, go_sem]) rfl ?_
        exact ⟨rfl, below_drewN B4.out.below _⟩
    · rw [Bool.not_eq_true] at hv
      have hk : btK (m : Int) (toI ns) es = false := by rw [btK, hv]; rfl
      rw [btS_no hk, btM_no hk, hk]
      rw [hv] at HSa
      clear hk hv hvd hc
      go_enter Tryd.func32, Tryd.ntmps32
      go_wp2_with fail
      refine (HV.out _ (H.out.below (k := w.heap.size) (by go_grown) (Nat.le_refl _))).mono ?_
      rintro e w1 ⟨rfl, hb⟩
      have hs1 : w.heap.size < w1.heap.size := by have := hb.size; simp at this; omega
      have B1 := Lib.hid (B0.out.next (by simp) hb)
      clear hb
      have c0 := B1.out.at0
      have c1 := B1.out.at1
      go_wp2_with fail
      refine (HSa.out _ (HU.out.below B1.out.below (Nat.le_refl _))).mono ?_
      rintro e w3 ⟨rfl, hw3⟩
      subst w3
      go_wp2_with fail
      refine bodyPost_ret (v := .tuple #[.int .i64 0, .int .i64 0, .bool false]) (by simp [results, Tryd.results32, go_sem]) rfl ?_
      exact ⟨rfl, B1.out.below⟩
  · rw [Bool.not_eq_true] at hvd
    have hk : btK n zs es = false := by rw [btK, vsB_bad hvd]; rfl
    rw [btS_no hk, btM_no hk, hk]
    rw [hvd] at HV
    clear hvd hk
    go_enter Tryd.func32, Tryd.ntmps32
    go_wp2_with fail
    refine (HV.out _ (H.out.below (k := w.heap.size) (by go_grown) (Nat.le_refl _))).mono ?_
    rintro e w1 ⟨rfl, hb⟩
    have B1 := Lib.hid (B0.out.next (by simp) hb)
    clear hb
    go_wp2_with fail
    refine bodyPost_ret (v := .tuple #[.int .i64 0, .int .i64 0, .bool false]) (by simp [results, Tryd.results32, go_sem]) rfl ?_
    exact ⟨rfl, B1.out.below⟩

end Go.Proofs.YtiocaopabkbgpaaDoor
