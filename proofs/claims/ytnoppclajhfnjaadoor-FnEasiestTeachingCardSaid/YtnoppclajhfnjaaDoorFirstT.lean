/- FirstTeaching and TeachingNumber, the program's. Conditions: Sets is a slice of ints; the table setsWith is laid. -/
import Derived.Test.YtnoppclajhfnjaaDoorLeast
import Derived.Test.YtnoppclajhfnjaaDoorZC
namespace Go.Proofs.YtnoppclajhfnjaaDoor
open Go.RowKit Go.Shelf

/-- the first of the smallest sets of points that teach t; 0 for none -/
def fstNt (t : Nat) (l : List Nat) : Nat := (lmn (fun s => (pc s : Int)) (tcs t l)).1.getD 0 0
theorem fstN_none {t : Nat} {l : List Nat} (h : tcs t l = []) : fstNt t l = 0 := by rw [fstNt, h, lmn_nil]; rfl
theorem fstN_lt (t : Nat) (l : List Nat) : fstNt t l < 32 := by
  by_cases h : (lmn (fun s => (pc s : Int)) (tcs t l)).1 = []
  · rw [fstNt, h]; decide
  · have hl := List.length_pos_iff.2 h
    have := lmn_sub (getD_of_lt hl)
    rw [tcs, mem_flt] at this
    exact this.1

set_option maxRecDepth 100000 in
set_option maxHeartbeats 3200000 in
theorem implFstT (l : List Nat) (t : Nat) (h32 : ∀ u ∈ l, u < 32) (hp : l.Pairwise (· < ·)) (ht : t < 32) (w : World) (hsw : SW w) :
    Calls Tryd.prog 77 #[.int .u32 (fm l), .int .i64 (t : Int)] w fun e w' => e = .returned (.tuple #[.int .i64 ((fstNt t l : Nat) : Int), .bool (decide (tcs t l ≠ []))]) ∧ Below w.heap.size w w' := by
  have hb0 : Below w.heap.size w ((w.alloc (.cells #[.int .u32 (fm l)] 62)).alloc (.cells #[.int .i64 (t : Int)] 3)) := ((Below.refl _ w).alloc (Nat.le_refl _) _).alloc (by simp) _
  have c0 := (cell_new_l w (.int .u32 (fm l)) 62).1
  have c1 := (cell_new_l (w.alloc (.cells #[.int .u32 (fm l)] 62)) (.int .i64 (t : Int)) 3).1
  rw [World.size_alloc] at c1
  have c2 := cell_alloc_l (.cells #[.int .i64 (t : Int)] 3) c0
  have hcs : CS (csT w.heap.size (w.heap.size + 1) l t) ((w.alloc (.cells #[.int .u32 (fm l)] 62)).alloc (.cells #[.int .i64 (t : Int)] 3)) := fun p hp => by
    rcases List.mem_append.1 hp with h | h
    · exact ((sw_cs hsw).next hb0) p h
    · simp only [List.mem_cons, List.not_mem_nil, or_false] at h
      rcases h with rfl | rfl
      · exact c2
      · exact c1
  have HL := Lib.hid (implLeastSize 109 #[.pointer (some ⟨w.heap.size, 0, none⟩), .pointer (some ⟨w.heap.size + 1, 0, none⟩)] (csT w.heap.size (w.heap.size + 1) l t) (tcR (fun s => tch t s l) 32) (tcR_len _ _) _
    (enters_of Tryd.func109 (by kernel_rfl) rfl)
    (fun n w0 hn h0 => teachStops n hn w.heap.size (w.heap.size + 1) l t h32 hp ht w0 h0)
    (Lib.hid (fun x W _ => (implSizeOf x.val x.isLt W).mono (fun e w' h => ⟨h.1, by rw [← h.2]; exact Below.refl _ _⟩))) hcs)
  rw [show (tcR (fun s => tch t s l) 32).map Fin.val = tcs t l from tcR_all _] at HL
  have HN := Lib.hid (show fstNt t l = (lmn (fun s => (pc s : Int)) (tcs t l)).1.getD 0 0 from rfl)
  have HT := Lib.hid (implTeachings l t w)
  have HZ := Lib.hid (show decide (tcs t l ≠ []) = decide ((lmn (fun s => (pc s : Int)) (tcs t l)).1 ≠ []) by
    by_cases h : tcs t l = []
    · rw [h, lmn_nil]
    · rw [decide_eq_true h, decide_eq_true (lmn_ne h)])
  rw [HN.out, HZ.out]
  have HLn := Lib.hid (toI_length (lmn (fun s => (pc s : Int)) (tcs t l)).1)
  clear HN HZ hcs c0 c1 c2
  generalize (lmn (fun s => (pc s : Int)) (tcs t l)).1 = A at *
  by_cases hA : A = []
  · subst hA
    have HL2 := Lib.hid HL.out
    go_enter Tryd.func77, Tryd.ntmps77
    go_wp2_with fail
    refine HT.out.mono ?_
    rintro e w1 ⟨rfl, rfl⟩
    go_wp2_with fail
    refine HL2.out.mono ?_
    rintro e w2 ⟨a2, k2, rfl, hin, hb⟩
    have HB := Lib.hid (hb0.trans (hb.mono hb0.size))
    clear hin hb
    rw [show (toI []).length = 0 from rfl]
    go_wp2_with fail
    refine bodyPost_ret (v := .tuple #[.int .i64 0, .bool false]) (by simp [results, Tryd.results77, go_sem]) rfl ?_
    exact ⟨by simp, HB.out⟩
  · obtain ⟨k, hk⟩ : ∃ k, A.length = k + 1 := ⟨A.length - 1, by have := List.length_pos_iff.2 hA; omega⟩
    have hd1 : ((k : Int) + 1 == 0) = false := by simp; omega
    have hd2 : ¬ (k : Int) + 1 = 0 := by omega
    have hd3 : (0 : Int) < (k : Int) + 1 := by omega
    have hdA : decide (A ≠ []) = true := decide_eq_true hA
    rw [hdA]
    rw [hk] at HLn
    clear hA hdA hk
    go_enter Tryd.func77, Tryd.ntmps77
    go_wp2_with fail
    refine HT.out.mono ?_
    rintro e w1 ⟨rfl, rfl⟩
    go_wp2_with fail
    refine HL.out.mono ?_
    rintro e w2 ⟨a2, k2, rfl, hin, hb⟩
    have HB := Lib.hid (hb0.trans (hb.mono hb0.size))
    rw [HLn.out] at hin ⊢
    obtain ⟨ar, br, offr, capr, er, h1, h3, h5⟩ := hin.rd
    simp only [Value.slice.injEq] at er
    obtain ⟨rfl, -, rfl⟩ := er
    rw [HLn.out] at h1 h5
    obtain ⟨rfl, -⟩ := h1 (by omega)
    have hc := h5 0 (by omega)
    rw [toI_getD, Nat.add_zero] at hc
    clear hin hb h1 h5 h3
    generalize hx : A.getD 0 0 = x at hc
    have HX := Lib.hid hx
    clear hx
    go_wp2_with fail
    refine bodyPost_ret (v := .tuple #[.int .i64 (x : Int), .bool true]) (by simp [results, Tryd.results77, go_sem]) rfl ?_
    exact ⟨by rw [HX.out], HB.out⟩

/-- how many points it takes to teach t; -1 for none -/
def tnI (t : Nat) (l : List Nat) : Int := if tcs t l = [] then -1 else (pc (fstNt t l) : Int)

set_option maxRecDepth 100000 in
set_option maxHeartbeats 1600000 in
theorem implTnF (l : List Nat) (t : Nat) (h32 : ∀ u ∈ l, u < 32) (hp : l.Pairwise (· < ·)) (ht : t < 32) (w : World) (hsw : SW w) :
    Calls Tryd.prog 84 #[.int .u32 (fm l), .int .i64 (t : Int)] w fun e w' => e = .returned (.int .i64 (tnI t l)) ∧ Below w.heap.size w w' := by
  have HF := Lib.hid (implFstT l t h32 hp ht w hsw)
  have hx32 := fstN_lt t l
  by_cases h : tcs t l = []
  · have HE := Lib.hid (show tnI t l = -1 from if_pos h)
    rw [show decide (tcs t l ≠ []) = false by simp [h]] at HF
    rw [HE.out]
    clear h hsw
    generalize fstNt t l = x at *
    go_enter Tryd.func84, Tryd.ntmps84
    go_wp2_with fail
    refine HF.out.mono ?_
    rintro e w1 ⟨rfl, hb⟩
    go_wp2_with fail
    go_ret
    exact ⟨rfl, hb⟩
  · have HE := Lib.hid (show tnI t l = (pc (fstNt t l) : Int) from if_neg h)
    rw [show decide (tcs t l ≠ []) = true by simp [h]] at HF
    rw [HE.out]
    clear h hsw
    have HS := Lib.hid (fun w0 => implSizeOf (fstNt t l) hx32 w0)
    generalize fstNt t l = x at *
    go_enter Tryd.func84, Tryd.ntmps84
    go_wp2_with fail
    refine HF.out.mono ?_
    rintro e w1 ⟨rfl, hb⟩
    go_wp2_with fail
    refine (HS.out _).mono ?_
    rintro e w2 ⟨rfl, rfl⟩
    go_wp2_with fail
    go_ret
    exact ⟨rfl, hb⟩

/-- whether t is one of the sets of a valid class; the fewest points that teach it -/
def ftK (n : Int) (zs : List Int) (t : Int) : Bool := vldB n zs && hasB zs t
def ftB (n : Int) (zs : List Int) (t : Int) : Int := if ftK n zs t = true then ((ftN n.toNat t.toNat (zs.map Int.toNat) : Nat) : Int) else 0
def tnB (n : Int) (zs : List Int) (t : Int) : Int := if ftK n zs t = true then (pc (ftN n.toNat t.toNat (zs.map Int.toNat)) : Int) else -1
theorem ftK_out {n : Int} {zs : List Int} {t : Int} (h : inB n zs t = false) : ftK n zs t = false := by
  by_cases hv : vldB n zs = true
  · obtain ⟨m, ns, rfl, rfl, hc⟩ := vldB_cls hv
    have ht : setB m t = false := by rw [inB, hv] at h; exact h
    rw [ftK, hv, Bool.true_and]
    simp only [hasB, decide_eq_false_iff_not]
    intro hm
    obtain ⟨u, hu, rfl⟩ := List.mem_map.1 hm
    have h2 := hc.lt u hu
    have h3 : ((2 ^ m : Nat) : Int) = (2 : Int) ^ m := by simp
    simp only [setB, Bool.and_eq_false_iff, decide_eq_false_iff_not] at ht
    omega
  · rw [Bool.not_eq_true] at hv
    rw [ftK, hv]
    rfl
theorem ft_vals {m : Nat} {ns : List Nat} (hc : Cls m ns) (hv : vldB m (toI ns) = true) (u : Nat) : ftK (m : Int) (toI ns) (u : Int) = decide (tcs u ns ≠ []) ∧ ftB (m : Int) (toI ns) (u : Int) = (fstNt u ns : Nat) ∧ tnB (m : Int) (toI ns) (u : Int) = tnI u ns := by
  have hk : ftK (m : Int) (toI ns) (u : Int) = decide (u ∈ ns) := by rw [ftK, hv, Bool.true_and, hasB_nat]
  by_cases h : u ∈ ns
  · obtain ⟨h1, h2, _⟩ := ft_eq hc h
    have h1' : fstNt u ns = ftN m u ns := h1
    rw [ftB, tnB, tnI, hk, if_pos (decide_eq_true h), if_pos (decide_eq_true h), if_neg h2, Int.toNat_natCast, Int.toNat_natCast, toNat_toI, h1']
    exact ⟨by simp [h, h2], rfl, rfl⟩
  · have h2 := tcs_none h
    rw [ftB, tnB, tnI, hk, if_neg (by simp [h]), if_neg (by simp [h]), if_pos h2, fstN_none h2]
    exact ⟨by simp [h, h2], rfl, rfl⟩

set_option maxRecDepth 100000 in
set_option maxHeartbeats 3200000 in
theorem implFirstTeaching (n : Int) (v : Value) (zs : List Int) (t : Int) (w : World) (h : Rd w v zs) (hsw : SW w) :
    Calls Tryd.prog 29 #[.agg #[.int .i64 n, v], .int .i64 t] w fun e w' => e = .returned (.tuple #[.int .i64 (ftB n zs t), .bool (ftK n zs t)]) ∧ Below w.heap.size w w' := by
  have H := Lib.hid h
  have HSW := Lib.hid hsw
  clear hsw
  have HI := Lib.hid (fun w0 h0 => implIsSetOf n v zs t w0 h0)
  obtain ⟨a, b, off, cap, rfl, _, _, _⟩ := h
  by_cases hin : inB n zs t = true
  · have hv : vldB n zs = true := by simp only [inB, Bool.and_eq_true] at hin; exact hin.1
    obtain ⟨m, ns, rfl, rfl, hc⟩ := vldB_cls hv
    have hm := hc.pts
    have ht : setB m t = true := by simp only [inB, Bool.and_eq_true, Int.toNat_natCast] at hin; exact hin.2
    obtain ⟨u, rfl, hu, hu32⟩ := setB_nat hm ht
    rw [hin] at HI
    have HF := Lib.hid (fun w0 h0 => implFamilyOf (m : Int) (.slice a (toI ns).length cap) ns hc.lt32 w0 h0)
    have HX := Lib.hid (fun w0 h0 => implFstT ns u hc.lt32 hc.asc hu32 w0 h0)
    rw [(ft_vals hc hv u).1, (ft_vals hc hv u).2.1]
    clear hc hv ht hin
    generalize fstNt u ns = x at *
    generalize decide (tcs u ns ≠ []) = q at *
    go_enter Tryd.func29, Tryd.ntmps29
    go_wp2_with fail
    refine (HI.out _ (H.out.below (by go_grown) (Nat.le_refl _))).mono ?_
    rintro e w1 ⟨rfl, hb⟩
    have B1 := Lib.hid ((Box.made (m : Int) (.slice a (toI ns).length cap) w _).next (by simp) hb)
    have hs1 : w.heap.size < w1.heap.size := by have := hb.size; simp at this; omega
    clear hb
    have c0 := B1.out.at0
    have c1 := B1.out.at1
    go_wp2_with fail
    refine (HF.out _ (H.out.below B1.out.below (Nat.le_refl _))).mono ?_
    rintro e w3 ⟨rfl, hb⟩
    have B3 := Lib.hid (B1.out.next hs1 hb)
    clear hb c0 c1 B1
    go_wp2_with fail
    refine (HX.out _ (HSW.out.next B3.out.below)).mono ?_
    rintro e w4 ⟨rfl, hb⟩
    have HB := Lib.hid (B3.out.below.trans (hb.mono B3.out.below.size))
    clear hb
    go_wp2_with fail
    refine bodyPost_ret (v := .tuple #[.int .i64 (x : Int), .bool q]) (by simp [results, Tryd.results29, go_sem]) rfl ?_
    exact ⟨rfl, HB.out⟩
  · rw [Bool.not_eq_true] at hin
    have h2 := ftK_out hin
    rw [(show ftB n zs t = 0 by rw [ftB, if_neg (by rw [h2]; simp)]), h2]
    rw [hin] at HI
    clear h2 hin
    go_enter Tryd.func29, Tryd.ntmps29
    go_wp2_with fail
    refine (HI.out _ (H.out.below (by go_grown) (Nat.le_refl _))).mono ?_
    rintro e w1 ⟨rfl, hb⟩
    have B1 := Lib.hid ((Box.made n (.slice a zs.length cap) w _).next (by simp) hb)
    clear hb
    go_wp2_with fail
    refine bodyPost_ret (v := .tuple #[.int .i64 0, .bool false]) (by simp [results, Tryd.results29, go_sem]) rfl ?_
    exact ⟨rfl, B1.out.below⟩


end Go.Proofs.YtnoppclajhfnjaaDoor
