/- UnionClass and MeetClass, the program's and the model's. Conditions: the classes' Sets are slices of ints; the model's are owned. -/
import Derived.Deep.RegionHeld3
import Derived.Test.YtpcjecahplglfabComplS
import Derived.Test.YtpcjecahplglfabInAt
import Derived.Test.YtpcjecahplglfabKeepM
import Derived.Test.YtpcjecahplglfabTidy
import Derived.Test.YtpcjecahplglfabZD
namespace Go.Proofs.Ytpcjecahplglfab
open Go.RowKit

theorem SrcB.below {w w' : World} {a : Option Addr} {m c : Nat} {ms : List Int} (h : Src w a m c ms) (hb : Below w.heap.size w w') : Src w' a m c ms := by
  obtain ⟨h1, h2, h3⟩ := h
  refine ⟨h1, h2, fun ad had j hj => ?_⟩
  have hc := h3 ad had j hj
  exact (hb.cell (World.block_lt_of_cell? w _ hc)).trans hc
theorem atL_one {m : Nat} {xs ys : List Nat} (hm : m ≤ 5) (hx : ∀ t ∈ xs, t < 2 ^ m) (hy : ∀ t ∈ ys, t < 2 ^ m) : atL 1 m xs ys = tidyL (xs ++ ys) := by
  rw [← range_tidy hm (l := xs ++ ys) (fun t ht => (List.mem_append.1 ht).elim (hx t) (hy t))]
  unfold atL
  apply List.filter_congr
  intro x _
  rw [decide_eq_decide, List.mem_append]
  unfold cnt2
  by_cases h1 : x ∈ xs <;> by_cases h2 : x ∈ ys <;> simp [h1, h2]
theorem atL_two {m : Nat} {xs ys : List Nat} (hx : Cls m xs) : atL 2 m xs ys = xs.filter (fun x => decide (x ∈ ys)) := by
  refine asc_ext ((range_asc _).filter _) (hx.asc.filter _) (fun x => ?_)
  rw [atL, List.mem_filter, List.mem_filter, List.mem_range, decide_eq_true_eq, decide_eq_true_eq]
  unfold cnt2
  constructor
  · rintro ⟨_, h⟩
    by_cases h1 : x ∈ xs <;> by_cases h2 : x ∈ ys
    · exact ⟨h1, h2⟩
    · rw [if_pos h1, if_neg h2] at h; omega
    · rw [if_neg h1, if_pos h2] at h; omega
    · rw [if_neg h1, if_neg h2] at h; omega
  · rintro ⟨h1, h2⟩
    exact ⟨hx.lt x h1, by rw [if_pos h1, if_pos h2]; omega⟩

set_option maxRecDepth 100000 in
set_option maxHeartbeats 3200000 in
theorem implUnionClass (na : Int) (va : Value) (xs : List Int) (nb : Int) (vb : Value) (ys : List Int) (w : World) (ha : Rd w va xs) (hb : Rd w vb ys) :
    Calls Try.prog 15 #[.agg #[.int .i64 na, va], .agg #[.int .i64 nb, vb]] w (RetCB (iaN na xs nb ys) (iaL 1 na xs nb ys) (twoB na xs nb ys) w) := by
  have HA := Lib.hid ha
  have HB := Lib.hid hb
  obtain ⟨a, ba, offa, ca, rfl, _, _, _⟩ := ha
  obtain ⟨b, bb, offb, cb, rfl, _, _, _⟩ := hb
  have B := Lib.hid (show Below w.heap.size w ((((w.alloc (Obj.cells #[.int .i64 na, .slice a xs.length ca] 26)).alloc (Obj.cells #[.int .i64 nb, .slice b ys.length cb] 26)).alloc (Obj.cells #[.int .i64 0, .slice none 0 0] 26)).alloc (Obj.cells #[.int .i64 na, .slice a xs.length ca, .int .i64 nb, .slice b ys.length cb] 26)) from ((((Below.refl _ _).alloc (Nat.le_refl _) _).alloc (by simp) _).alloc (by simp; omega) _).alloc (by simp; omega) _)
  have HZ := Lib.hid (show ((((w.alloc (Obj.cells #[.int .i64 na, .slice a xs.length ca] 26)).alloc (Obj.cells #[.int .i64 nb, .slice b ys.length cb] 26)).alloc (Obj.cells #[.int .i64 0, .slice none 0 0] 26)).alloc (Obj.cells #[.int .i64 na, .slice a xs.length ca, .int .i64 nb, .slice b ys.length cb] 26)).heap.size = w.heap.size + 4 by simp)
  have Y := Lib.hid (show Bx 0 (.slice none 0 0) (w.heap.size + 2) ((((w.alloc (Obj.cells #[.int .i64 na, .slice a xs.length ca] 26)).alloc (Obj.cells #[.int .i64 nb, .slice b ys.length cb] 26)).alloc (Obj.cells #[.int .i64 0, .slice none 0 0] 26)).alloc (Obj.cells #[.int .i64 na, .slice a xs.length ca, .int .i64 nb, .slice b ys.length cb] 26)) from (show Bx 0 (.slice none 0 0) (w.heap.size + 2) (((w.alloc (Obj.cells #[.int .i64 na, .slice a xs.length ca] 26)).alloc (Obj.cells #[.int .i64 nb, .slice b ys.length cb] 26)).alloc (Obj.cells #[.int .i64 0, .slice none 0 0] 26)) from heap_alloc_at (by simp)).alloc _)
  have E0 := Lib.hid (show ((((w.alloc (Obj.cells #[.int .i64 na, .slice a xs.length ca] 26)).alloc (Obj.cells #[.int .i64 nb, .slice b ys.length cb] 26)).alloc (Obj.cells #[.int .i64 0, .slice none 0 0] 26)).alloc (Obj.cells #[.int .i64 na, .slice a xs.length ca, .int .i64 nb, .slice b ys.length cb] 26)).cell? ⟨w.heap.size + 3, 0, none⟩ = some (.int .i64 na) by rw [World.cell?_alloc_at _ _ _ _ (by simp)]; rfl)
  have E1 := Lib.hid (show ((((w.alloc (Obj.cells #[.int .i64 na, .slice a xs.length ca] 26)).alloc (Obj.cells #[.int .i64 nb, .slice b ys.length cb] 26)).alloc (Obj.cells #[.int .i64 0, .slice none 0 0] 26)).alloc (Obj.cells #[.int .i64 na, .slice a xs.length ca, .int .i64 nb, .slice b ys.length cb] 26)).cell? ⟨w.heap.size + 3, 1, none⟩ = some (.slice a xs.length ca) by rw [World.cell?_alloc_at _ _ _ _ (by simp)]; rfl)
  have E2 := Lib.hid (show ((((w.alloc (Obj.cells #[.int .i64 na, .slice a xs.length ca] 26)).alloc (Obj.cells #[.int .i64 nb, .slice b ys.length cb] 26)).alloc (Obj.cells #[.int .i64 0, .slice none 0 0] 26)).alloc (Obj.cells #[.int .i64 na, .slice a xs.length ca, .int .i64 nb, .slice b ys.length cb] 26)).cell? ⟨w.heap.size + 3, 2, none⟩ = some (.int .i64 nb) by rw [World.cell?_alloc_at _ _ _ _ (by simp)]; rfl)
  have E3 := Lib.hid (show ((((w.alloc (Obj.cells #[.int .i64 na, .slice a xs.length ca] 26)).alloc (Obj.cells #[.int .i64 nb, .slice b ys.length cb] 26)).alloc (Obj.cells #[.int .i64 0, .slice none 0 0] 26)).alloc (Obj.cells #[.int .i64 na, .slice a xs.length ca, .int .i64 nb, .slice b ys.length cb] 26)).cell? ⟨w.heap.size + 3, 3, none⟩ = some (.slice b ys.length cb) by rw [World.cell?_alloc_at _ _ _ _ (by simp)]; rfl)
  have HL := Lib.hid (fun W ha hb c0 c1 c2 c3 => implInAtLeast 1 na (.slice a xs.length ca) xs nb (.slice b ys.length cb) ys (w.heap.size + 3) W ha hb c0 c1 c2 c3)
  generalize iaN na xs nb ys = N at *
  generalize iaL 1 na xs nb ys = R at *
  generalize twoB na xs nb ys = K at *
  go_enter Try.func15, Try.ntmps15
  go_wp2_with fail
  generalize ((((w.alloc (Obj.cells #[.int .i64 na, .slice a xs.length ca] 26)).alloc (Obj.cells #[.int .i64 nb, .slice b ys.length cb] 26)).alloc (Obj.cells #[.int .i64 0, .slice none 0 0] 26)).alloc (Obj.cells #[.int .i64 na, .slice a xs.length ca, .int .i64 nb, .slice b ys.length cb] 26)) = W at *
  have hz0 : w.heap.size + 4 ≤ W.heap.size := by have := HZ.out; omega
  refine (HL.out _ (HA.out.below B.out (Nat.le_refl _)) (HB.out.below B.out (Nat.le_refl _)) E0.out E1.out E2.out E3.out).mono ?_
  rintro e w2 ⟨a2, c2, rfl, hin2, hb2⟩
  have Y2 := Lib.hid (Y.out.next hb2 (by omega))
  have B2 := Lib.hid (B.out.trans (hb2.mono (by omega)))
  have I2 := Lib.hid hin2
  clear hin2 hb2
  have r0 := Y2.out.out.at0
  have r1 := Y2.out.out.at1
  have q0 := Y2.out.out.free0
  have q1 := Y2.out.out.free1
  go_wp2_with fail
  refine bodyPost_ret (v := .tuple #[.agg #[.int .i64 N, .slice a2 R.length c2], .bool K]) (by simp [results, Try.results15, go_sem, r0, r1]) rfl ?_
  refine ⟨a2, c2, rfl, ?_, ?_⟩
  · refine Ints.mono (B := W.heap.size) ?_ (by omega)
    repeat (refine Ints.setCell_below ?_ (by simp; try omega) _)
    exact I2.out
  · have hb0 := B2.out
    clear r0 r1 q0 q1
    go_grown

set_option maxRecDepth 100000 in
set_option maxHeartbeats 3200000 in
theorem implMeetClass (na : Int) (va : Value) (xs : List Int) (nb : Int) (vb : Value) (ys : List Int) (w : World) (ha : Rd w va xs) (hb : Rd w vb ys) :
    Calls Try.prog 21 #[.agg #[.int .i64 na, va], .agg #[.int .i64 nb, vb]] w (RetCB (iaN na xs nb ys) (iaL 2 na xs nb ys) (twoB na xs nb ys) w) := by
  have HA := Lib.hid ha
  have HB := Lib.hid hb
  obtain ⟨a, ba, offa, ca, rfl, _, _, _⟩ := ha
  obtain ⟨b, bb, offb, cb, rfl, _, _, _⟩ := hb
  have B := Lib.hid (show Below w.heap.size w ((((w.alloc (Obj.cells #[.int .i64 na, .slice a xs.length ca] 26)).alloc (Obj.cells #[.int .i64 nb, .slice b ys.length cb] 26)).alloc (Obj.cells #[.int .i64 0, .slice none 0 0] 26)).alloc (Obj.cells #[.int .i64 na, .slice a xs.length ca, .int .i64 nb, .slice b ys.length cb] 26)) from ((((Below.refl _ _).alloc (Nat.le_refl _) _).alloc (by simp) _).alloc (by simp; omega) _).alloc (by simp; omega) _)
  have HZ := Lib.hid (show ((((w.alloc (Obj.cells #[.int .i64 na, .slice a xs.length ca] 26)).alloc (Obj.cells #[.int .i64 nb, .slice b ys.length cb] 26)).alloc (Obj.cells #[.int .i64 0, .slice none 0 0] 26)).alloc (Obj.cells #[.int .i64 na, .slice a xs.length ca, .int .i64 nb, .slice b ys.length cb] 26)).heap.size = w.heap.size + 4 by simp)
  have Y := Lib.hid (show Bx 0 (.slice none 0 0) (w.heap.size + 2) ((((w.alloc (Obj.cells #[.int .i64 na, .slice a xs.length ca] 26)).alloc (Obj.cells #[.int .i64 nb, .slice b ys.length cb] 26)).alloc (Obj.cells #[.int .i64 0, .slice none 0 0] 26)).alloc (Obj.cells #[.int .i64 na, .slice a xs.length ca, .int .i64 nb, .slice b ys.length cb] 26)) from (show Bx 0 (.slice none 0 0) (w.heap.size + 2) (((w.alloc (Obj.cells #[.int .i64 na, .slice a xs.length ca] 26)).alloc (Obj.cells #[.int .i64 nb, .slice b ys.length cb] 26)).alloc (Obj.cells #[.int .i64 0, .slice none 0 0] 26)) from heap_alloc_at (by simp)).alloc _)
  have E0 := Lib.hid (show ((((w.alloc (Obj.cells #[.int .i64 na, .slice a xs.length ca] 26)).alloc (Obj.cells #[.int .i64 nb, .slice b ys.length cb] 26)).alloc (Obj.cells #[.int .i64 0, .slice none 0 0] 26)).alloc (Obj.cells #[.int .i64 na, .slice a xs.length ca, .int .i64 nb, .slice b ys.length cb] 26)).cell? ⟨w.heap.size + 3, 0, none⟩ = some (.int .i64 na) by rw [World.cell?_alloc_at _ _ _ _ (by simp)]; rfl)
  have E1 := Lib.hid (show ((((w.alloc (Obj.cells #[.int .i64 na, .slice a xs.length ca] 26)).alloc (Obj.cells #[.int .i64 nb, .slice b ys.length cb] 26)).alloc (Obj.cells #[.int .i64 0, .slice none 0 0] 26)).alloc (Obj.cells #[.int .i64 na, .slice a xs.length ca, .int .i64 nb, .slice b ys.length cb] 26)).cell? ⟨w.heap.size + 3, 1, none⟩ = some (.slice a xs.length ca) by rw [World.cell?_alloc_at _ _ _ _ (by simp)]; rfl)
  have E2 := Lib.hid (show ((((w.alloc (Obj.cells #[.int .i64 na, .slice a xs.length ca] 26)).alloc (Obj.cells #[.int .i64 nb, .slice b ys.length cb] 26)).alloc (Obj.cells #[.int .i64 0, .slice none 0 0] 26)).alloc (Obj.cells #[.int .i64 na, .slice a xs.length ca, .int .i64 nb, .slice b ys.length cb] 26)).cell? ⟨w.heap.size + 3, 2, none⟩ = some (.int .i64 nb) by rw [World.cell?_alloc_at _ _ _ _ (by simp)]; rfl)
  have E3 := Lib.hid (show ((((w.alloc (Obj.cells #[.int .i64 na, .slice a xs.length ca] 26)).alloc (Obj.cells #[.int .i64 nb, .slice b ys.length cb] 26)).alloc (Obj.cells #[.int .i64 0, .slice none 0 0] 26)).alloc (Obj.cells #[.int .i64 na, .slice a xs.length ca, .int .i64 nb, .slice b ys.length cb] 26)).cell? ⟨w.heap.size + 3, 3, none⟩ = some (.slice b ys.length cb) by rw [World.cell?_alloc_at _ _ _ _ (by simp)]; rfl)
  have HL := Lib.hid (fun W ha hb c0 c1 c2 c3 => implInAtLeast 2 na (.slice a xs.length ca) xs nb (.slice b ys.length cb) ys (w.heap.size + 3) W ha hb c0 c1 c2 c3)
  generalize iaN na xs nb ys = N at *
  generalize iaL 2 na xs nb ys = R at *
  generalize twoB na xs nb ys = K at *
  go_enter Try.func21, Try.ntmps21
  go_wp2_with fail
  generalize ((((w.alloc (Obj.cells #[.int .i64 na, .slice a xs.length ca] 26)).alloc (Obj.cells #[.int .i64 nb, .slice b ys.length cb] 26)).alloc (Obj.cells #[.int .i64 0, .slice none 0 0] 26)).alloc (Obj.cells #[.int .i64 na, .slice a xs.length ca, .int .i64 nb, .slice b ys.length cb] 26)) = W at *
  have hz0 : w.heap.size + 4 ≤ W.heap.size := by have := HZ.out; omega
  refine (HL.out _ (HA.out.below B.out (Nat.le_refl _)) (HB.out.below B.out (Nat.le_refl _)) E0.out E1.out E2.out E3.out).mono ?_
  rintro e w2 ⟨a2, c2, rfl, hin2, hb2⟩
  have Y2 := Lib.hid (Y.out.next hb2 (by omega))
  have B2 := Lib.hid (B.out.trans (hb2.mono (by omega)))
  have I2 := Lib.hid hin2
  clear hin2 hb2
  have r0 := Y2.out.out.at0
  have r1 := Y2.out.out.at1
  have q0 := Y2.out.out.free0
  have q1 := Y2.out.out.free1
  go_wp2_with fail
  refine bodyPost_ret (v := .tuple #[.agg #[.int .i64 N, .slice a2 R.length c2], .bool K]) (by simp [results, Try.results21, go_sem, r0, r1]) rfl ?_
  refine ⟨a2, c2, rfl, ?_, ?_⟩
  · refine Ints.mono (B := W.heap.size) ?_ (by omega)
    repeat (refine Ints.setCell_below ?_ (by simp; try omega) _)
    exact I2.out
  · have hb0 := B2.out
    clear r0 r1 q0 q1
    go_grown

set_option maxRecDepth 100000 in
set_option maxHeartbeats 6400000 in
theorem specUnionClass (na : Int) (va : Value) (xs : List Int) (nb : Int) (vb : Value) (ys : List Int) (w : World) (ha : ∃ B, Ints B w va xs) (hb : ∃ B, Ints B w vb ys) :
    Calls Try.prog 13 #[.agg #[.int .i64 na, va], .agg #[.int .i64 nb, vb]] w (RetCB (iaN na xs nb ys) (iaL 1 na xs nb ys) (twoB na xs nb ys) w) := by
  obtain ⟨_, hia⟩ := ha
  obtain ⟨_, hib⟩ := hb
  have HA := Lib.hid hia.rd
  have HB := Lib.hid hib.rd
  have HVA := Lib.hid (fun w h => specValid na va xs w h)
  have HVB := Lib.hid (fun w h => specValid nb vb ys w h)
  obtain ⟨a, _, ca, rfl, _, sa2, _⟩ := hia.shape
  obtain ⟨b, _, cb, rfl, _, sb2, _⟩ := hib.shape
  have SA := Lib.hid (hia.rd.src (fun e => ⟨by rw [(sa2 e).1]; rfl, (sa2 e).2⟩))
  have SB := Lib.hid (hib.rd.src (fun e => ⟨by rw [(sb2 e).1]; rfl, (sb2 e).2⟩))
  clear hia hib sa2 sb2
  have B := Lib.hid (show Below w.heap.size w (((w.alloc (Obj.cells #[.int .i64 na, .slice a xs.length ca] 26)).alloc (Obj.cells #[.int .i64 nb, .slice b ys.length cb] 26)).alloc (Obj.cells #[.int .i64 0, .slice none 0 0] 26)) from (((Below.refl _ _).alloc (Nat.le_refl _) _).alloc (by simp) _).alloc (by simp; omega) _)
  have HZ := Lib.hid (show (((w.alloc (Obj.cells #[.int .i64 na, .slice a xs.length ca] 26)).alloc (Obj.cells #[.int .i64 nb, .slice b ys.length cb] 26)).alloc (Obj.cells #[.int .i64 0, .slice none 0 0] 26)).heap.size = w.heap.size + 3 by simp)
  have Y := Lib.hid (show Bx 0 (.slice none 0 0) (w.heap.size + 2) (((w.alloc (Obj.cells #[.int .i64 na, .slice a xs.length ca] 26)).alloc (Obj.cells #[.int .i64 nb, .slice b ys.length cb] 26)).alloc (Obj.cells #[.int .i64 0, .slice none 0 0] 26)) from heap_alloc_at (by simp))
  have XA := Lib.hid (show Bx na (.slice a xs.length ca) w.heap.size (((w.alloc (Obj.cells #[.int .i64 na, .slice a xs.length ca] 26)).alloc (Obj.cells #[.int .i64 nb, .slice b ys.length cb] 26)).alloc (Obj.cells #[.int .i64 0, .slice none 0 0] 26)) from ((Bx.new na (.slice a xs.length ca) w).alloc _).alloc _)
  have XB := Lib.hid (show Bx nb (.slice b ys.length cb) (w.heap.size + 1) (((w.alloc (Obj.cells #[.int .i64 na, .slice a xs.length ca] 26)).alloc (Obj.cells #[.int .i64 nb, .slice b ys.length cb] 26)).alloc (Obj.cells #[.int .i64 0, .slice none 0 0] 26)) from (show Bx nb (.slice b ys.length cb) (w.heap.size + 1) ((w.alloc (Obj.cells #[.int .i64 na, .slice a xs.length ca] 26)).alloc (Obj.cells #[.int .i64 nb, .slice b ys.length cb] 26)) from heap_alloc_at (by simp)).alloc _)
  by_cases hva : vldB na xs = true
  · rw [hva] at HVA
    by_cases hvb : vldB nb ys = true
    · rw [hvb] at HVB
      by_cases he : nb = na
      · subst he
        obtain ⟨m, ns, rfl, rfl, hca⟩ := vldB_cls hva
        obtain ⟨m2, ms, hm2, rfl, hcb⟩ := vldB_cls hvb
        obtain rfl : m2 = m := by omega
        have hm := hca.pts
        have hla := hca.length
        have hlb := hcb.length
        have ht : twoB (m2 : Int) (toI ns) (m2 : Int) (toI ms) = true := by rw [twoB, hva, hvb, decide_eq_true rfl]; rfl
        rw [show iaN (m2 : Int) (toI ns) (m2 : Int) (toI ms) = m2 by rw [iaN, if_pos ht], show iaL 1 (m2 : Int) (toI ns) (m2 : Int) (toI ms) = toI (atL 1 m2 ns ms) by rw [iaL, if_pos ht, toNat_toI, toNat_toI, Int.toNat_natCast], ht]
        rw [toI_length ns] at *
        rw [toI_length ms] at *
        have hd0 : ((m2 : Int) != (m2 : Int)) = false := by simp
        clear hm2
        have HT := Lib.hid (fun v w h => specTidy v (ns ++ ms) w (fun t ht => (List.mem_append.1 ht).elim (hca.lt32 t) (hcb.lt32 t)) (by rw [List.length_append]; omega) h)
        rw [atL_one hm hca.lt hcb.lt]
        have HGl := Lib.hid (toI_length (tidyL (ns ++ ms)))
        have HAp := Lib.hid (toI_append ns ms)
        have HAl := Lib.hid (toI_length ns)
        have HBl := Lib.hid (toI_length ms)
        rw [HAp.out] at HT
        generalize tidyL (ns ++ ms) = G at *
        clear hva hvb ht hca hcb
        go_enter Try.func13, Try.ntmps13
        go_wp2_with fail
        generalize (((w.alloc (Obj.cells #[.int .i64 (m2 : Int), .slice a ns.length ca] 26)).alloc (Obj.cells #[.int .i64 (m2 : Int), .slice b ms.length cb] 26)).alloc (Obj.cells #[.int .i64 0, .slice none 0 0] 26)) = W at *
        have hz0 : w.heap.size + 3 ≤ W.heap.size := by have := HZ.out; omega
        clear HZ
        have p0 := XA.out.out.at0
        have p1 := XA.out.out.at1
        have p2 := XB.out.out.at0
        have p3 := XB.out.out.at1
        refine (HVA.out _ (HA.out.below B.out (Nat.le_refl _))).mono ?_
        rintro e w1 ⟨rfl, hb1⟩
        have hz1 := hb1.size
        replace XA := Lib.hid (XA.out.next hb1 (by omega))
        replace XB := Lib.hid (XB.out.next hb1 (by omega))
        replace Y := Lib.hid (Y.out.next hb1 (by omega))
        replace B := Lib.hid (B.out.trans (hb1.mono (by omega)))
        clear hb1
        clear p0 p1 p2 p3
        have p0 := XA.out.out.at0
        have p1 := XA.out.out.at1
        have p2 := XB.out.out.at0
        have p3 := XB.out.out.at1
        go_wp2_with fail
        refine (HVB.out _ (HB.out.below B.out (Nat.le_refl _))).mono ?_
        rintro e w2 ⟨rfl, hb2⟩
        have hz2 := hb2.size
        replace XA := Lib.hid (XA.out.next hb2 (by omega))
        replace XB := Lib.hid (XB.out.next hb2 (by omega))
        replace Y := Lib.hid (Y.out.next hb2 (by omega))
        replace B := Lib.hid (B.out.trans (hb2.mono (by omega)))
        clear hb2
        clear p0 p1 p2 p3
        have p0 := XA.out.out.at0
        have p1 := XA.out.out.at1
        have p2 := XB.out.out.at0
        have p3 := XB.out.out.at1
        go_wp2_with fail
        have SW := Lib.hid (SA.out)
        have HzW : w.heap.size + 3 ≤ w2.heap.size := by omega
        go_region_held3 (fun w' => w'.cell? ⟨w.heap.size, 0, none⟩ = some (.int .i64 (m2 : Int)) ∧ w'.cell? ⟨w.heap.size, 1, none⟩ = some (.slice a ns.length ca) ∧ w'.cell? ⟨w.heap.size + 1, 1, none⟩ = some (.slice b ms.length cb)) (first | exact ⟨p0, p1, p3⟩ | exact ⟨r0_, r1_, r3_⟩ | exact ⟨s0_, s1_, s3_⟩ | exact ⟨t0_, t1_, t3_⟩ | exact ⟨(World.cell?_setCell_other _ _ _ _ (by simp)).trans ((World.cell?_setCell_other _ _ _ _ (by simp)).trans t0_), (World.cell?_setCell_other _ _ _ _ (by simp)).trans ((World.cell?_setCell_other _ _ _ _ (by simp)).trans t1_), (World.cell?_setCell_other _ _ _ _ (by simp)).trans ((World.cell?_setCell_other _ _ _ _ (by simp)).trans t3_)⟩ | go_keep) (first
          | (refine step_app rfl (.tmp 24) (.tmp 26) rfl w2.heap.size _ [] rfl (by first | exact Ints.lit' (by simp) (by simp) | exact (Ints.lit' (by simp) (by simp)).alloc _) _ _ _ (toI ns) rfl (by exact SrcB.below SA.out (by first | exact B.out.trans (by go_grown) | exact B.out.trans (Below.mono (by go_grown) (by omega)))) (by simp; omega) (by first | (simp; done) | (simp; omega)) ?_; intro a5 c5 w5 hin5 hb5 hg5; have B5 := Lib.hid (show Below w2.heap.size w2 w5 from Below.trans (by first | exact (Below.refl _ _).drew.alloc (by simp) _ | exact (Below.refl _ _).alloc (Nat.le_refl _) _ | go_grown) hb5); have I5 := Lib.hid hin5; have hz5 := B5.out.size; clear hin5 hb5 hg5; have r0_ := (XA.out.next B5.out (by omega)).out.at0; have r1_ := (XA.out.next B5.out (by omega)).out.at1; have r3_ := (XB.out.next B5.out (by omega)).out.at1)
          | (refine step_app rfl (.tmp 27) (.tmp 29) rfl w2.heap.size _ (toI ns) rfl (by exact I5.out) _ _ _ (toI ms) rfl (by exact SrcB.below SB.out (B.out.trans (B5.out.mono (by omega)))) (by rw [HAl.out]; omega) (by first | exact B5.out.size | (simp; omega)) ?_; intro a6 c6 w6 hin6 hb6 hg6; have B6 := Lib.hid (B5.out.trans hb6); have I6 := Lib.hid hin6; have hz6 := B6.out.size; clear hin6 hb6 hg6; have s0_ := (XA.out.next B6.out (by omega)).out.at0; have s1_ := (XA.out.next B6.out (by omega)).out.at1; have s3_ := (XB.out.next B6.out (by omega)).out.at1)
          | (go_at_call 43; refine (HT.out _ _ (by exact I6.out.rd)).mono ?_; rintro e w7 ⟨a7, c7, rfl, hin7, hb7⟩; rw [HGl.out] at hin7 ⊢; have B7 := Lib.hid (B6.out.trans (hb7.mono hz6)); have I7 := Lib.hid (hin7.mono hz6); have Y7 := Lib.hid (Y.out.next B7.out (by omega)); have hz7 := B7.out.size; clear hin7 hb7; have t0_ := (XA.out.next B7.out (by omega)).out.at0; have t1_ := (XA.out.next B7.out (by omega)).out.at1; have t3_ := (XB.out.next B7.out (by omega)).out.at1; have r0 := Y7.out.out.at0; have r1 := Y7.out.out.at1; have q0 := Y7.out.out.free0; have q1 := Y7.out.out.free1))
        go_wp2_with fail
        refine bodyPost_ret (v := .tuple #[.agg #[.int .i64 (m2 : Int), .slice a7 G.length c7], .bool true]) (by simp [results, Try.results13, go_sem, r0, r1]) rfl ?_
        refine ⟨a7, c7, by rw [HGl.out], ?_, ?_⟩
        · rw [HGl.out]
          refine Ints.mono (B := w2.heap.size) ?_ (by omega)
          repeat (refine Ints.setCell_below ?_ (by simp; try omega) _)
          exact I7.out
        · have hb0 := B.out.trans (B7.out.mono (by omega))
          clear r0 r1 q0 q1
          go_grown
      · have ht : twoB na xs nb ys = false := by rw [twoB, hva, hvb, decide_eq_false he]; rfl
        rw [iaN_no ht, iaL_no ht, ht]
        have hd0 : (na == nb) = false := beq_eq_false_iff_ne.2 (fun h => he h.symm)
        have hd1 : (na != nb) = true := by simp [bne, hd0]
        clear hva hvb ht he
        go_enter Try.func13, Try.ntmps13
        go_wp2_with fail
        generalize (((w.alloc (Obj.cells #[.int .i64 na, .slice a xs.length ca] 26)).alloc (Obj.cells #[.int .i64 nb, .slice b ys.length cb] 26)).alloc (Obj.cells #[.int .i64 0, .slice none 0 0] 26)) = W at *
        have hz0 : w.heap.size + 3 ≤ W.heap.size := by have := HZ.out; omega
        clear HZ
        have p0 := XA.out.out.at0
        have p1 := XA.out.out.at1
        have p2 := XB.out.out.at0
        have p3 := XB.out.out.at1
        refine (HVA.out _ (HA.out.below B.out (Nat.le_refl _))).mono ?_
        rintro e w1 ⟨rfl, hb1⟩
        have hz1 := hb1.size
        replace XA := Lib.hid (XA.out.next hb1 (by omega))
        replace XB := Lib.hid (XB.out.next hb1 (by omega))
        replace Y := Lib.hid (Y.out.next hb1 (by omega))
        replace B := Lib.hid (B.out.trans (hb1.mono (by omega)))
        clear hb1
        clear p0 p1 p2 p3
        have p0 := XA.out.out.at0
        have p1 := XA.out.out.at1
        have p2 := XB.out.out.at0
        have p3 := XB.out.out.at1
        go_wp2_with fail
        refine (HVB.out _ (HB.out.below B.out (Nat.le_refl _))).mono ?_
        rintro e w2 ⟨rfl, hb2⟩
        have hz2 := hb2.size
        replace XA := Lib.hid (XA.out.next hb2 (by omega))
        replace XB := Lib.hid (XB.out.next hb2 (by omega))
        replace Y := Lib.hid (Y.out.next hb2 (by omega))
        replace B := Lib.hid (B.out.trans (hb2.mono (by omega)))
        clear hb2
        clear p0 p1 p2 p3
        have p0 := XA.out.out.at0
        have p1 := XA.out.out.at1
        have p2 := XB.out.out.at0
        have p3 := XB.out.out.at1
        have r0 := Y.out.out.at0
        have r1 := Y.out.out.at1
        have q0 := Y.out.out.free0
        have q1 := Y.out.out.free1
        go_wp2_with fail
        refine bodyPost_ret (v := .tuple #[.agg #[.int .i64 0, .slice none 0 0], .bool false]) (by simp [results, Try.results13, go_sem, r0, r1]) rfl ?_
        refine ⟨none, 0, rfl, Ints.nil _ _, ?_⟩
        have hb0 := B.out
        clear r0 r1 q0 q1
        go_grown
    · rw [Bool.not_eq_true] at hvb
      have ht : twoB na xs nb ys = false := by rw [twoB, hvb]; simp
      rw [iaN_no ht, iaL_no ht, ht]
      rw [hvb] at HVB
      clear hva hvb ht
      go_enter Try.func13, Try.ntmps13
      go_wp2_with fail
      generalize (((w.alloc (Obj.cells #[.int .i64 na, .slice a xs.length ca] 26)).alloc (Obj.cells #[.int .i64 nb, .slice b ys.length cb] 26)).alloc (Obj.cells #[.int .i64 0, .slice none 0 0] 26)) = W at *
      have hz0 : w.heap.size + 3 ≤ W.heap.size := by have := HZ.out; omega
      clear HZ
      have p0 := XA.out.out.at0
      have p1 := XA.out.out.at1
      have p2 := XB.out.out.at0
      have p3 := XB.out.out.at1
      refine (HVA.out _ (HA.out.below B.out (Nat.le_refl _))).mono ?_
      rintro e w1 ⟨rfl, hb1⟩
      have hz1 := hb1.size
      replace XA := Lib.hid (XA.out.next hb1 (by omega))
      replace XB := Lib.hid (XB.out.next hb1 (by omega))
      replace Y := Lib.hid (Y.out.next hb1 (by omega))
      replace B := Lib.hid (B.out.trans (hb1.mono (by omega)))
      clear hb1
      clear p0 p1 p2 p3
      have p0 := XA.out.out.at0
      have p1 := XA.out.out.at1
      have p2 := XB.out.out.at0
      have p3 := XB.out.out.at1
      go_wp2_with fail
      refine (HVB.out _ (HB.out.below B.out (Nat.le_refl _))).mono ?_
      rintro e w2 ⟨rfl, hb2⟩
      have hz2 := hb2.size
      replace XA := Lib.hid (XA.out.next hb2 (by omega))
      replace XB := Lib.hid (XB.out.next hb2 (by omega))
      replace Y := Lib.hid (Y.out.next hb2 (by omega))
      replace B := Lib.hid (B.out.trans (hb2.mono (by omega)))
      clear hb2
      clear p0 p1 p2 p3
      have r0 := Y.out.out.at0
      have r1 := Y.out.out.at1
      have q0 := Y.out.out.free0
      have q1 := Y.out.out.free1
      go_wp2_with fail
      refine bodyPost_ret (v := .tuple #[.agg #[.int .i64 0, .slice none 0 0], .bool false]) (by simp [results, Try.results13, go_sem, r0, r1]) rfl ?_
      refine ⟨none, 0, rfl, Ints.nil _ _, ?_⟩
      have hb0 := B.out
      clear r0 r1 q0 q1
      go_grown
  · rw [Bool.not_eq_true] at hva
    have ht : twoB na xs nb ys = false := by rw [twoB, hva]; rfl
    rw [iaN_no ht, iaL_no ht, ht]
    rw [hva] at HVA
    clear hva ht
    go_enter Try.func13, Try.ntmps13
    go_wp2_with fail
    generalize (((w.alloc (Obj.cells #[.int .i64 na, .slice a xs.length ca] 26)).alloc (Obj.cells #[.int .i64 nb, .slice b ys.length cb] 26)).alloc (Obj.cells #[.int .i64 0, .slice none 0 0] 26)) = W at *
    have hz0 : w.heap.size + 3 ≤ W.heap.size := by have := HZ.out; omega
    clear HZ
    have p0 := XA.out.out.at0
    have p1 := XA.out.out.at1
    have p2 := XB.out.out.at0
    have p3 := XB.out.out.at1
    refine (HVA.out _ (HA.out.below B.out (Nat.le_refl _))).mono ?_
    rintro e w1 ⟨rfl, hb1⟩
    have hz1 := hb1.size
    replace XA := Lib.hid (XA.out.next hb1 (by omega))
    replace XB := Lib.hid (XB.out.next hb1 (by omega))
    replace Y := Lib.hid (Y.out.next hb1 (by omega))
    replace B := Lib.hid (B.out.trans (hb1.mono (by omega)))
    clear hb1
    clear p0 p1 p2 p3
    have r0 := Y.out.out.at0
    have r1 := Y.out.out.at1
    have q0 := Y.out.out.free0
    have q1 := Y.out.out.free1
    go_wp2_with fail
    refine bodyPost_ret (v := .tuple #[.agg #[.int .i64 0, .slice none 0 0], .bool false]) (by simp [results, Try.results13, go_sem, r0, r1]) rfl ?_
    refine ⟨none, 0, rfl, Ints.nil _ _, ?_⟩
    have hb0 := B.out
    clear r0 r1 q0 q1
    go_grown

set_option maxRecDepth 100000 in
set_option maxHeartbeats 6400000 in
theorem specMeetClass (na : Int) (va : Value) (xs : List Int) (nb : Int) (vb : Value) (ys : List Int) (w : World) (ha : ∃ B, Ints B w va xs) (hb : ∃ B, Ints B w vb ys) :
    Calls Try.prog 23 #[.agg #[.int .i64 na, va], .agg #[.int .i64 nb, vb]] w (RetCB (iaN na xs nb ys) (iaL 2 na xs nb ys) (twoB na xs nb ys) w) := by
  obtain ⟨_, hia⟩ := ha
  obtain ⟨_, hib⟩ := hb
  have HA := Lib.hid hia.rd
  have HB := Lib.hid hib.rd
  have HVA := Lib.hid (fun w h => specValid na va xs w h)
  have HVB := Lib.hid (fun w h => specValid nb vb ys w h)
  obtain ⟨a, _, ca, rfl, _, sa2, _⟩ := hia.shape
  obtain ⟨b, _, cb, rfl, _, sb2, _⟩ := hib.shape
  have SA := Lib.hid (hia.rd.src (fun e => ⟨by rw [(sa2 e).1]; rfl, (sa2 e).2⟩))
  have SB := Lib.hid (hib.rd.src (fun e => ⟨by rw [(sb2 e).1]; rfl, (sb2 e).2⟩))
  clear hia hib sa2 sb2
  have B := Lib.hid (show Below w.heap.size w (((w.alloc (Obj.cells #[.int .i64 na, .slice a xs.length ca] 26)).alloc (Obj.cells #[.int .i64 nb, .slice b ys.length cb] 26)).alloc (Obj.cells #[.int .i64 0, .slice none 0 0] 26)) from (((Below.refl _ _).alloc (Nat.le_refl _) _).alloc (by simp) _).alloc (by simp; omega) _)
  have HZ := Lib.hid (show (((w.alloc (Obj.cells #[.int .i64 na, .slice a xs.length ca] 26)).alloc (Obj.cells #[.int .i64 nb, .slice b ys.length cb] 26)).alloc (Obj.cells #[.int .i64 0, .slice none 0 0] 26)).heap.size = w.heap.size + 3 by simp)
  have Y := Lib.hid (show Bx 0 (.slice none 0 0) (w.heap.size + 2) (((w.alloc (Obj.cells #[.int .i64 na, .slice a xs.length ca] 26)).alloc (Obj.cells #[.int .i64 nb, .slice b ys.length cb] 26)).alloc (Obj.cells #[.int .i64 0, .slice none 0 0] 26)) from heap_alloc_at (by simp))
  have XA := Lib.hid (show Bx na (.slice a xs.length ca) w.heap.size (((w.alloc (Obj.cells #[.int .i64 na, .slice a xs.length ca] 26)).alloc (Obj.cells #[.int .i64 nb, .slice b ys.length cb] 26)).alloc (Obj.cells #[.int .i64 0, .slice none 0 0] 26)) from ((Bx.new na (.slice a xs.length ca) w).alloc _).alloc _)
  have XB := Lib.hid (show Bx nb (.slice b ys.length cb) (w.heap.size + 1) (((w.alloc (Obj.cells #[.int .i64 na, .slice a xs.length ca] 26)).alloc (Obj.cells #[.int .i64 nb, .slice b ys.length cb] 26)).alloc (Obj.cells #[.int .i64 0, .slice none 0 0] 26)) from (show Bx nb (.slice b ys.length cb) (w.heap.size + 1) ((w.alloc (Obj.cells #[.int .i64 na, .slice a xs.length ca] 26)).alloc (Obj.cells #[.int .i64 nb, .slice b ys.length cb] 26)) from heap_alloc_at (by simp)).alloc _)
  by_cases hva : vldB na xs = true
  · rw [hva] at HVA
    by_cases hvb : vldB nb ys = true
    · rw [hvb] at HVB
      by_cases he : nb = na
      · subst he
        obtain ⟨m, ns, rfl, rfl, hca⟩ := vldB_cls hva
        obtain ⟨m2, ms, hm2, rfl, hcb⟩ := vldB_cls hvb
        obtain rfl : m2 = m := by omega
        have hm := hca.pts
        have hla := hca.length
        have hlb := hcb.length
        have ht : twoB (m2 : Int) (toI ns) (m2 : Int) (toI ms) = true := by rw [twoB, hva, hvb, decide_eq_true rfl]; rfl
        rw [show iaN (m2 : Int) (toI ns) (m2 : Int) (toI ms) = m2 by rw [iaN, if_pos ht], show iaL 2 (m2 : Int) (toI ns) (m2 : Int) (toI ms) = toI (atL 2 m2 ns ms) by rw [iaL, if_pos ht, toNat_toI, toNat_toI, Int.toNat_natCast], ht]
        rw [toI_length ns] at *
        rw [toI_length ms] at *
        have hd0 : ((m2 : Int) != (m2 : Int)) = false := by simp
        clear hm2
        rw [atL_two hca]
        obtain ⟨P, hP⟩ : ∃ P : Nat → Bool, P = fun x => decide (x ∈ ms) := ⟨_, rfl⟩
        have HHas := Lib.hid (fun v y w h => hasInt_nat ms v y w h)
        rw [← hP]
        have HPx := Lib.hid (fun x => show P x = decide (x ∈ ms) by rw [hP])
        have HA5 := HA
        clear hva hvb ht hca hcb hP
        go_enter Try.func23, Try.ntmps23
        go_wp2_with fail
        generalize (((w.alloc (Obj.cells #[.int .i64 (m2 : Int), .slice a ns.length ca] 26)).alloc (Obj.cells #[.int .i64 (m2 : Int), .slice b ms.length cb] 26)).alloc (Obj.cells #[.int .i64 0, .slice none 0 0] 26)) = W at *
        have hz0 : w.heap.size + 3 ≤ W.heap.size := by have := HZ.out; omega
        clear HZ
        have p0 := XA.out.out.at0
        have p1 := XA.out.out.at1
        have p2 := XB.out.out.at0
        have p3 := XB.out.out.at1
        refine (HVA.out _ (HA.out.below B.out (Nat.le_refl _))).mono ?_
        rintro e w1 ⟨rfl, hb1⟩
        have hz1 := hb1.size
        replace XA := Lib.hid (XA.out.next hb1 (by omega))
        replace XB := Lib.hid (XB.out.next hb1 (by omega))
        replace Y := Lib.hid (Y.out.next hb1 (by omega))
        replace B := Lib.hid (B.out.trans (hb1.mono (by omega)))
        clear hb1
        clear p0 p1 p2 p3
        have p0 := XA.out.out.at0
        have p1 := XA.out.out.at1
        have p2 := XB.out.out.at0
        have p3 := XB.out.out.at1
        go_wp2_with fail
        refine (HVB.out _ (HB.out.below B.out (Nat.le_refl _))).mono ?_
        rintro e w2 ⟨rfl, hb2⟩
        have hz2 := hb2.size
        replace XA := Lib.hid (XA.out.next hb2 (by omega))
        replace XB := Lib.hid (XB.out.next hb2 (by omega))
        replace Y := Lib.hid (Y.out.next hb2 (by omega))
        replace B := Lib.hid (B.out.trans (hb2.mono (by omega)))
        clear hb2
        clear p0 p1 p2 p3
        have p0 := XA.out.out.at0
        have p1 := XA.out.out.at1
        have p2 := XB.out.out.at0
        have p3 := XB.out.out.at1
        obtain ⟨aa, bba, offa, capa, ea, ha1, -, ha5⟩ := HA.out
        simp only [Value.slice.injEq] at ea
        obtain ⟨rfl, -, rfl⟩ := ea
        rw [toI_length] at ha1 ha5
        have HA1 := Lib.hid ha1
        have HA6 := Lib.hid ha5
        clear ha1 ha5 HA5
        go_wp2_with fail
        clear p0 p1 p2 p3
        go_loopw [6, 7] (fun o i wr => ∃ (j : Nat) (a' : Option Addr) (c' : Nat), j ≤ ns.length ∧ i = .int .i64 j ∧ o = .slice a' (keepTo P ns j).length c' ∧ Ints w2.heap.size wr (.slice a' (keepTo P ns j).length c') (toI (keepTo P ns j)) ∧ Below w2.heap.size w2 wr) (fun _ i _ => ns.length - (intOf i).toNat)
        case atStart => exact ⟨0, _, _, Nat.zero_le _, rfl, rfl, Ints.lit' (by first | omega | simp) (by first | omega | simp), by go_grown⟩
        case round =>
          obtain ⟨j, a', c', hj, rfl, rfl, hin, hbe⟩ := hrel
          have IN := Lib.hid hin
          have HBE := Lib.hid hbe
          have hz := hbe.size
          have XA2 := Lib.hid (XA.out.next hbe (by omega))
          have XB2 := Lib.hid (XB.out.next hbe (by omega))
          clear hin hbe
          have p0 := XA2.out.out.at0
          have p1 := XA2.out.out.at1
          have p3 := XB2.out.out.at1
          by_cases hlt : j < ns.length
          · have hltI : (j : Int) < (ns.length : Int) := by omega
            obtain ⟨rfl, hbl⟩ := HA1.out (by omega)
            have hc0 := ((B.out.trans (HBE.out.mono (by omega))).cell (p := ⟨bba, offa + j, none⟩) hbl).trans (HA6.out j (by omega))
            rw [toI_getD] at hc0
            have HY := Lib.hid (fun h => keepTo_yes (p := P) hlt h)
            have HN := Lib.hid (fun h => keepTo_no (p := P) hlt h)
            have hkl := keepTo_le P ns j
            have HAl := Lib.hid (toI_length (keepTo P ns j))
            have HRB := Lib.hid (HB.out.below (B.out.trans (HBE.out.mono (by omega))) (Nat.le_refl _))
            generalize ns.getD j 0 = y at *
            have HH := Lib.hid (fun n => hasInt_nat ms (.slice b ms.length cb) y (wr.drewN n) (HRB.out.below (k := wr.heap.size) (below_drewN (Below.refl _ _) n) (Nat.le_refl _)))
            have HPy := Lib.hid (HPx.out y)
            rw [← HPy.out] at HH
            generalize keepTo P ns j = A at *
            by_cases hp : P y = true
            · have HE := Lib.hid (HY.out hp)
              rw [hp] at HH
              clear hp
              go_wp2_with fail
              go_quiet ((go_at_call 54; exact Calls.quiet_of_same (HH.out _)))
              have IW := Lib.hid (IN.out.drewN nq)
              have BW := Lib.hid (below_drewN HBE.out nq)
              have hzW : w2.heap.size ≤ (wr.drewN nq).heap.size := hz
              have p1' : (wr.drewN nq).cell? ⟨w.heap.size, 1, none⟩ = some (.slice (some ⟨bba, offa, none⟩) ns.length ca) := p1
              have hc0' : (wr.drewN nq).cell? ⟨bba, offa + j, none⟩ = some (.int .i64 (y : Int)) := hc0
              clear p0 p1 p3 hc0
              generalize wr.drewN nq = V at *
              go_wp2_with (at_builtin; refine wpList_app rfl (.tmp 40) (.tmp 46) rfl w2.heap.size _ (toI A) rfl (by exact IW.out.alloc _) _ _ _ [(y : Int)] rfl (src_cell (by rw [World.cell?_alloc_at _ _ _ _ rfl]; rfl)) (by rw [HAl.out]; omega) (by simp; omega) ?_; intro a1 c1' w4 hin4 hb4 hg4)
              rw [HAl.out] at hin4
              have I4 := Lib.hid hin4
              have HB4 := Lib.hid (show Below w2.heap.size w2 w4 from BW.out.trans (Below.trans ((Below.refl _ _).alloc (by omega) _) hb4))
              clear hin4 hb4 hg4 p1' hc0'
              go_roundw
              case rel => exact ⟨j + 1, a1, c1', by omega, by go_num, by rw [HE.out, List.length_append, HAl.out]; rfl, by rw [HE.out, List.length_append, toI_append]; exact I4.out, HB4.out⟩
              case measure => simp [intOf]; omega
            · rw [Bool.not_eq_true] at hp
              have HE := Lib.hid (HN.out hp)
              rw [hp] at HH
              clear hp
              go_wp2_with fail
              go_quiet ((go_at_call 54; exact Calls.quiet_of_same (HH.out _)))
              go_wp2_with fail
              go_roundw
              case rel => exact ⟨j + 1, a', c', by omega, by go_num, by rw [HE.out], by rw [HE.out]; exact IN.out.drewN nq, below_drewN HBE.out nq⟩
              case measure => simp [intOf]; omega
          · obtain rfl : j = ns.length := by omega
            rw [keepTo_all] at IN
            rw [keepTo_all] at *
            have HAl := Lib.hid (toI_length (ns.filter P))
            have Y2 := Lib.hid (Y.out.next HBE.out (by omega))
            generalize ns.filter P = A at *
            have r0 := Y2.out.out.at0
            have r1 := Y2.out.out.at1
            have q0 := Y2.out.out.free0
            have q1 := Y2.out.out.free1
            go_wp2_with fail
            refine bodyPost_ret (v := .tuple #[.agg #[.int .i64 (m2 : Int), .slice a' A.length c'], .bool true]) (by simp [results, Try.results23, go_sem, r0, r1]) rfl ?_
            refine ⟨a', c', by rw [HAl.out], ?_, ?_⟩
            · rw [HAl.out]
              refine Ints.mono (B := w2.heap.size) ?_ (by omega)
              repeat (refine Ints.setCell_below ?_ (by simp; try omega) _)
              exact IN.out
            · have hb0 := B.out.trans (HBE.out.mono (by omega))
              clear r0 r1 q0 q1 p0 p1 p3
              go_grown
      · have ht : twoB na xs nb ys = false := by rw [twoB, hva, hvb, decide_eq_false he]; rfl
        rw [iaN_no ht, iaL_no ht, ht]
        have hd0 : (na == nb) = false := beq_eq_false_iff_ne.2 (fun h => he h.symm)
        have hd1 : (na != nb) = true := by simp [bne, hd0]
        clear hva hvb ht he
        go_enter Try.func23, Try.ntmps23
        go_wp2_with fail
        generalize (((w.alloc (Obj.cells #[.int .i64 na, .slice a xs.length ca] 26)).alloc (Obj.cells #[.int .i64 nb, .slice b ys.length cb] 26)).alloc (Obj.cells #[.int .i64 0, .slice none 0 0] 26)) = W at *
        have hz0 : w.heap.size + 3 ≤ W.heap.size := by have := HZ.out; omega
        clear HZ
        have p0 := XA.out.out.at0
        have p1 := XA.out.out.at1
        have p2 := XB.out.out.at0
        have p3 := XB.out.out.at1
        refine (HVA.out _ (HA.out.below B.out (Nat.le_refl _))).mono ?_
        rintro e w1 ⟨rfl, hb1⟩
        have hz1 := hb1.size
        replace XA := Lib.hid (XA.out.next hb1 (by omega))
        replace XB := Lib.hid (XB.out.next hb1 (by omega))
        replace Y := Lib.hid (Y.out.next hb1 (by omega))
        replace B := Lib.hid (B.out.trans (hb1.mono (by omega)))
        clear hb1
        clear p0 p1 p2 p3
        have p0 := XA.out.out.at0
        have p1 := XA.out.out.at1
        have p2 := XB.out.out.at0
        have p3 := XB.out.out.at1
        go_wp2_with fail
        refine (HVB.out _ (HB.out.below B.out (Nat.le_refl _))).mono ?_
        rintro e w2 ⟨rfl, hb2⟩
        have hz2 := hb2.size
        replace XA := Lib.hid (XA.out.next hb2 (by omega))
        replace XB := Lib.hid (XB.out.next hb2 (by omega))
        replace Y := Lib.hid (Y.out.next hb2 (by omega))
        replace B := Lib.hid (B.out.trans (hb2.mono (by omega)))
        clear hb2
        clear p0 p1 p2 p3
        have p0 := XA.out.out.at0
        have p1 := XA.out.out.at1
        have p2 := XB.out.out.at0
        have p3 := XB.out.out.at1
        have r0 := Y.out.out.at0
        have r1 := Y.out.out.at1
        have q0 := Y.out.out.free0
        have q1 := Y.out.out.free1
        go_wp2_with fail
        refine bodyPost_ret (v := .tuple #[.agg #[.int .i64 0, .slice none 0 0], .bool false]) (by simp [results, Try.results23, go_sem, r0, r1]) rfl ?_
        refine ⟨none, 0, rfl, Ints.nil _ _, ?_⟩
        have hb0 := B.out
        clear r0 r1 q0 q1
        go_grown
    · rw [Bool.not_eq_true] at hvb
      have ht : twoB na xs nb ys = false := by rw [twoB, hvb]; simp
      rw [iaN_no ht, iaL_no ht, ht]
      rw [hvb] at HVB
      clear hva hvb ht
      go_enter Try.func23, Try.ntmps23
      go_wp2_with fail
      generalize (((w.alloc (Obj.cells #[.int .i64 na, .slice a xs.length ca] 26)).alloc (Obj.cells #[.int .i64 nb, .slice b ys.length cb] 26)).alloc (Obj.cells #[.int .i64 0, .slice none 0 0] 26)) = W at *
      have hz0 : w.heap.size + 3 ≤ W.heap.size := by have := HZ.out; omega
      clear HZ
      have p0 := XA.out.out.at0
      have p1 := XA.out.out.at1
      have p2 := XB.out.out.at0
      have p3 := XB.out.out.at1
      refine (HVA.out _ (HA.out.below B.out (Nat.le_refl _))).mono ?_
      rintro e w1 ⟨rfl, hb1⟩
      have hz1 := hb1.size
      replace XA := Lib.hid (XA.out.next hb1 (by omega))
      replace XB := Lib.hid (XB.out.next hb1 (by omega))
      replace Y := Lib.hid (Y.out.next hb1 (by omega))
      replace B := Lib.hid (B.out.trans (hb1.mono (by omega)))
      clear hb1
      clear p0 p1 p2 p3
      have p0 := XA.out.out.at0
      have p1 := XA.out.out.at1
      have p2 := XB.out.out.at0
      have p3 := XB.out.out.at1
      go_wp2_with fail
      refine (HVB.out _ (HB.out.below B.out (Nat.le_refl _))).mono ?_
      rintro e w2 ⟨rfl, hb2⟩
      have hz2 := hb2.size
      replace XA := Lib.hid (XA.out.next hb2 (by omega))
      replace XB := Lib.hid (XB.out.next hb2 (by omega))
      replace Y := Lib.hid (Y.out.next hb2 (by omega))
      replace B := Lib.hid (B.out.trans (hb2.mono (by omega)))
      clear hb2
      clear p0 p1 p2 p3
      have r0 := Y.out.out.at0
      have r1 := Y.out.out.at1
      have q0 := Y.out.out.free0
      have q1 := Y.out.out.free1
      go_wp2_with fail
      refine bodyPost_ret (v := .tuple #[.agg #[.int .i64 0, .slice none 0 0], .bool false]) (by simp [results, Try.results23, go_sem, r0, r1]) rfl ?_
      refine ⟨none, 0, rfl, Ints.nil _ _, ?_⟩
      have hb0 := B.out
      clear r0 r1 q0 q1
      go_grown
  · rw [Bool.not_eq_true] at hva
    have ht : twoB na xs nb ys = false := by rw [twoB, hva]; rfl
    rw [iaN_no ht, iaL_no ht, ht]
    rw [hva] at HVA
    clear hva ht
    go_enter Try.func23, Try.ntmps23
    go_wp2_with fail
    generalize (((w.alloc (Obj.cells #[.int .i64 na, .slice a xs.length ca] 26)).alloc (Obj.cells #[.int .i64 nb, .slice b ys.length cb] 26)).alloc (Obj.cells #[.int .i64 0, .slice none 0 0] 26)) = W at *
    have hz0 : w.heap.size + 3 ≤ W.heap.size := by have := HZ.out; omega
    clear HZ
    have p0 := XA.out.out.at0
    have p1 := XA.out.out.at1
    have p2 := XB.out.out.at0
    have p3 := XB.out.out.at1
    refine (HVA.out _ (HA.out.below B.out (Nat.le_refl _))).mono ?_
    rintro e w1 ⟨rfl, hb1⟩
    have hz1 := hb1.size
    replace XA := Lib.hid (XA.out.next hb1 (by omega))
    replace XB := Lib.hid (XB.out.next hb1 (by omega))
    replace Y := Lib.hid (Y.out.next hb1 (by omega))
    replace B := Lib.hid (B.out.trans (hb1.mono (by omega)))
    clear hb1
    clear p0 p1 p2 p3
    have r0 := Y.out.out.at0
    have r1 := Y.out.out.at1
    have q0 := Y.out.out.free0
    have q1 := Y.out.out.free1
    go_wp2_with fail
    refine bodyPost_ret (v := .tuple #[.agg #[.int .i64 0, .slice none 0 0], .bool false]) (by simp [results, Try.results23, go_sem, r0, r1]) rfl ?_
    refine ⟨none, 0, rfl, Ints.nil _ _, ?_⟩
    have hb0 := B.out
    clear r0 r1 q0 q1
    go_grown

end Go.Proofs.Ytpcjecahplglfab
