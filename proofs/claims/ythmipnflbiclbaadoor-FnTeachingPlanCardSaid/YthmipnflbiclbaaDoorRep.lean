/- IsRepresentation, the program's. Conditions: Sets and the plan are slices of ints. -/
import Derived.Deep.RegionHeld3
import Derived.Test.YthmipnflbiclbaaDoorRepM
import Derived.Test.YthmipnflbiclbaaDoorZA
import Derived.Test.YthmipnflbiclbaaDoorZH
namespace Go.Proofs.YthmipnflbiclbaaDoor
open Go.RowKit

set_option maxHeartbeats 1600000 in
set_option maxRecDepth 100000 in
theorem implDiffering (n : Int) (v : Value) (ns : List Nat) (i j : Nat) (w : World) (h : Rd w v (toI ns)) (h32 : ∀ t ∈ ns, t < 32) (hi : i < ns.length) (hj : j < ns.length) :
    Calls Tryd.prog 134 #[.agg #[.int .i64 n, v], .int .i64 i, .int .i64 j] w fun e w' => e = .returned (.int .i64 ((ns.getD i 0 ^^^ ns.getD j 0 : Nat) : Int)) ∧ Below w.heap.size w w' := by
  have hxi := h32 _ (getD_of_lt hi)
  have hxj := h32 _ (getD_of_lt hj)
  have hxor := i64_xor (ns.getD i 0) (ns.getD j 0) (by omega) (by omega)
  obtain ⟨a, b, off, cap, rfl, h1, h3, h5⟩ := h
  rw [toI_length] at h1 h3 h5 ⊢
  obtain ⟨rfl, hbl⟩ := h1 (by omega)
  have O := Lib.hid (Box.made n (.slice (some ⟨b, off, none⟩) ns.length cap) w 25)
  have gi := h5 i hi
  have gj := h5 j hj
  rw [toI_getD] at gi gj
  have EX := (Below.refl w.heap.size w).alloc (Nat.le_refl _) (Obj.cells #[.int .i64 n, .slice (some ⟨b, off, none⟩) ns.length cap] 25)
  replace gi := (EX.cell (p := ⟨b, off + i, none⟩) hbl).trans gi
  replace gj := (EX.cell (p := ⟨b, off + j, none⟩) hbl).trans gj
  generalize ns.getD i 0 = x at *
  generalize ns.getD j 0 = y at *
  clear h5 EX
  have hiI : (i : Int) < (ns.length : Int) := by omega
  have hjI : (j : Int) < (ns.length : Int) := by omega
  go_enter Tryd.func134, Tryd.ntmps134
  have c0 := O.out.at0
  have c1 := O.out.at1
  go_wp2_with fail
  go_quiet (fail)
  go_wp2_with fail
  go_ret
  exact ⟨rfl, below_drewN ((Below.refl _ _).alloc (Nat.le_refl _) _) nq⟩

/-- block o holds a class with a plan -/
def Rpb (n : Int) (v u : Value) (o : Nat) (w : World) : Prop := w.heap[o]? = some (.cells #[.int .i64 n, v, u] 95 (0, 0))
theorem Rpb.lt {n : Int} {v u : Value} {o : Nat} {w : World} (h : Rpb n v u o w) : o < w.heap.size := (Array.getElem?_eq_some_iff.1 h).1
theorem Rpb.at0 {n : Int} {v u : Value} {o : Nat} {w : World} (h : Rpb n v u o w) : w.cell? ⟨o, 0, none⟩ = some (.int .i64 n) := by simp [World.cell?, show w.heap[o]? = _ from h]
theorem Rpb.at1 {n : Int} {v u : Value} {o : Nat} {w : World} (h : Rpb n v u o w) : w.cell? ⟨o, 1, none⟩ = some v := by simp [World.cell?, show w.heap[o]? = _ from h]
theorem Rpb.at2 {n : Int} {v u : Value} {o : Nat} {w : World} (h : Rpb n v u o w) : w.cell? ⟨o, 2, none⟩ = some u := by simp [World.cell?, show w.heap[o]? = _ from h]
theorem Rpb.new (n : Int) (v u : Value) (w : World) : Rpb n v u w.heap.size (w.alloc (.cells #[.int .i64 n, v, u] 95)) := heap_alloc_new w _
theorem Rpb.next {n : Int} {v u : Value} {o B : Nat} {w w' : World} (h : Rpb n v u o w) (hb : Below B w w') (ho : o < B) : Rpb n v u o w' := (hb.block o ho).trans h

set_option maxHeartbeats 3200000 in
set_option maxRecDepth 100000 in
theorem implClashes (n : Int) (v u : Value) (ns Q : List Nat) (ps : List Int) (i : Nat) (w : World) (h : Rd w v (toI ns)) (hu : Rd w u ps) (h32 : ∀ t ∈ ns, t < 32) (hi : i < ns.length) (hpl : i < ps.length)
    (hq : ∀ j, j ≤ i → ps.getD j 0 = ((Q.getD j 0 : Nat) : Int) ∧ Q.getD j 0 < 32) :
    Calls Tryd.prog 120 #[.agg #[.int .i64 n, v, u], .int .i64 i, .int .i64 ((Q.getD i 0 : Nat) : Int)] w fun e w' => e = .returned (.bool (clTo ns Q i i)) ∧ Below w.heap.size w w' := by
  have HD := Lib.hid (fun j (hj : j < ns.length) w (h : Rd w v (toI ns)) => implDiffering n v ns i j w h h32 hi hj)
  have H := Lib.hid h
  have H32 := Lib.hid h32
  obtain ⟨a, b, off, cap, rfl, _, _, _⟩ := h
  obtain ⟨a2, b2, off2, cap2, rfl, p1, p3, p5⟩ := hu
  obtain ⟨rfl, pbl⟩ := p1 (by omega)
  rw [toI_length] at H HD ⊢
  have HQ := Lib.hid hq
  have P5 := Lib.hid p5
  have hp32 := (hq i (Nat.le_refl _)).2
  have RB := Lib.hid (Rpb.new n (.slice a ns.length cap) (.slice (some ⟨b2, off2, none⟩) ps.length cap2) w)
  have HZ := Lib.hid (show (w.alloc (.cells #[.int .i64 n, .slice a ns.length cap, .slice (some ⟨b2, off2, none⟩) ps.length cap2] 95)).heap.size = w.heap.size + 1 by simp)
  have B0 := Lib.hid ((Below.refl w.heap.size w).alloc (Nat.le_refl _) (.cells #[.int .i64 n, .slice a ns.length cap, .slice (some ⟨b2, off2, none⟩) ps.length cap2] 95))
  clear p1 p5 hq h32
  generalize hpe : Q.getD i 0 = p at *
  generalize hxe : ns.getD i 0 = x at *
  go_enter Tryd.func120, Tryd.ntmps120
  go_wp2_with fail
  generalize (w.alloc (.cells #[.int .i64 n, .slice a ns.length cap, .slice (some ⟨b2, off2, none⟩) ps.length cap2] 95)) = w1 at *
  have hz1 := HZ.out
  clear HZ
  go_loopw [9] (fun t wr => ∃ k : Nat, k ≤ i ∧ t = .int .i64 k ∧ clTo ns Q i k = false ∧ Below w1.heap.size w1 wr) (fun t _ => i - (intOf t).toNat)
  case atStart => exact ⟨0, Nat.zero_le _, rfl, rfl, Below.refl _ _⟩
  case round =>
    obtain ⟨k, hk, rfl, hcl, hbe⟩ := hrel
    have HBE := Lib.hid hbe
    have hzr := hbe.size
    have R1 := Lib.hid (RB.out.next hbe (by omega))
    have BW := Lib.hid (B0.out.trans (hbe.mono (by omega)))
    clear hbe
    by_cases hlt : k < i
    · have hkI : (k : Int) < (i : Int) := by omega
      obtain ⟨hqk, hq32⟩ := HQ.out k (by omega)
      have hc := (BW.out.cell (p := ⟨b2, off2 + k, none⟩) pbl).trans (P5.out k (by omega))
      rw [hqk] at hc
      have hs := clTo_succ ns Q i k
      rw [hcl, Bool.false_or, clsh, hpe, hxe] at hs
      have hit := clTo_hit (ns := ns) (ps := Q) (i := i) hlt
      rw [clsh, hpe, hxe] at hit
      have hy32 := H32.out _ (getD_of_lt (show k < ns.length by omega))
      have HDk := Lib.hid (HD.out k (by omega) wr (H.out.below BW.out (Nat.le_refl _)))
      have HDd := Lib.hid (HD.out k (by omega) wr.drew (H.out.below BW.out.drew (Nat.le_refl _)))
      generalize Q.getD k 0 = q at *
      generalize ns.getD k 0 = y at *
      have hx32 : x < 32 := by rw [← hxe]; exact H32.out _ (getD_of_lt hi)
      have hkp : (k : Int) < (ps.length : Int) := by omega
      have hor := i64_or p q (by omega) (by omega)
      have hpq : p ||| q < 32 := Nat.or_lt_two_pow (n := 5) hp32 hq32
      have hxy : x ^^^ y < 32 := Nat.xor_lt_two_pow (n := 5) hx32 hy32
      have hand := i64_and (x ^^^ y) (p ||| q) (by omega) (by omega)
      generalize p ||| q = pq at *
      generalize x ^^^ y = d at *
      have c0 := R1.out.at0
      have c1 := R1.out.at1
      have c2 := R1.out.at2
      go_wp2_with fail
      go_region_held3 (fun w' => w'.cell? ⟨w.heap.size, 0, none⟩ = some (.int .i64 n) ∧ w'.cell? ⟨w.heap.size, 1, none⟩ = some (.slice a ns.length cap) ∧ w'.cell? ⟨w.heap.size, 2, none⟩ = some (.slice (some ⟨b2, off2, none⟩) ps.length cap2) ∧ w'.cell? ⟨b2, off2 + k, none⟩ = some (.int .i64 (q : Int))) (first | exact ⟨z0, z1, z2, z3⟩ | exact ⟨c0, c1, c2, hc⟩ | go_keep) (first
        | (go_at_call 134; first | refine HDk.out.mono ?_ | refine HDd.out.mono ?_; rintro e w5 ⟨rfl, hbd⟩; have hb5 : Below wr.heap.size wr w5 := (by first | exact hbd | exact ⟨hbd.os, hbd.tape, hbd.output, hbd.size, hbd.block⟩); clear hbd; have R5 := R1.out.next hb5 (by omega); have z0 := R5.at0; have z1 := R5.at1; have z2 := R5.at2; have z3 := (hb5.cell (p := ⟨b2, off2 + k, none⟩) (by show b2 < _; omega)).trans hc; have B5 := Lib.hid hb5; clear R5 hb5))
      by_cases hd0 : d &&& pq = 0
      · have hh := hit (decide_eq_true hd0)
        have hdI : ((d &&& pq : Nat) : Int) = 0 := by rw [hd0]; rfl
        go_wp2_with fail
        go_ret
        exact ⟨ret_bool hh.symm, BW.out.trans (B5.out.mono (by omega))⟩
      · rw [decide_eq_false hd0] at hs
        have hdI : ¬ ((d &&& pq : Nat) : Int) = 0 := by omega
        go_wp2_with fail
        go_roundw
        case rel => exact ⟨k + 1, by omega, by go_num, hs, HBE.out.trans (B5.out.mono (by omega))⟩
        case measure => simp [intOf]; omega
    · obtain rfl : k = i := by omega
      go_wp2_with fail
      go_ret
      exact ⟨ret_bool hcl.symm, BW.out⟩

end Go.Proofs.YthmipnflbiclbaaDoor
