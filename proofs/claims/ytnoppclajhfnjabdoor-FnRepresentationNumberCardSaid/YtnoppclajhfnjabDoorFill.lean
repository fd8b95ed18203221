/- fill, the program's: the first plan of sets with few points, by a search that goes back. Conditions: Sets is a slice of ints, the plan is one of its own. -/
import Derived.Test.YtnoppclajhfnjabDoorPlnM
import Derived.Test.YtnoppclajhfnjabDoorRep
import Derived.Test.YtnoppclajhfnjabDoorZB
import Derived.Test.YtnoppclajhfnjabDoorZC
import Derived.WalkMore
namespace Go.Proofs.YtnoppclajhfnjabDoor
open Go.RowKit

set_option maxHeartbeats 3200000 in
set_option maxRecDepth 100000 in
theorem implClashes2 (n : Int) (v u : Value) (ns Q : List Nat) (ps : List Int) (i : Nat) (w : World) (h : Rd w v (toI ns)) (hu : Rd w u ps) (h32 : ∀ t ∈ ns, t < 32) (hi : i < ns.length) (hpl : i < ps.length)
    (hp32 : Q.getD i 0 < 32) (hq : ∀ j, j < i → ps.getD j 0 = ((Q.getD j 0 : Nat) : Int) ∧ Q.getD j 0 < 32) :
    Calls Tryd.prog 119 #[.agg #[.int .i64 n, v, u], .int .i64 i, .int .i64 ((Q.getD i 0 : Nat) : Int)] w fun e w' => e = .returned (.bool (clTo ns Q i i)) ∧ Below w.heap.size w w' := by
  have HD := Lib.hid (fun j (hj : j < ns.length) w (h : Rd w v (toI ns)) => implDiffering n v ns i j w h h32 hi hj)
  have H := Lib.hid h
  have H32 := Lib.hid h32
  obtain ⟨a, b, off, cap, rfl, _, _, _⟩ := h
  obtain ⟨a2, b2, off2, cap2, rfl, p1, p3, p5⟩ := hu
  obtain ⟨rfl, pbl⟩ := p1 (by omega)
  rw [toI_length] at H HD ⊢
  have HQ := Lib.hid hq
  have P5 := Lib.hid p5
  have RB := Lib.hid (Rpb.new n (.slice a ns.length cap) (.slice (some ⟨b2, off2, none⟩) ps.length cap2) w)
  have HZ := Lib.hid (show (w.alloc (.cells #[.int .i64 n, .slice a ns.length cap, .slice (some ⟨b2, off2, none⟩) ps.length cap2] 89)).heap.size = w.heap.size + 1 by simp)
  have B0 := Lib.hid ((Below.refl w.heap.size w).alloc (Nat.le_refl _) (.cells #[.int .i64 n, .slice a ns.length cap, .slice (some ⟨b2, off2, none⟩) ps.length cap2] 89))
  clear p1 p5 hq h32
  generalize hpe : Q.getD i 0 = p at *
  generalize hxe : ns.getD i 0 = x at *
  go_enter Tryd.func119, Tryd.ntmps119
  go_wp2_with fail
  generalize (w.alloc (.cells #[.int .i64 n, .slice a ns.length cap, .slice (some ⟨b2, off2, none⟩) ps.length cap2] 89)) = w1 at *
  have hz1 := HZ.out
  clear HZ
  go_loopw [9] (fun t wr => ∃ k : Nat, k ≤ i ∧ t = .int .i64 k ∧ clTo ns Q i k = false ∧ Below w1.heap.size w1 wr) (fun t _ => i - (intOf t).toNat)
  case atStart => exact ⟨0, Nat.zero_le _, rfl, rfl, Below.refl _ _⟩
  case round =>
    obtain ⟨k, hk, rfl, hcl, hbe⟩ := hrel
    have HBE := Lib.hid hbe
    have hzr := hbe.size
    have R1 := Lib.hid (RB.out.next hbe (by omega))
    have BW := Lib.hid (B0.out.trans (hbe.mono (by omega)))
    clear hbe
    by_cases hlt : k < i
    · have hkI : (k : Int) < (i : Int) := by omega
      obtain ⟨hqk, hq32⟩ := HQ.out k (by omega)
      have hc := (BW.out.cell (p := ⟨b2, off2 + k, none⟩) pbl).trans (P5.out k (by omega))
      rw [hqk] at hc
      have hs := clTo_succ ns Q i k
      rw [hcl, Bool.false_or, clsh, hpe, hxe] at hs
      have hit := clTo_hit (ns := ns) (ps := Q) (i := i) hlt
      rw [clsh, hpe, hxe] at hit
      have hy32 := H32.out _ (getD_of_lt (show k < ns.length by omega))
      have HDk := Lib.hid (HD.out k (by omega) wr (H.out.below BW.out (Nat.le_refl _)))
      have HDd := Lib.hid (HD.out k (by omega) wr.drew (H.out.below BW.out.drew (Nat.le_refl _)))
      generalize Q.getD k 0 = q at *
      generalize ns.getD k 0 = y at *
      have hx32 : x < 32 := by rw [← hxe]; exact H32.out _ (getD_of_lt hi)
      have hkp : (k : Int) < (ps.length : Int) := by omega
      have hor := i64_or p q (by omega) (by omega)
      have hpq : p ||| q < 32 := Nat.or_lt_two_pow (n := 5) hp32 hq32
      have hxy : x ^^^ y < 32 := Nat.xor_lt_two_pow (n := 5) hx32 hy32
      have hand := i64_and (x ^^^ y) (p ||| q) (by omega) (by omega)
      generalize p ||| q = pq at *
      generalize x ^^^ y = d at *
      have c0 := R1.out.at0
      have c1 := R1.out.at1
      have c2 := R1.out.at2
      go_wp2_with fail
      go_region_held3 (fun w' => w'.cell? ⟨w.heap.size, 0, none⟩ = some (.int .i64 n) ∧ w'.cell? ⟨w.heap.size, 1, none⟩ = some (.slice a ns.length cap) ∧ w'.cell? ⟨w.heap.size, 2, none⟩ = some (.slice (some ⟨b2, off2, none⟩) ps.length cap2) ∧ w'.cell? ⟨b2, off2 + k, none⟩ = some (.int .i64 (q : Int))) (first | exact ⟨z0, z1, z2, z3⟩ | exact ⟨c0, c1, c2, hc⟩ | go_keep) (first
        | (go_at_call 144; first | refine HDk.out.mono ?_ | refine HDd.out.mono ?_; rintro e w5 ⟨rfl, hbd⟩; have hb5 : Below wr.heap.size wr w5 := (by first | exact hbd | exact ⟨hbd.os, hbd.tape, hbd.output, hbd.size, hbd.block⟩); clear hbd; have R5 := R1.out.next hb5 (by omega); have z0 := R5.at0; have z1 := R5.at1; have z2 := R5.at2; have z3 := (hb5.cell (p := ⟨b2, off2 + k, none⟩) (by show b2 < _; omega)).trans hc; have B5 := Lib.hid hb5; clear R5 hb5))
      by_cases hd0 : d &&& pq = 0
      · have hh := hit (decide_eq_true hd0)
        have hdI : ((d &&& pq : Nat) : Int) = 0 := by rw [hd0]; rfl
        go_wp2_with fail
        go_ret
        exact ⟨ret_bool hh.symm, BW.out.trans (B5.out.mono (by omega))⟩
      · rw [decide_eq_false hd0] at hs
        have hdI : ¬ ((d &&& pq : Nat) : Int) = 0 := by omega
        go_wp2_with fail
        go_roundw
        case rel => exact ⟨k + 1, by omega, by go_num, hs, HBE.out.trans (B5.out.mono (by omega))⟩
        case measure => simp [intOf]; omega
    · obtain rfl : k = i := by omega
      go_wp2_with fail
      go_ret
      exact ⟨ret_bool hcl.symm, BW.out⟩

/-- the plan so far: rl, the last one first -/
structure Pst (q g L : Nat) (w0 wb wr : World) (rl : List Nat) (ps : List Int) : Prop where
  le : rl.length ≤ L
  sm : ∀ x ∈ rl, x < q
  len : ps.length = L
  vals : ∀ j, j < rl.length → ps.getD j 0 = ((rl.reverse.getD j 0 : Nat) : Int)
  own : Ints w0.heap.size wr (.slice (some ⟨g, 0, none⟩) L L) ps
  bel : Below w0.heap.size w0 wr
  gro : wb.grownBy wr (some g)
theorem Pst.next {q g L : Nat} {w0 wb wr w' : World} {rl : List Nat} {ps : List Int} (h : Pst q g L w0 wb wr rl ps) (hb : Below wr.heap.size wr w') : Pst q g L w0 wb w' rl ps :=
  ⟨h.le, h.sm, h.len, h.vals, h.own.below hb (Nat.le_refl _), h.bel.trans (hb.mono h.bel.size), grownBy_trans h.gro ⟨hb.os, hb.tape, hb.output, hb.size, fun k hk _ => hb.block k hk⟩⟩
theorem Pst.back {q g L : Nat} {w0 wb wr : World} {x : Nat} {rl : List Nat} {ps : List Int} (h : Pst q g L w0 wb wr (x :: rl) ps) : Pst q g L w0 wb wr rl ps := by
  have hl := h.le
  rw [List.length_cons] at hl
  refine ⟨by omega, fun y hy => h.sm y (List.mem_cons_of_mem _ hy), h.len, fun j hj => ?_, h.own, h.bel, h.gro⟩
  rw [h.vals j (by rw [List.length_cons]; omega), List.reverse_cons, List.getD_eq_getElem?_getD, List.getElem?_append_left (by rw [List.length_reverse]; exact hj), ← List.getD_eq_getElem?_getD]
theorem Pst.cell {q g L : Nat} {w0 wb wr : World} {rl : List Nat} {ps : List Int} (h : Pst q g L w0 wb wr rl ps) {j : Nat} (hj : j < rl.length) : wr.cell? ⟨g, j, none⟩ = some (.int .i64 ((rl.reverse.getD j 0 : Nat) : Int)) := by
  have h1 := h.le
  have h2 := h.len
  rw [(h.own.cellAt j (by omega)).1, h.vals j hj]
theorem Pst.rd {q g L : Nat} {w0 wb wr : World} {rl : List Nat} {ps : List Int} (h : Pst q g L w0 wb wr rl ps) : rdP g wr rl.length = rl := rdP_of (fun _ hj => h.cell hj)
theorem Pst.top {q g L x : Nat} {w0 wb wr : World} {rl : List Nat} {ps : List Int} (h : Pst q g L w0 wb wr (x :: rl) ps) : wr.cell? ⟨g, rl.length, none⟩ = some (.int .i64 ((x : Nat) : Int)) := by
  rw [h.cell (j := rl.length) (by rw [List.length_cons]; omega), List.reverse_cons, List.getD_eq_getElem?_getD, List.getElem?_append_right (by rw [List.length_reverse]; exact Nat.le_refl _), List.length_reverse, Nat.sub_self]
  rfl
theorem Pst.push {q g L p : Nat} {w0 wb wr : World} {rl : List Nat} {ps : List Int} (h : Pst q g L w0 wb wr rl ps) (hg : w0.heap.size ≤ g) (hl : rl.length < L) (hp : p < q) : Pst q g L w0 wb (wr.setCell ⟨g, rl.length, none⟩ (.int .i64 (p : Int))) (p :: rl) (ps.set rl.length (p : Int)) := by
  refine ⟨by rw [List.length_cons]; omega, fun y hy => ?_, by rw [List.length_set]; exact h.len, fun j hj => ?_, h.own.store _ _, h.bel.setCell hg _, grownBy_trans h.gro (grownBy_set _ _ _)⟩
  · rcases List.mem_cons.1 hy with e | e
    · omega
    · exact h.sm y e
  · rw [List.length_cons] at hj
    have h2 := h.len
    rw [List.reverse_cons, List.getD_eq_getElem?_getD, List.getD_eq_getElem?_getD, List.getElem?_set]
    by_cases e : rl.length = j
    · subst e
      rw [if_pos rfl, if_pos (by omega), List.getElem?_append_right (by rw [List.length_reverse]; exact Nat.le_refl _), List.length_reverse, Nat.sub_self]
      rfl
    · rw [if_neg e, List.getElem?_append_left (by rw [List.length_reverse]; omega), ← List.getD_eq_getElem?_getD, ← List.getD_eq_getElem?_getD]
      exact h.vals j (by omega)
theorem Pst.turn {q g L x p p0 : Nat} {w0 wb wr : World} {rl : List Nat} {ps : List Int} (h : Pst q g L w0 wb wr (x :: rl) ps) (hq : q ≤ 32) (hp : p ≤ q) (hp0 : p0 ≤ p) : msP L rl (x + 1) < msP L (x :: rl) p0 := by
  have k0 := ms_back (L := L) (p := p) (fun y hy => Nat.lt_of_lt_of_le (h.sm y hy) (Nat.le_trans hq (by decide))) (Nat.lt_of_le_of_lt hp (Nat.lt_of_le_of_lt hq (by decide))) h.le
  exact Nat.lt_of_lt_of_le k0 (ms_le hp0)
theorem Rpb.other {n : Int} {v u : Value} {o p j : Nat} {w : World} (h : Rpb n v u o w) (hne : o ≠ p) (x : Value) : Rpb n v u o (w.setCell ⟨p, j, none⟩ x) := by
  show (w.setCell ⟨p, j, none⟩ x).heap[o]? = _
  rw [Below.heap_setCell _ _ _ _ hne]
  exact h
/-- what fill answers -/
def FillPost (g : Nat) (ns : List Nat) (w0 w : World) (A : Option (List Nat)) (e : Ending) (w' : World) : Prop :=
  Below w0.heap.size w0 w' ∧ w.grownBy w' (some g) ∧ match A with
    | none => e = .returned (.bool false)
    | some pl => e = .returned (.bool true) ∧ Ints w0.heap.size w' (.slice (some ⟨g, 0, none⟩) ns.length ns.length) (toI pl)
theorem Pst.full {q g : Nat} {ns : List Nat} {w0 wb wr : World} {rl : List Nat} {ps : List Int} (h : Pst q g ns.length w0 wb wr rl ps) (hl : rl.length = ns.length) : Ints w0.heap.size wr (.slice (some ⟨g, 0, none⟩) ns.length ns.length) (toI rl.reverse) := by
  have e : ps = toI rl.reverse := by
    have h2 := h.len
    apply List.ext_getElem
    · rw [toI_length, List.length_reverse]; omega
    · intro j h3 h4
      have h5 := h.vals j (by rw [toI_length, List.length_reverse] at h4; exact h4)
      rw [← toI_getD, List.getD_eq_getElem?_getD, List.getD_eq_getElem?_getD, List.getElem?_eq_getElem h3, List.getElem?_eq_getElem h4] at h5
      exact h5
  rw [← e]
  exact h.own

set_option maxHeartbeats 6400000 in
set_option maxRecDepth 100000 in
theorem implFill (m : Nat) (hm : m ≤ 5) (v : Value) (ns : List Nat) (most : Int) (g : Nat) (ps0 : List Int) (w0 w : World) (h32 : ∀ t ∈ ns, t < 32) (hl : ns.length ≤ 32) (h : Rd w0 v (toI ns)) (hs : Pst (2 ^ m) g ns.length w0 w w [] ps0) (hgg : w0.heap.size ≤ g) (hgw : g < w.heap.size) :
    Calls Tryd.prog 85 #[.agg #[.int .i64 (m : Int), v, .slice (some ⟨g, 0, none⟩) ns.length ns.length], .int .i64 most] w (FillPost g ns w0 w (fndP ns most (2 ^ m) ns.length [])) := by
  have H := Lib.hid h
  obtain ⟨a, b, off, cap, rfl, _, _, _⟩ := h
  rw [toI_length] at H ⊢
  have h5 := pow_le_32 hm
  have hw := wrap_pow m hm
  have hq0 := Nat.two_pow_pos m
  have hqI : (2 : Int) ^ m = ((2 ^ m : Nat) : Int) := by simp
  rw [hqI] at hw
  have hwq : wrap64 ((2 : Int) ^ m) = ((2 ^ m : Nat) : Int) := by rw [hqI]; exact hw.1
  clear hw hqI
  have HC := Lib.hid (fun Q ps i w h hu hi hp h9 hq => implClashes2 (m : Int) (.slice a ns.length cap) (.slice (some ⟨g, 0, none⟩) ns.length ns.length) ns Q ps i w h hu h32 hi hp h9 hq)
  obtain ⟨A, hA⟩ : ∃ A, A = fndP ns most (2 ^ m) ns.length [] := ⟨_, rfl⟩
  rw [← hA]
  rw [← st_start] at hA
  have HA := Lib.hid hA.symm
  obtain ⟨q, hq⟩ : ∃ q, q = 2 ^ m := ⟨_, rfl⟩
  rw [← hq] at HA hwq h5 hq0 hs
  have HS := Lib.hid hs
  have OB : (Obj.cells #[.int .i64 (m : Int), .slice a ns.length cap, .slice (some ⟨g, 0, none⟩) ns.length ns.length] 89) = (Obj.cells #[.int .i64 (m : Int), .slice a ns.length cap, .slice (some ⟨g, 0, none⟩) ns.length ns.length] 89) := rfl
  have RB := Lib.hid (Rpb.new (m : Int) (.slice a ns.length cap) (.slice (some ⟨g, 0, none⟩) ns.length ns.length) w)
  have HZ := Lib.hid (show (w.alloc (Obj.cells #[.int .i64 (m : Int), .slice a ns.length cap, .slice (some ⟨g, 0, none⟩) ns.length ns.length] 89)).heap.size = w.heap.size + 1 by simp)
  have HSa := Lib.hid (hs.next ((Below.refl w.heap.size w).alloc (Nat.le_refl _) (Obj.cells #[.int .i64 (m : Int), .slice a ns.length cap, .slice (some ⟨g, 0, none⟩) ns.length ns.length] 89)))
  clear hs HS OB hA hq
  go_enter Tryd.func85, Tryd.ntmps85
  go_wp2_with fail
  generalize (w.alloc (Obj.cells #[.int .i64 (m : Int), .slice a ns.length cap, .slice (some ⟨g, 0, none⟩) ns.length ns.length] 89)) = w1 at *
  generalize ho : w.heap.size = o at *
  have hog : o ≠ g := by omega
  have hz1 := HZ.out
  clear HZ
  go_loopw [5] (fun t wr => ∃ (rl : List Nat) (ps : List Int), t = .int .i64 ((rl.length : Nat) : Int) ∧ Hid (stP ns most q ns.length rl = A) ∧ Hid (Pst q g ns.length w0 w wr rl ps) ∧ Hid (Rpb (m : Int) (.slice a ns.length cap) (.slice (some ⟨g, 0, none⟩) ns.length ns.length) o wr)) (fun t wr => msP ns.length (rdP g wr (intOf t).toNat) 0)
  case atStart => exact ⟨[], ps0, rfl, HA, HSa, RB⟩
  case round =>
    obtain ⟨rl, ps, rfl, HAr, HP, HR⟩ := hrel
    have hle := HP.out.le
    have c0 := HR.out.at0
    have c1 := HR.out.at1
    have c2 := HR.out.at2
    by_cases hil : rl.length < ns.length
    · have hiI : ((rl.length : Nat) : Int) < (ns.length : Int) := by omega
      have HA2 := Lib.hid (show rsmP ns most q ns.length rl 0 = A by
        have := HAr.out
        rw [stP, if_neg (by omega)] at this
        exact this)
      have HM := Lib.hid (show msP ns.length (rdP g wr rl.length) 0 = msP ns.length rl 0 by rw [HP.out.rd])
      go_wp2_with fail
      clear c0 c1 c2
      refine wp_scope_jumps2 0 (fun a' w' => ∃ (rl' : List Nat) (ps' : List Int) (p : Nat) (u4 u7 u8 u9 u10 u11 u12 u13 u14 u15 u16 u17 u18 u19 u20 u21 u22 u23 u24 u25 u26 u27 u28 u29 u30 u31 u32 u33 u34 u35 u36 u37 u38 u39 u40 u41 u42 u43 u44 u45 u46 u47 u48 u49 u50 u51 u52 u53 u54 u55 : Value), a' = { tmps := #[(.agg #[.int .i64 (m : Int), .slice a ns.length cap, .slice (some ⟨g, 0, none⟩) ns.length ns.length]), .int .i64 most, .pointer (some ⟨o, 0, none⟩), undef, u4, .int .i64 ((rl'.length : Nat) : Int), .int .i64 ((p : Nat) : Int), u7, u8, u9, u10, u11, u12, u13, u14, u15, u16, u17, u18, u19, u20, u21, u22, u23, u24, u25, u26, u27, u28, u29, u30, u31, u32, u33, u34, u35, u36, u37, u38, u39, u40, u41, u42, u43, u44, u45, u46, u47, u48, u49, u50, u51, u52, u53, u54, u55], defers := [] } ∧ p ≤ q ∧ rl'.length < ns.length ∧ rsmP ns most q ns.length rl' p = A ∧ Pst q g ns.length w0 w w' rl' ps' ∧ Rpb (m : Int) (.slice a ns.length cap) (.slice (some ⟨g, 0, none⟩) ns.length ns.length) o w' ∧ msP ns.length rl' p ≤ msP ns.length rl 0) (fun a' w' => msP ns.length (rdP g w' (intOf (a'.tmps.getD 5 undef)).toNat) (intOf (a'.tmps.getD 6 undef)).toNat) rfl ?_ ?_
      · rintro a' w' ⟨rl', ps', p0, u4, u7, u8, u9, u10, u11, u12, u13, u14, u15, u16, u17, u18, u19, u20, u21, u22, u23, u24, u25, u26, u27, u28, u29, u30, u31, u32, u33, u34, u35, u36, u37, u38, u39, u40, u41, u42, u43, u44, u45, u46, u47, u48, u49, u50, u51, u52, u53, u54, u55, rfl, hp0, hil', hr', hP', hR', hM'⟩
        have HP0 := Lib.hid hP'
        have HR0 := Lib.hid hR'
        have HR1 := Lib.hid hr'
        have HM1 := Lib.hid hM'
        clear hP' hR' hr' hM'
        go_wp2_with fail
        go_loopw [6] (fun t wq => ∃ p : Nat, t = .int .i64 ((p : Nat) : Int) ∧ p0 ≤ p ∧ p ≤ q ∧ Hid (rsmP ns most q ns.length rl' p = A) ∧ Below w'.heap.size w' wq) (fun t _ => q - (intOf t).toNat)
        case atStart => exact ⟨p0, rfl, Nat.le_refl _, hp0, HR1, Below.refl _ _⟩
        case round =>
          obtain ⟨p, rfl, hpp, hpq, HRp, hbe⟩ := hrel
          have P3 := Lib.hid (HP0.out.next hbe)
          have R3 := Lib.hid (HR0.out.next hbe HR0.out.lt)
          have BE := Lib.hid hbe
          have hzb := hbe.size
          clear hbe
          have c0 := R3.out.at0
          have c1 := R3.out.at1
          have c2 := R3.out.at2
          by_cases hlt : p < q
          · have hltI : (p : Int) < (q : Int) := by omega
            have HSz := Lib.hid (fun w => implSizeOf p (by omega) w)
            by_cases hsz : most < ((pc p : Nat) : Int)
            · have HSk := Lib.hid (show rsmP ns most q ns.length rl' (p + 1) = A by
                rw [← rsm_skip hlt (by rw [okP, decide_eq_false (by omega), Bool.false_and])]
                exact HRp.out)
              generalize pc p = z at *
              go_wp2_with fail
              refine (HSz.out _).mono ?_
              rintro e w5 ⟨rfl, hw5⟩
              subst w5
              go_wp2_with fail
              go_roundw
              case rel => exact ⟨p + 1, by go_num, by omega, by omega, HSk, BE.out⟩
              case measure => simp [intOf]; omega
            · have eQ : (rl'.reverse ++ [p]).getD rl'.length 0 = p := by
                rw [List.getD_eq_getElem?_getD, List.getElem?_append_right (by rw [List.length_reverse]; exact Nat.le_refl _), List.length_reverse, Nat.sub_self]
                rfl
              have HCl := Lib.hid (fun w h hu => HC.out (rl'.reverse ++ [p]) ps' rl'.length w h hu hil' (by rw [P3.out.len]; exact hil') (by rw [eQ]; omega) (fun j hj => by
                rw [List.getD_eq_getElem?_getD (l := rl'.reverse ++ [p]), List.getElem?_append_left (by rw [List.length_reverse]; exact hj), ← List.getD_eq_getElem?_getD]
                refine ⟨P3.out.vals j hj, Nat.lt_of_lt_of_le (P3.out.sm _ ?_) h5⟩
                rw [← List.mem_reverse]
                exact getD_of_lt (by rw [List.length_reverse]; exact hj)))
              rw [eQ] at HCl
              have hok : okP ns most rl'.reverse p = !clTo ns (rl'.reverse ++ [p]) rl'.length rl'.length := by
                rw [okP, decide_eq_true (by omega), Bool.true_and, List.length_reverse]
              clear eQ
              cases hcl : clTo ns (rl'.reverse ++ [p]) rl'.length rl'.length with
              | true =>
                rw [hcl] at HCl hok
                have HSk := Lib.hid (show rsmP ns most q ns.length rl' (p + 1) = A by
                  rw [← rsm_skip hlt hok]
                  exact HRp.out)
                clear hcl hok
                generalize pc p = z at *
                go_wp2_with fail
                refine (HSz.out _).mono ?_
                rintro e w5 ⟨rfl, hw5⟩
                subst w5
                go_wp2_with fail
                refine (HCl.out _ (H.out.below P3.out.bel (Nat.le_refl _)) P3.out.own.rd).mono ?_
                rintro e w5 ⟨rfl, hb5⟩
                have BE5 := Lib.hid (BE.out.trans (hb5.mono hzb))
                clear hb5
                go_wp2_with fail
                go_roundw
                case rel => exact ⟨p + 1, by go_num, by omega, by omega, HSk, BE5.out⟩
                case measure => simp [intOf]; omega
              | false =>
                rw [hcl] at HCl hok
                have HPu := Lib.hid (show stP ns most q ns.length (p :: rl') = A by
                  rw [← rsm_push hlt hok hil']
                  exact HRp.out)
                clear hcl hok
                generalize pc p = z at *
                go_wp2_with fail
                refine (HSz.out _).mono ?_
                rintro e w5 ⟨rfl, hw5⟩
                subst w5
                go_wp2_with fail
                refine (HCl.out _ (H.out.below P3.out.bel (Nat.le_refl _)) P3.out.own.rd).mono ?_
                rintro e w5 ⟨rfl, hb5⟩
                have P5 := Lib.hid (P3.out.next hb5)
                have R5 := Lib.hid (R3.out.next hb5 R3.out.lt)
                clear hb5 c0 c1 c2
                have c0 := R5.out.at0
                have c1 := R5.out.at1
                have c2 := R5.out.at2
                have hilI : ((rl'.length : Nat) : Int) < (ns.length : Int) := by omega
                obtain ⟨hs, hf⟩ := P5.out.own.cellAt rl'.length (by rw [P5.out.len]; exact hil')
                have P6 := Lib.hid (P5.out.push hgg hil' hlt)
                have R6 := Lib.hid (R5.out.other (j := rl'.length) hog (.int .i64 (p : Int)))
                have HMe := Lib.hid (show msP ns.length (rdP g (w5.setCell ⟨g, rl'.length, none⟩ (.int .i64 (p : Int))) (rl'.length + 1)) 0 < msP ns.length rl 0 by
                  have e1 : rdP g (w5.setCell ⟨g, rl'.length, none⟩ (.int .i64 (p : Int))) (rl'.length + 1) = p :: rl' := P6.out.rd
                  rw [e1]
                  have k1 := ms_push (L := ns.length) (p := p) hil'
                  have k2 := ms_le (L := ns.length) (rl := rl') hpp
                  have k3 := HM1.out
                  omega)
                go_wp2_with fail
                simp only [Exit.jump, Exit.inBlock, ↓reduceIte]
                change Exit.then _ _ Exit.normal _ _
                simp only [Exit.then]
                go_roundw
                case rel => exact ⟨p :: rl', ps'.set rl'.length (p : Int), by rw [List.length_cons]; first | rfl | go_num, HPu, P6, R6⟩
                case measure =>
                  refine Nat.lt_of_lt_of_eq ?_ HM.out.symm
                  exact HMe.out
          · obtain rfl : p = q := by omega
            obtain rfl | ⟨x, r2, rfl⟩ : rl' = [] ∨ ∃ x r, rl' = x :: r := by
              cases rl' with
              | nil => exact .inl rfl
              | cons x r => exact .inr ⟨x, r, rfl⟩
            · have HN := Lib.hid (show A = none by rw [← HRp.out, rsm_none (Nat.le_refl _)])
              go_wp2_with fail
              simp only [Exit.jump]
              go_ret
              rw [HN.out]
              exact ⟨P3.out.bel, P3.out.gro, rfl⟩
            · have HBk := Lib.hid (show rsmP ns most p ns.length r2 (x + 1) = A by
                rw [← rsm_back (Nat.le_refl p)]
                exact HRp.out)
              have hx32 : x < 32 := Nat.lt_of_lt_of_le (P3.out.sm x List.mem_cons_self) h5
              have hxp : x + 1 ≤ p := P3.out.sm x List.mem_cons_self
              have htop := P3.out.top
              rw [List.length_cons] at hil' ⊢
              have hn0 : ((((r2.length + 1 : Nat) : Int)) == 0) = false := by simp; omega
              have P4 := Lib.hid P3.out.back
              have kt := P3.out.turn h5 (Nat.le_refl _) hpp
              have HK := Lib.hid (show msP ns.length (rdP g wr r2.length) (x + 1) < msP ns.length (rdP g w' (r2.length + 1)) p0 by
                have e1 : rdP g w' (r2.length + 1) = x :: r2 := HP0.out.rd
                rw [e1, P4.out.rd]
                exact kt)
              have HK2 := Lib.hid (show msP ns.length r2 (x + 1) ≤ msP ns.length rl 0 from Nat.le_trans (Nat.le_of_lt kt) HM1.out)
              clear kt
              go_wp2_with fail
              go_step3
              refine ⟨rfl, ⟨r2, ps', x + 1, _, _, _, _, _, _, _, _, _, _, _, _, _, _, _, _, _, _, _, _, _, _, _, _, _, _, _, _, _, _, _, _, _, _, _, _, _, _, _, _, _, _, _, _, _, _, _, _, _, _, rfl, hxp, by omega, HBk.out, P4.out, R3.out, HK2.out⟩, ?_⟩
              exact HK.out
      · intro hpass
        go_wp2_with fail
        go_step3
        rename_i hafter
        exact hafter _ _ (hpass _ _ ⟨rl, ps, 0, _, _, _, _, _, _, _, _, _, _, _, _, _, _, _, _, _, _, _, _, _, _, _, _, _, _, _, _, _, _, _, _, _, _, _, _, _, _, _, _, _, _, _, _, _, _, _, _, _, _, rfl, Nat.zero_le _, hil, HA2.out, HP.out, HR.out, Nat.le_refl _⟩)
    · have hfull : rl.length = ns.length := by omega
      have HF := Lib.hid (HP.out.full hfull)
      have HAs := Lib.hid (show A = some rl.reverse by rw [← HAr.out, stP, if_pos hfull])
      have hiI : ¬ ((rl.length : Nat) : Int) < (ns.length : Int) := by omega
      go_wp2_with fail
      go_ret
      rw [HAs.out]
      exact ⟨HP.out.bel, HP.out.gro, rfl, HF.out⟩

end Go.Proofs.YtnoppclajhfnjabDoor
