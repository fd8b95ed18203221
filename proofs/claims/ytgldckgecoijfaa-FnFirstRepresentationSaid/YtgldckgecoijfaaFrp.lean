/- FirstRepresentation, the program's and the model's. Conditions: Sets is a slice of ints. -/
import Derived.Deep.RegionLaw
import Derived.Test.YtgldckgecoijfaaFill
import Derived.Test.YtgldckgecoijfaaFndP
import Derived.Test.YtgldckgecoijfaaZA
namespace Go.Proofs.Ytgldckgecoijfaa
open Go.RowKit

/-- what FirstRepresentation finds -/
def frpO (n : Int) (zs : List Int) (most : Int) : Option (List Nat) := if (vldB n zs && decide (zs.length ≤ 7)) = true then fndP (zs.map Int.toNat) most (2 ^ n.toNat) zs.length [] else none
def optL : Option (List Nat) → List Int
  | none => []
  | some r => toI r
def frpL (n : Int) (zs : List Int) (most : Int) : List Int := optL (frpO n zs most)
def frpB (n : Int) (zs : List Int) (most : Int) : Bool := (frpO n zs most).isSome
theorem frpO_in {m : Nat} {ns : List Nat} {most : Int} (hv : vldB (m : Int) (toI ns) = true) (hl : ns.length ≤ 7) : frpO (m : Int) (toI ns) most = fndP ns most (2 ^ m) ns.length [] := by
  rw [frpO, hv, toI_length, decide_eq_true hl, Bool.true_and, if_pos rfl, toNat_toI, Int.toNat_natCast]
theorem frpO_bad {n : Int} {zs : List Int} {most : Int} (hv : vldB n zs = false) : frpO n zs most = none := by rw [frpO, hv, Bool.false_and, if_neg (by decide)]
theorem frpO_many {n : Int} {zs : List Int} {most : Int} (hl : ¬ zs.length ≤ 7) : frpO n zs most = none := by rw [frpO, decide_eq_false hl, Bool.and_false, if_neg (by decide)]
theorem fnd_len {ns : List Nat} {most : Int} {q k : Nat} {r : List Nat} (h : fndP ns most q k [] = some r) : r.length = k ∧ ∀ x ∈ r, x < q := by
  obtain ⟨t, h1, h2, h3⟩ := fnd_ok k [] r h
  rw [List.nil_append] at h1
  subst h1
  refine ⟨h2, fun x hx => ?_⟩
  obtain ⟨j, hj, e⟩ := List.getElem_of_mem hx
  have := (h3 j (by omega)).1
  rw [List.getD_eq_getElem?_getD, List.getElem?_eq_getElem hj, Option.getD_some, e] at this
  exact this
theorem frpL_len (n : Int) (zs : List Int) (most : Int) : (frpL n zs most).length ≤ 1048576 := by
  unfold frpL frpO
  split
  · rename_i h
    rw [Bool.and_eq_true, decide_eq_true_eq] at h
    cases e : fndP (zs.map Int.toNat) most (2 ^ n.toNat) zs.length [] with
    | none => simp [optL]
    | some r =>
      have := (fnd_len e).1
      simp [optL, toI_length]
      omega
  · simp [optL]
/-- a call answers a list of ints of its own and a bool -/
def RetIB (xs : List Int) (b : Bool) (w : World) (e : Ending) (w' : World) : Prop := ∃ a cap, e = .returned (.tuple #[.slice a xs.length cap, .bool b]) ∧ Ints w.heap.size w' (.slice a xs.length cap) xs ∧ Below w.heap.size w w'

theorem step_make {w : World} {ops : Array Oper} {o : Oper} {a : Act} {K : Act → World → Prop} {Q : Exit → Act → World → Prop} {E : Prop} (hgd : o.guard = none) (l : Operand)
    (hop : o.op = Op.makeSlice 23 l l) (n : Nat) (hl : a.eval l = .int .i64 (n : Int)) (hn : n ≤ 1000)
    (hK : ∀ w', Ints w.heap.size w' (.slice (some ⟨w.heap.size, 0, none⟩) n n) (List.replicate n 0) → w.grownBy w' none → K (a.put o.dst (.slice (some ⟨w.heap.size, 0, none⟩) n n)) w') : if Region.wanted o (yielded ops a.tmps) = true then Oper.wp Try.prog o a w K Q else E := by
  have hw : Region.wanted o (yielded ops a.tmps) = true := by simp [Region.wanted, hgd]
  rw [if_pos hw]
  obtain ⟨i0, hi, hz0, hz1, hz2⟩ := info_parts info3
  obtain ⟨w', hrun, r1, r2⟩ := run_make_full (P := Try.prog) w w.heap.size 23 3 i0 (.int .i64 0) 1 Try.underlying23 hi hz0 hz1 .i64 .i64 n (by rw [hz2]; omega) (by unfold maxLen; omega) (Nat.le_refl _)
  unfold Oper.wp
  simp [execOp, hop, hl, hrun, Result.andThen]
  exact hK w' (Ints.of_made r1) r2

set_option maxHeartbeats 3200000 in
set_option maxRecDepth 100000 in
theorem specFirstRepresentation (n : Int) (v : Value) (zs : List Int) (most : Int) (w : World) (h : Rd w v zs) :
    Calls Try.prog 34 #[.agg #[.int .i64 n, v], .int .i64 most] w (RetIB (frpL n zs most) (frpB n zs most) w) := by
  have H := Lib.hid h
  obtain ⟨a, b, off, cap, rfl, _, _, _⟩ := h
  have HV := Lib.hid (fun w h => specValid n (.slice a zs.length cap) zs w h)
  have X := Lib.hid (Bx.new n (.slice a zs.length cap) w)
  have B := Lib.hid (show Below w.heap.size w (w.alloc (Obj.cells #[.int .i64 n, .slice a zs.length cap] 25)) from (Below.refl _ _).alloc (Nat.le_refl _) _)
  by_cases hv : vldB n zs = true
  · rw [hv] at HV
    by_cases hl : zs.length ≤ 7
    · obtain ⟨m, ns, rfl, rfl, hc⟩ := vldB_cls hv
      rw [toI_length] at *
      have HF := Lib.hid (fun B0 u w h hB hu => specFindPlan m hc.pts (.slice a ns.length cap) ns most hc.lt32 (by omega) B0 ns.length [] u w (by simp) (fun x hx => by cases hx) h hB hu)
      rw [frpL, frpB, frpO_in hv hl]
      have hlI : ¬ (7 : Int) < (ns.length : Int) := by omega
      have hld : decide ((7 : Int) < (ns.length : Int)) = false := decide_eq_false hlI
      clear hc hv
      generalize fndP ns most (2 ^ m) ns.length [] = A at *
      go_enter Try.func34, Try.ntmps34
      go_wp2_with fail
      refine (HV.out _ (H.out.below B.out (Nat.le_refl _))).mono ?_
      rintro e w1 ⟨rfl, hb⟩
      have X1 := Lib.hid (X.out.next hb X.out.lt)
      have B1 := Lib.hid (B.out.trans (hb.mono B.out.size))
      clear hb X B
      have c0 := X1.out.out.at0
      have c1 := X1.out.out.at1
      have B2 := Lib.hid (show Below w.heap.size w (w1.alloc (Obj.cells #[] 3)) from B1.out.alloc B1.out.size _)
      have I2 := Lib.hid (show Ints w.heap.size (w1.alloc (Obj.cells #[] 3)) (.slice (some ⟨w1.heap.size, 0, none⟩) 0 0) (toI []) from Ints.lit' B1.out.size rfl)
      go_wp2_with fail
      refine (HF.out w.heap.size _ _ (H.out.below B2.out (Nat.le_refl _)) B2.out.size I2.out).mono ?_
      rintro e w3 ⟨hb3, he⟩
      have B3 := Lib.hid (B2.out.trans (hb3.mono B2.out.size))
      clear hb3
      cases A with
      | none =>
        subst he
        go_wp2_with fail
        refine bodyPost_ret (v := .tuple #[.slice none 0 0, .bool false]) (by simp [results, Try.results34, go_sem]) rfl ?_
        exact ⟨none, 0, rfl, Ints.nil _ _, B3.out⟩
      | some r =>
        obtain ⟨a8, c8, rfl, hin8⟩ := he
        have I8 := Lib.hid hin8
        have HLn := Lib.hid (toI_length r)
        clear hin8
        go_wp2_with fail
        refine bodyPost_ret (v := .tuple #[.slice a8 r.length c8, .bool true]) (by simp [results, Try.results34, go_sem]) rfl ?_
        exact ⟨a8, c8, by rw [optL, HLn.out]; rfl, by rw [optL, HLn.out]; exact I8.out, B3.out⟩
    · rw [frpL, frpB, frpO_many hl]
      have hlI : (7 : Int) < (zs.length : Int) := by omega
      have hld : decide ((7 : Int) < (zs.length : Int)) = true := decide_eq_true hlI
      clear hv
      go_enter Try.func34, Try.ntmps34
      go_wp2_with fail
      refine (HV.out _ (H.out.below B.out (Nat.le_refl _))).mono ?_
      rintro e w1 ⟨rfl, hb⟩
      have X1 := Lib.hid (X.out.next hb X.out.lt)
      have B1 := Lib.hid (B.out.trans (hb.mono B.out.size))
      clear hb X B
      have c0 := X1.out.out.at0
      have c1 := X1.out.out.at1
      go_wp2_with fail
      refine bodyPost_ret (v := .tuple #[.slice none 0 0, .bool false]) (by simp [results, Try.results34, go_sem]) rfl ?_
      exact ⟨none, 0, rfl, Ints.nil _ _, B1.out⟩
  · rw [Bool.not_eq_true] at hv
    rw [hv] at HV
    rw [frpL, frpB, frpO_bad hv]
    clear hv
    go_enter Try.func34, Try.ntmps34
    go_wp2_with fail
    refine (HV.out _ (H.out.below B.out (Nat.le_refl _))).mono ?_
    rintro e w1 ⟨rfl, hb⟩
    have B1 := Lib.hid (B.out.trans (hb.mono B.out.size))
    clear hb X B
    go_wp2_with fail
    refine bodyPost_ret (v := .tuple #[.slice none 0 0, .bool false]) (by simp [results, Try.results34, go_sem]) rfl ?_
    exact ⟨none, 0, rfl, Ints.nil _ _, B1.out⟩

end Go.Proofs.Ytgldckgecoijfaa
