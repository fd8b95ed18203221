/- LabelsOf, the program's. Conditions: Sets and the points are slices of ints. -/
import Derived.Test.YtnmilfkocheaiaaGreatDoorAppE
import Derived.Test.YtnmilfkocheaiaaGreatDoorZA
import Derived.Test.YtnmilfkocheaiaaGreatDoorZH
namespace Go.Proofs.YtnmilfkocheaiaaGreatDoor
open Go.RowKit

/-- are the first k points of the class? -/
def labTo (n : Int) (ps : List Int) (k : Nat) : Prop := ∀ j, j < k → 0 ≤ ps.getD j 0 ∧ ps.getD j 0 < n
instance (n : Int) (ps : List Int) (k : Nat) : Decidable (labTo n ps k) := by unfold labTo; infer_instance
def labB (n : Int) (zs ps : List Int) (s : Int) : Bool := inB n zs s && (decide (ps.length ≤ 12) && decide (labTo n ps ps.length))
def lab1 (s : Nat) (p : Int) : Int × Bool := (p, hasX p.toNat s)
def labL (n : Int) (zs ps : List Int) (s : Int) : List (Int × Bool) := if labB n zs ps s = true then ps.map (lab1 s.toNat) else []
theorem labL_len (n : Int) (zs ps : List Int) (s : Int) : (labL n zs ps s).length ≤ 1048576 := by
  unfold labL
  split
  · rename_i h
    simp only [labB, Bool.and_eq_true, decide_eq_true_eq] at h
    have := h.2.1
    simp
    omega
  · simp
theorem labMap_getD (s : Nat) (ps : List Int) (j : Nat) (hj : j < ps.length) : (ps.map (lab1 s)).getD j (0, false) = (ps.getD j 0, hasX (ps.getD j 0).toNat s) := by
  simp [List.getD, List.getElem?_map, List.getElem?_eq_getElem hj, lab1]

/-- what a call answers: examples of its own and a bool -/
def RetLab (es : List (Int × Bool)) (b : Bool) (w : World) (e : Ending) (w' : World) : Prop :=
  ∃ a cap, e = .returned (.tuple #[.slice a es.length cap, .bool b]) ∧ ExS w.heap.size w' (.slice a es.length cap) es ∧ Below w.heap.size w w'

theorem bit64 (s x : Nat) (hs : s < 32) (hx : x < 5) : bits .and .i64 ((s : Int) / 2 ^ x) 1 = if hasX x s = true then 1 else 0 := by
  have key : ∀ s : Fin 32, ∀ x : Fin 5, bits .and .i64 (((s : Nat) : Int) / 2 ^ (x : Nat)) 1 = if hasX x s = true then 1 else 0 := by decide +kernel
  exact key ⟨s, hs⟩ ⟨x, hx⟩

set_option maxHeartbeats 800000 in
theorem implLabelled (s x : Nat) (hs : s < 32) (hx : x < 5) (w : World) :
    Calls Tryz.prog 158 #[.int .i64 (s : Int), .int .i64 (x : Int)] w fun e w' => e = .returned (.agg #[.int .i64 (x : Int), .bool (hasX x s)]) ∧ Below w.heap.size w w' := by
  have hb := bit64 s x hs hx
  by_cases h : hasX x s = true
  · rw [if_pos h] at hb
    rw [h]
    clear h
    go_enter Tryz.func158, Tryz.ntmps158
    go_wp2_with fail
    refine bodyPost_ret (v := .agg #[.int .i64 (x : Int), .bool true]) (by simp [results, Tryz.results158, go_sem]) rfl ?_
    exact ⟨rfl, by go_grown⟩
  · rw [if_neg h] at hb
    rw [Bool.not_eq_true] at h
    rw [h]
    clear h
    go_enter Tryz.func158, Tryz.ntmps158
    go_wp2_with fail
    refine bodyPost_ret (v := .agg #[.int .i64 (x : Int), .bool false]) (by simp [results, Tryz.results158, go_sem]) rfl ?_
    exact ⟨rfl, by go_grown⟩


end Go.Proofs.YtnmilfkocheaiaaGreatDoor
