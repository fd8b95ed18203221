/- The points of a set, one after the other: pointsOf and its iterator. No conditions. -/
import Derived.LoopIn
import Derived.LoopNIn
import Derived.OwnWalkIn
import Derived.RangeFuncBound
import Derived.RangeFuncCalls
import Derived.RangeFuncLeaves
import Derived.RangeFuncNested
import Derived.Shelf.Abstract
import Derived.Shelf.RegionOpen
import Derived.TacticsInMore
import Derived.Test.YtnoppclajhfnjaaDoorCsk
import Derived.Test.YtnoppclajhfnjaaDoorLab
import Derived.Test.YtnoppclajhfnjaaDoorTeachM
import Derived.WalkKit
namespace Go.Proofs.YtnoppclajhfnjaaDoor
open Go.RowKit Go.Shelf
attribute [local go_sem] Oper.semAt_some

set_option maxHeartbeats 400000 in
theorem implPointsOf (s : Nat) (w : World) :
    Calls Tryd.prog 71 #[.int .i64 (s : Int)] w fun e w' => e = .returned (.func (.func 110) #[] #[.pointer (some ⟨w.heap.size, 0, none⟩)]) ∧ w' = w.alloc (.cells #[.int .i64 (s : Int)] 3) := by
  go_enter Tryd.func71, Tryd.ntmps71
  go_wp2_with fail
  go_ret
  exact ⟨rfl, rfl⟩

/-- the points of s below k -/
def ptF (k s : Nat) : List (Fin 5) := (List.finRange 5).filter (fun x => decide (x.val < k) && hasX x.val s)
theorem ptF_step {k s : Nat} (hk : k < 5) (hs : s < 32) : ptF (k + 1) s = if hasX k s = true then ptF k s ++ [⟨k, hk⟩] else ptF k s := by
  have key : ∀ k : Fin 5, ∀ s : Fin 32, ptF ((k : Nat) + 1) (s : Nat) = if hasX (k : Nat) (s : Nat) = true then ptF (k : Nat) (s : Nat) ++ [k] else ptF (k : Nat) (s : Nat) := by decide +kernel
  exact key ⟨k, hk⟩ ⟨s, hs⟩
theorem ptF_len (k s : Nat) : (ptF k s).length ≤ 5 := by
  have := List.length_filter_le (fun x : Fin 5 => decide (x.val < k) && hasX x.val s) (List.finRange 5)
  simpa [ptF] using this
theorem ptF_lt {k s : Nat} (hk : k < 5) (hs : s < 32) : (ptF k s).length < 5 := by
  have key : ∀ k : Fin 5, ∀ s : Fin 32, (ptF (k : Nat) (s : Nat)).length < 5 := by decide +kernel
  exact key ⟨k, hk⟩ ⟨s, hs⟩
theorem ptF_pre {k s : Nat} (hk : k ≤ 5) (hs : s < 32) : ptF k s <+: ptF 5 s := by
  have key : ∀ k : Fin 6, ∀ s : Fin 32, ptF (k : Nat) (s : Nat) <+: ptF 5 (s : Nat) := by decide +kernel
  exact key ⟨k, by omega⟩ ⟨s, hs⟩
theorem ptF_all {s : Nat} (hs : s < 32) : (ptF 5 s).map Fin.val = ptl s := by
  have key : ∀ s : Fin 32, (ptF 5 (s : Nat)).map Fin.val = ptl (s : Nat) := by decide +kernel
  exact key ⟨s, hs⟩
abbrev encF (x : Fin 5) : Array Value := #[.int .i64 ((x.val : Nat) : Int)]

set_option maxRecDepth 100000 in
set_option maxHeartbeats 2000000 in
theorem ptsStops (F : Fence) (n : Nat) (hF : F.fn 110) (hro : F.round = none) (hn : 1 ≤ n) (Bn s : Nat) (hs : s < 32) (w : World) (hB : w.cell? ⟨Bn, 0, none⟩ = some (.int .i64 (s : Int))) :
    SeqStopsK F n Tryd.prog 110 #[.pointer (some ⟨Bn, 0, none⟩)] encF (Kc Bn) (fun xs => xs = ptF 5 s) (fun pre => pre <+: ptF 5 s) 5 w := fun l J Jx W hW hJ hJx hY h0 => by
  have hlt0 : Bn < w.heap.size := World.block_lt_of_cell? w _ hB
  have hBW : W.cell? ⟨Bn, 0, none⟩ = some (.int .i64 (s : Int)) := (hW.cell (p := ⟨Bn, 0, none⟩) hlt0).trans hB
  refine callsIn_of_wp Tryd.func110 rfl hF ?_ hro
  simp only [Tryd.ntmps110, List.size_toArray, List.length_cons, List.length_nil, Nat.reduceAdd, Nat.reduceSub, Array.replicate_succ, Array.replicate_zero, List.push_toArray, List.append_toArray, List.nil_append, List.cons_append]
  gi_wp2
  gi_loopw [4] (fun i wr => ∃ k : Nat, k ≤ 5 ∧ i = .int .i64 k ∧ J (ptF k s) wr ∧ wr.cell? ⟨Bn, 0, none⟩ = some (.int .i64 (s : Int))) (fun i _ => 5 - (intOf i).toNat)
  case atStart => exact ⟨0, by omega, rfl, by rw [show ptF 0 s = [] by simp [ptF]]; exact h0, hBW⟩
  case round =>
    obtain ⟨k, hk, rfl, hJr, hc⟩ := hrel
    by_cases hlt : k < 5
    · have hb := bit64 s k hs hlt
      have hst := ptF_step hlt hs
      by_cases hx : hasX k s = true
      · rw [if_pos hx] at hb hst
        obtain ⟨fn, tmps, assign, body, hy, hR⟩ := hY (ptF k s) ⟨k, hlt⟩ wr hJr (ptF_lt hlt hs)
        gi_wp2
        refine hR.mono ?_
        rintro e W3 (⟨rfl, hJ3, hk3⟩ | ⟨rfl, hJx3⟩)
        · have hc3 := hk3 _ hc
          gi_wp2
          go_roundw
          case rel => exact ⟨k + 1, by omega, by go_num, by rw [hst]; exact hJ3, hc3⟩
          case measure => simp [intOf]; omega
        · gi_wp2
          refine bodyPost_ret (results_none rfl _ _ _) rfl ?_
          exact ⟨⟨_, rfl⟩, .inr ⟨ptF k s ++ [⟨k, hlt⟩], by rw [← hst]; exact ptF_pre (by omega) hs, hJx3⟩⟩
      · rw [if_neg hx] at hb hst
        gi_wp2
        refine ⟨fun _ h => (by cases h), ?_⟩
        gi_wp2
        go_roundw
        case rel => exact ⟨k + 1, by omega, by go_num, by rw [hst]; exact hJr, hc⟩
        case measure => simp [intOf]; omega
    · obtain rfl : k = 5 := by omega
      gi_wp2
      go_end0
      exact ⟨⟨_, rfl⟩, .inl ⟨_, rfl, hJr⟩⟩

end Go.Proofs.YtnoppclajhfnjaaDoor
