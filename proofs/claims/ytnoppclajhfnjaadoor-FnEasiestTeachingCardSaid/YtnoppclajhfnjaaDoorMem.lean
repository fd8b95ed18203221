/- The sets of a family, one after the other: members. Conditions: the sets are numbers below 32. -/
import Derived.Test.YtnoppclajhfnjaaDoorCsk
import Derived.Test.YtnoppclajhfnjaaDoorIter2
import Derived.Test.YtnoppclajhfnjaaDoorMval
import Derived.Test.YtnoppclajhfnjaaDoorZU
namespace Go.Proofs.YtnoppclajhfnjaaDoor
open Go.RowKit Go.Shelf
attribute [local go_sem] Oper.semAt_some

/-- the sets of l, as a list of numbers below 32 -/
def memF (l : List Nat) : List (Fin 32) := tcR (fun t => decide (t ∈ l)) 32
theorem memF_val {l : List Nat} (h32 : ∀ u ∈ l, u < 32) (hp : l.Pairwise (· < ·)) : (memF l).map Fin.val = l := by
  rw [memF, tcR_all]
  refine asc_ext (flt_asc _) hp (fun x => ?_)
  rw [mem_flt, decide_eq_true_eq]
  exact ⟨fun h => h.2, fun h => ⟨h32 x h, h⟩⟩


set_option maxRecDepth 100000 in
set_option maxHeartbeats 3200000 in
theorem memStops (Kp : Fin 32 → World → World → Prop) (n : Nat) (hn : 1 ≤ n) (l : List Nat) (w : World) :
    SeqV Fence.wide n Tryd.prog 101 #[.int .u32 (fm l)] #[] encG Kp (fun _ _ _ _ => True) (fun xs => xs = memF l) (fun pre => pre <+: memF l) 32 w := fun l0 J Jx W hW hJ hJx hY h0 => by
  have HTst := Lib.hid (fun j hj => fm_test l (j := j) hj)
  refine callsIn_of_wp Tryd.func101 rfl trivial ?_ rfl
  simp only [Tryd.ntmps101, List.size_toArray, List.length_cons, List.length_nil, Nat.reduceAdd, Nat.reduceSub, Array.replicate_succ, Array.replicate_zero, List.push_toArray, List.append_toArray, List.nil_append, List.cons_append]
  have hF0 : 0 ≤ fm l := by unfold fm; omega
  have hF1 : fm l < 4294967296 := by unfold fm; have := (famB l).isLt; omega
  show Code.wpIn _ _ _ _ _ _ _
  obtain ⟨Fm, hFm⟩ : ∃ Fm, Fm = fm l := ⟨_, rfl⟩
  rw [← hFm] at HTst hF0 hF1 ⊢
  clear hFm
  gi_wp2
  gi_loopw [5] (fun i wr => ∃ k : Nat, k ≤ 32 ∧ i = .int .i64 k ∧ J (tcR (fun t => decide (t ∈ l)) k) wr) (fun i _ => 32 - (intOf i).toNat)
  case atStart => exact ⟨0, by omega, rfl, h0⟩
  case round =>
    obtain ⟨k, hk, rfl, hJr⟩ := hrel
    by_cases hlt : k < 32
    · have hb := HTst.out k hlt
      have hle := tcR_len (fun t => decide (t ∈ l)) k
      by_cases hx : decide (k ∈ l) = true
      · have hst := tcR_yes (p := fun t => decide (t ∈ l)) hlt hx
        rw [if_pos hx] at hb
        obtain ⟨fn, tmps, assign, body, hy, hR⟩ := hY _ ⟨k, hlt⟩ wr wr hJr (Below.refl _ _) hJr trivial (by omega)
        gi_wp2
        refine hR.mono ?_
        rintro e W3 (⟨rfl, hJ3, _⟩ | ⟨rfl, hJx3⟩)
        · gi_wp2
          go_roundw
          case rel => exact ⟨k + 1, by omega, by go_num, by rw [hst]; exact hJ3⟩
          case measure => simp [intOf]; omega
        · gi_wp2
          refine bodyPost_ret (results_none rfl _ _ _) rfl ?_
          exact ⟨⟨_, rfl⟩, .inr ⟨_, by rw [← hst]; have := tcR_pre (fun t => decide (t ∈ l)) (k + 1) (32 - (k + 1)); rwa [show k + 1 + (32 - (k + 1)) = 32 by omega] at this, hJx3⟩⟩
      · have hst := tcR_no (p := fun t => decide (t ∈ l)) hlt hx
        rw [if_neg hx] at hb
        gi_wp2
        refine ⟨fun _ h => (by cases h), ?_⟩
        gi_wp2
        go_roundw
        case rel => exact ⟨k + 1, by omega, by go_num, by rw [hst]; exact hJr⟩
        case measure => simp [intOf]; omega
    · obtain rfl : k = 32 := by omega
      gi_wp2
      go_end0
      exact ⟨⟨_, rfl⟩, .inl ⟨_, rfl, hJr⟩⟩

end Go.Proofs.YtnoppclajhfnjaaDoor
