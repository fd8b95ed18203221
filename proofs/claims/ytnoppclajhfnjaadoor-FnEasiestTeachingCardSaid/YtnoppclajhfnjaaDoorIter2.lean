/- The sets of points that teach a set, one after the other: teachings and its iterator. Conditions: the table setsWith is laid. -/
import Derived.Test.YtnoppclajhfnjaaDoorTeachN
import Derived.Test.YtnoppclajhfnjaaDoorTeachP
namespace Go.Proofs.YtnoppclajhfnjaaDoor
open Go.RowKit Go.Shelf
attribute [local go_sem] Oper.semAt_some

def swc : List (Addr × Value) := (List.range 5).map (fun x => (⟨0, x, none⟩, .int .u32 (swZ.getD x 0)))
theorem sw_cs {w : World} (h : SW w) : CS swc w := fun p hp => by
  obtain ⟨x, hx, rfl⟩ := List.mem_map.1 hp
  exact h.2 x (List.mem_range.1 hx)
theorem cs_sw {w : World} (h : CS swc w) : SW w := by
  have h2 : ∀ x, x < 5 → w.cell? ⟨0, x, none⟩ = some (.int .u32 (swZ.getD x 0)) := fun x hx => h (⟨0, x, none⟩, .int .u32 (swZ.getD x 0)) (List.mem_map.2 ⟨x, List.mem_range.2 hx, rfl⟩)
  exact ⟨World.block_lt_of_cell? w _ (h2 0 (by decide)), h2⟩

/-- those of the first k that meet a test -/
def tcR (p : Nat → Bool) : Nat → List (Fin 32)
  | 0 => []
  | k + 1 => if h : k < 32 then (if p k = true then tcR p k ++ [⟨k, h⟩] else tcR p k) else tcR p k
theorem tcR_yes {p : Nat → Bool} {k : Nat} (h : k < 32) (hp : p k = true) : tcR p (k + 1) = tcR p k ++ [⟨k, h⟩] := by rw [tcR, dif_pos h, if_pos hp]
theorem tcR_no {p : Nat → Bool} {k : Nat} (h : k < 32) (hp : ¬ p k = true) : tcR p (k + 1) = tcR p k := by rw [tcR, dif_pos h, if_neg hp]
theorem tcR_len (p : Nat → Bool) (k : Nat) : (tcR p k).length ≤ k := by
  induction k with
  | zero => exact Nat.le_refl _
  | succ k ih =>
    rw [tcR]
    split
    · split
      · rw [List.length_append, List.length_singleton]; omega
      · omega
    · omega
theorem tcR_pre (p : Nat → Bool) (k d : Nat) : tcR p k <+: tcR p (k + d) := by
  induction d with
  | zero => exact List.prefix_refl _
  | succ d ih =>
    refine List.IsPrefix.trans ih ?_
    show tcR p (k + d) <+: tcR p (k + d + 1)
    rw [tcR]
    split
    · split
      · exact List.prefix_append _ _
      · exact List.prefix_refl _
    · exact List.prefix_refl _
theorem tcR_val (p : Nat → Bool) {k : Nat} (hk : k ≤ 32) : (tcR p k).map Fin.val = (List.range k).filter p := by
  induction k with
  | zero => rfl
  | succ k ih =>
    have h : k < 32 := by omega
    rw [List.range_succ, List.filter_append, ← ih (by omega)]
    by_cases hp : p k = true
    · rw [tcR_yes h hp, List.map_append]; simp [hp]
    · rw [tcR_no h hp]; simp [hp]
theorem tcR_all (p : Nat → Bool) : (tcR p 32).map Fin.val = flt p := tcR_val p (Nat.le_refl _)

abbrev csT (bf bt : Nat) (l : List Nat) (t : Nat) : List (Addr × Value) := swc ++ [(⟨bf, 0, none⟩, .int .u32 (fm l)), (⟨bt, 0, none⟩, .int .i64 (t : Int))]

set_option maxHeartbeats 400000 in
theorem implTeachings (l : List Nat) (t : Nat) (w : World) :
    Calls Tryd.prog 70 #[.int .u32 (fm l), .int .i64 (t : Int)] w fun e w' => e = .returned (.func (.func 109) #[] #[.pointer (some ⟨w.heap.size, 0, none⟩), .pointer (some ⟨w.heap.size + 1, 0, none⟩)]) ∧ w' = (w.alloc (.cells #[.int .u32 (fm l)] 62)).alloc (.cells #[.int .i64 (t : Int)] 3) := by
  go_enter Tryd.func70, Tryd.ntmps70
  go_wp2_with fail
  go_ret
  exact ⟨by simp, rfl⟩

set_option maxRecDepth 100000 in
set_option maxHeartbeats 3200000 in
theorem teachStops (n : Nat) (hn : 1 ≤ n) (bf bt : Nat) (l : List Nat) (t : Nat) (h32 : ∀ u ∈ l, u < 32) (hp : l.Pairwise (· < ·)) (ht : t < 32) (w : World) (hcs : CS (csT bf bt l t) w) :
    SeqStopsK Fence.wide n Tryd.prog 109 #[.pointer (some ⟨bf, 0, none⟩), .pointer (some ⟨bt, 0, none⟩)] encG (Kcs (csT bf bt l t)) (fun xs => xs = tcR (fun s => tch t s l) 32) (fun pre => pre <+: tcR (fun s => tch t s l) 32) 32 w := fun l0 J Jx W hW hJ hJx hY h0 => by
  have hcW : CS (csT bf bt l t) W := hcs.next hW
  have HX := Lib.hid (fun (s : Nat) (hs : s < 32) w0 h0 => implTeaches l t s h32 hp ht hs w0 h0)
  refine callsIn_of_wp Tryd.func109 rfl trivial ?_ rfl
  simp only [Tryd.ntmps109, List.size_toArray, List.length_cons, List.length_nil, Nat.reduceAdd, Nat.reduceSub, Array.replicate_succ, Array.replicate_zero, List.push_toArray, List.append_toArray, List.nil_append, List.cons_append]
  gi_wp2
  gi_loopw [5] (fun i wr => ∃ k : Nat, k ≤ 32 ∧ i = .int .i64 k ∧ J (tcR (fun s => tch t s l) k) wr ∧ CS (csT bf bt l t) wr) (fun i _ => 32 - (intOf i).toNat)
  case atStart => exact ⟨0, by omega, rfl, h0, hcW⟩
  case round =>
    obtain ⟨k, hk, rfl, hJr, hcr⟩ := hrel
    have hf1 : wr.cell? ⟨bf, 0, none⟩ = some (.int .u32 (fm l)) := hcr (⟨bf, 0, none⟩, .int .u32 (fm l)) (by simp [csT])
    have ht1 : wr.cell? ⟨bt, 0, none⟩ = some (.int .i64 (t : Int)) := hcr (⟨bt, 0, none⟩, .int .i64 (t : Int)) (by simp [csT])
    have HC := Lib.hid hcr
    have HSr := Lib.hid (cs_sw (fun p hp => hcr p (List.mem_append_left _ hp)))
    by_cases hlt : k < 32
    · have HXk := Lib.hid (HX.out k hlt)
      have hle := tcR_len (fun s => tch t s l) k
      by_cases hx : tch t k l = true
      · have hst := tcR_yes (p := fun s => tch t s l) hlt hx
        rw [hx] at HXk
        gi_wp2_with (first | (refine ⟨trivial, ?_⟩; gi_at_call 72; refine (callsIn_wide.2 (HXk.out _ HSr.out)).mono ?_; rintro e W1 ⟨rfl, hb1⟩; have hJ1 := hJ _ wr W1 none hJr (grown_none hb1) (fun r e => by cases e); have hc1 := HC.out.next hb1; obtain ⟨fn, tmps, assign, body, hy, hR⟩ := hY _ ⟨k, hlt⟩ W1 hJ1 (by omega)))
        refine hR.mono ?_
        rintro e W3 (⟨rfl, hJ3, hk3⟩ | ⟨rfl, hJx3⟩)
        · have hc3 := hk3 hc1
          gi_wp2
          go_roundw
          case rel => exact ⟨k + 1, by omega, by go_num, by rw [hst]; exact hJ3, hc3⟩
          case measure => simp [intOf]; omega
        · gi_wp2
          refine bodyPost_ret (results_none rfl _ _ _) rfl ?_
          exact ⟨⟨_, rfl⟩, .inr ⟨_, by rw [← hst]; have := tcR_pre (fun s => tch t s l) (k + 1) (32 - (k + 1)); rwa [show k + 1 + (32 - (k + 1)) = 32 by omega] at this, hJx3⟩⟩
      · have hst := tcR_no (p := fun s => tch t s l) hlt hx
        rw [Bool.not_eq_true] at hx
        rw [hx] at HXk
        gi_wp2_with (first | (refine ⟨trivial, ?_⟩; gi_at_call 72; refine (callsIn_wide.2 (HXk.out _ HSr.out)).mono ?_; rintro e W1 ⟨rfl, hb1⟩; have hJ1 := hJ _ wr W1 none hJr (grown_none hb1) (fun r e => by cases e); have hc1 := HC.out.next hb1))
        refine ⟨fun _ h => (by cases h), ?_⟩
        gi_wp2
        go_roundw
        case rel => exact ⟨k + 1, by omega, by go_num, by rw [hst]; exact hJ1, hc1⟩
        case measure => simp [intOf]; omega
    · obtain rfl : k = 32 := by omega
      gi_wp2
      go_end0
      exact ⟨⟨_, rfl⟩, .inl ⟨_, rfl, hJr⟩⟩

end Go.Proofs.YtnoppclajhfnjaaDoor
