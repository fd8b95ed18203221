/- The program's keysOf and hasCubeAt. Conditions: Sets is a slice of small sets. -/
import Derived.Test.YtejjimfoihhcoaaKeys
import Derived.Test.YtejjimfoihhcoaaSpec1
import Derived.Carry
namespace Go.Proofs.Ytejjimfoihhcoaa
open Go.RowKit Go.Maps

theorem run_makeMapN (k : Nat) (w : World) : (Instr.makeMap 49 (some (.int .i64 (k : Int)))).run Try.prog w = .ok (.map (some w.heap.size)) (w.alloc (.map #[] 0)) := by
  simp [Instr.makeMap, run_underlying Try.underlying49, asInt, asIntOf, Result.andThen]

/-- is x among the first k of ns? -/
def hasTo (ns : List Nat) (k x : Nat) : Bool := (List.range k).any (fun j => ns.getD j 0 == x)
theorem hasTo_succ (ns : List Nat) (k x : Nat) : hasTo ns (k + 1) x = (decide (x = ns.getD k 0) || hasTo ns k x) := by
  simp only [hasTo, List.range_succ, List.any_append, List.any_cons, List.any_nil, Bool.or_false]
  rw [Bool.or_comm]
  congr 1
  rw [Bool.eq_iff_iff]
  simp
  exact eq_comm
theorem hasTo_all (ns : List Nat) (x : Nat) : hasTo ns ns.length x = decide (x ∈ ns) := by
  rw [Bool.eq_iff_iff]
  simp only [hasTo, List.any_eq_true, List.mem_range, beq_iff_eq, decide_eq_true_eq]
  constructor
  · rintro ⟨j, hj, rfl⟩
    exact getD_of_lt hj
  · intro hm
    obtain ⟨j, hj, e⟩ := List.getElem_of_mem hm
    exact ⟨j, hj, by rw [List.getD_eq_getElem?_getD, List.getElem?_eq_getElem hj]; exact e⟩

set_option maxHeartbeats 1600000 in
set_option maxRecDepth 100000 in
theorem implKeysOf (n : Int) (v : Value) (ns : List Nat) (w : World) (h : Rd w v (toI ns)) (hl : ns.length ≤ 32) (hm : ∀ t ∈ ns, t < 32) :
    Calls Try.prog 52 #[.agg #[.int .i64 n, v]] w fun e w' => e = .returned (.map (some (w.heap.size + 1))) ∧ Keys w' (w.heap.size + 1) 32 (fun x => decide (x ∈ ns)) ∧ Below w.heap.size w w' := by
  obtain ⟨a, b, off, cap, rfl, h1, h3, h5⟩ := h
  rw [toI_length] at *
  have H5 := Lib.hid h5
  have H1 := Lib.hid h1
  clear h5 h1
  have hmm := run_makeMapN ns.length
  go_enter Try.func52, Try.ntmps52
  go_wp2_with fail
  go_loopw [13] (fun i wr => ∃ k : Nat, k ≤ ns.length ∧ i = .int .i64 k ∧ Keys wr (w.heap.size + 1) k (hasTo ns k) ∧ Below w.heap.size w wr) (fun i _ => ns.length - (intOf i).toNat)
  case atStart =>
    refine ⟨0, Nat.zero_le _, rfl, ?_, ?_⟩
    · have := (Keys.made (w.alloc (Obj.cells #[.int .i64 n, .slice a ns.length cap] 27))).congr (L := hasTo ns 0) (fun _ _ => rfl)
      simpa using this
    · exact Below.alloc (Below.alloc (Below.refl _ _) (Nat.le_refl _) _) (by simp) _
  case round =>
    obtain ⟨k, hk, rfl, hks, hbe⟩ := hrel
    have HK := Lib.hid hks
    have HBE := Lib.hid hbe
    clear hks hbe
    by_cases hlt : k < ns.length
    · obtain ⟨rfl, hbl⟩ := H1.out (by omega)
      have hc := (HBE.out.cell (p := ⟨b, off + k, none⟩) hbl).trans (H5.out k hlt)
      rw [toI_getD] at hc
      have hx := hm _ (getD_of_lt hlt)
      have HS := Lib.hid (hasTo_succ ns k)
      generalize ns.getD k 0 = x at *
      go_wp2_with (at_mapUpdate; refine wpList_keys_put _ rfl (.tmp 17) (.tmp 18) _ rfl (w.heap.size + 1) k (hasTo ns k) rfl HK.out (by omega) x (by omega) rfl rfl ?_; intro w1 hk1 hg1)
      have HK1 := Lib.hid hk1
      have HB1 := Lib.hid (HBE.out.grown hg1 HBE.out.size (fun j hj => by cases hj; omega))
      clear hk1 hg1
      go_roundw
      case rel => exact ⟨k + 1, by omega, by go_num, HK1.out.congr (fun y _ => by rw [HS.out y]), HB1.out⟩
      case measure => simp [intOf]; omega
    · obtain rfl : k = ns.length := by omega
      go_wp2_with fail
      go_ret
      exact ⟨rfl, (HK.out.mono hl).congr (fun y _ => by rw [hasTo_all]), HBE.out⟩

/-- are all parts below k of s, put to c, keys? -/
def cubTo (K : Nat → Bool) (c s k : Nat) : Bool := (List.range k).all (fun a => !(a &&& s == a) || K (c ||| a))
theorem cubTo_skip {K : Nat → Bool} {c s k : Nat} (h : ¬ k &&& s = k) : cubTo K c s (k + 1) = cubTo K c s k := by simp [cubTo, List.range_succ, h]
theorem cubTo_yes {K : Nat → Bool} {c s k : Nat} (h : K (c ||| k) = true) : cubTo K c s (k + 1) = cubTo K c s k := by simp [cubTo, List.range_succ, h]
theorem cubTo_no {K : Nat → Bool} {c s k j : Nat} (h : k &&& s = k) (h2 : K (c ||| k) = false) (hj : k < j) : cubTo K c s j = false := by
  rw [← Bool.not_eq_true]
  intro hh
  simp only [cubTo, List.all_eq_true, List.mem_range] at hh
  have := hh k hj
  simp [h, h2] at this


end Go.Proofs.Ytejjimfoihhcoaa
