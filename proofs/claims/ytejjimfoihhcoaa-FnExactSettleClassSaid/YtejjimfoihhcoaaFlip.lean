/- The program's FlipClass. Conditions: Sets is a slice of ints. -/
import Derived.Test.YtejjimfoihhcoaaClassOf
import Derived.Test.YtejjimfoihhcoaaTraceS
import Derived.Test.YtejjimfoihhcoaaArr2
import Derived.Test.YtejjimfoihhcoaaCls
namespace Go.Proofs.Ytejjimfoihhcoaa
open Go.RowKit

/-- is x what f makes of one of the first k of ns? -/
def hasF (f : Nat → Nat) (ns : List Nat) (k x : Nat) : Bool := (List.range k).any (fun j => f (ns.getD j 0) == x)
theorem hasF_succ (f : Nat → Nat) (ns : List Nat) (k x : Nat) : hasF f ns (k + 1) x = (decide (x = f (ns.getD k 0)) || hasF f ns k x) := by
  simp only [hasF, List.range_succ, List.any_append, List.any_cons, List.any_nil, Bool.or_false]
  rw [Bool.or_comm]
  congr 1
  rw [Bool.eq_iff_iff]
  simp
  exact eq_comm
theorem hasF_all (f : Nat → Nat) (ns : List Nat) (x : Nat) : hasF f ns ns.length x = decide (x ∈ ns.map f) := by
  rw [Bool.eq_iff_iff]
  simp only [hasF, List.any_eq_true, List.mem_range, beq_iff_eq, decide_eq_true_eq, List.mem_map]
  constructor
  · rintro ⟨j, hj, rfl⟩
    exact ⟨_, getD_of_lt hj, rfl⟩
  · rintro ⟨c, hm, rfl⟩
    obtain ⟨j, hj, e⟩ := List.getElem_of_mem hm
    exact ⟨j, hj, by rw [List.getD_eq_getElem?_getD, List.getElem?_eq_getElem hj]; show f ns[j] = f c; rw [e]⟩
theorem range_tidy {m : Nat} (hm : m ≤ 5) {l : List Nat} (hl : ∀ x ∈ l, x < 2 ^ m) : (List.range (2 ^ m)).filter (fun x => decide (x ∈ l)) = tidyL l := by
  unfold tidyL
  apply flt_of ((range_asc _).filter _)
  intro x
  have := pow_le_32 hm
  simp only [List.mem_filter, List.mem_range, decide_eq_true_eq]
  constructor
  · rintro ⟨h1, h2⟩
    exact ⟨by omega, h2⟩
  · rintro ⟨h1, h2⟩
    exact ⟨hl x h2, h2⟩

def flipN (n : Int) (zs : List Int) (s : Int) : Int := if inB n zs s = true then n else 0
def flipL (n : Int) (zs : List Int) (s : Int) : List Int := if inB n zs s = true then toI (tidyL ((zs.map Int.toNat).map (fun t => t ^^^ s.toNat))) else []

theorem flipL_len (n : Int) (zs : List Int) (s : Int) : (flipL n zs s).length ≤ 1048576 := by
  unfold flipL
  split
  · rw [toI_length]
    have := flt_length (fun p => decide (p ∈ (zs.map Int.toNat).map (fun t => t ^^^ s.toNat)))
    unfold tidyL
    omega
  · simp


end Go.Proofs.Ytejjimfoihhcoaa
