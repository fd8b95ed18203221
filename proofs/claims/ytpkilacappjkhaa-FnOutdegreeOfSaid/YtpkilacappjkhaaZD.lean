/- A map[int]bool that a call made, whose keys are small sets, each true: made, stored into, deleted from, looked up. No conditions. The program's keysOf and hasCubeAt. Conditions: Sets is a slice of small sets. IsStrong, the program's and the model's. Conditions: Sets is a slice of ints. The program's classOf: the class of the sets that are keys. No conditions. The program's FlipClass. Conditions: Sets is a slice of ints. The program's ComplementClass. Conditions: Sets is a slice of ints. -/
import Derived.Carry
import Derived.Maps.OwnOps
import Derived.Maps.OwnSet
import Derived.Test.YtpkilacappjkhaaZA
import Derived.Test.YtpkilacappjkhaaZB
namespace Go.Proofs.Ytpkilacappjkhaa
open Go.RowKit Go.Maps

theorem keyInt : Keyed Try.prog 3 := int_keyed Try.underlying3
theorem zeroBool (w : World) : (zeroValue 4).run Try.prog w = .ok (.bool false) w := by kernel_rfl
theorem wf_nat {x : Nat} (h : x < 4096) : (Lit.int .i64 (x : Int)).wf = true := by
  simp [Lit.wf, IntKind.min, IntKind.max, IntKind.signed, IntKind.bits]; omega
theorem keyOf_nat {x : Nat} (h : x < 4096) : keyOf Try.prog 3 (.int .i64 (x : Int)) = some (.int .i64 (x : Int)) := keyOf_int_mk Try.underlying3 (wf_nat h)
theorem isKeyNat {x : Nat} : WideAt.IsKeyLit (.int .i64 (x : Int)) := by simp [WideAt.IsKeyLit]

/-- block b is a map of at most n entries whose keys are the sets for which K holds, each true -/
def Keys (w : World) (b n : Nat) (K : Nat → Bool) : Prop :=
  ∃ D : DataW Unit, w.ownsMap Try.prog 3 (plainElem Try.prog 4) b n D ∧ IsMap D ∧ ∀ x : Nat, x < 4096 → D.atKey (.int .i64 (x : Int)) (.lit (.bool false)) = .lit (.bool (K x))
theorem Keys.made (w : World) : Keys (w.alloc (.map #[] 0)) w.heap.size 0 (fun _ => false) :=
  ⟨.map [], World.ownsMap_made _ _ _ _, isMap_empty, fun _ _ => rfl⟩
theorem Keys.lt {w : World} {b n : Nat} {K : Nat → Bool} (h : Keys w b n K) : b < w.heap.size := by
  obtain ⟨D, h1, _⟩ := h
  exact h1.lt
theorem Keys.mono {w : World} {b n m : Nat} {K : Nat → Bool} (h : Keys w b n K) (hm : n ≤ m) : Keys w b m K := by
  obtain ⟨D, h1, h2⟩ := h
  exact ⟨D, h1.mono hm, h2⟩
theorem Keys.below {w w' : World} {b n B : Nat} {K : Nat → Bool} (h : Keys w b n K) (hb : Below B w w') (hB : b < B) : Keys w' b n K := by
  obtain ⟨D, ⟨es, c, h1, h2⟩, h3⟩ := h
  exact ⟨D, ⟨es, c, by rw [hb.block b hB]; exact h1, h2⟩, h3⟩
theorem Keys.kept {w w' : World} {b n : Nat} {r : Option Nat} {K : Nat → Bool} (h : Keys w b n K) (hg : w.grownBy w' r) (hne : some b ≠ r) : Keys w' b n K := by
  obtain ⟨D, h1, h2⟩ := h
  exact ⟨D, h1.kept hg hne, h2⟩
theorem Keys.congr {w : World} {b n : Nat} {K L : Nat → Bool} (h : Keys w b n K) (he : ∀ x, x < 4096 → K x = L x) : Keys w b n L := by
  obtain ⟨D, h1, h2, h3⟩ := h
  exact ⟨D, h1, h2, fun x hx => by rw [h3 x hx, he x hx]⟩

theorem litNe {x y : Nat} (h : y ≠ x) : (Lit.int .i64 (y : Int)) ≠ Lit.int .i64 (x : Int) := by
  intro e
  simp only [Lit.int.injEq, true_and] at e
  omega


section
variable {ops : Array Oper} {rest : List Oper} {o : Oper} {a : Act} {Q : Exit → Act → World → Prop}




end

end Go.Proofs.Ytpkilacappjkhaa

namespace Go.Proofs.Ytpkilacappjkhaa
open Go.RowKit Go.Maps


/-- is x among the first k of ns? -/
def hasTo (ns : List Nat) (k x : Nat) : Bool := (List.range k).any (fun j => ns.getD j 0 == x)
theorem hasTo_succ (ns : List Nat) (k x : Nat) : hasTo ns (k + 1) x = (decide (x = ns.getD k 0) || hasTo ns k x) := by
  simp only [hasTo, List.range_succ, List.any_append, List.any_cons, List.any_nil, Bool.or_false]
  rw [Bool.or_comm]
  congr 1
  rw [Bool.eq_iff_iff]
  simp
  exact eq_comm
theorem hasTo_all (ns : List Nat) (x : Nat) : hasTo ns ns.length x = decide (x ∈ ns) := by
  rw [Bool.eq_iff_iff]
  simp only [hasTo, List.any_eq_true, List.mem_range, beq_iff_eq, decide_eq_true_eq]
  constructor
  · rintro ⟨j, hj, rfl⟩
    exact getD_of_lt hj
  · intro hm
    obtain ⟨j, hj, e⟩ := List.getElem_of_mem hm
    exact ⟨j, hj, by rw [List.getD_eq_getElem?_getD, List.getElem?_eq_getElem hj]; exact e⟩


/-- are all parts below k of s, put to c, keys? -/
def cubTo (K : Nat → Bool) (c s k : Nat) : Bool := (List.range k).all (fun a => !(a &&& s == a) || K (c ||| a))
theorem cubTo_skip {K : Nat → Bool} {c s k : Nat} (h : ¬ k &&& s = k) : cubTo K c s (k + 1) = cubTo K c s k := by simp [cubTo, List.range_succ, h]
theorem cubTo_yes {K : Nat → Bool} {c s k : Nat} (h : K (c ||| k) = true) : cubTo K c s (k + 1) = cubTo K c s k := by simp [cubTo, List.range_succ, h]
theorem cubTo_no {K : Nat → Bool} {c s k j : Nat} (h : k &&& s = k) (h2 : K (c ||| k) = false) (hj : k < j) : cubTo K c s j = false := by
  rw [← Bool.not_eq_true]
  intro hh
  simp only [cubTo, List.all_eq_true, List.mem_range] at hh
  have := hh k hj
  simp [h, h2] at this


end Go.Proofs.Ytpkilacappjkhaa

namespace Go.Proofs.Ytpkilacappjkhaa
open Go.RowKit

/-- is c the corner of a cube along s? -/
def crn (ns : List Nat) (s c : Nat) : Bool := (c &&& s == 0) && cubTo (fun x => decide (x ∈ ns)) c s (s + 1)
def strTo (ns : List Nat) (s k : Nat) : Bool := (List.range k).any (fun j => crn ns s (ns.getD j 0))
def strg (ns : List Nat) (s : Nat) : Bool := strTo ns s ns.length
def strB (n : Int) (zs : List Int) (s : Int) : Bool := inB n zs s && strg (zs.map Int.toNat) s.toNat
theorem strB_bad {n : Int} {zs : List Int} {s : Int} (h : inB n zs s = false) : strB n zs s = false := by simp [strB, h]
theorem strB_in {n : Nat} {ns : List Nat} {s : Nat} (h : vldB n (toI ns) = true) (hs : setB n s = true) : strB n (toI ns) s = strg ns s := by
  simp [strB, inB, h, hs, toNat_toI]
theorem strTo_no {ns : List Nat} {s k : Nat} (h : crn ns s (ns.getD k 0) = false) : strTo ns s (k + 1) = strTo ns s k := by
  simp only [strTo, List.range_succ, List.any_append, List.any_cons, List.any_nil, Bool.or_false]
  rw [h, Bool.or_false]
theorem strTo_yes {ns : List Nat} {s k j : Nat} (h : crn ns s (ns.getD k 0) = true) (hj : k < j) : strTo ns s j = true := by
  simp only [strTo, List.any_eq_true, List.mem_range]
  exact ⟨k, hj, h⟩
theorem crn_mem {ns : List Nat} {s c : Nat} (h : crn ns s c = true) : c ∈ ns := by
  simp only [crn, Bool.and_eq_true, cubTo, List.all_eq_true, List.mem_range] at h
  have := h.2 0 (by omega)
  simpa using this
theorem strg_iff {ns : List Nat} {s : Nat} : strg ns s = true ↔ ∃ c ∈ ns, crn ns s c = true := by
  simp only [strg, strTo, List.any_eq_true, List.mem_range]
  constructor
  · rintro ⟨j, hj, h⟩
    exact ⟨_, getD_of_lt hj, h⟩
  · rintro ⟨c, hm, h⟩
    obtain ⟨j, hj, e⟩ := List.getElem_of_mem hm
    refine ⟨j, hj, ?_⟩
    rw [List.getD_eq_getElem?_getD, List.getElem?_eq_getElem hj]
    show crn ns s ns[j] = true
    rw [e]
    exact h


end Go.Proofs.Ytpkilacappjkhaa

namespace Go.Proofs.Ytpkilacappjkhaa
open Go.RowKit

/-- the class that is being made in block o -/
structure Out (n : Int) (v : Value) (o : Nat) (w : World) : Prop where
  at0 : w.cell? ⟨o, 0, none⟩ = some (.int .i64 n)
  at1 : w.cell? ⟨o, 1, none⟩ = some v
  free0 : w.frozen? ⟨o, 0, none⟩ = false
  free1 : w.frozen? ⟨o, 1, none⟩ = false

theorem Out.next {n : Int} {v : Value} {o B : Nat} {w w' : World} (h : Out n v o w) (hb : Below B w w') (ho : o < B) : Out n v o w' :=
  ⟨(hb.cell (p := ⟨o, 0, none⟩) ho).trans h.at0, (hb.cell (p := ⟨o, 1, none⟩) ho).trans h.at1, (hb.frozen (p := ⟨o, 0, none⟩) ho).trans h.free0, (hb.frozen (p := ⟨o, 1, none⟩) ho).trans h.free1⟩

theorem Out.kept {n : Int} {v : Value} {o : Nat} {r : Option Nat} {w w' : World} (h : Out n v o w) (hg : w.grownBy w' r) (hne : some o ≠ r) (hlt : o < w.heap.size) : Out n v o w' := by
  have hb := hg.block o hlt hne
  have hc : ∀ i, w'.cell? ⟨o, i, none⟩ = w.cell? ⟨o, i, none⟩ := fun i => World.cell?_of_block (w := w) (a := ⟨o, i, none⟩) hb
  have hf : ∀ i, w'.frozen? ⟨o, i, none⟩ = w.frozen? ⟨o, i, none⟩ := fun i => World.frozen?_of_block (w := w) (a := ⟨o, i, none⟩) hb
  exact ⟨(hc 0).trans h.at0, (hc 1).trans h.at1, (hf 0).trans h.free0, (hf 1).trans h.free1⟩

theorem Out.set {n : Int} {v : Value} {o : Nat} {w : World} (h : Out n v o w) (u : Value) : Out n u o (w.setCell ⟨o, 1, none⟩ u) :=
  ⟨(World.cell?_setCell_other _ _ _ _ (by simp)).trans h.at0, World.cell?_setCell_same _ _ _ h.at1, by rw [World.frozen?_setCell]; exact h.free0, by rw [World.frozen?_setCell]; exact h.free1⟩


end Go.Proofs.Ytpkilacappjkhaa

namespace Go.Proofs.Ytpkilacappjkhaa
open Go.RowKit

/-- is x what f makes of one of the first k of ns? -/
def hasF (f : Nat → Nat) (ns : List Nat) (k x : Nat) : Bool := (List.range k).any (fun j => f (ns.getD j 0) == x)
theorem hasF_succ (f : Nat → Nat) (ns : List Nat) (k x : Nat) : hasF f ns (k + 1) x = (decide (x = f (ns.getD k 0)) || hasF f ns k x) := by
  simp only [hasF, List.range_succ, List.any_append, List.any_cons, List.any_nil, Bool.or_false]
  rw [Bool.or_comm]
  congr 1
  rw [Bool.eq_iff_iff]
  simp
  exact eq_comm
theorem hasF_all (f : Nat → Nat) (ns : List Nat) (x : Nat) : hasF f ns ns.length x = decide (x ∈ ns.map f) := by
  rw [Bool.eq_iff_iff]
  simp only [hasF, List.any_eq_true, List.mem_range, beq_iff_eq, decide_eq_true_eq, List.mem_map]
  constructor
  · rintro ⟨j, hj, rfl⟩
    exact ⟨_, getD_of_lt hj, rfl⟩
  · rintro ⟨c, hm, rfl⟩
    obtain ⟨j, hj, e⟩ := List.getElem_of_mem hm
    exact ⟨j, hj, by rw [List.getD_eq_getElem?_getD, List.getElem?_eq_getElem hj]; show f ns[j] = f c; rw [e]⟩
theorem range_tidy {m : Nat} (hm : m ≤ 5) {l : List Nat} (hl : ∀ x ∈ l, x < 2 ^ m) : (List.range (2 ^ m)).filter (fun x => decide (x ∈ l)) = tidyL l := by
  unfold tidyL
  apply flt_of ((range_asc _).filter _)
  intro x
  have := pow_le_32 hm
  simp only [List.mem_filter, List.mem_range, decide_eq_true_eq]
  constructor
  · rintro ⟨h1, h2⟩
    exact ⟨by omega, h2⟩
  · rintro ⟨h1, h2⟩
    exact ⟨hl x h2, h2⟩

def flipN (n : Int) (zs : List Int) (s : Int) : Int := if inB n zs s = true then n else 0
def flipL (n : Int) (zs : List Int) (s : Int) : List Int := if inB n zs s = true then toI (tidyL ((zs.map Int.toNat).map (fun t => t ^^^ s.toNat))) else []

theorem flipL_len (n : Int) (zs : List Int) (s : Int) : (flipL n zs s).length ≤ 1048576 := by
  unfold flipL
  split
  · rw [toI_length]
    have := flt_length (fun p => decide (p ∈ (zs.map Int.toNat).map (fun t => t ^^^ s.toNat)))
    unfold tidyL
    omega
  · simp


end Go.Proofs.Ytpkilacappjkhaa

namespace Go.Proofs.Ytpkilacappjkhaa
open Go.RowKit

/-- the other sets -/
def cmpl (m : Nat) (ns : List Nat) : List Nat := (List.range (2 ^ m)).filter (fun s => !decide (s ∈ ns))
theorem cmpl_eq (m : Nat) (ns : List Nat) : (List.range (2 ^ m)).filter (fun y => !hasTo ns ns.length y && decide (y < 2 ^ m)) = cmpl m ns := by
  unfold cmpl
  apply List.filter_congr
  intro y hy
  rw [hasTo_all, decide_eq_true (List.mem_range.1 hy), Bool.and_true]
theorem lt_succ_or (y k : Nat) : (decide (y = k) || decide (y < k)) = decide (y < k + 1) := by
  rw [Bool.eq_iff_iff]
  simp
  omega
def cmN (n : Int) (zs : List Int) : Int := if vldB n zs = true then n else 0
def cmL (n : Int) (zs : List Int) : List Int := if vldB n zs = true then toI (cmpl n.toNat (zs.map Int.toNat)) else []
theorem cmL_len (n : Int) (zs : List Int) : (cmL n zs).length ≤ 1048576 := by
  unfold cmL
  split
  · rename_i hv
    obtain ⟨m, ns, rfl, rfl, hc⟩ := vldB_cls hv
    rw [toI_length, Int.toNat_natCast]
    have := List.length_filter_le (fun s => !decide (s ∈ (toI ns).map Int.toNat)) (List.range (2 ^ m))
    have := pow_le_32 hc.pts
    unfold cmpl
    simp at *
    omega
  · simp


end Go.Proofs.Ytpkilacappjkhaa
