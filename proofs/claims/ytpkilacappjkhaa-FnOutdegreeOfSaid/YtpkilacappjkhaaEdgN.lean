/- The edges at a set: the sets behind it that differ at one point, by the point. No program. -/
import Derived.Test.YtpkilacappjkhaaEdgM
namespace Go.Proofs.Ytpkilacappjkhaa
open Go.RowKit

/-- the sets of ns that differ from s at one of the first k points, by the point -/
def nearTo (ns : List Nat) (s k : Nat) : List Nat := ((List.range k).map (fun x => s ^^^ 2 ^ x)).filter (fun t => decide (t ∈ ns))
theorem near_yes {ns : List Nat} {s k : Nat} (h : s ^^^ 2 ^ k ∈ ns) : nearTo ns s (k + 1) = nearTo ns s k ++ [s ^^^ 2 ^ k] := by
  have h2 : decide (s ^^^ 2 ^ k ∈ ns) = true := decide_eq_true h
  simp only [nearTo, List.range_succ, List.map_append, List.filter_append, List.map_cons, List.map_nil, List.filter_cons, List.filter_nil, h2, ↓reduceIte]
theorem near_no {ns : List Nat} {s k : Nat} (h : ¬ s ^^^ 2 ^ k ∈ ns) : nearTo ns s (k + 1) = nearTo ns s k := by
  have h2 : decide (s ^^^ 2 ^ k ∈ ns) = false := decide_eq_false h
  simp only [nearTo, List.range_succ, List.map_append, List.filter_append, List.map_cons, List.map_nil, List.filter_cons, List.filter_nil, h2, Bool.false_eq_true, ↓reduceIte, List.append_nil]
theorem near_len (ns : List Nat) (s k : Nat) : (nearTo ns s k).length ≤ k := by
  have := List.length_filter_le (fun t => decide (t ∈ ns)) ((List.range k).map (fun x => s ^^^ 2 ^ x))
  rw [List.length_map, List.length_range] at this
  exact this
theorem near_mem {ns : List Nat} {s k t : Nat} (h : t ∈ nearTo ns s k) : t ∈ ns := by
  rw [nearTo, List.mem_filter] at h
  exact of_decide_eq_true h.2
theorem up_asc : ∀ (m : Fin 6) (s : Fin 32), (((List.range m.1).map (fun x => s.1 ^^^ 2 ^ x)).filter (fun t => decide (s.1 < t))).Pairwise (· < ·) := by decide +kernel
theorem adj_iff : ∀ (m : Fin 6) (s t : Fin 32), s.1 < 2 ^ m.1 → t.1 < 2 ^ m.1 → (adj s.1 t.1 = true ↔ t.1 ∈ (List.range m.1).map (fun x => s.1 ^^^ 2 ^ x)) := by decide +kernel
/-- the program's edges at a set are the model's -/
theorem eg_near {m : Nat} {ns : List Nat} (hc : Cls m ns) {i : Nat} (hi : i < ns.length) :
    egIn ns i ns.length = ((nearTo ns (ns.getD i 0) m).filter (fun t => decide (ns.getD i 0 < t))).map (fun t => (((ns.getD i 0 : Nat) : Int), ((t : Nat) : Int))) := by
  have hm := hc.pts
  have hsm : ns.getD i 0 ∈ ns := getD_of_lt hi
  have hs32 := hc.lt32 _ hsm
  have hsl := hc.lt _ hsm
  have hgt : ∀ j, j < ns.length → (i < j ↔ ns.getD i 0 < ns.getD j 0) := by
    intro j hj
    have h1 := List.pairwise_iff_getElem.1 hc.asc
    rw [List.getD_eq_getElem?_getD, List.getD_eq_getElem?_getD, List.getElem?_eq_getElem hi, List.getElem?_eq_getElem hj, Option.getD_some, Option.getD_some]
    constructor
    · intro h; exact h1 i j hi hj h
    · intro h
      rcases Nat.lt_trichotomy i j with h2 | h2 | h2
      · exact h2
      · subst h2; omega
      · have := h1 j i hj hi h2; omega
  have hL : egIn ns i ns.length = (((List.range ns.length).filter (fun j => decide (i < j) && adj (ns.getD i 0) (ns.getD j 0))).map (fun j => ns.getD j 0)).map (fun t => (((ns.getD i 0 : Nat) : Int), ((t : Nat) : Int))) := by
    rw [List.map_map]; rfl
  rw [hL]
  congr 1
  apply asc_ext
  · rw [List.pairwise_map]
    have h0 : ((List.range ns.length).filter (fun j => decide (i < j) && adj (ns.getD i 0) (ns.getD j 0))).Pairwise (· < ·) := List.Pairwise.filter _ List.pairwise_lt_range
    refine List.Pairwise.imp_of_mem (fun {a b} ha hb hab => ?_) h0
    have ha' := List.mem_range.1 (List.mem_filter.1 ha).1
    have hb' := List.mem_range.1 (List.mem_filter.1 hb).1
    have h1 := List.pairwise_iff_getElem.1 hc.asc
    rw [List.getD_eq_getElem?_getD, List.getD_eq_getElem?_getD, List.getElem?_eq_getElem ha', List.getElem?_eq_getElem hb', Option.getD_some, Option.getD_some]
    exact h1 a b ha' hb' hab
  · have h1 := up_asc ⟨m, by omega⟩ ⟨ns.getD i 0, hs32⟩
    dsimp only at h1
    rw [nearTo, List.filter_filter]
    have h2 := h1.filter (fun t => decide (t ∈ ns))
    rw [List.filter_filter] at h2
    rw [show (fun a => decide (ns.getD i 0 < a) && decide (a ∈ ns)) = (fun a => decide (a ∈ ns) && decide (ns.getD i 0 < a)) from funext fun a => Bool.and_comm _ _]
    exact h2
  · intro t
    rw [List.mem_map, List.mem_filter, nearTo, List.mem_filter]
    constructor
    · rintro ⟨j, hj, rfl⟩
      obtain ⟨hj1, hj2⟩ := List.mem_filter.1 hj
      rw [List.mem_range] at hj1
      rw [Bool.and_eq_true, decide_eq_true_eq] at hj2
      have htm : ns.getD j 0 ∈ ns := getD_of_lt hj1
      exact ⟨⟨(adj_iff ⟨m, by omega⟩ ⟨_, hs32⟩ ⟨_, hc.lt32 _ htm⟩ hsl (hc.lt _ htm)).1 hj2.2, decide_eq_true htm⟩, decide_eq_true ((hgt j hj1).1 hj2.1)⟩
    · rintro ⟨⟨h1, h2⟩, h3⟩
      have htm : t ∈ ns := of_decide_eq_true h2
      have hlt := of_decide_eq_true h3
      obtain ⟨j, hj, rfl⟩ := List.getElem_of_mem htm
      have hg : ns.getD j 0 = ns[j] := by rw [List.getD_eq_getElem?_getD, List.getElem?_eq_getElem hj, Option.getD_some]
      refine ⟨j, List.mem_filter.2 ⟨List.mem_range.2 hj, ?_⟩, hg⟩
      rw [hg, Bool.and_eq_true, decide_eq_true_eq]
      exact ⟨(hgt j hj).2 (by rw [hg]; exact hlt), (adj_iff ⟨m, by omega⟩ ⟨_, hs32⟩ ⟨ns[j], hc.lt32 _ htm⟩ hsl (hc.lt _ htm)).2 h1⟩

end Go.Proofs.Ytpkilacappjkhaa
