/- The cubes of a class, as a list of pairs. No program. The pairs of sets that differ at one point, as a list. No program. The edges at a set: the sets behind it that differ at one point, by the point. No program. The number of edges: by the last point, by any point, summed over the points; no more than the dimension times the sets; no fewer where a point is shifted. No program. A shift shatters no more, has no fewer strong sets and no fewer edges. No program. Slices of pairs: read, compared. Conditions: at most 1048576 of them. append of one pair to a slice of pairs that the call itself has made. Conditions: fewer than a million of them. -/
import Derived.Deep.RegionHeld3
import Derived.Test.YtnoppclajhfnjabDoorZ4
import Derived.Test.YtnoppclajhfnjabDoorZA
import Derived.Test.YtnoppclajhfnjabDoorZD
import Derived.Test.YtnoppclajhfnjabDoorZH
namespace Go.Proofs.YtnoppclajhfnjabDoor
open Go.RowKit

/-- the cubes at a along the first k sets -/
def cbIn (ns : List Nat) (a k : Nat) : List (Int × Int) := ((List.range k).filter (fun b => crn ns b a)).map (fun (b : Nat) => ((a : Int), (b : Int)))
theorem cbIn_yes {ns : List Nat} {a k : Nat} (h : crn ns k a = true) : cbIn ns a (k + 1) = cbIn ns a k ++ [((a : Int), (k : Int))] := by
  simp [cbIn, List.range_succ, List.filter_append, h]
theorem cbIn_no {ns : List Nat} {a k : Nat} (h : crn ns k a = false) : cbIn ns a (k + 1) = cbIn ns a k := by
  simp [cbIn, List.range_succ, List.filter_append, h]
theorem cbIn_len (ns : List Nat) (a k : Nat) : (cbIn ns a k).length ≤ k := by
  rw [cbIn, List.length_map]
  have := List.length_filter_le (fun b => crn ns b a) (List.range k)
  rw [List.length_range] at this
  exact this
theorem cbIn_out {ns : List Nat} {a : Nat} (h : ¬ a ∈ ns) (k : Nat) : cbIn ns a k = [] := by
  rw [cbIn, List.map_eq_nil_iff, List.filter_eq_nil_iff]
  intro b _ hb
  exact h (crn_mem hb)
/-- the cubes at the first j sets of the class -/
def cbTo (ns : List Nat) (m j : Nat) : List (Int × Int) := (ns.take j).flatMap (fun a => cbIn ns a (2 ^ m))
theorem cbTo_succ {ns : List Nat} {m j : Nat} (hj : j < ns.length) : cbTo ns m (j + 1) = cbTo ns m j ++ cbIn ns (ns.getD j 0) (2 ^ m) := by
  rw [cbTo, cbTo, List.take_add_one, List.flatMap_append]
  congr 1
  rw [List.getD_eq_getElem?_getD, List.getElem?_eq_getElem hj]
  simp
theorem cbTo_len {ns : List Nat} {m : Nat} (hm : m ≤ 5) (j : Nat) : (cbTo ns m j).length ≤ j * 32 := by
  induction j with
  | zero => simp [cbTo]
  | succ j ih =>
    by_cases hj : j < ns.length
    · rw [cbTo_succ hj, List.length_append]
      have h1 := cbIn_len ns (ns.getD j 0) (2 ^ m)
      have h2 := pow_le_32 hm
      omega
    · have : ns.take (j + 1) = ns.take j := by rw [List.take_of_length_le (by omega), List.take_of_length_le (by omega)]
      rw [cbTo, this]
      have h3 : (cbTo ns m j).length ≤ j * 32 := ih
      rw [cbTo] at h3
      omega
/-- the cubes at the sets below j -/
def csTo (ns : List Nat) (m j : Nat) : List (Int × Int) := (List.range j).flatMap (fun a => cbIn ns a (2 ^ m))
theorem csTo_succ (ns : List Nat) (m j : Nat) : csTo ns m (j + 1) = csTo ns m j ++ cbIn ns j (2 ^ m) := by
  simp [csTo, List.range_succ, List.flatMap_append]
theorem csTo_len {ns : List Nat} {m : Nat} (hm : m ≤ 5) (j : Nat) : (csTo ns m j).length ≤ j * 32 := by
  induction j with
  | zero => simp [csTo]
  | succ j ih =>
    rw [csTo_succ, List.length_append]
    have h1 := cbIn_len ns j (2 ^ m)
    have h2 := pow_le_32 hm
    omega
theorem flatMap_filter {α β : Type} (l : List α) (f : α → List β) (p : α → Bool) (h : ∀ a, p a = false → f a = []) : l.flatMap f = (l.filter p).flatMap f := by
  induction l with
  | nil => rfl
  | cons a l ih =>
    rw [List.flatMap_cons, List.filter_cons]
    cases hp : p a with
    | true => rw [if_pos rfl, List.flatMap_cons, ih]
    | false => rw [if_neg (by decide), h a hp, List.nil_append, ih]
theorem cs_cb {m : Nat} {ns : List Nat} (h : Cls m ns) : csTo ns m (2 ^ m) = cbTo ns m ns.length := by
  rw [csTo, cbTo, List.take_length, flatMap_filter _ _ (fun a => decide (a ∈ ns)) (fun a ha => cbIn_out (by simpa using ha) _)]
  congr 1
  have h1 : ((List.range (2 ^ m)).filter (fun s => decide (s ∈ ns))).Pairwise (· < ·) := List.Pairwise.filter _ List.pairwise_lt_range
  have hp : List.Perm ((List.range (2 ^ m)).filter (fun s => decide (s ∈ ns))) ns := by
    apply (List.perm_ext_iff_of_nodup (List.nodup_range.filter _) (h.asc.imp (fun h => Nat.ne_of_lt h))).2
    intro s
    rw [List.mem_filter, List.mem_range, decide_eq_true_eq]
    exact ⟨fun h => h.2, fun h9 => ⟨h.lt s h9, h9⟩⟩
  exact hp.eq_of_pairwise (fun a b _ _ h1 h2 => by omega) h1 h.asc
/-- what CubesOf answers -/
def cubL (n : Int) (zs : List Int) : List (Int × Int) := if vldB n zs = true then cbTo (zs.map Int.toNat) n.toNat (zs.map Int.toNat).length else []
theorem cubL_in {m : Nat} {ns : List Nat} (h : vldB (m : Int) (toI ns) = true) : cubL (m : Int) (toI ns) = cbTo ns m ns.length := by rw [cubL, if_pos h, toNat_toI, Int.toNat_natCast]
theorem cubL_bad {n : Int} {zs : List Int} (h : vldB n zs = false) : cubL n zs = [] := by rw [cubL, h]; rfl
theorem cubL_len (n : Int) (zs : List Int) : (cubL n zs).length ≤ 1048576 := by
  unfold cubL
  split
  · rename_i hv
    obtain ⟨m, ns, rfl, rfl, hc⟩ := vldB_cls hv
    rw [toNat_toI, Int.toNat_natCast]
    have h1 := cbTo_len (ns := ns) hc.pts ns.length
    have h2 := hc.length
    omega
  · simp

end Go.Proofs.YtnoppclajhfnjabDoor

namespace Go.Proofs.YtnoppclajhfnjabDoor
open Go.RowKit

/-- s and t differ at one point -/
def adj (s t : Nat) : Bool := pc (s ^^^ t) == 1
/-- the pairs of the set at i with those behind it, among the first k -/
def egIn (ns : List Nat) (i k : Nat) : List (Int × Int) := ((List.range k).filter (fun j => decide (i < j) && adj (ns.getD i 0) (ns.getD j 0))).map (fun j => (((ns.getD i 0 : Nat) : Int), ((ns.getD j 0 : Nat) : Int)))
theorem egIn_nil (ns : List Nat) (i : Nat) : egIn ns i (i + 1) = [] := by
  rw [egIn, List.map_eq_nil_iff, List.filter_eq_nil_iff]
  intro j hj h
  rw [List.mem_range] at hj
  rw [Bool.and_eq_true, decide_eq_true_eq] at h
  omega
theorem egIn_yes {ns : List Nat} {i k : Nat} (hik : i < k) (h : adj (ns.getD i 0) (ns.getD k 0) = true) : egIn ns i (k + 1) = egIn ns i k ++ [(((ns.getD i 0 : Nat) : Int), ((ns.getD k 0 : Nat) : Int))] := by
  have h2 : (decide (i < k) && adj (ns.getD i 0) (ns.getD k 0)) = true := by rw [h, decide_eq_true hik]; rfl
  simp only [egIn, List.range_succ, List.filter_append, List.map_append, List.filter_cons, List.filter_nil, h2, ↓reduceIte, List.map_cons, List.map_nil]
theorem egIn_no {ns : List Nat} {i k : Nat} (h : adj (ns.getD i 0) (ns.getD k 0) = false) : egIn ns i (k + 1) = egIn ns i k := by
  have h2 : (decide (i < k) && adj (ns.getD i 0) (ns.getD k 0)) = false := by rw [h, Bool.and_false]
  simp only [egIn, List.range_succ, List.filter_append, List.filter_cons, List.filter_nil, h2, Bool.false_eq_true, ↓reduceIte, List.append_nil]
theorem egIn_len (ns : List Nat) (i k : Nat) : (egIn ns i k).length ≤ k := by
  rw [egIn, List.length_map]
  have := List.length_filter_le (fun j => decide (i < j) && adj (ns.getD i 0) (ns.getD j 0)) (List.range k)
  rw [List.length_range] at this
  exact this
/-- the pairs of the first i sets with those behind each -/
def egTo (ns : List Nat) (i : Nat) : List (Int × Int) := (List.range i).flatMap (fun j => egIn ns j ns.length)
theorem egTo_succ (ns : List Nat) (i : Nat) : egTo ns (i + 1) = egTo ns i ++ egIn ns i ns.length := by
  simp [egTo, List.range_succ, List.flatMap_append]
theorem egTo_len {ns : List Nat} (h : ns.length ≤ 32) (i : Nat) : (egTo ns i).length ≤ i * 32 := by
  induction i with
  | zero => simp [egTo]
  | succ i ih =>
    rw [egTo_succ, List.length_append]
    have h1 := egIn_len ns i ns.length
    omega
/-- the edges of any class: none where it is not valid -/
def egL (n : Int) (zs : List Int) : List (Int × Int) := if vldB n zs = true then egTo (zs.map Int.toNat) (zs.map Int.toNat).length else []
theorem egL_in {m : Nat} {ns : List Nat} (h : vldB (m : Int) (toI ns) = true) : egL (m : Int) (toI ns) = egTo ns ns.length := by rw [egL, if_pos h, toNat_toI]
theorem egL_bad {n : Int} {zs : List Int} (h : vldB n zs = false) : egL n zs = [] := by rw [egL, h]; rfl
theorem egL_len (n : Int) (zs : List Int) : (egL n zs).length ≤ 1048576 := by
  by_cases hv : vldB n zs = true
  · obtain ⟨m, ns, rfl, rfl, hc⟩ := vldB_cls hv
    rw [egL_in hv]
    have h1 := egTo_len hc.length ns.length
    have h2 := hc.length
    omega
  · rw [Bool.not_eq_true] at hv
    rw [egL_bad hv]
    simp

end Go.Proofs.YtnoppclajhfnjabDoor

namespace Go.Proofs.YtnoppclajhfnjabDoor
open Go.RowKit

/-- the sets of ns that differ from s at one of the first k points, by the point -/
def nearTo (ns : List Nat) (s k : Nat) : List Nat := ((List.range k).map (fun x => s ^^^ 2 ^ x)).filter (fun t => decide (t ∈ ns))
theorem near_yes {ns : List Nat} {s k : Nat} (h : s ^^^ 2 ^ k ∈ ns) : nearTo ns s (k + 1) = nearTo ns s k ++ [s ^^^ 2 ^ k] := by
  have h2 : decide (s ^^^ 2 ^ k ∈ ns) = true := decide_eq_true h
  simp only [nearTo, List.range_succ, List.map_append, List.filter_append, List.map_cons, List.map_nil, List.filter_cons, List.filter_nil, h2, ↓reduceIte]
theorem near_no {ns : List Nat} {s k : Nat} (h : ¬ s ^^^ 2 ^ k ∈ ns) : nearTo ns s (k + 1) = nearTo ns s k := by
  have h2 : decide (s ^^^ 2 ^ k ∈ ns) = false := decide_eq_false h
  simp only [nearTo, List.range_succ, List.map_append, List.filter_append, List.map_cons, List.map_nil, List.filter_cons, List.filter_nil, h2, Bool.false_eq_true, ↓reduceIte, List.append_nil]
theorem near_len (ns : List Nat) (s k : Nat) : (nearTo ns s k).length ≤ k := by
  have := List.length_filter_le (fun t => decide (t ∈ ns)) ((List.range k).map (fun x => s ^^^ 2 ^ x))
  rw [List.length_map, List.length_range] at this
  exact this
theorem near_mem {ns : List Nat} {s k t : Nat} (h : t ∈ nearTo ns s k) : t ∈ ns := by
  rw [nearTo, List.mem_filter] at h
  exact of_decide_eq_true h.2
theorem up_asc : ∀ (m : Fin 6) (s : Fin 32), (((List.range m.1).map (fun x => s.1 ^^^ 2 ^ x)).filter (fun t => decide (s.1 < t))).Pairwise (· < ·) := by decide +kernel
theorem adj_iff : ∀ (m : Fin 6) (s t : Fin 32), s.1 < 2 ^ m.1 → t.1 < 2 ^ m.1 → (adj s.1 t.1 = true ↔ t.1 ∈ (List.range m.1).map (fun x => s.1 ^^^ 2 ^ x)) := by decide +kernel
/-- the program's edges at a set are the model's -/
theorem eg_near {m : Nat} {ns : List Nat} (hc : Cls m ns) {i : Nat} (hi : i < ns.length) :
    egIn ns i ns.length = ((nearTo ns (ns.getD i 0) m).filter (fun t => decide (ns.getD i 0 < t))).map (fun t => (((ns.getD i 0 : Nat) : Int), ((t : Nat) : Int))) := by
  have hm := hc.pts
  have hsm : ns.getD i 0 ∈ ns := getD_of_lt hi
  have hs32 := hc.lt32 _ hsm
  have hsl := hc.lt _ hsm
  have hgt : ∀ j, j < ns.length → (i < j ↔ ns.getD i 0 < ns.getD j 0) := by
    intro j hj
    have h1 := List.pairwise_iff_getElem.1 hc.asc
    rw [List.getD_eq_getElem?_getD, List.getD_eq_getElem?_getD, List.getElem?_eq_getElem hi, List.getElem?_eq_getElem hj, Option.getD_some, Option.getD_some]
    constructor
    · intro h; exact h1 i j hi hj h
    · intro h
      rcases Nat.lt_trichotomy i j with h2 | h2 | h2
      · exact h2
      · subst h2; omega
      · have := h1 j i hj hi h2; omega
  have hL : egIn ns i ns.length = (((List.range ns.length).filter (fun j => decide (i < j) && adj (ns.getD i 0) (ns.getD j 0))).map (fun j => ns.getD j 0)).map (fun t => (((ns.getD i 0 : Nat) : Int), ((t : Nat) : Int))) := by
    rw [List.map_map]; rfl
  rw [hL]
  congr 1
  apply asc_ext
  · rw [List.pairwise_map]
    have h0 : ((List.range ns.length).filter (fun j => decide (i < j) && adj (ns.getD i 0) (ns.getD j 0))).Pairwise (· < ·) := List.Pairwise.filter _ List.pairwise_lt_range
    refine List.Pairwise.imp_of_mem (fun {a b} ha hb hab => ?_) h0
    have ha' := List.mem_range.1 (List.mem_filter.1 ha).1
    have hb' := List.mem_range.1 (List.mem_filter.1 hb).1
    have h1 := List.pairwise_iff_getElem.1 hc.asc
    rw [List.getD_eq_getElem?_getD, List.getD_eq_getElem?_getD, List.getElem?_eq_getElem ha', List.getElem?_eq_getElem hb', Option.getD_some, Option.getD_some]
    exact h1 a b ha' hb' hab
  · have h1 := up_asc ⟨m, by omega⟩ ⟨ns.getD i 0, hs32⟩
    dsimp only at h1
    rw [nearTo, List.filter_filter]
    have h2 := h1.filter (fun t => decide (t ∈ ns))
    rw [List.filter_filter] at h2
    rw [show (fun a => decide (ns.getD i 0 < a) && decide (a ∈ ns)) = (fun a => decide (a ∈ ns) && decide (ns.getD i 0 < a)) from funext fun a => Bool.and_comm _ _]
    exact h2
  · intro t
    rw [List.mem_map, List.mem_filter, nearTo, List.mem_filter]
    constructor
    · rintro ⟨j, hj, rfl⟩
      obtain ⟨hj1, hj2⟩ := List.mem_filter.1 hj
      rw [List.mem_range] at hj1
      rw [Bool.and_eq_true, decide_eq_true_eq] at hj2
      have htm : ns.getD j 0 ∈ ns := getD_of_lt hj1
      exact ⟨⟨(adj_iff ⟨m, by omega⟩ ⟨_, hs32⟩ ⟨_, hc.lt32 _ htm⟩ hsl (hc.lt _ htm)).1 hj2.2, decide_eq_true htm⟩, decide_eq_true ((hgt j hj1).1 hj2.1)⟩
    · rintro ⟨⟨h1, h2⟩, h3⟩
      have htm : t ∈ ns := of_decide_eq_true h2
      have hlt := of_decide_eq_true h3
      obtain ⟨j, hj, rfl⟩ := List.getElem_of_mem htm
      have hg : ns.getD j 0 = ns[j] := by rw [List.getD_eq_getElem?_getD, List.getElem?_eq_getElem hj, Option.getD_some]
      refine ⟨j, List.mem_filter.2 ⟨List.mem_range.2 hj, ?_⟩, hg⟩
      rw [hg, Bool.and_eq_true, decide_eq_true_eq]
      exact ⟨(hgt j hj).2 (by rw [hg]; exact hlt), (adj_iff ⟨m, by omega⟩ ⟨_, hs32⟩ ⟨ns[j], hc.lt32 _ htm⟩ hsl (hc.lt _ htm)).2 h1⟩

end Go.Proofs.YtnoppclajhfnjabDoor

namespace Go.Proofs.YtnoppclajhfnjabDoor
open Go.RowKit

/-- the number of edges -/
def eF : Nat → (Nat → Bool) → Nat
  | 0, _ => 0
  | n + 1, f => eF n f + eF n (up n f) + cnt n (andF f (up n f))
theorem eF_congr {n : Nat} {f g : Nat → Bool} (h : ∀ s, s < 2 ^ n → f s = g s) : eF n f = eF n g := by
  induction n generalizing f g with
  | zero => rfl
  | succ n ih =>
    have h1 : ∀ s, s < 2 ^ n → f s = g s := fun s hs => h s (by rw [Nat.pow_succ]; omega)
    have h2 : ∀ s, s < 2 ^ n → up n f s = up n g s := fun s hs => h (s + 2 ^ n) (by rw [Nat.pow_succ]; omega)
    rw [eF, eF, ih h1, ih h2, cnt_congr (f := andF f (up n f)) (g := andF g (up n g)) (fun s hs => by simp only [andF]; rw [h1 s hs, h2 s hs])]
theorem eF_sup (n : Nat) (f g : Nat → Bool) : eF n f + eF n g ≤ eF n (orF f g) + eF n (andF f g) := by
  induction n generalizing f g with
  | zero => simp [eF]
  | succ n ih =>
    have h1 := ih f g
    have h2 := ih (up n f) (up n g)
    have h3 := cnt_or_and n (andF f (up n f)) (andF g (up n g))
    have h4 : cnt n (orF (andF f (up n f)) (andF g (up n g))) ≤ cnt n (andF (orF f g) (up n (orF f g))) := cnt_mono (fun s _ hs => by
      simp only [orF, andF, up, Bool.or_eq_true, Bool.and_eq_true] at hs ⊢
      rcases hs with hs | hs
      · exact ⟨.inl hs.1, .inl hs.2⟩
      · exact ⟨.inr hs.1, .inr hs.2⟩)
    have h5 : cnt n (andF (andF f (up n f)) (andF g (up n g))) = cnt n (andF (andF f g) (up n (andF f g))) := cnt_congr (fun s _ => by
      simp only [andF, up]
      cases f s <;> cases g s <;> simp)
    show eF n f + eF n (up n f) + cnt n (andF f (up n f)) + (eF n g + eF n (up n g) + cnt n (andF g (up n g))) ≤ eF n (orF f g) + eF n (orF (up n f) (up n g)) + cnt n (andF (orF f g) (up n (orF f g))) + (eF n (andF f g) + eF n (andF (up n f) (up n g)) + cnt n (andF (andF f g) (up n (andF f g))))
    omega
theorem pc_up {n s : Nat} (hn : n < 5) (hs : s < 2 ^ n) : pc (s + 2 ^ n) = pc s + 1 := by
  have key : ∀ n : Fin 5, ∀ s : Fin 16, (s : Nat) < 2 ^ (n : Nat) → pc ((s : Nat) + 2 ^ (n : Nat)) = pc (s : Nat) + 1 := by decide +kernel
  have h16 := sixteen hn
  exact key ⟨n, hn⟩ ⟨s, by omega⟩ hs
theorem shF_zero {n : Nat} {f : Nat → Bool} (h : cnt n f ≠ 0) : shF n f 0 = true := by
  induction n generalizing f with
  | zero =>
    rw [cnt] at h
    rw [shF]
    cases h0 : f 0 with
    | true => rfl
    | false => rw [h0] at h; simp at h
  | succ n ih =>
    rw [shF, if_pos (Nat.two_pow_pos n)]
    apply ih
    rw [cnt] at h
    have h1 := cnt_or_and n f (up n f)
    have h2 : cnt n (andF f (up n f)) ≤ cnt n (orF f (up n f)) := cnt_mono (fun s _ hs => by
      simp only [orF, andF, Bool.or_eq_true, Bool.and_eq_true] at hs ⊢
      exact .inl hs.1)
    omega
/-- no more edges than the dimension times the sets -/
theorem eF_le {n : Nat} (hn : n ≤ 5) (f : Nat → Bool) (d : Nat) (h : ∀ s, s < 2 ^ n → shF n f s = true → pc s ≤ d) : eF n f ≤ d * cnt n f := by
  induction n generalizing f d with
  | zero => simp [eF]
  | succ n ih =>
    have hp : 2 ^ (n + 1) = 2 ^ n + 2 ^ n := by rw [Nat.pow_succ]; omega
    have hor := ih (by omega) (orF f (up n f)) d (fun s hs hh => h s (by omega) (by rw [shF, if_pos hs]; exact hh))
    have hsum := cnt_or_and n f (up n f)
    have hsup := eF_sup n f (up n f)
    have hand : ∀ s, s < 2 ^ n → shF n (andF f (up n f)) s = true → pc s + 1 ≤ d := fun s hs hh => by
      have h1 := shF_and n f (up n f) s hh
      have h2 := h (s + 2 ^ n) (by omega) (by rw [shF, if_neg (by omega), Nat.add_sub_cancel, h1.1, h1.2]; rfl)
      rw [pc_up (by omega) hs] at h2
      exact h2
    rw [eF, cnt, ← hsum]
    by_cases hz : cnt n (andF f (up n f)) = 0
    · have h3 := ih (by omega) (andF f (up n f)) d (fun s hs hh => by have := hand s hs hh; omega)
      rw [hz] at h3 ⊢
      rw [Nat.mul_zero] at h3
      simp only [Nat.add_zero]
      omega
    · have h0 := hand 0 (Nat.two_pow_pos n) (shF_zero hz)
      obtain ⟨e, rfl⟩ : ∃ e, d = e + 1 := ⟨d - 1, by omega⟩
      have h3 := ih (by omega) (andF f (up n f)) e (fun s hs hh => by have := hand s hs hh; omega)
      have e1 : (e + 1) * (cnt n (orF f (up n f)) + cnt n (andF f (up n f))) = (e + 1) * cnt n (orF f (up n f)) + (e * cnt n (andF f (up n f)) + cnt n (andF f (up n f))) := by rw [Nat.mul_add, Nat.succ_mul e (cnt n (andF f (up n f)))]
      omega

/-- the sets that have an edge at the point y -/
def eY (y : Nat) (f : Nat → Bool) : Nat → Bool := fun s => f s && (!hasX y s && f (s + 2 ^ y))
theorem sum_add {α : Type} (l : List α) (f g : α → Nat) : (l.map (fun y => f y + g y)).sum = (l.map f).sum + (l.map g).sum := by
  induction l with
  | nil => rfl
  | cons a l ih => simp only [List.map_cons, List.sum_cons, ih]; omega
theorem sum_if {α : Type} (l : List α) (p : α → Bool) : (l.map (fun y => if p y = true then 1 else 0)).sum = l.countP p := by
  induction l with
  | nil => rfl
  | cons a l ih => simp only [List.map_cons, List.sum_cons, List.countP_cons, ih]; omega
theorem sum_swap {α β : Type} (l : List α) (r : List β) (q : α → β → Bool) : (l.map (fun s => r.countP (q s))).sum = (r.map (fun y => l.countP (fun s => q s y))).sum := by
  induction l with
  | nil =>
    simp only [List.map_nil, List.sum_nil, List.countP_nil]
    induction r with
    | nil => rfl
    | cons b r ih => simp only [List.map_cons, List.sum_cons, ← ih, Nat.add_zero]
  | cons a l ih =>
    simp only [List.map_cons, List.sum_cons, List.countP_cons, ih]
    rw [sum_add, sum_if]
    omega
theorem has_high {n y s : Nat} (hn : n < 5) (hy : y < n) (hs : s < 2 ^ n) : hasX y (s + 2 ^ n) = hasX y s := by
  have key : ∀ n : Fin 5, ∀ y : Fin 5, ∀ s : Fin 16, (y : Nat) < (n : Nat) → (s : Nat) < 2 ^ (n : Nat) → hasX (y : Nat) ((s : Nat) + 2 ^ (n : Nat)) = hasX (y : Nat) (s : Nat) := by decide +kernel
  have h16 := sixteen hn
  exact key ⟨n, hn⟩ ⟨y, by omega⟩ ⟨s, by omega⟩ hy hs
theorem has_last {n s : Nat} (hn : n < 5) (hs : s < 2 ^ n) : hasX n s = false ∧ hasX n (s + 2 ^ n) = true := by
  have key : ∀ n : Fin 5, ∀ s : Fin 16, (s : Nat) < 2 ^ (n : Nat) → hasX (n : Nat) (s : Nat) = false ∧ hasX (n : Nat) ((s : Nat) + 2 ^ (n : Nat)) = true := by decide +kernel
  have h16 := sixteen hn
  exact key ⟨n, hn⟩ ⟨s, by omega⟩ hs
theorem eF_sum {n : Nat} (hn : n ≤ 5) (f : Nat → Bool) : eF n f = ((List.range n).map (fun y => cnt n (eY y f))).sum := by
  induction n generalizing f with
  | zero => rfl
  | succ n ih =>
    rw [eF, ih (by omega) f, ih (by omega) (up n f), List.range_succ, List.map_append, List.sum_append, ← sum_add]
    have e1 : (List.range n).map (fun y => cnt (n + 1) (eY y f)) = (List.range n).map (fun y => cnt n (eY y f) + cnt n (eY y (up n f))) := List.map_congr_left (fun y hy => by
      rw [List.mem_range] at hy
      rw [cnt]
      congr 1
      apply cnt_congr
      intro s hs
      simp only [up, eY]
      rw [has_high (by omega) hy hs, Nat.add_right_comm])
    have e2 : cnt (n + 1) (eY n f) = cnt n (andF f (up n f)) := by
      rw [cnt, cnt_congr (f := eY n f) (g := andF f (up n f)) (fun s hs => by simp only [eY, andF, up]; rw [(has_last (by omega) hs).1]; rfl), cnt_congr (f := up n (eY n f)) (g := fun _ => false) (fun s hs => by simp only [eY, up]; rw [(has_last (by omega) hs).2]; simp), cnt_none, Nat.add_zero]
    rw [e1, List.map_cons, List.map_nil, List.sum_cons, List.sum_nil, Nat.add_zero, e2]
theorem xor_has {y s : Nat} (hy : y < 5) (hs : s < 32) : (hasX y s = false → s ^^^ 2 ^ y = s + 2 ^ y) ∧ (hasX y s = true → ¬ s < s ^^^ 2 ^ y) := by
  have key : ∀ y : Fin 5, ∀ s : Fin 32, (hasX (y : Nat) (s : Nat) = false → (s : Nat) ^^^ 2 ^ (y : Nat) = (s : Nat) + 2 ^ (y : Nat)) ∧ (hasX (y : Nat) (s : Nat) = true → ¬ (s : Nat) < (s : Nat) ^^^ 2 ^ (y : Nat)) := by decide +kernel
  exact key ⟨y, hy⟩ ⟨s, hs⟩
theorem range_getD (l : List Nat) : (List.range l.length).map (fun i => l.getD i 0) = l := by
  apply List.ext_getElem
  · simp
  · intro i h1 h2
    rw [List.getElem_map, List.getElem_range, List.getD_eq_getElem?_getD, List.getElem?_eq_getElem h2]
    rfl
theorem many_cnt {m : Nat} {ns : List Nat} (h : Cls m ns) (p : Nat → Bool) : ns.countP p = cnt m (fun s => inF ns s && p s) := by
  have h1 : ns.countP p = ((List.range (2 ^ m)).filter (inF ns)).countP p := by rw [h.self]
  rw [h1, List.countP_eq_length_filter, List.filter_filter, cnt_filter]
  exact cnt_congr (fun s _ => Bool.and_comm _ _)
/-- the number of edges, as a list -/
theorem eg_count {m : Nat} {ns : List Nat} (hc : Cls m ns) : (egTo ns ns.length).length = eF m (inF ns) := by
  have hm := hc.pts
  rw [egTo, List.length_flatMap, eF_sum hm]
  have e1 : (List.range ns.length).map (fun i => (egIn ns i ns.length).length) = (List.range ns.length).map (fun i => (fun s => (List.range m).countP (fun y => decide (s ^^^ 2 ^ y ∈ ns) && decide (s < s ^^^ 2 ^ y))) (ns.getD i 0)) := List.map_congr_left (fun i hi => by
    rw [List.mem_range] at hi
    rw [eg_near hc hi, List.length_map, ← List.countP_eq_length_filter, nearTo, List.countP_filter, List.countP_map]
    apply List.countP_congr
    intro y _
    simp only [Function.comp_apply, Bool.and_eq_true, decide_eq_true_eq]
    exact And.comm)
  rw [e1, show (List.range ns.length).map (fun i => (fun s => (List.range m).countP (fun y => decide (s ^^^ 2 ^ y ∈ ns) && decide (s < s ^^^ 2 ^ y))) (ns.getD i 0)) = ns.map (fun s => (List.range m).countP (fun y => decide (s ^^^ 2 ^ y ∈ ns) && decide (s < s ^^^ 2 ^ y))) by
    have h9 : ∀ g : Nat → Nat, (List.range ns.length).map (fun i => g (ns.getD i 0)) = ns.map g := fun g => by
      have h8 := congrArg (List.map g) (range_getD ns)
      rw [List.map_map] at h8
      exact h8
    exact h9 (fun s => (List.range m).countP (fun y => decide (s ^^^ 2 ^ y ∈ ns) && decide (s < s ^^^ 2 ^ y))), sum_swap]
  congr 1
  apply List.map_congr_left
  intro y hy
  rw [List.mem_range] at hy
  rw [many_cnt hc]
  apply cnt_congr
  intro s hs
  have h32 := pow_le_32 hm
  obtain ⟨x1, x2⟩ := xor_has (y := y) (s := s) (by omega) (by omega)
  simp only [eY]
  congr 1
  have hp := Nat.two_pow_pos y
  cases hh : hasX y s with
  | false =>
    rw [x1 hh, show decide (s < s + 2 ^ y) = true from decide_eq_true (by omega)]
    simp [inF]
  | true =>
    rw [show decide (s < s ^^^ 2 ^ y) = false from decide_eq_false (x2 hh)]
    simp

/-- the sets without x, the sets with x -/
def dnX (x : Nat) (f : Nat → Bool) : Nat → Bool := fun t => f (ins x t)
def upX (x : Nat) (f : Nat → Bool) : Nat → Bool := fun t => f (ins x t + 2 ^ x)
theorem cnt_ins' {n x : Nat} (hn : n < 5) (hx : x ≤ n) (f : Nat → Bool) : cnt (n + 1) f = cnt n (dnX x f) + cnt n (upX x f) := cnt_ins hn hx f
theorem dn_up {n x : Nat} (hn : n < 4) (hx : x ≤ n) (f : Nat → Bool) : ∀ t, t < 2 ^ n → up n (dnX x f) t = dnX x (up (n + 1) f) t ∧ up n (upX x f) t = upX x (up (n + 1) f) t := fun t ht => by
  simp only [up, dnX, upX]
  rw [ins_up hn hx ht]
  exact ⟨rfl, by rw [Nat.add_right_comm]⟩
theorem dn_top {n : Nat} (f : Nat → Bool) : ∀ t, t < 2 ^ n → dnX n f t = f t ∧ upX n f t = up n f t := fun t ht => by
  simp only [up, dnX, upX]
  rw [ins_top ht]
  exact ⟨rfl, rfl⟩
theorem eF_ins {n x : Nat} (hn : n < 5) (hx : x ≤ n) (f : Nat → Bool) : eF (n + 1) f = eF n (dnX x f) + eF n (upX x f) + cnt n (andF (dnX x f) (upX x f)) := by
  induction n generalizing x f with
  | zero =>
    obtain rfl : x = 0 := by omega
    rfl
  | succ n ih =>
    by_cases e : x = n + 1
    · subst e
      have h1 := dn_top (n := n + 1) f
      rw [eF, eF_congr (f := dnX (n + 1) f) (fun t ht => (h1 t ht).1), eF_congr (f := upX (n + 1) f) (fun t ht => (h1 t ht).2), cnt_congr (f := andF (dnX (n + 1) f) (upX (n + 1) f)) (g := andF f (up (n + 1) f)) (fun t ht => by simp only [andF]; rw [(h1 t ht).1, (h1 t ht).2])]
    · have hx2 : x ≤ n := by omega
      have hd := dn_up (n := n) (x := x) (by omega) hx2 f
      rw [eF, ih (by omega) hx2 f, ih (by omega) hx2 (up (n + 1) f), cnt_ins' (by omega) hx2]
      rw [show eF (n + 1) (dnX x f) = eF n (dnX x f) + eF n (up n (dnX x f)) + cnt n (andF (dnX x f) (up n (dnX x f))) from rfl, show eF (n + 1) (upX x f) = eF n (upX x f) + eF n (up n (upX x f)) + cnt n (andF (upX x f) (up n (upX x f))) from rfl]
      rw [eF_congr (f := up n (dnX x f)) (fun t ht => (hd t ht).1), eF_congr (f := up n (upX x f)) (fun t ht => (hd t ht).2)]
      rw [show cnt (n + 1) (andF (dnX x f) (upX x f)) = cnt n (andF (dnX x f) (upX x f)) + cnt n (andF (up n (dnX x f)) (up n (upX x f))) from rfl]
      rw [cnt_congr (f := andF (up n (dnX x f)) (up n (upX x f))) (g := andF (dnX x (up (n + 1) f)) (upX x (up (n + 1) f))) (fun t ht => by simp only [andF]; rw [(hd t ht).1, (hd t ht).2])]
      rw [cnt_congr (f := andF (dnX x f) (up n (dnX x f))) (g := dnX x (andF f (up (n + 1) f))) (fun t ht => by simp only [andF]; rw [(hd t ht).1]; rfl)]
      rw [cnt_congr (f := andF (upX x f) (up n (upX x f))) (g := upX x (andF f (up (n + 1) f))) (fun t ht => by simp only [andF]; rw [(hd t ht).2]; rfl)]
      omega

end Go.Proofs.YtnoppclajhfnjabDoor

namespace Go.Proofs.YtnoppclajhfnjabDoor
open Go.RowKit

theorem sF_ins {n x : Nat} (hn : n < 5) (hx : x ≤ n) (f : Nat → Bool) {s : Nat} (hs : s < 2 ^ n) :
    shF (n + 1) f (ins x s) = shF n (orF (dnX x f) (upX x f)) s ∧ shF (n + 1) f (ins x s + 2 ^ x) = (shF n (dnX x f) s && shF n (upX x f) s) ∧
    stF (n + 1) f (ins x s) = (stF n (dnX x f) s || stF n (upX x f) s) ∧ stF (n + 1) f (ins x s + 2 ^ x) = stF n (andF (dnX x f) (upX x f)) s := by
  induction n generalizing x f s with
  | zero =>
    obtain rfl : x = 0 := by omega
    obtain rfl : s = 0 := by simp at hs; omega
    exact ⟨rfl, rfl, rfl, rfl⟩
  | succ n ih =>
    have hp : 2 ^ (n + 1) = 2 ^ n + 2 ^ n := by rw [Nat.pow_succ]; omega
    by_cases e : x = n + 1
    · subst e
      have h1 := dn_top (n := n + 1) f
      rw [ins_top hs, show shF (n + 1 + 1) f s = shF (n + 1) (orF f (up (n + 1) f)) s by rw [shF, if_pos hs], show shF (n + 1 + 1) f (s + 2 ^ (n + 1)) = (shF (n + 1) f s && shF (n + 1) (up (n + 1) f) s) by rw [shF, if_neg (by omega), Nat.add_sub_cancel], show stF (n + 1 + 1) f s = (stF (n + 1) f s || stF (n + 1) (up (n + 1) f) s) by rw [stF, if_pos hs], show stF (n + 1 + 1) f (s + 2 ^ (n + 1)) = stF (n + 1) (andF f (up (n + 1) f)) s by rw [stF, if_neg (by omega), Nat.add_sub_cancel]]
      rw [shF_congr (f := orF (dnX (n + 1) f) (upX (n + 1) f)) (g := orF f (up (n + 1) f)) (fun t ht => by simp only [orF]; rw [(h1 t ht).1, (h1 t ht).2]), shF_congr (f := dnX (n + 1) f) (fun t ht => (h1 t ht).1), shF_congr (f := upX (n + 1) f) (fun t ht => (h1 t ht).2), stF_congr (f := dnX (n + 1) f) (fun t ht => (h1 t ht).1), stF_congr (f := upX (n + 1) f) (fun t ht => (h1 t ht).2), stF_congr (f := andF (dnX (n + 1) f) (upX (n + 1) f)) (g := andF f (up (n + 1) f)) (fun t ht => by simp only [andF]; rw [(h1 t ht).1, (h1 t ht).2])]
      exact ⟨rfl, rfl, rfl, rfl⟩
    · have hx2 : x ≤ n := by omega
      have hd := dn_up (n := n) (x := x) (by omega) hx2 f
      by_cases hlt : s < 2 ^ n
      · obtain ⟨i1, i2, _⟩ := ins_facts (n := n) (x := x) (t := s) (by omega) hx2 hlt
        obtain ⟨a1, a2, -, -⟩ := ih (by omega) hx2 (orF f (up (n + 1) f)) hlt
        obtain ⟨-, -, b3, b4⟩ := ih (by omega) hx2 f hlt
        obtain ⟨-, -, c3, c4⟩ := ih (by omega) hx2 (up (n + 1) f) hlt
        refine ⟨?_, ?_, ?_, ?_⟩
        · rw [shF, if_pos i1, a1, shF, if_pos hlt]
          apply shF_congr
          intro t ht
          obtain ⟨h1, h2⟩ := hd t ht
          simp only [orF, up, dnX, upX] at h1 h2 ⊢
          rw [h1, h2]
          ac_rfl
        · rw [shF, if_pos i2, a2, shF, if_pos hlt, shF, if_pos hlt]
          congr 1
          · apply shF_congr
            intro t ht
            obtain ⟨h1, h2⟩ := hd t ht
            simp only [orF, up, dnX] at h1 ⊢
            rw [h1]
          · apply shF_congr
            intro t ht
            obtain ⟨h1, h2⟩ := hd t ht
            simp only [orF, up, upX] at h2 ⊢
            rw [h2]
        · rw [stF, if_pos i1, b3, c3, stF, if_pos hlt, stF, if_pos hlt, stF_congr (f := up n (dnX x f)) (fun t ht => (hd t ht).1), stF_congr (f := up n (upX x f)) (fun t ht => (hd t ht).2)]
          ac_rfl
        · rw [stF, if_pos i2, b4, c4, stF, if_pos hlt]
          congr 1
          apply stF_congr
          intro t ht
          obtain ⟨h1, h2⟩ := hd t ht
          simp only [andF, up] at h1 h2 ⊢
          rw [h1, h2]
      · obtain ⟨r, rfl⟩ : ∃ r, s = r + 2 ^ n := ⟨s - 2 ^ n, by omega⟩
        have hr : r < 2 ^ n := by omega
        obtain ⟨a1, a2, -, -⟩ := ih (by omega) hx2 f hr
        obtain ⟨b1, b2, -, -⟩ := ih (by omega) hx2 (up (n + 1) f) hr
        obtain ⟨-, -, c3, c4⟩ := ih (by omega) hx2 (andF f (up (n + 1) f)) hr
        have hpx := Nat.two_pow_pos x
        have e1 := ins_up (n := n) (x := x) (t := r) (by omega) hx2 hr
        have e2 : ins x (r + 2 ^ n) + 2 ^ x = ins x r + 2 ^ x + 2 ^ (n + 1) := by rw [e1]; omega
        obtain ⟨i1, i2, _⟩ := ins_facts (n := n) (x := x) (t := r) (by omega) hx2 hr
        refine ⟨?_, ?_, ?_, ?_⟩
        · rw [e1, shF, if_neg (by omega), Nat.add_sub_cancel, a1, b1, shF, if_neg (by omega), Nat.add_sub_cancel]
          congr 1
          apply shF_congr
          intro t ht
          obtain ⟨h1, h2⟩ := hd t ht
          simp only [orF, up] at h1 h2 ⊢
          rw [h1, h2]
        · rw [e2, shF, if_neg (by omega), Nat.add_sub_cancel, a2, b2, shF, if_neg (by omega), Nat.add_sub_cancel, shF, if_neg (by omega), Nat.add_sub_cancel, shF_congr (f := up n (dnX x f)) (fun t ht => (hd t ht).1), shF_congr (f := up n (upX x f)) (fun t ht => (hd t ht).2)]
          ac_rfl
        · rw [e1, stF, if_neg (by omega), Nat.add_sub_cancel, c3, stF, if_neg (by omega), Nat.add_sub_cancel, stF, if_neg (by omega), Nat.add_sub_cancel]
          congr 1
          · apply stF_congr
            intro t ht
            obtain ⟨h1, h2⟩ := hd t ht
            simp only [andF, up, dnX] at h1 ⊢
            rw [h1]
          · apply stF_congr
            intro t ht
            obtain ⟨h1, h2⟩ := hd t ht
            simp only [andF, up, upX] at h2 ⊢
            rw [h2]
        · rw [e2, stF, if_neg (by omega), Nat.add_sub_cancel, c4, stF, if_neg (by omega), Nat.add_sub_cancel]
          apply stF_congr
          intro t ht
          obtain ⟨h1, h2⟩ := hd t ht
          simp only [andF, up, dnX, upX] at h1 h2 ⊢
          rw [h1, h2]
          ac_rfl

theorem low_ins {n x t : Nat} (hn : n < 5) (hx : x ≤ n) (ht : t < 2 ^ n) : low x (ins x t) = ins x t ∧ low x (ins x t + 2 ^ x) = ins x t := by
  obtain ⟨_, _, _, _, h1, h2, _⟩ := ins_facts hn hx ht
  exact ⟨low_of h1, by rw [low, if_pos h2]; omega⟩
theorem sh_parts {n x : Nat} {ns : List Nat} (h : Cls (n + 1) ns) (hx : x ≤ n) {t : Nat} (ht : t < 2 ^ n) :
    dnX x (inF (sh1 x ns)) t = orF (dnX x (inF ns)) (upX x (inF ns)) t ∧ upX x (inF (sh1 x ns)) t = andF (dnX x (inF ns)) (upX x (inF ns)) t := by
  have hn : n < 5 := by have := h.pts; omega
  obtain ⟨_, _, _, _, h1, h2, _⟩ := ins_facts hn hx ht
  obtain ⟨l1, l2⟩ := low_ins hn hx ht
  have k1 : (ins x t ∈ sh1 x ns) ↔ (ins x t ∈ ns ∨ ins x t + 2 ^ x ∈ ns) := by
    rw [mem_sh1 h.lt32]
    constructor
    · rintro ⟨s, hs, he⟩
      by_cases hl : low x s ∈ ns
      · rw [shs_of_in hl] at he; exact .inl (he ▸ hs)
      · rw [shs_of_out hl] at he
        cases hh : hasX x s with
        | false => rw [low_of hh] at he; exact .inl (he ▸ hs)
        | true =>
          have h3 := low_ge hh
          rw [low, if_pos hh] at he
          exact .inr (by rw [← he, Nat.sub_add_cancel h3]; exact hs)
    · intro hh
      by_cases hi : ins x t ∈ ns
      · exact ⟨_, hi, by rw [shs_of_in (by rw [l1]; exact hi)]⟩
      · rcases hh with hh | hh
        · exact absurd hh hi
        · exact ⟨_, hh, by rw [shs_of_out (by rw [l2]; exact hi), l2]⟩
  have k2 : (ins x t + 2 ^ x ∈ sh1 x ns) ↔ (ins x t ∈ ns ∧ ins x t + 2 ^ x ∈ ns) := by
    rw [mem_sh1 h.lt32]
    constructor
    · rintro ⟨s, hs, he⟩
      by_cases hl : low x s ∈ ns
      · rw [shs_of_in hl] at he
        subst he
        rw [l2] at hl
        exact ⟨hl, hs⟩
      · rw [shs_of_out hl] at he
        have h3 := low_has x s
        rw [he, h2] at h3
        cases h3
    · rintro ⟨ha, hb⟩
      exact ⟨_, hb, shs_of_in (by rw [l2]; exact ha)⟩
  constructor
  · simp only [dnX, upX, orF, inF]
    rw [← Bool.decide_or]
    exact decide_eq_decide.2 k1
  · simp only [dnX, upX, andF, inF]
    rw [← Bool.decide_and]
    exact decide_eq_decide.2 k2
theorem sh_edges {n x : Nat} {ns : List Nat} (h : Cls (n + 1) ns) (hx : x ≤ n) : (egTo ns ns.length).length ≤ (egTo (sh1 x ns) (sh1 x ns).length).length := by
  have hn : n < 5 := by have := h.pts; omega
  rw [eg_count h, eg_count (h.sh1 x), eF_ins hn hx, eF_ins hn hx]
  have h1 := fun t ht => (sh_parts h hx (t := t) ht).1
  have h2 := fun t ht => (sh_parts h hx (t := t) ht).2
  rw [eF_congr h1, eF_congr h2, cnt_congr (f := andF (dnX x (inF (sh1 x ns))) (upX x (inF (sh1 x ns)))) (g := andF (dnX x (inF ns)) (upX x (inF ns))) (fun t ht => by
    show (dnX x (inF (sh1 x ns)) t && upX x (inF (sh1 x ns)) t) = _
    rw [h1 t ht, h2 t ht]
    simp only [orF, andF]
    cases dnX x (inF ns) t <;> cases upX x (inF ns) t <;> rfl)]
  have := eF_sup n (dnX x (inF ns)) (upX x (inF ns))
  omega
theorem sh_both {n x : Nat} {ns : List Nat} (h : Cls (n + 1) ns) (hx : x ≤ n) {s : Nat} (hs : s < 2 ^ (n + 1)) : (sht (sh1 x ns) s = true → sht ns s = true) ∧ (strg ns s = true → strg (sh1 x ns) s = true) := by
  have hn : n < 5 := by have := h.pts; omega
  rw [sht_sh h hs, sht_sh (h.sh1 x) hs, strg_st h hs, strg_st (h.sh1 x) hs]
  obtain ⟨r1, r2, r3⟩ := rmv_facts hn hx hs
  have h1 := fun t ht => (sh_parts h hx (t := t) ht).1
  have h2 := fun t ht => (sh_parts h hx (t := t) ht).2
  obtain ⟨a1, a2, a3, a4⟩ := sF_ins hn hx (inF ns) r1
  obtain ⟨b1, b2, b3, b4⟩ := sF_ins hn hx (inF (sh1 x ns)) r1
  have eor : shF n (orF (dnX x (inF (sh1 x ns))) (upX x (inF (sh1 x ns)))) (rmv x s) = shF n (orF (dnX x (inF ns)) (upX x (inF ns))) (rmv x s) := shF_congr (fun t ht => by
    show (dnX x (inF (sh1 x ns)) t || upX x (inF (sh1 x ns)) t) = _
    rw [h1 t ht, h2 t ht]
    simp only [orF, andF]
    cases dnX x (inF ns) t <;> cases upX x (inF ns) t <;> rfl) _
  have eand : stF n (andF (dnX x (inF (sh1 x ns))) (upX x (inF (sh1 x ns)))) (rmv x s) = stF n (andF (dnX x (inF ns)) (upX x (inF ns))) (rmv x s) := stF_congr (fun t ht => by
    show (dnX x (inF (sh1 x ns)) t && upX x (inF (sh1 x ns)) t) = _
    rw [h1 t ht, h2 t ht]
    simp only [orF, andF]
    cases dnX x (inF ns) t <;> cases upX x (inF ns) t <;> rfl) _
  cases hh : hasX x s with
  | false =>
    have e := r2 hh
    rw [e] at a1 a3 b1 b3
    rw [a1, a3, b1, b3, eor, stF_congr h1]
    refine ⟨id, fun k => ?_⟩
    rw [Bool.or_eq_true] at k ⊢
    refine .inl ?_
    rw [stF_iff (by omega) _ r1]
    rcases k with k | k
    · obtain ⟨c, c1, c2, c3⟩ := (stF_iff (by omega) _ r1).1 k
      exact ⟨c, c1, c2, fun t ht h9 => by simp only [orF, c3 t ht h9, Bool.true_or]⟩
    · obtain ⟨c, c1, c2, c3⟩ := (stF_iff (by omega) _ r1).1 k
      exact ⟨c, c1, c2, fun t ht h9 => by simp only [orF, c3 t ht h9, Bool.or_true]⟩
  | true =>
    have e := r3 hh
    rw [e] at a2 a4 b2 b4
    rw [a2, a4, b2, b4, eand, shF_congr h1, shF_congr h2]
    refine ⟨fun k => ?_, id⟩
    rw [Bool.and_eq_true] at k
    have := shF_and n _ _ _ k.2
    rw [this.1, this.2]; rfl

end Go.Proofs.YtnoppclajhfnjabDoor

namespace Go.Proofs.YtnoppclajhfnjabDoor
open Go.RowKit

theorem infoP : (Tryd.prog.info? 105).map (fun i => (i.zero, i.size, i.bytes)) = some (some (.agg #[.int .i64 0, .int .i64 0]), 2, 16) := by kernel_rfl

/-- the slice v, wherever it lies, reads as the pairs es -/
def RdP (w : World) (v : Value) (es : List (Int × Int)) : Prop :=
  ∃ (a : Option Addr) (b off cap : Nat), v = .slice a es.length cap ∧ (0 < es.length → a = some ⟨b, off, none⟩ ∧ b < w.heap.size) ∧ es.length ≤ 9223372036854775807 ∧
    ∀ j, j < es.length → w.cell? ⟨b, off + j * 2, none⟩ = some (.int .i64 (es.getD j (0, 0)).1) ∧ w.cell? ⟨b, off + j * 2 + 1, none⟩ = some (.int .i64 (es.getD j (0, 0)).2)

theorem RdP.below {k : Nat} {w w' : World} {v : Value} {es : List (Int × Int)} (h : RdP w v es) (hb : Below k w w') (hk : w.heap.size ≤ k) : RdP w' v es := by
  obtain ⟨a, b, off, cap, e, h1, h3, h5⟩ := h
  refine ⟨a, b, off, cap, e, fun h => ⟨(h1 h).1, Nat.lt_of_lt_of_le (h1 h).2 hb.size⟩, h3, fun j hj => ?_⟩
  have hlt : b < k := Nat.lt_of_lt_of_le (h1 (by omega)).2 hk
  rw [hb.cell (p := ⟨b, off + j * 2, none⟩) hlt, hb.cell (p := ⟨b, off + j * 2 + 1, none⟩) hlt]
  exact h5 j hj

/-- the cells of pairs -/
def flatP (es : List (Int × Int)) : List Value := es.flatMap (fun e => [.int .i64 e.1, .int .i64 e.2])
theorem flatP_length (es : List (Int × Int)) : (flatP es).length = es.length * 2 := by
  induction es with
  | nil => rfl
  | cons e es ih => simp [flatP] at ih ⊢; omega
theorem flatP_at (es : List (Int × Int)) (k : Nat) (hk : k < es.length) : (flatP es)[k * 2]? = some (.int .i64 (es.getD k (0, 0)).1) ∧ (flatP es)[k * 2 + 1]? = some (.int .i64 (es.getD k (0, 0)).2) := by
  induction es generalizing k with
  | nil => simp at hk
  | cons e es ih =>
    cases k with
    | zero => simp [flatP]
    | succ k =>
      have := ih k (by simpa using hk)
      have e1 : flatP (e :: es) = .int .i64 e.1 :: .int .i64 e.2 :: flatP es := rfl
      rw [e1, show (k + 1) * 2 = k * 2 + 1 + 1 by omega]
      simpa using this

/-- the slice v is owned from block B on and reads as es -/
def PrS (B : Nat) (w : World) (v : Value) (es : List (Int × Int)) : Prop := w.ownsRow B 105 2 v es.length (flatP es)
theorem PrS.below {B k : Nat} {w w' : World} {v : Value} {es : List (Int × Int)} (h : PrS B w v es) (hb : Below k w w') (hk : w.heap.size ≤ k) : PrS B w' v es := by
  refine ⟨h.1, ?_⟩
  rcases h.2 with h2 | ⟨g, cap, cur, e, hB, hg, r⟩
  · exact .inl h2
  · refine .inr ⟨g, cap, cur, e, hB, ?_, r⟩
    rw [hb.block g (Nat.lt_of_lt_of_le (Array.getElem?_eq_some_iff.1 hg).1 hk)]
    exact hg
theorem PrS.rd {B : Nat} {w : World} {v : Value} {es : List (Int × Int)} (h : PrS B w v es) : RdP w v es := by
  have h' := h
  rcases h.2 with ⟨rfl, hn⟩ | ⟨g, cap, cur, rfl, hb, hg, hnc, hcm, hcs, htake⟩
  · have : es = [] := List.eq_nil_of_length_eq_zero hn
    subst this
    exact ⟨none, 0, 0, 0, rfl, fun h => by simp at h, by simp, fun j hj => by simp at hj⟩
  · refine ⟨some ⟨g, 0, none⟩, g, 0, cap, rfl, fun _ => ⟨rfl, (Array.getElem?_eq_some_iff.1 hg).1⟩, by unfold maxLen at hcm; omega, fun j hj => ?_⟩
    have e := flatP_at es j hj
    rw [Nat.zero_add, World.ownsRow.cellAt h' (j * 2) (by omega), World.ownsRow.cellAt h' (j * 2 + 1) (by omega)]
    exact e

/-- what a call answers whose result is pairs of its own -/
def RetPr (es : List (Int × Int)) (w : World) (e : Ending) (w' : World) : Prop :=
  ∃ a cap, e = .returned (.slice a es.length cap) ∧ PrS w.heap.size w' (.slice a es.length cap) es ∧ Below w.heap.size w w'

theorem flat_extP {xs : List Value} {es : List (Int × Int)} (hl : xs.length = es.length * 2) (h : ∀ j, j < es.length → xs[j * 2]? = some (.int .i64 (es.getD j (0, 0)).1) ∧ xs[j * 2 + 1]? = some (.int .i64 (es.getD j (0, 0)).2)) : xs = flatP es := by
  apply List.ext_getElem?
  intro i
  by_cases hi : i < es.length * 2
  · have e := flatP_at es (i / 2) (by omega)
    have e2 := h (i / 2) (by omega)
    rcases (show i = i / 2 * 2 ∨ i = i / 2 * 2 + 1 by omega) with hc | hc
    · rw [hc, e.1, e2.1]
    · rw [hc, e.2, e2.2]
  · rw [List.getElem?_eq_none (by omega), List.getElem?_eq_none (by rw [flatP_length]; omega)]

end Go.Proofs.YtnoppclajhfnjabDoor

namespace Go.Proofs.YtnoppclajhfnjabDoor
open Go.RowKit

theorem PrS.alloc {B : Nat} {w : World} {v : Value} {es : List (Int × Int)} (h : PrS B w v es) (o : Obj) : PrS B (w.alloc o) v es := World.ownsRow.alloc h o
theorem PrS.mono {B B' : Nat} {w : World} {v : Value} {es : List (Int × Int)} (h : PrS B w v es) (hB : B' ≤ B) : PrS B' w v es := by
  refine ⟨h.1, ?_⟩
  rcases h.2 with h2 | ⟨g, cap, cur, e, hb, r⟩
  · exact .inl h2
  · exact .inr ⟨g, cap, cur, e, Nat.le_trans hB hb, r⟩
theorem PrS.nil (B : Nat) (w : World) : PrS B w (.slice none 0 0) [] := World.ownsRow_nil w B _ 2
theorem PrS.lit' {B : Nat} {w : World} {H : Nat} (hB : B ≤ w.heap.size) (hH : w.heap.size = H) : PrS B (w.alloc (.cells #[] 105)) (.slice (some ⟨H, 0, none⟩) 0 0) [] := hH ▸ World.ownsRow_lit w #[] 0 hB (by unfold maxLen; omega) rfl
theorem flatP_append (es fs : List (Int × Int)) : flatP (es ++ fs) = flatP es ++ flatP fs := by simp [flatP]
/-- one pair that lies in a block of its own -/
def SrcP (w : World) (H : Nat) (p : Int) (l : Int) : Prop := w.cell? ⟨H, 0, none⟩ = some (.int .i64 p) ∧ w.cell? ⟨H, 1, none⟩ = some (.int .i64 l)

theorem run_appP {w : World} {ty : TypeId} {B : Nat} {v : Value} {es : List (Int × Int)} (h : PrS B w v es) {H : Nat} {p l : Int} (hs : SrcP w H p l) (hl : es.length ≤ 1000000) (hB : B ≤ w.heap.size) :
    ∃ a' cap' w', (Builtin.append_ #[102, 102] ty #[v, .slice (some ⟨H, 0, none⟩) 1 1]).run Tryd.prog w = .ok (.slice a' (es.length + 1) cap') w' ∧ PrS B w' (.slice a' (es.length + 1) cap') (es ++ [(p, l)]) ∧ Below B w w' ∧ w.grownBy w' v.ownBlock := by
  obtain ⟨i, hi, hz0, hz1, hz2⟩ := info_parts infoP
  obtain ⟨v', w', hr, hown, hg, _⟩ := run_append_own (P := Tryd.prog) w B 102 ty 105 i (.agg #[.int .i64 0, .int .i64 0]) 2 16 Tryd.underlying102 hi hz0 hz1 hz2 rfl (by decide) v es.length (flatP es) h
    ⟨H, 0, none⟩ 1 1 [.int .i64 p, .int .i64 l] rfl (fun j u hu => by
      match j, hu with
      | 0, hu => simp at hu; subst hu; rw [Addr.add_lit]; exact hs.1
      | 1, hu => simp at hu; subst hu; rw [Addr.add_lit]; exact hs.2
      | j + 2, hu => simp at hu) (by simp [Value.oneCell']) (by unfold maxLen; omega) (by omega) hB
  have hin : PrS B w' v' (es ++ [(p, l)]) := by
    unfold PrS
    rw [List.length_append, flatP_append]
    exact hown
  rcases hin.2 with ⟨_, e0⟩ | ⟨g, cap, cur, rfl, _⟩
  · simp at e0
  · rw [List.length_append] at hr hin
    exact ⟨some ⟨g, 0, none⟩, cap, w', hr, hin, (Below.refl _ _).grown hg hB (fun k hk => by
      rcases h.2 with ⟨rfl, _⟩ | ⟨g2, cap2, cur2, rfl, hB2, _⟩
      · cases hk
      · obtain rfl := Option.some.inj hk
        exact hB2), hg⟩

theorem wpList_appP {w : World} {ops : Array Oper} {rest : List Oper} {o : Oper} {a : Act} {Q : Exit → Act → World → Prop} (hgd : o.guard = none) (s x : Operand)
    (ho : o.op = Op.call { callee := Callee.builtin Builtin.append, args := #[s, x], argTypes := #[102, 102] })
    (B : Nat) (v : Value) (es : List (Int × Int)) (hs : a.eval s = v) (h : PrS B w v es) (H : Nat) (p : Int) (l : Int) (hx : a.eval x = .slice (some ⟨H, 0, none⟩) 1 1) (hsrc : SrcP w H p l) (hl : es.length ≤ 1000000) (hB : B ≤ w.heap.size)
    (hK : ∀ a' cap' w', PrS B w' (.slice a' (es.length + 1) cap') (es ++ [(p, l)]) → Below B w w' → w.grownBy w' v.ownBlock → wpList Tryd.prog ops Q rest (a.put o.dst (.slice a' (es.length + 1) cap')) w') : wpList Tryd.prog ops Q (o :: rest) a w := by
  refine wpList_plain hgd fun K hK' => ?_
  obtain ⟨a', cap', w', hrun, r1, r2, r3⟩ := run_appP (ty := o.type) h hsrc hl hB
  unfold Oper.wp
  simp [execOp, ho, resolve, invoke, builtin, hs, hx, hrun, Result.andThen]
  exact hK' _ _ (hK a' cap' w' r1 r2 r3)

theorem step_appP {w : World} {ops : Array Oper} {o : Oper} {a : Act} {K : Act → World → Prop} {Q : Exit → Act → World → Prop} {E : Prop} (hgd : o.guard = none) (s x : Operand)
    (ho : o.op = Op.call { callee := Callee.builtin Builtin.append, args := #[s, x], argTypes := #[102, 102] })
    (B : Nat) (v : Value) (es : List (Int × Int)) (hs : a.eval s = v) (h : PrS B w v es) (H : Nat) (p : Int) (l : Int) (hx : a.eval x = .slice (some ⟨H, 0, none⟩) 1 1) (hsrc : SrcP w H p l) (hl : es.length ≤ 1000000) (hB : B ≤ w.heap.size)
    (hK : ∀ a' cap' w', PrS B w' (.slice a' (es.length + 1) cap') (es ++ [(p, l)]) → Below B w w' → w.grownBy w' v.ownBlock → K (a.put o.dst (.slice a' (es.length + 1) cap')) w') : if Region.wanted o (yielded ops a.tmps) = true then Oper.wp Tryd.prog o a w K Q else E := by
  have hw : Region.wanted o (yielded ops a.tmps) = true := by simp [Region.wanted, hgd]
  rw [if_pos hw]
  obtain ⟨a', cap', w', hrun, r1, r2, r3⟩ := run_appP (ty := o.type) h hsrc hl hB
  unfold Oper.wp
  simp [execOp, ho, resolve, invoke, builtin, hs, hx, hrun, Result.andThen]
  exact hK a' cap' w' r1 r2 r3

end Go.Proofs.YtnoppclajhfnjabDoor
