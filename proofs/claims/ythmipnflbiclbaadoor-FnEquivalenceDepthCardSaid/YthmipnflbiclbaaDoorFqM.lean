/- The mathematics of FnFirstQuestion: a first question parts the sets, and its parts want one question less. Conditions: the class is valid. -/
import Derived.Test.YthmipnflbiclbaaDoorFirstQ
import Derived.Test.YthmipnflbiclbaaDoorLittleS
import Derived.Test.YthmipnflbiclbaaDoorMemb
import Derived.Test.YthmipnflbiclbaaDoorSett
import Derived.Test.YthmipnflbiclbaaDoorZU
namespace Go.Proofs.YthmipnflbiclbaaDoor
open Go.RowKit

theorem depTo_att (n : Nat) (l : List Nat) (k : Nat) (hk : k ≤ 5) : depTo max min n l k = 0 ∨ ∃ x, x < k ∧ wth x l ≠ [] ∧ wto x l ≠ [] ∧ depTo max min n l k = 1 + max (dep max min n (wth x l)) (dep max min n (wto x l)) := by
  induction k with
  | zero => left; simp [depTo]
  | succ k ih =>
    rw [depTo_succ, stp]
    by_cases h : wth k l = [] ∨ wto k l = []
    · rw [if_pos h]
      rcases ih (by omega) with h0 | ⟨x, hx, h1, h2, h3⟩
      · exact .inl h0
      · exact .inr ⟨x, by omega, h1, h2, h3⟩
    · rw [if_neg h]
      have h' : wth k l ≠ [] ∧ wto k l ≠ [] := ⟨fun e => h (.inl e), fun e => h (.inr e)⟩
      split
      · rcases ih (by omega) with h0 | ⟨x, hx, h1, h2, h3⟩
        · omega
        · right
          by_cases e : depTo max min n l k ≤ 1 + max (dep max min n (wth k l)) (dep max min n (wto k l))
          · rw [Int.min_eq_left e]
            exact ⟨x, by omega, h1, h2, h3⟩
          · rw [Int.min_eq_right (by omega)]
            exact ⟨k, by omega, h'.1, h'.2, rfl⟩
      · exact .inr ⟨k, by omega, h'.1, h'.2, rfl⟩
theorem qst_att {l : List Nat} (hl : l.length ≤ 32) (hq : 0 < qst l) : ∃ x, x < 5 ∧ fqP l x = true := by
  rcases depTo_att 31 l 5 (by omega) with h0 | ⟨x, hx, h1, h2, h3⟩
  · have : qst l = depTo max min 31 l 5 := rfl
    omega
  · refine ⟨x, hx, ?_⟩
    rw [fqP_eq hx hl h1 h2, decide_eq_true_eq]
    have hlen := split_len x l h1 h2
    rw [qst_fuel (wth x l) (by omega), qst_fuel (wto x l) (by omega), ← h3]
    rfl
theorem fq_none {m : Nat} {ns : List Nat} (h : Cls m ns) (hb : fstB (fqP ns) = false) : ns.length < 2 := by
  rw [← Nat.not_le]
  intro h2
  obtain ⟨x, hx, hp⟩ := qst_att h.length (qst_pos h.lt32 h.asc h2)
  rw [fstB, fst5, Option.isSome_eq_false_iff, Option.isNone_iff_eq_none, List.find?_eq_none] at hb
  exact hb x (List.mem_range.2 hx) hp
theorem fq_some {m : Nat} {ns : List Nat} (h : Cls m ns) (hb : fstB (fqP ns) = true) : ∃ x : Nat, fstN (fqP ns) = (x : Int) ∧ x < m ∧ 1 + max (qst (wth x ns)) (qst (wto x ns)) = qst ns := by
  rw [fstB] at hb
  obtain ⟨x, hx⟩ := Option.isSome_iff_exists.1 hb
  have hp := List.find?_some hx
  have hm := List.mem_range.1 (List.mem_of_find?_eq_some hx)
  have hn : ¬ (wth x ns = [] ∨ wto x ns = []) := fun e => by rw [fqP_skip e] at hp; exact absurd hp (by decide)
  have h1 : wth x ns ≠ [] := fun e => hn (.inl e)
  have h2 : wto x ns ≠ [] := fun e => hn (.inr e)
  refine ⟨x, ?_, ?_, ?_⟩
  · rw [fstN, hx]; rfl
  · rw [← Nat.not_le]
    intro hle
    exact h1 (wth_nil h.lt hle)
  · rw [fqP_eq hm h.length h1 h2, decide_eq_true_eq] at hp
    exact hp
theorem vs_one {m x : Nat} {ns : List Nat} {l : Bool} (hv : vldB (m : Int) (toI ns) = true) (hx : x < m) : vsB (m : Int) (toI ns) [((x : Int), l)] = true := by
  rw [vsB_in hv]
  simp [ptsTo, hx]
theorem con_yes {m x : Nat} {ns : List Nat} (hv : vldB (m : Int) (toI ns) = true) (hx : x < m) : conN (m : Int) (toI ns) [((x : Int), true)] = m ∧ conL (m : Int) (toI ns) [((x : Int), true)] = toI (wth x ns) := by
  rw [conN, conL, if_pos (vs_one hv hx), if_pos (vs_one hv hx), toNat_toI]
  refine ⟨rfl, ?_⟩
  show toI (kp ns ((x : Int), true)) = _
  rw [kp_true]
theorem con_no {m x : Nat} {ns : List Nat} (hv : vldB (m : Int) (toI ns) = true) (hx : x < m) : conN (m : Int) (toI ns) [((x : Int), false)] = m ∧ conL (m : Int) (toI ns) [((x : Int), false)] = toI (wto x ns) := by
  rw [conN, conL, if_pos (vs_one hv hx), if_pos (vs_one hv hx), toNat_toI]
  refine ⟨rfl, ?_⟩
  show toI (kp ns ((x : Int), false)) = _
  rw [kp_false]
theorem cls_filter {m : Nat} {ns : List Nat} (h : Cls m ns) (P : Nat → Bool) : Cls m (ns.filter P) :=
  ⟨h.pts, h.asc.filter _, fun t ht => h.lt t (List.mem_filter.1 ht).1⟩
theorem mem_cls {m : Nat} {ns : List Nat} (h : Cls m ns) : memB (m : Int) (toI ns) = qst ns := by rw [memB, if_pos (cls_vldB h), toNat_toI]
/-- one example in a block of its own -/
theorem oneEx (w : World) (x : Int) (l : Bool) : RdE (w.alloc (Obj.cells #[.int .i64 x, .bool l] 92)) (.slice (some ⟨w.heap.size, 0, none⟩) 1 1) [(x, l)] := by
  refine ⟨some ⟨w.heap.size, 0, none⟩, w.heap.size, 0, 1, rfl, fun _ => ⟨rfl, by simp⟩, by simp, fun j hj => ?_⟩
  obtain rfl : j = 0 := by simpa using hj
  exact ⟨by simp [go_sem], by simp [go_sem]⟩

end Go.Proofs.YthmipnflbiclbaaDoor
