/- The least number of edges that a set gets: no more than the dimension; times the sets no fewer than the edges. No program. -/
import Derived.Test.YtpkilacappjkhaaEdF
import Derived.Test.YtpkilacappjkhaaOutW
namespace Go.Proofs.Ytpkilacappjkhaa
open Go.RowKit

theorem sm_filter (l : List Nat) (p : Nat → Bool) (f : Nat → Nat) : sm (l.filter p) f = sm l (fun s => if p s = true then f s else 0) := by
  induction l with
  | nil => rfl
  | cons a l ih =>
    rw [List.filter_cons, sm_cons, ← ih]
    split
    · rw [sm_cons]
    · rw [Nat.zero_add]
theorem eIn_filter (ns : List Nat) (S : Nat → Bool) : eIn (ns.filter S) (fun _ => true) = eIn ns S := by
  rw [eIn, sm_filter, eIn]
  refine sm_congr fun s _ => ?_
  split
  · rename_i h
    rw [sm_filter]
    refine sm_congr fun t _ => ?_
    split
    · rename_i h2
      rw [ed, ed]
      simp [h, h2]
    · rename_i h2
      rw [ed, if_neg (fun k => h2 k.2.2.2)]
  · rename_i h
    refine ((sm_congr fun t _ => ?_).trans (sm_zero ns)).symm
    rw [ed, if_neg (fun k => h k.2.2.1)]
theorem eIn_all {ns : List Nat} (hasc : ns.Pairwise (· < ·)) : eIn ns (fun _ => true) = (egTo ns ns.length).length := by
  rw [eIn_ep hasc, ep_eg, List.length_map]
  simp
theorem eIn_few {ns : List Nat} (hasc : ns.Pairwise (· < ·)) (S : Nat → Bool) : eIn ns S ≤ eIn ns (fun _ => true) := by
  rw [eIn_ep hasc, eIn_ep hasc]
  exact List.countP_mono_left fun p _ _ => by simp
/-- what the law asks -/
theorem out_law {m k : Nat} {ns : List Nat} (hc : Cls m ns) (h : Odg ns k) : (k = 0 ∨ (k : Int) ≤ vcL m ns) ∧ (egTo ns ns.length).length ≤ k * ns.length ∧ (k = 0 ↔ (egTo ns ns.length).length = 0) := by
  have hall := eIn_all hc.asc
  have hb := h.1.bound (asc_nodup hc.asc) (fun _ => true)
  rw [hall, List.countP_true] at hb
  refine ⟨?_, hb, fun e => ?_, fun e => ?_⟩
  · rcases Nat.eq_zero_or_pos k with e | e
    · exact .inl e
    · right
      obtain ⟨S, hS⟩ := h.2 (k - 1) (by omega)
      have hcs : Cls m (ns.filter S) := ⟨hc.pts, hc.asc.filter _, fun t ht => hc.lt t (List.mem_filter.1 ht).1⟩
      rw [← eIn_filter, eIn_all hcs.asc, eg_count hcs, List.countP_eq_length_filter] at hS
      have h2 := eF_le hcs.pts (inF (ns.filter S)) (vcL m ns).toNat (fun s hs hh => by
        have h3 := shF_mono (f := inF (ns.filter S)) (g := inF ns) (fun t _ ht => by
          simp only [inF, decide_eq_true_eq] at ht ⊢
          exact (List.mem_filter.1 ht).1) s hh
        have := shF_small hc s hs h3
        have h2 := of_decide_eq_true this
        omega)
      rw [hcs.cnt] at h2
      have h4 : (k - 1) * (ns.filter S).length < (vcL m ns).toNat * (ns.filter S).length := Nat.lt_of_lt_of_le hS h2
      have h5 := Nat.lt_of_mul_lt_mul_right h4
      omega
  · rw [e, Nat.zero_mul] at hb
    omega
  · rcases Nat.eq_zero_or_pos k with e2 | e2
    · exact e2
    · obtain ⟨S, hS⟩ := h.2 0 e2
      have := eIn_few hc.asc S
      omega

end Go.Proofs.Ytpkilacappjkhaa
