/- The mathematics of FnMajorityOf: where most sets have a point, most sets of the class flipped at it have not. Conditions: the class is valid. -/
import Derived.Test.YthjbkjkfibiceaaDoorPaj4
import Derived.Test.YthjbkjkfibiceaaDoorMembS
import Derived.Test.YthjbkjkfibiceaaDoorGuessH
namespace Go.Proofs.YthjbkjkfibiceaaDoor
open Go.RowKit

theorem hasX_flip {x t : Nat} (hx : x < 5) (ht : t < 32) : hasX x (t ^^^ 2 ^ x) = !hasX x t := by
  have key : ∀ (x : Fin 5) (t : Fin 32), hasX (x : Nat) ((t : Nat) ^^^ 2 ^ (x : Nat)) = !hasX (x : Nat) (t : Nat) := by decide +kernel
  exact key ⟨x, hx⟩ ⟨t, ht⟩
theorem xor_inj {a b x : Nat} (e : a ^^^ x = b ^^^ x) : a = b := by
  have h := congrArg (· ^^^ x) e
  simpa [Nat.xor_assoc] using h
theorem wth_flp_len {m x : Nat} {ns : List Nat} (h : Cls m ns) (hx : x < m) : (wth x (flp (2 ^ x) ns)).length = (wto x ns).length := by
  have h5 : x < 5 := Nat.lt_of_lt_of_le hx h.pts
  have hp : 2 ^ x < 2 ^ m := Nat.pow_lt_pow_right (by omega) hx
  have hc := flp_cls h hp
  have e : wth x (flp (2 ^ x) ns) = tidyL ((wto x ns).map (fun t => t ^^^ 2 ^ x)) := by
    refine asc_ext (hc.asc.filter _) (tidy_asc _) (fun y => ?_)
    rw [wth_mem, mem_flp h hp, tidyL, mem_flt]
    simp only [decide_eq_true_eq, List.mem_map, wto_mem]
    constructor
    · rintro ⟨h1, h2⟩
      have h3 : y = (y ^^^ 2 ^ x) ^^^ 2 ^ x := by rw [Nat.xor_assoc, Nat.xor_self, Nat.xor_zero]
      have h4 := h.lt32 _ h1
      have h6 := hasX_flip h5 h4
      rw [← h3, h2] at h6
      refine ⟨?_, y ^^^ 2 ^ x, ⟨h1, by simpa using h6⟩, h3.symm⟩
      rw [h3]
      exact Nat.lt_of_lt_of_le (xor_lt (h.lt _ h1) hp) (pow_le_32 h.pts)
    · rintro ⟨_, t, ⟨h1, h2⟩, rfl⟩
      have h6 := hasX_flip h5 (h.lt32 _ h1)
      rw [h2] at h6
      rw [Nat.xor_assoc, Nat.xor_self, Nat.xor_zero]
      exact ⟨h1, by simpa using h6⟩
  rw [e, tidy_len, List.length_map]
  · intro t ht
    obtain ⟨s, hs, rfl⟩ := List.mem_map.1 ht
    exact Nat.lt_of_lt_of_le (xor_lt (h.lt _ (wto_mem.1 hs).1) hp) (pow_le_32 h.pts)
  · have hnd : (wto x ns).Nodup := h.nodup.filter _
    rw [List.Nodup, List.pairwise_map]
    exact hnd.imp (fun hne e => hne (xor_inj e))
theorem flp_len {m x : Nat} {ns : List Nat} (h : Cls m ns) (hx : x < m) : (flp (2 ^ x) ns).length = ns.length := by
  have hp : 2 ^ x < 2 ^ m := Nat.pow_lt_pow_right (by omega) hx
  rw [flp, tidy_len, List.length_map]
  · intro t ht
    obtain ⟨s, hs, rfl⟩ := List.mem_map.1 ht
    exact Nat.lt_of_lt_of_le (xor_lt (h.lt _ hs) hp) (pow_le_32 h.pts)
  · rw [List.Nodup, List.pairwise_map]
    exact h.nodup.imp (fun hne e => hne (xor_inj e))
theorem gHal_flp {m x : Nat} {ns : List Nat} (h : Cls m ns) (hx : x < m) (hg : gHal ns x = true) : gHal (flp (2 ^ x) ns) x = false := by
  have a := wth_flp_len h hx
  have b := flp_len h hx
  have c := wth_wto_len x ns
  have d := wth_wto_len x (flp (2 ^ x) ns)
  rw [gHal, decide_eq_true_eq] at hg
  rw [gHal, decide_eq_false_iff_not]
  omega
theorem gHal_one (x u : Nat) : gHal [u] x = hasX x u := by
  unfold gHal wth wto
  by_cases e : hasX x u = true
  · simp [e]
  · rw [Bool.not_eq_true] at e
    simp [e]

end Go.Proofs.YthjbkjkfibiceaaDoor
