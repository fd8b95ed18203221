/- The mathematics of FnFlipClass: a class that is turned round shatters, errs and teaches the same. Conditions: the class is valid, and s is a set of its points. -/
import Derived.Test.YtffmcibpboejnaaDoorQuM
import Derived.Test.YtffmcibpboejnaaDoorShat
import Derived.Test.YtffmcibpboejnaaDoorZD
namespace Go.Proofs.YtffmcibpboejnaaDoor
open Go.RowKit

theorem xor_back (a b : Nat) : (a ^^^ b) ^^^ b = a := by rw [Nat.xor_assoc, Nat.xor_self, Nat.xor_zero]
theorem flp_shat {m s : Nat} {ns : List Nat} (h : Cls m ns) (hs : s < 2 ^ m) : (List.range (2 ^ m)).filter (sht (flp s ns)) = (List.range (2 ^ m)).filter (sht ns) :=
  List.filter_congr (fun _ ht => sht_flp h hs (List.mem_range.1 ht))
theorem flp_mst {m s : Nat} {ns : List Nat} (h : Cls m ns) (hs : s < 2 ^ m) : mst (flp s ns) = mst ns := by
  have hc := flp_cls h hs
  have h32 := pow_le_32 h.pts
  have h1 := mst_le_of (s := s) (by omega) (flp s ns).length (flp s ns) ns (Nat.le_refl _) hc.length h.length hc.lt32 (fun t ht => (mem_flp h hs).1 ht)
  have h2 := mst_le_of (s := s) (by omega) ns.length ns (flp s ns) (Nat.le_refl _) h.length hc.length h.lt32 (fun t ht => (mem_flp h hs).2 (by rw [xor_back]; exact ht))
  omega
theorem flp_tn {m s u : Nat} {ns : List Nat} (h : Cls m ns) (hs : s < 2 ^ m) (hu : u ∈ flp s ns) : pc (ftN m u (flp s ns)) ≤ pc (ftN m (u ^^^ s) ns) := by
  have hc := flp_cls h hs
  have h32 := pow_le_32 h.pts
  have hus := (mem_flp h hs).1 hu
  obtain ⟨-, -, hq, ht⟩ := ft_eq h hus
  refine ftN_least hc hu (by omega) ?_
  rw [tch_iff h.asc] at ht
  rw [tch_iff hc.asc]
  refine ⟨hu, fun v hv he => ?_⟩
  have h1 := ht.2 (v ^^^ s) ((mem_flp h hs).1 hv) (by rw [Nat.and_xor_distrib_right, Nat.and_xor_distrib_right, he])
  have h2 := congrArg (fun x => x ^^^ s) h1
  simpa only [xor_back] using h2
theorem flp_td_le {m s : Nat} {ns : List Nat} (h : Cls m ns) (hs : s < 2 ^ m) : tdB (m : Int) (toI (flp s ns)) ≤ tdB (m : Int) (toI ns) := by
  have hc := flp_cls h hs
  have hn1 := tnsL_nat (m : Int) (toI (flp s ns))
  have hn2 := tnsL_nat (m : Int) (toI ns)
  rw [tdB, tdB]
  rw [tnsL_in (cls_vldB hc)] at hn1 ⊢
  rw [tnsL_in (cls_vldB h)] at hn2 ⊢
  rw [tns_len, tns_len]
  by_cases h0 : (flp s ns).length = 0
  · rw [h0]
    show (-1 : Int) ≤ _
    by_cases h1 : ns.length = 0
    · rw [h1]; exact Int.le_refl _
    · have := gTo_bd hn2 (ns.length - 1) (by rw [tns_len]; omega)
      rw [show ns.length - 1 + 1 = ns.length by omega] at this
      omega
  · obtain ⟨j, hj, e⟩ := gTo_mem hn1 (flp s ns).length (by omega) (by rw [tns_len]; omega)
    rw [e, tns_getD hj]
    have hu : (flp s ns).getD j 0 ∈ flp s ns := getD_of_lt hj
    generalize (flp s ns).getD j 0 = u at *
    have h1 := flp_tn h hs hu
    obtain ⟨i, hi, e2⟩ := List.getElem_of_mem ((mem_flp h hs).1 hu)
    have e3 : ns.getD i 0 = u ^^^ s := by rw [List.getD_eq_getElem?_getD, List.getElem?_eq_getElem hi]; exact e2
    have h2 := gTo_ge (tns m ns) ns.length i hi
    rw [tns_getD hi, e3] at h2
    omega
theorem flp_td {m s : Nat} {ns : List Nat} (h : Cls m ns) (hs : s < 2 ^ m) : tdB (m : Int) (toI (flp s ns)) = tdB (m : Int) (toI ns) := by
  have h1 := flp_td_le h hs
  have h2 := flp_td_le (flp_cls h hs) hs
  rw [flp_flp h hs] at h2
  omega

end Go.Proofs.YtffmcibpboejnaaDoor
