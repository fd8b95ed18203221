/- The program's list and TraceOf. Conditions: Sets is a slice of ints. GrowthOf, the program's and the model's. Conditions: Sets is a slice of ints. What IsMaximum answers. No conditions. IsExtremal, the program's and the model's. Conditions: Sets is a slice of ints. FnSauerBound: what it draws, and its walk. Conditions: the code is a slice of bytes. The mathematics of the promises of chapter 1: growth, maximum and extremal classes, flips. Conditions: the class is valid. -/
import Derived.Deep.RegionWith
import Derived.Test.YtpkilacappjkhaaDraw
import Derived.Test.YtpkilacappjkhaaShatS
import Derived.Test.YtpkilacappjkhaaZB
import Derived.Test.YtpkilacappjkhaaZC
import Derived.Test.YtpkilacappjkhaaZE
namespace Go.Proofs.Ytpkilacappjkhaa
open Go.RowKit



end Go.Proofs.Ytpkilacappjkhaa

namespace Go.Proofs.Ytpkilacappjkhaa
open Go.RowKit

/-- the greatest number of traces on the sets below k of size s -/
def growTo (ns : List Nat) (s : Int) : Nat → Int
  | 0 => 0
  | k + 1 => if (pc k : Int) = s then max (growTo ns s k) (tr ns k).length else growTo ns s k
theorem tr_len (ns : List Nat) (k : Nat) : (tr ns k).length ≤ 32 := by
  have := filt_le (fun p => ns.any (fun t => t &&& k == p)) 32
  simpa [tr, flt] using this
theorem growTo_bd (ns : List Nat) (s : Int) (k : Nat) : 0 ≤ growTo ns s k ∧ growTo ns s k ≤ 32 := by
  induction k with
  | zero => simp [growTo]
  | succ k ih =>
    have := tr_len ns k
    simp only [growTo]
    split <;> omega
theorem growTo_yes {ns : List Nat} {s : Int} {k : Nat} (h : (pc k : Int) = s) : growTo ns s (k + 1) = max (growTo ns s k) (tr ns k).length := by simp [growTo, h]
theorem growTo_no {ns : List Nat} {s : Int} {k : Nat} (h : ¬ (pc k : Int) = s) : growTo ns s (k + 1) = growTo ns s k := by simp [growTo, h]
def growB (n : Int) (zs : List Int) (s : Int) : Int :=
  if vldB n zs = true ∧ 0 ≤ s ∧ s ≤ n then growTo (zs.map Int.toNat) s (2 ^ n.toNat) else -1
theorem growB_bad {n : Int} {zs : List Int} {s : Int} (h : vldB n zs = false) : growB n zs s = -1 := by simp [growB, h]
theorem growB_out {n : Int} {zs : List Int} {s : Int} (h : ¬ (0 ≤ s ∧ s ≤ n)) : growB n zs s = -1 := by
  rw [growB, if_neg]; exact fun hh => h hh.2
theorem growB_in {n : Nat} {ns : List Nat} {s : Int} (h : vldB n (toI ns) = true) (h2 : 0 ≤ s ∧ s ≤ n) : growB n (toI ns) s = growTo ns s (2 ^ n) := by
  rw [growB, if_pos ⟨h, h2⟩, toNat_toI, Int.toNat_natCast]



end Go.Proofs.Ytpkilacappjkhaa

namespace Go.Proofs.Ytpkilacappjkhaa
open Go.RowKit

def maxB (n : Int) (zs : List Int) : Bool := vldB n zs && decide ((zs.length : Int) = sauerB n (vcB n zs))
theorem maxB_bad {n : Int} {zs : List Int} (h : vldB n zs = false) : maxB n zs = false := by simp [maxB, h]
theorem maxB_in {n : Int} {zs : List Int} (h : vldB n zs = true) : maxB n zs = decide ((zs.length : Int) = sauerB n (vcB n zs)) := by simp [maxB, h]
theorem ret_decM {p q : Prop} [Decidable p] [Decidable q] (h : p ↔ q) : Ending.returned (.bool (decide p)) = .returned (.bool (decide q)) := by simp [h]
theorem sauerB_in {n : Nat} (h : n ≤ 5) (d : Int) : sauerB n d = (cntTo d (2 ^ n) : Nat) := by rw [sauerB, if_neg (by omega), Int.toNat_natCast]

end Go.Proofs.Ytpkilacappjkhaa

namespace Go.Proofs.Ytpkilacappjkhaa
open Go.RowKit

def extB (n : Int) (zs : List Int) : Bool := vldB n zs && decide ((shatN n zs).length = zs.length)
theorem extB_bad {n : Int} {zs : List Int} (h : vldB n zs = false) : extB n zs = false := by simp [extB, h]
theorem extB_in {n : Int} {zs : List Int} (h : vldB n zs = true) : extB n zs = decide ((shatN n zs).length = zs.length) := by simp [extB, h]

theorem ret_dec {p q : Prop} [Decidable p] [Decidable q] (h : p ↔ q) : Ending.returned (.bool (decide p)) = .returned (.bool (decide q)) := by simp [h]




end Go.Proofs.Ytpkilacappjkhaa

namespace Go.Proofs.Ytpkilacappjkhaa
open Go.RowKit

theorem sauer_sum {m : Nat} {d : Int} (hm : m ≤ 5) (h0 : -1 ≤ d) (h1 : d ≤ 5) : sauerB m d + sauerB m ((m : Int) - d - 1) = 2 ^ m ∧ sauerB m d ≤ sauerB m (d + 1) := by
  have key : ∀ m : Fin 6, ∀ j : Fin 7, sauerB (m : Nat) (((j : Nat) : Int) - 1) + sauerB (m : Nat) (((m : Nat) : Int) - (((j : Nat) : Int) - 1) - 1) = 2 ^ (m : Nat) ∧ sauerB (m : Nat) (((j : Nat) : Int) - 1) ≤ sauerB (m : Nat) (((j : Nat) : Int) - 1 + 1) := by decide +kernel
  have := key ⟨m, by omega⟩ ⟨(d + 1).toNat, by omega⟩
  rw [show (((d + 1).toNat : Nat) : Int) - 1 = d by omega] at this
  exact this
theorem sauer_bd {m : Nat} (hm : m ≤ 5) (d : Int) : 0 ≤ sauerB m d ∧ sauerB m d ≤ 32 := by
  rw [sauerB, if_neg (by omega), Int.toNat_natCast]
  have h1 := List.length_filter_le (fun s => decide ((pc s : Int) ≤ d)) (List.range (2 ^ m))
  have h2 := pow_le_32 hm
  unfold cntTo
  simp at h1
  omega
theorem sauer_neg {m : Nat} (hm : m ≤ 5) {d : Int} (hd : d < 0) : sauerB m d = 0 := by
  rw [sauerB, if_neg (by omega), cntTo, List.filter_eq_nil_iff.2 (fun s _ => by simp; omega)]
  rfl
theorem sauer_big {m : Nat} (hm : m ≤ 5) {d : Int} (hd : 5 ≤ d) : sauerB m d = 2 ^ m := by
  have hpc : ∀ s, pc s ≤ 5 := fun s => by unfold pc; omega
  rw [sauerB, if_neg (by omega), cntTo, List.filter_eq_self.2 (fun s _ => by have := hpc s; simp; omega), List.length_range, Int.toNat_natCast]
  simp




end Go.Proofs.Ytpkilacappjkhaa

namespace Go.Proofs.Ytpkilacappjkhaa
open Go.RowKit

/-- parts of a shattered set are shattered -/
theorem shF_down {n : Nat} (hn : n ≤ 5) (f : Nat → Bool) {s t : Nat} (hs : s < 2 ^ n) (ht : t &&& s = t) (h : shF n f s = true) : shF n f t = true := by
  have ht2 : t < 2 ^ n := by
    have : t ≤ s := by rw [← ht]; exact Nat.and_le_right
    omega
  rw [shF_iff hn f hs] at h
  rw [shF_iff hn f ht2]
  intro u hu hut
  obtain ⟨v, hv, hf, he⟩ := h u hu (by rw [← hut, Nat.and_assoc, ht])
  refine ⟨v, hv, hf, ?_⟩
  rw [← ht, Nat.and_comm t s, ← Nat.and_assoc, he, hut]
theorem sht_down {m : Nat} {ns : List Nat} (h : Cls m ns) {s t : Nat} (hs : s < 2 ^ m) (ht : t &&& s = t) (hh : sht ns s = true) : sht ns t = true := by
  have ht2 : t < 2 ^ m := by
    have : t ≤ s := by rw [← ht]; exact Nat.and_le_right
    omega
  rw [sht_sh h hs] at hh
  rw [sht_sh h ht2]
  exact shF_down h.pts _ hs ht hh
theorem strg_sht {m : Nat} {ns : List Nat} (h : Cls m ns) {s : Nat} (hs : s < 2 ^ m) (hh : strg ns s = true) : sht ns s = true := by
  rw [strg_st h hs] at hh
  rw [sht_sh h hs]
  exact st_sh m _ s hh
theorem shat_many {m : Nat} {ns : List Nat} (h : Cls m ns) : ns.length ≤ ((List.range (2 ^ m)).filter (sht ns)).length := by
  rw [sht_count h, ← h.cnt]
  exact pajor m _
theorem strong_few {m : Nat} {ns : List Nat} (h : Cls m ns) : ((List.range (2 ^ m)).filter (strg ns)).length ≤ ns.length := by
  rw [strg_count h, ← h.cnt]
  exact strong_le m _
/-- a cube along a set, or the complement shatters the other points -/
theorem strg_cmpl {m : Nat} {ns : List Nat} (h : Cls m ns) {s : Nat} (hs : s < 2 ^ m) : strg ns s = !sht (cmpl m ns) (2 ^ m - 1 - s) := by
  have h2 : 2 ^ m - 1 - s < 2 ^ m := by have := Nat.two_pow_pos m; omega
  rw [strg_st h hs, st_not m _ s hs, sht_sh (cmpl_cls h) h2]
  congr 1
  exact shF_congr (fun t ht => (cmpl_in ht).symm) _
theorem cmpl_cmpl {m : Nat} {ns : List Nat} (h : Cls m ns) : cmpl m (cmpl m ns) = ns := by
  refine asc_ext ((range_asc _).filter _) h.asc (fun x => ?_)
  have hx := h.lt x
  simp only [cmpl, List.mem_filter, List.mem_range, Bool.not_eq_true', decide_eq_false_iff_not, not_and]
  constructor
  · rintro ⟨h1, h2⟩
    exact Classical.byContradiction (h2 h1)
  · intro hm
    exact ⟨hx hm, fun _ hh => hh hm⟩
theorem cmpl_len {m : Nat} {ns : List Nat} (h : Cls m ns) : (cmpl m ns).length + ns.length = 2 ^ m := by
  have h1 := (cmpl_cls h).cnt
  have h2 := h.cnt
  have h3 := cnt_not m (inF ns)
  rw [cnt_congr (g := notF (inF ns)) (fun s hs => cmpl_in hs)] at h1
  omega
/-- shatters as many as it has -/
def extL (m : Nat) (ns : List Nat) : Prop := ((List.range (2 ^ m)).filter (sht ns)).length = ns.length
theorem ext_strg {m : Nat} {ns : List Nat} (h : Cls m ns) : extL m ns ↔ ((List.range (2 ^ m)).filter (strg ns)).length = ns.length := by
  rw [extL, sht_count h, strg_count h, ← h.cnt]
  exact ⟨ext_st m _, st_ext m _⟩
theorem ext_cmpl {m : Nat} {ns : List Nat} (h : Cls m ns) : extL m (cmpl m ns) ↔ extL m ns := by
  have key : ∀ {l : List Nat}, Cls m l → extL m l → extL m (cmpl m l) := by
    intro l hl he
    rw [extL, sht_count hl, ← hl.cnt] at he
    have h1 := ext_not m _ he
    rw [extL, sht_count (cmpl_cls hl), ← (cmpl_cls hl).cnt]
    rw [cnt_congr (f := inF (cmpl m l)) (g := notF (inF l)) (fun s hs => cmpl_in hs), cnt_congr (g := shF m (notF (inF l))) (fun s _ => shF_congr (fun t ht => cmpl_in ht) s)]
    exact h1
  refine ⟨fun he => ?_, key h⟩
  have := key (cmpl_cls h) he
  rw [cmpl_cmpl h] at this
  exact this
theorem ext_both {m : Nat} {ns : List Nat} (h : Cls m ns) (he : extL m ns) : (List.range (2 ^ m)).filter (strg ns) = (List.range (2 ^ m)).filter (sht ns) := by
  have h1 := (ext_strg h).1 he
  rw [strg_count h] at h1
  rw [extL, sht_count h] at he
  have hs := cnt_same (n := m) (fun s _ => st_sh m (inF ns) s) (by omega)
  refine List.filter_congr (fun s hs2 => ?_)
  have hs3 := List.mem_range.1 hs2
  rw [strg_st h hs3, sht_sh h hs3]
  exact hs s hs3

/-- the number of points of the others -/
theorem pc_compl {m s : Nat} (hm : m ≤ 5) (hs : s < 2 ^ m) : pc (2 ^ m - 1 - s) + pc s = m := by
  have key : ∀ m : Fin 6, ∀ s : Fin 32, (s : Nat) < 2 ^ (m : Nat) → pc (2 ^ (m : Nat) - 1 - (s : Nat)) + pc (s : Nat) = (m : Nat) := by decide +kernel
  exact key ⟨m, by omega⟩ ⟨s, Nat.lt_of_lt_of_le hs (pow_le_32 hm)⟩ hs
/-- a set of k of m points -/
theorem pc_first {m k : Nat} (hm : m ≤ 5) (hk : k ≤ m) : 2 ^ k - 1 < 2 ^ m ∧ pc (2 ^ k - 1) = k := by
  have key : ∀ m : Fin 6, ∀ k : Fin 6, (k : Nat) ≤ (m : Nat) → 2 ^ (k : Nat) - 1 < 2 ^ (m : Nat) ∧ pc (2 ^ (k : Nat) - 1) = (k : Nat) := by decide +kernel
  exact key ⟨m, by omega⟩ ⟨k, by omega⟩ hk
def maxL (m : Nat) (ns : List Nat) : Prop := (ns.length : Int) = sauerB m (vcL m ns)
theorem sauerB_cnt {m : Nat} (hm : m ≤ 5) (d : Int) : sauerB m d = (cnt m (fun s => decide ((pc s : Int) ≤ d)) : Nat) := by
  rw [sauerB_in hm, cntTo_cnt]
theorem shF_small {m : Nat} {ns : List Nat} (h : Cls m ns) (s : Nat) (hs : s < 2 ^ m) (hh : shF m (inF ns) s = true) : decide ((pc s : Int) ≤ vcL m ns) = true := by
  rw [← sht_sh h hs] at hh
  exact decide_eq_true (widL_ge (List.mem_filter.2 ⟨List.mem_range.2 hs, hh⟩))
theorem max_sh {m : Nat} {ns : List Nat} (h : Cls m ns) (hx : maxL m ns) : extL m ns ∧ ∀ s, s < 2 ^ m → shF m (inF ns) s = decide ((pc s : Int) ≤ vcL m ns) := by
  have h1 := pajor m (inF ns)
  have h2 := cnt_mono (shF_small h)
  rw [maxL, sauerB_cnt h.pts] at hx
  rw [h.cnt] at h1
  refine ⟨?_, cnt_same (shF_small h) (by omega)⟩
  rw [extL, sht_count h]
  omega
/-- the complement of a maximum class -/
theorem max_cmpl_vc {m : Nat} {ns : List Nat} (h : Cls m ns) (hx : maxL m ns) : vcL m (cmpl m ns) = (m : Int) - vcL m ns - 1 := by
  obtain ⟨he, hsh⟩ := max_sh h hx
  have hb := vcL_bd m ns
  have hst : ∀ s, s < 2 ^ m → stF m (inF ns) s = decide ((pc s : Int) ≤ vcL m ns) := by
    have h1 := (ext_strg h).1 he
    rw [strg_count h] at h1
    rw [extL, sht_count h] at he
    intro s hs
    rw [← hsh s hs]
    exact cnt_same (n := m) (fun s _ => st_sh m (inF ns) s) (by omega) s hs
  have hc : ∀ t, t < 2 ^ m → (sht (cmpl m ns) t = true ↔ (pc t : Int) ≤ (m : Int) - vcL m ns - 1) := by
    intro t ht
    have h2 : 2 ^ m - 1 - t < 2 ^ m := by have := Nat.two_pow_pos m; omega
    have h3 := strg_cmpl h h2
    rw [show 2 ^ m - 1 - (2 ^ m - 1 - t) = t by omega, strg_st h h2, hst _ h2] at h3
    have h4 := pc_compl h.pts ht
    rw [← Bool.not_eq_false, ← Bool.not_eq_true', ← h3, decide_eq_true_eq]
    omega
  have hm := h.pts
  have hvm : vcL m ns ≤ m := by
    rcases widL_at ((List.range (2 ^ m)).filter (sht ns)) with e | ⟨s, hs, e⟩
    · unfold vcL; omega
    · have := pc_le m s hm (List.mem_range.1 (List.mem_filter.1 hs).1)
      unfold vcL
      omega
  have hup : vcL m (cmpl m ns) ≤ (m : Int) - vcL m ns - 1 := by
    rcases widL_at ((List.range (2 ^ m)).filter (sht (cmpl m ns))) with e | ⟨s, hs, e⟩
    · unfold vcL at *; omega
    · have h5 := (hc s (List.mem_range.1 (List.mem_filter.1 hs).1)).1 (List.mem_filter.1 hs).2
      unfold vcL at *
      omega
  by_cases hz : (m : Int) - vcL m ns - 1 < 0
  · have := (vcL_bd m (cmpl m ns)).1
    omega
  · obtain ⟨k, hk⟩ := Int.eq_ofNat_of_zero_le (show 0 ≤ (m : Int) - vcL m ns - 1 by omega)
    have h6 := pc_first (m := m) (k := k) hm (by omega)
    have h7 : sht (cmpl m ns) (2 ^ k - 1) = true := (hc _ h6.1).2 (by rw [h6.2]; omega)
    have h8 := widL_ge (ns := (List.range (2 ^ m)).filter (sht (cmpl m ns))) (List.mem_filter.2 ⟨List.mem_range.2 h6.1, h7⟩)
    rw [h6.2] at h8
    unfold vcL at *
    omega
theorem max_cmpl {m : Nat} {ns : List Nat} (h : Cls m ns) : maxL m (cmpl m ns) ↔ maxL m ns := by
  have key : ∀ {l : List Nat}, Cls m l → maxL m l → maxL m (cmpl m l) := by
    intro l hl hx
    have h1 := max_cmpl_vc hl hx
    have h2 := cmpl_len hl
    have hb := vcL_bd m l
    have h3 := (sauer_sum hl.pts hb.1 hb.2).1
    have hp : ((2 ^ m : Nat) : Int) = (2 : Int) ^ m := by simp
    rw [maxL, h1]
    rw [maxL] at hx
    omega
  refine ⟨fun he => ?_, key h⟩
  have := key (cmpl_cls h) he
  rw [cmpl_cmpl h] at this
  exact this

/-- the greatest trace -/
theorem growTo_le {ns : List Nat} {k : Int} {B : Int} (hB : 0 ≤ B) : ∀ n, (∀ s, s < n → (pc s : Int) = k → ((tr ns s).length : Int) ≤ B) → growTo ns k n ≤ B := by
  intro n
  induction n with
  | zero => intro _; exact hB
  | succ n ih =>
    intro h
    have h1 := ih (fun s hs => h s (by omega))
    simp only [growTo]
    split
    · rename_i e
      have := h n (by omega) e
      omega
    · exact h1
theorem growTo_ge {ns : List Nat} {k : Int} {s : Nat} (hk : (pc s : Int) = k) : ∀ n, s < n → ((tr ns s).length : Int) ≤ growTo ns k n := by
  intro n
  induction n with
  | zero => intro h; omega
  | succ n ih =>
    intro h
    simp only [growTo]
    by_cases e : s = n
    · subst e
      rw [if_pos hk]
      omega
    · have := ih (by omega)
      split <;> omega
theorem growTo_at {ns : List Nat} {k : Int} : ∀ n, growTo ns k n = 0 ∨ ∃ s, s < n ∧ (pc s : Int) = k ∧ growTo ns k n = ((tr ns s).length : Int) := by
  intro n
  induction n with
  | zero => exact .inl rfl
  | succ n ih =>
    simp only [growTo]
    by_cases e : (pc n : Int) = k
    · rw [if_pos e]
      by_cases h2 : growTo ns k n ≤ ((tr ns n).length : Int)
      · exact .inr ⟨n, by omega, e, by omega⟩
      · rcases ih with h | ⟨s, hs, h3, h4⟩
        · have := (growTo_bd ns k n).1; omega
        · exact .inr ⟨s, by omega, h3, by omega⟩
    · rw [if_neg e]
      rcases ih with h | ⟨s, hs, h3, h4⟩
      · exact .inl h
      · exact .inr ⟨s, by omega, h3, h4⟩
theorem part_count {s : Nat} (hs : s < 32) {d : Int} (h0 : -1 ≤ d) (h1 : d ≤ 5) : (cnt 5 (fun t => (t &&& s == t) && decide ((pc t : Int) ≤ d)) : Int) = sauerB (pc s) d := by
  have key : ∀ s : Fin 32, ∀ j : Fin 7, (cnt 5 (fun t => (t &&& (s : Nat) == t) && decide ((pc t : Int) ≤ ((j : Nat) : Int) - 1)) : Int) = sauerB (pc (s : Nat)) (((j : Nat) : Int) - 1) := by decide +kernel
  have := key ⟨s, hs⟩ ⟨(d + 1).toNat, by omega⟩
  rw [show (((d + 1).toNat : Nat) : Int) - 1 = d by omega] at this
  exact this
theorem part_of {s k : Nat} (hs : s < 32) (hk : k ≤ pc s) : ∃ t, t &&& s = t ∧ pc t = k := by
  have key : ∀ s : Fin 32, ∀ k : Fin 6, (k : Nat) ≤ pc (s : Nat) → (List.range 32).any (fun t => (t &&& (s : Nat) == t) && pc t == (k : Nat)) = true := by decide +kernel
  have := key ⟨s, hs⟩ ⟨k, by have := pc_le5 s; omega⟩ hk
  simp only [List.any_eq_true, Bool.and_eq_true, beq_iff_eq] at this
  obtain ⟨t, _, h1, h2⟩ := this
  exact ⟨t, h1, h2⟩
theorem mem_tr {ns : List Nat} {s p : Nat} (hp : p < 32) : p ∈ tr ns s ↔ ∃ t ∈ ns, t &&& s = p := by
  rw [tr, mem_flt]
  simp [hp]
theorem tr_cls {m : Nat} {ns : List Nat} (h : Cls m ns) {s : Nat} (hs : s < 2 ^ m) : Cls m (tr ns s) := by
  have hlt : ∀ t ∈ tr ns s, t < 2 ^ m := fun t ht => by
    have h32 := (mem_flt.1 ht).1
    obtain ⟨u, _, e⟩ := (mem_tr h32).1 ht
    have : t ≤ s := by rw [← e]; exact Nat.and_le_right
    omega
  exact ⟨h.pts, by first | exact flt_asc _ | exact hlt, by first | exact hlt | exact flt_asc _⟩
/-- the trace on a set is small -/
theorem tr_sauer {m : Nat} {ns : List Nat} (h : Cls m ns) {s : Nat} (hs : s < 2 ^ m) : ((tr ns s).length : Int) ≤ sauerB (pc s) (vcL m ns) := by
  have hb := vcL_bd m ns
  have h32 : s < 32 := Nat.lt_of_lt_of_le hs (pow_le_32 h.pts)
  have hT := tr_cls h hs
  have h5 : Cls 5 (tr ns s) := ⟨by omega, by first | exact hT.asc | exact hT.lt32, by first | exact hT.lt32 | exact hT.asc⟩
  have h1 := pajor 5 (inF (tr ns s))
  rw [h5.cnt] at h1
  rw [← part_count h32 hb.1 hb.2]
  have h2 : cnt 5 (shF 5 (inF (tr ns s))) ≤ cnt 5 (fun t => (t &&& s == t) && decide ((pc t : Int) ≤ vcL m ns)) := by
    refine cnt_mono (fun t ht hh => ?_)
    rw [shF_iff (by omega) _ ht] at hh
    have hmem : ∀ u, inF (tr ns s) u = true → ∃ v ∈ ns, v &&& s = u := fun u hu => by
      have hu2 : u ∈ tr ns s := by simpa [inF] using hu
      exact (mem_tr (mem_flt.1 hu2).1).1 hu2
    have hts : t &&& s = t := by
      obtain ⟨u, hu, hf, he⟩ := hh t ht (Nat.and_self t)
      obtain ⟨v, _, hv⟩ := hmem u hf
      rw [← he, ← hv]
      apply Nat.eq_of_testBit_eq
      intro i
      simp only [Nat.testBit_and]
      cases v.testBit i <;> cases s.testBit i <;> cases t.testBit i <;> rfl
    have htm : t < 2 ^ m := by
      have : t ≤ s := by rw [← hts]; exact Nat.and_le_right
      omega
    have hsh : shF m (inF ns) t = true := by
      rw [shF_iff h.pts _ htm]
      intro p hp hpt
      obtain ⟨u, hu, hf, he⟩ := hh p (Nat.lt_of_lt_of_le hp (pow_le_32 h.pts)) hpt
      obtain ⟨v, hv, hvs⟩ := hmem u hf
      refine ⟨v, h.lt v hv, by simp [inF, hv], ?_⟩
      rw [← he, ← hvs, Nat.and_assoc, Nat.and_comm s t, hts]
    rw [Bool.and_eq_true]
    exact ⟨by rw [beq_iff_eq]; exact hts, shF_small h t htm hsh⟩
  omega
theorem sauer_top {k : Nat} (hk : k ≤ 5) (d : Int) : sauerB k d ≤ 2 ^ k := by
  rw [sauerB_in hk]
  have := cntTo_le d (2 ^ k)
  have hp : ((2 ^ k : Nat) : Int) = (2 : Int) ^ k := by simp
  omega
theorem grow_le {m k : Nat} {ns : List Nat} (h : Cls m ns) (hk : k ≤ m) : growTo ns k (2 ^ m) ≤ sauerB k (vcL m ns) := by
  refine growTo_le (sauer_bd (by have := h.pts; omega) _).1 _ (fun s hs e => ?_)
  have := tr_sauer h hs
  rw [show pc s = k by omega] at this
  exact this
theorem grow_pow {m k : Nat} {ns : List Nat} (h : Cls m ns) (hk : k ≤ m) : growTo ns k (2 ^ m) = (2 : Int) ^ k ↔ (k : Int) ≤ vcL m ns := by
  have hm := h.pts
  have hp : ((2 ^ k : Nat) : Int) = (2 : Int) ^ k := by simp
  constructor
  · intro e
    rcases growTo_at (ns := ns) (k := (k : Int)) (2 ^ m) with h0 | ⟨s, hs, h1, h2⟩
    · have := Nat.two_pow_pos k; omega
    · have h3 : pc s = k := by omega
      have h4 : sht ns s = true := by rw [sht, decide_eq_true_eq, h3]; omega
      have := widL_ge (ns := (List.range (2 ^ m)).filter (sht ns)) (List.mem_filter.2 ⟨List.mem_range.2 hs, h4⟩)
      unfold vcL
      omega
  · intro hv
    rcases widL_at ((List.range (2 ^ m)).filter (sht ns)) with e | ⟨s, hs, e⟩
    · unfold vcL at hv; omega
    · have hs2 := List.mem_range.1 (List.mem_filter.1 hs).1
      have hs3 := (List.mem_filter.1 hs).2
      unfold vcL at hv
      obtain ⟨t, ht, htk⟩ := part_of (k := k) (Nat.lt_of_lt_of_le hs2 (pow_le_32 hm)) (by omega)
      have h4 := sht_down h hs2 ht hs3
      have ht2 : t < 2 ^ m := by
        have : t ≤ s := by rw [← ht]; exact Nat.and_le_right
        omega
      rw [sht, decide_eq_true_eq, htk] at h4
      have h5 := growTo_ge (ns := ns) (k := (k : Int)) (s := t) (by omega) (2 ^ m) ht2
      have h6 := grow_le h hk
      have h7 := sauer_top (k := k) (by omega) (vcL m ns)
      omega
theorem tr_full {m : Nat} {ns : List Nat} (h : Cls m ns) : tr ns (2 ^ m - 1) = ns := by
  refine asc_ext (flt_asc _) h.asc (fun x => ?_)
  have key : ∀ t, t < 2 ^ m → t &&& (2 ^ m - 1) = t := fun t ht => by rw [Nat.and_two_pow_sub_one_eq_mod, Nat.mod_eq_of_lt ht]
  constructor
  · intro hx
    obtain ⟨t, ht, e⟩ := (mem_tr (mem_flt.1 hx).1).1 hx
    rw [key t (h.lt t ht)] at e
    subst e
    exact ht
  · intro hx
    exact (mem_tr (h.lt32 x hx)).2 ⟨x, hx, key x (h.lt x hx)⟩
theorem pc_all {m s : Nat} (hm : m ≤ 5) (hs : s < 2 ^ m) (h : pc s = m) : s = 2 ^ m - 1 := by
  have key : ∀ m : Fin 6, ∀ s : Fin 32, (s : Nat) < 2 ^ (m : Nat) → pc (s : Nat) = (m : Nat) → (s : Nat) = 2 ^ (m : Nat) - 1 := by decide +kernel
  exact key ⟨m, by omega⟩ ⟨s, Nat.lt_of_lt_of_le hs (pow_le_32 hm)⟩ hs h
theorem grow_all {m : Nat} {ns : List Nat} (h : Cls m ns) : growTo ns m (2 ^ m) = (ns.length : Int) := by
  have h1 : growTo ns m (2 ^ m) ≤ (ns.length : Int) := growTo_le (by omega) _ (fun s hs e => by have := tr_le ns s; omega)
  have h2 := pc_first (m := m) (k := m) h.pts (Nat.le_refl _)
  have h3 := growTo_ge (ns := ns) (k := (m : Int)) (s := 2 ^ m - 1) (by omega) (2 ^ m) h2.1
  rw [tr_full h] at h3
  omega

end Go.Proofs.Ytpkilacappjkhaa
