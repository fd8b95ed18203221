/- The cubes of a class, as a list of pairs. No program. -/
import Derived.Test.YtpkilacappjkhaaZD
import Derived.Test.YtpkilacappjkhaaZH
namespace Go.Proofs.Ytpkilacappjkhaa
open Go.RowKit

/-- the cubes at a along the first k sets -/
def cbIn (ns : List Nat) (a k : Nat) : List (Int × Int) := ((List.range k).filter (fun b => crn ns b a)).map (fun (b : Nat) => ((a : Int), (b : Int)))
theorem cbIn_yes {ns : List Nat} {a k : Nat} (h : crn ns k a = true) : cbIn ns a (k + 1) = cbIn ns a k ++ [((a : Int), (k : Int))] := by
  simp [cbIn, List.range_succ, List.filter_append, h]
theorem cbIn_no {ns : List Nat} {a k : Nat} (h : crn ns k a = false) : cbIn ns a (k + 1) = cbIn ns a k := by
  simp [cbIn, List.range_succ, List.filter_append, h]
theorem cbIn_len (ns : List Nat) (a k : Nat) : (cbIn ns a k).length ≤ k := by
  rw [cbIn, List.length_map]
  have := List.length_filter_le (fun b => crn ns b a) (List.range k)
  rw [List.length_range] at this
  exact this
theorem cbIn_out {ns : List Nat} {a : Nat} (h : ¬ a ∈ ns) (k : Nat) : cbIn ns a k = [] := by
  rw [cbIn, List.map_eq_nil_iff, List.filter_eq_nil_iff]
  intro b _ hb
  exact h (crn_mem hb)
/-- the cubes at the first j sets of the class -/
def cbTo (ns : List Nat) (m j : Nat) : List (Int × Int) := (ns.take j).flatMap (fun a => cbIn ns a (2 ^ m))
theorem cbTo_succ {ns : List Nat} {m j : Nat} (hj : j < ns.length) : cbTo ns m (j + 1) = cbTo ns m j ++ cbIn ns (ns.getD j 0) (2 ^ m) := by
  rw [cbTo, cbTo, List.take_add_one, List.flatMap_append]
  congr 1
  rw [List.getD_eq_getElem?_getD, List.getElem?_eq_getElem hj]
  simp
theorem cbTo_len {ns : List Nat} {m : Nat} (hm : m ≤ 5) (j : Nat) : (cbTo ns m j).length ≤ j * 32 := by
  induction j with
  | zero => simp [cbTo]
  | succ j ih =>
    by_cases hj : j < ns.length
    · rw [cbTo_succ hj, List.length_append]
      have h1 := cbIn_len ns (ns.getD j 0) (2 ^ m)
      have h2 := pow_le_32 hm
      omega
    · have : ns.take (j + 1) = ns.take j := by rw [List.take_of_length_le (by omega), List.take_of_length_le (by omega)]
      rw [cbTo, this]
      have h3 : (cbTo ns m j).length ≤ j * 32 := ih
      rw [cbTo] at h3
      omega
/-- the cubes at the sets below j -/
def csTo (ns : List Nat) (m j : Nat) : List (Int × Int) := (List.range j).flatMap (fun a => cbIn ns a (2 ^ m))
theorem csTo_succ (ns : List Nat) (m j : Nat) : csTo ns m (j + 1) = csTo ns m j ++ cbIn ns j (2 ^ m) := by
  simp [csTo, List.range_succ, List.flatMap_append]
theorem csTo_len {ns : List Nat} {m : Nat} (hm : m ≤ 5) (j : Nat) : (csTo ns m j).length ≤ j * 32 := by
  induction j with
  | zero => simp [csTo]
  | succ j ih =>
    rw [csTo_succ, List.length_append]
    have h1 := cbIn_len ns j (2 ^ m)
    have h2 := pow_le_32 hm
    omega
theorem flatMap_filter {α β : Type} (l : List α) (f : α → List β) (p : α → Bool) (h : ∀ a, p a = false → f a = []) : l.flatMap f = (l.filter p).flatMap f := by
  induction l with
  | nil => rfl
  | cons a l ih =>
    rw [List.flatMap_cons, List.filter_cons]
    cases hp : p a with
    | true => rw [if_pos rfl, List.flatMap_cons, ih]
    | false => rw [if_neg (by decide), h a hp, List.nil_append, ih]
theorem cs_cb {m : Nat} {ns : List Nat} (h : Cls m ns) : csTo ns m (2 ^ m) = cbTo ns m ns.length := by
  rw [csTo, cbTo, List.take_length, flatMap_filter _ _ (fun a => decide (a ∈ ns)) (fun a ha => cbIn_out (by simpa using ha) _)]
  congr 1
  have h1 : ((List.range (2 ^ m)).filter (fun s => decide (s ∈ ns))).Pairwise (· < ·) := List.Pairwise.filter _ List.pairwise_lt_range
  have hp : List.Perm ((List.range (2 ^ m)).filter (fun s => decide (s ∈ ns))) ns := by
    apply (List.perm_ext_iff_of_nodup (List.nodup_range.filter _) (h.asc.imp (fun h => Nat.ne_of_lt h))).2
    intro s
    rw [List.mem_filter, List.mem_range, decide_eq_true_eq]
    exact ⟨fun h => h.2, fun h9 => ⟨h.lt s h9, h9⟩⟩
  exact hp.eq_of_pairwise (fun a b _ _ h1 h2 => by omega) h1 h.asc
/-- what CubesOf answers -/
def cubL (n : Int) (zs : List Int) : List (Int × Int) := if vldB n zs = true then cbTo (zs.map Int.toNat) n.toNat (zs.map Int.toNat).length else []
theorem cubL_in {m : Nat} {ns : List Nat} (h : vldB (m : Int) (toI ns) = true) : cubL (m : Int) (toI ns) = cbTo ns m ns.length := by rw [cubL, if_pos h, toNat_toI, Int.toNat_natCast]
theorem cubL_bad {n : Int} {zs : List Int} (h : vldB n zs = false) : cubL n zs = [] := by rw [cubL, h]; rfl
theorem cubL_len (n : Int) (zs : List Int) : (cubL n zs).length ≤ 1048576 := by
  unfold cubL
  split
  · rename_i hv
    obtain ⟨m, ns, rfl, rfl, hc⟩ := vldB_cls hv
    rw [toNat_toI, Int.toNat_natCast]
    have h1 := cbTo_len (ns := ns) hc.pts ns.length
    have h2 := hc.length
    omega
  · simp

end Go.Proofs.Ytpkilacappjkhaa
