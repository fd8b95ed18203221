/- Shifts, again and again: what they come to. slices.Equal of two slices of ints. No conditions. -/
import Derived.Test.YtnmilfkocheaiaaGreatDoorShiftS
import Derived.Test.YtnmilfkocheaiaaGreatDoorZH
namespace Go.Proofs.YtnmilfkocheaiaaGreatDoor
open Go.RowKit

/-- one shift -/
def sh1 (x : Nat) (ns : List Nat) : List Nat := tidyL (ns.map (shs x ns))
/-- the shifts of the first k points -/
def swTo (ns : List Nat) : Nat → List Nat
  | 0 => ns
  | k + 1 => sh1 k (swTo ns k)
def swp (m : Nat) (ns : List Nat) : List Nat := swTo ns m
/-- without x nothing new comes -/
def xdn (x : Nat) (ns : List Nat) : Prop := ∀ s ∈ ns, low x s ∈ ns

theorem mem_sh1 {x : Nat} {ns : List Nat} (h32 : ∀ t ∈ ns, t < 32) (y : Nat) : y ∈ sh1 x ns ↔ ∃ t ∈ ns, shs x ns t = y := by
  simp only [sh1, tidyL, mem_flt, decide_eq_true_eq, List.mem_map]
  constructor
  · rintro ⟨_, h⟩
    exact h
  · rintro ⟨t, ht, rfl⟩
    exact ⟨Nat.lt_of_le_of_lt (shs_le x ns t) (h32 t ht), t, ht, rfl⟩
theorem sh1_asc (x : Nat) (ns : List Nat) : (sh1 x ns).Pairwise (· < ·) := by
  unfold sh1 tidyL
  exact flt_asc _
theorem Cls.sh1 {m : Nat} {ns : List Nat} (h : Cls m ns) (x : Nat) : Cls m (sh1 x ns) :=
  ⟨h.pts, sh1_asc x ns, fun y hy => by
    obtain ⟨t, ht, rfl⟩ := (mem_sh1 h.lt32 y).1 hy
    exact Nat.lt_of_le_of_lt (shs_le x ns t) (h.lt t ht)⟩
theorem Cls.swTo {m : Nat} {ns : List Nat} (h : Cls m ns) (k : Nat) : Cls m (swTo ns k) := by
  induction k with
  | zero => exact h
  | succ k ih => exact ih.sh1 k
theorem low_comm {x y s : Nat} (hx : x < 5) (hy : y < 5) (hs : s < 32) : low x (low y s) = low y (low x s) := by
  have key : ∀ x y : Fin 5, ∀ s : Fin 32, low x (low y s) = low y (low x s) := by decide +kernel
  exact key ⟨x, hx⟩ ⟨y, hy⟩ ⟨s, hs⟩
theorem low_low (x s : Nat) : low x (low x s) = low x s := low_of (low_has x s)
theorem shs_of_in {x s : Nat} {ns : List Nat} (h : low x s ∈ ns) : shs x ns s = s := by rw [shs, if_pos h]
theorem shs_of_out {x s : Nat} {ns : List Nat} (h : ¬ low x s ∈ ns) : shs x ns s = low x s := by rw [shs, if_neg h]
theorem xdn_self {m x : Nat} {ns : List Nat} (h : Cls m ns) : xdn x (sh1 x ns) := by
  intro s hs
  obtain ⟨t, ht, rfl⟩ := (mem_sh1 h.lt32 _).1 hs
  by_cases hl : low x t ∈ ns
  · rw [shs_of_in hl]
    exact (mem_sh1 h.lt32 _).2 ⟨low x t, hl, shs_of_in (by rw [low_low]; exact hl)⟩
  · rw [shs_of_out hl, low_low]
    exact (mem_sh1 h.lt32 _).2 ⟨t, ht, shs_of_out hl⟩
theorem xdn_other {m x y : Nat} {ns : List Nat} (h : Cls m ns) (hx : x < 5) (hy : y < 5) (hd : xdn x ns) : xdn x (sh1 y ns) := by
  intro s hs
  obtain ⟨t, ht, rfl⟩ := (mem_sh1 h.lt32 _).1 hs
  have hc := low_comm hx hy (h.lt32 t ht)
  by_cases hl : low y t ∈ ns
  · rw [shs_of_in hl]
    exact (mem_sh1 h.lt32 _).2 ⟨low x t, hd t ht, shs_of_in (by rw [← hc]; exact hd _ hl)⟩
  · rw [shs_of_out hl]
    by_cases hu : low y (low x t) ∈ ns
    · rw [hc]
      exact (mem_sh1 h.lt32 _).2 ⟨low y (low x t), hu, shs_of_in (by rw [low_low]; exact hu)⟩
    · exact (mem_sh1 h.lt32 _).2 ⟨low x t, hd t ht, by rw [shs_of_out hu, hc]⟩
theorem xdn_swTo {m : Nat} {ns : List Nat} (h : Cls m ns) (k : Nat) (hk : k ≤ 5) (x : Nat) (hx : x < k) : xdn x (swTo ns k) := by
  induction k with
  | zero => omega
  | succ k ih =>
    by_cases e : x = k
    · subst e
      exact xdn_self (h.swTo x)
    · exact xdn_other (h.swTo k) (by omega) (by omega) (ih (by omega) (by omega))
theorem sh1_fix {m x : Nat} {ns : List Nat} (h : Cls m ns) (hd : xdn x ns) : sh1 x ns = ns := by
  apply asc_ext (sh1_asc x ns) h.asc
  intro y
  rw [mem_sh1 h.lt32]
  constructor
  · rintro ⟨t, ht, rfl⟩
    rw [shs_of_in (hd t ht)]
    exact ht
  · intro hy
    exact ⟨y, hy, shs_of_in (hd y hy)⟩
theorem swp_fix {m : Nat} {ns : List Nat} (h : Cls m ns) (k : Nat) (hk : k ≤ m) : swTo (swp m ns) k = swp m ns := by
  induction k with
  | zero => rfl
  | succ k ih =>
    rw [swTo, ih (by omega)]
    exact sh1_fix (h.swTo m) (xdn_swTo h m h.pts k (by omega))
theorem cls_vldB {m : Nat} {ns : List Nat} (h : Cls m ns) : vldB m (toI ns) = true := by
  apply vldB_all h.pts
  intro j hj
  rw [toI_length] at hj
  rw [toI_getD]
  have h1 := h.lt _ (getD_of_lt hj)
  have h2 : ((2 ^ m : Nat) : Int) = (2 : Int) ^ m := by simp
  refine ⟨by omega, by omega, fun hp => ?_⟩
  rw [toI_getD]
  have h3 := List.pairwise_iff_getElem.1 h.asc (j - 1) j (by omega) hj (by omega)
  simp only [List.getD_eq_getElem?_getD, List.getElem?_eq_getElem hj, List.getElem?_eq_getElem (show j - 1 < ns.length by omega), Option.getD_some]
  omega
theorem shN_in {m x : Nat} {ns : List Nat} (h : Cls m ns) (hx : x < m) : shN m (toI ns) x = m ∧ shL m (toI ns) x = toI (sh1 x ns) := by
  have hv : ptB m (toI ns) x = true := by
    simp only [ptB, cls_vldB h, Bool.true_and, Bool.and_eq_true, decide_eq_true_eq]
    omega
  refine ⟨by rw [shN, if_pos hv], by rw [shL, if_pos hv, toNat_toI, Int.toNat_natCast]; rfl⟩
def stN (n : Int) (zs : List Int) : Int := if vldB n zs = true then n else 0
def stL (n : Int) (zs : List Int) : List Int := if vldB n zs = true then toI (swp n.toNat (zs.map Int.toNat)) else []
theorem stL_len (n : Int) (zs : List Int) : (stL n zs).length ≤ 1048576 := by
  unfold stL
  split
  · rename_i hv
    obtain ⟨m, ns, rfl, rfl, hc⟩ := vldB_cls hv
    rw [toI_length, Int.toNat_natCast, toNat_toI]
    have := (hc.swTo m).length
    unfold swp
    omega
  · simp

set_option maxHeartbeats 800000 in
set_option maxRecDepth 100000 in
theorem slicesEqual (va vb : Value) (za zb : List Int) (w : World) (ha : Rd w va za) (hb : Rd w vb zb) :
    Calls Tryz.prog 115 #[va, vb] w fun e w' => e = .returned (.bool (eqB za zb)) ∧ ∃ m, w' = w.drewN m := by
  obtain ⟨a, ga, oa, ca, rfl, ha1, ha3, ha5⟩ := ha
  obtain ⟨b, gb, ob, cb, rfl, hb1, hb3, hb5⟩ := hb
  have HA1 := Lib.hid ha1
  have HA5 := Lib.hid ha5
  have HB1 := Lib.hid hb1
  have HB5 := Lib.hid hb5
  clear ha1 ha5 hb1 hb5
  by_cases hl : za.length = zb.length
  · have HL := Lib.hid hl
    rw [← hl]
    clear hl
    generalize hn : za.length = n at *
    have HN := Lib.hid hn
    clear hn
    go_enter Tryz.func115, Tryz.ntmps115
    go_wp2
    go_loopw [13] (fun i wr => ∃ k : Nat, k ≤ n ∧ i = .int .i64 k ∧ eqTo za zb k ∧ ∃ m, wr = w.drewN m) (fun i _ => n - (intOf i).toNat)
    case atStart => exact ⟨0, Nat.zero_le _, rfl, fun j hj => by omega, 0, rfl⟩
    case round =>
      obtain ⟨k, hk, rfl, heq, m, rfl⟩ := hrel
      have HE := Lib.hid heq
      clear heq
      by_cases hlt : k < n
      · obtain ⟨rfl, _⟩ := HA1.out (by omega)
        obtain ⟨rfl, _⟩ := HB1.out (by rw [← HL.out]; omega)
        have hca := HA5.out k (by omega)
        have hcb := HB5.out k (by rw [← HL.out]; omega)
        generalize hx : za.getD k 0 = x at hca
        generalize hy : zb.getD k 0 = y at hcb
        have HX := Lib.hid hx
        have HY := Lib.hid hy
        clear hx hy
        have hltI : (k : Int) < (n : Int) := by omega
        by_cases hxy : x = y
        · subst hxy
          go_wp2
          go_quiet (fail)
          go_wp2
          go_roundw
          case rel => exact ⟨k + 1, by omega, by go_num, fun j hj => by
            by_cases e : j = k
            · subst e; rw [HX.out, HY.out]
            · exact HE.out j (by omega), _, rfl⟩
          case measure => simp [intOf]; omega
        · have hne : (x != y) = true := by simpa using hxy
          have HR := Lib.hid (eqB_not (k := k) (za := za) (zb := zb) (by rw [HX.out, HY.out]; exact hxy))
          go_wp2
          go_quiet (fail)
          go_wp2
          go_ret
          exact ⟨by rw [HR.out]; rfl, m + nq, World.drewN_drewN _ _ _⟩
      · obtain rfl : k = n := by omega
        have HR := Lib.hid (eqB_of (za := za) (zb := zb) (HN.out.trans HL.out) (by rw [HN.out]; exact HE.out))
        go_wp2
        go_ret
        exact ⟨by rw [HR.out]; rfl, _, rfl⟩
  · have hne : ((za.length : Int) != (zb.length : Int)) = true := by simp; omega
    have HR : eqB za zb = false := eqB_len hl
    rw [HR]
    clear HR hl
    go_enter Tryz.func115, Tryz.ntmps115
    go_wp2
    go_ret
    exact ⟨rfl, 0, rfl⟩

end Go.Proofs.YtnmilfkocheaiaaGreatDoor
