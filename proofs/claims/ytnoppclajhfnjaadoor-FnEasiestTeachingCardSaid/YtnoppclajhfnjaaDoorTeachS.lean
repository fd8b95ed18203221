/- IsTeaching, the model's. Conditions: Sets is a slice of ints. -/
import Derived.Deep.RegionHeld3
import Derived.Test.YtnoppclajhfnjaaDoorTeachM
import Derived.Test.YtnoppclajhfnjaaDoorZB
namespace Go.Proofs.YtnoppclajhfnjaaDoor
open Go.RowKit

set_option maxHeartbeats 400000 in
theorem specMeetAny (a b : Int) (w : World) :
    Calls Tryd.prog 111 #[.int .i64 a, .int .i64 b] w fun e w' => e = .returned (.int .i64 (bits .and .i64 a b)) ∧ w = w' := by
  go_enter Tryd.func111, Tryd.ntmps111
  go_wp2
  go_ret
  exact ⟨rfl, rfl⟩

/-- how many of the first k have M at s -/
def cmt (M : Int) (s : Nat) (l : List Nat) (k : Nat) : Nat := ((l.take k).filter (fun u => decide (((u &&& s : Nat) : Int) = M))).length
theorem cmt_succ {M : Int} {s k : Nat} {l : List Nat} (hk : k < l.length) : cmt M s l (k + 1) = cmt M s l k + (if ((l.getD k 0 &&& s : Nat) : Int) = M then 1 else 0) := by
  unfold cmt
  rw [take_succ' hk, List.filter_append, List.length_append]
  congr 1
  generalize l.getD k 0 = x
  by_cases h : ((x &&& s : Nat) : Int) = M
  · rw [if_pos h]; simp [h]
  · rw [if_neg h]; simp [h]
theorem cmt_le (M : Int) (s : Nat) (l : List Nat) (k : Nat) : cmt M s l k ≤ k := by
  unfold cmt
  have := List.length_filter_le (fun u => decide (((u &&& s : Nat) : Int) = M)) (l.take k)
  rw [List.length_take] at this
  omega
/-- t is there, and alone agrees with itself at the points of s -/
def tcB (l : List Nat) (t : Int) (s : Nat) : Bool := hasB (toI l) t && tch t.toNat s l
theorem cmt_tcB {l : List Nat} {t : Int} {s : Nat} (hl : ∀ u ∈ l, u < 32) (hs : s < 32) : (decide (cmt (bits .and .i64 t s) s l l.length = 1) && hasB (toI l) t) = tcB l t s := by
  by_cases h : hasB (toI l) t = true
  · have hm : t ∈ toI l := by simpa [hasB] using h
    obtain ⟨u, hu, rfl⟩ := List.mem_map.1 hm
    have hu32 := hl u hu
    rw [tcB, h, Bool.and_true, Bool.true_and, tch_count, Int.toNat_natCast, i64_and u s (by omega) (by omega)]
    rw [show decide (u ∈ l) = true from decide_eq_true hu, Bool.and_true]
    congr 2
    unfold cmt agr
    rw [List.take_length]
    congr 2
    funext v
    rw [Bool.eq_iff_iff]
    simp only [decide_eq_true_eq, beq_iff_eq]
    omega
  · rw [Bool.not_eq_true] at h
    rw [tcB, h, Bool.and_false, Bool.false_and]

set_option maxRecDepth 100000 in
set_option maxHeartbeats 3200000 in
theorem specTeaches (v : Value) (ns : List Nat) (t : Int) (s : Nat) (w : World) (h32 : ∀ u ∈ ns, u < 32) (hlen : ns.length ≤ 1048576) (hs : s < 32) (h : Rd w v (toI ns)) :
    Calls Tryd.prog 75 #[v, .int .i64 t, .int .i64 (s : Int)] w fun e w' => e = .returned (.bool (tcB ns t s)) ∧ Below w.heap.size w w' := by
  have HD := Lib.hid (fun w0 => specHasInt v (toI ns) t w0)
  have HR := Lib.hid h
  rw [← cmt_tcB h32 hs]
  obtain ⟨a, b, off, cap, rfl, h1, h3, h5⟩ := h
  rw [toI_length] at *
  have H1 := Lib.hid h1
  have H5 := Lib.hid h5
  have H32 := Lib.hid h32
  clear h1 h5 h32
  have HM := Lib.hid (fun (x : Nat) (hx : x < 32) (w0 : World) => (specMeet x s (by omega) (by omega) w0).mono fun e w' h => And.intro h.1 h.2.symm)
  have HT := Lib.hid (fun w0 => (specMeetAny t (s : Int) w0).mono fun e w' h => And.intro h.1 h.2.symm)
  generalize bits .and .i64 t (s : Int) = M at *
  generalize hb : hasB (toI ns) t = hh at *
  clear hb
  go_enter Tryd.func75, Tryd.ntmps75
  go_wp2_with fail
  go_loopw [7, 8] (fun q i wr => ∃ k : Nat, k ≤ ns.length ∧ i = .int .i64 k ∧ q = .int .i64 ((cmt M s ns k : Nat) : Int) ∧ ∃ d, wr = w.drewN d) (fun _ i _ => ns.length - (intOf i).toNat)
  case atStart => exact ⟨0, Nat.zero_le _, rfl, by simp [cmt], 0, rfl⟩
  case round =>
    obtain ⟨k, hk, rfl, rfl, d, rfl⟩ := hrel
    have hle := cmt_le M s ns k
    by_cases hlt : k < ns.length
    · obtain ⟨rfl, _⟩ := H1.out (by omega)
      have hc := H5.out k hlt
      rw [toI_getD] at hc
      have hx32 := H32.out _ (getD_of_lt hlt)
      have HC := Lib.hid (cmt_succ (M := M) (s := s) hlt)
      generalize ns.getD k 0 = x at *
      have HMx := Lib.hid (HM.out x hx32)
      have hkI : (k : Int) < (ns.length : Int) := by omega
      generalize (x &&& s : Nat) = y at *
      by_cases hxy : (y : Int) = M
      · have hxb : ((y : Int) == M) = true := by simpa using hxy
        rw [if_pos hxy] at HC
        generalize cmt M s ns k = c0 at *
        clear hxy
        go_wp2_with fail
        refine (HMx.out _).mono ?_
        rintro e w1 ⟨rfl, hw1⟩
        subst w1
        go_wp2_with fail
        refine (HT.out _).mono ?_
        rintro e w1 ⟨rfl, hw1⟩
        subst w1
        go_wp2_with fail
        go_roundw
        case rel => exact ⟨k + 1, by omega, by go_num, by rw [HC.out]; go_num, _, rfl⟩
        case measure => simp [intOf]; omega
      · have hxb : ((y : Int) == M) = false := by simpa using hxy
        rw [if_neg hxy] at HC
        generalize cmt M s ns k = c0 at *
        clear hxy
        go_wp2_with fail
        refine (HMx.out _).mono ?_
        rintro e w1 ⟨rfl, hw1⟩
        subst w1
        go_wp2_with fail
        refine (HT.out _).mono ?_
        rintro e w1 ⟨rfl, hw1⟩
        subst w1
        go_wp2_with fail
        go_roundw
        case rel => exact ⟨k + 1, by omega, by go_num, by rw [HC.out]; rfl, _, rfl⟩
        case measure => simp [intOf]; omega
    · obtain rfl : k = ns.length := by omega
      generalize hg : cmt M s ns ns.length = c0 at *
      have HG := Lib.hid hg
      clear hg
      by_cases h1 : c0 = 1
      · subst h1
        go_wp2_with fail
        refine (HD.out _ (show Rd (w.drewN d) _ _ from HR.out)).mono ?_
        rintro e w1 ⟨rfl, hw1⟩
        subst w1
        go_wp2_with fail
        go_ret
        exact ⟨by rw [HG.out]; simp, below_drewN (Below.refl _ _) d⟩
      · have hcb : ((c0 : Int) == 1) = false := by simp; omega
        have hcd : decide (c0 = 1) = false := decide_eq_false h1
        go_wp2_with fail
        go_ret
        exact ⟨by rw [HG.out, hcd]; rfl, below_drewN (Below.refl _ _) d⟩

/-- IsTeaching's answer -/
def iteB (n : Int) (zs : List Int) (t s : Int) : Bool := vldB n zs && (setB n.toNat s && tcB (zs.map Int.toNat) t s.toNat)
theorem iteB_bad {n : Int} {zs : List Int} {t s : Int} (h : vldB n zs = false) : iteB n zs t s = false := by rw [iteB, h]; rfl


end Go.Proofs.YtnoppclajhfnjaaDoor
