/- A star: others differ at each point of s, and at it alone, from t: the model's test. Conditions: small numbers. -/
import Derived.Test.YtnmilfkocheaiaaGreatDoorZA
import Derived.Test.YtnmilfkocheaiaaGreatDoorZB
import Derived.Test.YtnmilfkocheaiaaGreatDoorZH
namespace Go.Proofs.YtnmilfkocheaiaaGreatDoor
open Go.RowKit

/-- does no other set differ from t at x alone, of the points of s? -/
def stP (ns : List Nat) (t s x : Nat) : Bool := hasX x s && !decide ((t &&& s) ^^^ 2 ^ x ∈ tr ns s)
def stTo (ns : List Nat) (t s k : Nat) : Bool := (List.range k).any (stP ns t s)
theorem stTo_succ (ns : List Nat) (t s k : Nat) : stTo ns t s (k + 1) = (stTo ns t s k || stP ns t s k) := by simp [stTo, List.range_succ]
theorem stTo_stop {ns : List Nat} {t s k m : Nat} (hk : k < m) (h : stP ns t s k = true) : stTo ns t s m = true := by
  rw [stTo, List.any_eq_true]
  exact ⟨k, List.mem_range.2 hk, h⟩
theorem meet_lt (a b : Nat) (ha : a < 32) : a &&& b < 32 := Nat.lt_of_le_of_lt Nat.and_le_left ha

set_option maxRecDepth 100000 in
set_option maxHeartbeats 6400000 in
theorem specIsStar (m : Nat) (hm : m ≤ 5) (v : Value) (ns : List Nat) (t s : Nat) (ht : t < 32) (hs : s < 32) (w : World) (h32 : ∀ u ∈ ns, u < 32) (hlen : ns.length ≤ 1048576) (h : Rd w v (toI ns)) :
    Calls Tryz.prog 56 #[v, .int .i64 (t : Int), .int .i64 (s : Int), .int .i64 (m : Int)] w fun e w' => e = .returned (.bool (!stTo ns t s m)) ∧ Below w.heap.size w w' := by
  have H := Lib.hid h
  have HTr := Lib.hid (fun w0 h0 => specTrace v ns s w0 h32 hlen hs h0)
  have HMt := Lib.hid (fun w0 => specMeet t s (by omega) (by omega) w0)
  clear h h32 hlen
  go_enter Tryz.func56, Tryz.ntmps56
  go_wp2_with fail
  go_loopw [9] (fun i wr => ∃ k : Nat, k ≤ m ∧ i = .int .i64 k ∧ stTo ns t s k = false ∧ Below w.heap.size w wr) (fun i _ => m - (intOf i).toNat)
  case atStart => exact ⟨0, Nat.zero_le _, rfl, rfl, Below.refl _ _⟩
  case round =>
    obtain ⟨k, hk, rfl, hst, hbe⟩ := hrel
    have HST := Lib.hid hst
    have HBE := Lib.hid hbe
    have R4 := Lib.hid (H.out.below hbe (Nat.le_refl _))
    obtain ⟨w4, hw4⟩ : ∃ w4, w4 = wr := ⟨_, rfl⟩
    subst hw4
    clear hst hbe
    by_cases hlt : k < m
    · have hkI : (k : Int) < (m : Int) := by omega
      have HHk := Lib.hid (fun w0 => specHas s k (by omega) (by omega) w0)
      have HSS := Lib.hid (stTo_succ ns t s k)
      rw [HST.out, Bool.false_or] at HSS
      have HSP := Lib.hid (fun (h : stP ns t s k = true) => stTo_stop hlt h)
      cases hx : hasX k s with
      | false =>
        have HP0 := Lib.hid (show stP ns t s k = false by rw [stP, hx]; rfl)
        rw [hx] at HHk
        clear hx
        go_wp2_with fail
        refine (HHk.out _).mono ?_
        rintro e w98 ⟨rfl, hw98⟩
        subst w98
        go_wp2_with fail
        go_roundw
        case rel => exact ⟨k + 1, by omega, by go_num, by rw [HSS.out]; exact HP0.out, HBE.out⟩
        case measure => simp [intOf]; omega
      | true =>
        have hk5 : k < 5 := by omega
        have h2k : 2 ^ k < 4096 := Nat.lt_of_lt_of_le (Nat.pow_lt_pow_right (by omega) (show k < 12 by omega)) (by decide)
        have hts := meet_lt t s ht
        have HPk := Lib.hid (fun w0 => specPower (k : Int) w0 (by omega) (by omega))
        rw [Int.toNat_natCast, show (2 : Int) ^ k = ((2 ^ k : Nat) : Int) by simp] at HPk
        have HFk := Lib.hid (fun w0 => specFlip (t &&& s) (2 ^ k) (by omega) h2k w0)
        have HIk := Lib.hid (fun v0 w0 h0 => specHasInt v0 (toI (tr ns s)) (((t &&& s) ^^^ 2 ^ k : Nat) : Int) w0 h0)
        have hdec := hasB_nat (tr ns s) ((t &&& s) ^^^ 2 ^ k)
        have HP1 := Lib.hid (show stP ns t s k = !decide ((t &&& s) ^^^ 2 ^ k ∈ tr ns s) by rw [stP, hx, Bool.true_and])
        rw [hdec] at HIk
        rw [hx] at HHk
        clear hx hdec h2k hts
        cases hd : decide ((t &&& s) ^^^ 2 ^ k ∈ tr ns s) with
        | true =>
          rw [hd] at HIk HP1
          clear hd
          generalize (t &&& s) ^^^ 2 ^ k = f at *
          generalize t &&& s = ts at *
          generalize 2 ^ k = pk at *
          go_wp2_with fail
          refine (HHk.out _).mono ?_
          rintro e w98 ⟨rfl, hw98⟩
          subst w98
          go_wp2_with fail
          refine (HTr.out _ R4.out).mono ?_
          rintro e w5 ⟨a5, c5, rfl, hin5, hb5⟩
          have R5 := Lib.hid hin5.rd
          have H5 := Lib.hid (HBE.out.trans (hb5.mono HBE.out.size))
          clear hin5 hb5
          go_wp2_with fail
          refine (HMt.out _).mono ?_
          rintro e w97 ⟨rfl, hw97⟩
          subst w97
          go_wp2_with fail
          refine (HPk.out _).mono ?_
          rintro e w96 ⟨rfl, hw96⟩
          subst w96
          go_wp2_with fail
          refine (HFk.out _).mono ?_
          rintro e w95 ⟨rfl, hw95⟩
          subst w95
          go_wp2_with fail
          refine (HIk.out _ _ R5.out).mono ?_
          rintro e w94 ⟨rfl, hw94⟩
          subst w94
          go_wp2_with fail
          go_roundw
          case rel => exact ⟨k + 1, by omega, by go_num, by rw [HSS.out, HP1.out]; rfl, H5.out⟩
          case measure => simp [intOf]; omega
        | false =>
          rw [hd] at HIk HP1
          clear hd
          generalize (t &&& s) ^^^ 2 ^ k = f at *
          generalize t &&& s = ts at *
          generalize 2 ^ k = pk at *
          go_wp2_with fail
          refine (HHk.out _).mono ?_
          rintro e w98 ⟨rfl, hw98⟩
          subst w98
          go_wp2_with fail
          refine (HTr.out _ R4.out).mono ?_
          rintro e w5 ⟨a5, c5, rfl, hin5, hb5⟩
          have R5 := Lib.hid hin5.rd
          have H5 := Lib.hid (HBE.out.trans (hb5.mono HBE.out.size))
          clear hin5 hb5
          go_wp2_with fail
          refine (HMt.out _).mono ?_
          rintro e w97 ⟨rfl, hw97⟩
          subst w97
          go_wp2_with fail
          refine (HPk.out _).mono ?_
          rintro e w96 ⟨rfl, hw96⟩
          subst w96
          go_wp2_with fail
          refine (HFk.out _).mono ?_
          rintro e w95 ⟨rfl, hw95⟩
          subst w95
          go_wp2_with fail
          refine (HIk.out _ _ R5.out).mono ?_
          rintro e w94 ⟨rfl, hw94⟩
          subst w94
          go_wp2_with fail
          go_ret
          exact ⟨by rw [HSP.out (by rw [HP1.out]; rfl)]; rfl, H5.out⟩
    · obtain rfl : k = m := by omega
      go_wp2_with fail
      go_ret
      exact ⟨by rw [HST.out]; rfl, HBE.out⟩

    end Go.Proofs.YtnmilfkocheaiaaGreatDoor
