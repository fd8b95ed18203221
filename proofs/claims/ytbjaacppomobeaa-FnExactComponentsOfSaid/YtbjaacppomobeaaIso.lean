/- IsIsometric, the program's and the model's. Conditions: Sets is a slice of ints. -/
import Derived.Test.YtbjaacppomobeaaDisE
import Derived.Test.YtbjaacppomobeaaZC
namespace Go.Proofs.Ytbjaacppomobeaa
open Go.RowKit

/-- the steps from the first i places are as few as the points that differ, and those from the i-th one to the first k -/
def isoTo (ns : List Nat) (i k : Nat) : Prop := (∀ a, a < i → ∀ b, b < ns.length → Dst (nR ns) a b ((pc (ns.getD a 0 ^^^ ns.getD b 0) : Nat) : Int)) ∧ ∀ b, b < k → Dst (nR ns) i b ((pc (ns.getD i 0 ^^^ ns.getD b 0) : Nat) : Int)
theorem isoTo.zero (ns : List Nat) : isoTo ns 0 0 := ⟨fun a ha => by omega, fun b hb => by omega⟩
theorem isoTo.step {ns : List Nat} {i k : Nat} (h : isoTo ns i k) (hd : Dst (nR ns) i k ((pc (ns.getD i 0 ^^^ ns.getD k 0) : Nat) : Int)) : isoTo ns i (k + 1) :=
  ⟨h.1, fun b hb => by
    by_cases e : b = k
    · subst e; exact hd
    · exact h.2 b (by omega)⟩
theorem isoTo.next {ns : List Nat} {i : Nat} (h : isoTo ns i ns.length) : isoTo ns (i + 1) 0 :=
  ⟨fun a ha b hb => by
    by_cases e : a = i
    · subst e; exact h.2 b hb
    · exact h.1 a (by omega) b hb, fun b hb => by omega⟩
/-- R tells whether they all are -/
def Iso (ns : List Nat) (R : Bool) : Prop := R = true ↔ ∀ a, a < ns.length → ∀ b, b < ns.length → Dst (nR ns) a b ((pc (ns.getD a 0 ^^^ ns.getD b 0) : Nat) : Int)
theorem Iso.no {ns : List Nat} {R : Bool} (h : Iso ns R) {i k : Nat} (hi : i < ns.length) (hk : k < ns.length) {d : Int} (hd : Dst (nR ns) i k d) (hne : ¬ d = ((pc (ns.getD i 0 ^^^ ns.getD k 0) : Nat) : Int)) : R = false := by
  cases R with
  | false => rfl
  | true => exact absurd (hd.uniq (h.1 rfl i hi k hk)) hne
theorem Iso.yes {ns : List Nat} {R : Bool} (h : Iso ns R) (hd : isoTo ns ns.length 0) : R = true := h.2 hd.1
theorem iso_ex (ns : List Nat) : ∃ R, Iso ns R := by
  by_cases h : ∀ a, a < ns.length → ∀ b, b < ns.length → Dst (nR ns) a b ((pc (ns.getD a 0 ^^^ ns.getD b 0) : Nat) : Int)
  · exact ⟨true, ⟨fun _ => h, fun _ => rfl⟩⟩
  · exact ⟨false, ⟨fun k => (by cases k), fun k => absurd k h⟩⟩

set_option maxHeartbeats 6400000 in
set_option maxRecDepth 100000 in
theorem specIsoIn (m : Nat) (ns : List Nat) (R : Bool) (v : Value) (w : World) (hc : Cls m ns) (hv : vldB m (toI ns) = true) (hR : Iso ns R) (h : Rd w v (toI ns)) :
    Calls Try.prog 59 #[.agg #[.int .i64 m, v]] w fun e w' => e = .returned (.bool R) ∧ Below w.heap.size w w' := by
  have H := Lib.hid h
  obtain ⟨a, b, off, cap, rfl, h1, h3, h5⟩ := h
  rw [toI_length] at H h1 h3 h5 ⊢
  have H1 := Lib.hid h1
  have H5 := Lib.hid h5
  have HV := Lib.hid (fun w h => specValid m (.slice a ns.length cap) (toI ns) w h)
  rw [hv] at HV
  have HS := Lib.hid (fun i hi w h => specSteps (.slice a ns.length cap) ns i w hc.length hc.lt32 hi h)
  have HR := Lib.hid hR
  have H32 := Lib.hid hc.lt32
  have hl := hc.length
  have B0 := Lib.hid (Box.made m (.slice a ns.length cap) w 28)
  clear h1 h5 hv hc hR
  go_enter Try.func59, Try.ntmps59
  go_wp2_with fail
  refine (HV.out _ (H.out.below (k := w.heap.size) (by go_grown) (Nat.le_refl _))).mono ?_
  rintro e w1 ⟨rfl, hb⟩
  have B1 := Lib.hid (B0.out.next (by simp) hb)
  have hs1 : w.heap.size < w1.heap.size := by have := hb.size; simp at this; omega
  clear hb B0
  have c0 := B1.out.at0
  have c1 := B1.out.at1
  go_wp2_with fail
  clear c0 c1
  go_loopw [3] (fun q wr => ∃ i : Nat, i ≤ ns.length ∧ q = .int .i64 i ∧ Hid (isoTo ns i 0) ∧ Below w1.heap.size w1 wr) (fun q _ => ns.length - (intOf q).toNat)
  case atStart => exact ⟨0, Nat.zero_le _, rfl, Lib.hid (isoTo.zero ns), Below.refl _ _⟩
  case round =>
    obtain ⟨i, hi, rfl, IS, hbe⟩ := hrel
    have B2 := Lib.hid (B1.out.next hs1 hbe)
    have BE := Lib.hid hbe
    have hz2 := hbe.size
    have c1 := B2.out.at1
    clear hbe
    by_cases hil : i < ns.length
    · obtain ⟨rfl, hbl⟩ := H1.out (by omega)
      have hxm := getD_of_lt hil
      have hx32 := H32.out _ hxm
      have hcx := (B2.out.below.cell (p := ⟨b, off + i, none⟩) hbl).trans (H5.out i hil)
      rw [toI_getD] at hcx
      have HCX := Lib.hid hcx
      have hiI : (i : Int) < (ns.length : Int) := by omega
      clear hcx hxm
      go_wp2_with fail
      refine (HS.out i hil _ (H.out.below B2.out.below (Nat.le_refl _))).mono ?_
      rintro e w3 ⟨st, a3, c3, rfl, hin3, hst, hb3⟩
      obtain ⟨g3, rfl, -, hg3⟩ := hin3.someAt (by omega)
      have I3 := Lib.hid hin3
      have ST := Lib.hid hst
      have BE3 := Lib.hid (BE.out.trans (hb3.mono (by omega)))
      have B3 := Lib.hid (B2.out.next (by omega) hb3)
      have HCX3 := Lib.hid ((hb3.cell (p := ⟨b, off + i, none⟩) (by show b < wr.heap.size; omega)).trans HCX.out)
      have hz3 := hb3.size
      clear hin3 hst hb3 c1
      go_wp2_with fail
      go_loopw [5] (fun q wq => ∃ k : Nat, k ≤ ns.length ∧ q = .int .i64 k ∧ Hid (isoTo ns i k) ∧ Below w3.heap.size w3 wq) (fun q _ => ns.length - (intOf q).toNat)
      case atStart => exact ⟨0, Nat.zero_le _, rfl, IS, Below.refl _ _⟩
      case round =>
        obtain ⟨k, hk, rfl, IK, hbq⟩ := hrel
        have BQ := Lib.hid hbq
        have B4 := Lib.hid (B3.out.next (by omega) hbq)
        have c1 := B4.out.at1
        have hzq := hbq.size
        by_cases hkl : k < ns.length
        · have hym := getD_of_lt hkl
          have hy32 := H32.out _ hym
          have hcy := (B4.out.below.cell (p := ⟨b, off + k, none⟩) hbl).trans (H5.out k hkl)
          rw [toI_getD] at hcy
          have hcx := (hbq.cell (p := ⟨b, off + i, none⟩) (by show b < w3.heap.size; omega)).trans HCX3.out
          have hct := ((I3.out.below hbq (Nat.le_refl _)).cellAt k (by rw [mkL_len]; exact hkl)).1
          rw [mkL_at st hkl] at hct
          have hkI : (k : Int) < (ns.length : Int) := by omega
          have HD := Lib.hid (ST.out k)
          have HNo := Lib.hid (fun hne => HR.out.no hil hkl (ST.out k) hne)
          have HSt := Lib.hid (fun hd => IK.out.step hd)
          clear hbq hym
          generalize st k = z at *
          generalize ns.getD i 0 = x at *
          generalize ns.getD k 0 = y at *
          have hz32 : x ^^^ y < 32 := Nat.xor_lt_two_pow (n := 5) hx32 hy32
          have HF := Lib.hid (fun w => specFlip x y (by omega) (by omega) w)
          have HZ := Lib.hid (fun w => (specSize (x ^^^ y) hz32 w).mono fun e w' h => And.intro h.1 h.2.symm)
          generalize hpp : pc (x ^^^ y) = p at *
          by_cases hzp : z = (p : Int)
          · have HSn := Lib.hid (HSt.out (by rw [← hzp]; exact HD.out))
            subst hzp
            clear hpp HNo HSt
            go_wp2_with fail
            go_region_held3 (fun w' => w'.cell? ⟨w.heap.size, 1, none⟩ = some (.slice (some ⟨b, off, none⟩) ns.length cap) ∧ w'.cell? ⟨b, off + i, none⟩ = some (.int .i64 (x : Int)) ∧ w'.cell? ⟨b, off + k, none⟩ = some (.int .i64 (y : Int)) ∧ w'.cell? ⟨g3, k, none⟩ = some (.int .i64 (p : Int))) (first | exact ⟨c1, hcx, hcy, hct⟩ | go_keep) (first
              | (go_at_call 90; refine (HF.out _).mono ?_; rintro e w9 ⟨rfl, hw9⟩; subst w9)
              | (go_at_call 89; refine (HZ.out _).mono ?_; rintro e w9 ⟨rfl, hw9⟩; subst w9))
            go_wp2_with fail
            go_roundw
            case rel => exact ⟨k + 1, by omega, by go_num, HSn, BQ.out.drew⟩
            case measure => simp [intOf]; omega
          · have hRf := HNo.out hzp
            subst hRf
            have hzb : (z != (p : Int)) = true := by simp; exact hzp
            clear hpp HNo HSt
            go_wp2_with fail
            go_region_held3 (fun w' => w'.cell? ⟨w.heap.size, 1, none⟩ = some (.slice (some ⟨b, off, none⟩) ns.length cap) ∧ w'.cell? ⟨b, off + i, none⟩ = some (.int .i64 (x : Int)) ∧ w'.cell? ⟨b, off + k, none⟩ = some (.int .i64 (y : Int)) ∧ w'.cell? ⟨g3, k, none⟩ = some (.int .i64 z)) (first | exact ⟨c1, hcx, hcy, hct⟩ | go_keep) (first
              | (go_at_call 90; refine (HF.out _).mono ?_; rintro e w9 ⟨rfl, hw9⟩; subst w9)
              | (go_at_call 89; refine (HZ.out _).mono ?_; rintro e w9 ⟨rfl, hw9⟩; subst w9))
            go_wp2_with fail
            go_ret
            exact ⟨rfl, B4.out.below.drew⟩
        · obtain rfl : k = ns.length := by omega
          clear hbq
          have IN := Lib.hid (IK.out.next)
          go_wp2_with fail
          go_roundw
          case rel => exact ⟨i + 1, by omega, by go_num, IN, BE3.out.trans (BQ.out.mono (by omega))⟩
          case measure => simp [intOf]; omega
    · obtain rfl : i = ns.length := by omega
      have hRt := HR.out.yes IS.out
      subst hRt
      go_wp2_with fail
      go_ret
      exact ⟨rfl, B2.out.below⟩

end Go.Proofs.Ytbjaacppomobeaa
