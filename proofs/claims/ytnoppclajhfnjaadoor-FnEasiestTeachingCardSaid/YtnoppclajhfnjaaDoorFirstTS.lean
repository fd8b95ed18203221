/- FirstTeaching and TeachingNumber, the model's. Conditions: Sets is a slice of ints. -/
import Derived.Test.YtnoppclajhfnjaaDoorFirstT
namespace Go.Proofs.YtnoppclajhfnjaaDoor
open Go.RowKit

theorem bst_lt {p : Nat → Bool} {m : Nat} (k : Nat) (hk : k ≤ 2 ^ m) : bstN p (2 ^ m - 1) k < 2 ^ m := by
  have hp := Nat.two_pow_pos m
  induction k with
  | zero => show 2 ^ m - 1 < 2 ^ m; omega
  | succ k ih =>
    rw [bstN_succ]
    split
    · omega
    · exact ih (by omega)

set_option maxRecDepth 100000 in
set_option maxHeartbeats 3200000 in
theorem specFstT (m : Nat) (hm : m ≤ 5) (v : Value) (ns : List Nat) (t : Nat) (w : World) (ht : t ∈ ns) (h32 : ∀ u ∈ ns, u < 32) (hlen : ns.length ≤ 1048576) (h : Rd w v (toI ns)) :
    Calls Tryd.prog 90 #[v, .int .i64 (m : Int), .int .i64 (t : Int)] w fun e w' => e = .returned (.int .i64 ((ftN m t ns : Nat) : Int)) ∧ Below w.heap.size w w' := by
  have HR := Lib.hid h
  have HX := Lib.hid (fun (s : Nat) (hs : s < 32) w0 h0 => specTeaches v ns (t : Int) s w0 h32 hlen hs h0)
  have HB := Lib.hid (show ∀ s, tcB ns (t : Int) s = tch t s ns from fun s => by rw [tcB, hasB_nat, decide_eq_true ht, Int.toNat_natCast]; rfl)
  have h5 := pow_le_32 hm
  have hp := Nat.two_pow_pos m
  have HP := Lib.hid (fun w0 => (specPower (m : Int) w0 (by omega) (by omega)).mono fun e w' h => And.intro h.1 h.2.symm)
  obtain ⟨q, hq⟩ : ∃ q : Nat, q = 2 ^ m := ⟨_, rfl⟩
  have hqI : (2 : Int) ^ m = (q : Int) := by rw [hq]; simp
  rw [Int.toNat_natCast, hqI] at HP
  have HS := Lib.hid (fun (s : Nat) (hs : s < 32) w0 => (specSize s hs w0).mono fun e w' h => And.intro h.1 h.2.symm)
  have HL := Lib.hid (fun k (hk : k ≤ q) => bst_lt (m := m) (p := fun s => tch t s ns) k (by omega))
  have HN := Lib.hid (show ftN m t ns = bstN (fun s => tch t s ns) (q - 1) q by rw [hq]; rfl)
  rw [HN.out]
  rw [← hq] at HL h5 hp
  have HU := Lib.hid (fun k => bstN_succ (fun s => tch t s ns) (q - 1) k)
  have hw1 : IntKind.i64.wrap ((q : Int) - 1) = (q : Int) - 1 := by rw [IntKind.wrap_i64]; omega
  have H0 := Lib.hid (show ((bstN (fun s => tch t s ns) (q - 1) 0 : Nat) : Int) = (q : Int) - 1 by show ((q - 1 : Nat) : Int) = _; omega)
  clear hq hqI ht h32 hlen h HN hm
  go_enter Tryd.func90, Tryd.ntmps90
  go_wp2_with fail
  refine (HP.out _).mono ?_
  rintro e w1 ⟨rfl, hw⟩
  subst w1
  go_wp2_with fail
  go_loopw [7, 8] (fun b i wr => ∃ k : Nat, k ≤ q ∧ i = .int .i64 k ∧ b = .int .i64 ((bstN (fun s => tch t s ns) (q - 1) k : Nat) : Int) ∧ Below w.heap.size w wr) (fun _ i _ => q - (intOf i).toNat)
  case atStart => exact ⟨0, Nat.zero_le _, rfl, by rw [H0.out], Below.refl _ _⟩
  case round =>
    obtain ⟨k, hk, rfl, rfl, hbe⟩ := hrel
    have HBE := Lib.hid hbe
    clear hbe
    by_cases hlt : k < q
    · have hkI : (k : Int) < (q : Int) := by omega
      have HXk := Lib.hid (HX.out k (by omega))
      rw [HB.out] at HXk
      have HUk := Lib.hid (HU.out k)
      have hb32 := HL.out k hk
      have HSk := Lib.hid (HS.out k (by omega))
      have HSb := Lib.hid (HS.out (bstN (fun s => tch t s ns) (q - 1) k) (by omega))
      have hpk := pc_le5 k
      generalize bstN (fun s => tch t s ns) (q - 1) k = b at *
      go_wp2_with fail
      refine (HP.out _).mono ?_
      rintro e w9 ⟨rfl, hw9⟩
      subst w9
      go_wp2_with fail
      by_cases hx : tch t k ns = true
      · rw [hx] at HXk
        refine (HXk.out _ (HR.out.below HBE.out (Nat.le_refl _))).mono ?_
        rintro e w2 ⟨rfl, hb2⟩
        have HB2 := Lib.hid (HBE.out.trans (hb2.mono HBE.out.size))
        clear hb2
        by_cases hc : pc k < pc b
        · have HE := Lib.hid (HUk.out.trans (if_pos ⟨hx, hc⟩))
          have hcI : (pc k : Int) < (pc b : Int) := by omega
          generalize pc k = pk at *
          generalize pc b = pb at *
          go_wp2_with fail
          refine (HSk.out _).mono ?_
          rintro e w9 ⟨rfl, hw9⟩
          subst w9
          go_wp2_with fail
          refine (HSb.out _).mono ?_
          rintro e w9 ⟨rfl, hw9⟩
          subst w9
          go_wp2_with fail
          go_roundw
          case rel => exact ⟨k + 1, by omega, by go_num, by rw [HE.out], HB2.out⟩
          case measure => simp [intOf]; omega
        · have HE := Lib.hid (HUk.out.trans (if_neg (fun h => hc h.2)))
          have hcI : ¬ (pc k : Int) < (pc b : Int) := by omega
          generalize pc k = pk at *
          generalize pc b = pb at *
          go_wp2_with fail
          refine (HSk.out _).mono ?_
          rintro e w9 ⟨rfl, hw9⟩
          subst w9
          go_wp2_with fail
          refine (HSb.out _).mono ?_
          rintro e w9 ⟨rfl, hw9⟩
          subst w9
          go_wp2_with fail
          go_roundw
          case rel => exact ⟨k + 1, by omega, by go_num, by rw [HE.out], HB2.out⟩
          case measure => simp [intOf]; omega
      · have HE := Lib.hid (HUk.out.trans (if_neg (fun h => hx h.1)))
        rw [Bool.not_eq_true] at hx
        rw [hx] at HXk
        refine (HXk.out _ (HR.out.below HBE.out (Nat.le_refl _))).mono ?_
        rintro e w2 ⟨rfl, hb2⟩
        have HB2 := Lib.hid (HBE.out.trans (hb2.mono HBE.out.size))
        clear hb2
        go_wp2_with fail
        go_roundw
        case rel => exact ⟨k + 1, by omega, by go_num, by rw [HE.out], HB2.out⟩
        case measure => simp [intOf]; omega
    · obtain rfl : k = q := by omega
      go_wp2_with fail
      refine (HP.out _).mono ?_
      rintro e w9 ⟨rfl, hw9⟩
      subst w9
      go_wp2_with fail
      go_ret
      exact ⟨rfl, HBE.out⟩

set_option maxRecDepth 100000 in
set_option maxHeartbeats 1600000 in
theorem specEffort (m : Nat) (hm : m ≤ 5) (v : Value) (ns : List Nat) (t : Nat) (w : World) (ht : t ∈ ns) (h32 : ∀ u ∈ ns, u < 32) (hlen : ns.length ≤ 1048576) (h : Rd w v (toI ns)) :
    Calls Tryd.prog 113 #[v, .int .i64 (m : Int), .int .i64 (t : Int)] w fun e w' => e = .returned (.int .i64 ((pc (ftN m t ns) : Nat) : Int)) ∧ Below w.heap.size w w' := by
  have HF := Lib.hid (specFstT m hm v ns t w ht h32 hlen h)
  have hb := bst_lt (p := fun s => tch t s ns) (m := m) (2 ^ m) (Nat.le_refl _)
  have h5 := pow_le_32 hm
  have hl : ftN m t ns < 32 := by
    have : ftN m t ns < 2 ^ m := hb
    omega
  have HS := Lib.hid (fun w0 => specSize (ftN m t ns) hl w0)
  clear hb hl
  generalize ftN m t ns = x at *
  go_enter Tryd.func113, Tryd.ntmps113
  go_wp2_with fail
  refine HF.out.mono ?_
  rintro e w1 ⟨rfl, hb⟩
  go_wp2_with fail
  refine (HS.out _).mono ?_
  rintro e w2 ⟨rfl, rfl⟩
  go_wp2_with fail
  go_ret
  exact ⟨rfl, hb⟩



end Go.Proofs.YtnoppclajhfnjaaDoor
