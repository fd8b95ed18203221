/- The model's number below a million, and readNumber. Conditions: below a million; at most 1048576 bytes. -/
import Derived.Test.YtkamocciaaapmaaDoorTxt
namespace Go.Proofs.YtkamocciaaapmaaDoor
open Go.RowKit

theorem dig_len6 : ∀ (d i : Nat), i < 10 ^ (d + 1) → (Lib.decDigits i).length ≤ d + 1
  | 0, i, h => by rw [dig10 i (by simpa using h)]; simp
  | d + 1, i, h => by
    by_cases h1 : i < 10
    · rw [dig10 i h1]; simp
    · have h2 := dig_len6 d (i / 10) (by rw [Nat.div_lt_iff_lt_mul (by omega)]; rw [Nat.pow_succ] at h; omega)
      rw [dig100 i h1, List.length_append, dig10 (i % 10) (by omega)]
      simp only [List.length_cons, List.length_nil]
      omega

set_option maxRecDepth 100000 in
theorem specNumberAll : ∀ (d i : Nat), d ≤ 6 → i < 10 ^ (d + 1) → ∀ (w : World),
    Calls Tryd.prog 41 #[.int .i64 i] w fun e w' => e = .returned (tx (Lib.decDigits i)) ∧ w' = w
  | 0, i, _, h, w => specNumber10 i (by simpa using h) w
  | d + 1, i, hd6, h, w => by
    by_cases h0 : i < 10
    · exact specNumber10 i h0 w
    · have h1 : ¬ (i : Int) < 10 := by omega
      have h10 : i < 10 ^ 8 := Nat.lt_of_lt_of_le h (Nat.pow_le_pow_right (by omega) (by omega))
      have h8 : (10 : Nat) ^ 8 = 100000000 := rfl
      obtain ⟨p, hp⟩ : ∃ p, p = i / 10 := ⟨_, rfl⟩
      obtain ⟨q, hq⟩ : ∃ q, q = i % 10 := ⟨_, rfl⟩
      have hp10 : p < 10 ^ (d + 1) := by rw [hp, Nat.div_lt_iff_lt_mul (by omega)]; rw [Nat.pow_succ] at h; omega
      have hq10 : q < 10 := by omega
      have hd : Int.tdiv (i : Int) 10 = (p : Int) := by rw [hp]; rfl
      have hm : Int.tmod (i : Int) 10 = (q : Int) := by rw [hq]; rfl
      have hwp : IntKind.i64.wrap (p : Int) = (p : Int) := by rw [IntKind.wrap_i64]; omega
      have hwq : IntKind.i64.wrap (q : Int) = (q : Int) := by rw [IntKind.wrap_i64]; omega
      have HD := Lib.hid (show Lib.decDigits i = Lib.decDigits p ++ Lib.decDigits q by rw [hp, hq]; exact dig100 i h0)
      have hlp := dig_len6 d p hp10
      have hno : ¬ 9223372036854775807 < (Lib.decDigits p).length + (Lib.decDigits q).length := by rw [dig10 q hq10]; simp; omega
      have HP := Lib.hid (specNumberAll d p (by omega) hp10)
      clear hp hq h0 h h10 h8 hp10 hlp
      go_enter Tryd.func41, Tryd.ntmps41
      go_wp2_with fail
      refine (HP.out _).mono ?_
      rintro e w1 ⟨rfl, rfl⟩
      go_wp2_with fail
      refine (specNumber10 q hq10 _).mono ?_
      rintro e w1 ⟨rfl, rfl⟩
      go_wp2_with fail
      go_ret
      rw [HD.out]
      exact ⟨congrArg (fun x => Ending.returned (Value.string x)) (ByteArray.mk_append_mk _ _), rfl⟩

/-- the loop of readNumber over the first k bytes: the number, none where it gives up -/
def rdTo (l : List UInt8) : Nat → Option Nat
  | 0 => some 0
  | k + 1 => match rdTo l k with
    | none => none
    | some n => if (l.getD k 0).toNat < 48 ∨ 57 < (l.getD k 0).toNat ∨ 1000 < n then none else some (10 * n + ((l.getD k 0).toNat - 48))
theorem rdTo_le (l : List UInt8) : ∀ k n, rdTo l k = some n → n ≤ 10009
  | 0, n, h => by simp [rdTo] at h; omega
  | k + 1, n, h => by
    rw [rdTo] at h
    split at h
    · cases h
    · split at h
      · cases h
      · simp only [Option.some.injEq] at h; omega
theorem rdTo_none (l : List UInt8) {k : Nat} (h : rdTo l k = none) : ∀ j, rdTo l (k + j) = none
  | 0 => h
  | j + 1 => by rw [← Nat.add_assoc, rdTo, rdTo_none l h j]
/-- what readNumber answers -/
def rdN (s : ByteArray) : Int := match rdTo s.data.toList s.size with
  | none => -1
  | some n => if s = ⟨#[]⟩ ∨ ¬ nb n = s then -1 else n

set_option maxHeartbeats 1600000 in
set_option maxRecDepth 100000 in
theorem specReadNumber (s : ByteArray) (hs : s.size ≤ 1048576) (w : World) :
    Calls Tryd.prog 51 #[.string s] w fun e w' => e = .returned (.int .i64 (rdN s)) ∧ w' = w := by
  have HL := Lib.hid (rdTo_le s.data.toList)
  go_enter Tryd.func51, Tryd.ntmps51
  go_wp2_with fail
  go_loop [3, 4] (fun n i => ∃ k m : Nat, k ≤ s.size ∧ i = .int .i64 k ∧ rdTo s.data.toList k = some m ∧ n = .int .i64 m) (fun _ i => s.size - (intOf i).toNat)
  case atStart => exact ⟨0, 0, Nat.zero_le _, rfl, rfl, rfl⟩
  case round =>
    obtain ⟨k, m, hk, rfl, hm, rfl⟩ := hrel
    have HM := Lib.hid hm
    have hm9 := HL.out k m hm
    clear hm
    by_cases hlt : k < s.size
    · have hki : (k : Int) < (s.size : Int) := by omega
      have HB := Lib.hid (show s.data.toList.getD k 0 = s[k] from by
        rw [List.getD_eq_getElem?_getD, List.getElem?_eq_getElem (by rw [Array.length_toList]; exact hlt)]
        rfl)
      have HR := Lib.hid (show rdTo s.data.toList (k + 1) = if s[k].toNat < 48 ∨ 57 < s[k].toNat ∨ 1000 < m then none else some (10 * m + (s[k].toNat - 48)) by rw [rdTo, HM.out, HB.out])
      have HNO := Lib.hid (fun (h : rdTo s.data.toList (k + 1) = none) => show rdN s = -1 by
        have h2 := rdTo_none _ h (s.size - (k + 1))
        rw [show k + 1 + (s.size - (k + 1)) = s.size by omega] at h2
        rw [rdN, h2])
      by_cases h1 : s[k].toNat < 48
      · have h1I : (s[k].toNat : Int) < 48 := by omega
        have HF := Lib.hid (HNO.out (by rw [HR.out, if_pos (Or.inl h1)]))
        clear HR HNO
        go_wp2_with fail
        go_ret
        rw [HF.out]
        exact ⟨rfl, rfl⟩
      · have h1I : ¬ (s[k].toNat : Int) < 48 := by omega
        by_cases h2 : 57 < s[k].toNat
        · have h2I : (57 : Int) < (s[k].toNat : Int) := by omega
          have HF := Lib.hid (HNO.out (by rw [HR.out, if_pos (Or.inr (Or.inl h2))]))
          clear HR HNO
          go_wp2_with fail
          go_ret
          rw [HF.out]
          exact ⟨rfl, rfl⟩
        · have h2I : ¬ (57 : Int) < (s[k].toNat : Int) := by omega
          by_cases h3 : 1000 < m
          · have h3I : (1000 : Int) < (m : Int) := by omega
            have HF := Lib.hid (HNO.out (by rw [HR.out, if_pos (Or.inr (Or.inr h3))]))
            clear HR HNO
            go_wp2_with fail
            go_ret
            rw [HF.out]
            exact ⟨rfl, rfl⟩
          · have h3I : ¬ (1000 : Int) < (m : Int) := by omega
            have HF := Lib.hid (show rdTo s.data.toList (k + 1) = some (10 * m + (s[k].toNat - 48)) by rw [HR.out, if_neg (by omega)])
            clear HR HNO
            go_wp2_with fail
            go_round
            case rel => exact ⟨k + 1, _, by omega, by go_num, HF.out, by congr 1; omega⟩
            case measure => simp [intOf]; omega
    · obtain rfl : k = s.size := by omega
      have hRD : rdN s = if s = ⟨#[]⟩ ∨ ¬ nb m = s then -1 else (m : Int) := by rw [rdN, HM.out]
      have HNx := Lib.hid (show ∀ w, Calls Tryd.prog 41 #[.int .i64 m] w fun e w' => e = .returned (.string (nb m)) ∧ w' = w from specNumberAll 5 m (by omega) (by have : (10 : Nat) ^ (5 + 1) = 1000000 := rfl; omega))
      by_cases he : s = ⟨#[]⟩
      · have HF := Lib.hid (show rdN s = -1 by rw [hRD, if_pos (Or.inl he)])
        have hd : s.toList.isEmpty = true := (decide_eq_emptyBytes s).symm.trans (decide_eq_true (show s = ByteArray.empty from he))
        clear hRD he
        go_wp2_with fail
        go_ret
        rw [HF.out]
        exact ⟨rfl, rfl⟩
      · have hd : s.toList.isEmpty = false := (decide_eq_emptyBytes s).symm.trans (decide_eq_false (show ¬ s = ByteArray.empty from he))
        by_cases hn : nb m = s
        · have HF := Lib.hid (show rdN s = m by rw [hRD, if_neg (by rintro (h | h); exact he h; exact h hn)])
          have hq : ((nb m).toList == s.toList) = true := by rw [hn]; exact beq_self_eq_true _
          clear hRD he hn
          go_wp2_with fail
          refine (HNx.out _).mono ?_
          rintro e w1 ⟨rfl, rfl⟩
          go_wp2_with fail
          go_ret
          rw [HF.out]
          exact ⟨rfl, rfl⟩
        · have HF := Lib.hid (show rdN s = -1 by rw [hRD, if_pos (Or.inr hn)])
          have hq : ((nb m).toList == s.toList) = false := beq_eq_false_iff_ne.2 (fun h => hn (by rw [ByteArray.toList_eq, ByteArray.toList_eq] at h; exact ByteArray.ext (Array.toList_inj.1 h)))
          clear hRD he hn
          go_wp2_with fail
          refine (HNx.out _).mono ?_
          rintro e w1 ⟨rfl, rfl⟩
          go_wp2_with fail
          go_ret
          rw [HF.out]
          exact ⟨rfl, rfl⟩

end Go.Proofs.YtkamocciaaapmaaDoor
