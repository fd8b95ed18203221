/- Numbers in decimal, as the model writes them. Conditions: below 100. -/
import Derived.Laws.Concat
import Derived.Test.YtkamocciaaapmaaDoorShelf
import Derived.Test.YtkamocciaaapmaaDoorZA
import Derived.Test.YtkamocciaaapmaaDoorZH
namespace Go.Proofs.YtkamocciaaapmaaDoor
open Go.RowKit

/-- the text of a list of bytes -/
abbrev tx (l : List UInt8) : Value := .string ⟨l.toArray⟩
theorem dig10 (i : Nat) (hi : i < 10) : Lib.decDigits i = [UInt8.ofNat (48 + i)] := by rw [Lib.decDigits, dif_pos hi]
theorem dig100 (i : Nat) (hi : ¬ i < 10) : Lib.decDigits i = Lib.decDigits (i / 10) ++ Lib.decDigits (i % 10) := by
  rw [Lib.decDigits, dif_neg hi, dig10 (i % 10) (by omega)]

set_option maxRecDepth 100000 in
theorem specNumber10 (i : Nat) (hi : i < 10) (w : World) :
    Calls Tryd.prog 41 #[.int .i64 i] w fun e w' => e = .returned (tx (Lib.decDigits i)) ∧ w' = w := by
  have h : i = 0 ∨ i = 1 ∨ i = 2 ∨ i = 3 ∨ i = 4 ∨ i = 5 ∨ i = 6 ∨ i = 7 ∨ i = 8 ∨ i = 9 := by omega
  rcases h with rfl | rfl | rfl | rfl | rfl | rfl | rfl | rfl | rfl | rfl
  · rw [dig10 0 (by omega)]
    show Calls Tryd.prog 41 #[.int .i64 0] _ _
    go_enter Tryd.func41, Tryd.ntmps41
    go_wp2_with fail
    go_ret
    exact ⟨rfl, rfl⟩
  · rw [dig10 1 (by omega)]
    show Calls Tryd.prog 41 #[.int .i64 1] _ _
    go_enter Tryd.func41, Tryd.ntmps41
    go_wp2_with fail
    go_ret
    exact ⟨rfl, rfl⟩
  · rw [dig10 2 (by omega)]
    show Calls Tryd.prog 41 #[.int .i64 2] _ _
    go_enter Tryd.func41, Tryd.ntmps41
    go_wp2_with fail
    go_ret
    exact ⟨rfl, rfl⟩
  · rw [dig10 3 (by omega)]
    show Calls Tryd.prog 41 #[.int .i64 3] _ _
    go_enter Tryd.func41, Tryd.ntmps41
    go_wp2_with fail
    go_ret
    exact ⟨rfl, rfl⟩
  · rw [dig10 4 (by omega)]
    show Calls Tryd.prog 41 #[.int .i64 4] _ _
    go_enter Tryd.func41, Tryd.ntmps41
    go_wp2_with fail
    go_ret
    exact ⟨rfl, rfl⟩
  · rw [dig10 5 (by omega)]
    show Calls Tryd.prog 41 #[.int .i64 5] _ _
    go_enter Tryd.func41, Tryd.ntmps41
    go_wp2_with fail
    go_ret
    exact ⟨rfl, rfl⟩
  · rw [dig10 6 (by omega)]
    show Calls Tryd.prog 41 #[.int .i64 6] _ _
    go_enter Tryd.func41, Tryd.ntmps41
    go_wp2_with fail
    go_ret
    exact ⟨rfl, rfl⟩
  · rw [dig10 7 (by omega)]
    show Calls Tryd.prog 41 #[.int .i64 7] _ _
    go_enter Tryd.func41, Tryd.ntmps41
    go_wp2_with fail
    go_ret
    exact ⟨rfl, rfl⟩
  · rw [dig10 8 (by omega)]
    show Calls Tryd.prog 41 #[.int .i64 8] _ _
    go_enter Tryd.func41, Tryd.ntmps41
    go_wp2_with fail
    go_ret
    exact ⟨rfl, rfl⟩
  · rw [dig10 9 (by omega)]
    show Calls Tryd.prog 41 #[.int .i64 9] _ _
    go_enter Tryd.func41, Tryd.ntmps41
    go_wp2_with fail
    go_ret
    exact ⟨rfl, rfl⟩

set_option maxRecDepth 100000 in
theorem specNumber (i : Nat) (hi : i < 100) (w : World) :
    Calls Tryd.prog 41 #[.int .i64 i] w fun e w' => e = .returned (tx (Lib.decDigits i)) ∧ w' = w := by
  by_cases h : i < 10
  · exact specNumber10 i h w
  · have h1 : ¬ (i : Int) < 10 := by omega
    obtain ⟨p, hp⟩ : ∃ p, p = i / 10 := ⟨_, rfl⟩
    obtain ⟨q, hq⟩ : ∃ q, q = i % 10 := ⟨_, rfl⟩
    have hp10 : p < 10 := by omega
    have hq10 : q < 10 := by omega
    have hd : Int.tdiv (i : Int) 10 = (p : Int) := by rw [hp]; rfl
    have hm : Int.tmod (i : Int) 10 = (q : Int) := by rw [hq]; rfl
    have hwp : IntKind.i64.wrap (p : Int) = (p : Int) := by rw [IntKind.wrap_i64]; omega
    have hwq : IntKind.i64.wrap (q : Int) = (q : Int) := by rw [IntKind.wrap_i64]; omega
    have HD := Lib.hid (show Lib.decDigits i = Lib.decDigits p ++ Lib.decDigits q by rw [hp, hq]; exact dig100 i h)
    have hno : ¬ 9223372036854775807 < (Lib.decDigits p).length + (Lib.decDigits q).length := by rw [dig10 p hp10, dig10 q hq10]; simp
    clear hp hq h
    go_enter Tryd.func41, Tryd.ntmps41
    go_wp2_with fail
    refine (specNumber10 p hp10 _).mono ?_
    rintro e w1 ⟨rfl, rfl⟩
    go_wp2_with fail
    refine (specNumber10 q hq10 _).mono ?_
    rintro e w1 ⟨rfl, rfl⟩
    go_wp2_with fail
    go_ret
    rw [HD.out]
    exact ⟨congrArg (fun x => Ending.returned (Value.string x)) (ByteArray.mk_append_mk _ _), rfl⟩

theorem dig_len (i : Nat) (hi : i < 100) : (Lib.decDigits i).length ≤ 2 := by
  by_cases h : i < 10
  · rw [dig10 i h]; simp
  · rw [dig100 i h, dig10 (i / 10) (by omega), dig10 (i % 10) (by omega)]; simp
/-- a number's text -/
def nb (i : Nat) : ByteArray := ⟨(Lib.decDigits i).toArray⟩
theorem nb_size (i : Nat) (hi : i < 100) : (nb i).size ≤ 2 := by
  have := dig_len i hi
  simpa [nb, ByteArray.size] using this
/-- a class's text as far as its first j sets -/
def ctT (m : Nat) (ns : List Nat) : Nat → ByteArray
  | 0 => nb m ++ ⟨#[58]⟩
  | j + 1 => (if 0 < j then ctT m ns j ++ ⟨#[44]⟩ else ctT m ns j) ++ nb (ns.getD j 0)
theorem ctT_size {m : Nat} {ns : List Nat} (hm : m < 100) (h : ∀ t ∈ ns, t < 100) : ∀ j, j ≤ ns.length → (ctT m ns j).size ≤ 3 + 3 * j
  | 0, _ => by
    have := nb_size m hm
    rw [ctT, ByteArray.size_append]
    show _ + 1 ≤ _
    omega
  | j + 1, hj => by
    have h1 := ctT_size hm h j (by omega)
    have h2 := nb_size (ns.getD j 0) (h _ (getD_of_lt (by omega)))
    rw [ctT, ByteArray.size_append]
    split
    · rw [ByteArray.size_append]
      have : (⟨#[44]⟩ : ByteArray).size = 1 := rfl
      omega
    · omega

set_option maxHeartbeats 1600000 in
set_option maxRecDepth 100000 in
theorem specClassTextIn (m : Nat) (v : Value) (ns : List Nat) (w : World) (h : Rd w v (toI ns)) (hm : m < 100) (hns : ∀ t ∈ ns, t < 100) (hl : ns.length ≤ 100) :
    Calls Tryd.prog 22 #[.agg #[.int .i64 m, v]] w fun e w' => e = .returned (.string (ctT m ns ns.length)) ∧ Below w.heap.size w w' := by
  obtain ⟨a, b, off, cap, rfl, h1, h3, h5⟩ := h
  rw [toI_length] at *
  have H1 := Lib.hid h1
  have H5 := Lib.hid h5
  have HNS := Lib.hid hns
  have HT0 := Lib.hid (show nb m ++ ⟨#[58]⟩ = ctT m ns 0 from rfl)
  have HB := Lib.hid (show Below w.heap.size w (w.alloc (Obj.cells #[.int .i64 m, .slice a ns.length cap] 27)) from (Below.refl _ _).alloc (Nat.le_refl _) _)
  have HX := Lib.hid (Bx.new (m : Int) (.slice a ns.length cap) w)
  have hs0 := nb_size m hm
  have hno0 : ¬ 9223372036854775807 < (nb m).size + 1 := by omega
  have HN := Lib.hid (show ∀ w, Calls Tryd.prog 41 #[.int .i64 m] w fun e w' => e = .returned (.string (nb m)) ∧ w' = w from specNumber m hm)
  have HCT := Lib.hid (fun j hj => ctT_size (m := m) hm hns j hj)
  clear h1 h5 hns hm
  go_enter Tryd.func22, Tryd.ntmps22
  go_wp2_with fail
  generalize w.alloc (Obj.cells #[.int .i64 m, .slice a ns.length cap] 27) = w0 at *
  generalize hH : w.heap.size = H at *
  have x0 := HX.out.out.at0
  have x1 := HX.out.out.at1
  go_wp2_with fail
  refine (HN.out _).mono ?_
  rintro e w1 ⟨rfl, rfl⟩
  generalize nb m = S at *
  go_wp2_with fail
  rw [HT0.out]
  clear HT0 hno0 hs0
  go_loop [3, 4] (fun o i => ∃ k : Nat, k ≤ ns.length ∧ i = .int .i64 k ∧ o = .string (ctT m ns k)) (fun _ i => ns.length - (intOf i).toNat)
  case atStart => exact ⟨0, Nat.zero_le _, rfl, rfl⟩
  case round =>
    obtain ⟨k, hk, rfl, rfl⟩ := hrel
    have HS := Lib.hid (show ctT m ns (k + 1) = (if 0 < k then ctT m ns k ++ ⟨#[44]⟩ else ctT m ns k) ++ nb (ns.getD k 0) from rfl)
    have hsz := HCT.out k hk
    by_cases hlt : k < ns.length
    · obtain ⟨rfl, hbl⟩ := H1.out (by omega)
      have hc := (HB.out.cell (p := ⟨b, off + k, none⟩) (by rw [← hH] at *; exact hbl)).trans (H5.out k hlt)
      rw [toI_getD] at hc
      have hx := HNS.out _ (getD_of_lt hlt)
      generalize ns.getD k 0 = x at *
      have HNx := Lib.hid (show ∀ w, Calls Tryd.prog 41 #[.int .i64 x] w fun e w' => e = .returned (.string (nb x)) ∧ w' = w from specNumber x hx)
      have hsx := nb_size x hx
      generalize nb x = Sx at *
      generalize ctT m ns k = So at *
      by_cases h0 : 0 < k
      · have HS' := Lib.hid (show ctT m ns (k + 1) = So ++ ⟨#[44]⟩ ++ Sx by rw [HS.out, if_pos h0])
        have h0I : (0 : Int) < (k : Int) := by omega
        have hno1 : ¬ 9223372036854775807 < So.size + 1 := by omega
        have hno2 : ¬ 9223372036854775807 < So.size + 1 + Sx.size := by omega
        clear HS
        go_wp2_with fail
        refine (HNx.out _).mono ?_
        rintro e w2 ⟨rfl, rfl⟩
        go_wp2_with fail
        go_round
        case rel => exact ⟨k + 1, by omega, by go_num, by rw [HS'.out]⟩
        case measure => simp [intOf]; omega
      · have HS' := Lib.hid (show ctT m ns (k + 1) = So ++ Sx by rw [HS.out, if_neg h0])
        have h0I : ¬ (0 : Int) < (k : Int) := by omega
        have hno2 : ¬ 9223372036854775807 < So.size + Sx.size := by omega
        clear HS
        go_wp2_with fail
        refine (HNx.out _).mono ?_
        rintro e w2 ⟨rfl, rfl⟩
        go_wp2_with fail
        go_round
        case rel => exact ⟨k + 1, by omega, by go_num, by rw [HS'.out]⟩
        case measure => simp [intOf]; omega
    · obtain rfl : k = ns.length := by omega
      clear HS
      go_wp2_with fail
      go_ret
      exact ⟨rfl, HB.out⟩

end Go.Proofs.YtkamocciaaapmaaDoor
