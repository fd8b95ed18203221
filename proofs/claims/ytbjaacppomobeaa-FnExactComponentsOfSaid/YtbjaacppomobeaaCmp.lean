/- ComponentsOf, the model's: how many places are reached from no earlier one. Conditions: Sets is a slice of ints. -/
import Derived.Test.YtbjaacppomobeaaIsoI
namespace Go.Proofs.Ytbjaacppomobeaa
open Go.RowKit

theorem pth_app {R : Nat → Nat → Prop} {a b : Nat} : ∀ l k c, Pth R a k b → Pth R b l c → Pth R a (k + l) c := by
  intro l
  induction l with
  | zero =>
    intro k c h1 h2
    have : c = b := h2
    subst this
    exact h1
  | succ l ih =>
    rintro k c h1 ⟨v, h2, h3⟩
    exact ⟨v, ih k v h1 h2, h3⟩
theorem nR_turn {ns : List Nat} {i k : Nat} (hi : i < ns.length) (h : nR ns i k) : nR ns k i := ⟨hi, by rw [adj, Nat.xor_comm]; exact h.2⟩
theorem pth_turn {ns : List Nat} {i : Nat} (hi : i < ns.length) : ∀ k j, Pth (nR ns) i k j → j < ns.length ∧ Pth (nR ns) j k i := by
  intro k
  induction k with
  | zero =>
    intro j h
    have : j = i := h
    subst this
    exact ⟨hi, rfl⟩
  | succ k ih =>
    rintro j ⟨v, h1, h2⟩
    obtain ⟨h3, h4⟩ := ih v h1
    have h5 := nR_turn h3 h2
    refine ⟨h2.1, ?_⟩
    have := pth_app k 1 i (show Pth (nR ns) j 1 v from ⟨j, rfl, h5⟩) h4
    rw [Nat.add_comm] at this
    exact this
/-- some path leads from i to j -/
def Rch (ns : List Nat) (i j : Nat) : Prop := ∃ k, Pth (nR ns) i k j
theorem Rch.self (ns : List Nat) (i : Nat) : Rch ns i i := ⟨0, rfl⟩
theorem Rch.turn {ns : List Nat} {i j : Nat} (hi : i < ns.length) (h : Rch ns i j) : Rch ns j i := by
  obtain ⟨k, hk⟩ := h
  exact ⟨k, (pth_turn hi k j hk).2⟩
theorem Rch.trans {ns : List Nat} {i j k : Nat} (h : Rch ns i j) (h2 : Rch ns j k) : Rch ns i k := by
  obtain ⟨a, ha⟩ := h
  obtain ⟨b, hb⟩ := h2
  exact ⟨a + b, pth_app b a k ha hb⟩
theorem dst_rch {ns : List Nat} {i j : Nat} {d : Int} (h : Dst (nR ns) i j d) : (d < 0 ↔ ¬ Rch ns i j) := by
  rcases h with ⟨h1, h2⟩ | ⟨k, h1, h2, _⟩
  · exact ⟨fun _ hr => by obtain ⟨k, hk⟩ := hr; exact h2 k hk, fun _ => by omega⟩
  · exact ⟨fun k2 => by omega, fun hn => absurd ⟨k, h2⟩ hn⟩
/-- F tells which places are reached from no earlier one -/
def Fst (ns : List Nat) (F : Nat → Bool) : Prop := ∀ i, F i = true ↔ ∀ k, k < i → ¬ Rch ns i k
theorem fst_ex (ns : List Nat) : ∃ F, Fst ns F := by
  apply Classical.axiomOfChoice (r := fun i (b : Bool) => b = true ↔ ∀ k, k < i → ¬ Rch ns i k)
  intro i
  by_cases h : ∀ k, k < i → ¬ Rch ns i k
  · exact ⟨true, ⟨fun _ => h, fun _ => rfl⟩⟩
  · exact ⟨false, ⟨fun k => (by cases k), fun k => absurd k h⟩⟩
/-- how many of the first i there are -/
def cmTo (F : Nat → Bool) (i : Nat) : Nat := (List.range i).countP F
theorem cmTo_succ (F : Nat → Bool) (i : Nat) : cmTo F (i + 1) = cmTo F i + if F i = true then 1 else 0 := by
  rw [cmTo, List.range_succ, List.countP_append, List.countP_cons, List.countP_nil, Nat.zero_add]; rfl
theorem cmTo_le (F : Nat → Bool) (i : Nat) : cmTo F i ≤ i := by
  have := List.countP_le_length (p := F) (l := List.range i)
  rw [List.length_range] at this
  exact this
/-- none of the first k is reached from i -/
def nonTo (ns : List Nat) (i k : Nat) (B : Bool) : Prop := B = true ↔ ∀ a, a < k → ¬ Rch ns i a

set_option maxHeartbeats 6400000 in
set_option maxRecDepth 100000 in
theorem specComps (ns : List Nat) (F : Nat → Bool) (v : Value) (w : World) (hl : ns.length ≤ 32) (h32 : ∀ t ∈ ns, t < 32) (hF : Fst ns F) (h : Rd w v (toI ns)) :
    Calls Try.prog 99 #[v] w fun e w' => e = .returned (.int .i64 (cmTo F ns.length : Nat)) ∧ Below w.heap.size w w' := by
  have H := Lib.hid h
  obtain ⟨a, b, off, cap, rfl, h1, h3, h5⟩ := h
  rw [toI_length] at H h1 h3 h5 ⊢
  have HS := Lib.hid (fun i hi w h => specSteps (.slice a ns.length cap) ns i w hl h32 hi h)
  have HF := Lib.hid hF
  clear h1 h5 hF
  go_enter Try.func99, Try.ntmps99
  go_wp2_with fail
  go_loopw [3, 4] (fun n q wr => ∃ i : Nat, i ≤ ns.length ∧ q = .int .i64 i ∧ n = .int .i64 (cmTo F i : Nat) ∧ Below w.heap.size w wr) (fun _ q _ => ns.length - (intOf q).toNat)
  case atStart => exact ⟨0, Nat.zero_le _, rfl, rfl, Below.refl _ _⟩
  case round =>
    obtain ⟨i, hi, rfl, rfl, hbe⟩ := hrel
    have BE := Lib.hid hbe
    have hcl := cmTo_le F i
    by_cases hil : i < ns.length
    · have HSc := Lib.hid (cmTo_succ F i)
      have hiI : (i : Int) < (ns.length : Int) := by omega
      have HFi := Lib.hid (HF.out i)
      generalize cmTo F i = c at *
      clear hbe
      go_wp2_with fail
      refine (HS.out i hil _ (H.out.below BE.out (Nat.le_refl _))).mono ?_
      rintro e w3 ⟨st, a3, c3, rfl, hin3, hst, hb3⟩
      obtain ⟨g3, rfl, -, -⟩ := hin3.someAt (by omega)
      have I3 := Lib.hid hin3
      have ST := Lib.hid hst
      have BE3 := Lib.hid (BE.out.trans (hb3.mono BE.out.size))
      clear hin3 hst hb3
      go_wp2_with fail
      go_loop [6, 7] (fun B q => ∃ (k : Nat) (G : Bool), k ≤ i ∧ q = .int .i64 k ∧ B = .bool G ∧ Hid (nonTo ns i k G)) (fun _ q => i - (intOf q).toNat)
      case atStart => exact ⟨0, true, Nat.zero_le _, rfl, rfl, Lib.hid ⟨fun _ a ha => by omega, fun _ => rfl⟩⟩
      case round =>
        obtain ⟨k, G, hk, rfl, rfl, NT⟩ := hrel
        by_cases hki : k < i
        · have hkI : (k : Int) < (i : Int) := by omega
          have hkL : (k : Int) < (ns.length : Int) := by omega
          have hct := (I3.out.cellAt k (by rw [mkL_len]; omega)).1
          rw [mkL_at st (show k < ns.length by omega)] at hct
          have HRk := Lib.hid (dst_rch (ST.out k))
          generalize st k = z at *
          cases G with
          | true =>
            by_cases hz : z < 0
            · have NS := Lib.hid (show nonTo ns i (k + 1) true from ⟨fun _ a ha => by
                by_cases e : a = k
                · subst e; exact HRk.out.1 hz
                · exact NT.out.1 rfl a (by omega), fun _ => rfl⟩)
              go_wp2_with fail
              go_round
              case rel => exact ⟨k + 1, true, by omega, by go_num, rfl, NS⟩
              case measure => simp [intOf]; omega
            · have NS := Lib.hid (show nonTo ns i (k + 1) false from ⟨fun h => (by cases h), fun h => absurd (HRk.out.2 (h k (by omega))) hz⟩)
              go_wp2_with fail
              go_round
              case rel => exact ⟨k + 1, false, by omega, by go_num, rfl, NS⟩
              case measure => simp [intOf]; omega
          | false =>
            have NS := Lib.hid (show nonTo ns i (k + 1) false from ⟨fun h => (by cases h), fun h => NT.out.2 (fun a ha => h a (by omega))⟩)
            go_wp2_with fail
            go_round
            case rel => exact ⟨k + 1, false, by omega, by go_num, rfl, NS⟩
            case measure => simp [intOf]; omega
        · obtain rfl : k = i := by omega
          have hGF : G = F k := by
            have h1 := NT.out
            have h2 := HFi.out
            rw [Bool.eq_iff_iff]
            exact h1.trans h2.symm
          have HGF := Lib.hid hGF
          clear hGF
          cases G with
          | true =>
            have HSt := Lib.hid (show cmTo F (k + 1) = c + 1 from by rw [HSc.out, ← HGF.out]; rfl)
            go_wp2_with fail
            go_roundw
            case rel => exact ⟨k + 1, by omega, by go_num, by rw [HSt.out]; first | rfl | (congr 1; omega) | go_num, BE3.out⟩
            case measure => simp [intOf]; omega
          | false =>
            have HSt := Lib.hid (show cmTo F (k + 1) = c from by rw [HSc.out, ← HGF.out]; rfl)
            go_wp2_with fail
            go_roundw
            case rel => exact ⟨k + 1, by omega, by go_num, by rw [HSt.out], BE3.out⟩
            case measure => simp [intOf]; omega
    · obtain rfl : i = ns.length := by omega
      go_wp2_with fail
      go_ret
      exact ⟨rfl, BE.out⟩

end Go.Proofs.Ytbjaacppomobeaa
