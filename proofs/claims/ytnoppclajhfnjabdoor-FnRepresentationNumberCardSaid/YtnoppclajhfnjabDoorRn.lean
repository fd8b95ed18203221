/- RepresentationNumber, the program's and the model's: one number. Conditions: Sets is a slice of ints. -/
import Derived.Test.YtnoppclajhfnjabDoorFrpI
namespace Go.Proofs.YtnoppclajhfnjabDoor
open Go.RowKit

theorem xor_ne {m a b : Nat} (ha : a < 2 ^ m) (hb : b < 2 ^ m) (h : a ≠ b) : (a ^^^ b) &&& (2 ^ m - 1) ≠ 0 := by
  intro e
  rw [Nat.and_two_pow_sub_one_eq_mod, Nat.mod_eq_of_lt (Nat.xor_lt_two_pow ha hb)] at e
  have e2 : a = (a ^^^ b) ^^^ b := by rw [Nat.xor_assoc, Nat.xor_self, Nat.xor_zero]
  rw [e, Nat.zero_xor] at e2
  exact h e2
/-- with all points there is a plan -/
theorem fnd_all {m : Nat} {ns : List Nat} (hc : Cls m ns) : ∀ k (pl : List Nat), pl.length + k = ns.length → (∀ x ∈ pl, x = 2 ^ m - 1) → (fndP ns (m : Int) (2 ^ m) k pl).isSome = true := by
  intro k
  induction k with
  | zero => intro pl _ _; rfl
  | succ k ih =>
    intro pl hl hp
    have hm := hc.pts
    have h1 := ih (pl ++ [2 ^ m - 1]) (by rw [List.length_append, List.length_singleton]; omega) (fun x hx => by
      rcases List.mem_append.1 hx with e | e
      · exact hp x e
      · exact List.mem_singleton.1 e)
    rw [fndP, List.isSome_findSome?, List.any_eq_true]
    have hpos := Nat.two_pow_pos m
    refine ⟨2 ^ m - 1, List.mem_range.2 (by omega), ?_⟩
    have hok : okP ns (m : Int) pl (2 ^ m - 1) = true := by
      have hpc : ∀ m : Fin 6, pc (2 ^ m.1 - 1) ≤ m.1 := by decide
      have h2 := hpc ⟨m, by omega⟩
      dsimp only at h2
      rw [okP, decide_eq_true (by omega), Bool.true_and, Bool.not_eq_true', ← Bool.not_eq_true]
      intro hcl
      rw [clTo, List.any_eq_true] at hcl
      obtain ⟨j, hj, e⟩ := hcl
      rw [List.mem_range] at hj
      rw [clsh, decide_eq_true_eq, app_end, app_at hj, hp _ (getD_of_lt hj), Nat.or_self] at e
      have hi : pl.length < ns.length := by omega
      refine xor_ne (hc.lt _ (getD_of_lt hi)) (hc.lt _ (getD_of_lt (show j < ns.length by omega))) ?_ e
      have h3 := List.pairwise_iff_getElem.1 hc.asc j pl.length (by omega) hi hj
      rw [List.getD_eq_getElem?_getD, List.getD_eq_getElem?_getD, List.getElem?_eq_getElem hi, List.getElem?_eq_getElem (show j < ns.length by omega), Option.getD_some, Option.getD_some]
      omega
    rw [if_pos hok]
    exact h1
/-- r is the first number for which there is a plan -/
def RnOf (ns : List Nat) (m r : Nat) : Prop := (fndP ns (r : Int) (2 ^ m) ns.length []).isSome = true ∧ ∀ j : Nat, j < r → (fndP ns (j : Int) (2 ^ m) ns.length []).isSome = false
theorem rn_least (p : Nat → Bool) : ∀ n, p n = true → ∃ r, r ≤ n ∧ p r = true ∧ ∀ j, j < r → p j = false := by
  intro n
  induction n using Nat.strongRecOn with
  | ind n ih =>
    intro h
    by_cases hh : ∃ j, j < n ∧ p j = true
    · obtain ⟨j, hj, hp⟩ := hh
      obtain ⟨r, r1, r2⟩ := ih j hj hp
      exact ⟨r, by omega, r2⟩
    · refine ⟨n, Nat.le_refl _, h, fun j hj => ?_⟩
      rw [← Bool.not_eq_true]
      exact fun e => hh ⟨j, hj, e⟩
theorem rn_ex {m : Nat} {ns : List Nat} (hc : Cls m ns) : ∃ r, r ≤ m ∧ RnOf ns m r := by
  obtain ⟨r, h1, h2, h3⟩ := rn_least (fun j => (fndP ns (j : Int) (2 ^ m) ns.length []).isSome) m (fnd_all hc ns.length [] (by simp) (fun x hx => by cases hx))
  exact ⟨r, h1, h2, h3⟩

set_option maxHeartbeats 3200000 in
set_option maxRecDepth 100000 in
theorem implRnIn (m : Nat) (ns : List Nat) (r : Nat) (v : Value) (w : World) (hm : m ≤ 5) (hv : vldB m (toI ns) = true) (hl : ns.length ≤ 7) (hrm : r ≤ m) (hr : RnOf ns m r) (h : Rd w v (toI ns)) :
    Calls Tryd.prog 38 #[.agg #[.int .i64 m, v]] w fun e w' => e = .returned (.int .i64 (r : Int)) ∧ Below w.heap.size w w' := by
  have H := Lib.hid h
  obtain ⟨a, b, off, cap, rfl, _, _, _⟩ := h
  rw [toI_length] at H ⊢
  have HF := Lib.hid (fun (j : Nat) w h => implFirstRepresentation (m : Int) (.slice a ns.length cap) (toI ns) (j : Int) w h)
  have HE := Lib.hid (fun (j : Nat) => show frpB (m : Int) (toI ns) (j : Int) = (fndP ns (j : Int) (2 ^ m) ns.length []).isSome by rw [frpB, frpO_in hv hl])
  have HR := Lib.hid hr
  have X := Lib.hid (Bx.new (m : Int) (.slice a ns.length cap) w)
  have B := Lib.hid (show Below w.heap.size w (w.alloc (Obj.cells #[.int .i64 (m : Int), .slice a ns.length cap] 25)) from (Below.refl _ _).alloc (Nat.le_refl _) _)
  clear hv hr
  go_enter Tryd.func38, Tryd.ntmps38
  go_wp2_with fail
  generalize (w.alloc (Obj.cells #[.int .i64 (m : Int), .slice a ns.length cap] 25)) = w1 at *
  go_loopw [6] (fun t wr => ∃ j : Nat, j ≤ r ∧ t = .int .i64 j ∧ Hid (Bx (m : Int) (.slice a ns.length cap) w.heap.size wr) ∧ Hid (Below w.heap.size w wr)) (fun t _ => r + 1 - (intOf t).toNat)
  case atStart => exact ⟨0, Nat.zero_le _, rfl, X, B⟩
  case round =>
    obtain ⟨j, hj, rfl, XR, BR⟩ := hrel
    have hj6 : (j : Int) < 6 := by omega
    have HFj := Lib.hid (HF.out j)
    rw [HE.out] at HFj
    generalize frpL (m : Int) (toI ns) (j : Int) = L at *
    have c0 := XR.out.out.at0
    have c1 := XR.out.out.at1
    by_cases hjr : j < r
    · have hn := HR.out.2 j hjr
      rw [hn] at HFj
      go_wp2_with fail
      refine (HFj.out _ (H.out.below BR.out (Nat.le_refl _))).mono ?_
      rintro e w3 ⟨a3, c3, rfl, _, hb⟩
      have X3 := Lib.hid (XR.out.next hb XR.out.lt)
      have B3 := Lib.hid (BR.out.trans (hb.mono BR.out.size))
      clear hb
      go_wp2_with fail
      go_roundw
      case rel => exact ⟨j + 1, by omega, by go_num, X3, B3⟩
      case measure => simp [intOf]; omega
    · obtain rfl : j = r := by omega
      rw [HR.out.1] at HFj
      go_wp2_with fail
      refine (HFj.out _ (H.out.below BR.out (Nat.le_refl _))).mono ?_
      rintro e w3 ⟨a3, c3, rfl, _, hb⟩
      have B3 := Lib.hid (BR.out.trans (hb.mono BR.out.size))
      clear hb
      go_wp2_with fail
      go_ret
      exact ⟨rfl, B3.out⟩

set_option maxHeartbeats 3200000 in
set_option maxRecDepth 100000 in
theorem specRnIn (m : Nat) (ns : List Nat) (r : Nat) (v : Value) (w : World) (hc : Cls m ns) (hv : vldB m (toI ns) = true) (hl : ns.length ≤ 7) (hrm : r ≤ m) (hr : RnOf ns m r) (h : Rd w v (toI ns)) :
    Calls Tryd.prog 39 #[.agg #[.int .i64 m, v]] w fun e w' => e = .returned (.int .i64 (r : Int)) ∧ Below w.heap.size w w' := by
  have H := Lib.hid h
  obtain ⟨a, b, off, cap, rfl, _, _, _⟩ := h
  rw [toI_length] at H ⊢
  have HV := Lib.hid (fun w h => specValid (m : Int) (.slice a ns.length cap) (toI ns) w h)
  rw [hv] at HV
  have HF := Lib.hid (fun (j : Nat) u w h hu => specFindPlan m hc.pts (.slice a ns.length cap) ns (j : Int) hc.lt32 (by omega) 0 ns.length [] u w (by simp) (fun x hx => by cases hx) h (Nat.zero_le _) hu)
  have HR := Lib.hid hr
  have X := Lib.hid (Bx.new (m : Int) (.slice a ns.length cap) w)
  have B := Lib.hid (show Below w.heap.size w (w.alloc (Obj.cells #[.int .i64 (m : Int), .slice a ns.length cap] 25)) from (Below.refl _ _).alloc (Nat.le_refl _) _)
  have hm := hc.pts
  have hlI : ¬ (7 : Int) < (ns.length : Int) := by omega
  have hld : decide ((7 : Int) < (ns.length : Int)) = false := decide_eq_false hlI
  clear hv hr hc
  go_enter Tryd.func39, Tryd.ntmps39
  go_wp2_with fail
  refine (HV.out _ (H.out.below B.out (Nat.le_refl _))).mono ?_
  rintro e w1 ⟨rfl, hb⟩
  have X1 := Lib.hid (X.out.next hb X.out.lt)
  have B1 := Lib.hid (B.out.trans (hb.mono B.out.size))
  clear hb X B
  have c0 := X1.out.out.at0
  have c1 := X1.out.out.at1
  go_wp2_with fail
  clear c0 c1
  go_loopw [3] (fun t wr => ∃ j : Nat, j ≤ r ∧ t = .int .i64 j ∧ Hid (Bx (m : Int) (.slice a ns.length cap) w.heap.size wr) ∧ Hid (Below w.heap.size w wr)) (fun t _ => r + 1 - (intOf t).toNat)
  case atStart => exact ⟨0, Nat.zero_le _, rfl, X1, B1⟩
  case round =>
    obtain ⟨j, hj, rfl, XR, BR⟩ := hrel
    have HFj := Lib.hid (HF.out j)
    have c0 := XR.out.out.at0
    have c1 := XR.out.out.at1
    have B2 := Lib.hid (show Below w.heap.size w (wr.alloc (Obj.cells #[] 3)) from BR.out.alloc BR.out.size _)
    have X2 := Lib.hid (XR.out.alloc (Obj.cells #[] 3))
    have I2 := Lib.hid (show Ints 0 (wr.alloc (Obj.cells #[] 3)) (.slice (some ⟨wr.heap.size, 0, none⟩) 0 0) (toI []) from Ints.lit' (Nat.zero_le _) rfl)
    by_cases hjr : j < r
    · have hjm : (j : Int) < (m : Int) := by omega
      have hn := HR.out.2 j hjr
      generalize fndP ns (j : Int) (2 ^ m) ns.length [] = A at *
      cases A with
      | some t => simp at hn
      | none =>
        go_wp2_with fail
        refine (HFj.out _ _ (H.out.below B2.out (Nat.le_refl _)) I2.out).mono ?_
        rintro e w3 ⟨hb, he⟩
        subst he
        have X3 := Lib.hid (X2.out.next hb X2.out.lt)
        have B3 := Lib.hid (B2.out.trans (hb.mono B2.out.size))
        clear hb
        go_wp2_with fail
        go_roundw
        case rel => exact ⟨j + 1, by omega, by go_num, X3, B3⟩
        case measure => simp [intOf]; omega
    · obtain rfl : j = r := by omega
      have hn := HR.out.1
      by_cases hjm : j < m
      · have hjmI : (j : Int) < (m : Int) := by omega
        generalize fndP ns (j : Int) (2 ^ m) ns.length [] = A at *
        cases A with
        | none => simp at hn
        | some t =>
          go_wp2_with fail
          refine (HFj.out _ _ (H.out.below B2.out (Nat.le_refl _)) I2.out).mono ?_
          rintro e w3 ⟨hb, he⟩
          obtain ⟨a8, c8, rfl, -⟩ := he
          have B3 := Lib.hid (B2.out.trans (hb.mono B2.out.size))
          clear hb
          go_wp2_with fail
          go_ret
          exact ⟨rfl, B3.out⟩
      · obtain rfl : j = m := by omega
        have hjmI : ¬ (j : Int) < (j : Int) := by omega
        go_wp2_with fail
        go_ret
        exact ⟨rfl, BR.out⟩

set_option maxHeartbeats 1600000 in
set_option maxRecDepth 100000 in
theorem specRnNo (n : Int) (v : Value) (zs : List Int) (w : World) (hk : (vldB n zs && decide (zs.length ≤ 7)) = false) (h : Rd w v zs) :
    Calls Tryd.prog 39 #[.agg #[.int .i64 n, v]] w fun e w' => e = .returned (.int .i64 (-1)) ∧ Below w.heap.size w w' := by
  have H := Lib.hid h
  obtain ⟨a, b, off, cap, rfl, _, _, _⟩ := h
  have HV := Lib.hid (fun w h => specValid n (.slice a zs.length cap) zs w h)
  have X := Lib.hid (Bx.new n (.slice a zs.length cap) w)
  have B := Lib.hid (show Below w.heap.size w (w.alloc (Obj.cells #[.int .i64 n, .slice a zs.length cap] 25)) from (Below.refl _ _).alloc (Nat.le_refl _) _)
  cases hv : vldB n zs with
  | false =>
    rw [hv] at HV
    clear hv hk
    go_enter Tryd.func39, Tryd.ntmps39
    go_wp2_with fail
    refine (HV.out _ (H.out.below B.out (Nat.le_refl _))).mono ?_
    rintro e w1 ⟨rfl, hb⟩
    have B1 := Lib.hid (B.out.trans (hb.mono B.out.size))
    clear hb
    go_wp2_with fail
    go_ret
    exact ⟨rfl, B1.out⟩
  | true =>
    rw [hv, Bool.true_and, decide_eq_false_iff_not] at hk
    rw [hv] at HV
    have hlI : (7 : Int) < (zs.length : Int) := by omega
    have hld : decide ((7 : Int) < (zs.length : Int)) = true := decide_eq_true hlI
    clear hv hk
    go_enter Tryd.func39, Tryd.ntmps39
    go_wp2_with fail
    refine (HV.out _ (H.out.below B.out (Nat.le_refl _))).mono ?_
    rintro e w1 ⟨rfl, hb⟩
    have X1 := Lib.hid (X.out.next hb X.out.lt)
    have B1 := Lib.hid (B.out.trans (hb.mono B.out.size))
    clear hb
    have c0 := X1.out.out.at0
    have c1 := X1.out.out.at1
    go_wp2_with fail
    go_ret
    exact ⟨rfl, B1.out⟩

set_option maxHeartbeats 1600000 in
set_option maxRecDepth 100000 in
theorem implRnNo (n : Int) (v : Value) (zs : List Int) (w : World) (hk : (vldB n zs && decide (zs.length ≤ 7)) = false) (h : Rd w v zs) :
    Calls Tryd.prog 38 #[.agg #[.int .i64 n, v]] w fun e w' => e = .returned (.int .i64 (-1)) ∧ Below w.heap.size w w' := by
  have H := Lib.hid h
  obtain ⟨a, b, off, cap, rfl, _, _, _⟩ := h
  have HF := Lib.hid (fun (j : Int) w h => implFirstRepresentation n (.slice a zs.length cap) zs j w h)
  have HE := Lib.hid (fun (j : Int) => show frpL n zs j = [] ∧ frpB n zs j = false by rw [frpL, frpB, frpO, hk, if_neg (by decide)]; exact ⟨rfl, rfl⟩)
  have X := Lib.hid (Bx.new n (.slice a zs.length cap) w)
  have B := Lib.hid (show Below w.heap.size w (w.alloc (Obj.cells #[.int .i64 n, .slice a zs.length cap] 25)) from (Below.refl _ _).alloc (Nat.le_refl _) _)
  clear hk
  go_enter Tryd.func38, Tryd.ntmps38
  go_wp2_with fail
  generalize (w.alloc (Obj.cells #[.int .i64 n, .slice a zs.length cap] 25)) = w1 at *
  go_loopw [6] (fun t wr => ∃ j : Nat, j ≤ 6 ∧ t = .int .i64 j ∧ Hid (Bx n (.slice a zs.length cap) w.heap.size wr) ∧ Hid (Below w.heap.size w wr)) (fun t _ => 6 - (intOf t).toNat)
  case atStart => exact ⟨0, Nat.zero_le _, rfl, X, B⟩
  case round =>
    obtain ⟨j, hj, rfl, XR, BR⟩ := hrel
    have HFj := Lib.hid (HF.out (j : Int))
    rw [(HE.out (j : Int)).1, (HE.out (j : Int)).2] at HFj
    have c0 := XR.out.out.at0
    have c1 := XR.out.out.at1
    by_cases hjr : j < 6
    · have hj6 : (j : Int) < 6 := by omega
      go_wp2_with fail
      refine (HFj.out _ (H.out.below BR.out (Nat.le_refl _))).mono ?_
      rintro e w3 ⟨a3, c3, rfl, _, hb⟩
      have X3 := Lib.hid (XR.out.next hb XR.out.lt)
      have B3 := Lib.hid (BR.out.trans (hb.mono BR.out.size))
      clear hb
      go_wp2_with fail
      go_roundw
      case rel => exact ⟨j + 1, by omega, by go_num, X3, B3⟩
      case measure => simp [intOf]; omega
    · obtain rfl : j = 6 := by omega
      go_wp2_with fail
      go_ret
      exact ⟨rfl, BR.out⟩

/-- both answer one number -/
theorem rnBoth (n : Int) (zs : List Int) : ∃ R : Int,
    (∀ v w, Rd w v zs → Calls Tryd.prog 39 #[.agg #[.int .i64 n, v]] w fun e w' => e = .returned (.int .i64 R) ∧ Below w.heap.size w w') ∧
    (∀ v w, Rd w v zs → Calls Tryd.prog 38 #[.agg #[.int .i64 n, v]] w fun e w' => e = .returned (.int .i64 R) ∧ Below w.heap.size w w') := by
  cases hk : (vldB n zs && decide (zs.length ≤ 7)) with
  | true =>
    rw [Bool.and_eq_true, decide_eq_true_eq] at hk
    obtain ⟨hv, hl⟩ := hk
    obtain ⟨m, ns, rfl, rfl, hc⟩ := vldB_cls hv
    rw [toI_length] at hl
    obtain ⟨r, hrm, hr⟩ := rn_ex hc
    exact ⟨r, fun v w h => specRnIn m ns r v w hc hv hl hrm hr h, fun v w h => implRnIn m ns r v w hc.pts hv hl hrm hr h⟩
  | false => exact ⟨-1, fun v w h => specRnNo n v zs w hk h, fun v w h => implRnNo n v zs w hk h⟩

end Go.Proofs.YtnoppclajhfnjabDoor
