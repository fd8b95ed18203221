/- StarNumber's loops, the model's: the greatest size of a star. Conditions: a class in order. -/
import Derived.Deep.RegionHeld3
import Derived.Test.YtnmilfkocheaiaaGreatDoorStarS1
import Derived.Test.YtnmilfkocheaiaaGreatDoorZH
import Derived.Test.YtnmilfkocheaiaaGreatDoorZV
namespace Go.Proofs.YtnmilfkocheaiaaGreatDoor
open Go.RowKit

/-- z is the size of a star round one of the first i sets -/
def StA (m : Nat) (ns : List Nat) (i : Nat) (z : Int) : Prop := ∃ i', i' < i ∧ ∃ s, s < 2 ^ m ∧ stTo ns (ns.getD i' 0) s m = false ∧ z = (pc s : Nat)
/-- z is that, or the size of one of the first k sets of points that are a star round the set at i -/
def StB (m : Nat) (ns : List Nat) (i k : Nat) (z : Int) : Prop := StA m ns i z ∨ ∃ s, s < k ∧ stTo ns (ns.getD i 0) s m = false ∧ z = (pc s : Nat)
theorem stB_yes {m : Nat} {ns : List Nat} {i k : Nat} (h : stTo ns (ns.getD i 0) k m = false) (z : Int) : (StB m ns i k z ∨ z = (pc k : Nat)) ↔ StB m ns i (k + 1) z := by
  constructor
  · rintro ((h1 | ⟨s, h1, h2, h3⟩) | h1)
    · exact .inl h1
    · exact .inr ⟨s, by omega, h2, h3⟩
    · exact .inr ⟨k, by omega, h, h1⟩
  · rintro (h1 | ⟨s, h1, h2, h3⟩)
    · exact .inl (.inl h1)
    · by_cases e : s = k
      · subst e; exact .inr h3
      · exact .inl (.inr ⟨s, by omega, h2, h3⟩)
theorem stB_no {m : Nat} {ns : List Nat} {i k : Nat} (h : stTo ns (ns.getD i 0) k m = true) (z : Int) : StB m ns i k z ↔ StB m ns i (k + 1) z := by
  constructor
  · rintro (h1 | ⟨s, h1, h2, h3⟩)
    · exact .inl h1
    · exact .inr ⟨s, by omega, h2, h3⟩
  · rintro (h1 | ⟨s, h1, h2, h3⟩)
    · exact .inl h1
    · refine .inr ⟨s, ?_, h2, h3⟩
      by_cases e : s = k
      · subst e; rw [h] at h2; cases h2
      · omega
theorem stB_zero {m : Nat} {ns : List Nat} {i : Nat} (z : Int) : StA m ns i z ↔ StB m ns i 0 z :=
  ⟨.inl, fun h => h.elim id (fun ⟨s, hs, _⟩ => absurd hs (Nat.not_lt_zero s))⟩
theorem stB_all {m : Nat} {ns : List Nat} {i : Nat} (z : Int) : StB m ns i (2 ^ m) z ↔ StA m ns (i + 1) z := by
  constructor
  · rintro (⟨i', h0, h1⟩ | ⟨s, h1, h2, h3⟩)
    · exact ⟨i', by omega, h1⟩
    · exact ⟨i, by omega, s, h1, h2, h3⟩
  · rintro ⟨i', h0, h1⟩
    by_cases e : i' = i
    · subst e; exact .inr h1
    · exact .inl ⟨i', by omega, h1⟩

set_option maxRecDepth 100000 in
set_option maxHeartbeats 800000 in
theorem specStar (m : Nat) (hm : m ≤ 5) (v : Value) (ns : List Nat) (w : World) (h32 : ∀ u ∈ ns, u < 32) (hlen : ns.length ≤ 1048576) (h : Rd w v (toI ns)) :
    Calls Tryz.prog 33 #[.agg #[.int .i64 (m : Int), v]] w fun e w' => (∃ b : Int, e = .returned (.int .i64 b) ∧ MaxOf (StA m ns ns.length) b) ∧ Below w.heap.size w w' := by
  have HRd := h
  obtain ⟨a, g, off, cap, rfl, h1, h3, h5⟩ := h
  have hx := fun (t s : Nat) (ht : t < 32) (hs : s < 32) w0 h0 => specIsStar m hm (.slice a (toI ns).length cap) ns t s ht hs w0 h32 hlen h0
  have hg := fun i (hi : i < ns.length) => h32 _ (getD_of_lt hi)
  have hq5 := pow_le_32 hm
  have HP := Lib.hid (fun w0 => specPower (m : Int) w0 (by omega) (by omega))
  simp only [toI_length] at h1 h3 h5 hx HRd ⊢
  generalize ns.length = L at h1 h3 h5 hx hg HRd hlen ⊢
  have HX := Lib.hid hx
  have HG := Lib.hid hg
  obtain ⟨q, hq⟩ : ∃ q : Nat, q = 2 ^ m := ⟨_, rfl⟩
  have hqI : (2 : Int) ^ m = (q : Int) := by rw [hq]; simp
  rw [Int.toNat_natCast, hqI] at HP
  have HQ := Lib.hid hq
  have H1 := Lib.hid h1
  have H5 := Lib.hid h5
  have H := Lib.hid HRd
  have hq32 : q ≤ 32 := by omega
  clear hq5 hqI hq h1 h5 HRd h32 hx hg
  have X0 := Lib.hid (Bx.new (m : Int) (.slice a L cap) w)
  have B0 := Lib.hid ((Below.refl _ w).alloc (Nat.le_refl _) (.cells #[.int .i64 (m : Int), .slice a L cap] 47))
  go_enter Tryz.func33, Tryz.ntmps33
  go_wp2_with fail
  generalize (w.alloc (.cells #[.int .i64 (m : Int), .slice a L cap] 47)) = w0 at *
  generalize ho : w.heap.size = o at *
  go_loopw [3, 4] (fun b i wr => ∃ (k : Nat) (z : Int), k ≤ L ∧ i = .int .i64 k ∧ b = .int .i64 z ∧ MaxOf (StA m ns k) z ∧ Below w0.heap.size w0 wr) (fun _ i _ => L - (intOf i).toNat)
  case atStart => exact ⟨0, -1, Nat.zero_le _, rfl, rfl, ⟨.inl rfl, fun z hz => by obtain ⟨i', hi', _⟩ := hz; omega⟩, Below.refl _ _⟩
  case round =>
    obtain ⟨i, z, hi, rfl, rfl, hmx, hbe⟩ := hrel
    have HMX := Lib.hid hmx
    have HBE := Lib.hid hbe
    have hz2 := hbe.size
    have X2 := Lib.hid (X0.out.next hbe X0.out.lt)
    have R2 := Lib.hid (H.out.below (B0.out.trans (hbe.mono (by have := B0.out.size; omega))) (by omega))
    have x0 := X2.out.out.at0
    have x1 := X2.out.out.at1
    obtain ⟨w2, hw2⟩ : ∃ w2, w2 = wr := ⟨_, rfl⟩
    subst hw2
    clear hmx hbe
    by_cases hlt : i < L
    · have hiI : (i : Int) < (L : Int) := by omega
      have hu32 := HG.out i hlt
      obtain ⟨rfl, hgl⟩ := H1.out (by omega)
      have hc2 := ((B0.out.trans (HBE.out.mono (by have := B0.out.size; omega))).cell (p := ⟨g, off + i, none⟩) (by show g < _; omega)).trans (H5.out i hlt)
      rw [toI_getD] at hc2
      have HXi := Lib.hid (fun (s : Nat) (hs : s < 32) w0 h0 => HX.out (ns.getD i 0) s hu32 hs w0 h0)
      obtain ⟨u, hu⟩ : ∃ u, u = ns.getD i 0 := ⟨_, rfl⟩
      have HU := Lib.hid hu
      rw [← hu] at HXi hc2 hu32
      clear hu
      have HZ := Lib.hid (mx_iff HMX.out (fun z => stB_zero z))
      go_wp2_with fail
      go_loopw [3, 5] (fun b x wr => ∃ (k : Nat) (z : Int), k ≤ q ∧ x = .int .i64 k ∧ b = .int .i64 z ∧ MaxOf (StB m ns i k) z ∧ Below w2.heap.size w2 wr) (fun _ x _ => q - (intOf x).toNat)
      case atStart => exact ⟨0, z, Nat.zero_le _, rfl, rfl, HZ.out, Below.refl _ _⟩
      case round =>
        clear HZ
        obtain ⟨k, y, hk, rfl, rfl, hmy, hbf⟩ := hrel
        have HMY := Lib.hid hmy
        have HBF := Lib.hid hbf
        have hz3 := hbf.size
        have X3 := Lib.hid (X2.out.next hbf X2.out.lt)
        have R3 := Lib.hid (R2.out.below hbf (Nat.le_refl _))
        have hc3 := (hbf.cell (p := ⟨g, off + i, none⟩) (World.block_lt_of_cell? _ _ hc2)).trans hc2
        clear x0 x1
        have x0 := X3.out.out.at0
        have x1 := X3.out.out.at1
        obtain ⟨w3, hw3⟩ : ∃ w3, w3 = wr := ⟨_, rfl⟩
        subst hw3
        clear hmy hbf hc2
        by_cases hkq : k < q
        · have hkI : (k : Int) < (q : Int) := by omega
          have HSk := Lib.hid (fun w0 => specSize k (by omega) w0)
          have HXk := Lib.hid (HXi.out k (by omega))
          have HSY := Lib.hid (fun (h : stTo ns u k m = false) z => stB_yes (m := m) (i := i) (k := k) (by rw [← HU.out]; exact h) z)
          have HSN := Lib.hid (fun (h : stTo ns u k m = true) z => stB_no (m := m) (i := i) (k := k) (by rw [← HU.out]; exact h) z)
          go_wp2_with fail
          refine (HP.out _).mono ?_
          rintro e w9 ⟨rfl, hw9⟩
          subst w9
          cases hst : stTo ns u k m with
          | true =>
            rw [hst] at HXk
            have HNX := Lib.hid (HSN.out hst)
            clear hst HSN HSY
            obtain ⟨c, hc⟩ : ∃ c, c = pc k := ⟨_, rfl⟩
            rw [← hc] at HSk
            clear hc
            by_cases hbig : y < (c : Int)
            · skip
              have hbd : decide (y < (c : Int)) = true := decide_eq_true hbig
              go_wp2_with fail
              refine wp_region_held_drew (S := fun w' => w'.cell? ⟨o, 0, none⟩ = some (.int .i64 (m : Int)) ∧ w'.cell? ⟨o, 1, none⟩ = some (.slice (some ⟨g, off, none⟩) L cap) ∧ w'.cell? ⟨g, off + i, none⟩ = some (.int .i64 (u : Int))) (by kernel_rfl) (by first | exact ⟨x0, x1, hc3⟩ | exact ⟨z0, z1, z2⟩ | go_keep) (fun hHeld => ?_)
              refine wpAnyH_take (i := 0) (v := ?_) rfl (by kernel_rfl) (by kernel_rfl) (by kernel_rfl) (fun _ _ _ h => h) (Or.inl ⟨by rfl, ?_⟩) (by assumption) ?_
              rotate_left
              · (intro w hSw; (try dsimp only at hSw); go_simp; try with_reducible rfl)
              try simp only [List.getElem_toArray, List.getElem_cons_zero, Act.put, List.setIfInBounds_toArray, List.set_cons_zero, List.set_cons_succ]
              refine wpAnyH_take (i := 2) (v := ?_) rfl (by kernel_rfl) (by kernel_rfl) (by kernel_rfl) (fun _ _ _ h => h) (Or.inl ⟨by rfl, ?_⟩) (by assumption) ?_
              rotate_left
              · (intro w hSw; (try dsimp only at hSw); go_simp; try with_reducible rfl)
              try simp only [List.getElem_toArray, List.getElem_cons_zero, List.getElem_cons_succ, Act.put, List.setIfInBounds_toArray, List.set_cons_zero, List.set_cons_succ]
              refine wpAnyH_ready (rs := [1]) (by kernel_rfl) (by simp) ?_
              refine AllReadyH.cons rfl (fun K hK => ?_) AllReadyH.nil
              try simp only [List.getElem_toArray]
              go_simp
              (go_at_call 48; refine (HSk.out _).mono ?_; rintro e w98 ⟨rfl, hw98⟩; subst w98)
              refine hK.out _ _ (by first | exact ⟨x0, x1, hc3⟩ | exact ⟨z0, z1, z2⟩ | go_keep) (fun hHeld => ?_)
              clear hK K
              try simp only [List.getElem_toArray, List.getElem_cons_zero, List.getElem_cons_succ, Act.put, List.setIfInBounds_toArray, List.set_cons_zero, List.set_cons_succ]
              refine wpAnyH_take (i := 3) (v := ?_) rfl (by kernel_rfl) (by kernel_rfl) (by kernel_rfl) (fun _ _ _ h => h) (Or.inl ⟨by rfl, ?_⟩) (by assumption) ?_
              rotate_left
              · (intro w hSw; (try dsimp only at hSw); go_simp; try with_reducible rfl)
              try simp only [List.getElem_toArray, List.getElem_cons_zero, List.getElem_cons_succ, Act.put, List.setIfInBounds_toArray, List.set_cons_zero, List.set_cons_succ]
              refine wpAnyH_take (i := 4) (v := ?_) rfl (by kernel_rfl) (by kernel_rfl) (by kernel_rfl) (fun _ _ _ h => h) (Or.inl ⟨by rfl, ?_⟩) (by assumption) ?_
              rotate_left
              · (intro w hSw; (try dsimp only at hSw); go_simp; try with_reducible rfl)
              try simp only [List.getElem_toArray, List.getElem_cons_zero, List.getElem_cons_succ, Act.put, List.setIfInBounds_toArray, List.set_cons_zero, List.set_cons_succ]
              refine wpAnyH_take (i := 5) (v := ?_) rfl (by kernel_rfl) (by kernel_rfl) (by kernel_rfl) (fun _ _ _ h => h) (Or.inl ⟨by rfl, ?_⟩) (by assumption) ?_
              rotate_left
              · (intro w hSw; (try dsimp only at hSw); go_simp; try with_reducible rfl)
              try simp only [List.getElem_toArray, List.getElem_cons_zero, List.getElem_cons_succ, Act.put, List.setIfInBounds_toArray, List.set_cons_zero, List.set_cons_succ]
              refine wpAnyH_take (i := 6) (v := ?_) rfl (by kernel_rfl) (by kernel_rfl) (by kernel_rfl) (fun _ _ _ h => h) (Or.inl ⟨by rfl, ?_⟩) (by assumption) ?_
              rotate_left
              · (intro w hSw; (try dsimp only at hSw); go_simp; try with_reducible rfl)
              try simp only [List.getElem_toArray, List.getElem_cons_zero, List.getElem_cons_succ, Act.put, List.setIfInBounds_toArray, List.set_cons_zero, List.set_cons_succ]
              refine wpAnyH_take (i := 7) (v := ?_) rfl (by kernel_rfl) (by kernel_rfl) (by kernel_rfl) (fun _ _ _ h => h) (Or.inl ⟨by rfl, ?_⟩) (by assumption) ?_
              rotate_left
              · (intro w hSw; (try dsimp only at hSw); go_simp; try with_reducible rfl)
              try simp only [List.getElem_toArray, List.getElem_cons_zero, List.getElem_cons_succ, Act.put, List.setIfInBounds_toArray, List.set_cons_zero, List.set_cons_succ]
              refine wpAnyH_take (i := 8) (v := ?_) rfl (by kernel_rfl) (by kernel_rfl) (by kernel_rfl) (fun _ _ _ h => h) (Or.inl ⟨by rfl, ?_⟩) (by assumption) ?_
              rotate_left
              · (intro w hSw; (try dsimp only at hSw); go_simp; try with_reducible rfl)
              try simp only [List.getElem_toArray, List.getElem_cons_zero, List.getElem_cons_succ, Act.put, List.setIfInBounds_toArray, List.set_cons_zero, List.set_cons_succ]
              refine wpAnyH_take (i := 9) (v := ?_) rfl (by kernel_rfl) (by kernel_rfl) (by kernel_rfl) (fun _ _ _ h => h) (Or.inl ⟨by rfl, ?_⟩) (by assumption) ?_
              rotate_left
              · (intro w hSw; (try dsimp only at hSw); go_simp; try with_reducible rfl)
              try simp only [List.getElem_toArray, List.getElem_cons_zero, List.getElem_cons_succ, Act.put, List.setIfInBounds_toArray, List.set_cons_zero, List.set_cons_succ]
              refine wpAnyH_take (i := 10) (v := ?_) rfl (by kernel_rfl) (by kernel_rfl) (by kernel_rfl) (fun _ _ _ h => h) (Or.inl ⟨by rfl, ?_⟩) (by assumption) ?_
              rotate_left
              · (intro w hSw; (try dsimp only at hSw); go_simp; try with_reducible rfl)
              try simp only [List.getElem_toArray, List.getElem_cons_zero, List.getElem_cons_succ, Act.put, List.setIfInBounds_toArray, List.set_cons_zero, List.set_cons_succ]
              refine wpAnyH_take (i := 11) (v := ?_) rfl (by kernel_rfl) (by kernel_rfl) (by kernel_rfl) (fun _ _ _ h => h) (Or.inl ⟨by rfl, ?_⟩) (by assumption) ?_
              rotate_left
              · (intro w hSw; (try dsimp only at hSw); go_simp; try with_reducible rfl)
              try simp only [List.getElem_toArray, List.getElem_cons_zero, List.getElem_cons_succ, Act.put, List.setIfInBounds_toArray, List.set_cons_zero, List.set_cons_succ]
              refine wpAnyH_take (i := 12) (v := ?_) rfl (by kernel_rfl) (by kernel_rfl) (by kernel_rfl) (fun _ _ _ h => h) (Or.inl ⟨by rfl, ?_⟩) (by assumption) ?_
              rotate_left
              · (intro w hSw; (try dsimp only at hSw); go_simp; try with_reducible rfl)
              try simp only [List.getElem_toArray, List.getElem_cons_zero, List.getElem_cons_succ, Act.put, List.setIfInBounds_toArray, List.set_cons_zero, List.set_cons_succ]
              refine wpAnyH_take (i := 13) (v := ?_) rfl (by kernel_rfl) (by kernel_rfl) (by kernel_rfl) (fun _ _ _ h => h) (Or.inl ⟨by rfl, ?_⟩) (by assumption) ?_
              rotate_left
              · (intro w hSw; (try dsimp only at hSw); go_simp; try with_reducible rfl)
              try simp only [List.getElem_toArray, List.getElem_cons_zero, List.getElem_cons_succ, Act.put, List.setIfInBounds_toArray, List.set_cons_zero, List.set_cons_succ]
              refine wpAnyH_take (i := 14) (v := ?_) rfl (by kernel_rfl) (by kernel_rfl) (by kernel_rfl) (fun _ _ _ h => h) (Or.inl ⟨by rfl, ?_⟩) (by assumption) ?_
              rotate_left
              · (intro w hSw; (try dsimp only at hSw); go_simp; try with_reducible rfl)
              try simp only [List.getElem_toArray, List.getElem_cons_zero, List.getElem_cons_succ, Act.put, List.setIfInBounds_toArray, List.set_cons_zero, List.set_cons_succ]
              refine wpAnyH_ready (rs := [15]) (by kernel_rfl) (by simp) ?_
              refine AllReadyH.cons rfl (fun K hK => ?_) AllReadyH.nil
              try simp only [List.getElem_toArray]
              go_simp
              (go_at_call 56; refine (HXk.out _ (by first | exact R3.out | exact R3.out.below (k := w3.heap.size) ((Below.refl _ _).drew) (Nat.le_refl _))).mono ?_; rintro e w5 ⟨rfl, hbd⟩; have hb5 : Below w3.heap.size w3 w5 := (by first | exact hbd | exact ⟨hbd.os, hbd.tape, hbd.output, hbd.size, hbd.block⟩); clear hbd; have X5 := Lib.hid (X3.out.next hb5 X3.out.lt); have B5 := Lib.hid (HBF.out.trans (hb5.mono HBF.out.size)); have z0 := X5.out.out.at0; have z1 := X5.out.out.at1; have z2 := (hb5.cell (p := ⟨g, off + i, none⟩) (World.block_lt_of_cell? _ _ hc3)).trans hc3)
              refine hK.out _ _ (by first | exact ⟨x0, x1, hc3⟩ | exact ⟨z0, z1, z2⟩ | go_keep) (fun hHeld => ?_)
              clear hK K
              try simp only [List.getElem_toArray, List.getElem_cons_zero, List.getElem_cons_succ, Act.put, List.setIfInBounds_toArray, List.set_cons_zero, List.set_cons_succ]
              refine wpAnyH_take (i := 16) (v := ?_) rfl (by kernel_rfl) (by kernel_rfl) (by kernel_rfl) (fun _ _ _ h => h) (Or.inl ⟨by rfl, ?_⟩) (by assumption) ?_
              rotate_left
              · (intro w hSw; (try dsimp only at hSw); go_simp; try with_reducible rfl)
              try simp only [List.getElem_toArray, List.getElem_cons_zero, List.getElem_cons_succ, Act.put, List.setIfInBounds_toArray, List.set_cons_zero, List.set_cons_succ]
              refine wpAnyH_done (by kernel_rfl) ?_ _
              all_goals
                go_wp2_with fail
                go_roundw
                case rel => exact ⟨k + 1, y, by omega, by go_num, rfl, mx_iff HMY.out HNX.out, B5.out⟩
                case measure => simp [intOf]; omega
            · skip
              have hbd : decide (y < (c : Int)) = false := decide_eq_false hbig
              go_wp2_with fail
              refine wp_region_held_drew (S := fun w' => w'.cell? ⟨o, 0, none⟩ = some (.int .i64 (m : Int)) ∧ w'.cell? ⟨o, 1, none⟩ = some (.slice (some ⟨g, off, none⟩) L cap) ∧ w'.cell? ⟨g, off + i, none⟩ = some (.int .i64 (u : Int))) (by kernel_rfl) (by first | exact ⟨x0, x1, hc3⟩ | exact ⟨z0, z1, z2⟩ | go_keep) (fun hHeld => ?_)
              refine wpAnyH_take (i := 0) (v := ?_) rfl (by kernel_rfl) (by kernel_rfl) (by kernel_rfl) (fun _ _ _ h => h) (Or.inl ⟨by rfl, ?_⟩) (by assumption) ?_
              rotate_left
              · (intro w hSw; (try dsimp only at hSw); go_simp; try with_reducible rfl)
              try simp only [List.getElem_toArray, List.getElem_cons_zero, Act.put, List.setIfInBounds_toArray, List.set_cons_zero, List.set_cons_succ]
              refine wpAnyH_take (i := 2) (v := ?_) rfl (by kernel_rfl) (by kernel_rfl) (by kernel_rfl) (fun _ _ _ h => h) (Or.inl ⟨by rfl, ?_⟩) (by assumption) ?_
              rotate_left
              · (intro w hSw; (try dsimp only at hSw); go_simp; try with_reducible rfl)
              try simp only [List.getElem_toArray, List.getElem_cons_zero, List.getElem_cons_succ, Act.put, List.setIfInBounds_toArray, List.set_cons_zero, List.set_cons_succ]
              refine wpAnyH_ready (rs := [1]) (by kernel_rfl) (by simp) ?_
              refine AllReadyH.cons rfl (fun K hK => ?_) AllReadyH.nil
              try simp only [List.getElem_toArray]
              go_simp
              (go_at_call 48; refine (HSk.out _).mono ?_; rintro e w98 ⟨rfl, hw98⟩; subst w98)
              refine hK.out _ _ (by first | exact ⟨x0, x1, hc3⟩ | exact ⟨z0, z1, z2⟩ | go_keep) (fun hHeld => ?_)
              clear hK K
              try simp only [List.getElem_toArray, List.getElem_cons_zero, List.getElem_cons_succ, Act.put, List.setIfInBounds_toArray, List.set_cons_zero, List.set_cons_succ]
              refine wpAnyH_take (i := 3) (v := ?_) rfl (by kernel_rfl) (by kernel_rfl) (by kernel_rfl) (fun _ _ _ h => h) (Or.inl ⟨by rfl, ?_⟩) (by assumption) ?_
              rotate_left
              · (intro w hSw; (try dsimp only at hSw); go_simp; try with_reducible rfl)
              try simp only [List.getElem_toArray, List.getElem_cons_zero, List.getElem_cons_succ, Act.put, List.setIfInBounds_toArray, List.set_cons_zero, List.set_cons_succ]
              refine wpAnyH_take (i := 4) (v := ?_) rfl (by kernel_rfl) (by kernel_rfl) (by kernel_rfl) (fun _ _ _ h => h) (Or.inl ⟨by rfl, ?_⟩) (by assumption) ?_
              rotate_left
              · (intro w hSw; (try dsimp only at hSw); go_simp; try with_reducible rfl)
              try simp only [List.getElem_toArray, List.getElem_cons_zero, List.getElem_cons_succ, Act.put, List.setIfInBounds_toArray, List.set_cons_zero, List.set_cons_succ]
              refine wpAnyH_take (i := 5) (v := undef) rfl (by kernel_rfl) (by kernel_rfl) (by kernel_rfl) (fun _ _ _ h => h) (Or.inr ⟨by rfl, rfl⟩) (by assumption) ?_
              try simp only [List.getElem_toArray, List.getElem_cons_zero, List.getElem_cons_succ, Act.put, List.setIfInBounds_toArray, List.set_cons_zero, List.set_cons_succ]
              refine wpAnyH_take (i := 6) (v := undef) rfl (by kernel_rfl) (by kernel_rfl) (by kernel_rfl) (fun _ _ _ h => h) (Or.inr ⟨by rfl, rfl⟩) (by assumption) ?_
              try simp only [List.getElem_toArray, List.getElem_cons_zero, List.getElem_cons_succ, Act.put, List.setIfInBounds_toArray, List.set_cons_zero, List.set_cons_succ]
              refine wpAnyH_take (i := 7) (v := undef) rfl (by kernel_rfl) (by kernel_rfl) (by kernel_rfl) (fun _ _ _ h => h) (Or.inr ⟨by rfl, rfl⟩) (by assumption) ?_
              try simp only [List.getElem_toArray, List.getElem_cons_zero, List.getElem_cons_succ, Act.put, List.setIfInBounds_toArray, List.set_cons_zero, List.set_cons_succ]
              refine wpAnyH_take (i := 8) (v := undef) rfl (by kernel_rfl) (by kernel_rfl) (by kernel_rfl) (fun _ _ _ h => h) (Or.inr ⟨by rfl, rfl⟩) (by assumption) ?_
              try simp only [List.getElem_toArray, List.getElem_cons_zero, List.getElem_cons_succ, Act.put, List.setIfInBounds_toArray, List.set_cons_zero, List.set_cons_succ]
              refine wpAnyH_take (i := 9) (v := undef) rfl (by kernel_rfl) (by kernel_rfl) (by kernel_rfl) (fun _ _ _ h => h) (Or.inr ⟨by rfl, rfl⟩) (by assumption) ?_
              try simp only [List.getElem_toArray, List.getElem_cons_zero, List.getElem_cons_succ, Act.put, List.setIfInBounds_toArray, List.set_cons_zero, List.set_cons_succ]
              refine wpAnyH_take (i := 10) (v := undef) rfl (by kernel_rfl) (by kernel_rfl) (by kernel_rfl) (fun _ _ _ h => h) (Or.inr ⟨by rfl, rfl⟩) (by assumption) ?_
              try simp only [List.getElem_toArray, List.getElem_cons_zero, List.getElem_cons_succ, Act.put, List.setIfInBounds_toArray, List.set_cons_zero, List.set_cons_succ]
              refine wpAnyH_take (i := 11) (v := undef) rfl (by kernel_rfl) (by kernel_rfl) (by kernel_rfl) (fun _ _ _ h => h) (Or.inr ⟨by rfl, rfl⟩) (by assumption) ?_
              try simp only [List.getElem_toArray, List.getElem_cons_zero, List.getElem_cons_succ, Act.put, List.setIfInBounds_toArray, List.set_cons_zero, List.set_cons_succ]
              refine wpAnyH_take (i := 12) (v := undef) rfl (by kernel_rfl) (by kernel_rfl) (by kernel_rfl) (fun _ _ _ h => h) (Or.inr ⟨by rfl, rfl⟩) (by assumption) ?_
              try simp only [List.getElem_toArray, List.getElem_cons_zero, List.getElem_cons_succ, Act.put, List.setIfInBounds_toArray, List.set_cons_zero, List.set_cons_succ]
              refine wpAnyH_take (i := 13) (v := undef) rfl (by kernel_rfl) (by kernel_rfl) (by kernel_rfl) (fun _ _ _ h => h) (Or.inr ⟨by rfl, rfl⟩) (by assumption) ?_
              try simp only [List.getElem_toArray, List.getElem_cons_zero, List.getElem_cons_succ, Act.put, List.setIfInBounds_toArray, List.set_cons_zero, List.set_cons_succ]
              refine wpAnyH_take (i := 14) (v := undef) rfl (by kernel_rfl) (by kernel_rfl) (by kernel_rfl) (fun _ _ _ h => h) (Or.inr ⟨by rfl, rfl⟩) (by assumption) ?_
              try simp only [List.getElem_toArray, List.getElem_cons_zero, List.getElem_cons_succ, Act.put, List.setIfInBounds_toArray, List.set_cons_zero, List.set_cons_succ]
              refine wpAnyH_take (i := 15) (v := undef) rfl (by kernel_rfl) (by kernel_rfl) (by kernel_rfl) (fun _ _ _ h => h) (Or.inr ⟨by rfl, rfl⟩) (by assumption) ?_
              try simp only [List.getElem_toArray, List.getElem_cons_zero, List.getElem_cons_succ, Act.put, List.setIfInBounds_toArray, List.set_cons_zero, List.set_cons_succ]
              refine wpAnyH_take (i := 16) (v := ?_) rfl (by kernel_rfl) (by kernel_rfl) (by kernel_rfl) (fun _ _ _ h => h) (Or.inl ⟨by rfl, ?_⟩) (by assumption) ?_
              rotate_left
              · (intro w hSw; (try dsimp only at hSw); go_simp; try with_reducible rfl)
              try simp only [List.getElem_toArray, List.getElem_cons_zero, List.getElem_cons_succ, Act.put, List.setIfInBounds_toArray, List.set_cons_zero, List.set_cons_succ]
              refine wpAnyH_done (by kernel_rfl) ?_ _
              all_goals
                go_wp2_with fail
                go_roundw
                case rel => exact ⟨k + 1, y, by omega, by go_num, rfl, mx_iff HMY.out HNX.out, by first | exact HBF.out | exact HBF.out.drew⟩
                case measure => simp [intOf]; omega
          | false =>
            rw [hst] at HXk
            have HNX := Lib.hid (HSY.out hst)
            clear hst HSN HSY
            obtain ⟨c, hc⟩ : ∃ c, c = pc k := ⟨_, rfl⟩
            rw [← hc] at HSk HNX
            clear hc
            by_cases hbig : y < (c : Int)
            · skip
              have hbd : decide (y < (c : Int)) = true := decide_eq_true hbig
              go_wp2_with fail
              refine wp_region_held_drew (S := fun w' => w'.cell? ⟨o, 0, none⟩ = some (.int .i64 (m : Int)) ∧ w'.cell? ⟨o, 1, none⟩ = some (.slice (some ⟨g, off, none⟩) L cap) ∧ w'.cell? ⟨g, off + i, none⟩ = some (.int .i64 (u : Int))) (by kernel_rfl) (by first | exact ⟨x0, x1, hc3⟩ | exact ⟨z0, z1, z2⟩ | go_keep) (fun hHeld => ?_)
              refine wpAnyH_take (i := 0) (v := ?_) rfl (by kernel_rfl) (by kernel_rfl) (by kernel_rfl) (fun _ _ _ h => h) (Or.inl ⟨by rfl, ?_⟩) (by assumption) ?_
              rotate_left
              · (intro w hSw; (try dsimp only at hSw); go_simp; try with_reducible rfl)
              try simp only [List.getElem_toArray, List.getElem_cons_zero, Act.put, List.setIfInBounds_toArray, List.set_cons_zero, List.set_cons_succ]
              refine wpAnyH_take (i := 2) (v := ?_) rfl (by kernel_rfl) (by kernel_rfl) (by kernel_rfl) (fun _ _ _ h => h) (Or.inl ⟨by rfl, ?_⟩) (by assumption) ?_
              rotate_left
              · (intro w hSw; (try dsimp only at hSw); go_simp; try with_reducible rfl)
              try simp only [List.getElem_toArray, List.getElem_cons_zero, List.getElem_cons_succ, Act.put, List.setIfInBounds_toArray, List.set_cons_zero, List.set_cons_succ]
              refine wpAnyH_ready (rs := [1]) (by kernel_rfl) (by simp) ?_
              refine AllReadyH.cons rfl (fun K hK => ?_) AllReadyH.nil
              try simp only [List.getElem_toArray]
              go_simp
              (go_at_call 48; refine (HSk.out _).mono ?_; rintro e w98 ⟨rfl, hw98⟩; subst w98)
              refine hK.out _ _ (by first | exact ⟨x0, x1, hc3⟩ | exact ⟨z0, z1, z2⟩ | go_keep) (fun hHeld => ?_)
              clear hK K
              try simp only [List.getElem_toArray, List.getElem_cons_zero, List.getElem_cons_succ, Act.put, List.setIfInBounds_toArray, List.set_cons_zero, List.set_cons_succ]
              refine wpAnyH_take (i := 3) (v := ?_) rfl (by kernel_rfl) (by kernel_rfl) (by kernel_rfl) (fun _ _ _ h => h) (Or.inl ⟨by rfl, ?_⟩) (by assumption) ?_
              rotate_left
              · (intro w hSw; (try dsimp only at hSw); go_simp; try with_reducible rfl)
              try simp only [List.getElem_toArray, List.getElem_cons_zero, List.getElem_cons_succ, Act.put, List.setIfInBounds_toArray, List.set_cons_zero, List.set_cons_succ]
              refine wpAnyH_take (i := 4) (v := ?_) rfl (by kernel_rfl) (by kernel_rfl) (by kernel_rfl) (fun _ _ _ h => h) (Or.inl ⟨by rfl, ?_⟩) (by assumption) ?_
              rotate_left
              · (intro w hSw; (try dsimp only at hSw); go_simp; try with_reducible rfl)
              try simp only [List.getElem_toArray, List.getElem_cons_zero, List.getElem_cons_succ, Act.put, List.setIfInBounds_toArray, List.set_cons_zero, List.set_cons_succ]
              refine wpAnyH_take (i := 5) (v := ?_) rfl (by kernel_rfl) (by kernel_rfl) (by kernel_rfl) (fun _ _ _ h => h) (Or.inl ⟨by rfl, ?_⟩) (by assumption) ?_
              rotate_left
              · (intro w hSw; (try dsimp only at hSw); go_simp; try with_reducible rfl)
              try simp only [List.getElem_toArray, List.getElem_cons_zero, List.getElem_cons_succ, Act.put, List.setIfInBounds_toArray, List.set_cons_zero, List.set_cons_succ]
              refine wpAnyH_take (i := 6) (v := ?_) rfl (by kernel_rfl) (by kernel_rfl) (by kernel_rfl) (fun _ _ _ h => h) (Or.inl ⟨by rfl, ?_⟩) (by assumption) ?_
              rotate_left
              · (intro w hSw; (try dsimp only at hSw); go_simp; try with_reducible rfl)
              try simp only [List.getElem_toArray, List.getElem_cons_zero, List.getElem_cons_succ, Act.put, List.setIfInBounds_toArray, List.set_cons_zero, List.set_cons_succ]
              refine wpAnyH_take (i := 7) (v := ?_) rfl (by kernel_rfl) (by kernel_rfl) (by kernel_rfl) (fun _ _ _ h => h) (Or.inl ⟨by rfl, ?_⟩) (by assumption) ?_
              rotate_left
              · (intro w hSw; (try dsimp only at hSw); go_simp; try with_reducible rfl)
              try simp only [List.getElem_toArray, List.getElem_cons_zero, List.getElem_cons_succ, Act.put, List.setIfInBounds_toArray, List.set_cons_zero, List.set_cons_succ]
              refine wpAnyH_take (i := 8) (v := ?_) rfl (by kernel_rfl) (by kernel_rfl) (by kernel_rfl) (fun _ _ _ h => h) (Or.inl ⟨by rfl, ?_⟩) (by assumption) ?_
              rotate_left
              · (intro w hSw; (try dsimp only at hSw); go_simp; try with_reducible rfl)
              try simp only [List.getElem_toArray, List.getElem_cons_zero, List.getElem_cons_succ, Act.put, List.setIfInBounds_toArray, List.set_cons_zero, List.set_cons_succ]
              refine wpAnyH_take (i := 9) (v := ?_) rfl (by kernel_rfl) (by kernel_rfl) (by kernel_rfl) (fun _ _ _ h => h) (Or.inl ⟨by rfl, ?_⟩) (by assumption) ?_
              rotate_left
              · (intro w hSw; (try dsimp only at hSw); go_simp; try with_reducible rfl)
              try simp only [List.getElem_toArray, List.getElem_cons_zero, List.getElem_cons_succ, Act.put, List.setIfInBounds_toArray, List.set_cons_zero, List.set_cons_succ]
              refine wpAnyH_take (i := 10) (v := ?_) rfl (by kernel_rfl) (by kernel_rfl) (by kernel_rfl) (fun _ _ _ h => h) (Or.inl ⟨by rfl, ?_⟩) (by assumption) ?_
              rotate_left
              · (intro w hSw; (try dsimp only at hSw); go_simp; try with_reducible rfl)
              try simp only [List.getElem_toArray, List.getElem_cons_zero, List.getElem_cons_succ, Act.put, List.setIfInBounds_toArray, List.set_cons_zero, List.set_cons_succ]
              refine wpAnyH_take (i := 11) (v := ?_) rfl (by kernel_rfl) (by kernel_rfl) (by kernel_rfl) (fun _ _ _ h => h) (Or.inl ⟨by rfl, ?_⟩) (by assumption) ?_
              rotate_left
              · (intro w hSw; (try dsimp only at hSw); go_simp; try with_reducible rfl)
              try simp only [List.getElem_toArray, List.getElem_cons_zero, List.getElem_cons_succ, Act.put, List.setIfInBounds_toArray, List.set_cons_zero, List.set_cons_succ]
              refine wpAnyH_take (i := 12) (v := ?_) rfl (by kernel_rfl) (by kernel_rfl) (by kernel_rfl) (fun _ _ _ h => h) (Or.inl ⟨by rfl, ?_⟩) (by assumption) ?_
              rotate_left
              · (intro w hSw; (try dsimp only at hSw); go_simp; try with_reducible rfl)
              try simp only [List.getElem_toArray, List.getElem_cons_zero, List.getElem_cons_succ, Act.put, List.setIfInBounds_toArray, List.set_cons_zero, List.set_cons_succ]
              refine wpAnyH_take (i := 13) (v := ?_) rfl (by kernel_rfl) (by kernel_rfl) (by kernel_rfl) (fun _ _ _ h => h) (Or.inl ⟨by rfl, ?_⟩) (by assumption) ?_
              rotate_left
              · (intro w hSw; (try dsimp only at hSw); go_simp; try with_reducible rfl)
              try simp only [List.getElem_toArray, List.getElem_cons_zero, List.getElem_cons_succ, Act.put, List.setIfInBounds_toArray, List.set_cons_zero, List.set_cons_succ]
              refine wpAnyH_take (i := 14) (v := ?_) rfl (by kernel_rfl) (by kernel_rfl) (by kernel_rfl) (fun _ _ _ h => h) (Or.inl ⟨by rfl, ?_⟩) (by assumption) ?_
              rotate_left
              · (intro w hSw; (try dsimp only at hSw); go_simp; try with_reducible rfl)
              try simp only [List.getElem_toArray, List.getElem_cons_zero, List.getElem_cons_succ, Act.put, List.setIfInBounds_toArray, List.set_cons_zero, List.set_cons_succ]
              refine wpAnyH_ready (rs := [15]) (by kernel_rfl) (by simp) ?_
              refine AllReadyH.cons rfl (fun K hK => ?_) AllReadyH.nil
              try simp only [List.getElem_toArray]
              go_simp
              (go_at_call 56; refine (HXk.out _ (by first | exact R3.out | exact R3.out.below (k := w3.heap.size) ((Below.refl _ _).drew) (Nat.le_refl _))).mono ?_; rintro e w5 ⟨rfl, hbd⟩; have hb5 : Below w3.heap.size w3 w5 := (by first | exact hbd | exact ⟨hbd.os, hbd.tape, hbd.output, hbd.size, hbd.block⟩); clear hbd; have X5 := Lib.hid (X3.out.next hb5 X3.out.lt); have B5 := Lib.hid (HBF.out.trans (hb5.mono HBF.out.size)); have z0 := X5.out.out.at0; have z1 := X5.out.out.at1; have z2 := (hb5.cell (p := ⟨g, off + i, none⟩) (World.block_lt_of_cell? _ _ hc3)).trans hc3)
              refine hK.out _ _ (by first | exact ⟨x0, x1, hc3⟩ | exact ⟨z0, z1, z2⟩ | go_keep) (fun hHeld => ?_)
              clear hK K
              try simp only [List.getElem_toArray, List.getElem_cons_zero, List.getElem_cons_succ, Act.put, List.setIfInBounds_toArray, List.set_cons_zero, List.set_cons_succ]
              refine wpAnyH_take (i := 16) (v := ?_) rfl (by kernel_rfl) (by kernel_rfl) (by kernel_rfl) (fun _ _ _ h => h) (Or.inl ⟨by rfl, ?_⟩) (by assumption) ?_
              rotate_left
              · (intro w hSw; (try dsimp only at hSw); go_simp; try with_reducible rfl)
              try simp only [List.getElem_toArray, List.getElem_cons_zero, List.getElem_cons_succ, Act.put, List.setIfInBounds_toArray, List.set_cons_zero, List.set_cons_succ]
              refine wpAnyH_done (by kernel_rfl) ?_ _
              all_goals
                go_wp2_with fail
                refine (HSk.out _).mono ?_
                rintro e w9 ⟨rfl, hw9⟩
                subst w9
                go_wp2_with fail
                go_roundw
                case rel => exact ⟨k + 1, (c : Int), by omega, by go_num, rfl, mx_iff (mx_take HMY.out hbig) HNX.out, B5.out⟩
                case measure => simp [intOf]; omega
            · skip
              have hbd : decide (y < (c : Int)) = false := decide_eq_false hbig
              go_wp2_with fail
              refine wp_region_held_drew (S := fun w' => w'.cell? ⟨o, 0, none⟩ = some (.int .i64 (m : Int)) ∧ w'.cell? ⟨o, 1, none⟩ = some (.slice (some ⟨g, off, none⟩) L cap) ∧ w'.cell? ⟨g, off + i, none⟩ = some (.int .i64 (u : Int))) (by kernel_rfl) (by first | exact ⟨x0, x1, hc3⟩ | exact ⟨z0, z1, z2⟩ | go_keep) (fun hHeld => ?_)
              refine wpAnyH_take (i := 0) (v := ?_) rfl (by kernel_rfl) (by kernel_rfl) (by kernel_rfl) (fun _ _ _ h => h) (Or.inl ⟨by rfl, ?_⟩) (by assumption) ?_
              rotate_left
              · (intro w hSw; (try dsimp only at hSw); go_simp; try with_reducible rfl)
              try simp only [List.getElem_toArray, List.getElem_cons_zero, Act.put, List.setIfInBounds_toArray, List.set_cons_zero, List.set_cons_succ]
              refine wpAnyH_take (i := 2) (v := ?_) rfl (by kernel_rfl) (by kernel_rfl) (by kernel_rfl) (fun _ _ _ h => h) (Or.inl ⟨by rfl, ?_⟩) (by assumption) ?_
              rotate_left
              · (intro w hSw; (try dsimp only at hSw); go_simp; try with_reducible rfl)
              try simp only [List.getElem_toArray, List.getElem_cons_zero, List.getElem_cons_succ, Act.put, List.setIfInBounds_toArray, List.set_cons_zero, List.set_cons_succ]
              refine wpAnyH_ready (rs := [1]) (by kernel_rfl) (by simp) ?_
              refine AllReadyH.cons rfl (fun K hK => ?_) AllReadyH.nil
              try simp only [List.getElem_toArray]
              go_simp
              (go_at_call 48; refine (HSk.out _).mono ?_; rintro e w98 ⟨rfl, hw98⟩; subst w98)
              refine hK.out _ _ (by first | exact ⟨x0, x1, hc3⟩ | exact ⟨z0, z1, z2⟩ | go_keep) (fun hHeld => ?_)
              clear hK K
              try simp only [List.getElem_toArray, List.getElem_cons_zero, List.getElem_cons_succ, Act.put, List.setIfInBounds_toArray, List.set_cons_zero, List.set_cons_succ]
              refine wpAnyH_take (i := 3) (v := ?_) rfl (by kernel_rfl) (by kernel_rfl) (by kernel_rfl) (fun _ _ _ h => h) (Or.inl ⟨by rfl, ?_⟩) (by assumption) ?_
              rotate_left
              · (intro w hSw; (try dsimp only at hSw); go_simp; try with_reducible rfl)
              try simp only [List.getElem_toArray, List.getElem_cons_zero, List.getElem_cons_succ, Act.put, List.setIfInBounds_toArray, List.set_cons_zero, List.set_cons_succ]
              refine wpAnyH_take (i := 4) (v := ?_) rfl (by kernel_rfl) (by kernel_rfl) (by kernel_rfl) (fun _ _ _ h => h) (Or.inl ⟨by rfl, ?_⟩) (by assumption) ?_
              rotate_left
              · (intro w hSw; (try dsimp only at hSw); go_simp; try with_reducible rfl)
              try simp only [List.getElem_toArray, List.getElem_cons_zero, List.getElem_cons_succ, Act.put, List.setIfInBounds_toArray, List.set_cons_zero, List.set_cons_succ]
              refine wpAnyH_take (i := 5) (v := undef) rfl (by kernel_rfl) (by kernel_rfl) (by kernel_rfl) (fun _ _ _ h => h) (Or.inr ⟨by rfl, rfl⟩) (by assumption) ?_
              try simp only [List.getElem_toArray, List.getElem_cons_zero, List.getElem_cons_succ, Act.put, List.setIfInBounds_toArray, List.set_cons_zero, List.set_cons_succ]
              refine wpAnyH_take (i := 6) (v := undef) rfl (by kernel_rfl) (by kernel_rfl) (by kernel_rfl) (fun _ _ _ h => h) (Or.inr ⟨by rfl, rfl⟩) (by assumption) ?_
              try simp only [List.getElem_toArray, List.getElem_cons_zero, List.getElem_cons_succ, Act.put, List.setIfInBounds_toArray, List.set_cons_zero, List.set_cons_succ]
              refine wpAnyH_take (i := 7) (v := undef) rfl (by kernel_rfl) (by kernel_rfl) (by kernel_rfl) (fun _ _ _ h => h) (Or.inr ⟨by rfl, rfl⟩) (by assumption) ?_
              try simp only [List.getElem_toArray, List.getElem_cons_zero, List.getElem_cons_succ, Act.put, List.setIfInBounds_toArray, List.set_cons_zero, List.set_cons_succ]
              refine wpAnyH_take (i := 8) (v := undef) rfl (by kernel_rfl) (by kernel_rfl) (by kernel_rfl) (fun _ _ _ h => h) (Or.inr ⟨by rfl, rfl⟩) (by assumption) ?_
              try simp only [List.getElem_toArray, List.getElem_cons_zero, List.getElem_cons_succ, Act.put, List.setIfInBounds_toArray, List.set_cons_zero, List.set_cons_succ]
              refine wpAnyH_take (i := 9) (v := undef) rfl (by kernel_rfl) (by kernel_rfl) (by kernel_rfl) (fun _ _ _ h => h) (Or.inr ⟨by rfl, rfl⟩) (by assumption) ?_
              try simp only [List.getElem_toArray, List.getElem_cons_zero, List.getElem_cons_succ, Act.put, List.setIfInBounds_toArray, List.set_cons_zero, List.set_cons_succ]
              refine wpAnyH_take (i := 10) (v := undef) rfl (by kernel_rfl) (by kernel_rfl) (by kernel_rfl) (fun _ _ _ h => h) (Or.inr ⟨by rfl, rfl⟩) (by assumption) ?_
              try simp only [List.getElem_toArray, List.getElem_cons_zero, List.getElem_cons_succ, Act.put, List.setIfInBounds_toArray, List.set_cons_zero, List.set_cons_succ]
              refine wpAnyH_take (i := 11) (v := undef) rfl (by kernel_rfl) (by kernel_rfl) (by kernel_rfl) (fun _ _ _ h => h) (Or.inr ⟨by rfl, rfl⟩) (by assumption) ?_
              try simp only [List.getElem_toArray, List.getElem_cons_zero, List.getElem_cons_succ, Act.put, List.setIfInBounds_toArray, List.set_cons_zero, List.set_cons_succ]
              refine wpAnyH_take (i := 12) (v := undef) rfl (by kernel_rfl) (by kernel_rfl) (by kernel_rfl) (fun _ _ _ h => h) (Or.inr ⟨by rfl, rfl⟩) (by assumption) ?_
              try simp only [List.getElem_toArray, List.getElem_cons_zero, List.getElem_cons_succ, Act.put, List.setIfInBounds_toArray, List.set_cons_zero, List.set_cons_succ]
              refine wpAnyH_take (i := 13) (v := undef) rfl (by kernel_rfl) (by kernel_rfl) (by kernel_rfl) (fun _ _ _ h => h) (Or.inr ⟨by rfl, rfl⟩) (by assumption) ?_
              try simp only [List.getElem_toArray, List.getElem_cons_zero, List.getElem_cons_succ, Act.put, List.setIfInBounds_toArray, List.set_cons_zero, List.set_cons_succ]
              refine wpAnyH_take (i := 14) (v := undef) rfl (by kernel_rfl) (by kernel_rfl) (by kernel_rfl) (fun _ _ _ h => h) (Or.inr ⟨by rfl, rfl⟩) (by assumption) ?_
              try simp only [List.getElem_toArray, List.getElem_cons_zero, List.getElem_cons_succ, Act.put, List.setIfInBounds_toArray, List.set_cons_zero, List.set_cons_succ]
              refine wpAnyH_take (i := 15) (v := undef) rfl (by kernel_rfl) (by kernel_rfl) (by kernel_rfl) (fun _ _ _ h => h) (Or.inr ⟨by rfl, rfl⟩) (by assumption) ?_
              try simp only [List.getElem_toArray, List.getElem_cons_zero, List.getElem_cons_succ, Act.put, List.setIfInBounds_toArray, List.set_cons_zero, List.set_cons_succ]
              refine wpAnyH_take (i := 16) (v := ?_) rfl (by kernel_rfl) (by kernel_rfl) (by kernel_rfl) (fun _ _ _ h => h) (Or.inl ⟨by rfl, ?_⟩) (by assumption) ?_
              rotate_left
              · (intro w hSw; (try dsimp only at hSw); go_simp; try with_reducible rfl)
              try simp only [List.getElem_toArray, List.getElem_cons_zero, List.getElem_cons_succ, Act.put, List.setIfInBounds_toArray, List.set_cons_zero, List.set_cons_succ]
              refine wpAnyH_done (by kernel_rfl) ?_ _
              all_goals
                go_wp2_with fail
                go_roundw
                case rel => exact ⟨k + 1, y, by omega, by go_num, rfl, mx_iff (mx_leave HMY.out (by omega)) HNX.out, by first | exact HBF.out | exact HBF.out.drew⟩
                case measure => simp [intOf]; omega
        · obtain rfl : k = q := by omega
          have HEN := Lib.hid (show MaxOf (StA m ns (i + 1)) y from by
            have h9 := HMY.out
            rw [HQ.out] at h9
            exact mx_iff h9 (fun z => stB_all z))
          go_wp2_with fail
          refine (HP.out _).mono ?_
          rintro e w9 ⟨rfl, hw9⟩
          subst w9
          go_wp2_with fail
          go_roundw
          case rel => exact ⟨i + 1, y, by omega, by go_num, rfl, HEN.out, HBE.out.trans (HBF.out.mono HBE.out.size)⟩
          case measure => simp [intOf]; omega
    · obtain rfl : i = L := by omega
      go_wp2_with fail
      go_ret
      exact ⟨⟨z, rfl, HMX.out⟩, by rw [ho]; exact B0.out.trans (HBE.out.mono (by have := B0.out.size; omega))⟩

theorem pt_in {x m s : Nat} (hs : s < 2 ^ m) (h : hasX x s = true) : x < m := by
  by_cases hx : x < m
  · exact hx
  · exfalso
    have h2 : 2 ^ m ≤ 2 ^ x := Nat.pow_le_pow_right (by omega) (by omega)
    simp only [hasX, decide_eq_true_eq] at h
    rw [Nat.div_eq_of_lt (by omega)] at h
    omega
theorem stTo_cen {m t s : Nat} {ns : List Nat} (hm : m ≤ 5) (ht : t < 32) (hs : s < 2 ^ m) : stTo ns t s m = false ↔ cen ns t s := by
  have key : ∀ y, y < 5 → ((t &&& s) ^^^ 2 ^ y ∈ tr ns s ↔ ∃ u ∈ ns, (u ^^^ t) &&& s = 2 ^ y) := fun y hy => by
    have hb : (t &&& s) ^^^ 2 ^ y < 32 := Nat.xor_lt_two_pow (n := 5) (Nat.lt_of_le_of_lt Nat.and_le_left ht) (Nat.pow_lt_pow_right (by omega) hy)
    rw [mem_tr hb]
    constructor
    · rintro ⟨u, hu, e⟩; exact ⟨u, hu, by rw [Nat.and_xor_distrib_right]; exact xor_shift.1 e⟩
    · rintro ⟨u, hu, e⟩; rw [Nat.and_xor_distrib_right] at e; exact ⟨u, hu, xor_shift.2 e⟩
  rw [stTo, List.any_eq_false]
  constructor
  · intro h y hy hx
    have h1 := h y (List.mem_range.2 (pt_in hs hx))
    rw [stP, hx] at h1
    exact (key y hy).1 (by simpa using h1)
  · intro h y hy
    have hy := List.mem_range.1 hy
    rw [stP, Bool.and_eq_true, not_and]
    intro hx
    have h1 := (key y (by omega)).2 (h y (by omega) hx)
    simp [h1]
theorem star_one {m : Nat} {ns : List Nat} (hc : Cls m ns) {b : Int} (h : MaxOf (StA m ns ns.length) b) : b = starM m ns := by
  refine mx_one (fun z hz => ?_) h (mx_iff (starM_max hc.pts ns) (fun z => ?_))
  · obtain ⟨_, _, s, _, _, e⟩ := hz
    omega
  · constructor
    · rintro ⟨s, hs, ⟨t, ht, h2⟩, e⟩
      obtain ⟨i, hi, rfl⟩ := List.getElem_of_mem ht
      refine ⟨i, hi, s, hs, ?_, e⟩
      rw [List.getD_eq_getElem?_getD, List.getElem?_eq_getElem hi, Option.getD_some]
      exact (stTo_cen hc.pts (hc.lt32 _ ht) hs).2 h2
    · rintro ⟨i, hi, s, hs, h2, e⟩
      exact ⟨s, hs, ⟨ns.getD i 0, getD_of_lt hi, (stTo_cen hc.pts (hc.lt32 _ (getD_of_lt hi)) hs).1 h2⟩, e⟩


end Go.Proofs.YtnmilfkocheaiaaGreatDoor
