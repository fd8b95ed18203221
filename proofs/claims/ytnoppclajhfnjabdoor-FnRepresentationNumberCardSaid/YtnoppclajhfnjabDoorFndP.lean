/- findPlan, the model's: the first plan of sets with few points. Conditions: Sets is a slice of ints, the plan so far is one of its own. -/
import Derived.Test.YtnoppclajhfnjabDoorPlnM
import Derived.Test.YtnoppclajhfnjabDoorRepS
import Derived.Test.YtnoppclajhfnjabDoorZA
import Derived.Test.YtnoppclajhfnjabDoorZY
namespace Go.Proofs.YtnoppclajhfnjabDoor
open Go.RowKit

theorem Ints.isrc {B n c : Nat} {w : World} {a : Option Addr} {xs : List Int} (h : Ints B w (.slice a n c) xs) : Src w a n c xs := by
  refine h.rd.src (fun e => ?_)
  obtain ⟨a', g, cap, e2, _, hn, _⟩ := h.shape
  simp only [Value.slice.injEq] at e2
  obtain ⟨rfl, rfl, rfl⟩ := e2
  obtain ⟨rfl, rfl⟩ := hn e
  exact ⟨rfl, rfl⟩
/-- what findPlan answers -/
def PlnPost (B : Nat) (w : World) (A : Option (List Nat)) (e : Ending) (w' : World) : Prop :=
  Below w.heap.size w w' ∧ match A with
    | none => e = .returned (.tuple #[.slice none 0 0, .bool false])
    | some r => ∃ a c, e = .returned (.tuple #[.slice a r.length c, .bool true]) ∧ Ints B w' (.slice a r.length c) (toI r)
theorem frm_no {ns : List Nat} {most : Int} {q k p : Nat} {pl : List Nat} (h : p < q) (ho : okP ns most pl p = false) : frmP ns most q k pl p = frmP ns most q k pl (p + 1) := by rw [frmP_lt h, ho, if_neg (by decide), Option.none_or]
theorem frm_none {ns : List Nat} {most : Int} {q k p : Nat} {pl : List Nat} (h : p < q) (ho : okP ns most pl p = true) (hf : fndP ns most q k (pl ++ [p]) = none) : frmP ns most q k pl p = frmP ns most q k pl (p + 1) := by rw [frmP_lt h, ho, if_pos rfl, hf, Option.none_or]
theorem frm_some {ns : List Nat} {most : Int} {q k p : Nat} {pl r : List Nat} (h : p < q) (ho : okP ns most pl p = true) (hf : fndP ns most q k (pl ++ [p]) = some r) : frmP ns most q k pl p = some r := by rw [frmP_lt h, ho, if_pos rfl, hf, Option.some_or]
theorem app_at {pl : List Nat} {s j : Nat} (hj : j < pl.length) : (pl ++ [s]).getD j 0 = pl.getD j 0 := by
  rw [List.getD_eq_getElem?_getD, List.getElem?_append_left hj, ← List.getD_eq_getElem?_getD]
theorem app_end (pl : List Nat) (s : Nat) : (pl ++ [s]).getD pl.length 0 = s := by
  rw [List.getD_eq_getElem?_getD, List.getElem?_append_right (Nat.le_refl _), Nat.sub_self]; rfl

set_option maxHeartbeats 12800000 in
set_option maxRecDepth 100000 in
theorem specFindPlan (m : Nat) (hm : m ≤ 5) (v : Value) (ns : List Nat) (most : Int) (h32 : ∀ t ∈ ns, t < 32) (hl : ns.length ≤ 32) (B0 : Nat) : ∀ (k : Nat) (pl : List Nat) (u : Value) (w : World), pl.length + k = ns.length → (∀ x ∈ pl, x < 32) → Rd w v (toI ns) → B0 ≤ w.heap.size → Ints B0 w u (toI pl) →
    Calls Tryd.prog 84 #[.agg #[.int .i64 (m : Int), v], .int .i64 most, u] w (PlnPost B0 w (fndP ns most (2 ^ m) k pl)) := by
  intro k
  induction k with
  | zero =>
    intro pl u w hk hpl h hB0 hu
    have HU := Lib.hid hu
    obtain ⟨a, b, off, cap, rfl, _, _, _⟩ := h
    obtain ⟨a2, g, cap2, e, _⟩ := hu.shape
    obtain ⟨c2, rfl⟩ : ∃ c2, u = .slice a2 pl.length c2 := by rw [toI_length] at e; exact ⟨_, e⟩
    have e9 : ns.length = pl.length := by omega
    rw [toI_length, e9]
    have X := Lib.hid (Bx.new (m : Int) (.slice a pl.length cap) w)
    have c1 := X.out.out.at1
    have HB := Lib.hid (show Below w.heap.size w (w.alloc (Obj.cells #[.int .i64 (m : Int), .slice a pl.length cap] 25)) from (Below.refl _ _).alloc (Nat.le_refl _) _)
    have HU2 := Lib.hid (HU.out.alloc (Obj.cells #[.int .i64 (m : Int), .slice a pl.length cap] 25))
    clear h32 hu e9 hk hl e
    go_enter Tryd.func84, Tryd.ntmps84
    go_wp2_with fail
    refine bodyPost_ret (v := .tuple #[.slice a2 pl.length c2, .bool true]) (by simp [results, Tryd.results84, go_sem]) rfl ?_
    exact ⟨HB.out, a2, c2, rfl, HU2.out⟩
  | succ k ih =>
    intro pl u w hk hpl h hB0 hu
    have H := Lib.hid h
    have HU := Lib.hid hu
    obtain ⟨a, b, off, cap, rfl, h1, _, h5⟩ := h
    obtain ⟨a2, g, cap2, e, _⟩ := hu.shape
    obtain ⟨c2, rfl⟩ : ∃ c2, u = .slice a2 pl.length c2 := by rw [toI_length] at e; exact ⟨_, e⟩
    clear e
    rw [toI_length] at *
    have H1 := Lib.hid h1
    have H5 := Lib.hid h5
    have H32 := Lib.hid h32
    have HPl := Lib.hid hpl
    have hp5 := pow_le_32 hm
    have hq0 := Nat.two_pow_pos m
    have HPW := Lib.hid (fun w => specPower (m : Int) w (by omega) (by omega))
    have hqI : (2 : Int) ^ m = ((2 ^ m : Nat) : Int) := by simp
    rw [Int.toNat_natCast, hqI] at HPW
    have IH := Lib.hid (fun s (hs : s < 32) u w h hB hu => ih (pl ++ [s]) u w (by rw [List.length_append, List.length_singleton]; omega) (fun x hx => by
      rcases List.mem_append.1 hx with e | e
      · exact hpl x e
      · rw [List.mem_singleton] at e; omega) h hB hu)
    obtain ⟨A, hA⟩ : ∃ A, A = fndP ns most (2 ^ m) (k + 1) pl := ⟨_, rfl⟩
    rw [← hA]
    rw [fndP_frm] at hA
    obtain ⟨q, hq⟩ : ∃ q, q = 2 ^ m := ⟨_, rfl⟩
    rw [← hq] at hA hp5 hq0 HPW IH
    have HA := Lib.hid hA.symm
    have X := Lib.hid (Bx.new (m : Int) (.slice a ns.length cap) w)
    have HB := Lib.hid (show Below w.heap.size w (w.alloc (Obj.cells #[.int .i64 (m : Int), .slice a ns.length cap] 25)) from (Below.refl _ _).alloc (Nat.le_refl _) _)
    have HZ := Lib.hid (show (w.alloc (Obj.cells #[.int .i64 (m : Int), .slice a ns.length cap] 25)).heap.size = w.heap.size + 1 by simp)
    have hkN : pl.length < ns.length := by omega
    have hkI : ¬ (pl.length : Int) = (ns.length : Int) := by omega
    have hkb : ((pl.length : Int) == (ns.length : Int)) = false := by simp; omega
    have HIS := Lib.hid hu.isrc
    clear h32 hu h1 h5 ih hA hqI hpl hq
    have c1 := X.out.out.at1
    go_enter Tryd.func84, Tryd.ntmps84
    go_wp2_with fail
    clear c1 hkb
    generalize (w.alloc (Obj.cells #[.int .i64 (m : Int), .slice a ns.length cap] 25)) = w1 at *
    have hz1 := HZ.out
    clear HZ
    go_loopw [9] (fun t wr => ∃ s : Nat, t = .int .i64 ((s : Nat) : Int) ∧ s ≤ q ∧ Hid (frmP ns most q k pl s = A) ∧ Hid (Below w.heap.size w wr) ∧ Hid (Bx (m : Int) (.slice a ns.length cap) w.heap.size wr)) (fun t _ => q - (intOf t).toNat)
    case atStart => exact ⟨0, rfl, Nat.zero_le _, HA, HB, X⟩
    case round =>
      obtain ⟨s, rfl, hsq, HAs, BW, XW⟩ := hrel
      have c0 := XW.out.out.at0
      have c1 := XW.out.out.at1
      by_cases hlt : s < q
      · have hltI : (s : Int) < (q : Int) := by omega
        have HSz := Lib.hid (fun w => specSize s (by omega) w)
        by_cases hsz : most < ((pc s : Nat) : Int)
        · have HNx := Lib.hid (show frmP ns most q k pl (s + 1) = A by
            rw [← frm_no hlt (by rw [okP, decide_eq_false (by omega), Bool.false_and])]
            exact HAs.out)
          generalize pc s = z at *
          go_wp2_with fail
          refine (HPW.out _).mono ?_
          rintro e w9 ⟨rfl, hw9⟩
          subst w9
          go_wp2_with fail
          refine (HSz.out _).mono ?_
          rintro e w9 ⟨rfl, hw9⟩
          subst w9
          go_wp2_with fail
          go_roundw
          case rel => exact ⟨s + 1, by go_num, by omega, HNx, BW, XW⟩
          case measure => simp [intOf]; omega
        · have HOk := Lib.hid (show okP ns most pl s = !clTo ns (pl ++ [s]) pl.length pl.length by rw [okP, decide_eq_true (by omega), Bool.true_and])
          generalize pc s = z at *
          obtain ⟨wo, hwo⟩ : ∃ wo, wo = wr := ⟨_, rfl⟩
          subst hwo
          go_wp2_with fail
          refine (HPW.out _).mono ?_
          rintro e w9 ⟨rfl, hw9⟩
          subst w9
          go_wp2_with fail
          refine (HSz.out _).mono ?_
          rintro e w9 ⟨rfl, hw9⟩
          subst w9
          go_wp2_with fail
          clear c0 c1
          go_loopw [10, 11] (fun o t wq => ∃ (j : Nat) (B : Bool), t = .int .i64 ((j : Nat) : Int) ∧ o = .bool B ∧ j ≤ pl.length ∧ Hid (B = !clTo ns (pl ++ [s]) pl.length j) ∧ Hid (Below w.heap.size w wq) ∧ Hid (Bx (m : Int) (.slice a ns.length cap) w.heap.size wq)) (fun _ t _ => pl.length - (intOf t).toNat)
          case atStart => exact ⟨0, true, rfl, rfl, Nat.zero_le _, Lib.hid rfl, BW, XW⟩
          case round =>
            obtain ⟨j, B, rfl, rfl, hj, HBj, BQ, XQ⟩ := hrel
            have c0 := XQ.out.out.at0
            have c1 := XQ.out.out.at1
            by_cases hjl : j < pl.length
            · have hjI : (j : Int) < (pl.length : Int) := by omega
              have hs2 := clTo_succ ns (pl ++ [s]) pl.length j
              rw [clsh, app_end, app_at hjl] at hs2
              obtain ⟨rfl, hbl⟩ := H1.out (by omega)
              obtain ⟨g2, rfl, -, g2l⟩ := HU.out.someAt (by omega)
              have hpj := (BQ.out.cell (p := ⟨g2, j, none⟩) g2l).trans (HU.out.cellAt j (by rw [toI_length]; exact hjl)).1
              have hcj := (BQ.out.cell (p := ⟨b, off + j, none⟩) hbl).trans (H5.out j (by omega))
              have hci := (BQ.out.cell (p := ⟨b, off + pl.length, none⟩) hbl).trans (H5.out pl.length (by omega))
              rw [toI_getD] at hpj hcj hci
              have hx32 := H32.out _ (getD_of_lt (show pl.length < ns.length by omega))
              have hy32 := H32.out _ (getD_of_lt (show j < ns.length by omega))
              have hr32 := HPl.out _ (getD_of_lt hjl)
              have hjn : (j : Int) < (ns.length : Int) := by omega
              have hin : (pl.length : Int) < (ns.length : Int) := by omega
              have HCC := Lib.hid (fun w => specClash (ns.getD pl.length 0) s (ns.getD j 0) (pl.getD j 0) hx32 (by omega) hy32 hr32 w)
              generalize ns.getD pl.length 0 = x at *
              generalize ns.getD j 0 = y at *
              generalize pl.getD j 0 = r at *
              generalize decide ((x ^^^ y) &&& (s ||| r) = 0) = cc at *
              cases B with
              | true =>
                have HN := Lib.hid (show (!cc) = !clTo ns (pl ++ [s]) pl.length (j + 1) by
                  rw [hs2]
                  have := HBj.out
                  revert this
                  cases clTo ns (pl ++ [s]) pl.length j <;> simp)
                clear hs2
                go_wp2_with fail
                go_region_held3 (fun w' => w'.cell? ⟨w.heap.size, 0, none⟩ = some (.int .i64 (m : Int)) ∧ w'.cell? ⟨w.heap.size, 1, none⟩ = some (.slice (some ⟨b, off, none⟩) ns.length cap) ∧ w'.cell? ⟨g2, j, none⟩ = some (.int .i64 (r : Int)) ∧ w'.cell? ⟨b, off + pl.length, none⟩ = some (.int .i64 (x : Int)) ∧ w'.cell? ⟨b, off + j, none⟩ = some (.int .i64 (y : Int))) (first | exact ⟨c0, c1, hpj, hci, hcj⟩ | go_keep) (first
                  | (go_at_call 120; refine (HCC.out _).mono ?_; rintro e w8 ⟨rfl, hw8⟩; subst w8))
                go_wp2_with fail
                go_roundw
                case rel => exact ⟨j + 1, !cc, by go_num, rfl, by omega, HN, by first | exact BQ | exact Lib.hid BQ.out.drew, by first | exact XQ | exact Lib.hid (XQ.out.drewN 1)⟩
                case measure => simp [intOf]; omega
              | false =>
                have HN := Lib.hid (show false = !clTo ns (pl ++ [s]) pl.length (j + 1) by
                  rw [hs2]
                  have := HBj.out
                  revert this
                  cases clTo ns (pl ++ [s]) pl.length j <;> simp)
                clear hs2
                go_wp2_with fail
                refine wp_region_held_drew (S := fun w' => w'.cell? ⟨w.heap.size, 0, none⟩ = some (.int .i64 (m : Int)) ∧ w'.cell? ⟨w.heap.size, 1, none⟩ = some (.slice (some ⟨b, off, none⟩) ns.length cap)) (by kernel_rfl) (by first | exact ⟨c0, c1⟩ | go_keep) (fun hHeld => ?_)
                refine wpAnyH_take (i := 0) (v := ?_) rfl (by kernel_rfl) (by kernel_rfl) (by kernel_rfl) (fun _ _ _ h => h) (Or.inl ⟨by rfl, ?_⟩) (by assumption) ?_
                rotate_left
                · (intro w hSw; (try dsimp only at hSw); go_simp; try with_reducible rfl)
                try simp only [List.getElem_toArray, List.getElem_cons_zero, Act.put, List.setIfInBounds_toArray, List.set_cons_zero, List.set_cons_succ]
                refine wpAnyH_take (i := 1) (v := ?_) rfl (by kernel_rfl) (by kernel_rfl) (by kernel_rfl) (fun _ _ _ h => h) (Or.inl ⟨by rfl, ?_⟩) (by assumption) ?_
                rotate_left
                · (intro w hSw; (try dsimp only at hSw); go_simp; try with_reducible rfl)
                try simp only [List.getElem_toArray, List.getElem_cons_zero, List.getElem_cons_succ, Act.put, List.setIfInBounds_toArray, List.set_cons_zero, List.set_cons_succ]
                refine wpAnyH_take (i := 2) (v := undef) rfl (by kernel_rfl) (by kernel_rfl) (by kernel_rfl) (fun _ _ _ h => h) (Or.inr ⟨by rfl, rfl⟩) (by assumption) ?_
                try simp only [List.getElem_toArray, List.getElem_cons_zero, List.getElem_cons_succ, Act.put, List.setIfInBounds_toArray, List.set_cons_zero, List.set_cons_succ]
                refine wpAnyH_take (i := 3) (v := undef) rfl (by kernel_rfl) (by kernel_rfl) (by kernel_rfl) (fun _ _ _ h => h) (Or.inr ⟨by rfl, rfl⟩) (by assumption) ?_
                try simp only [List.getElem_toArray, List.getElem_cons_zero, List.getElem_cons_succ, Act.put, List.setIfInBounds_toArray, List.set_cons_zero, List.set_cons_succ]
                refine wpAnyH_take (i := 4) (v := undef) rfl (by kernel_rfl) (by kernel_rfl) (by kernel_rfl) (fun _ _ _ h => h) (Or.inr ⟨by rfl, rfl⟩) (by assumption) ?_
                try simp only [List.getElem_toArray, List.getElem_cons_zero, List.getElem_cons_succ, Act.put, List.setIfInBounds_toArray, List.set_cons_zero, List.set_cons_succ]
                refine wpAnyH_take (i := 5) (v := undef) rfl (by kernel_rfl) (by kernel_rfl) (by kernel_rfl) (fun _ _ _ h => h) (Or.inr ⟨by rfl, rfl⟩) (by assumption) ?_
                try simp only [List.getElem_toArray, List.getElem_cons_zero, List.getElem_cons_succ, Act.put, List.setIfInBounds_toArray, List.set_cons_zero, List.set_cons_succ]
                refine wpAnyH_take (i := 6) (v := undef) rfl (by kernel_rfl) (by kernel_rfl) (by kernel_rfl) (fun _ _ _ h => h) (Or.inr ⟨by rfl, rfl⟩) (by assumption) ?_
                try simp only [List.getElem_toArray, List.getElem_cons_zero, List.getElem_cons_succ, Act.put, List.setIfInBounds_toArray, List.set_cons_zero, List.set_cons_succ]
                refine wpAnyH_take (i := 7) (v := undef) rfl (by kernel_rfl) (by kernel_rfl) (by kernel_rfl) (fun _ _ _ h => h) (Or.inr ⟨by rfl, rfl⟩) (by assumption) ?_
                try simp only [List.getElem_toArray, List.getElem_cons_zero, List.getElem_cons_succ, Act.put, List.setIfInBounds_toArray, List.set_cons_zero, List.set_cons_succ]
                refine wpAnyH_take (i := 8) (v := undef) rfl (by kernel_rfl) (by kernel_rfl) (by kernel_rfl) (fun _ _ _ h => h) (Or.inr ⟨by rfl, rfl⟩) (by assumption) ?_
                try simp only [List.getElem_toArray, List.getElem_cons_zero, List.getElem_cons_succ, Act.put, List.setIfInBounds_toArray, List.set_cons_zero, List.set_cons_succ]
                refine wpAnyH_take (i := 9) (v := undef) rfl (by kernel_rfl) (by kernel_rfl) (by kernel_rfl) (fun _ _ _ h => h) (Or.inr ⟨by rfl, rfl⟩) (by assumption) ?_
                try simp only [List.getElem_toArray, List.getElem_cons_zero, List.getElem_cons_succ, Act.put, List.setIfInBounds_toArray, List.set_cons_zero, List.set_cons_succ]
                refine wpAnyH_take (i := 10) (v := undef) rfl (by kernel_rfl) (by kernel_rfl) (by kernel_rfl) (fun _ _ _ h => h) (Or.inr ⟨by rfl, rfl⟩) (by assumption) ?_
                try simp only [List.getElem_toArray, List.getElem_cons_zero, List.getElem_cons_succ, Act.put, List.setIfInBounds_toArray, List.set_cons_zero, List.set_cons_succ]
                refine wpAnyH_take (i := 11) (v := undef) rfl (by kernel_rfl) (by kernel_rfl) (by kernel_rfl) (fun _ _ _ h => h) (Or.inr ⟨by rfl, rfl⟩) (by assumption) ?_
                try simp only [List.getElem_toArray, List.getElem_cons_zero, List.getElem_cons_succ, Act.put, List.setIfInBounds_toArray, List.set_cons_zero, List.set_cons_succ]
                refine wpAnyH_take (i := 12) (v := undef) rfl (by kernel_rfl) (by kernel_rfl) (by kernel_rfl) (fun _ _ _ h => h) (Or.inr ⟨by rfl, rfl⟩) (by assumption) ?_
                try simp only [List.getElem_toArray, List.getElem_cons_zero, List.getElem_cons_succ, Act.put, List.setIfInBounds_toArray, List.set_cons_zero, List.set_cons_succ]
                refine wpAnyH_take (i := 13) (v := undef) rfl (by kernel_rfl) (by kernel_rfl) (by kernel_rfl) (fun _ _ _ h => h) (Or.inr ⟨by rfl, rfl⟩) (by assumption) ?_
                try simp only [List.getElem_toArray, List.getElem_cons_zero, List.getElem_cons_succ, Act.put, List.setIfInBounds_toArray, List.set_cons_zero, List.set_cons_succ]
                refine wpAnyH_take (i := 14) (v := undef) rfl (by kernel_rfl) (by kernel_rfl) (by kernel_rfl) (fun _ _ _ h => h) (Or.inr ⟨by rfl, rfl⟩) (by assumption) ?_
                try simp only [List.getElem_toArray, List.getElem_cons_zero, List.getElem_cons_succ, Act.put, List.setIfInBounds_toArray, List.set_cons_zero, List.set_cons_succ]
                refine wpAnyH_take (i := 15) (v := undef) rfl (by kernel_rfl) (by kernel_rfl) (by kernel_rfl) (fun _ _ _ h => h) (Or.inr ⟨by rfl, rfl⟩) (by assumption) ?_
                try simp only [List.getElem_toArray, List.getElem_cons_zero, List.getElem_cons_succ, Act.put, List.setIfInBounds_toArray, List.set_cons_zero, List.set_cons_succ]
                refine wpAnyH_take (i := 16) (v := undef) rfl (by kernel_rfl) (by kernel_rfl) (by kernel_rfl) (fun _ _ _ h => h) (Or.inr ⟨by rfl, rfl⟩) (by assumption) ?_
                try simp only [List.getElem_toArray, List.getElem_cons_zero, List.getElem_cons_succ, Act.put, List.setIfInBounds_toArray, List.set_cons_zero, List.set_cons_succ]
                refine wpAnyH_take (i := 17) (v := undef) rfl (by kernel_rfl) (by kernel_rfl) (by kernel_rfl) (fun _ _ _ h => h) (Or.inr ⟨by rfl, rfl⟩) (by assumption) ?_
                try simp only [List.getElem_toArray, List.getElem_cons_zero, List.getElem_cons_succ, Act.put, List.setIfInBounds_toArray, List.set_cons_zero, List.set_cons_succ]
                refine wpAnyH_take (i := 18) (v := undef) rfl (by kernel_rfl) (by kernel_rfl) (by kernel_rfl) (fun _ _ _ h => h) (Or.inr ⟨by rfl, rfl⟩) (by assumption) ?_
                try simp only [List.getElem_toArray, List.getElem_cons_zero, List.getElem_cons_succ, Act.put, List.setIfInBounds_toArray, List.set_cons_zero, List.set_cons_succ]
                refine wpAnyH_take (i := 19) (v := ?_) rfl (by kernel_rfl) (by kernel_rfl) (by kernel_rfl) (fun _ _ _ h => h) (Or.inl ⟨by rfl, ?_⟩) (by assumption) ?_
                rotate_left
                · (intro w hSw; (try dsimp only at hSw); go_simp; try with_reducible rfl)
                try simp only [List.getElem_toArray, List.getElem_cons_zero, List.getElem_cons_succ, Act.put, List.setIfInBounds_toArray, List.set_cons_zero, List.set_cons_succ]
                refine wpAnyH_take (i := 20) (v := ?_) rfl (by kernel_rfl) (by kernel_rfl) (by kernel_rfl) (fun _ _ _ h => h) (Or.inl ⟨by rfl, ?_⟩) (by assumption) ?_
                rotate_left
                · (intro w hSw; (try dsimp only at hSw); go_simp; try with_reducible rfl)
                try simp only [List.getElem_toArray, List.getElem_cons_zero, List.getElem_cons_succ, Act.put, List.setIfInBounds_toArray, List.set_cons_zero, List.set_cons_succ]
                refine wpAnyH_done (by kernel_rfl) ?_ _
                go_wp2_with fail
                go_roundw
                case rel => exact ⟨j + 1, false, by go_num, rfl, by omega, HN, by first | exact BQ | exact Lib.hid BQ.out.drew, by first | exact XQ | exact Lib.hid (XQ.out.drewN 1)⟩
                case measure => simp [intOf]; omega
            · obtain rfl : j = pl.length := by omega
              have hjI : ¬ (pl.length : Int) < (pl.length : Int) := by omega
              have HOk2 := Lib.hid (HOk.out.trans HBj.out.symm)
              have IHs := Lib.hid (IH.out s (by omega))
              cases B with
              | false =>
                have HNx := Lib.hid (show frmP ns most q k pl (s + 1) = A by
                  rw [← frm_no hlt HOk2.out]
                  exact HAs.out)
                go_wp2_with fail
                go_roundw
                case rel => exact ⟨s + 1, by go_num, by omega, HNx, BQ, XQ⟩
                case measure => simp [intOf]; omega
              | true =>
                obtain ⟨T, hT⟩ : ∃ T, T = fndP ns most q k (pl ++ [s]) := ⟨_, rfl⟩
                rw [← hT] at IHs
                cases T with
                | none =>
                  have HNx := Lib.hid (show frmP ns most q k pl (s + 1) = A by
                    rw [← frm_none hlt HOk2.out hT.symm]
                    exact HAs.out)
                  clear hT
                  go_wp2_with fail
                  refine wp_region_held_drew (S := fun w' => w'.cell? ⟨w.heap.size, 0, none⟩ = some (.int .i64 (m : Int)) ∧ w'.cell? ⟨w.heap.size, 1, none⟩ = some (.slice a ns.length cap)) (by kernel_rfl) (by exact ⟨c0, c1⟩) (fun hHeld => ?_)
                  have XS := Lib.hid (show Bx (m : Int) (.slice a ns.length cap) w.heap.size wr.drew from XQ.out)
                  have BS := Lib.hid (BQ.out.drew)
                  clear c0 c1
                  generalize wr.drew = v0 at *
                  refine wpAnyH_take (i := 0) (v := ?_) rfl (by kernel_rfl) (by kernel_rfl) (by kernel_rfl) (fun _ _ _ h => h) (Or.inl ⟨by rfl, ?_⟩) (by assumption) ?_
                  rotate_left
                  · (intro w hSw; (try dsimp only at hSw); go_simp; try with_reducible rfl)
                  try simp only [List.getElem_toArray, List.getElem_cons_zero, Act.put, List.setIfInBounds_toArray, List.set_cons_zero, List.set_cons_succ]
                  refine wpAnyH_take (i := 1) (v := ?_) rfl (by kernel_rfl) (by kernel_rfl) (by kernel_rfl) (fun _ _ _ h => h) (Or.inl ⟨by rfl, ?_⟩) (by assumption) ?_
                  rotate_left
                  · (intro w hSw; (try dsimp only at hSw); go_simp; try with_reducible rfl)
                  try simp only [List.getElem_toArray, List.getElem_cons_zero, List.getElem_cons_succ, Act.put, List.setIfInBounds_toArray, List.set_cons_zero, List.set_cons_succ]
                  refine wpAnyH_take (i := 3) (v := ?_) rfl (by kernel_rfl) (by kernel_rfl) (by kernel_rfl) (fun _ _ _ h => h) (Or.inl ⟨by rfl, ?_⟩) (by assumption) ?_
                  rotate_left
                  · (intro w hSw; (try dsimp only at hSw); go_simp; try with_reducible rfl)
                  try simp only [List.getElem_toArray, List.getElem_cons_zero, List.getElem_cons_succ, Act.put, List.setIfInBounds_toArray, List.set_cons_zero, List.set_cons_succ]
                  refine wpAnyH_take (i := 5) (v := ?_) rfl (by kernel_rfl) (by kernel_rfl) (by kernel_rfl) (fun _ _ _ h => h) (Or.inl ⟨by rfl, ?_⟩) (by assumption) ?_
                  rotate_left
                  · (intro w hSw; (try dsimp only at hSw); go_simp; try with_reducible rfl)
                  try simp only [List.getElem_toArray, List.getElem_cons_zero, List.getElem_cons_succ, Act.put, List.setIfInBounds_toArray, List.set_cons_zero, List.set_cons_succ]
                  refine wpAnyH_ready (rs := [2, 6]) (by kernel_rfl) (by simp) ?_
                  refine (AllReadyH.cons rfl (fun K hK => ?_) (AllReadyH.cons rfl (fun K hK => ?_) AllReadyH.nil))
                  · skip
                    try simp only [List.getElem_toArray]
                    go_simp
                    have h2s : w.heap.size ≤ v0.heap.size := BS.out.size
                    have IL := Lib.hid (show Ints v0.heap.size (v0.alloc (Obj.cells #[] 3)) (.slice (some ⟨v0.heap.size, 0, none⟩) 0 0) [] from Ints.lit' (Nat.le_refl _) rfl)
                    have H2Z := Lib.hid (show (v0.alloc (Obj.cells #[] 3)).heap.size = v0.heap.size + 1 by simp)
                    have hxo : w.heap.size < v0.heap.size := XS.out.lt
                    replace XS := Lib.hid (XS.out.alloc (Obj.cells #[] 3))
                    replace BS := Lib.hid (BS.out.alloc h2s (Obj.cells #[] 3))
                    generalize hH2 : v0.heap.size = H2 at *
                    generalize (v0.alloc (Obj.cells #[] 3)) = v1 at *
                    refine hK.out _ _ (by exact ⟨XS.out.out.at0, XS.out.out.at1⟩) (fun hHeld => ?_)
                    clear hK K
                    try simp only [List.getElem_toArray, List.getElem_cons_zero, List.getElem_cons_succ, Act.put, List.setIfInBounds_toArray, List.set_cons_zero, List.set_cons_succ]
                    refine wpAnyH_ready (rs := [4, 6]) (by kernel_rfl) (by simp) ?_
                    refine (AllReadyH.cons rfl (fun K hK => ?_) (AllReadyH.cons rfl (fun K hK => ?_) AllReadyH.nil))
                    · skip
                      refine step_app rfl (.tmp 62) (.tmp 63) rfl H2 _ [] rfl (by exact IL.out) _ _ _ (toI pl) rfl (by exact (HU.out.below BS.out (Nat.le_refl _)).isrc) (by simp; omega) (by (try have z2 := H2Z.out); (try have z6 := H6Z.out); omega) ?_
                      intro a4 c4 v2 hin4 hb4 hg4
                      simp only [List.length_nil, Nat.zero_add, List.nil_append] at hin4 ⊢
                      have h4z := hb4.size
                      replace XS := Lib.hid (XS.out.next hb4 (by omega))
                      replace BS := Lib.hid (BS.out.trans (hb4.mono (by omega)))
                      have IA := Lib.hid hin4
                      clear hin4 hb4 hg4
                      refine hK.out _ _ (by exact ⟨XS.out.out.at0, XS.out.out.at1⟩) (fun hHeld => ?_)
                      clear hK K
                      try simp only [List.getElem_toArray, List.getElem_cons_zero, List.getElem_cons_succ, Act.put, List.setIfInBounds_toArray, List.set_cons_zero, List.set_cons_succ]
                      refine wpAnyH_ready (rs := [6]) (by kernel_rfl) (by simp) ?_
                      refine (AllReadyH.cons rfl (fun K hK => ?_) AllReadyH.nil)
                      try simp only [List.getElem_toArray]
                      go_simp
                      have h6s : w.heap.size ≤ v2.heap.size := BS.out.size
                      have IX := Lib.hid (show Ints 0 (v2.alloc (Obj.cells #[.int .i64 (s : Int)] 3)) (.slice (some ⟨v2.heap.size, 0, none⟩) 1 1) [(s : Int)] from World.ownsRow_lit v2 #[.int .i64 (s : Int)] 1 (Nat.zero_le _) (by unfold maxLen; omega) rfl)
                      have H6Z := Lib.hid (show (v2.alloc (Obj.cells #[.int .i64 (s : Int)] 3)).heap.size = v2.heap.size + 1 by simp)
                      replace XS := Lib.hid (XS.out.alloc (Obj.cells #[.int .i64 (s : Int)] 3))
                      replace BS := Lib.hid (BS.out.alloc h6s (Obj.cells #[.int .i64 (s : Int)] 3))
                      replace IA := Lib.hid (IA.out.alloc (Obj.cells #[.int .i64 (s : Int)] 3))
                      generalize hH6 : v2.heap.size = H6 at *
                      generalize (v2.alloc (Obj.cells #[.int .i64 (s : Int)] 3)) = v3 at *
                      refine hK.out _ _ (by exact ⟨XS.out.out.at0, XS.out.out.at1⟩) (fun hHeld => ?_)
                      clear hK K
                      try simp only [List.getElem_toArray, List.getElem_cons_zero, List.getElem_cons_succ, Act.put, List.setIfInBounds_toArray, List.set_cons_zero, List.set_cons_succ]
                      refine wpAnyH_ready (rs := [7]) (by kernel_rfl) (by simp) ?_
                      refine (AllReadyH.cons rfl (fun K hK => ?_) AllReadyH.nil)
                      refine step_app rfl (.tmp 64) (.tmp 66) rfl H2 _ (toI pl) rfl (by exact IA.out) _ _ _ [(s : Int)] rfl (by exact IX.out.isrc) (by rw [toI_length]; omega) (by (try have z2 := H2Z.out); (try have z6 := H6Z.out); omega) ?_
                      intro a7 c7 v4 hin7 hb7 hg7
                      rw [toI_length, ← show toI (pl ++ [s]) = toI pl ++ [(s : Int)] from toI_append pl [s]] at hin7
                      rw [toI_length]
                      replace XS := Lib.hid (XS.out.next hb7 (by omega))
                      replace BS := Lib.hid (BS.out.trans (hb7.mono (by omega)))
                      have I7 := Lib.hid (hin7.mono (show B0 ≤ H2 by omega))
                      clear hin7 hb7 hg7
                      refine hK.out _ _ (by exact ⟨XS.out.out.at0, XS.out.out.at1⟩) (fun hHeld => ?_)
                      clear hK K
                      try simp only [List.getElem_toArray, List.getElem_cons_zero, List.getElem_cons_succ, Act.put, List.setIfInBounds_toArray, List.set_cons_zero, List.set_cons_succ]
                      refine wpAnyH_ready (rs := [8]) (by kernel_rfl) (by simp) ?_
                      refine (AllReadyH.cons rfl (fun K hK => ?_) AllReadyH.nil)
                      try simp only [List.getElem_toArray]
                      go_simp
                      refine (IHs.out _ _ (by exact H.out.below BS.out (Nat.le_refl _)) (Nat.le_trans hB0 BS.out.size) (by exact I7.out)).mono ?_
                      rintro e v5 ⟨hb8, he⟩
                      subst he
                      replace XS := Lib.hid (XS.out.next hb8 XS.out.lt)
                      replace BS := Lib.hid (BS.out.trans (hb8.mono BS.out.size))
                      clear hb8
                      refine hK.out _ _ (by exact ⟨XS.out.out.at0, XS.out.out.at1⟩) (fun hHeld => ?_)
                      clear hK K
                      try simp only [List.getElem_toArray, List.getElem_cons_zero, List.getElem_cons_succ, Act.put, List.setIfInBounds_toArray, List.set_cons_zero, List.set_cons_succ]
                      refine wpAnyH_take (i := 9) (v := ?_) rfl (by kernel_rfl) (by kernel_rfl) (by kernel_rfl) (fun _ _ _ h => h) (Or.inl ⟨by rfl, ?_⟩) (by assumption) ?_
                      rotate_left
                      · (intro w hSw; (try dsimp only at hSw); go_simp; try with_reducible rfl)
                      try simp only [List.getElem_toArray, List.getElem_cons_zero, List.getElem_cons_succ, Act.put, List.setIfInBounds_toArray, List.set_cons_zero, List.set_cons_succ]
                      refine wpAnyH_take (i := 10) (v := ?_) rfl (by kernel_rfl) (by kernel_rfl) (by kernel_rfl) (fun _ _ _ h => h) (Or.inl ⟨by rfl, ?_⟩) (by assumption) ?_
                      rotate_left
                      · (intro w hSw; (try dsimp only at hSw); go_simp; try with_reducible rfl)
                      try simp only [List.getElem_toArray, List.getElem_cons_zero, List.getElem_cons_succ, Act.put, List.setIfInBounds_toArray, List.set_cons_zero, List.set_cons_succ]
                      refine wpAnyH_take (i := 11) (v := ?_) rfl (by kernel_rfl) (by kernel_rfl) (by kernel_rfl) (fun _ _ _ h => h) (Or.inl ⟨by rfl, ?_⟩) (by assumption) ?_
                      rotate_left
                      · (intro w hSw; (try dsimp only at hSw); go_simp; try with_reducible rfl)
                      try simp only [List.getElem_toArray, List.getElem_cons_zero, List.getElem_cons_succ, Act.put, List.setIfInBounds_toArray, List.set_cons_zero, List.set_cons_succ]
                      refine wpAnyH_take (i := 12) (v := ?_) rfl (by kernel_rfl) (by kernel_rfl) (by kernel_rfl) (fun _ _ _ h => h) (Or.inl ⟨by rfl, ?_⟩) (by assumption) ?_
                      rotate_left
                      · (intro w hSw; (try dsimp only at hSw); go_simp; try with_reducible rfl)
                      try simp only [List.getElem_toArray, List.getElem_cons_zero, List.getElem_cons_succ, Act.put, List.setIfInBounds_toArray, List.set_cons_zero, List.set_cons_succ]
                      refine wpAnyH_take (i := 13) (v := ?_) rfl (by kernel_rfl) (by kernel_rfl) (by kernel_rfl) (fun _ _ _ h => h) (Or.inl ⟨by rfl, ?_⟩) (by assumption) ?_
                      rotate_left
                      · (intro w hSw; (try dsimp only at hSw); go_simp; try with_reducible rfl)
                      try simp only [List.getElem_toArray, List.getElem_cons_zero, List.getElem_cons_succ, Act.put, List.setIfInBounds_toArray, List.set_cons_zero, List.set_cons_succ]
                      refine wpAnyH_done (by kernel_rfl) ?_ _
                      go_wp2_with fail
                      go_roundw
                      case rel => exact ⟨s + 1, by go_num, by omega, HNx, BS, XS⟩
                      case measure => simp [intOf]; omega
                    · skip
                      try simp only [List.getElem_toArray]
                      go_simp
                      have h6s : w.heap.size ≤ v1.heap.size := BS.out.size
                      have IX := Lib.hid (show Ints 0 (v1.alloc (Obj.cells #[.int .i64 (s : Int)] 3)) (.slice (some ⟨v1.heap.size, 0, none⟩) 1 1) [(s : Int)] from World.ownsRow_lit v1 #[.int .i64 (s : Int)] 1 (Nat.zero_le _) (by unfold maxLen; omega) rfl)
                      have H6Z := Lib.hid (show (v1.alloc (Obj.cells #[.int .i64 (s : Int)] 3)).heap.size = v1.heap.size + 1 by simp)
                      replace XS := Lib.hid (XS.out.alloc (Obj.cells #[.int .i64 (s : Int)] 3))
                      replace BS := Lib.hid (BS.out.alloc h6s (Obj.cells #[.int .i64 (s : Int)] 3))
                      replace IL := Lib.hid (IL.out.alloc (Obj.cells #[.int .i64 (s : Int)] 3))
                      generalize hH6 : v1.heap.size = H6 at *
                      generalize (v1.alloc (Obj.cells #[.int .i64 (s : Int)] 3)) = v2 at *
                      refine hK.out _ _ (by exact ⟨XS.out.out.at0, XS.out.out.at1⟩) (fun hHeld => ?_)
                      clear hK K
                      try simp only [List.getElem_toArray, List.getElem_cons_zero, List.getElem_cons_succ, Act.put, List.setIfInBounds_toArray, List.set_cons_zero, List.set_cons_succ]
                      refine wpAnyH_ready (rs := [4]) (by kernel_rfl) (by simp) ?_
                      refine (AllReadyH.cons rfl (fun K hK => ?_) AllReadyH.nil)
                      refine step_app rfl (.tmp 62) (.tmp 63) rfl H2 _ [] rfl (by exact IL.out) _ _ _ (toI pl) rfl (by exact (HU.out.below BS.out (Nat.le_refl _)).isrc) (by simp; omega) (by (try have z2 := H2Z.out); (try have z6 := H6Z.out); omega) ?_
                      intro a4 c4 v3 hin4 hb4 hg4
                      simp only [List.length_nil, Nat.zero_add, List.nil_append] at hin4 ⊢
                      have h4z := hb4.size
                      replace XS := Lib.hid (XS.out.next hb4 (by omega))
                      replace BS := Lib.hid (BS.out.trans (hb4.mono (by omega)))
                      replace IX := Lib.hid (IX.out.kept hg4 (.inr (show some H6 ≠ some H2 from fun e => by (try have z2 := H2Z.out); (try have z6 := H6Z.out); simp at e; omega)))
                      have IA := Lib.hid hin4
                      clear hin4 hb4 hg4
                      refine hK.out _ _ (by exact ⟨XS.out.out.at0, XS.out.out.at1⟩) (fun hHeld => ?_)
                      clear hK K
                      try simp only [List.getElem_toArray, List.getElem_cons_zero, List.getElem_cons_succ, Act.put, List.setIfInBounds_toArray, List.set_cons_zero, List.set_cons_succ]
                      refine wpAnyH_ready (rs := [7]) (by kernel_rfl) (by simp) ?_
                      refine (AllReadyH.cons rfl (fun K hK => ?_) AllReadyH.nil)
                      refine step_app rfl (.tmp 64) (.tmp 66) rfl H2 _ (toI pl) rfl (by exact IA.out) _ _ _ [(s : Int)] rfl (by exact IX.out.isrc) (by rw [toI_length]; omega) (by (try have z2 := H2Z.out); (try have z6 := H6Z.out); omega) ?_
                      intro a7 c7 v4 hin7 hb7 hg7
                      rw [toI_length, ← show toI (pl ++ [s]) = toI pl ++ [(s : Int)] from toI_append pl [s]] at hin7
                      rw [toI_length]
                      replace XS := Lib.hid (XS.out.next hb7 (by omega))
                      replace BS := Lib.hid (BS.out.trans (hb7.mono (by omega)))
                      have I7 := Lib.hid (hin7.mono (show B0 ≤ H2 by omega))
                      clear hin7 hb7 hg7
                      refine hK.out _ _ (by exact ⟨XS.out.out.at0, XS.out.out.at1⟩) (fun hHeld => ?_)
                      clear hK K
                      try simp only [List.getElem_toArray, List.getElem_cons_zero, List.getElem_cons_succ, Act.put, List.setIfInBounds_toArray, List.set_cons_zero, List.set_cons_succ]
                      refine wpAnyH_ready (rs := [8]) (by kernel_rfl) (by simp) ?_
                      refine (AllReadyH.cons rfl (fun K hK => ?_) AllReadyH.nil)
                      try simp only [List.getElem_toArray]
                      go_simp
                      refine (IHs.out _ _ (by exact H.out.below BS.out (Nat.le_refl _)) (Nat.le_trans hB0 BS.out.size) (by exact I7.out)).mono ?_
                      rintro e v5 ⟨hb8, he⟩
                      subst he
                      replace XS := Lib.hid (XS.out.next hb8 XS.out.lt)
                      replace BS := Lib.hid (BS.out.trans (hb8.mono BS.out.size))
                      clear hb8
                      refine hK.out _ _ (by exact ⟨XS.out.out.at0, XS.out.out.at1⟩) (fun hHeld => ?_)
                      clear hK K
                      try simp only [List.getElem_toArray, List.getElem_cons_zero, List.getElem_cons_succ, Act.put, List.setIfInBounds_toArray, List.set_cons_zero, List.set_cons_succ]
                      refine wpAnyH_take (i := 9) (v := ?_) rfl (by kernel_rfl) (by kernel_rfl) (by kernel_rfl) (fun _ _ _ h => h) (Or.inl ⟨by rfl, ?_⟩) (by assumption) ?_
                      rotate_left
                      · (intro w hSw; (try dsimp only at hSw); go_simp; try with_reducible rfl)
                      try simp only [List.getElem_toArray, List.getElem_cons_zero, List.getElem_cons_succ, Act.put, List.setIfInBounds_toArray, List.set_cons_zero, List.set_cons_succ]
                      refine wpAnyH_take (i := 10) (v := ?_) rfl (by kernel_rfl) (by kernel_rfl) (by kernel_rfl) (fun _ _ _ h => h) (Or.inl ⟨by rfl, ?_⟩) (by assumption) ?_
                      rotate_left
                      · (intro w hSw; (try dsimp only at hSw); go_simp; try with_reducible rfl)
                      try simp only [List.getElem_toArray, List.getElem_cons_zero, List.getElem_cons_succ, Act.put, List.setIfInBounds_toArray, List.set_cons_zero, List.set_cons_succ]
                      refine wpAnyH_take (i := 11) (v := ?_) rfl (by kernel_rfl) (by kernel_rfl) (by kernel_rfl) (fun _ _ _ h => h) (Or.inl ⟨by rfl, ?_⟩) (by assumption) ?_
                      rotate_left
                      · (intro w hSw; (try dsimp only at hSw); go_simp; try with_reducible rfl)
                      try simp only [List.getElem_toArray, List.getElem_cons_zero, List.getElem_cons_succ, Act.put, List.setIfInBounds_toArray, List.set_cons_zero, List.set_cons_succ]
                      refine wpAnyH_take (i := 12) (v := ?_) rfl (by kernel_rfl) (by kernel_rfl) (by kernel_rfl) (fun _ _ _ h => h) (Or.inl ⟨by rfl, ?_⟩) (by assumption) ?_
                      rotate_left
                      · (intro w hSw; (try dsimp only at hSw); go_simp; try with_reducible rfl)
                      try simp only [List.getElem_toArray, List.getElem_cons_zero, List.getElem_cons_succ, Act.put, List.setIfInBounds_toArray, List.set_cons_zero, List.set_cons_succ]
                      refine wpAnyH_take (i := 13) (v := ?_) rfl (by kernel_rfl) (by kernel_rfl) (by kernel_rfl) (fun _ _ _ h => h) (Or.inl ⟨by rfl, ?_⟩) (by assumption) ?_
                      rotate_left
                      · (intro w hSw; (try dsimp only at hSw); go_simp; try with_reducible rfl)
                      try simp only [List.getElem_toArray, List.getElem_cons_zero, List.getElem_cons_succ, Act.put, List.setIfInBounds_toArray, List.set_cons_zero, List.set_cons_succ]
                      refine wpAnyH_done (by kernel_rfl) ?_ _
                      go_wp2_with fail
                      go_roundw
                      case rel => exact ⟨s + 1, by go_num, by omega, HNx, BS, XS⟩
                      case measure => simp [intOf]; omega
                  · skip
                    try simp only [List.getElem_toArray]
                    go_simp
                    have h6s : w.heap.size ≤ v0.heap.size := BS.out.size
                    have IX := Lib.hid (show Ints 0 (v0.alloc (Obj.cells #[.int .i64 (s : Int)] 3)) (.slice (some ⟨v0.heap.size, 0, none⟩) 1 1) [(s : Int)] from World.ownsRow_lit v0 #[.int .i64 (s : Int)] 1 (Nat.zero_le _) (by unfold maxLen; omega) rfl)
                    have H6Z := Lib.hid (show (v0.alloc (Obj.cells #[.int .i64 (s : Int)] 3)).heap.size = v0.heap.size + 1 by simp)
                    replace XS := Lib.hid (XS.out.alloc (Obj.cells #[.int .i64 (s : Int)] 3))
                    replace BS := Lib.hid (BS.out.alloc h6s (Obj.cells #[.int .i64 (s : Int)] 3))
                    generalize hH6 : v0.heap.size = H6 at *
                    generalize (v0.alloc (Obj.cells #[.int .i64 (s : Int)] 3)) = v1 at *
                    refine hK.out _ _ (by exact ⟨XS.out.out.at0, XS.out.out.at1⟩) (fun hHeld => ?_)
                    clear hK K
                    try simp only [List.getElem_toArray, List.getElem_cons_zero, List.getElem_cons_succ, Act.put, List.setIfInBounds_toArray, List.set_cons_zero, List.set_cons_succ]
                    refine wpAnyH_ready (rs := [2]) (by kernel_rfl) (by simp) ?_
                    refine (AllReadyH.cons rfl (fun K hK => ?_) AllReadyH.nil)
                    try simp only [List.getElem_toArray]
                    go_simp
                    have h2s : w.heap.size ≤ v1.heap.size := BS.out.size
                    have IL := Lib.hid (show Ints v1.heap.size (v1.alloc (Obj.cells #[] 3)) (.slice (some ⟨v1.heap.size, 0, none⟩) 0 0) [] from Ints.lit' (Nat.le_refl _) rfl)
                    have H2Z := Lib.hid (show (v1.alloc (Obj.cells #[] 3)).heap.size = v1.heap.size + 1 by simp)
                    have hxo : w.heap.size < v1.heap.size := XS.out.lt
                    replace XS := Lib.hid (XS.out.alloc (Obj.cells #[] 3))
                    replace BS := Lib.hid (BS.out.alloc h2s (Obj.cells #[] 3))
                    replace IX := Lib.hid (IX.out.alloc (Obj.cells #[] 3))
                    generalize hH2 : v1.heap.size = H2 at *
                    generalize (v1.alloc (Obj.cells #[] 3)) = v2 at *
                    refine hK.out _ _ (by exact ⟨XS.out.out.at0, XS.out.out.at1⟩) (fun hHeld => ?_)
                    clear hK K
                    try simp only [List.getElem_toArray, List.getElem_cons_zero, List.getElem_cons_succ, Act.put, List.setIfInBounds_toArray, List.set_cons_zero, List.set_cons_succ]
                    refine wpAnyH_ready (rs := [4]) (by kernel_rfl) (by simp) ?_
                    refine (AllReadyH.cons rfl (fun K hK => ?_) AllReadyH.nil)
                    refine step_app rfl (.tmp 62) (.tmp 63) rfl H2 _ [] rfl (by exact IL.out) _ _ _ (toI pl) rfl (by exact (HU.out.below BS.out (Nat.le_refl _)).isrc) (by simp; omega) (by (try have z2 := H2Z.out); (try have z6 := H6Z.out); omega) ?_
                    intro a4 c4 v3 hin4 hb4 hg4
                    simp only [List.length_nil, Nat.zero_add, List.nil_append] at hin4 ⊢
                    have h4z := hb4.size
                    replace XS := Lib.hid (XS.out.next hb4 (by omega))
                    replace BS := Lib.hid (BS.out.trans (hb4.mono (by omega)))
                    replace IX := Lib.hid (IX.out.kept hg4 (.inr (show some H6 ≠ some H2 from fun e => by (try have z2 := H2Z.out); (try have z6 := H6Z.out); simp at e; omega)))
                    have IA := Lib.hid hin4
                    clear hin4 hb4 hg4
                    refine hK.out _ _ (by exact ⟨XS.out.out.at0, XS.out.out.at1⟩) (fun hHeld => ?_)
                    clear hK K
                    try simp only [List.getElem_toArray, List.getElem_cons_zero, List.getElem_cons_succ, Act.put, List.setIfInBounds_toArray, List.set_cons_zero, List.set_cons_succ]
                    refine wpAnyH_ready (rs := [7]) (by kernel_rfl) (by simp) ?_
                    refine (AllReadyH.cons rfl (fun K hK => ?_) AllReadyH.nil)
                    refine step_app rfl (.tmp 64) (.tmp 66) rfl H2 _ (toI pl) rfl (by exact IA.out) _ _ _ [(s : Int)] rfl (by exact IX.out.isrc) (by rw [toI_length]; omega) (by (try have z2 := H2Z.out); (try have z6 := H6Z.out); omega) ?_
                    intro a7 c7 v4 hin7 hb7 hg7
                    rw [toI_length, ← show toI (pl ++ [s]) = toI pl ++ [(s : Int)] from toI_append pl [s]] at hin7
                    rw [toI_length]
                    replace XS := Lib.hid (XS.out.next hb7 (by omega))
                    replace BS := Lib.hid (BS.out.trans (hb7.mono (by omega)))
                    have I7 := Lib.hid (hin7.mono (show B0 ≤ H2 by omega))
                    clear hin7 hb7 hg7
                    refine hK.out _ _ (by exact ⟨XS.out.out.at0, XS.out.out.at1⟩) (fun hHeld => ?_)
                    clear hK K
                    try simp only [List.getElem_toArray, List.getElem_cons_zero, List.getElem_cons_succ, Act.put, List.setIfInBounds_toArray, List.set_cons_zero, List.set_cons_succ]
                    refine wpAnyH_ready (rs := [8]) (by kernel_rfl) (by simp) ?_
                    refine (AllReadyH.cons rfl (fun K hK => ?_) AllReadyH.nil)
                    try simp only [List.getElem_toArray]
                    go_simp
                    refine (IHs.out _ _ (by exact H.out.below BS.out (Nat.le_refl _)) (Nat.le_trans hB0 BS.out.size) (by exact I7.out)).mono ?_
                    rintro e v5 ⟨hb8, he⟩
                    subst he
                    replace XS := Lib.hid (XS.out.next hb8 XS.out.lt)
                    replace BS := Lib.hid (BS.out.trans (hb8.mono BS.out.size))
                    clear hb8
                    refine hK.out _ _ (by exact ⟨XS.out.out.at0, XS.out.out.at1⟩) (fun hHeld => ?_)
                    clear hK K
                    try simp only [List.getElem_toArray, List.getElem_cons_zero, List.getElem_cons_succ, Act.put, List.setIfInBounds_toArray, List.set_cons_zero, List.set_cons_succ]
                    refine wpAnyH_take (i := 9) (v := ?_) rfl (by kernel_rfl) (by kernel_rfl) (by kernel_rfl) (fun _ _ _ h => h) (Or.inl ⟨by rfl, ?_⟩) (by assumption) ?_
                    rotate_left
                    · (intro w hSw; (try dsimp only at hSw); go_simp; try with_reducible rfl)
                    try simp only [List.getElem_toArray, List.getElem_cons_zero, List.getElem_cons_succ, Act.put, List.setIfInBounds_toArray, List.set_cons_zero, List.set_cons_succ]
                    refine wpAnyH_take (i := 10) (v := ?_) rfl (by kernel_rfl) (by kernel_rfl) (by kernel_rfl) (fun _ _ _ h => h) (Or.inl ⟨by rfl, ?_⟩) (by assumption) ?_
                    rotate_left
                    · (intro w hSw; (try dsimp only at hSw); go_simp; try with_reducible rfl)
                    try simp only [List.getElem_toArray, List.getElem_cons_zero, List.getElem_cons_succ, Act.put, List.setIfInBounds_toArray, List.set_cons_zero, List.set_cons_succ]
                    refine wpAnyH_take (i := 11) (v := ?_) rfl (by kernel_rfl) (by kernel_rfl) (by kernel_rfl) (fun _ _ _ h => h) (Or.inl ⟨by rfl, ?_⟩) (by assumption) ?_
                    rotate_left
                    · (intro w hSw; (try dsimp only at hSw); go_simp; try with_reducible rfl)
                    try simp only [List.getElem_toArray, List.getElem_cons_zero, List.getElem_cons_succ, Act.put, List.setIfInBounds_toArray, List.set_cons_zero, List.set_cons_succ]
                    refine wpAnyH_take (i := 12) (v := ?_) rfl (by kernel_rfl) (by kernel_rfl) (by kernel_rfl) (fun _ _ _ h => h) (Or.inl ⟨by rfl, ?_⟩) (by assumption) ?_
                    rotate_left
                    · (intro w hSw; (try dsimp only at hSw); go_simp; try with_reducible rfl)
                    try simp only [List.getElem_toArray, List.getElem_cons_zero, List.getElem_cons_succ, Act.put, List.setIfInBounds_toArray, List.set_cons_zero, List.set_cons_succ]
                    refine wpAnyH_take (i := 13) (v := ?_) rfl (by kernel_rfl) (by kernel_rfl) (by kernel_rfl) (fun _ _ _ h => h) (Or.inl ⟨by rfl, ?_⟩) (by assumption) ?_
                    rotate_left
                    · (intro w hSw; (try dsimp only at hSw); go_simp; try with_reducible rfl)
                    try simp only [List.getElem_toArray, List.getElem_cons_zero, List.getElem_cons_succ, Act.put, List.setIfInBounds_toArray, List.set_cons_zero, List.set_cons_succ]
                    refine wpAnyH_done (by kernel_rfl) ?_ _
                    go_wp2_with fail
                    go_roundw
                    case rel => exact ⟨s + 1, by go_num, by omega, HNx, BS, XS⟩
                    case measure => simp [intOf]; omega
                | some R =>
                  have HY := Lib.hid (show A = some R by
                    rw [← HAs.out]
                    exact frm_some hlt HOk2.out hT.symm)
                  clear hT
                  go_wp2_with fail
                  refine wp_region_held_drew (S := fun w' => w'.cell? ⟨w.heap.size, 0, none⟩ = some (.int .i64 (m : Int)) ∧ w'.cell? ⟨w.heap.size, 1, none⟩ = some (.slice a ns.length cap)) (by kernel_rfl) (by exact ⟨c0, c1⟩) (fun hHeld => ?_)
                  have XS := Lib.hid (show Bx (m : Int) (.slice a ns.length cap) w.heap.size wr.drew from XQ.out)
                  have BS := Lib.hid (BQ.out.drew)
                  clear c0 c1
                  generalize wr.drew = v0 at *
                  refine wpAnyH_take (i := 0) (v := ?_) rfl (by kernel_rfl) (by kernel_rfl) (by kernel_rfl) (fun _ _ _ h => h) (Or.inl ⟨by rfl, ?_⟩) (by assumption) ?_
                  rotate_left
                  · (intro w hSw; (try dsimp only at hSw); go_simp; try with_reducible rfl)
                  try simp only [List.getElem_toArray, List.getElem_cons_zero, Act.put, List.setIfInBounds_toArray, List.set_cons_zero, List.set_cons_succ]
                  refine wpAnyH_take (i := 1) (v := ?_) rfl (by kernel_rfl) (by kernel_rfl) (by kernel_rfl) (fun _ _ _ h => h) (Or.inl ⟨by rfl, ?_⟩) (by assumption) ?_
                  rotate_left
                  · (intro w hSw; (try dsimp only at hSw); go_simp; try with_reducible rfl)
                  try simp only [List.getElem_toArray, List.getElem_cons_zero, List.getElem_cons_succ, Act.put, List.setIfInBounds_toArray, List.set_cons_zero, List.set_cons_succ]
                  refine wpAnyH_take (i := 3) (v := ?_) rfl (by kernel_rfl) (by kernel_rfl) (by kernel_rfl) (fun _ _ _ h => h) (Or.inl ⟨by rfl, ?_⟩) (by assumption) ?_
                  rotate_left
                  · (intro w hSw; (try dsimp only at hSw); go_simp; try with_reducible rfl)
                  try simp only [List.getElem_toArray, List.getElem_cons_zero, List.getElem_cons_succ, Act.put, List.setIfInBounds_toArray, List.set_cons_zero, List.set_cons_succ]
                  refine wpAnyH_take (i := 5) (v := ?_) rfl (by kernel_rfl) (by kernel_rfl) (by kernel_rfl) (fun _ _ _ h => h) (Or.inl ⟨by rfl, ?_⟩) (by assumption) ?_
                  rotate_left
                  · (intro w hSw; (try dsimp only at hSw); go_simp; try with_reducible rfl)
                  try simp only [List.getElem_toArray, List.getElem_cons_zero, List.getElem_cons_succ, Act.put, List.setIfInBounds_toArray, List.set_cons_zero, List.set_cons_succ]
                  refine wpAnyH_ready (rs := [2, 6]) (by kernel_rfl) (by simp) ?_
                  refine (AllReadyH.cons rfl (fun K hK => ?_) (AllReadyH.cons rfl (fun K hK => ?_) AllReadyH.nil))
                  · skip
                    try simp only [List.getElem_toArray]
                    go_simp
                    have h2s : w.heap.size ≤ v0.heap.size := BS.out.size
                    have IL := Lib.hid (show Ints v0.heap.size (v0.alloc (Obj.cells #[] 3)) (.slice (some ⟨v0.heap.size, 0, none⟩) 0 0) [] from Ints.lit' (Nat.le_refl _) rfl)
                    have H2Z := Lib.hid (show (v0.alloc (Obj.cells #[] 3)).heap.size = v0.heap.size + 1 by simp)
                    have hxo : w.heap.size < v0.heap.size := XS.out.lt
                    replace XS := Lib.hid (XS.out.alloc (Obj.cells #[] 3))
                    replace BS := Lib.hid (BS.out.alloc h2s (Obj.cells #[] 3))
                    generalize hH2 : v0.heap.size = H2 at *
                    generalize (v0.alloc (Obj.cells #[] 3)) = v1 at *
                    refine hK.out _ _ (by exact ⟨XS.out.out.at0, XS.out.out.at1⟩) (fun hHeld => ?_)
                    clear hK K
                    try simp only [List.getElem_toArray, List.getElem_cons_zero, List.getElem_cons_succ, Act.put, List.setIfInBounds_toArray, List.set_cons_zero, List.set_cons_succ]
                    refine wpAnyH_ready (rs := [4, 6]) (by kernel_rfl) (by simp) ?_
                    refine (AllReadyH.cons rfl (fun K hK => ?_) (AllReadyH.cons rfl (fun K hK => ?_) AllReadyH.nil))
                    · skip
                      refine step_app rfl (.tmp 62) (.tmp 63) rfl H2 _ [] rfl (by exact IL.out) _ _ _ (toI pl) rfl (by exact (HU.out.below BS.out (Nat.le_refl _)).isrc) (by simp; omega) (by (try have z2 := H2Z.out); (try have z6 := H6Z.out); omega) ?_
                      intro a4 c4 v2 hin4 hb4 hg4
                      simp only [List.length_nil, Nat.zero_add, List.nil_append] at hin4 ⊢
                      have h4z := hb4.size
                      replace XS := Lib.hid (XS.out.next hb4 (by omega))
                      replace BS := Lib.hid (BS.out.trans (hb4.mono (by omega)))
                      have IA := Lib.hid hin4
                      clear hin4 hb4 hg4
                      refine hK.out _ _ (by exact ⟨XS.out.out.at0, XS.out.out.at1⟩) (fun hHeld => ?_)
                      clear hK K
                      try simp only [List.getElem_toArray, List.getElem_cons_zero, List.getElem_cons_succ, Act.put, List.setIfInBounds_toArray, List.set_cons_zero, List.set_cons_succ]
                      refine wpAnyH_ready (rs := [6]) (by kernel_rfl) (by simp) ?_
                      refine (AllReadyH.cons rfl (fun K hK => ?_) AllReadyH.nil)
                      try simp only [List.getElem_toArray]
                      go_simp
                      have h6s : w.heap.size ≤ v2.heap.size := BS.out.size
                      have IX := Lib.hid (show Ints 0 (v2.alloc (Obj.cells #[.int .i64 (s : Int)] 3)) (.slice (some ⟨v2.heap.size, 0, none⟩) 1 1) [(s : Int)] from World.ownsRow_lit v2 #[.int .i64 (s : Int)] 1 (Nat.zero_le _) (by unfold maxLen; omega) rfl)
                      have H6Z := Lib.hid (show (v2.alloc (Obj.cells #[.int .i64 (s : Int)] 3)).heap.size = v2.heap.size + 1 by simp)
                      replace XS := Lib.hid (XS.out.alloc (Obj.cells #[.int .i64 (s : Int)] 3))
                      replace BS := Lib.hid (BS.out.alloc h6s (Obj.cells #[.int .i64 (s : Int)] 3))
                      replace IA := Lib.hid (IA.out.alloc (Obj.cells #[.int .i64 (s : Int)] 3))
                      generalize hH6 : v2.heap.size = H6 at *
                      generalize (v2.alloc (Obj.cells #[.int .i64 (s : Int)] 3)) = v3 at *
                      refine hK.out _ _ (by exact ⟨XS.out.out.at0, XS.out.out.at1⟩) (fun hHeld => ?_)
                      clear hK K
                      try simp only [List.getElem_toArray, List.getElem_cons_zero, List.getElem_cons_succ, Act.put, List.setIfInBounds_toArray, List.set_cons_zero, List.set_cons_succ]
                      refine wpAnyH_ready (rs := [7]) (by kernel_rfl) (by simp) ?_
                      refine (AllReadyH.cons rfl (fun K hK => ?_) AllReadyH.nil)
                      refine step_app rfl (.tmp 64) (.tmp 66) rfl H2 _ (toI pl) rfl (by exact IA.out) _ _ _ [(s : Int)] rfl (by exact IX.out.isrc) (by rw [toI_length]; omega) (by (try have z2 := H2Z.out); (try have z6 := H6Z.out); omega) ?_
                      intro a7 c7 v4 hin7 hb7 hg7
                      rw [toI_length, ← show toI (pl ++ [s]) = toI pl ++ [(s : Int)] from toI_append pl [s]] at hin7
                      rw [toI_length]
                      replace XS := Lib.hid (XS.out.next hb7 (by omega))
                      replace BS := Lib.hid (BS.out.trans (hb7.mono (by omega)))
                      have I7 := Lib.hid (hin7.mono (show B0 ≤ H2 by omega))
                      clear hin7 hb7 hg7
                      refine hK.out _ _ (by exact ⟨XS.out.out.at0, XS.out.out.at1⟩) (fun hHeld => ?_)
                      clear hK K
                      try simp only [List.getElem_toArray, List.getElem_cons_zero, List.getElem_cons_succ, Act.put, List.setIfInBounds_toArray, List.set_cons_zero, List.set_cons_succ]
                      refine wpAnyH_ready (rs := [8]) (by kernel_rfl) (by simp) ?_
                      refine (AllReadyH.cons rfl (fun K hK => ?_) AllReadyH.nil)
                      try simp only [List.getElem_toArray]
                      go_simp
                      refine (IHs.out _ _ (by exact H.out.below BS.out (Nat.le_refl _)) (Nat.le_trans hB0 BS.out.size) (by exact I7.out)).mono ?_
                      rintro e v5 ⟨hb8, he⟩
                      obtain ⟨a8, c8, rfl, hin8⟩ := he
                      have I8 := Lib.hid hin8
                      replace XS := Lib.hid (XS.out.next hb8 XS.out.lt)
                      replace BS := Lib.hid (BS.out.trans (hb8.mono BS.out.size))
                      clear hb8
                      refine hK.out _ _ (by exact ⟨XS.out.out.at0, XS.out.out.at1⟩) (fun hHeld => ?_)
                      clear hK K
                      try simp only [List.getElem_toArray, List.getElem_cons_zero, List.getElem_cons_succ, Act.put, List.setIfInBounds_toArray, List.set_cons_zero, List.set_cons_succ]
                      refine wpAnyH_take (i := 9) (v := ?_) rfl (by kernel_rfl) (by kernel_rfl) (by kernel_rfl) (fun _ _ _ h => h) (Or.inl ⟨by rfl, ?_⟩) (by assumption) ?_
                      rotate_left
                      · (intro w hSw; (try dsimp only at hSw); go_simp; try with_reducible rfl)
                      try simp only [List.getElem_toArray, List.getElem_cons_zero, List.getElem_cons_succ, Act.put, List.setIfInBounds_toArray, List.set_cons_zero, List.set_cons_succ]
                      refine wpAnyH_take (i := 10) (v := ?_) rfl (by kernel_rfl) (by kernel_rfl) (by kernel_rfl) (fun _ _ _ h => h) (Or.inl ⟨by rfl, ?_⟩) (by assumption) ?_
                      rotate_left
                      · (intro w hSw; (try dsimp only at hSw); go_simp; try with_reducible rfl)
                      try simp only [List.getElem_toArray, List.getElem_cons_zero, List.getElem_cons_succ, Act.put, List.setIfInBounds_toArray, List.set_cons_zero, List.set_cons_succ]
                      refine wpAnyH_take (i := 11) (v := ?_) rfl (by kernel_rfl) (by kernel_rfl) (by kernel_rfl) (fun _ _ _ h => h) (Or.inl ⟨by rfl, ?_⟩) (by assumption) ?_
                      rotate_left
                      · (intro w hSw; (try dsimp only at hSw); go_simp; try with_reducible rfl)
                      try simp only [List.getElem_toArray, List.getElem_cons_zero, List.getElem_cons_succ, Act.put, List.setIfInBounds_toArray, List.set_cons_zero, List.set_cons_succ]
                      refine wpAnyH_take (i := 12) (v := ?_) rfl (by kernel_rfl) (by kernel_rfl) (by kernel_rfl) (fun _ _ _ h => h) (Or.inl ⟨by rfl, ?_⟩) (by assumption) ?_
                      rotate_left
                      · (intro w hSw; (try dsimp only at hSw); go_simp; try with_reducible rfl)
                      try simp only [List.getElem_toArray, List.getElem_cons_zero, List.getElem_cons_succ, Act.put, List.setIfInBounds_toArray, List.set_cons_zero, List.set_cons_succ]
                      refine wpAnyH_take (i := 13) (v := ?_) rfl (by kernel_rfl) (by kernel_rfl) (by kernel_rfl) (fun _ _ _ h => h) (Or.inl ⟨by rfl, ?_⟩) (by assumption) ?_
                      rotate_left
                      · (intro w hSw; (try dsimp only at hSw); go_simp; try with_reducible rfl)
                      try simp only [List.getElem_toArray, List.getElem_cons_zero, List.getElem_cons_succ, Act.put, List.setIfInBounds_toArray, List.set_cons_zero, List.set_cons_succ]
                      refine wpAnyH_done (by kernel_rfl) ?_ _
                      go_wp2_with fail
                      refine bodyPost_ret (v := .tuple #[.slice a8 R.length c8, .bool true]) (by simp [results, Tryd.results84, go_sem]) rfl ?_
                      rw [HY.out]
                      exact ⟨BS.out, a8, c8, rfl, I8.out⟩
                    · skip
                      try simp only [List.getElem_toArray]
                      go_simp
                      have h6s : w.heap.size ≤ v1.heap.size := BS.out.size
                      have IX := Lib.hid (show Ints 0 (v1.alloc (Obj.cells #[.int .i64 (s : Int)] 3)) (.slice (some ⟨v1.heap.size, 0, none⟩) 1 1) [(s : Int)] from World.ownsRow_lit v1 #[.int .i64 (s : Int)] 1 (Nat.zero_le _) (by unfold maxLen; omega) rfl)
                      have H6Z := Lib.hid (show (v1.alloc (Obj.cells #[.int .i64 (s : Int)] 3)).heap.size = v1.heap.size + 1 by simp)
                      replace XS := Lib.hid (XS.out.alloc (Obj.cells #[.int .i64 (s : Int)] 3))
                      replace BS := Lib.hid (BS.out.alloc h6s (Obj.cells #[.int .i64 (s : Int)] 3))
                      replace IL := Lib.hid (IL.out.alloc (Obj.cells #[.int .i64 (s : Int)] 3))
                      generalize hH6 : v1.heap.size = H6 at *
                      generalize (v1.alloc (Obj.cells #[.int .i64 (s : Int)] 3)) = v2 at *
                      refine hK.out _ _ (by exact ⟨XS.out.out.at0, XS.out.out.at1⟩) (fun hHeld => ?_)
                      clear hK K
                      try simp only [List.getElem_toArray, List.getElem_cons_zero, List.getElem_cons_succ, Act.put, List.setIfInBounds_toArray, List.set_cons_zero, List.set_cons_succ]
                      refine wpAnyH_ready (rs := [4]) (by kernel_rfl) (by simp) ?_
                      refine (AllReadyH.cons rfl (fun K hK => ?_) AllReadyH.nil)
                      refine step_app rfl (.tmp 62) (.tmp 63) rfl H2 _ [] rfl (by exact IL.out) _ _ _ (toI pl) rfl (by exact (HU.out.below BS.out (Nat.le_refl _)).isrc) (by simp; omega) (by (try have z2 := H2Z.out); (try have z6 := H6Z.out); omega) ?_
                      intro a4 c4 v3 hin4 hb4 hg4
                      simp only [List.length_nil, Nat.zero_add, List.nil_append] at hin4 ⊢
                      have h4z := hb4.size
                      replace XS := Lib.hid (XS.out.next hb4 (by omega))
                      replace BS := Lib.hid (BS.out.trans (hb4.mono (by omega)))
                      replace IX := Lib.hid (IX.out.kept hg4 (.inr (show some H6 ≠ some H2 from fun e => by (try have z2 := H2Z.out); (try have z6 := H6Z.out); simp at e; omega)))
                      have IA := Lib.hid hin4
                      clear hin4 hb4 hg4
                      refine hK.out _ _ (by exact ⟨XS.out.out.at0, XS.out.out.at1⟩) (fun hHeld => ?_)
                      clear hK K
                      try simp only [List.getElem_toArray, List.getElem_cons_zero, List.getElem_cons_succ, Act.put, List.setIfInBounds_toArray, List.set_cons_zero, List.set_cons_succ]
                      refine wpAnyH_ready (rs := [7]) (by kernel_rfl) (by simp) ?_
                      refine (AllReadyH.cons rfl (fun K hK => ?_) AllReadyH.nil)
                      refine step_app rfl (.tmp 64) (.tmp 66) rfl H2 _ (toI pl) rfl (by exact IA.out) _ _ _ [(s : Int)] rfl (by exact IX.out.isrc) (by rw [toI_length]; omega) (by (try have z2 := H2Z.out); (try have z6 := H6Z.out); omega) ?_
                      intro a7 c7 v4 hin7 hb7 hg7
                      rw [toI_length, ← show toI (pl ++ [s]) = toI pl ++ [(s : Int)] from toI_append pl [s]] at hin7
                      rw [toI_length]
                      replace XS := Lib.hid (XS.out.next hb7 (by omega))
                      replace BS := Lib.hid (BS.out.trans (hb7.mono (by omega)))
                      have I7 := Lib.hid (hin7.mono (show B0 ≤ H2 by omega))
                      clear hin7 hb7 hg7
                      refine hK.out _ _ (by exact ⟨XS.out.out.at0, XS.out.out.at1⟩) (fun hHeld => ?_)
                      clear hK K
                      try simp only [List.getElem_toArray, List.getElem_cons_zero, List.getElem_cons_succ, Act.put, List.setIfInBounds_toArray, List.set_cons_zero, List.set_cons_succ]
                      refine wpAnyH_ready (rs := [8]) (by kernel_rfl) (by simp) ?_
                      refine (AllReadyH.cons rfl (fun K hK => ?_) AllReadyH.nil)
                      try simp only [List.getElem_toArray]
                      go_simp
                      refine (IHs.out _ _ (by exact H.out.below BS.out (Nat.le_refl _)) (Nat.le_trans hB0 BS.out.size) (by exact I7.out)).mono ?_
                      rintro e v5 ⟨hb8, he⟩
                      obtain ⟨a8, c8, rfl, hin8⟩ := he
                      have I8 := Lib.hid hin8
                      replace XS := Lib.hid (XS.out.next hb8 XS.out.lt)
                      replace BS := Lib.hid (BS.out.trans (hb8.mono BS.out.size))
                      clear hb8
                      refine hK.out _ _ (by exact ⟨XS.out.out.at0, XS.out.out.at1⟩) (fun hHeld => ?_)
                      clear hK K
                      try simp only [List.getElem_toArray, List.getElem_cons_zero, List.getElem_cons_succ, Act.put, List.setIfInBounds_toArray, List.set_cons_zero, List.set_cons_succ]
                      refine wpAnyH_take (i := 9) (v := ?_) rfl (by kernel_rfl) (by kernel_rfl) (by kernel_rfl) (fun _ _ _ h => h) (Or.inl ⟨by rfl, ?_⟩) (by assumption) ?_
                      rotate_left
                      · (intro w hSw; (try dsimp only at hSw); go_simp; try with_reducible rfl)
                      try simp only [List.getElem_toArray, List.getElem_cons_zero, List.getElem_cons_succ, Act.put, List.setIfInBounds_toArray, List.set_cons_zero, List.set_cons_succ]
                      refine wpAnyH_take (i := 10) (v := ?_) rfl (by kernel_rfl) (by kernel_rfl) (by kernel_rfl) (fun _ _ _ h => h) (Or.inl ⟨by rfl, ?_⟩) (by assumption) ?_
                      rotate_left
                      · (intro w hSw; (try dsimp only at hSw); go_simp; try with_reducible rfl)
                      try simp only [List.getElem_toArray, List.getElem_cons_zero, List.getElem_cons_succ, Act.put, List.setIfInBounds_toArray, List.set_cons_zero, List.set_cons_succ]
                      refine wpAnyH_take (i := 11) (v := ?_) rfl (by kernel_rfl) (by kernel_rfl) (by kernel_rfl) (fun _ _ _ h => h) (Or.inl ⟨by rfl, ?_⟩) (by assumption) ?_
                      rotate_left
                      · (intro w hSw; (try dsimp only at hSw); go_simp; try with_reducible rfl)
                      try simp only [List.getElem_toArray, List.getElem_cons_zero, List.getElem_cons_succ, Act.put, List.setIfInBounds_toArray, List.set_cons_zero, List.set_cons_succ]
                      refine wpAnyH_take (i := 12) (v := ?_) rfl (by kernel_rfl) (by kernel_rfl) (by kernel_rfl) (fun _ _ _ h => h) (Or.inl ⟨by rfl, ?_⟩) (by assumption) ?_
                      rotate_left
                      · (intro w hSw; (try dsimp only at hSw); go_simp; try with_reducible rfl)
                      try simp only [List.getElem_toArray, List.getElem_cons_zero, List.getElem_cons_succ, Act.put, List.setIfInBounds_toArray, List.set_cons_zero, List.set_cons_succ]
                      refine wpAnyH_take (i := 13) (v := ?_) rfl (by kernel_rfl) (by kernel_rfl) (by kernel_rfl) (fun _ _ _ h => h) (Or.inl ⟨by rfl, ?_⟩) (by assumption) ?_
                      rotate_left
                      · (intro w hSw; (try dsimp only at hSw); go_simp; try with_reducible rfl)
                      try simp only [List.getElem_toArray, List.getElem_cons_zero, List.getElem_cons_succ, Act.put, List.setIfInBounds_toArray, List.set_cons_zero, List.set_cons_succ]
                      refine wpAnyH_done (by kernel_rfl) ?_ _
                      go_wp2_with fail
                      refine bodyPost_ret (v := .tuple #[.slice a8 R.length c8, .bool true]) (by simp [results, Tryd.results84, go_sem]) rfl ?_
                      rw [HY.out]
                      exact ⟨BS.out, a8, c8, rfl, I8.out⟩
                  · skip
                    try simp only [List.getElem_toArray]
                    go_simp
                    have h6s : w.heap.size ≤ v0.heap.size := BS.out.size
                    have IX := Lib.hid (show Ints 0 (v0.alloc (Obj.cells #[.int .i64 (s : Int)] 3)) (.slice (some ⟨v0.heap.size, 0, none⟩) 1 1) [(s : Int)] from World.ownsRow_lit v0 #[.int .i64 (s : Int)] 1 (Nat.zero_le _) (by unfold maxLen; omega) rfl)
                    have H6Z := Lib.hid (show (v0.alloc (Obj.cells #[.int .i64 (s : Int)] 3)).heap.size = v0.heap.size + 1 by simp)
                    replace XS := Lib.hid (XS.out.alloc (Obj.cells #[.int .i64 (s : Int)] 3))
                    replace BS := Lib.hid (BS.out.alloc h6s (Obj.cells #[.int .i64 (s : Int)] 3))
                    generalize hH6 : v0.heap.size = H6 at *
                    generalize (v0.alloc (Obj.cells #[.int .i64 (s : Int)] 3)) = v1 at *
                    refine hK.out _ _ (by exact ⟨XS.out.out.at0, XS.out.out.at1⟩) (fun hHeld => ?_)
                    clear hK K
                    try simp only [List.getElem_toArray, List.getElem_cons_zero, List.getElem_cons_succ, Act.put, List.setIfInBounds_toArray, List.set_cons_zero, List.set_cons_succ]
                    refine wpAnyH_ready (rs := [2]) (by kernel_rfl) (by simp) ?_
                    refine (AllReadyH.cons rfl (fun K hK => ?_) AllReadyH.nil)
                    try simp only [List.getElem_toArray]
                    go_simp
                    have h2s : w.heap.size ≤ v1.heap.size := BS.out.size
                    have IL := Lib.hid (show Ints v1.heap.size (v1.alloc (Obj.cells #[] 3)) (.slice (some ⟨v1.heap.size, 0, none⟩) 0 0) [] from Ints.lit' (Nat.le_refl _) rfl)
                    have H2Z := Lib.hid (show (v1.alloc (Obj.cells #[] 3)).heap.size = v1.heap.size + 1 by simp)
                    have hxo : w.heap.size < v1.heap.size := XS.out.lt
                    replace XS := Lib.hid (XS.out.alloc (Obj.cells #[] 3))
                    replace BS := Lib.hid (BS.out.alloc h2s (Obj.cells #[] 3))
                    replace IX := Lib.hid (IX.out.alloc (Obj.cells #[] 3))
                    generalize hH2 : v1.heap.size = H2 at *
                    generalize (v1.alloc (Obj.cells #[] 3)) = v2 at *
                    refine hK.out _ _ (by exact ⟨XS.out.out.at0, XS.out.out.at1⟩) (fun hHeld => ?_)
                    clear hK K
                    try simp only [List.getElem_toArray, List.getElem_cons_zero, List.getElem_cons_succ, Act.put, List.setIfInBounds_toArray, List.set_cons_zero, List.set_cons_succ]
                    refine wpAnyH_ready (rs := [4]) (by kernel_rfl) (by simp) ?_
                    refine (AllReadyH.cons rfl (fun K hK => ?_) AllReadyH.nil)
                    refine step_app rfl (.tmp 62) (.tmp 63) rfl H2 _ [] rfl (by exact IL.out) _ _ _ (toI pl) rfl (by exact (HU.out.below BS.out (Nat.le_refl _)).isrc) (by simp; omega) (by (try have z2 := H2Z.out); (try have z6 := H6Z.out); omega) ?_
                    intro a4 c4 v3 hin4 hb4 hg4
                    simp only [List.length_nil, Nat.zero_add, List.nil_append] at hin4 ⊢
                    have h4z := hb4.size
                    replace XS := Lib.hid (XS.out.next hb4 (by omega))
                    replace BS := Lib.hid (BS.out.trans (hb4.mono (by omega)))
                    replace IX := Lib.hid (IX.out.kept hg4 (.inr (show some H6 ≠ some H2 from fun e => by (try have z2 := H2Z.out); (try have z6 := H6Z.out); simp at e; omega)))
                    have IA := Lib.hid hin4
                    clear hin4 hb4 hg4
                    refine hK.out _ _ (by exact ⟨XS.out.out.at0, XS.out.out.at1⟩) (fun hHeld => ?_)
                    clear hK K
                    try simp only [List.getElem_toArray, List.getElem_cons_zero, List.getElem_cons_succ, Act.put, List.setIfInBounds_toArray, List.set_cons_zero, List.set_cons_succ]
                    refine wpAnyH_ready (rs := [7]) (by kernel_rfl) (by simp) ?_
                    refine (AllReadyH.cons rfl (fun K hK => ?_) AllReadyH.nil)
                    refine step_app rfl (.tmp 64) (.tmp 66) rfl H2 _ (toI pl) rfl (by exact IA.out) _ _ _ [(s : Int)] rfl (by exact IX.out.isrc) (by rw [toI_length]; omega) (by (try have z2 := H2Z.out); (try have z6 := H6Z.out); omega) ?_
                    intro a7 c7 v4 hin7 hb7 hg7
                    rw [toI_length, ← show toI (pl ++ [s]) = toI pl ++ [(s : Int)] from toI_append pl [s]] at hin7
                    rw [toI_length]
                    replace XS := Lib.hid (XS.out.next hb7 (by omega))
                    replace BS := Lib.hid (BS.out.trans (hb7.mono (by omega)))
                    have I7 := Lib.hid (hin7.mono (show B0 ≤ H2 by omega))
                    clear hin7 hb7 hg7
                    refine hK.out _ _ (by exact ⟨XS.out.out.at0, XS.out.out.at1⟩) (fun hHeld => ?_)
                    clear hK K
                    try simp only [List.getElem_toArray, List.getElem_cons_zero, List.getElem_cons_succ, Act.put, List.setIfInBounds_toArray, List.set_cons_zero, List.set_cons_succ]
                    refine wpAnyH_ready (rs := [8]) (by kernel_rfl) (by simp) ?_
                    refine (AllReadyH.cons rfl (fun K hK => ?_) AllReadyH.nil)
                    try simp only [List.getElem_toArray]
                    go_simp
                    refine (IHs.out _ _ (by exact H.out.below BS.out (Nat.le_refl _)) (Nat.le_trans hB0 BS.out.size) (by exact I7.out)).mono ?_
                    rintro e v5 ⟨hb8, he⟩
                    obtain ⟨a8, c8, rfl, hin8⟩ := he
                    have I8 := Lib.hid hin8
                    replace XS := Lib.hid (XS.out.next hb8 XS.out.lt)
                    replace BS := Lib.hid (BS.out.trans (hb8.mono BS.out.size))
                    clear hb8
                    refine hK.out _ _ (by exact ⟨XS.out.out.at0, XS.out.out.at1⟩) (fun hHeld => ?_)
                    clear hK K
                    try simp only [List.getElem_toArray, List.getElem_cons_zero, List.getElem_cons_succ, Act.put, List.setIfInBounds_toArray, List.set_cons_zero, List.set_cons_succ]
                    refine wpAnyH_take (i := 9) (v := ?_) rfl (by kernel_rfl) (by kernel_rfl) (by kernel_rfl) (fun _ _ _ h => h) (Or.inl ⟨by rfl, ?_⟩) (by assumption) ?_
                    rotate_left
                    · (intro w hSw; (try dsimp only at hSw); go_simp; try with_reducible rfl)
                    try simp only [List.getElem_toArray, List.getElem_cons_zero, List.getElem_cons_succ, Act.put, List.setIfInBounds_toArray, List.set_cons_zero, List.set_cons_succ]
                    refine wpAnyH_take (i := 10) (v := ?_) rfl (by kernel_rfl) (by kernel_rfl) (by kernel_rfl) (fun _ _ _ h => h) (Or.inl ⟨by rfl, ?_⟩) (by assumption) ?_
                    rotate_left
                    · (intro w hSw; (try dsimp only at hSw); go_simp; try with_reducible rfl)
                    try simp only [List.getElem_toArray, List.getElem_cons_zero, List.getElem_cons_succ, Act.put, List.setIfInBounds_toArray, List.set_cons_zero, List.set_cons_succ]
                    refine wpAnyH_take (i := 11) (v := ?_) rfl (by kernel_rfl) (by kernel_rfl) (by kernel_rfl) (fun _ _ _ h => h) (Or.inl ⟨by rfl, ?_⟩) (by assumption) ?_
                    rotate_left
                    · (intro w hSw; (try dsimp only at hSw); go_simp; try with_reducible rfl)
                    try simp only [List.getElem_toArray, List.getElem_cons_zero, List.getElem_cons_succ, Act.put, List.setIfInBounds_toArray, List.set_cons_zero, List.set_cons_succ]
                    refine wpAnyH_take (i := 12) (v := ?_) rfl (by kernel_rfl) (by kernel_rfl) (by kernel_rfl) (fun _ _ _ h => h) (Or.inl ⟨by rfl, ?_⟩) (by assumption) ?_
                    rotate_left
                    · (intro w hSw; (try dsimp only at hSw); go_simp; try with_reducible rfl)
                    try simp only [List.getElem_toArray, List.getElem_cons_zero, List.getElem_cons_succ, Act.put, List.setIfInBounds_toArray, List.set_cons_zero, List.set_cons_succ]
                    refine wpAnyH_take (i := 13) (v := ?_) rfl (by kernel_rfl) (by kernel_rfl) (by kernel_rfl) (fun _ _ _ h => h) (Or.inl ⟨by rfl, ?_⟩) (by assumption) ?_
                    rotate_left
                    · (intro w hSw; (try dsimp only at hSw); go_simp; try with_reducible rfl)
                    try simp only [List.getElem_toArray, List.getElem_cons_zero, List.getElem_cons_succ, Act.put, List.setIfInBounds_toArray, List.set_cons_zero, List.set_cons_succ]
                    refine wpAnyH_done (by kernel_rfl) ?_ _
                    go_wp2_with fail
                    refine bodyPost_ret (v := .tuple #[.slice a8 R.length c8, .bool true]) (by simp [results, Tryd.results84, go_sem]) rfl ?_
                    rw [HY.out]
                    exact ⟨BS.out, a8, c8, rfl, I8.out⟩
      · obtain rfl : s = q := by omega
        have HN := Lib.hid (show A = none by rw [← HAs.out, frmP_end (Nat.le_refl _)])
        have hltI : ¬ (s : Int) < (s : Int) := by omega
        go_wp2_with fail
        refine (HPW.out _).mono ?_
        rintro e w9 ⟨rfl, hw9⟩
        subst w9
        go_wp2_with fail
        refine bodyPost_ret (v := .tuple #[.slice none 0 0, .bool false]) (by simp [results, Tryd.results84, go_sem]) rfl ?_
        rw [HN.out]
        exact ⟨BW.out, rfl⟩

end Go.Proofs.YtnoppclajhfnjabDoor
