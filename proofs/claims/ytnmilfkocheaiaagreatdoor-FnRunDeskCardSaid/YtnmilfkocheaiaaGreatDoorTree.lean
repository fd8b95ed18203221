/- The program's treeDepth. Conditions: the table setsWith is laid. -/
import Derived.Laws.EntriesVeiled
import Derived.Test.YtnmilfkocheaiaaGreatDoorDis
import Derived.Test.YtnmilfkocheaiaaGreatDoorZU
namespace Go.Proofs.YtnmilfkocheaiaaGreatDoor
open Go.RowKit

theorem cell_heap {w w' : World} (e : w'.heap = w.heap) (a : Addr) : w'.cell? a = w.cell? a := by simp only [World.cell?, e]
theorem SW.heap {w w' : World} (h : SW w) (e : w'.heap = w.heap) : SW w' := ⟨by rw [e]; exact h.1, fun x hx => (cell_heap e _).trans (h.2 x hx)⟩

/-- a tree's depth so far: J joins the depths of both branches, C chooses of two trees -/
def stp (J C : Int → Int → Int) (D : List Nat → Int) (l : List Nat) (best : Int) (x : Nat) : Int :=
  if wth x l = [] ∨ wto x l = [] then best else if 0 < best then C best (1 + J (D (wth x l)) (D (wto x l))) else 1 + J (D (wth x l)) (D (wto x l))
def dep (J C : Int → Int → Int) : Nat → List Nat → Int
  | 0, _ => 0
  | n + 1, l => (List.range 5).foldl (stp J C (dep J C n) l) 0
def depTo (J C : Int → Int → Int) (n : Nat) (l : List Nat) (k : Nat) : Int := (List.range k).foldl (stp J C (dep J C n) l) 0
theorem depTo_succ (J C : Int → Int → Int) (n : Nat) (l : List Nat) (k : Nat) : depTo J C n l (k + 1) = stp J C (dep J C n) l (depTo J C n l k) k := by
  rw [depTo, List.range_succ, List.foldl_append]; rfl
theorem split_len (x : Nat) (l : List Nat) (h1 : wth x l ≠ []) (h2 : wto x l ≠ []) : (wth x l).length < l.length ∧ (wto x l).length < l.length := by
  have h : (wth x l).length + (wto x l).length = l.length := by
    induction l with
    | nil => rfl
    | cons t l ih =>
      have hh : ∀ l : List Nat, (wth x l).length + (wto x l).length = l.length := by
        intro l
        induction l with
        | nil => rfl
        | cons t l ih =>
          by_cases e : hasX x t = true <;> simp [wth, wto, e] at ih ⊢ <;> omega
      exact hh (t :: l)
  have := List.length_pos_iff.2 h1
  have := List.length_pos_iff.2 h2
  omega
theorem dep_bdLo (n : Nat) (l : List Nat) : 0 ≤ dep min max n l ∧ dep min max n l ≤ n := by
  induction n generalizing l with
  | zero => simp [dep]
  | succ n ih =>
    have key : ∀ k, 0 ≤ depTo min max n l k ∧ depTo min max n l k ≤ n + 1 := by
      intro k
      induction k with
      | zero => simp [depTo]; omega
      | succ k ihk =>
        rw [depTo_succ, stp]
        have a := ih (wth k l)
        have b := ih (wto k l)
        split
        · exact ihk
        · split <;> omega
    have := key 5
    simp only [dep]
    simp only [depTo] at this
    omega
theorem depTo_bdLo (n : Nat) (l : List Nat) (k : Nat) : 0 ≤ depTo min max n l k ∧ depTo min max n l k ≤ n + 1 := by
  induction k with
  | zero => simp [depTo]; omega
  | succ k ihk =>
    rw [depTo_succ, stp]
    have a := dep_bdLo n (wth k l)
    have b := dep_bdLo n (wto k l)
    split
    · exact ihk
    · split <;> omega
theorem dep_bdQu (n : Nat) (l : List Nat) : 0 ≤ dep max min n l ∧ dep max min n l ≤ n := by
  induction n generalizing l with
  | zero => simp [dep]
  | succ n ih =>
    have key : ∀ k, 0 ≤ depTo max min n l k ∧ depTo max min n l k ≤ n + 1 := by
      intro k
      induction k with
      | zero => simp [depTo]; omega
      | succ k ihk =>
        rw [depTo_succ, stp]
        have a := ih (wth k l)
        have b := ih (wto k l)
        split
        · exact ihk
        · split <;> omega
    have := key 5
    simp only [dep]
    simp only [depTo] at this
    omega
theorem depTo_bdQu (n : Nat) (l : List Nat) (k : Nat) : 0 ≤ depTo max min n l k ∧ depTo max min n l k ≤ n + 1 := by
  induction k with
  | zero => simp [depTo]; omega
  | succ k ihk =>
    rw [depTo_succ, stp]
    have a := dep_bdQu n (wth k l)
    have b := dep_bdQu n (wto k l)
    split
    · exact ihk
    · split <;> omega

set_option maxHeartbeats 400000 in
theorem impl_lesser (a b : Int) (w : World) : Calls Tryz.prog 126 #[.int .i64 a, .int .i64 b] w fun e w' => e = .returned (.int .i64 (min a b)) ∧ w' = w := by
  go_enter Tryz.func126, Tryz.ntmps126
  go_wp2_with fail
  all_goals
    go_ret
    exact ⟨ret_int (by omega), rfl⟩

set_option maxHeartbeats 400000 in
theorem impl_greater (a b : Int) (w : World) : Calls Tryz.prog 127 #[.int .i64 a, .int .i64 b] w fun e w' => e = .returned (.int .i64 (max a b)) ∧ w' = w := by
  go_enter Tryz.func127, Tryz.ntmps127
  go_wp2_with fail
  all_goals
    go_ret
    exact ⟨ret_int (by omega), rfl⟩

/-- the three captured cells -/
def CapsLo (bj bd bc : Nat) (w : World) : Prop := (w.cell? ⟨bj, 0, none⟩ = some (.func (Fn.func 126) #[] #[]) ∧ w.cell? ⟨bd, 0, none⟩ = some (.func (Fn.func 153) #[] #[.pointer (some ⟨bj, 0, none⟩), .pointer (some ⟨bd, 0, none⟩), .pointer (some ⟨bc, 0, none⟩)]) ∧ w.cell? ⟨bc, 0, none⟩ = some (.func (Fn.func 127) #[] #[]))

theorem CapsLo.heap {bj bd bc : Nat} {w w' : World} (h : CapsLo bj bd bc w) (e : w'.heap = w.heap) : CapsLo bj bd bc w' := by
  have hc : ∀ a, w'.cell? a = w.cell? a := fun a => cell_heap e a
  exact ⟨(hc _).trans h.1, (hc _).trans h.2.1, (hc _).trans h.2.2⟩

set_option maxHeartbeats 3200000 in
set_option maxRecDepth 100000 in
theorem implStepLo (bj bd bc n : Nat) (hn : n ≤ 32) (IH : ∀ l : List Nat, (∀ t ∈ l, t < 32) → l.length ≤ n → l ≠ [] → ∀ w, SW w → CapsLo bj bd bc w → Calls Tryz.prog 153 #[.int .u32 (fm l), .pointer (some ⟨bj, 0, none⟩), .pointer (some ⟨bd, 0, none⟩), .pointer (some ⟨bc, 0, none⟩)] w (fun e w' => e = .returned (.int .i64 (dep min max n l)) ∧ ∃ d, w' = w.drewN d))
    (l : List Nat) (h32 : ∀ t ∈ l, t < 32) (hl : l.length ≤ n + 1) (w : World) (hsw : SW w) (hc : CapsLo bj bd bc w) :
    Calls Tryz.prog 153 #[.int .u32 (fm l), .pointer (some ⟨bj, 0, none⟩), .pointer (some ⟨bd, 0, none⟩), .pointer (some ⟨bc, 0, none⟩)] w (fun e w' => e = .returned (.int .i64 (dep min max (n + 1) l)) ∧ ∃ d, w' = w.drewN d) := by
  have HSW := Lib.hid hsw
  have HC := Lib.hid hc
  have HI := Lib.hid IH
  have H32 := Lib.hid h32
  clear hsw hc IH h32
  go_enter Tryz.func153, Tryz.ntmps153
  go_wp2_with fail
  go_loopw [6, 11] (fun b i wr => ∃ k : Nat, k ≤ 5 ∧ i = .int .i64 k ∧ b = .int .i64 (depTo min max n l k) ∧ ∃ d, wr = w.drewN d) (fun _ i _ => 5 - (intOf i).toNat)
  case atStart => exact ⟨0, Nat.zero_le _, rfl, rfl, 0, rfl⟩
  case round =>
    obtain ⟨k, hk, rfl, rfl, d, rfl⟩ := hrel
    obtain ⟨hb0, hb1⟩ := depTo_bdLo n l k
    by_cases hlt : k < 5
    · have HS := Lib.hid (depTo_succ min max n l k)
      have HSp := Lib.hid (show SW (w.drewN d) from HSW.out)
      have HCp := Lib.hid (show CapsLo bj bd bc (w.drewN d) from HC.out)
      generalize hB : depTo min max n l k = B at *
      clear hB
      have hkI : (k : Int) < 5 := by omega
      go_wp2_with fail
      refine (implSplit l k hlt _ HSp.out).mono ?_
      rintro e w4 ⟨rfl, d4, rfl⟩
      by_cases h1 : wth k l = []
      · have HK := Lib.hid (show depTo min max n l (k + 1) = B by rw [HS.out, stp, if_pos (.inl h1)])
        rw [h1, fm_nil]
        clear h1
        generalize fm (wto k l) = F2 at *
        go_wp2_with fail
        go_roundw
        case rel => exact ⟨k + 1, by omega, by go_num, by rw [HK.out], _, by first | rfl | exact World.drewN_drewN _ _ _⟩
        case measure => simp [intOf]; omega
      · have hf1 : fm (wth k l) ≠ 0 := (fm_ne (wth_lt H32.out)).2 h1
        have hb1' : (fm (wth k l) == 0) = false := by simpa using hf1
        by_cases h2 : wto k l = []
        · have HK := Lib.hid (show depTo min max n l (k + 1) = B by rw [HS.out, stp, if_pos (.inr h2)])
          rw [h2, fm_nil]
          clear h1 h2
          generalize fm (wth k l) = F1 at *
          go_wp2_with fail
          go_roundw
          case rel => exact ⟨k + 1, by omega, by go_num, by rw [HK.out], _, by first | rfl | exact World.drewN_drewN _ _ _⟩
          case measure => simp [intOf]; omega
        · have hf2 : fm (wto k l) ≠ 0 := (fm_ne (wto_lt H32.out)).2 h2
          have hb2' : (fm (wto k l) == 0) = false := by simpa using hf2
          have hlen := split_len k l h1 h2
          have HD1 := Lib.hid (HI.out (wth k l) (wth_lt H32.out) (by omega) h1)
          have HD2 := Lib.hid (HI.out (wto k l) (wto_lt H32.out) (by omega) h2)
          have HK := Lib.hid (show depTo min max n l (k + 1) = (if 0 < B then max B (1 + min (dep min max n (wth k l)) (dep min max n (wto k l))) else 1 + min (dep min max n (wth k l)) (dep min max n (wto k l))) by rw [HS.out, stp, if_neg (by simp [h1, h2])])
          obtain ⟨p0, p1⟩ := dep_bdLo n (wth k l)
          obtain ⟨q0, q1⟩ := dep_bdLo n (wto k l)
          clear h1 h2
          generalize fm (wth k l) = F1 at *
          generalize fm (wto k l) = F2 at *
          generalize dep min max n (wth k l) = D1 at *
          generalize dep min max n (wto k l) = D2 at *
          have HU := Lib.hid (show ∀ F dd, (F = F1 ∧ dd = D1 ∨ F = F2 ∧ dd = D2) → ∀ w0, SW w0 → CapsLo bj bd bc w0 → Calls Tryz.prog 153 #[.int .u32 F, .pointer (some ⟨bj, 0, none⟩), .pointer (some ⟨bd, 0, none⟩), .pointer (some ⟨bc, 0, none⟩)] w0 (fun e w' => e = .returned (.int .i64 dd) ∧ ∃ d, w' = w0.drewN d) from by
            rintro F dd (⟨rfl, rfl⟩ | ⟨rfl, rfl⟩)
            · exact HD1.out
            · exact HD2.out)
          clear HD1 HD2
          rw [World.drewN_drewN]
          obtain ⟨wb, hwb⟩ : ∃ wb, wb = w.drewN (d + d4) := ⟨_, rfl⟩
          rw [← hwb]
          have HWB := Lib.hid hwb
          have HSp2 := Lib.hid (show ∀ q, SW (wb.drewN q) from fun _ => by rw [hwb]; exact HSW.out)
          have HCp2 := Lib.hid (show ∀ q, CapsLo bj bd bc (wb.drewN q) from fun _ => by rw [hwb]; exact HC.out)
          obtain ⟨x0, x1, x2⟩ : CapsLo bj bd bc wb := HCp2.out 0
          clear hwb
          have HJ := Lib.hid (fun w => impl_lesser D1 D2 w)
          go_wp2_with fail
          go_quiet (first | (go_at_call 153; exact Calls.quiet_of (HU.out _ _ (by first | exact .inl ⟨rfl, rfl⟩ | exact .inr ⟨rfl, rfl⟩) _ (HSp2.out _) (HCp2.out _))) | (go_at_call 126; exact Calls.quiet_of_same (HJ.out _)))
          have HDD := Lib.hid (show 0 ≤ min D1 D2 ∧ min D1 D2 ≤ 32 by omega)
          generalize min D1 D2 = DD at *
          have hdd := HDD.out
          obtain ⟨y0, y1, y2⟩ : CapsLo bj bd bc (wb.drewN nq) := HCp2.out nq
          have HEQ := Lib.hid (show wb.drewN nq = w.drewN (d + d4 + nq) by rw [HWB.out, World.drewN_drewN])
          generalize wb.drewN nq = wc at *
          by_cases hB : 0 < B
          · have HK2 := Lib.hid (show depTo min max n l (k + 1) = max B (1 + DD) by rw [HK.out, if_pos hB])
            have hd : decide (0 < B) = true := decide_eq_true hB
            clear x0 x1 x2
            go_wp2_with fail
            refine (impl_greater _ _ _).mono ?_
            rintro e w9 ⟨rfl, rfl⟩
            go_wp2_with fail
            go_roundw
            case rel => exact ⟨k + 1, by omega, by go_num, by rw [HK2.out], _, HEQ.out⟩
            case measure => simp [intOf]; omega
          · have HK2 := Lib.hid (show depTo min max n l (k + 1) = 1 + DD by rw [HK.out, if_neg hB])
            have hd : decide (0 < B) = false := decide_eq_false hB
            clear x0 x1 x2
            go_wp2_with fail
            go_roundw
            case rel => exact ⟨k + 1, by omega, by go_num, by rw [HK2.out], _, HEQ.out⟩
            case measure => simp [intOf]; omega
    · obtain rfl : k = 5 := by omega
      go_wp2_with fail
      go_ret
      exact ⟨rfl, d, rfl⟩

theorem implDepthLo (bj bd bc : Nat) (n : Nat) (hn : n ≤ 32) : ∀ l : List Nat, (∀ t ∈ l, t < 32) → l.length ≤ n + 1 → ∀ w, SW w → CapsLo bj bd bc w → Calls Tryz.prog 153 #[.int .u32 (fm l), .pointer (some ⟨bj, 0, none⟩), .pointer (some ⟨bd, 0, none⟩), .pointer (some ⟨bc, 0, none⟩)] w (fun e w' => e = .returned (.int .i64 (dep min max (n + 1) l)) ∧ ∃ d, w' = w.drewN d) := by
  induction n with
  | zero => exact fun l h32 hl w hs hc => implStepLo bj bd bc 0 hn (fun l _ h1 h2 => absurd (List.eq_nil_of_length_eq_zero (by omega)) h2) l h32 hl w hs hc
  | succ n ih => exact fun l h32 hl w hs hc => implStepLo bj bd bc (n + 1) hn (fun l h1 h2 _ => ih (by omega) l h1 h2) l h32 hl w hs hc

set_option maxHeartbeats 1600000 in
set_option maxRecDepth 100000 in
theorem implTreeLo (l : List Nat) (h32 : ∀ t ∈ l, t < 32) (hl : l.length ≤ 32) (w : World) (hsw : SW w) :
    Calls Tryz.prog 125 #[.int .u32 (fm l), .func (Fn.func 126) #[] #[], .func (Fn.func 127) #[] #[]] w fun e w' => e = .returned (.int .i64 (dep min max 32 l)) ∧ Below w.heap.size w w' := by
  have HSW := Lib.hid hsw
  have HI := Lib.hid (implDepthLo w.heap.size (w.heap.size + 1 + 1) (w.heap.size + 1) 31 (by omega) l h32 hl)
  clear hsw h32
  go_enter Tryz.func125, Tryz.ntmps125
  go_wp2_with fail
  refine (HI.out _ (HSW.out.next (by go_grown)) (by refine ⟨?_, ?_, ?_⟩ <;> simp [go_sem])).mono ?_
  rintro e w1 ⟨rfl, d, rfl⟩
  go_wp2_with fail
  go_ret
  exact ⟨rfl, below_drewN (by go_grown) d⟩

/-- the three captured cells -/
def CapsQu (bj bd bc : Nat) (w : World) : Prop := (w.cell? ⟨bj, 0, none⟩ = some (.func (Fn.func 127) #[] #[]) ∧ w.cell? ⟨bd, 0, none⟩ = some (.func (Fn.func 153) #[] #[.pointer (some ⟨bj, 0, none⟩), .pointer (some ⟨bd, 0, none⟩), .pointer (some ⟨bc, 0, none⟩)]) ∧ w.cell? ⟨bc, 0, none⟩ = some (.func (Fn.func 126) #[] #[]))

theorem CapsQu.heap {bj bd bc : Nat} {w w' : World} (h : CapsQu bj bd bc w) (e : w'.heap = w.heap) : CapsQu bj bd bc w' := by
  have hc : ∀ a, w'.cell? a = w.cell? a := fun a => cell_heap e a
  exact ⟨(hc _).trans h.1, (hc _).trans h.2.1, (hc _).trans h.2.2⟩

set_option maxHeartbeats 3200000 in
set_option maxRecDepth 100000 in
theorem implStepQu (bj bd bc n : Nat) (hn : n ≤ 32) (IH : ∀ l : List Nat, (∀ t ∈ l, t < 32) → l.length ≤ n → l ≠ [] → ∀ w, SW w → CapsQu bj bd bc w → Calls Tryz.prog 153 #[.int .u32 (fm l), .pointer (some ⟨bj, 0, none⟩), .pointer (some ⟨bd, 0, none⟩), .pointer (some ⟨bc, 0, none⟩)] w (fun e w' => e = .returned (.int .i64 (dep max min n l)) ∧ ∃ d, w' = w.drewN d))
    (l : List Nat) (h32 : ∀ t ∈ l, t < 32) (hl : l.length ≤ n + 1) (w : World) (hsw : SW w) (hc : CapsQu bj bd bc w) :
    Calls Tryz.prog 153 #[.int .u32 (fm l), .pointer (some ⟨bj, 0, none⟩), .pointer (some ⟨bd, 0, none⟩), .pointer (some ⟨bc, 0, none⟩)] w (fun e w' => e = .returned (.int .i64 (dep max min (n + 1) l)) ∧ ∃ d, w' = w.drewN d) := by
  have HSW := Lib.hid hsw
  have HC := Lib.hid hc
  have HI := Lib.hid IH
  have H32 := Lib.hid h32
  clear hsw hc IH h32
  go_enter Tryz.func153, Tryz.ntmps153
  go_wp2_with fail
  go_loopw [6, 11] (fun b i wr => ∃ k : Nat, k ≤ 5 ∧ i = .int .i64 k ∧ b = .int .i64 (depTo max min n l k) ∧ ∃ d, wr = w.drewN d) (fun _ i _ => 5 - (intOf i).toNat)
  case atStart => exact ⟨0, Nat.zero_le _, rfl, rfl, 0, rfl⟩
  case round =>
    obtain ⟨k, hk, rfl, rfl, d, rfl⟩ := hrel
    obtain ⟨hb0, hb1⟩ := depTo_bdQu n l k
    by_cases hlt : k < 5
    · have HS := Lib.hid (depTo_succ max min n l k)
      have HSp := Lib.hid (show SW (w.drewN d) from HSW.out)
      have HCp := Lib.hid (show CapsQu bj bd bc (w.drewN d) from HC.out)
      generalize hB : depTo max min n l k = B at *
      clear hB
      have hkI : (k : Int) < 5 := by omega
      go_wp2_with fail
      refine (implSplit l k hlt _ HSp.out).mono ?_
      rintro e w4 ⟨rfl, d4, rfl⟩
      by_cases h1 : wth k l = []
      · have HK := Lib.hid (show depTo max min n l (k + 1) = B by rw [HS.out, stp, if_pos (.inl h1)])
        rw [h1, fm_nil]
        clear h1
        generalize fm (wto k l) = F2 at *
        go_wp2_with fail
        go_roundw
        case rel => exact ⟨k + 1, by omega, by go_num, by rw [HK.out], _, by first | rfl | exact World.drewN_drewN _ _ _⟩
        case measure => simp [intOf]; omega
      · have hf1 : fm (wth k l) ≠ 0 := (fm_ne (wth_lt H32.out)).2 h1
        have hb1' : (fm (wth k l) == 0) = false := by simpa using hf1
        by_cases h2 : wto k l = []
        · have HK := Lib.hid (show depTo max min n l (k + 1) = B by rw [HS.out, stp, if_pos (.inr h2)])
          rw [h2, fm_nil]
          clear h1 h2
          generalize fm (wth k l) = F1 at *
          go_wp2_with fail
          go_roundw
          case rel => exact ⟨k + 1, by omega, by go_num, by rw [HK.out], _, by first | rfl | exact World.drewN_drewN _ _ _⟩
          case measure => simp [intOf]; omega
        · have hf2 : fm (wto k l) ≠ 0 := (fm_ne (wto_lt H32.out)).2 h2
          have hb2' : (fm (wto k l) == 0) = false := by simpa using hf2
          have hlen := split_len k l h1 h2
          have HD1 := Lib.hid (HI.out (wth k l) (wth_lt H32.out) (by omega) h1)
          have HD2 := Lib.hid (HI.out (wto k l) (wto_lt H32.out) (by omega) h2)
          have HK := Lib.hid (show depTo max min n l (k + 1) = (if 0 < B then min B (1 + max (dep max min n (wth k l)) (dep max min n (wto k l))) else 1 + max (dep max min n (wth k l)) (dep max min n (wto k l))) by rw [HS.out, stp, if_neg (by simp [h1, h2])])
          obtain ⟨p0, p1⟩ := dep_bdQu n (wth k l)
          obtain ⟨q0, q1⟩ := dep_bdQu n (wto k l)
          clear h1 h2
          generalize fm (wth k l) = F1 at *
          generalize fm (wto k l) = F2 at *
          generalize dep max min n (wth k l) = D1 at *
          generalize dep max min n (wto k l) = D2 at *
          have HU := Lib.hid (show ∀ F dd, (F = F1 ∧ dd = D1 ∨ F = F2 ∧ dd = D2) → ∀ w0, SW w0 → CapsQu bj bd bc w0 → Calls Tryz.prog 153 #[.int .u32 F, .pointer (some ⟨bj, 0, none⟩), .pointer (some ⟨bd, 0, none⟩), .pointer (some ⟨bc, 0, none⟩)] w0 (fun e w' => e = .returned (.int .i64 dd) ∧ ∃ d, w' = w0.drewN d) from by
            rintro F dd (⟨rfl, rfl⟩ | ⟨rfl, rfl⟩)
            · exact HD1.out
            · exact HD2.out)
          clear HD1 HD2
          rw [World.drewN_drewN]
          obtain ⟨wb, hwb⟩ : ∃ wb, wb = w.drewN (d + d4) := ⟨_, rfl⟩
          rw [← hwb]
          have HWB := Lib.hid hwb
          have HSp2 := Lib.hid (show ∀ q, SW (wb.drewN q) from fun _ => by rw [hwb]; exact HSW.out)
          have HCp2 := Lib.hid (show ∀ q, CapsQu bj bd bc (wb.drewN q) from fun _ => by rw [hwb]; exact HC.out)
          obtain ⟨x0, x1, x2⟩ : CapsQu bj bd bc wb := HCp2.out 0
          clear hwb
          have HJ := Lib.hid (fun w => impl_greater D1 D2 w)
          go_wp2_with fail
          go_quiet (first | (go_at_call 153; exact Calls.quiet_of (HU.out _ _ (by first | exact .inl ⟨rfl, rfl⟩ | exact .inr ⟨rfl, rfl⟩) _ (HSp2.out _) (HCp2.out _))) | (go_at_call 127; exact Calls.quiet_of_same (HJ.out _)))
          have HDD := Lib.hid (show 0 ≤ max D1 D2 ∧ max D1 D2 ≤ 32 by omega)
          generalize max D1 D2 = DD at *
          have hdd := HDD.out
          obtain ⟨y0, y1, y2⟩ : CapsQu bj bd bc (wb.drewN nq) := HCp2.out nq
          have HEQ := Lib.hid (show wb.drewN nq = w.drewN (d + d4 + nq) by rw [HWB.out, World.drewN_drewN])
          generalize wb.drewN nq = wc at *
          by_cases hB : 0 < B
          · have HK2 := Lib.hid (show depTo max min n l (k + 1) = min B (1 + DD) by rw [HK.out, if_pos hB])
            have hd : decide (0 < B) = true := decide_eq_true hB
            clear x0 x1 x2
            go_wp2_with fail
            refine (impl_lesser _ _ _).mono ?_
            rintro e w9 ⟨rfl, rfl⟩
            go_wp2_with fail
            go_roundw
            case rel => exact ⟨k + 1, by omega, by go_num, by rw [HK2.out], _, HEQ.out⟩
            case measure => simp [intOf]; omega
          · have HK2 := Lib.hid (show depTo max min n l (k + 1) = 1 + DD by rw [HK.out, if_neg hB])
            have hd : decide (0 < B) = false := decide_eq_false hB
            clear x0 x1 x2
            go_wp2_with fail
            go_roundw
            case rel => exact ⟨k + 1, by omega, by go_num, by rw [HK2.out], _, HEQ.out⟩
            case measure => simp [intOf]; omega
    · obtain rfl : k = 5 := by omega
      go_wp2_with fail
      go_ret
      exact ⟨rfl, d, rfl⟩

theorem implDepthQu (bj bd bc : Nat) (n : Nat) (hn : n ≤ 32) : ∀ l : List Nat, (∀ t ∈ l, t < 32) → l.length ≤ n + 1 → ∀ w, SW w → CapsQu bj bd bc w → Calls Tryz.prog 153 #[.int .u32 (fm l), .pointer (some ⟨bj, 0, none⟩), .pointer (some ⟨bd, 0, none⟩), .pointer (some ⟨bc, 0, none⟩)] w (fun e w' => e = .returned (.int .i64 (dep max min (n + 1) l)) ∧ ∃ d, w' = w.drewN d) := by
  induction n with
  | zero => exact fun l h32 hl w hs hc => implStepQu bj bd bc 0 hn (fun l _ h1 h2 => absurd (List.eq_nil_of_length_eq_zero (by omega)) h2) l h32 hl w hs hc
  | succ n ih => exact fun l h32 hl w hs hc => implStepQu bj bd bc (n + 1) hn (fun l h1 h2 _ => ih (by omega) l h1 h2) l h32 hl w hs hc

set_option maxHeartbeats 1600000 in
set_option maxRecDepth 100000 in
theorem implTreeQu (l : List Nat) (h32 : ∀ t ∈ l, t < 32) (hl : l.length ≤ 32) (w : World) (hsw : SW w) :
    Calls Tryz.prog 125 #[.int .u32 (fm l), .func (Fn.func 127) #[] #[], .func (Fn.func 126) #[] #[]] w fun e w' => e = .returned (.int .i64 (dep max min 32 l)) ∧ Below w.heap.size w w' := by
  have HSW := Lib.hid hsw
  have HI := Lib.hid (implDepthQu w.heap.size (w.heap.size + 1 + 1) (w.heap.size + 1) 31 (by omega) l h32 hl)
  clear hsw h32
  go_enter Tryz.func125, Tryz.ntmps125
  go_wp2_with fail
  refine (HI.out _ (HSW.out.next (by go_grown)) (by refine ⟨?_, ?_, ?_⟩ <;> simp [go_sem])).mono ?_
  rintro e w1 ⟨rfl, d, rfl⟩
  go_wp2_with fail
  go_ret
  exact ⟨rfl, below_drewN (by go_grown) d⟩

/-- what mistakeDepth answers -/
def mst (l : List Nat) : Int := if l = [] then -1 else dep min max 32 l
def qst (l : List Nat) : Int := dep max min 32 l

set_option maxHeartbeats 800000 in
theorem implMistakeDepth (l : List Nat) (h32 : ∀ t ∈ l, t < 32) (hl : l.length ≤ 32) (w : World) (hsw : SW w) :
    Calls Tryz.prog 101 #[.int .u32 (fm l)] w fun e w' => e = .returned (.int .i64 (mst l)) ∧ Below w.heap.size w w' := by
  have HSW := Lib.hid hsw
  have HT := Lib.hid (implTreeLo l h32 hl)
  clear hsw
  by_cases h : l = []
  · have HM := Lib.hid (show mst l = -1 by rw [mst, if_pos h])
    rw [h, fm_nil]
    go_enter Tryz.func101, Tryz.ntmps101
    go_wp2_with fail
    go_ret
    exact ⟨ret_int (by rw [← h, HM.out]), Below.refl _ _⟩
  · have HM := Lib.hid (show mst l = dep min max 32 l by rw [mst, if_neg h])
    have hf := (fm_ne h32).2 h
    have hfb : (fm l == 0) = false := by simpa using hf
    clear h h32
    generalize fm l = F at *
    go_enter Tryz.func101, Tryz.ntmps101
    go_wp2_with fail
    refine (HT.out _ HSW.out).mono ?_
    rintro e w1 ⟨rfl, hb⟩
    go_wp2_with fail
    go_ret
    exact ⟨ret_int HM.out.symm, hb⟩

set_option maxHeartbeats 800000 in
theorem implQuestionDepth (l : List Nat) (h32 : ∀ t ∈ l, t < 32) (hl : l.length ≤ 32) (w : World) (hsw : SW w) :
    Calls Tryz.prog 103 #[.int .u32 (fm l)] w fun e w' => e = .returned (.int .i64 (qst l)) ∧ Below w.heap.size w w' := by
  have HSW := Lib.hid hsw
  have HT := Lib.hid (implTreeQu l h32 hl)
  clear hsw h32
  generalize fm l = F at *
  go_enter Tryz.func103, Tryz.ntmps103
  go_wp2_with fail
  refine (HT.out _ HSW.out).mono ?_
  rintro e w1 ⟨rfl, hb⟩
  go_wp2_with fail
  go_ret
  exact ⟨rfl, hb⟩

end Go.Proofs.YtnmilfkocheaiaaGreatDoor
