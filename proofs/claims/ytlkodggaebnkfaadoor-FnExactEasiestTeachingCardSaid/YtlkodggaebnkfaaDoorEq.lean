/- The laws' own small functions: sizes, copies of slices and classes, equality. Conditions: what the slices hold, at most 1048576 elements. -/
import Derived.Test.YtlkodggaebnkfaaDoorBase
import Derived.WalkSmall
namespace Go.Proofs.YtlkodggaebnkfaaDoor
open Go.RowKit

def left' (left : Int) (n : Nat) : Int := if left < n then -1 else left - n

set_option maxHeartbeats 400000 in
theorem szIntS (a : Option Addr) (n cap : Nat) (left : Int) (w : World) (h0 : 0 ≤ left) (h1 : left ≤ 1048576) (hn : n ≤ 9223372036854775807) :
    Calls Tryd.prog 34 #[.slice a n cap, .int .i64 left] w fun e w' => e = .returned (.int .i64 (left' left n)) ∧ w = w' := by
  by_cases h : left < n
  · have hd : left - (n : Int) < 0 := by omega
    go_enter Tryd.func34, Tryd.ntmps34
    go_wp2
    go_ret
    exact ⟨by simp [left', h], rfl⟩
  · have hd : ¬ left - (n : Int) < 0 := by omega
    go_enter Tryd.func34, Tryd.ntmps34
    go_wp2
    go_ret
    exact ⟨by rw [left', if_neg (by omega)]; rfl, rfl⟩

set_option maxHeartbeats 400000 in
theorem szClass (a : Option Addr) (n cap : Nat) (m left : Int) (w : World) (h0 : 0 ≤ left) (h1 : left ≤ 1048576) (hn : n ≤ 9223372036854775807) :
    Calls Tryd.prog 11 #[.agg #[.int .i64 m, .slice a n cap], .int .i64 left] w fun e w' => e = .returned (.int .i64 (left' left n)) ∧ Below w.heap.size w w' := by
  by_cases h : left < n
  · have hl : left' left n = -1 := by simp [left', h]
    rw [hl]
    go_enter Tryd.func11, Tryd.ntmps11
    go_wp2_with fail
    refine (szIntS _ _ _ _ _ h0 h1 hn).mono ?_
    rintro e w' ⟨rfl, rfl⟩
    rw [hl]
    clear hl
    go_wp2_with fail
    go_ret
    exact ⟨rfl, (Below.refl _ _).alloc (Nat.le_refl _) _⟩
  · have hl : left' left n = left - n := by simp [left', h]
    have hd : ¬ left - (n : Int) < 0 := by omega
    rw [hl]
    go_enter Tryd.func11, Tryd.ntmps11
    go_wp2_with fail
    refine (szIntS _ _ _ _ _ h0 h1 hn).mono ?_
    rintro e w' ⟨rfl, rfl⟩
    rw [hl]
    clear hl
    go_wp2_with fail
    go_ret
    exact ⟨rfl, (Below.refl _ _).alloc (Nat.le_refl _) _⟩

/-- nothing that was there has changed, and the first new block is a class -/
structure Box (n : Int) (v : Value) (w wr : World) : Prop where
  below : Below w.heap.size w wr
  at0 : wr.cell? ⟨w.heap.size, 0, none⟩ = some (.int .i64 n)
  at1 : wr.cell? ⟨w.heap.size, 1, none⟩ = some v

theorem Box.made (n : Int) (v : Value) (w : World) (t : TypeId) : Box n v w (w.alloc (.cells #[.int .i64 n, v] t)) :=
  ⟨(Below.refl _ _).alloc (Nat.le_refl _) _, by rw [World.cell?_alloc_at _ _ _ _ rfl]; rfl, by rw [World.cell?_alloc_at _ _ _ _ rfl]; rfl⟩

theorem Box.drewN {n : Int} {v : Value} {w wr : World} (h : Box n v w wr) (q : Nat) : Box n v w (wr.drewN q) := ⟨below_drewN h.below q, h.at0, h.at1⟩

theorem Box.next {n : Int} {v : Value} {w wr w1 : World} (h : Box n v w wr) (hlt : w.heap.size < wr.heap.size) (hb : Below wr.heap.size wr w1) : Box n v w w1 :=
  ⟨h.below.trans (hb.mono h.below.size), (hb.cell (p := ⟨w.heap.size, 0, none⟩) hlt).trans h.at0, (hb.cell (p := ⟨w.heap.size, 1, none⟩) hlt).trans h.at1⟩

/-- what a call hands back: a new slice that reads as xs; nothing that was there has changed -/
def RetInts (xs : List Int) (w : World) (e : Ending) (w' : World) : Prop := ∃ a cap, e = .returned (.slice a xs.length cap) ∧ Ints w.heap.size w' (.slice a xs.length cap) xs ∧ Below w.heap.size w w'

theorem RetInts.of {xs : List Int} {w w' : World} {v : Value} (h : Ints w.heap.size w' v xs) (hb : Below w.heap.size w w') : RetInts xs w (.returned v) w' := by
  obtain ⟨a, g, cap, rfl, _⟩ := h.shape
  exact ⟨a, cap, rfl, h, hb⟩

/-- the same for a class -/
def RetClass (n : Int) (xs : List Int) (w : World) (e : Ending) (w' : World) : Prop :=
  ∃ a cap, e = .returned (.agg #[.int .i64 n, .slice a xs.length cap]) ∧ Ints w.heap.size w' (.slice a xs.length cap) xs ∧ Below w.heap.size w w'

/-- a copy, k elements of which are made -/
def half (xs : List Int) (k : Nat) : List Int := xs.take k ++ List.replicate (xs.length - k) 0

theorem half_length (xs : List Int) (k : Nat) (h : k ≤ xs.length) : (half xs k).length = xs.length := by simp [half]; omega
theorem half_zero (xs : List Int) : half xs 0 = List.replicate xs.length 0 := by simp [half]
theorem half_full (xs : List Int) : half xs xs.length = xs := by simp [half]
theorem half_step (xs : List Int) (k : Nat) (h : k < xs.length) : (half xs k).set k (xs.getD k 0) = half xs (k + 1) := by
  apply List.ext_getElem?
  intro j
  rw [List.getElem?_set]
  simp only [half, List.length_append, List.length_take, List.length_replicate, List.getElem?_append, List.getElem?_take, List.getElem?_replicate]
  have hm : min k xs.length = k := by omega
  have hm' : min (k + 1) xs.length = k + 1 := by omega
  rw [hm, hm']
  by_cases hj : k = j
  · subst hj
    rw [if_pos rfl, if_pos (by omega), if_pos (by omega), if_pos (by omega)]
    simp [h]
  · rw [if_neg hj]
    by_cases h1 : j < k
    · rw [if_pos h1, if_pos h1, if_pos (by omega), if_pos (by omega)]
    · have e : (j - k < xs.length - k) ↔ (j - (k + 1) < xs.length - (k + 1)) := by omega
      simp only [h1, if_false, show ¬ j < k + 1 by omega, e]

theorem Ints.setCell_below {B : Nat} {w : World} {v : Value} {zs : List Int} (h : Ints B w v zs) {a : Addr} (ha : a.block < B) (u : Value) : Ints B (w.setCell a u) v zs :=
  ownsRow_setCell_below h ha u

theorem Ints.store {B g n cap : Nat} {w : World} {zs : List Int} (h : Ints B w (.slice (some ⟨g, 0, none⟩) n cap) zs) (k : Nat) (x : Int) :
    Ints B (w.setCell ⟨g, k, none⟩ (.int .i64 x)) (.slice (some ⟨g, 0, none⟩) n cap) (zs.set k x) := by
  have hn : n = zs.length := by obtain ⟨_, _, _, e, _⟩ := h.shape; simp at e; exact e.2.1
  subst hn
  have := (World.ownsRow.stored h k (.int .i64 x)).1
  unfold Ints
  rw [List.length_set, List.map_set]
  exact this

theorem made_ints (n : Nat) : (madeCells (Value.int .i64 0).cells (n * 1)).toList = (List.replicate n (0 : Int)).map (Value.int .i64) := by
  rw [Nat.mul_one]
  exact (toList_madeCells_one (.int .i64 0) n).trans (by simp)

theorem Ints.of_made {B g n : Nat} {w : World} (h : w.ownsRow B 3 1 (.slice (some ⟨g, 0, none⟩) n n) n (madeCells (Value.int .i64 0).cells (n * 1)).toList) :
    Ints B w (.slice (some ⟨g, 0, none⟩) n n) (List.replicate n 0) := by
  unfold Ints
  rw [List.length_replicate, ← made_ints]
  exact h

theorem Ints.cellAt {B g n cap : Nat} {w : World} {zs : List Int} (h : Ints B w (.slice (some ⟨g, 0, none⟩) n cap) zs) (k : Nat) (hk : k < zs.length) :
    w.cell? ⟨g, k, none⟩ = some (.int .i64 (zs.getD k 0)) ∧ w.frozen? ⟨g, k, none⟩ = false := by
  obtain ⟨a, g', cap', e, h1, h2, h3, h4, h5, h6⟩ := h.shape
  simp only [Value.slice.injEq] at e
  obtain ⟨rfl, _, _⟩ := e
  rcases h1 with h1 | h1
  · simp only [Option.some.injEq, Addr.mk.injEq, and_true] at h1
    subst h1
    exact ⟨h5 k hk, h6 k hk⟩
  · simp at h1

set_option maxHeartbeats 800000 in
set_option maxRecDepth 100000 in
theorem toIntS (v : Value) (xs : List Int) (w : World) (h : Rd w v xs) (hn : xs.length ≤ 1048576) :
    Calls Tryd.prog 38 #[v] w (RetInts xs w) := by
  obtain ⟨a, b, off, cap, rfl, h1, h3, h5⟩ := h
  obtain ⟨i0, hi, hz0, hz1, hz2⟩ := info_parts info3
  have H5 := Lib.hid h5
  clear h5 h3
  have H1 := Lib.hid h1
  clear h1
  have Hz2 := Lib.hid hz2
  clear hz2
  go_enter Tryd.func38, Tryd.ntmps38
  go_wp2_with (at_make; refine wpList_make_full _ rfl _ _ 22 rfl w.heap.size 3 i0 (.int .i64 0) 1 Tryd.underlying22 hi hz0 hz1 _ _ _ _ xs.length rfl rfl rfl rfl (by rw [Hz2.out]; omega) (by unfold maxLen; omega) (Nat.le_refl _) ?_; intro w1 hown hgrow)
  have hin := Ints.of_made hown
  have hb1 : Below w.heap.size w w1 := (Below.refl _ _).grown hgrow (Nat.le_refl _) (fun k hk => by simp at hk)
  clear hown hgrow hi hz0 hz1
  go_loopw [4] (fun i wr => ∃ k : Nat, k ≤ xs.length ∧ i = .int .i64 k ∧ Ints w.heap.size wr (.slice (some ⟨w.heap.size, 0, none⟩) xs.length xs.length) (half xs k) ∧ Below w.heap.size w wr) (fun i _ => xs.length - (intOf i).toNat)
  case atStart => exact ⟨0, Nat.zero_le _, rfl, by rw [half_zero]; exact hin, hb1⟩
  case round =>
    obtain ⟨k, hk, rfl, hik, hbk⟩ := hrel
    have Hik := Lib.hid hik
    have Hbk := Lib.hid hbk
    clear hik hbk hin hb1
    by_cases hlt : k < xs.length
    · obtain ⟨rfl, hbl⟩ := H1.out (by omega)
      have hc := (Hbk.out.cell (p := ⟨b, off + k, none⟩) hbl).trans (H5.out k hlt)
      obtain ⟨hs, hf⟩ := Hik.out.cellAt k (by rw [half_length _ _ (by omega)]; exact hlt)
      have HX := Lib.hid (half_step xs k hlt)
      generalize xs.getD k 0 = x at hc HX
      go_wp2
      go_roundw
      case rel => exact ⟨k + 1, by omega, by go_num, by rw [← HX.out]; exact Hik.out.store k x, Hbk.out.setCell (Nat.le_refl _) _⟩
      case measure => simp [intOf]; omega
    · go_wp2
      go_ret
      obtain rfl : k = xs.length := by omega
      have := Hik.out
      rw [half_full] at this
      exact RetInts.of this Hbk.out

/-- are the first n elements the same? -/
def eqTo (za zb : List Int) (n : Nat) : Prop := ∀ j, j < n → za.getD j 0 = zb.getD j 0
def eqB (za zb : List Int) : Bool := decide (za = zb)
theorem eqB_of {za zb : List Int} (hl : za.length = zb.length) (h : eqTo za zb za.length) : eqB za zb = true := by
  simp only [eqB, decide_eq_true_eq]
  apply List.ext_getElem hl
  intro j h1 h2
  have := h j h1
  simpa [List.getD, h1, h2] using this
theorem eqB_not {za zb : List Int} {k : Nat} (h : za.getD k 0 ≠ zb.getD k 0) : eqB za zb = false := by
  simp only [eqB, decide_eq_false_iff_not]
  rintro rfl
  exact h rfl
theorem eqB_len {za zb : List Int} (h : za.length ≠ zb.length) : eqB za zb = false := by
  simp only [eqB, decide_eq_false_iff_not]
  rintro rfl
  exact h rfl

set_option maxHeartbeats 800000 in
set_option maxRecDepth 100000 in
theorem eqIntS (va vb : Value) (za zb : List Int) (w : World) (ha : Rd w va za) (hb : Rd w vb zb) :
    Calls Tryd.prog 22 #[va, vb] w fun e w' => e = .returned (.bool (eqB za zb)) ∧ ∃ m, w' = w.drewN m := by
  obtain ⟨a, ga, oa, ca, rfl, ha1, ha3, ha5⟩ := ha
  obtain ⟨b, gb, ob, cb, rfl, hb1, hb3, hb5⟩ := hb
  have HA1 := Lib.hid ha1
  have HA5 := Lib.hid ha5
  have HB1 := Lib.hid hb1
  have HB5 := Lib.hid hb5
  clear ha1 ha5 hb1 hb5
  by_cases hl : za.length = zb.length
  · have HL := Lib.hid hl
    rw [← hl]
    clear hl
    generalize hn : za.length = n at *
    have HN := Lib.hid hn
    clear hn
    go_enter Tryd.func22, Tryd.ntmps22
    go_wp2
    go_loopw [5] (fun i wr => ∃ k : Nat, k ≤ n ∧ i = .int .i64 k ∧ eqTo za zb k ∧ ∃ m, wr = w.drewN m) (fun i _ => n - (intOf i).toNat)
    case atStart => exact ⟨0, Nat.zero_le _, rfl, fun j hj => by omega, 0, rfl⟩
    case round =>
      obtain ⟨k, hk, rfl, heq, m, rfl⟩ := hrel
      have HE := Lib.hid heq
      clear heq
      by_cases hlt : k < n
      · obtain ⟨rfl, _⟩ := HA1.out (by omega)
        obtain ⟨rfl, _⟩ := HB1.out (by rw [← HL.out]; omega)
        have hca := HA5.out k (by omega)
        have hcb := HB5.out k (by rw [← HL.out]; omega)
        generalize hx : za.getD k 0 = x at hca
        generalize hy : zb.getD k 0 = y at hcb
        have HX := Lib.hid hx
        have HY := Lib.hid hy
        clear hx hy
        have hltI : (k : Int) < (n : Int) := by omega
        by_cases hxy : x = y
        · subst hxy
          go_wp2
          go_quiet (fail)
          go_wp2
          go_roundw
          case rel => exact ⟨k + 1, by omega, by go_num, fun j hj => by
            by_cases e : j = k
            · subst e; rw [HX.out, HY.out]
            · exact HE.out j (by omega), _, rfl⟩
          case measure => simp [intOf]; omega
        · have hne : (x != y) = true := by simpa using hxy
          have HR := Lib.hid (eqB_not (k := k) (za := za) (zb := zb) (by rw [HX.out, HY.out]; exact hxy))
          go_wp2
          go_quiet (fail)
          go_wp2
          go_ret
          exact ⟨by rw [HR.out]; rfl, m + nq, World.drewN_drewN _ _ _⟩
      · obtain rfl : k = n := by omega
        have HR := Lib.hid (eqB_of (za := za) (zb := zb) (HN.out.trans HL.out) (by rw [HN.out]; exact HE.out))
        go_wp2
        go_ret
        exact ⟨by rw [HR.out]; rfl, _, rfl⟩
  · have hne : ((za.length : Int) != (zb.length : Int)) = true := by simp; omega
    have HR : eqB za zb = false := eqB_len hl
    rw [HR]
    clear HR hl
    go_enter Tryd.func22, Tryd.ntmps22
    go_wp2
    go_ret
    exact ⟨rfl, 0, rfl⟩


set_option maxHeartbeats 800000 in
set_option maxRecDepth 100000 in
theorem toClass (n : Int) (v : Value) (xs : List Int) (w : World) (h : Rd w v xs) (hn : xs.length ≤ 1048576) :
    Calls Tryd.prog 13 #[.agg #[.int .i64 n, v]] w (RetClass n xs w) := by
  go_enter Tryd.func13, Tryd.ntmps13
  go_wp2_with fail
  refine (toIntS v xs _ (h.below (k := w.heap.size) (by go_grown) (Nat.le_refl _)) hn).mono ?_
  rintro e w1 ⟨a', cap', rfl, hin, hb⟩
  obtain ⟨hc, hf⟩ := bcell hb
  have hz := hb.size
  have Hb := Lib.hid hb
  have Hin := Lib.hid hin
  clear hb hin h
  simp at hz
  go_wp2
  refine bodyPost_ret (v := .agg #[.int .i64 n, .slice a' xs.length cap']) (by simp [results, Tryd.results13, go_sem, hc]) rfl ⟨a', cap', rfl, ?_, ?_⟩
  · have h1 := Hin.out
    simp only [World.size_alloc] at h1
    refine Ints.mono (B := w.heap.size + 1 + 1 + 1) ?_ (by omega)
    repeat (refine Ints.setCell_below ?_ (by simp; try omega) _)
    exact h1
  · have hb0 : Below w.heap.size w w1 := Below.trans (by go_grown) (Hb.out.mono (by simp; omega))
    clear hc hf
    go_grown

set_option maxHeartbeats 800000 in
set_option maxRecDepth 100000 in
theorem eqClass (na nb : Int) (va vb : Value) (za zb : List Int) (w : World) (ha : Rd w va za) (hb : Rd w vb zb) :
    Calls Tryd.prog 15 #[.agg #[.int .i64 na, va], .agg #[.int .i64 nb, vb]] w fun e w' => e = .returned (.bool (decide (na = nb) && eqB za zb)) ∧ Below w.heap.size w w' := by
  by_cases hn : na = nb
  · subst hn
    go_enter Tryd.func15, Tryd.ntmps15
    go_wp2_with fail
    refine (eqIntS va vb za zb _ (ha.below (k := w.heap.size) (by go_grown) (Nat.le_refl _)) (hb.below (k := w.heap.size) (by go_grown) (Nat.le_refl _))).mono ?_
    rintro e w1 ⟨rfl, m, rfl⟩
    by_cases hz : eqB za zb = true
    · rw [hz]
      have Hz := Lib.hid hz
      clear hz
      go_wp2_with fail
      go_ret
      exact ⟨by rw [Hz.out]; simp, below_drewN (by go_grown) _⟩
    · rw [Bool.not_eq_true] at hz
      rw [hz]
      have Hz := Lib.hid hz
      clear hz
      go_wp2_with fail
      go_ret
      exact ⟨by rw [Hz.out]; simp, below_drewN (by go_grown) _⟩
  · have hne : (na != nb) = true := by simpa using hn
    go_enter Tryd.func15, Tryd.ntmps15
    go_wp2_with fail
    go_ret
    exact ⟨by rw [decide_eq_false hn]; rfl, ((Below.refl _ _).alloc (Nat.le_refl _) _).alloc (by simp) _⟩

end Go.Proofs.YtlkodggaebnkfaaDoor
