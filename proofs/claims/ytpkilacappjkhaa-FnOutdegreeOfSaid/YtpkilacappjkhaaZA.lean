/- Common notions and lemmas of the proofs over this program: slices of ints that read as a list, worlds that differ above a block. No conditions. The laws' own small functions: sizes, copies of slices and classes, equality. Conditions: what the slices hold, at most 1048576 elements. Plain lists and numbers: ascending lists, sets of points as bits, valid classes. No program, no conditions. append to a slice of ints that the call itself has made, from whatever source; bits of small numbers. Conditions: fewer than a thousand million elements. The model's power and inRange. Conditions: the exponent is 0 to 12. ValidClass, the program's and the model's. Conditions: Sets is a slice of ints. The program's arrays of 32 marks: traceMarks, partMarks, list. Conditions: sets of at most 5 points. A valid class, in Go's numbers and in plain ones; what the functions on traces answer. No program. The program's isSetOf, traceMarks, list, TraceOf. Conditions: Sets is a slice of ints. The model's small functions: meet, size, hasInt, tidy, trace. Conditions: sets of at most 5 points, at most 1048576 of them. -/
import Derived.BigQuiet
import Derived.Deep.QuietTactic
import Derived.Deep.RegionLaw
import Derived.Handy
import Derived.Lib.Hide
import Derived.Test.YtpkilacappjkhaaProg
import Derived.WalkKit
import Derived.WalkSmall
namespace Go.Proofs.Ytpkilacappjkhaa
open Go.RowKit

theorem info3 : (Try.prog.info? 3).map (fun i => (i.zero, i.size, i.bytes)) = some (some (.int .i64 0), 1, 8) := by kernel_rfl

/-- The slice v lies in a block from B on and reads as zs. -/
def Ints (B : Nat) (w : World) (v : Value) (zs : List Int) : Prop := w.ownsRow B 3 1 v zs.length (zs.map (Value.int .i64))

theorem Ints.nil (B : Nat) (w : World) : Ints B w (.slice none 0 0) [] := World.ownsRow_nil w B _ 1

theorem Ints.mono {B B' : Nat} {w : World} {v : Value} {zs : List Int} (h : Ints B w v zs) (hB : B' ≤ B) : Ints B' w v zs := by
  refine ⟨h.1, ?_⟩
  rcases h.2 with h2 | ⟨g, cap, cur, e, hb, r⟩
  · exact .inl h2
  · exact .inr ⟨g, cap, cur, e, Nat.le_trans hB hb, r⟩

theorem Ints.below {B k : Nat} {w w' : World} {v : Value} {zs : List Int} (h : Ints B w v zs) (hb : Below k w w') (hk : w.heap.size ≤ k) : Ints B w' v zs := by
  refine ⟨h.1, ?_⟩
  rcases h.2 with h2 | ⟨g, cap, cur, e, hB, hg, r⟩
  · exact .inl h2
  · refine .inr ⟨g, cap, cur, e, hB, ?_, r⟩
    rw [hb.block g (Nat.lt_of_lt_of_le (Array.getElem?_eq_some_iff.1 hg).1 hk)]
    exact hg

/-- What the slice's value looks like, and what its cells hold. -/
theorem Ints.shape {B : Nat} {w : World} {v : Value} {zs : List Int} (h : Ints B w v zs) :
    ∃ (a : Option Addr) (g cap : Nat), v = .slice a zs.length cap ∧ (a = some ⟨g, 0, none⟩ ∨ a = none) ∧ (a = none → zs = [] ∧ cap = 0) ∧ zs.length ≤ maxLen ∧ (a ≠ none → B ≤ g ∧ g < w.heap.size) ∧
      (∀ j, j < zs.length → w.cell? ⟨g, j, none⟩ = some (.int .i64 (zs.getD j 0))) ∧ (∀ j, j < zs.length → w.frozen? ⟨g, j, none⟩ = false) := by
  rcases h.2 with ⟨rfl, hn⟩ | ⟨g, cap, cur, rfl, hb, hg, hnc, hcm, hcs, htake⟩
  · have : zs = [] := List.eq_nil_of_length_eq_zero hn
    subst this
    exact ⟨none, 0, 0, rfl, .inr rfl, fun _ => ⟨rfl, rfl⟩, by simp, fun h => absurd rfl h, fun j hj => by simp at hj, fun j hj => by simp at hj⟩
  · refine ⟨some ⟨g, 0, none⟩, g, cap, rfl, .inl rfl, fun h => by simp at h, Nat.le_trans hnc hcm, fun _ => ⟨hb, (Array.getElem?_eq_some_iff.1 hg).1⟩, fun j hj => ?_, fun j hj => frozen_of_row w g j cur _ hg⟩
    rw [World.ownsRow.cellAt h j (by omega)]
    simp [List.getD, hj]

/-- the slice v, wherever it lies, reads as xs -/
def Rd (w : World) (v : Value) (xs : List Int) : Prop :=
  ∃ (a : Option Addr) (b off cap : Nat), v = .slice a xs.length cap ∧ (0 < xs.length → a = some ⟨b, off, none⟩ ∧ b < w.heap.size) ∧ xs.length ≤ 9223372036854775807 ∧
    ∀ j, j < xs.length → w.cell? ⟨b, off + j, none⟩ = some (.int .i64 (xs.getD j 0))

theorem Rd.below {k : Nat} {w w' : World} {v : Value} {xs : List Int} (h : Rd w v xs) (hb : Below k w w') (hk : w.heap.size ≤ k) : Rd w' v xs := by
  obtain ⟨a, b, off, cap, e, h1, h3, h5⟩ := h
  refine ⟨a, b, off, cap, e, fun h => ⟨(h1 h).1, Nat.lt_of_lt_of_le (h1 h).2 hb.size⟩, h3, fun j hj => ?_⟩
  rw [hb.cell (p := ⟨b, off + j, none⟩) (Nat.lt_of_lt_of_le (h1 (by omega)).2 hk)]
  exact h5 j hj

theorem Ints.rd {B : Nat} {w : World} {v : Value} {zs : List Int} (h : Ints B w v zs) : Rd w v zs := by
  obtain ⟨a, g, cap, rfl, h1, h2, h3, h4, h5, _⟩ := h.shape
  have hn : 0 < zs.length → a ≠ none := fun hp h => by rw [(h2 h).1] at hp; simp at hp
  refine ⟨a, g, 0, cap, rfl, fun hp => ⟨h1.resolve_right (hn hp), (h4 (hn hp)).2⟩, by unfold maxLen at h3; omega, fun j hj => ?_⟩
  rw [Nat.zero_add]
  exact h5 j hj

theorem bcell {W w1 : World} (hb : Below W.heap.size W w1) : (∀ b o, b < W.heap.size → w1.cell? ⟨b, o, none⟩ = W.cell? ⟨b, o, none⟩) ∧ (∀ b o, b < W.heap.size → w1.frozen? ⟨b, o, none⟩ = W.frozen? ⟨b, o, none⟩) :=
  ⟨fun b o h => hb.cell (p := ⟨b, o, none⟩) h, fun b o h => hb.frozen (p := ⟨b, o, none⟩) h⟩

theorem ret_int {k : IntKind} {a b : Int} (h : a = b) : Ending.returned (.int k a) = .returned (.int k b) := by rw [h]
theorem ret_bool {a b : Bool} (h : a = b) : Ending.returned (.bool a) = .returned (.bool b) := by rw [h]

end Go.Proofs.Ytpkilacappjkhaa

namespace Go.Proofs.Ytpkilacappjkhaa
open Go.RowKit

def left' (left : Int) (n : Nat) : Int := if left < n then -1 else left - n

set_option maxHeartbeats 400000 in
theorem szIntS (a : Option Addr) (n cap : Nat) (left : Int) (w : World) (h0 : 0 ≤ left) (h1 : left ≤ 1048576) (hn : n ≤ 9223372036854775807) :
    Calls Try.prog 23 #[.slice a n cap, .int .i64 left] w fun e w' => e = .returned (.int .i64 (left' left n)) ∧ w = w' := by
  by_cases h : left < n
  · have hd : left - (n : Int) < 0 := by omega
    go_enter Try.func23, Try.ntmps23
    go_wp2
    go_ret
    exact ⟨by simp [left', h], rfl⟩
  · have hd : ¬ left - (n : Int) < 0 := by omega
    go_enter Try.func23, Try.ntmps23
    go_wp2
    go_ret
    exact ⟨by rw [left', if_neg (by omega)]; rfl, rfl⟩

set_option maxHeartbeats 400000 in
theorem szClass (a : Option Addr) (n cap : Nat) (m left : Int) (w : World) (h0 : 0 ≤ left) (h1 : left ≤ 1048576) (hn : n ≤ 9223372036854775807) :
    Calls Try.prog 11 #[.agg #[.int .i64 m, .slice a n cap], .int .i64 left] w fun e w' => e = .returned (.int .i64 (left' left n)) ∧ Below w.heap.size w w' := by
  by_cases h : left < n
  · have hl : left' left n = -1 := by simp [left', h]
    rw [hl]
    go_enter Try.func11, Try.ntmps11
    go_wp2_with fail
    refine (szIntS _ _ _ _ _ h0 h1 hn).mono ?_
    rintro e w' ⟨rfl, rfl⟩
    rw [hl]
    clear hl
    go_wp2_with fail
    go_ret
    exact ⟨rfl, (Below.refl _ _).alloc (Nat.le_refl _) _⟩
  · have hl : left' left n = left - n := by simp [left', h]
    have hd : ¬ left - (n : Int) < 0 := by omega
    rw [hl]
    go_enter Try.func11, Try.ntmps11
    go_wp2_with fail
    refine (szIntS _ _ _ _ _ h0 h1 hn).mono ?_
    rintro e w' ⟨rfl, rfl⟩
    rw [hl]
    clear hl
    go_wp2_with fail
    go_ret
    exact ⟨rfl, (Below.refl _ _).alloc (Nat.le_refl _) _⟩

/-- nothing that was there has changed, and the first new block is a class -/
structure Box (n : Int) (v : Value) (w wr : World) : Prop where
  below : Below w.heap.size w wr
  at0 : wr.cell? ⟨w.heap.size, 0, none⟩ = some (.int .i64 n)
  at1 : wr.cell? ⟨w.heap.size, 1, none⟩ = some v

theorem Box.made (n : Int) (v : Value) (w : World) (t : TypeId) : Box n v w (w.alloc (.cells #[.int .i64 n, v] t)) :=
  ⟨(Below.refl _ _).alloc (Nat.le_refl _) _, by rw [World.cell?_alloc_at _ _ _ _ rfl]; rfl, by rw [World.cell?_alloc_at _ _ _ _ rfl]; rfl⟩

theorem Box.drewN {n : Int} {v : Value} {w wr : World} (h : Box n v w wr) (q : Nat) : Box n v w (wr.drewN q) := ⟨below_drewN h.below q, h.at0, h.at1⟩

theorem Box.next {n : Int} {v : Value} {w wr w1 : World} (h : Box n v w wr) (hlt : w.heap.size < wr.heap.size) (hb : Below wr.heap.size wr w1) : Box n v w w1 :=
  ⟨h.below.trans (hb.mono h.below.size), (hb.cell (p := ⟨w.heap.size, 0, none⟩) hlt).trans h.at0, (hb.cell (p := ⟨w.heap.size, 1, none⟩) hlt).trans h.at1⟩

/-- what a call hands back: a new slice that reads as xs; nothing that was there has changed -/
def RetInts (xs : List Int) (w : World) (e : Ending) (w' : World) : Prop := ∃ a cap, e = .returned (.slice a xs.length cap) ∧ Ints w.heap.size w' (.slice a xs.length cap) xs ∧ Below w.heap.size w w'

theorem RetInts.of {xs : List Int} {w w' : World} {v : Value} (h : Ints w.heap.size w' v xs) (hb : Below w.heap.size w w') : RetInts xs w (.returned v) w' := by
  obtain ⟨a, g, cap, rfl, _⟩ := h.shape
  exact ⟨a, cap, rfl, h, hb⟩

/-- the same for a class -/
def RetClass (n : Int) (xs : List Int) (w : World) (e : Ending) (w' : World) : Prop :=
  ∃ a cap, e = .returned (.agg #[.int .i64 n, .slice a xs.length cap]) ∧ Ints w.heap.size w' (.slice a xs.length cap) xs ∧ Below w.heap.size w w'

/-- a copy, k elements of which are made -/
def half (xs : List Int) (k : Nat) : List Int := xs.take k ++ List.replicate (xs.length - k) 0

theorem half_length (xs : List Int) (k : Nat) (h : k ≤ xs.length) : (half xs k).length = xs.length := by simp [half]; omega
theorem half_zero (xs : List Int) : half xs 0 = List.replicate xs.length 0 := by simp [half]
theorem half_full (xs : List Int) : half xs xs.length = xs := by simp [half]
theorem half_step (xs : List Int) (k : Nat) (h : k < xs.length) : (half xs k).set k (xs.getD k 0) = half xs (k + 1) := by
  apply List.ext_getElem?
  intro j
  rw [List.getElem?_set]
  simp only [half, List.length_append, List.length_take, List.length_replicate, List.getElem?_append, List.getElem?_take, List.getElem?_replicate]
  have hm : min k xs.length = k := by omega
  have hm' : min (k + 1) xs.length = k + 1 := by omega
  rw [hm, hm']
  by_cases hj : k = j
  · subst hj
    rw [if_pos rfl, if_pos (by omega), if_pos (by omega), if_pos (by omega)]
    simp [h]
  · rw [if_neg hj]
    by_cases h1 : j < k
    · rw [if_pos h1, if_pos h1, if_pos (by omega), if_pos (by omega)]
    · have e : (j - k < xs.length - k) ↔ (j - (k + 1) < xs.length - (k + 1)) := by omega
      simp only [h1, if_false, show ¬ j < k + 1 by omega, e]

theorem Ints.setCell_below {B : Nat} {w : World} {v : Value} {zs : List Int} (h : Ints B w v zs) {a : Addr} (ha : a.block < B) (u : Value) : Ints B (w.setCell a u) v zs :=
  ownsRow_setCell_below h ha u

theorem Ints.store {B g n cap : Nat} {w : World} {zs : List Int} (h : Ints B w (.slice (some ⟨g, 0, none⟩) n cap) zs) (k : Nat) (x : Int) :
    Ints B (w.setCell ⟨g, k, none⟩ (.int .i64 x)) (.slice (some ⟨g, 0, none⟩) n cap) (zs.set k x) := by
  have hn : n = zs.length := by obtain ⟨_, _, _, e, _⟩ := h.shape; simp at e; exact e.2.1
  subst hn
  have := (World.ownsRow.stored h k (.int .i64 x)).1
  unfold Ints
  rw [List.length_set, List.map_set]
  exact this

theorem made_ints (n : Nat) : (madeCells (Value.int .i64 0).cells (n * 1)).toList = (List.replicate n (0 : Int)).map (Value.int .i64) := by
  rw [Nat.mul_one]
  exact (toList_madeCells_one (.int .i64 0) n).trans (by simp)

theorem Ints.of_made {B g n : Nat} {w : World} (h : w.ownsRow B 3 1 (.slice (some ⟨g, 0, none⟩) n n) n (madeCells (Value.int .i64 0).cells (n * 1)).toList) :
    Ints B w (.slice (some ⟨g, 0, none⟩) n n) (List.replicate n 0) := by
  unfold Ints
  rw [List.length_replicate, ← made_ints]
  exact h

theorem Ints.cellAt {B g n cap : Nat} {w : World} {zs : List Int} (h : Ints B w (.slice (some ⟨g, 0, none⟩) n cap) zs) (k : Nat) (hk : k < zs.length) :
    w.cell? ⟨g, k, none⟩ = some (.int .i64 (zs.getD k 0)) ∧ w.frozen? ⟨g, k, none⟩ = false := by
  obtain ⟨a, g', cap', e, h1, h2, h3, h4, h5, h6⟩ := h.shape
  simp only [Value.slice.injEq] at e
  obtain ⟨rfl, _, _⟩ := e
  rcases h1 with h1 | h1
  · simp only [Option.some.injEq, Addr.mk.injEq, and_true] at h1
    subst h1
    exact ⟨h5 k hk, h6 k hk⟩
  · simp at h1

set_option maxHeartbeats 800000 in
set_option maxRecDepth 100000 in
theorem toIntS (v : Value) (xs : List Int) (w : World) (h : Rd w v xs) (hn : xs.length ≤ 1048576) :
    Calls Try.prog 24 #[v] w (RetInts xs w) := by
  obtain ⟨a, b, off, cap, rfl, h1, h3, h5⟩ := h
  obtain ⟨i0, hi, hz0, hz1, hz2⟩ := info_parts info3
  have H5 := Lib.hid h5
  clear h5 h3
  have H1 := Lib.hid h1
  clear h1
  have Hz2 := Lib.hid hz2
  clear hz2
  go_enter Try.func24, Try.ntmps24
  go_wp2_with (at_make; refine wpList_make_full _ rfl _ _ 23 rfl w.heap.size 3 i0 (.int .i64 0) 1 Try.underlying23 hi hz0 hz1 _ _ _ _ xs.length rfl rfl rfl rfl (by rw [Hz2.out]; omega) (by unfold maxLen; omega) (Nat.le_refl _) ?_; intro w1 hown hgrow)
  have hin := Ints.of_made hown
  have hb1 : Below w.heap.size w w1 := (Below.refl _ _).grown hgrow (Nat.le_refl _) (fun k hk => by simp at hk)
  clear hown hgrow hi hz0 hz1
  go_loopw [4] (fun i wr => ∃ k : Nat, k ≤ xs.length ∧ i = .int .i64 k ∧ Ints w.heap.size wr (.slice (some ⟨w.heap.size, 0, none⟩) xs.length xs.length) (half xs k) ∧ Below w.heap.size w wr) (fun i _ => xs.length - (intOf i).toNat)
  case atStart => exact ⟨0, Nat.zero_le _, rfl, by rw [half_zero]; exact hin, hb1⟩
  case round =>
    obtain ⟨k, hk, rfl, hik, hbk⟩ := hrel
    have Hik := Lib.hid hik
    have Hbk := Lib.hid hbk
    clear hik hbk hin hb1
    by_cases hlt : k < xs.length
    · obtain ⟨rfl, hbl⟩ := H1.out (by omega)
      have hc := (Hbk.out.cell (p := ⟨b, off + k, none⟩) hbl).trans (H5.out k hlt)
      obtain ⟨hs, hf⟩ := Hik.out.cellAt k (by rw [half_length _ _ (by omega)]; exact hlt)
      have HX := Lib.hid (half_step xs k hlt)
      generalize xs.getD k 0 = x at hc HX
      go_wp2
      go_roundw
      case rel => exact ⟨k + 1, by omega, by go_num, by rw [← HX.out]; exact Hik.out.store k x, Hbk.out.setCell (Nat.le_refl _) _⟩
      case measure => simp [intOf]; omega
    · go_wp2
      go_ret
      obtain rfl : k = xs.length := by omega
      have := Hik.out
      rw [half_full] at this
      exact RetInts.of this Hbk.out

/-- are the first n elements the same? -/
def eqTo (za zb : List Int) (n : Nat) : Prop := ∀ j, j < n → za.getD j 0 = zb.getD j 0
def eqB (za zb : List Int) : Bool := decide (za = zb)
theorem eqB_of {za zb : List Int} (hl : za.length = zb.length) (h : eqTo za zb za.length) : eqB za zb = true := by
  simp only [eqB, decide_eq_true_eq]
  apply List.ext_getElem hl
  intro j h1 h2
  have := h j h1
  simpa [List.getD, h1, h2] using this
theorem eqB_not {za zb : List Int} {k : Nat} (h : za.getD k 0 ≠ zb.getD k 0) : eqB za zb = false := by
  simp only [eqB, decide_eq_false_iff_not]
  rintro rfl
  exact h rfl
theorem eqB_len {za zb : List Int} (h : za.length ≠ zb.length) : eqB za zb = false := by
  simp only [eqB, decide_eq_false_iff_not]
  rintro rfl
  exact h rfl

set_option maxHeartbeats 800000 in
set_option maxRecDepth 100000 in
theorem eqIntS (va vb : Value) (za zb : List Int) (w : World) (ha : Rd w va za) (hb : Rd w vb zb) :
    Calls Try.prog 25 #[va, vb] w fun e w' => e = .returned (.bool (eqB za zb)) ∧ ∃ m, w' = w.drewN m := by
  obtain ⟨a, ga, oa, ca, rfl, ha1, ha3, ha5⟩ := ha
  obtain ⟨b, gb, ob, cb, rfl, hb1, hb3, hb5⟩ := hb
  have HA1 := Lib.hid ha1
  have HA5 := Lib.hid ha5
  have HB1 := Lib.hid hb1
  have HB5 := Lib.hid hb5
  clear ha1 ha5 hb1 hb5
  by_cases hl : za.length = zb.length
  · have HL := Lib.hid hl
    rw [← hl]
    clear hl
    generalize hn : za.length = n at *
    have HN := Lib.hid hn
    clear hn
    go_enter Try.func25, Try.ntmps25
    go_wp2
    go_loopw [5] (fun i wr => ∃ k : Nat, k ≤ n ∧ i = .int .i64 k ∧ eqTo za zb k ∧ ∃ m, wr = w.drewN m) (fun i _ => n - (intOf i).toNat)
    case atStart => exact ⟨0, Nat.zero_le _, rfl, fun j hj => by omega, 0, rfl⟩
    case round =>
      obtain ⟨k, hk, rfl, heq, m, rfl⟩ := hrel
      have HE := Lib.hid heq
      clear heq
      by_cases hlt : k < n
      · obtain ⟨rfl, _⟩ := HA1.out (by omega)
        obtain ⟨rfl, _⟩ := HB1.out (by rw [← HL.out]; omega)
        have hca := HA5.out k (by omega)
        have hcb := HB5.out k (by rw [← HL.out]; omega)
        generalize hx : za.getD k 0 = x at hca
        generalize hy : zb.getD k 0 = y at hcb
        have HX := Lib.hid hx
        have HY := Lib.hid hy
        clear hx hy
        have hltI : (k : Int) < (n : Int) := by omega
        by_cases hxy : x = y
        · subst hxy
          go_wp2
          go_quiet (fail)
          go_wp2
          go_roundw
          case rel => exact ⟨k + 1, by omega, by go_num, fun j hj => by
            by_cases e : j = k
            · subst e; rw [HX.out, HY.out]
            · exact HE.out j (by omega), _, rfl⟩
          case measure => simp [intOf]; omega
        · have hne : (x != y) = true := by simpa using hxy
          have HR := Lib.hid (eqB_not (k := k) (za := za) (zb := zb) (by rw [HX.out, HY.out]; exact hxy))
          go_wp2
          go_quiet (fail)
          go_wp2
          go_ret
          exact ⟨by rw [HR.out]; rfl, m + nq, World.drewN_drewN _ _ _⟩
      · obtain rfl : k = n := by omega
        have HR := Lib.hid (eqB_of (za := za) (zb := zb) (HN.out.trans HL.out) (by rw [HN.out]; exact HE.out))
        go_wp2
        go_ret
        exact ⟨by rw [HR.out]; rfl, _, rfl⟩
  · have hne : ((za.length : Int) != (zb.length : Int)) = true := by simp; omega
    have HR : eqB za zb = false := eqB_len hl
    rw [HR]
    clear HR hl
    go_enter Try.func25, Try.ntmps25
    go_wp2
    go_ret
    exact ⟨rfl, 0, rfl⟩


set_option maxHeartbeats 800000 in
set_option maxRecDepth 100000 in
theorem toClass (n : Int) (v : Value) (xs : List Int) (w : World) (h : Rd w v xs) (hn : xs.length ≤ 1048576) :
    Calls Try.prog 12 #[.agg #[.int .i64 n, v]] w (RetClass n xs w) := by
  go_enter Try.func12, Try.ntmps12
  go_wp2_with fail
  refine (toIntS v xs _ (h.below (k := w.heap.size) (by go_grown) (Nat.le_refl _)) hn).mono ?_
  rintro e w1 ⟨a', cap', rfl, hin, hb⟩
  obtain ⟨hc, hf⟩ := bcell hb
  have hz := hb.size
  have Hb := Lib.hid hb
  have Hin := Lib.hid hin
  clear hb hin h
  simp at hz
  go_wp2
  refine bodyPost_ret (v := .agg #[.int .i64 n, .slice a' xs.length cap']) (by simp [results, Try.results12, go_sem, hc]) rfl ⟨a', cap', rfl, ?_, ?_⟩
  · have h1 := Hin.out
    simp only [World.size_alloc] at h1
    refine Ints.mono (B := w.heap.size + 1 + 1 + 1) ?_ (by omega)
    repeat (refine Ints.setCell_below ?_ (by simp; try omega) _)
    exact h1
  · have hb0 : Below w.heap.size w w1 := Below.trans (by go_grown) (Hb.out.mono (by simp; omega))
    clear hc hf
    go_grown

set_option maxHeartbeats 800000 in
set_option maxRecDepth 100000 in
theorem eqClass (na nb : Int) (va vb : Value) (za zb : List Int) (w : World) (ha : Rd w va za) (hb : Rd w vb zb) :
    Calls Try.prog 13 #[.agg #[.int .i64 na, va], .agg #[.int .i64 nb, vb]] w fun e w' => e = .returned (.bool (decide (na = nb) && eqB za zb)) ∧ Below w.heap.size w w' := by
  by_cases hn : na = nb
  · subst hn
    go_enter Try.func13, Try.ntmps13
    go_wp2_with fail
    refine (eqIntS va vb za zb _ (ha.below (k := w.heap.size) (by go_grown) (Nat.le_refl _)) (hb.below (k := w.heap.size) (by go_grown) (Nat.le_refl _))).mono ?_
    rintro e w1 ⟨rfl, m, rfl⟩
    by_cases hz : eqB za zb = true
    · rw [hz]
      have Hz := Lib.hid hz
      clear hz
      go_wp2_with fail
      go_ret
      exact ⟨by rw [Hz.out]; simp, below_drewN (by go_grown) _⟩
    · rw [Bool.not_eq_true] at hz
      rw [hz]
      have Hz := Lib.hid hz
      clear hz
      go_wp2_with fail
      go_ret
      exact ⟨by rw [Hz.out]; simp, below_drewN (by go_grown) _⟩
  · have hne : (na != nb) = true := by simpa using hn
    go_enter Try.func13, Try.ntmps13
    go_wp2_with fail
    go_ret
    exact ⟨by rw [decide_eq_false hn]; rfl, ((Below.refl _ _).alloc (Nat.le_refl _) _).alloc (by simp) _⟩

end Go.Proofs.Ytpkilacappjkhaa

namespace Go.Proofs.Ytpkilacappjkhaa

/-- two ascending lists with the same members are one -/
theorem asc_ext : ∀ {l m : List Nat}, l.Pairwise (· < ·) → m.Pairwise (· < ·) → (∀ x, x ∈ l ↔ x ∈ m) → l = m
  | [], [], _, _, _ => rfl
  | [], b :: u, _, _, h => by have := (h b).2 (by simp); simp at this
  | a :: t, [], _, _, h => by have := (h a).1 (by simp); simp at this
  | a :: t, b :: u, h1, h2, h => by
    rw [List.pairwise_cons] at h1 h2
    have e : a = b := by
      have ha := (h a).1 (by simp)
      have hb := (h b).2 (by simp)
      rw [List.mem_cons] at ha hb
      rcases ha with ha | ha
      · exact ha
      · rcases hb with hb | hb
        · exact hb.symm
        · have := h1.1 b hb; have := h2.1 a ha; omega
    subst e
    rw [asc_ext h1.2 h2.2 (fun x => ?_)]
    have hx := h x
    rw [List.mem_cons, List.mem_cons] at hx
    constructor
    · intro ht
      rcases hx.1 (.inr ht) with rfl | hu
      · have := h1.1 x ht; omega
      · exact hu
    · intro hu
      rcases hx.2 (.inr hu) with rfl | ht
      · have := h2.1 x hu; omega
      · exact ht

theorem range_asc (n : Nat) : (List.range n).Pairwise (· < ·) := List.pairwise_lt_range

/-- the numbers below 32 for which a test holds, ascending -/
def flt (p : Nat → Bool) : List Nat := (List.range 32).filter p
theorem flt_asc (p : Nat → Bool) : (flt p).Pairwise (· < ·) := (range_asc 32).filter _
theorem mem_flt {p : Nat → Bool} {x : Nat} : x ∈ flt p ↔ x < 32 ∧ p x = true := by simp [flt]
theorem flt_length (p : Nat → Bool) : (flt p).length ≤ 32 := by
  have := List.length_filter_le p (List.range 32)
  simpa [flt] using this
theorem flt_of {l : List Nat} {p : Nat → Bool} (h : l.Pairwise (· < ·)) (hm : ∀ x, x ∈ l ↔ x < 32 ∧ p x = true) : l = flt p :=
  asc_ext h (flt_asc p) (fun x => by rw [hm, mem_flt])
theorem flt_congr {p q : Nat → Bool} (h : ∀ x, x < 32 → p x = q x) : flt p = flt q :=
  flt_of (flt_asc p) (fun x => by rw [mem_flt]; constructor <;> rintro ⟨a, b⟩ <;> exact ⟨a, by have := h x a; simp_all⟩)
theorem getD_of_lt {l : List Nat} {k : Nat} (h : k < l.length) : l.getD k 0 ∈ l := by
  rw [List.getD_eq_getElem?_getD, List.getElem?_eq_getElem h]
  exact List.getElem_mem h

/-- n points, and sets of them, ascending -/
structure Cls (n : Nat) (ns : List Nat) : Prop where
  pts : n ≤ 5
  asc : ns.Pairwise (· < ·)
  lt : ∀ t ∈ ns, t < 2 ^ n

theorem pow_le_32 {n : Nat} (h : n ≤ 5) : 2 ^ n ≤ 32 := by
  have : ∀ m : Fin 6, 2 ^ (m : Nat) ≤ 32 := by decide
  exact this ⟨n, by omega⟩
theorem Cls.lt32 {n : Nat} {ns : List Nat} (h : Cls n ns) : ∀ t ∈ ns, t < 32 := fun t ht => Nat.lt_of_lt_of_le (h.lt t ht) (pow_le_32 h.pts)
theorem Cls.flt {n : Nat} {ns : List Nat} (h : Cls n ns) : ns = flt (fun p => decide (p ∈ ns)) :=
  flt_of h.asc (fun x => by simp; exact fun hx => h.lt32 x hx)
theorem Cls.length {n : Nat} {ns : List Nat} (h : Cls n ns) : ns.length ≤ 32 := by rw [h.flt]; exact flt_length _

/-- as Go's numbers -/
def toI (ns : List Nat) : List Int := ns.map (fun m : Nat => (m : Int))
theorem toI_length (ns : List Nat) : (toI ns).length = ns.length := by simp [toI]
theorem toI_getD (ns : List Nat) (k : Nat) : (toI ns).getD k 0 = ((ns.getD k 0 : Nat) : Int) := by
  simp only [toI, List.getD_eq_getElem?_getD, List.getElem?_map]
  cases ns[k]? <;> simp
theorem toI_append (a b : List Nat) : toI (a ++ b) = toI a ++ toI b := by simp [toI]

/-- how many points a set has -/
def pc (s : Nat) : Nat := s % 2 + s / 2 % 2 + s / 4 % 2 + s / 8 % 2 + s / 16 % 2

/-- the parts of sets within one -/
def tr (ns : List Nat) (s : Nat) : List Nat := flt (fun p => ns.any (fun t => t &&& s == p))

/-- the place of x in an ascending list: how many are less -/
def before (p : Nat → Bool) (x : Nat) : Nat := ((List.range x).filter p).length

theorem range_at {x : Nat} (hx : x < 32) : List.range 32 = List.range x ++ (x :: List.range' (x + 1) (31 - x)) := by
  have h := List.range'_append_1 (s := 0) (m := x) (n := 31 - x + 1)
  rw [Nat.zero_add, show x + (31 - x + 1) = 32 by omega] at h
  rw [List.range_eq_range', List.range_eq_range', ← h, List.range'_succ]
theorem flt_split {p : Nat → Bool} {x : Nat} (hx : x < 32) (hp : p x = false) : flt p = (List.range x).filter p ++ ((List.range' (x + 1) (31 - x)).filter p) := by
  have e := range_at hx
  unfold flt
  rw [e, List.filter_append, List.filter_cons, hp]
  simp
theorem flt_put {p : Nat → Bool} {x : Nat} (hx : x < 32) (hp : p x = false) :
    flt (fun y => p y || y == x) = (flt p).take (before p x) ++ [x] ++ (flt p).drop (before p x) := by
  rw [flt_split hx hp]
  have e := range_at hx
  unfold flt before
  rw [e, List.filter_append, List.filter_cons, List.take_left, List.drop_left]
  have e1 : (List.range x).filter (fun y => p y || y == x) = (List.range x).filter p := by
    apply List.filter_congr
    intro y hy
    have : y ≠ x := by have := List.mem_range.1 hy; omega
    simp [this]
  have e2 : (List.range' (x + 1) (31 - x)).filter (fun y => p y || y == x) = (List.range' (x + 1) (31 - x)).filter p := by
    apply List.filter_congr
    intro y hy
    have : y ≠ x := by have := List.mem_range'_1.1 hy; omega
    simp [this]
  rw [e1, e2]
  simp
theorem before_le {p : Nat → Bool} {x : Nat} (hx : x < 32) (hp : p x = false) : before p x ≤ (flt p).length := by
  rw [flt_split hx hp]; simp [before]
theorem flt_less {p : Nat → Bool} {x k : Nat} (hx : x < 32) (hp : p x = false) (hk : k < before p x) : (flt p).getD k 0 < x := by
  rw [flt_split hx hp, List.getD_eq_getElem?_getD, List.getElem?_append_left hk, List.getElem?_eq_getElem hk]
  have := List.getElem_mem hk
  simp at this
  exact this.1
theorem flt_more {p : Nat → Bool} {x : Nat} (hx : x < 32) (hp : p x = false) (hk : before p x < (flt p).length) : x < (flt p).getD (before p x) 0 := by
  rw [flt_split hx hp] at hk ⊢
  have hl : before p x = ((List.range x).filter p).length := rfl
  rw [List.length_append] at hk
  rw [List.getD_eq_getElem?_getD, List.getElem?_append_right (by omega), hl, Nat.sub_self]
  have h0 : 0 < ((List.range' (x + 1) (31 - x)).filter p).length := by omega
  rw [List.getElem?_eq_getElem h0]
  have := (List.mem_range'_1.1 (List.mem_filter.1 (List.getElem_mem h0)).1).1
  show x < ((List.range' (x + 1) (31 - x)).filter p)[0]
  omega

end Go.Proofs.Ytpkilacappjkhaa

namespace Go.Proofs.Ytpkilacappjkhaa
open Go.RowKit

/-- what is appended: m elements that read as ms -/
def Src (w : World) (ao : Option Addr) (m c : Nat) (ms : List Int) : Prop :=
  ms.length = m ∧ (ao = none → m = 0 ∧ c = 0) ∧ ∀ ad, ao = some ad → ∀ j, j < m → w.cell? (ad.add j) = some (.int .i64 (ms.getD j 0))

theorem src_one (w : World) (x : Int) (t : TypeId) : Src (w.alloc (.cells #[.int .i64 x] t)) (some ⟨w.heap.size, 0, none⟩) 1 1 [x] := by
  refine ⟨rfl, fun h => by simp at h, fun ad had j hj => ?_⟩
  simp only [Option.some.injEq] at had
  subst had
  obtain rfl : j = 0 := by omega
  rw [Addr.add_lit, World.cell?_alloc_at _ _ _ _ rfl]
  rfl

theorem Rd.src {w : World} {a : Option Addr} {n cap : Nat} {xs : List Int} (h : Rd w (.slice a n cap) xs) (hn : a = none → n = 0 ∧ cap = 0) : Src w a n cap xs := by
  obtain ⟨a', b, off, cap', e, h1, h3, h5⟩ := h
  simp only [Value.slice.injEq] at e
  obtain ⟨rfl, rfl, rfl⟩ := e
  refine ⟨rfl, hn, fun ad had j hj => ?_⟩
  obtain ⟨h1, _⟩ := h1 (by omega)
  rw [h1] at had
  simp only [Option.some.injEq] at had
  subst had
  rw [Addr.add_lit]
  exact h5 j hj

theorem run_app {w : World} {ty : TypeId} {B : Nat} {v : Value} {xs : List Int} (h : Ints B w v xs) {ao : Option Addr} {m c : Nat} {ms : List Int} (hs : Src w ao m c ms) (hl : xs.length + m ≤ 1000000000) (hB : B ≤ w.heap.size) :
    ∃ a' cap' w', (Builtin.append_ #[23, 23] ty #[v, .slice ao m c]).run Try.prog w = .ok (.slice a' (xs.length + m) cap') w' ∧ Ints B w' (.slice a' (xs.length + m) cap') (xs ++ ms) ∧ Below B w w' ∧ w.grownBy w' v.ownBlock := by
  obtain ⟨i, hi, hz0, hz1, hz2⟩ := info_parts info3
  obtain ⟨hm, hnone, hc⟩ := hs
  cases ao with
  | none =>
    obtain ⟨rfl, rfl⟩ := hnone rfl
    obtain rfl : ms = [] := List.eq_nil_of_length_eq_zero hm
    have hr := run_append_owned_none (P := Try.prog) w B 23 ty 3 i 1 Try.underlying23 hi v _ _ h
    obtain ⟨a, g, cap, rfl, _⟩ := h.shape
    exact ⟨a, cap, w, hr, by simpa using h, Below.refl _ _, World.grownBy.refl _ _⟩
  | some ad =>
    obtain ⟨v', w', hr, hown, hg, _⟩ := run_append_own (P := Try.prog) w B 23 ty 3 i (.int .i64 0) 1 8 Try.underlying23 hi hz0 hz1 hz2 rfl (by decide) v xs.length (xs.map (Value.int .i64)) h
      ad m c (ms.map (Value.int .i64)) (by simp [hm]) (fun j u hu => by
        have hj : j < m := by
          have := (List.getElem?_eq_some_iff.1 hu).1
          simpa [hm] using this
        rw [hc ad rfl j hj, ← hu]
        simp [List.getD, hm, hj]) (ints_oneCell _ _) (by unfold maxLen; omega) (by omega) hB
    have hin : Ints B w' v' (xs ++ ms) := by
      unfold Ints
      rw [List.length_append, List.map_append, hm]
      exact hown
    obtain ⟨a, g, cap, rfl, _⟩ := hin.shape
    rw [List.length_append, hm] at hr hin
    exact ⟨a, cap, w', hr, hin, (Below.refl _ _).grown hg hB (fun k hk => (h.lt k hk).1), hg⟩

theorem wpList_app {w : World} {ops : Array Oper} {rest : List Oper} {o : Oper} {a : Act} {Q : Exit → Act → World → Prop} (hgd : o.guard = none) (s x : Operand)
    (ho : o.op = Op.call { callee := Callee.builtin Builtin.append, args := #[s, x], argTypes := #[23, 23] })
    (B : Nat) (v : Value) (xs : List Int) (hs : a.eval s = v) (h : Ints B w v xs) (ao : Option Addr) (m c : Nat) (ms : List Int) (hx : a.eval x = .slice ao m c) (hsrc : Src w ao m c ms) (hl : xs.length + m ≤ 1000000000) (hB : B ≤ w.heap.size)
    (hK : ∀ a' cap' w', Ints B w' (.slice a' (xs.length + m) cap') (xs ++ ms) → Below B w w' → w.grownBy w' v.ownBlock → wpList Try.prog ops Q rest (a.put o.dst (.slice a' (xs.length + m) cap')) w') : wpList Try.prog ops Q (o :: rest) a w := by
  refine wpList_plain hgd fun K hK' => ?_
  obtain ⟨a', cap', w', hrun, r1, r2, r3⟩ := run_app (ty := o.type) h hsrc hl hB
  unfold Oper.wp
  simp [execOp, ho, resolve, invoke, builtin, hs, hx, hrun, Result.andThen]
  exact hK' _ _ (hK a' cap' w' r1 r2 r3)

theorem step_app {w : World} {ops : Array Oper} {o : Oper} {a : Act} {K : Act → World → Prop} {Q : Exit → Act → World → Prop} {E : Prop} (hgd : o.guard = none) (s x : Operand)
    (ho : o.op = Op.call { callee := Callee.builtin Builtin.append, args := #[s, x], argTypes := #[23, 23] })
    (B : Nat) (v : Value) (xs : List Int) (hs : a.eval s = v) (h : Ints B w v xs) (ao : Option Addr) (m c : Nat) (ms : List Int) (hx : a.eval x = .slice ao m c) (hsrc : Src w ao m c ms) (hl : xs.length + m ≤ 1000000000) (hB : B ≤ w.heap.size)
    (hK : ∀ a' cap' w', Ints B w' (.slice a' (xs.length + m) cap') (xs ++ ms) → Below B w w' → w.grownBy w' v.ownBlock → K (a.put o.dst (.slice a' (xs.length + m) cap')) w') : if Region.wanted o (yielded ops a.tmps) = true then Oper.wp Try.prog o a w K Q else E := by
  have hw : Region.wanted o (yielded ops a.tmps) = true := by simp [Region.wanted, hgd]
  rw [if_pos hw]
  obtain ⟨a', cap', w', hrun, r1, r2, r3⟩ := run_app (ty := o.type) h hsrc hl hB
  unfold Oper.wp
  simp [execOp, ho, resolve, invoke, builtin, hs, hx, hrun, Result.andThen]
  exact hK a' cap' w' r1 r2 r3

theorem Ints.alloc {B : Nat} {w : World} {v : Value} {zs : List Int} (h : Ints B w v zs) (o : Obj) : Ints B (w.alloc o) v zs := World.ownsRow.alloc h o
theorem Ints.drewN {B : Nat} {w : World} {v : Value} {zs : List Int} (h : Ints B w v zs) (q : Nat) : Ints B (w.drewN q) v zs := h
theorem Ints.lit (B : Nat) (w : World) (hB : B ≤ w.heap.size) : Ints B (w.alloc (.cells #[] 3)) (.slice (some ⟨w.heap.size, 0, none⟩) 0 0) [] := World.ownsRow_lit w #[] 0 hB (by unfold maxLen; omega) rfl

theorem Ints.lit' {B : Nat} {w : World} {H : Nat} (hB : B ≤ w.heap.size) (hH : w.heap.size = H) : Ints B (w.alloc (.cells #[] 3)) (.slice (some ⟨H, 0, none⟩) 0 0) [] := hH ▸ Ints.lit B w hB
theorem src_cell {w : World} {H : Nat} {x : Int} (h : w.cell? ⟨H, 0, none⟩ = some (.int .i64 x)) : Src w (some ⟨H, 0, none⟩) 1 1 [x] := by
  refine ⟨rfl, fun h => by simp at h, fun ad had j hj => ?_⟩
  simp only [Option.some.injEq] at had
  subst had
  obtain rfl : j = 0 := by omega
  rw [Addr.add_lit]
  exact h
theorem cell_drew (v : World) (a : Addr) : v.drew.cell? a = v.cell? a := rfl
theorem Ints.len_le_cap {B g n c : Nat} {w : World} {xs : List Int} (h : Ints B w (.slice (some ⟨g, 0, none⟩) n c) xs) : n ≤ c := by
  rcases h.2 with ⟨e, _⟩ | ⟨g', cap, cur, e, _, _, hnc, _⟩
  · simp at e
  · simp only [Value.slice.injEq] at e
    obtain ⟨_, rfl, rfl⟩ := e
    exact hnc
theorem Src.below {w w' : World} {a : Addr} {m c : Nat} {ms : List Int} (h : Src w (some a) m c ms) (hb : Below w.heap.size w w') : Src w' (some a) m c ms := by
  obtain ⟨h1, h2, h3⟩ := h
  refine ⟨h1, h2, fun ad had j hj => ?_⟩
  have hc := h3 ad had j hj
  have hlt := World.block_lt_of_cell? w _ hc
  exact (hb.cell hlt).trans hc
/-- a part of a slice, from its beginning -/
theorem Ints.src_take {B g n c : Nat} {w : World} {xs : List Int} (h : Ints B w (.slice (some ⟨g, 0, none⟩) n c) xs) (j : Nat) (hj : j ≤ n) (cc : Nat) : Src w (some ⟨g, 0, none⟩) j cc (xs.take j) := by
  have hn : n = xs.length := by obtain ⟨_, _, _, e, _⟩ := h.shape; simp at e; exact e.2.1
  subst hn
  refine ⟨by simp; omega, fun h => by simp at h, fun ad had t ht => ?_⟩
  simp only [Option.some.injEq] at had
  subst had
  rw [Addr.add_lit, Nat.zero_add, (h.cellAt t (by omega)).1]
  simp [List.getD, ht]
/-- a part of a slice, to its end -/
theorem Ints.src_drop {B g n c : Nat} {w : World} {xs : List Int} (h : Ints B w (.slice (some ⟨g, 0, none⟩) n c) xs) (j : Nat) (hj : j ≤ n) (cc : Nat) (ao : Option Addr) (hne : ao ≠ none) (hao : j < n → ao = some ⟨g, j, none⟩) : Src w ao (n - j) cc (xs.drop j) := by
  have hn : n = xs.length := by obtain ⟨_, _, _, e, _⟩ := h.shape; simp at e; exact e.2.1
  subst hn
  refine ⟨by simp, fun h => absurd h hne, fun ad had t ht => ?_⟩
  rw [hao (by omega)] at had
  simp only [Option.some.injEq] at had
  subst had
  rw [Addr.add_lit, (h.cellAt (j + t) (by omega)).1]
  simp [List.getD]

theorem ofInt_i64 (a : Nat) (ha : a < 4096) : (BitVec.ofInt 64 (a : Int)).toNat = a := ofInt_u64 a (by omega)
theorem i64_and (a b : Nat) (ha : a < 4096) (hb : b < 4096) : bits .and .i64 (a : Int) (b : Int) = ((a &&& b : Nat) : Int) := by
  have hx : a &&& b < 2 ^ 12 := Nat.and_lt_two_pow _ (by omega)
  show IntKind.i64.wrap ((BitVec.ofInt 64 (a : Int) &&& BitVec.ofInt 64 (b : Int)).toNat : Int) = _
  rw [BitVec.toNat_and, ofInt_i64 a ha, ofInt_i64 b hb, IntKind.wrap_i64]
  omega
theorem i64_or (a b : Nat) (ha : a < 4096) (hb : b < 4096) : bits .or .i64 (a : Int) (b : Int) = ((a ||| b : Nat) : Int) := by
  have hx : a ||| b < 2 ^ 12 := Nat.or_lt_two_pow (by omega) (by omega)
  show IntKind.i64.wrap ((BitVec.ofInt 64 (a : Int) ||| BitVec.ofInt 64 (b : Int)).toNat : Int) = _
  rw [BitVec.toNat_or, ofInt_i64 a ha, ofInt_i64 b hb, IntKind.wrap_i64]
  omega
theorem i64_xor (a b : Nat) (ha : a < 4096) (hb : b < 4096) : bits .xor .i64 (a : Int) (b : Int) = ((a ^^^ b : Nat) : Int) := by
  have hx : a ^^^ b < 2 ^ 12 := Nat.xor_lt_two_pow (by omega) (by omega)
  show IntKind.i64.wrap ((BitVec.ofInt 64 (a : Int) ^^^ BitVec.ofInt 64 (b : Int)).toNat : Int) = _
  rw [BitVec.toNat_xor, ofInt_i64 a ha, ofInt_i64 b hb, IntKind.wrap_i64]
  omega

end Go.Proofs.Ytpkilacappjkhaa

namespace Go.Proofs.Ytpkilacappjkhaa
open Go.RowKit

theorem two_pow_le (k : Nat) (h : k ≤ 12) : (2 : Int) ^ k ≤ 4096 ∧ 1 ≤ (2 : Int) ^ k := by
  have : ∀ k : Fin 13, (2 : Int) ^ (k : Nat) ≤ 4096 ∧ 1 ≤ (2 : Int) ^ (k : Nat) := by decide
  exact this ⟨k, by omega⟩

set_option maxHeartbeats 400000 in
theorem specPower (n : Int) (w : World) (h0 : 0 ≤ n) (h1 : n ≤ 12) :
    Calls Try.prog 29 #[.int .i64 n] w fun e w' => e = .returned (.int .i64 (2 ^ n.toNat)) ∧ w = w' := by
  obtain ⟨m, rfl⟩ := Int.eq_ofNat_of_zero_le h0
  rw [Int.toNat_natCast]
  go_enter Try.func29, Try.ntmps29
  go_wp2
  go_loop [0, 3] (fun i o => ∃ k : Nat, k ≤ m ∧ i = .int .i64 ((m : Int) - k) ∧ o = .int .i64 (2 ^ k)) (fun i _ => (intOf i).toNat)
  case atStart => exact ⟨0, Nat.zero_le _, by simp, rfl⟩
  case round =>
    obtain ⟨k, hk, rfl, rfl⟩ := hrel
    have hp := two_pow_le k (by omega)
    by_cases hlt : k < m
    · have hd : (0 : Int) < (m : Int) - k := by omega
      go_wp2
      go_round
      case rel => exact ⟨k + 1, by omega, by go_num, by rw [Int.pow_succ]; go_num⟩
      case measure => simp [intOf]; omega
    · have hd : ¬ (0 : Int) < (m : Int) - k := by omega
      go_wp2
      go_ret
      obtain rfl : k = m := by omega
      exact ⟨rfl, rfl⟩

set_option maxHeartbeats 400000 in
theorem specInRange (a b c : Int) (w : World) :
    Calls Try.prog 28 #[.int .i64 a, .int .i64 b, .int .i64 c] w fun e w' => e = .returned (.bool (decide (b ≤ a) && decide (a ≤ c))) ∧ w = w' := by
  by_cases h : b ≤ a
  · go_enter Try.func28, Try.ntmps28
    go_wp2
    go_ret
    exact ⟨by simp [h], rfl⟩
  · go_enter Try.func28, Try.ntmps28
    go_wp2
    go_ret
    exact ⟨by rw [decide_eq_false (show ¬ b ≤ a by omega)]; rfl, rfl⟩

end Go.Proofs.Ytpkilacappjkhaa

namespace Go.Proofs.Ytpkilacappjkhaa
open Go.RowKit

/-- the first k numbers are sets of n points, ascending -/
def okTo (n : Nat) (zs : List Int) (k : Nat) : Prop := ∀ j, j < k → 0 ≤ zs.getD j 0 ∧ zs.getD j 0 < 2 ^ n ∧ (0 < j → zs.getD (j - 1) 0 < zs.getD j 0)
instance (n : Nat) (zs : List Int) (k : Nat) : Decidable (okTo n zs k) := Nat.decidableBallLT k fun j _ => 0 ≤ zs.getD j 0 ∧ zs.getD j 0 < 2 ^ n ∧ (0 < j → zs.getD (j - 1) 0 < zs.getD j 0)
/-- is the class valid? -/
def vldB (n : Int) (zs : List Int) : Bool := decide (0 ≤ n ∧ n ≤ 5 ∧ okTo n.toNat zs zs.length)
/-- the least number that may come next -/
def lst (zs : List Int) : Nat → Int
  | 0 => 0
  | k + 1 => zs.getD k 0 + 1

theorem vldB_low {n : Int} {zs : List Int} (h : n < 0) : vldB n zs = false := by simp [vldB]; intro h0; omega
theorem vldB_high {n : Int} {zs : List Int} (h : 5 < n) : vldB n zs = false := by simp [vldB]; intro _ h0; omega
theorem vldB_at {n : Nat} {zs : List Int} {k : Nat} (hk : k < zs.length) (h : ¬ (0 ≤ zs.getD k 0 ∧ zs.getD k 0 < 2 ^ n ∧ (0 < k → zs.getD (k - 1) 0 < zs.getD k 0))) : vldB n zs = false := by
  simp only [vldB, decide_eq_false_iff_not]
  rintro ⟨_, _, h3⟩
  exact h (h3 k hk)
theorem vldB_all {n : Nat} {zs : List Int} (hn : n ≤ 5) (h : okTo n zs zs.length) : vldB n zs = true := by
  simp only [vldB, decide_eq_true_eq]
  exact ⟨by omega, by omega, h⟩
theorem okTo_zero (n : Nat) (zs : List Int) : okTo n zs 0 := fun j hj => by omega
theorem okTo_succ {n : Nat} {zs : List Int} {k : Nat} (h : okTo n zs k) (h1 : 0 ≤ zs.getD k 0) (h2 : zs.getD k 0 < 2 ^ n) (h3 : 0 < k → zs.getD (k - 1) 0 < zs.getD k 0) : okTo n zs (k + 1) := fun j hj => by
  by_cases e : j = k
  · subst e; exact ⟨h1, h2, h3⟩
  · exact h j (by omega)
theorem lst_bd {n : Nat} {zs : List Int} {k : Nat} (hn : n ≤ 5) (h : okTo n zs k) : 0 ≤ lst zs k ∧ lst zs k ≤ 32 := by
  cases k with
  | zero => exact ⟨Int.le_refl _, by simp [lst]⟩
  | succ k =>
    have := h k (by omega)
    have hp : (2 : Int) ^ n ≤ 32 := by
      have : ∀ m : Fin 6, (2 : Int) ^ (m : Nat) ≤ 32 := by decide
      exact this ⟨n, by omega⟩
    simp only [lst]
    omega
/-- what the program asks of one set is what is asked here -/
theorem lst_ok {n : Nat} {zs : List Int} {k : Nat} (h : okTo n zs k) (x : Int) : lst zs k ≤ x ↔ (0 ≤ x ∧ (0 < k → zs.getD (k - 1) 0 < x)) := by
  cases k with
  | zero => simp [lst]
  | succ k =>
    have := h k (by omega)
    simp only [lst, Nat.add_sub_cancel]
    constructor
    · intro h; exact ⟨by omega, fun _ => by omega⟩
    · intro h; have := h.2 (by omega); omega

theorem wrap_pow (n : Nat) (h : n ≤ 5) : wrap64 ((2 : Int) ^ n) = 2 ^ n ∧ 1 ≤ wrap64 ((2 : Int) ^ n) ∧ wrap64 ((2 : Int) ^ n) ≤ 32 := by
  have hp : (2 : Int) ^ n ≤ 32 ∧ 1 ≤ (2 : Int) ^ n := by
    have : ∀ m : Fin 6, (2 : Int) ^ (m : Nat) ≤ 32 ∧ 1 ≤ (2 : Int) ^ (m : Nat) := by decide
    exact this ⟨n, by omega⟩
  have e : wrap64 ((2 : Int) ^ n) = 2 ^ n := IntWalk.wrap64_in _ ⟨by omega, by omega⟩
  rw [e]
  exact ⟨rfl, hp.2, hp.1⟩

set_option maxHeartbeats 400000 in
theorem implValid_off (n : Int) (v : Value) (w : World) (h : n < 0 ∨ 5 < n) :
    Calls Try.prog 8 #[.agg #[.int .i64 n, v]] w fun e w' => e = .returned (.bool false) ∧ Below w.heap.size w w' := by
  rcases h with h | h
  · go_enter Try.func8, Try.ntmps8
    go_wp2
    go_ret
    exact ⟨rfl, (Below.refl _ _).alloc (Nat.le_refl _) _⟩
  · have h' : ¬ n < 0 := by omega
    go_enter Try.func8, Try.ntmps8
    go_wp2
    go_ret
    exact ⟨rfl, (Below.refl _ _).alloc (Nat.le_refl _) _⟩

set_option maxHeartbeats 800000 in
theorem implValid_in (n : Nat) (hn : n ≤ 5) (v : Value) (zs : List Int) (w : World) (h : Rd w v zs) :
    Calls Try.prog 8 #[.agg #[.int .i64 n, v]] w fun e w' => e = .returned (.bool (vldB n zs)) ∧ Below w.heap.size w w' := by
  obtain ⟨a, g, off, cap, rfl, h1, h3, h5⟩ := h
  have H5 := Lib.hid h5
  have H1 := Lib.hid h1
  clear h5 h1
  have h0 : ¬ (n : Int) < 0 := by omega
  have h0' : ¬ (5 : Int) < n := by omega
  go_enter Try.func8, Try.ntmps8
  go_wp2
  go_loop [3, 17] (fun l i => ∃ k : Nat, k ≤ zs.length ∧ i = .int .i64 k ∧ l = .int .i64 (lst zs k) ∧ okTo n zs k) (fun _ i => zs.length - (intOf i).toNat)
  case atStart => exact ⟨0, Nat.zero_le _, rfl, rfl, okTo_zero _ _⟩
  case round =>
    obtain ⟨k, hk, rfl, rfl, hok⟩ := hrel
    have hb := lst_bd hn hok
    have HI := Lib.hid (lst_ok hok)
    have HO := Lib.hid hok
    clear hok
    by_cases hlt : k < zs.length
    · obtain ⟨rfl, hbl⟩ := H1.out (by omega)
      have hc := H5.out k hlt
      generalize hx : zs.getD k 0 = x at hc
      have HX := Lib.hid hx
      clear hx
      generalize hl : lst zs k = l at hb
      have HL := Lib.hid hl
      clear hl
      have hw := wrap_pow n hn
      have HW := Lib.hid hw.1
      have hw2 := hw.2
      clear hw
      go_wp2
      · have h1 : l ≤ x := by assumption
        have h2 : x < l ∨ wrap64 (2 ^ n) ≤ x := by assumption
        go_ret
        refine ⟨ret_bool ?_, (Below.refl _ _).alloc (Nat.le_refl _) _⟩
        refine (vldB_at hlt ?_).symm
        rw [HX.out, ← HW.out]
        rintro ⟨_, h4, _⟩
        rcases h2 with h2 | h2 <;> omega
      · have h1 : l ≤ x ∧ x < wrap64 (2 ^ n) := by assumption
        go_round
        case rel =>
          have hI := (HI.out x).1 (by rw [HL.out]; exact h1.1)
          refine ⟨k + 1, by omega, by go_num, ?_, okTo_succ HO.out (by rw [HX.out]; exact hI.1) (by rw [HX.out, ← HW.out]; exact h1.2) (by rw [HX.out]; exact hI.2)⟩
          simp only [lst, HX.out]
        case measure => simp [intOf]; omega
      · have h1 : x < l := by assumption
        go_ret
        refine ⟨ret_bool ?_, (Below.refl _ _).alloc (Nat.le_refl _) _⟩
        refine (vldB_at hlt ?_).symm
        rw [HX.out]
        rintro ⟨h4, _, h6⟩
        have := (HI.out x).2 ⟨h4, h6⟩
        rw [HL.out] at this
        omega
    · go_wp2
      go_ret
      obtain rfl : k = zs.length := by omega
      exact ⟨ret_bool (vldB_all hn HO.out).symm, (Below.refl _ _).alloc (Nat.le_refl _) _⟩

theorem implValid (n : Int) (v : Value) (zs : List Int) (w : World) (h : Rd w v zs) :
    Calls Try.prog 8 #[.agg #[.int .i64 n, v]] w fun e w' => e = .returned (.bool (vldB n zs)) ∧ Below w.heap.size w w' := by
  by_cases h0 : n < 0
  · rw [vldB_low h0]; exact implValid_off n v w (.inl h0)
  · by_cases h1 : 5 < n
    · rw [vldB_high h1]; exact implValid_off n v w (.inr h1)
    · obtain ⟨m, rfl⟩ := Int.eq_ofNat_of_zero_le (show 0 ≤ n by omega)
      exact implValid_in m (by omega) v zs w h

end Go.Proofs.Ytpkilacappjkhaa

namespace Go.Proofs.Ytpkilacappjkhaa
open Go.RowKit

theorem infoM : (Try.prog.info? 46).map (·.size) = some 32 := by kernel_rfl

/-- block b holds the marks bs -/
def Arr (w : World) (b : Nat) (bs : List Bool) : Prop := bs.length = 32 ∧ w.heap[b]? = some (.cells (bs.map Value.bool).toArray 46 (0, 0))
theorem Arr.cell {w : World} {b : Nat} {bs : List Bool} (h : Arr w b bs) (j : Nat) (hj : j < 32) : w.cell? ⟨b, j, none⟩ = some (.bool (bs.getD j false)) ∧ w.frozen? ⟨b, j, none⟩ = false := by
  refine ⟨?_, frozen_of_row w b j _ _ h.2⟩
  rw [cell_of_row w b j _ _ _ h.2]
  have : j < bs.length := by rw [h.1]; exact hj
  simp [List.getD, this]
theorem Arr.set {w : World} {b : Nat} {bs : List Bool} (h : Arr w b bs) (j : Nat) (x : Bool) : Arr (w.setCell ⟨b, j, none⟩ (.bool x)) b (bs.set j x) := by
  refine ⟨by simpa using h.1, ?_⟩
  rw [heap_setCell_same w b j _ _ _ h.2]
  simp [List.map_set]
/-- which sets are marked -/
def markL (p : Nat → Bool) : List Bool := (List.range 32).map p
theorem markL_length (p : Nat → Bool) : (markL p).length = 32 := by simp [markL]
theorem markL_getD (p : Nat → Bool) (j : Nat) (hj : j < 32) : (markL p).getD j false = p j := by simp [markL, List.getD, hj]
theorem markL_congr {p q : Nat → Bool} (h : ∀ x, x < 32 → p x = q x) : markL p = markL q := by
  apply List.map_congr_left
  intro x hx
  exact h x (List.mem_range.1 hx)
theorem markL_set (p : Nat → Bool) (j : Nat) (x : Bool) : (markL p).set j x = markL (fun y => if y = j then x else p y) := by
  apply List.ext_getElem?
  intro y
  rw [List.getElem?_set]
  simp only [markL, List.length_map, List.length_range, List.getElem?_map]
  by_cases hy : y < 32
  · by_cases e : j = y
    · subst e; simp [hy]
    · simp [e, hy, show ¬ y = j from fun h => e h.symm]
  · by_cases e : j = y
    · subst e; simp [hy]
    · simp [e, hy]
/-- the parts that sets have in common with one, marked -/
def trTo (ns : List Nat) (s k p : Nat) : Bool := (ns.take k).any (fun t => t &&& s == p)
theorem trTo_succ (ns : List Nat) (s k : Nat) (hk : k < ns.length) (p : Nat) : trTo ns s (k + 1) p = if p = (ns.getD k 0) &&& s then true else trTo ns s k p := by
  have e : ns.take (k + 1) = ns.take k ++ [ns.getD k 0] := by
    rw [List.take_add_one, List.getElem?_eq_getElem hk, List.getD_eq_getElem?_getD, List.getElem?_eq_getElem hk]; rfl
  simp only [trTo, e, List.any_append, List.any_cons, List.any_nil, Bool.or_false]
  by_cases h : p = (ns.getD k 0) &&& s
  · rw [if_pos h, h]; simp
  · rw [if_neg h]
    have : ((ns.getD k 0) &&& s == p) = false := by simpa using fun e => h e.symm
    rw [this, Bool.or_false]

end Go.Proofs.Ytpkilacappjkhaa

namespace Go.Proofs.Ytpkilacappjkhaa

/-- a valid class has at most five points, and its sets are ascending -/
theorem vldB_cls {n : Int} {zs : List Int} (h : vldB n zs = true) : ∃ (m : Nat) (ns : List Nat), n = m ∧ zs = toI ns ∧ Cls m ns := by
  simp only [vldB, decide_eq_true_eq] at h
  obtain ⟨h0, h5, hok⟩ := h
  obtain ⟨m, rfl⟩ := Int.eq_ofNat_of_zero_le h0
  rw [Int.toNat_natCast] at hok
  have hz : zs = toI (zs.map Int.toNat) := by
    apply List.ext_getElem (by simp [toI])
    intro j h1 h2
    have := (hok j h1).1
    simp only [List.getD_eq_getElem?_getD, List.getElem?_eq_getElem h1, Option.getD_some] at this
    simp [toI, Int.toNat_of_nonneg this]
  refine ⟨m, zs.map Int.toNat, rfl, hz, by omega, ?_, ?_⟩
  · rw [List.pairwise_iff_getElem]
    intro i j hi hj hij
    simp only [List.length_map] at hi hj
    have key : ∀ d, i + d + 1 < zs.length → zs.getD i 0 < zs.getD (i + d + 1) 0 := by
      intro d
      induction d with
      | zero => intro hd; exact (hok (i + 1) hd).2.2 (by omega)
      | succ d ih =>
        intro hd
        have h1 := ih (by omega)
        have h2 := (hok (i + (d + 1) + 1) hd).2.2 (by omega)
        rw [show i + (d + 1) + 1 - 1 = i + d + 1 by omega] at h2
        omega
    have h1 := key (j - i - 1) (by omega)
    rw [show i + (j - i - 1) + 1 = j by omega] at h1
    have h2 := (hok i hi).1
    have h3 := (hok j hj).1
    simp only [List.getD_eq_getElem?_getD, List.getElem?_eq_getElem hi, List.getElem?_eq_getElem hj, Option.getD_some] at h1 h2 h3
    simp only [List.getElem_map]
    omega
  · intro t ht
    obtain ⟨z, hz', rfl⟩ := List.mem_map.1 ht
    obtain ⟨j, hj, rfl⟩ := List.getElem_of_mem hz'
    have := hok j hj
    simp only [List.getD_eq_getElem?_getD, List.getElem?_eq_getElem hj, Option.getD_some] at this
    have h2 : ((2 ^ m : Nat) : Int) = (2 : Int) ^ m := by simp
    omega

theorem toNat_toI (ns : List Nat) : (toI ns).map Int.toNat = ns := by
  simp [toI, List.map_map, Function.comp_def]

/-- is s a set of n points? -/
def setB (n : Nat) (s : Int) : Bool := decide (0 ≤ s) && decide (s < 2 ^ n)
theorem setB_nat {n : Nat} {s : Int} (hn : n ≤ 5) (h : setB n s = true) : ∃ m : Nat, s = m ∧ m < 2 ^ n ∧ m < 32 := by
  simp only [setB, Bool.and_eq_true, decide_eq_true_eq] at h
  obtain ⟨m, rfl⟩ := Int.eq_ofNat_of_zero_le h.1
  have h2 : ((2 ^ n : Nat) : Int) = (2 : Int) ^ n := by simp
  have := pow_le_32 hn
  exact ⟨m, rfl, by omega, by omega⟩

/-- what TraceOf answers -/
def traceB (n : Int) (zs : List Int) (s : Int) : List Int :=
  if vldB n zs = true ∧ setB n.toNat s = true then toI (tr (zs.map Int.toNat) s.toNat) else []
theorem traceB_bad {n : Int} {zs : List Int} {s : Int} (h : vldB n zs = false) : traceB n zs s = [] := by simp [traceB, h]
theorem traceB_out {n : Nat} {zs : List Int} {s : Int} (h : setB n s = false) : traceB n zs s = [] := by simp [traceB, h]
theorem traceB_in {n : Nat} {ns : List Nat} {s : Nat} (h : vldB n (toI ns) = true) (hs : setB n s = true) : traceB n (toI ns) s = toI (tr ns s) := by
  simp [traceB, h, hs, toNat_toI]
theorem traceB_len (n : Int) (zs : List Int) (s : Int) : (traceB n zs s).length ≤ 1048576 := by
  unfold traceB
  split
  · rw [toI_length]; exact Nat.le_trans (flt_length _) (by omega)
  · simp
/-- is a set shattered? -/
def sht (ns : List Nat) (s : Nat) : Bool := decide ((tr ns s).length = 2 ^ pc s)
def shatB (n : Int) (zs : List Int) (s : Int) : Bool := vldB n zs && setB n.toNat s && sht (zs.map Int.toNat) s.toNat
theorem shatB_bad {n : Int} {zs : List Int} {s : Int} (h : vldB n zs = false) : shatB n zs s = false := by simp [shatB, h]
theorem shatB_out {n : Nat} {zs : List Int} {s : Int} (h : setB n s = false) : shatB n zs s = false := by simp [shatB, h]
theorem shatB_in {n : Nat} {ns : List Nat} {s : Nat} (h : vldB n (toI ns) = true) (hs : setB n s = true) : shatB n (toI ns) s = sht ns s := by
  simp [shatB, h, hs, toNat_toI]
theorem pc_le5 (s : Nat) : pc s ≤ 5 := by
  unfold pc
  omega

end Go.Proofs.Ytpkilacappjkhaa

namespace Go.Proofs.Ytpkilacappjkhaa
open Go.RowKit

/-- isSetOf's answer -/
def inB (n : Int) (zs : List Int) (s : Int) : Bool := vldB n zs && setB n.toNat s

set_option maxHeartbeats 800000 in
theorem implIsSetOf (n : Int) (v : Value) (zs : List Int) (s : Int) (w : World) (h : Rd w v zs) :
    Calls Try.prog 42 #[.agg #[.int .i64 n, v], .int .i64 s] w fun e w' => e = .returned (.bool (inB n zs s)) ∧ Below w.heap.size w w' := by
  have H := Lib.hid h
  obtain ⟨a, b, off, cap, rfl, _, _, _⟩ := h
  by_cases hv : vldB n zs = true
  · obtain ⟨m, ns, rfl, rfl, hc⟩ := vldB_cls hv
    have hm := hc.pts
    have hw := wrap_pow m hm
    have HW := Lib.hid hw.1
    have hw2 := hw.2
    clear hw
    have HV := Lib.hid hv
    have HE := Lib.hid (show inB m (toI ns) s = setB m s by simp [inB, hv])
    clear hc hv
    by_cases hs0 : 0 ≤ s
    · have hd : decide ((0 : Int) ≤ s) = true := by simpa using hs0
      by_cases hs1 : s < wrap64 (2 ^ m)
      · have HS := Lib.hid (show setB m s = true by have := HW.out; simp [setB, hs0]; omega)
        go_enter Try.func42, Try.ntmps42
        go_wp2_with fail
        refine (implValid m _ (toI ns) _ (H.out.below (k := w.heap.size) (by go_grown) (Nat.le_refl _))).mono ?_
        rintro e w1 ⟨rfl, hb⟩
        rw [HV.out]
        have B1 := Lib.hid ((Box.made m (.slice a (toI ns).length cap) w _).next (by simp) hb)
        clear hb
        have c0 := B1.out.at0
        go_wp2_with fail
        go_ret
        exact ⟨ret_bool (by rw [HE.out, HS.out]), B1.out.below⟩
      · have HS := Lib.hid (show setB m s = false by have := HW.out; simp [setB]; omega)
        go_enter Try.func42, Try.ntmps42
        go_wp2_with fail
        refine (implValid m _ (toI ns) _ (H.out.below (k := w.heap.size) (by go_grown) (Nat.le_refl _))).mono ?_
        rintro e w1 ⟨rfl, hb⟩
        rw [HV.out]
        have B1 := Lib.hid ((Box.made m (.slice a (toI ns).length cap) w _).next (by simp) hb)
        clear hb
        have c0 := B1.out.at0
        go_wp2_with fail
        go_ret
        exact ⟨ret_bool (by rw [HE.out, HS.out]; simpa using hs1), B1.out.below⟩
    · have hd : decide ((0 : Int) ≤ s) = false := by simpa using hs0
      have HS := Lib.hid (show setB m s = false by simp [setB]; omega)
      go_enter Try.func42, Try.ntmps42
      go_wp2_with fail
      refine (implValid m _ (toI ns) _ (H.out.below (k := w.heap.size) (by go_grown) (Nat.le_refl _))).mono ?_
      rintro e w1 ⟨rfl, hb⟩
      rw [HV.out]
      have B1 := Lib.hid ((Box.made m (.slice a (toI ns).length cap) w _).next (by simp) hb)
      clear hb
      go_wp2_with fail
      go_ret
      exact ⟨ret_bool (by rw [HE.out, HS.out]), B1.out.below⟩
  · rw [Bool.not_eq_true] at hv
    have HE := Lib.hid (show inB n zs s = false by simp [inB, hv])
    have HV := Lib.hid hv
    clear hv
    go_enter Try.func42, Try.ntmps42
    go_wp2_with fail
    refine (implValid n _ zs _ (H.out.below (k := w.heap.size) (by go_grown) (Nat.le_refl _))).mono ?_
    rintro e w1 ⟨rfl, hb⟩
    rw [HV.out]
    have B1 := Lib.hid ((Box.made n (.slice a zs.length cap) w _).next (by simp) hb)
    clear hb
    go_wp2_with fail
    go_ret
    exact ⟨ret_bool HE.out.symm, B1.out.below⟩

/-- an array of marks, as a value -/
def marksC (p : Nat → Bool) : Array Value := ((markL p).map Value.bool).toArray
def marksV (p : Nat → Bool) : Value := .agg (marksC p)
theorem marksC_size (p : Nat → Bool) : (marksC p).size = 32 := by simp [marksC, markL_length]
theorem marksC_one (p : Nat → Bool) : (marksC p).all (·.oneCell') = true := by simp [marksC, Value.oneCell']
theorem infoC (p : Nat → Bool) : (Try.prog.info? 46).map (·.size) = some (marksC p).size := by rw [marksC_size]; exact infoM

theorem arr_zero {w : World} {H : Nat} (hH : w.heap.size = H) : Arr (w.alloc (.cells #[.bool false, .bool false, .bool false, .bool false, .bool false, .bool false, .bool false, .bool false, .bool false, .bool false, .bool false, .bool false, .bool false, .bool false, .bool false, .bool false, .bool false, .bool false, .bool false, .bool false, .bool false, .bool false, .bool false, .bool false, .bool false, .bool false, .bool false, .bool false, .bool false, .bool false, .bool false, .bool false] 46)) H (markL fun _ => false) := by
  subst hH
  exact ⟨markL_length _, heap_alloc_new w _⟩
theorem Arr.alloc {w : World} {b : Nat} {bs : List Bool} (h : Arr w b bs) (o : Obj) : Arr (w.alloc o) b bs :=
  ⟨h.1, (Below.heap_alloc w o b (Array.getElem?_eq_some_iff.1 h.2).1).trans h.2⟩
theorem Arr.other {w : World} {b g : Nat} {bs : List Bool} (h : Arr w b bs) (j : Nat) (x : Value) (hne : b ≠ g) : Arr (w.setCell ⟨g, j, none⟩ x) b bs :=
  ⟨h.1, by rw [heap_setCell_other w ⟨g, j, none⟩ b x hne]; exact h.2⟩
theorem below_setRow {B : Nat} {a w : World} (h : Below B a w) {g : Nat} (hg : B ≤ g) (cs : Array Value) : Below B a (w.setRow g cs) :=
  h.trans ⟨rfl, rfl, rfl, by simp, fun k hk => setRow_other w g k cs (by omega)⟩

set_option maxHeartbeats 1600000 in
set_option maxRecDepth 100000 in
theorem implTraceMarks (n : Int) (v : Value) (ns : List Nat) (s : Nat) (w : World) (h : Rd w v (toI ns)) (hs : s < 32) (hm : ∀ t ∈ ns, t < 32) :
    Calls Try.prog 43 #[.agg #[.int .i64 n, v], .int .i64 s] w fun e w' => e = .returned (marksV (fun p => ns.any (fun t => t &&& s == p))) ∧ Below w.heap.size w w' := by
  obtain ⟨a, b, off, cap, rfl, h1, h3, h5⟩ := h
  rw [toI_length] at *
  have H5 := Lib.hid h5
  have H1 := Lib.hid h1
  clear h5 h1
  go_enter Try.func43, Try.ntmps43
  go_wp2_with fail
  go_loopw [11] (fun i wr => ∃ k : Nat, k ≤ ns.length ∧ i = .int .i64 k ∧ Arr wr (w.heap.size + 1 + 1) (markL (trTo ns s k)) ∧ Arr wr (w.heap.size + 1) (markL fun _ => false) ∧ Below w.heap.size w wr) (fun i _ => ns.length - (intOf i).toNat)
  case atStart =>
    refine ⟨0, Nat.zero_le _, rfl, ?_, ?_, ?_⟩
    · rw [markL_congr (q := fun _ => false) (fun x _ => by simp [trTo])]
      exact arr_zero (by simp)
    · exact (arr_zero (by simp)).alloc _
    · go_grown
  case round =>
    obtain ⟨k, hk, rfl, har, hzr, hbe⟩ := hrel
    have HA := Lib.hid har
    have HZ := Lib.hid hzr
    have HBE := Lib.hid hbe
    clear har hzr hbe
    by_cases hlt : k < ns.length
    · obtain ⟨rfl, hbl⟩ := H1.out (by omega)
      have hc := (HBE.out.cell (p := ⟨b, off + k, none⟩) hbl).trans (H5.out k hlt)
      rw [toI_getD] at hc
      have hx := hm _ (getD_of_lt hlt)
      have HS := Lib.hid (trTo_succ ns s k hlt)
      generalize ns.getD k 0 = x at *
      have hand := i64_and x s (by omega) (by omega)
      have hz := Nat.lt_of_le_of_lt (Nat.and_le_left (n := x) (m := s)) hx
      generalize x &&& s = z at *
      obtain ⟨hcz, hfz⟩ := HA.out.cell z hz
      generalize (markL (trTo ns s k)).getD z false = y at hcz
      have hzI : (z : Int) < 32 := by omega
      go_wp2_with fail
      go_roundw
      case rel =>
        refine ⟨k + 1, by omega, by go_num, ?_, HZ.out.other _ _ (by omega), HBE.out.setCell (by simp; omega) _⟩
        rw [markL_congr (fun p _ => HS.out p), ← markL_set]
        exact HA.out.set z true
      case measure => simp [intOf]; omega
    · obtain rfl : k = ns.length := by omega
      have HM := Lib.hid (show markL (trTo ns s ns.length) = markL (fun p => ns.any (fun t => t &&& s == p)) from markL_congr (fun p _ => by simp [trTo]))
      rw [HM.out] at HA
      go_wp2_with (first
        | ((with_reducible show wpList _ _ _ (Oper.mk _ (Op.load _ _) _ _ _ _ :: _) _ _); refine wpList_load_row rfl 46 (.tmp 5) rfl (w.heap.size + 1 + 1) rfl 46 (marksC (fun p => ns.any (fun t => t &&& s == p))) (0, 0) _ HA.out.2 Try.underlying46 rfl (infoC _) ?_)
        | ((with_reducible show wpList _ _ _ (Oper.mk _ (Op.store _ _ _) _ _ _ _ :: _) _ _); refine wpList_store_row rfl 46 (.tmp 4) (.tmp 20) rfl (w.heap.size + 1) (marksC (fun p => ns.any (fun t => t &&& s == p))) rfl rfl 46 (marksC fun _ => false) HZ.out.2 (infoC _) (by rw [marksC_size, marksC_size]) (marksC_one _) ?_))
      refine bodyPost_ret (v := .agg (marksC (fun p => ns.any (fun t => t &&& s == p)))) ?_ rfl ⟨rfl, below_setRow HBE.out (by omega) _⟩
      exact results_cell_row rfl _ _ (w.heap.size + 1) 46 (marksC (fun p => ns.any (fun t => t &&& s == p))) (0, 0) _ rfl (setRow_heap _ _ _ _ _ _ HZ.out.2) Try.underlying46 rfl (infoC _)

/-- the parts of a set, marked -/
def partTo (s k p : Nat) : Bool := decide (p < k) && (p &&& s == p)
theorem partTo_succ (s k p : Nat) : partTo s (k + 1) p = if p = k then (k &&& s == k) else partTo s k p := by
  unfold partTo
  by_cases h : p = k
  · subst h; simp
  · rw [if_neg h, show decide (p < k + 1) = decide (p < k) by rw [decide_eq_decide]; omega]

set_option maxHeartbeats 1600000 in
set_option maxRecDepth 100000 in
theorem implPartMarks (s : Nat) (w : World) (hs : s < 32) :
    Calls Try.prog 44 #[.int .i64 s] w fun e w' => e = .returned (marksV (fun p => p &&& s == p)) ∧ Below w.heap.size w w' := by
  go_enter Try.func44, Try.ntmps44
  go_wp2_with fail
  go_loopw [5] (fun i wr => ∃ k : Nat, k ≤ 32 ∧ i = .int .i64 k ∧ Arr wr (w.heap.size + 1) (markL (partTo s k)) ∧ Arr wr w.heap.size (markL fun _ => false) ∧ Below w.heap.size w wr) (fun i _ => 32 - (intOf i).toNat)
  case atStart =>
    refine ⟨0, Nat.zero_le _, rfl, ?_, ?_, ?_⟩
    · rw [markL_congr (q := fun _ => false) (fun x _ => by simp [partTo])]
      exact arr_zero (by simp)
    · exact (arr_zero rfl).alloc _
    · go_grown
  case round =>
    obtain ⟨k, hk, rfl, har, hzr, hbe⟩ := hrel
    have HA := Lib.hid har
    have HZ := Lib.hid hzr
    have HBE := Lib.hid hbe
    clear har hzr hbe
    by_cases hlt : k < 32
    · have hltI : (k : Int) < 32 := by omega
      have HS := Lib.hid (partTo_succ s k)
      have hand := i64_and k s (by omega) (by omega)
      have hz := Nat.lt_of_le_of_lt (Nat.and_le_left (n := k) (m := s)) hlt
      obtain ⟨hcz, hfz⟩ := HA.out.cell k hlt
      generalize (markL (partTo s k)).getD k false = y at hcz
      generalize k &&& s = z at *
      by_cases hzk : z = k
      · have hd : ((z : Int) == (k : Int)) = true := by simp; omega
        have HK := Lib.hid (show (z == k) = true by simpa using hzk)
        clear hzk
        go_wp2_with fail
        go_roundw
        case rel =>
          refine ⟨k + 1, by omega, by go_num, ?_, HZ.out.other _ _ (by omega), HBE.out.setCell (by simp) _⟩
          rw [markL_congr (fun p _ => HS.out p), ← markL_set, HK.out]
          exact HA.out.set k true
        case measure => simp [intOf]; omega
      · have hd : ((z : Int) == (k : Int)) = false := by simp; omega
        have HK := Lib.hid (show (z == k) = false by simpa using hzk)
        clear hzk
        go_wp2_with fail
        go_roundw
        case rel =>
          refine ⟨k + 1, by omega, by go_num, ?_, HZ.out.other _ _ (by omega), HBE.out.setCell (by simp) _⟩
          rw [markL_congr (fun p _ => HS.out p), ← markL_set, HK.out]
          exact HA.out.set k false
        case measure => simp [intOf]; omega
    · obtain rfl : k = 32 := by omega
      have HM := Lib.hid (show markL (partTo s 32) = markL (fun p => p &&& s == p) from markL_congr (fun p hp => by simp [partTo, hp]))
      rw [HM.out] at HA
      go_wp2_with (first
        | ((with_reducible show wpList _ _ _ (Oper.mk _ (Op.load _ _) _ _ _ _ :: _) _ _); refine wpList_load_row rfl 46 (.tmp 3) rfl (w.heap.size + 1) rfl 46 (marksC (fun p => p &&& s == p)) (0, 0) _ HA.out.2 Try.underlying46 rfl (infoC _) ?_)
        | ((with_reducible show wpList _ _ _ (Oper.mk _ (Op.store _ _ _) _ _ _ _ :: _) _ _); refine wpList_store_row rfl 46 (.tmp 2) (.tmp 16) rfl w.heap.size (marksC (fun p => p &&& s == p)) rfl rfl 46 (marksC fun _ => false) HZ.out.2 (infoC _) (by rw [marksC_size, marksC_size]) (marksC_one _) ?_))
      refine bodyPost_ret (v := .agg (marksC (fun p => p &&& s == p))) ?_ rfl ⟨rfl, below_setRow HBE.out (Nat.le_refl _) _⟩
      exact results_cell_row rfl _ _ w.heap.size 46 (marksC (fun p => p &&& s == p)) (0, 0) _ rfl (setRow_heap _ _ _ _ _ _ HZ.out.2) Try.underlying46 rfl (infoC _)

end Go.Proofs.Ytpkilacappjkhaa

namespace Go.Proofs.Ytpkilacappjkhaa
open Go.RowKit


/-- points counted so far -/
def pcTo (s k : Nat) : Nat := ((List.range k).map (fun j => s / 2 ^ j % 2)).sum
theorem pcTo_succ (s k : Nat) : pcTo s (k + 1) = pcTo s k + s / 2 ^ k % 2 := by simp [pcTo, List.range_succ]
theorem pcTo_five (s : Nat) : pcTo s 5 = pc s := by simp [pcTo, pc, List.range_succ]; omega
theorem pcTo_done (s k : Nat) (hk : k ≤ 5) (h : s / 2 ^ k = 0) : pcTo s k = pc s := by
  rw [← pcTo_five]
  have : ∀ d, k + d ≤ 5 → pcTo s (k + d) = pcTo s k := by
    intro d
    induction d with
    | zero => intro _; rfl
    | succ d ih =>
      intro hd
      have e : s / 2 ^ (k + d) = 0 := by rw [Nat.pow_add, ← Nat.div_div_eq_div_mul, h]; simp
      rw [show k + (d + 1) = (k + d) + 1 by omega, pcTo_succ, ih (by omega), e]
      simp
  have := this (5 - k) (by omega)
  rw [show k + (5 - k) = 5 by omega] at this
  exact this.symm
theorem pcTo_le (s k : Nat) : pcTo s k ≤ k := by
  induction k with
  | zero => simp [pcTo]
  | succ k ih => rw [pcTo_succ]; have := Nat.mod_lt (s / 2 ^ k) (show 0 < 2 by decide); omega

set_option maxHeartbeats 400000 in
theorem specSize (s : Nat) (hs : s < 32) (w : World) :
    Calls Try.prog 30 #[.int .i64 s] w fun e w' => e = .returned (.int .i64 (pc s : Nat)) ∧ w = w' := by
  go_enter Try.func30, Try.ntmps30
  go_wp2
  go_loop [0, 3] (fun i o => ∃ k : Nat, k ≤ 5 ∧ i = .int .i64 ((s / 2 ^ k : Nat) : Int) ∧ o = .int .i64 ((pcTo s k : Nat) : Int)) (fun i _ => (intOf i).toNat)
  case atStart => exact ⟨0, by omega, by simp, by simp [pcTo]⟩
  case round =>
    obtain ⟨k, hk, rfl, rfl⟩ := hrel
    have hle := pcTo_le s k
    have HS := Lib.hid (pcTo_succ s k)
    have HD := Lib.hid (pcTo_done s k hk)
    have hlt5 : s / 2 ^ k ≤ s := Nat.div_le_self _ _
    have H5 := Lib.hid (show k = 5 → s / 2 ^ k = 0 from fun h => by subst h; exact Nat.div_eq_of_lt hs)
    have HN := Lib.hid (show s / 2 ^ k / 2 = s / 2 ^ (k + 1) by rw [Nat.div_div_eq_div_mul, Nat.pow_succ])
    generalize s / 2 ^ k = r at *
    generalize pcTo s k = n at *
    by_cases hlt : 0 < r
    · go_wp2
      go_round
      case rel => exact ⟨k + 1, by have := H5.out; omega, by rw [← HN.out]; go_num, by rw [HS.out]; go_num⟩
      case measure => simp [intOf]; omega
    · have HP := Lib.hid (HD.out (by omega))
      clear HD HN HS
      obtain rfl : r = 0 := by omega
      go_wp2
      go_ret
      exact ⟨ret_int (by rw [HP.out]), rfl⟩

/-- is x among zs? -/
def hasB (zs : List Int) (x : Int) : Bool := decide (x ∈ zs)
theorem hasB_at {zs : List Int} {x : Int} {k : Nat} (hk : k < zs.length) (h : zs.getD k 0 = x) : hasB zs x = true := by
  simp only [hasB, decide_eq_true_eq]
  rw [← h, List.getD_eq_getElem?_getD, List.getElem?_eq_getElem hk]
  exact List.getElem_mem hk
theorem hasB_none {zs : List Int} {x : Int} (h : ∀ j, j < zs.length → zs.getD j 0 ≠ x) : hasB zs x = false := by
  simp only [hasB, decide_eq_false_iff_not]
  intro hm
  obtain ⟨j, hj, e⟩ := List.getElem_of_mem hm
  apply h j hj
  rw [List.getD_eq_getElem?_getD, List.getElem?_eq_getElem hj]
  exact e

set_option maxHeartbeats 400000 in
theorem specHasInt (v : Value) (zs : List Int) (x : Int) (w : World) (h : Rd w v zs) :
    Calls Try.prog 41 #[v, .int .i64 x] w fun e w' => e = .returned (.bool (hasB zs x)) ∧ w = w' := by
  obtain ⟨a, b, off, cap, rfl, h1, h3, h5⟩ := h
  have H5 := Lib.hid h5
  have H1 := Lib.hid h1
  clear h5 h1
  go_enter Try.func41, Try.ntmps41
  go_wp2
  go_loop [5] (fun i => ∃ k : Nat, k ≤ zs.length ∧ i = .int .i64 k ∧ Hid (∀ j, j < k → zs.getD j 0 ≠ x)) (fun i => zs.length - (intOf i).toNat)
  case atStart => exact ⟨0, Nat.zero_le _, rfl, Lib.hid fun j hj => by omega⟩
  case round =>
    obtain ⟨k, hk, rfl, HN⟩ := hrel
    by_cases hlt : k < zs.length
    · obtain ⟨rfl, _⟩ := H1.out (by omega)
      have hc := H5.out k hlt
      have HY := Lib.hid (fun h => hasB_at (x := x) hlt h)
      generalize hy : zs.getD k 0 = y at hc HY
      have HE := Lib.hid hy
      clear hy
      by_cases hxy : y = x
      · have hb : (y == x) = true := by simpa using hxy
        have HR := Lib.hid (HY.out hxy)
        clear hxy
        go_wp2
        go_ret
        exact ⟨ret_bool HR.out.symm, rfl⟩
      · have hb : (y == x) = false := by simpa using hxy
        have HX := Lib.hid hxy
        clear hxy
        go_wp2
        go_round
        case rel => exact ⟨k + 1, by omega, by go_num, Lib.hid fun j hj => by
          by_cases e : j = k
          · subst e; rw [HE.out]; exact HX.out
          · exact HN.out j (by omega)⟩
        case measure => simp [intOf]; omega
    · go_wp2
      go_ret
      obtain rfl : k = zs.length := by omega
      exact ⟨ret_bool (hasB_none HN.out).symm, rfl⟩

/-- the different numbers of a list, ascending -/
def tidyL (ms : List Nat) : List Nat := flt (fun p => decide (p ∈ ms))

end Go.Proofs.Ytpkilacappjkhaa
