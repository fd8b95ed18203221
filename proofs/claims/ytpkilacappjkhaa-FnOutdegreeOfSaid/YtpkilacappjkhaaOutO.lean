/- The other set of a pair, the model's; what a search for relief keeps in the heap. Conditions: Sets is a slice of ints. -/
import Derived.Test.YtpkilacappjkhaaAppL
import Derived.Test.YtpkilacappjkhaaAppW
import Derived.Test.YtpkilacappjkhaaIdxI
import Derived.Test.YtpkilacappjkhaaNods
import Derived.Test.YtpkilacappjkhaaOutW
import Derived.Test.YtpkilacappjkhaaPr
import Derived.Test.YtpkilacappjkhaaZA
import Derived.Test.YtpkilacappjkhaaZB
namespace Go.Proofs.Ytpkilacappjkhaa
open Go.RowKit

theorem place_first {ns : List Nat} (hasc : ns.Pairwise (· < ·)) {i : Nat} (hi : i < ns.length) : ∀ k, k < i → (toI ns).getD k 0 ≠ ((ns.getD i 0 : Nat) : Int) := by
  intro k hk e
  rw [toI_getD] at e
  have := getD_inj hasc (show k < ns.length by omega) hi (Int.ofNat_inj.1 e)
  omega
theorem specPlace (v : Value) (ns : List Nat) (i : Nat) (w : World) (hasc : ns.Pairwise (· < ·)) (hi : i < ns.length) (h : Rd w v (toI ns)) :
    Calls Try.prog 32 #[v, .int .i64 ((ns.getD i 0 : Nat) : Int)] w fun e w' => e = .returned (.int .i64 (i : Int)) ∧ w = w' :=
  specIndexInt v (toI ns) ((ns.getD i 0 : Nat) : Int) i w h (by rw [toI_length]; exact hi) (toI_getD ns i) (place_first hasc hi)

set_option maxHeartbeats 1600000 in
set_option maxRecDepth 100000 in
theorem specOther (v : Value) (ns : List Nat) (i k u : Nat) (w : World) (hasc : ns.Pairwise (· < ·)) (hik : i < k) (hk : k < ns.length) (h : Rd w v (toI ns)) :
    Calls Try.prog 34 #[v, .agg #[.int .i64 ((ns.getD i 0 : Nat) : Int), .int .i64 ((ns.getD k 0 : Nat) : Int)], .int .i64 (u : Int)] w fun e w' => e = .returned (.int .i64 ((oth (i, k) u : Nat) : Int)) ∧ Below w.heap.size w w' := by
  have H := Lib.hid h
  have HI := Lib.hid (fun w h => specPlace v ns i w hasc (by omega) h)
  have HK := Lib.hid (fun w h => specPlace v ns k w hasc hk h)
  have HO := Lib.hid (show oth (i, k) u = if i = u then k else i from rfl)
  clear h hasc
  generalize ns.getD i 0 = x at *
  generalize ns.getD k 0 = y at *
  have B1 := Lib.hid ((Below.refl w.heap.size w).alloc (Nat.le_refl _) (.cells #[.int .i64 (x : Int), .int .i64 (y : Int)] 52))
  by_cases e : i = u
  · have HR := Lib.hid (HO.out.trans (if_pos e))
    have hb : (((i : Nat) : Int) == ((u : Nat) : Int)) = true := by simp [e]
    clear HO
    go_enter Try.func34, Try.ntmps34
    go_wp2_with fail
    refine (HI.out _ (H.out.below B1.out (Nat.le_refl _))).mono ?_
    rintro e w9 ⟨rfl, hw9⟩
    subst w9
    go_wp2_with fail
    refine (HK.out _ (H.out.below B1.out (Nat.le_refl _))).mono ?_
    rintro e w9 ⟨rfl, hw9⟩
    subst w9
    go_wp2_with fail
    go_ret
    exact ⟨by rw [HR.out]; rfl, B1.out⟩
  · have HR := Lib.hid (HO.out.trans (if_neg e))
    have hb : (((i : Nat) : Int) == ((u : Nat) : Int)) = false := by simp; omega
    clear HO
    go_enter Try.func34, Try.ntmps34
    go_wp2_with fail
    refine (HI.out _ (H.out.below B1.out (Nat.le_refl _))).mono ?_
    rintro e w9 ⟨rfl, hw9⟩
    subst w9
    go_wp2_with fail
    go_ret
    exact ⟨by rw [HR.out]; rfl, B1.out⟩

/-- how many edges each place owns -/
def cnL (n : Nat) (os : List Nat) : List Nat := (List.range n).map (fun u => os.count u)
theorem cnL_len (n : Nat) (os : List Nat) : (cnL n os).length = n := by simp [cnL]
theorem cnL_at {n u : Nat} (os : List Nat) (h : u < n) : (cnL n os).getD u 0 = os.count u := by simp [cnL, List.getD, h]
theorem few_32' {l : List Nat} (hn : l.Nodup) (h : ∀ t ∈ l, t < 32) : l.length ≤ 32 := by
  have h1 := sm_count_le (List.nodup_range (n := 32)) l
  have h2 := sm_count_eq (List.nodup_range (n := 32)) l (fun x hx => List.mem_range.2 (h x hx))
  have h3 : sm (List.range 32) (fun t => l.count t) ≤ sm (List.range 32) (fun _ => 1) := sm_le fun t _ => List.nodup_iff_count.1 hn t
  have h4 : sm (List.range 32) (fun _ => 1) = 32 := by decide
  omega
theorem Wn_len (E : List (Nat × Nat)) : ∀ (p : List Nat) (v : Nat), (Wn E v p).length = p.length + 1 := by
  intro p
  induction p with
  | nil => intro v; rfl
  | cons a p ih => intro v; rw [Wn, List.length_cons, ih, List.length_cons]
/-- the pair of an edge, as sets -/
theorem eg_at {ns : List Nat} {e : Nat} (h : e < (ep ns).length) : (egTo ns ns.length).getD e (0, 0) = (((ns.getD ((ep ns).getD e (0, 0)).1 0 : Nat) : Int), ((ns.getD ((ep ns).getD e (0, 0)).2 0 : Nat) : Int)) := by
  have e1 : (ep ns).getD e (0, 0) = (ep ns)[e] := by rw [List.getD_eq_getElem?_getD, List.getElem?_eq_getElem h]; rfl
  rw [ep_eg, e1, List.getD_eq_getElem?_getD, List.getElem?_map, List.getElem?_eq_getElem h]
  rfl
theorem eg_length (ns : List Nat) : (egTo ns ns.length).length = (ep ns).length := by rw [ep_eg, List.length_map]

theorem LsS.not_ints {B C : Nat} {w : World} {v u : Value} {bs : List Sl} {xs : List Int} (h : LsS B w v bs) (hi : Ints C w u xs) {g : Nat} (hg : u.ownBlock = some g) : v.ownBlock ≠ some g := by
  rcases h.2 with ⟨rfl, _⟩ | ⟨g1, cap, cur, rfl, _, hgb, _⟩
  · simp [Value.ownBlock]
  · intro e
    obtain rfl : g1 = g := by simpa [Value.ownBlock] using e
    rcases hi.2 with ⟨rfl, _⟩ | ⟨g2, cap2, cur2, rfl, _, hgb2, _⟩
    · simp [Value.ownBlock] at hg
    · obtain rfl : g2 = g1 := by simpa [Value.ownBlock] using hg
      have := hgb.symm.trans hgb2
      simp at this
theorem LsS.someAt {B j n c : Nat} {w : World} {a : Option Addr} {bs : List Sl} (h : LsS B w (.slice a n c) bs) (hj : j < bs.length) : ∃ g, a = some ⟨g, 0, none⟩ ∧ g < w.heap.size ∧ w.cell? ⟨g, j, none⟩ = some (slv (bs.getD j sl0)) := by
  have h' := h
  rcases h.2 with ⟨e, hn⟩ | ⟨g, cap, cur, e, hb, hg, _⟩
  · simp at e; omega
  · simp only [Value.slice.injEq] at e
    obtain ⟨rfl, rfl, rfl⟩ := e
    refine ⟨g, rfl, (Array.getElem?_eq_some_iff.1 hg).1, ?_⟩
    rw [World.ownsRow.cellAt h' j (by omega)]
    simp [List.getD, hj]
/-- what a search for relief keeps: the places seen, in the block g; a row of rows, a way each -/
structure Rst (w : World) (B g n c : Nat) (ss : List Nat) (pv : Value) (sl : List Sl) (ps : List (List Nat)) : Prop where
  seen : Ints B w (.slice (some ⟨g, 0, none⟩) n c) (toI ss)
  len : ss.length = n
  rows : LsS B w pv sl
  same : sl.length = ps.length
  each : ∀ a, a < sl.length → Ints B w (slv (sl.getD a sl0)) (toI (ps.getD a [])) ∧ (sl.getD a sl0).g ≠ g ∧ (ps.getD a []).length = (sl.getD a sl0).n
theorem Rst.below {w w' : World} {B g n c : Nat} {ss : List Nat} {pv : Value} {sl : List Sl} {ps : List (List Nat)} (h : Rst w B g n c ss pv sl ps) (hb : Below w.heap.size w w') : Rst w' B g n c ss pv sl ps :=
  ⟨h.seen.below hb (Nat.le_refl _), h.len, h.rows.below hb (Nat.le_refl _), h.same, fun a ha => ⟨(h.each a ha).1.below hb (Nat.le_refl _), (h.each a ha).2⟩⟩
theorem Rst.see {w w' : World} {B g n c g' c' u : Nat} {ss : List Nat} {pv : Value} {sl : List Sl} {ps : List (List Nat)} (h : Rst w B g n c ss pv sl ps) (hg : w.grownBy w' (some g)) (hi : Ints B w' (.slice (some ⟨g', 0, none⟩) (n + 1) c') (toI ss ++ [(u : Int)])) (hg' : g' = g ∨ w.heap.size ≤ g') : Rst w' B g' (n + 1) c' (ss ++ [u]) pv sl ps := by
  refine ⟨by rw [toI_append]; exact hi, by rw [List.length_append, h.len]; rfl, ?_, h.same, fun a ha => ?_⟩
  · exact World.ownsRow.kept h.rows hg (.inr (h.rows.not_ints h.seen rfl))
  · obtain ⟨h1, h2, h3⟩ := h.each a ha
    refine ⟨h1.kept hg (.inr (fun e => h2 ?_)), fun e => ?_, h3⟩
    · simpa [slv, Value.ownBlock] using e
    · rcases hg' with k | k
      · exact h2 (e.trans k)
      · have := (h1.lt (sl.getD a sl0).g rfl).2
        omega
theorem getS_snoc {l : List Sl} {v : Sl} {a : Nat} (h : a < l.length) : (l ++ [v]).getD a sl0 = l.getD a sl0 := by
  rw [List.getD_eq_getElem?_getD, List.getElem?_append_left h, ← List.getD_eq_getElem?_getD]
theorem getS_snoc_end (l : List Sl) (v : Sl) : (l ++ [v]).getD l.length sl0 = v := by
  rw [List.getD_eq_getElem?_getD, List.getElem?_append_right (Nat.le_refl _), Nat.sub_self]; rfl
theorem Rst.reach {w w' : World} {B g n c : Nat} {ss : List Nat} {pv pv' : Value} {sl : List Sl} {ps : List (List Nat)} {p : Sl} {q : List Nat} (h : Rst w B g n c ss pv sl ps) (hp : Ints B w (slv p) (toI q)) (hpg : p.g ≠ g) (hpn : q.length = p.n) (hg : w.grownBy w' pv.ownBlock) (hr : LsS B w' pv' (sl ++ [p])) : Rst w' B g n c ss pv' (sl ++ [p]) (ps ++ [q]) := by
  have hk : ∀ {v : Value} {xs : List Int} {g1 : Nat}, Ints B w v xs → v.ownBlock = some g1 → Ints B w' v xs := fun hi e => hi.kept hg (.inr (fun k => by
    rw [e] at k
    exact h.rows.not_ints hi e k.symm))
  refine ⟨hk h.seen rfl, h.len, hr, by rw [List.length_append, List.length_append, h.same]; rfl, fun a ha => ?_⟩
  rw [List.length_append, List.length_singleton] at ha
  by_cases e : a < sl.length
  · rw [getS_snoc e, getL_snoc (by rw [← h.same]; exact e)]
    obtain ⟨h1, h2, h3⟩ := h.each a e
    exact ⟨hk h1 rfl, h2, h3⟩
  · obtain rfl : a = sl.length := by omega
    rw [getS_snoc_end, h.same, getL_snoc_end]
    exact ⟨hk hp rfl, hpg, hpn⟩

end Go.Proofs.Ytpkilacappjkhaa
