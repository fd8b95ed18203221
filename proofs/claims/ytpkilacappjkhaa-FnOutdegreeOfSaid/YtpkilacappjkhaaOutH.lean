/- Nodes with the edges that are given to them, in the heap: read, one more given, one exchanged. No program but append. -/
import Derived.Test.YtpkilacappjkhaaNods
import Derived.Test.YtpkilacappjkhaaOutG
import Derived.Test.YtpkilacappjkhaaZB
namespace Go.Proofs.Ytpkilacappjkhaa
open Go.RowKit

/-- below block B nothing is written but the nodes -/
structure Away (B : Nat) (ns : List Nat) (bl : Nat → Nat) (w w' : World) : Prop where
  os : w'.os = w.os
  tape : w'.tape = w.tape
  output : w'.output = w.output
  size : w.heap.size ≤ w'.heap.size
  block : ∀ b, b < B → (∀ s ∈ ns, b ≠ bl s) → w'.heap[b]? = w.heap[b]?
theorem Away.refl (B : Nat) (ns : List Nat) (bl : Nat → Nat) (w : World) : Away B ns bl w w := ⟨rfl, rfl, rfl, Nat.le_refl _, fun _ _ _ => rfl⟩
theorem Away.trans {B : Nat} {ns : List Nat} {bl : Nat → Nat} {a b c : World} (h : Away B ns bl a b) (k : Away B ns bl b c) : Away B ns bl a c :=
  ⟨k.os.trans h.os, k.tape.trans h.tape, k.output.trans h.output, Nat.le_trans h.size k.size, fun x hx hn => (k.block x hx hn).trans (h.block x hx hn)⟩
theorem Away.next {B : Nat} {ns : List Nat} {bl : Nat → Nat} {a b c : World} (h : Away B ns bl a b) (k : Below B b c) : Away B ns bl a c :=
  ⟨k.os.trans h.os, k.tape.trans h.tape, k.output.trans h.output, Nat.le_trans h.size k.size, fun x hx hn => (k.block x hx).trans (h.block x hx hn)⟩
theorem Away.put {B : Nat} {ns : List Nat} {bl : Nat → Nat} {a b : World} (h : Away B ns bl a b) {s : Nat} (hs : s ∈ ns) (j : Nat) (u : Value) : Away B ns bl a (b.setCell ⟨bl s, j, none⟩ u) :=
  ⟨h.os, h.tape, h.output, by simp; exact h.size, fun x hx hn => (heap_setCell_other b ⟨bl s, j, none⟩ x u (hn s hs)).trans (h.block x hx hn)⟩
theorem Away.below {B H : Nat} {ns : List Nat} {bl : Nat → Nat} {a b : World} (h : Away B ns bl a b) (hH : H ≤ B) (hbl : ∀ s ∈ ns, H ≤ bl s) : Below H a b :=
  ⟨h.os, h.tape, h.output, h.size, fun x hx => h.block x (by omega) (fun s hs e => by have := hbl s hs; omega)⟩

theorem NdS.not_pb {B q n : Nat} {w : World} {v : Value} {bs : List Nat} {f : Nat → Value} {T : TypeId} (h : NdS B w v bs) (hP : Pb w q n f T) (hT : T ≠ 42) : v.ownBlock ≠ some q := by
  rcases h.2 with ⟨rfl, _⟩ | ⟨g, cap, cur, rfl, _, hgb, _⟩
  · simp [Value.ownBlock]
  · intro e
    obtain rfl : g = q := by simpa [Value.ownBlock] using e
    have := (show w.heap[g]? = _ from hP).symm.trans hgb
    simp only [Option.some.injEq, Obj.cells.injEq] at this
    exact hT this.2.1
theorem NdS.form {B : Nat} {w : World} {v : Value} {bs : List Nat} (h : NdS B w v bs) : ∃ (a : Option Addr) (cap : Nat), v = .slice a bs.length cap := by
  rcases h.2 with ⟨rfl, hn⟩ | ⟨g, cap, cur, rfl, _⟩
  · exact ⟨none, 0, by rw [hn]⟩
  · exact ⟨_, cap, rfl⟩
theorem NdS.someAt {B j n c : Nat} {w : World} {a : Option Addr} {bs : List Nat} (h : NdS B w (.slice a n c) bs) (hj : j < bs.length) : ∃ g, a = some ⟨g, 0, none⟩ ∧ B ≤ g ∧ g < w.heap.size ∧ w.cell? ⟨g, j, none⟩ = some (ndp (bs.getD j 0)) ∧ w.frozen? ⟨g, j, none⟩ = false := by
  have h' := h
  rcases h.2 with ⟨e, hn⟩ | ⟨g, cap, cur, e, hb, hg, _⟩
  · simp at e; omega
  · simp only [Value.slice.injEq] at e
    obtain ⟨rfl, rfl, rfl⟩ := e
    refine ⟨g, rfl, hb, (Array.getElem?_eq_some_iff.1 hg).1, ?_, World.ownsRow.frozenAt h' j⟩
    rw [World.ownsRow.cellAt h' j (by omega)]
    simp [List.getD, hj]

theorem run_appN2 {w : World} {ty : TypeId} {B n c : Nat} {ao : Option Addr} {bs : List Nat} (hn : bs.length = n) (h : NdS B w (.slice ao n c) bs) {H p : Nat} (hs : w.cell? ⟨H, 0, none⟩ = some (ndp p)) (hl : n ≤ 1000000) (hB : B ≤ w.heap.size) :
    ∃ g' cap' w', (Builtin.append_ #[40, 40] ty #[.slice ao n c, .slice (some ⟨H, 0, none⟩) 1 1]).run Try.prog w = .ok (.slice (some ⟨g', 0, none⟩) (n + 1) cap') w' ∧ NdS B w' (.slice (some ⟨g', 0, none⟩) (n + 1) cap') (bs ++ [p]) ∧ Below B w w' ∧ w.grownBy w' (Value.slice ao n c).ownBlock ∧ ((Value.slice ao n c).ownBlock = some g' ∨ w.heap.size ≤ g') := by
  subst hn
  have hnews : ∀ j u, [ndp p][j]? = some u → w.cell? ((⟨H, 0, none⟩ : Addr).add j) = some u := fun j u hu => by
    match j, hu with
    | 0, hu => simp at hu; subst hu; rw [Addr.add_lit]; exact hs
    | j + 1, hu => simp at hu
  have new : ∀ {a' : Option Addr} {cap' : Nat} {w' : World}, NdS w.heap.size w' (.slice a' (bs.length + 1) cap') (bs ++ [p]) → ∃ g', a' = some ⟨g', 0, none⟩ ∧ w.heap.size ≤ g' := fun h => by
    rcases h.2 with ⟨_, e⟩ | ⟨g, cap, cur, e, hb, _⟩
    · simp at e
    · simp only [Value.slice.injEq] at e
      exact ⟨g, e.1, hb⟩
  rcases h.2 with ⟨e, hn⟩ | ⟨g, cap, cur, e, hb, hg, _⟩
  · simp only [Value.slice.injEq] at e
    obtain ⟨rfl, -, rfl⟩ := e
    have e0 : bs = [] := List.eq_nil_of_length_eq_zero hn
    subst e0
    obtain ⟨a', cap', w', r1, r2, r3, r4⟩ := run_appN (ty := ty) (NdS.nil w.heap.size w) hs (by simp) (Nat.le_refl _)
    obtain ⟨g', rfl, hg'⟩ := new r2
    exact ⟨g', cap', w', r1, r2.mono hB, r3.mono hB, r4, .inr hg'⟩
  · simp only [Value.slice.injEq] at e
    obtain ⟨rfl, -, rfl⟩ := e
    obtain ⟨a', cap', w', r1, r2, r3, r4⟩ := run_appN (ty := ty) h hs hl hB
    obtain ⟨i, hi, hz0, hz1, hz2⟩ := info_parts infoN
    by_cases hroom : bs.length + 1 ≤ c
    · obtain ⟨w2, hr2, _⟩ := run_append_fits (P := Try.prog) w B 40 ty 42 i 1 Try.underlying40 hi hz1 g bs.length c (bs.map ndp) h ⟨H, 0, none⟩ 1 1 [ndp p] rfl hnews (by simp [Value.oneCell', ndp]) hroom
      have r1' := r1
      rw [hr2] at r1'
      injection r1' with h1 h2
      injection h1 with h3
      subst h3
      exact ⟨g, cap', w', r1, r2, r3, r4, .inl rfl⟩
    · have hr2 := run_append_grow (P := Try.prog) w 40 ty 42 i (.pointer none) Try.underlying40 hi hz0 ⟨g, 0, none⟩ bs.length c (bs.map ndp) (by rw [hz1]; simp) (World.ownsRow.cells (g := g) h rfl) ⟨H, 0, none⟩ 1 1 [ndp p] (by rw [hz1]; simp) hnews (by omega) (by omega) (by rw [hz2]; exact growslice_fits (by omega) (by omega))
      have r1' := r1
      rw [hr2] at r1'
      injection r1' with h1 h2
      injection h1 with h3
      subst h3
      exact ⟨_, cap', w', r1, r2, r3, r4, .inr (Nat.le_refl _)⟩

theorem wpList_appN2 {w : World} {ops : Array Oper} {rest : List Oper} {o : Oper} {a : Act} {Q : Exit → Act → World → Prop} (hgd : o.guard = none) (s x : Operand)
    (ho : o.op = Op.call { callee := Callee.builtin Builtin.append, args := #[s, x], argTypes := #[40, 40] })
    (B : Nat) (ao : Option Addr) (n c : Nat) (bs : List Nat) (hn : bs.length = n) (hs : a.eval s = .slice ao n c) (h : NdS B w (.slice ao n c) bs) (H p : Nat) (hx : a.eval x = .slice (some ⟨H, 0, none⟩) 1 1) (hsrc : w.cell? ⟨H, 0, none⟩ = some (ndp p)) (hl : n ≤ 1000000) (hB : B ≤ w.heap.size)
    (hK : ∀ g' cap' w', NdS B w' (.slice (some ⟨g', 0, none⟩) (n + 1) cap') (bs ++ [p]) → Below B w w' → w.grownBy w' (Value.slice ao n c).ownBlock → ((Value.slice ao n c).ownBlock = some g' ∨ w.heap.size ≤ g') → wpList Try.prog ops Q rest (a.put o.dst (.slice (some ⟨g', 0, none⟩) (n + 1) cap')) w') : wpList Try.prog ops Q (o :: rest) a w := by
  refine wpList_plain hgd fun K hK' => ?_
  obtain ⟨g', cap', w', hrun, r1, r2, r3, r4⟩ := run_appN2 (ty := o.type) hn h hsrc hl hB
  unfold Oper.wp
  simp [execOp, ho, resolve, invoke, builtin, hs, hx, hrun, Result.andThen]
  exact hK' _ _ (hK g' cap' w' r1 r2 r3 r4)

/-- the nodes of the sets ns, each in a block of its own below B, what is given to them in rows of their own from B on -/
structure Gst (w : World) (B : Nat) (ns : List Nat) (bl : Nat → Nat) (nv gv : Nat → Value) (G : Nat → List Nat) : Prop where
  nd : ∀ s ∈ ns, w.heap[bl s]? = some (.cells #[.int .i64 (s : Nat), nv s, gv s] 44 (0, 0))
  row : ∀ s ∈ ns, NdS B w (gv s) ((G s).map bl)
  apart : ∀ s ∈ ns, ∀ t ∈ ns, s ≠ t → (gv s).ownBlock = none ∨ (gv s).ownBlock ≠ (gv t).ownBlock
  lo : ∀ s ∈ ns, bl s < B
  inj : ∀ s ∈ ns, ∀ t ∈ ns, bl s = bl t → s = t
section
variable {w : World} {B : Nat} {ns : List Nat} {bl : Nat → Nat} {nv gv : Nat → Value} {G : Nat → List Nat}
theorem Gst.at0 (h : Gst w B ns bl nv gv G) {s : Nat} (hs : s ∈ ns) : w.cell? ⟨bl s, 0, none⟩ = some (.int .i64 (s : Nat)) := by rw [cell_of_row w _ 0 _ _ _ (h.nd s hs)]; rfl
theorem Gst.at1 (h : Gst w B ns bl nv gv G) {s : Nat} (hs : s ∈ ns) : w.cell? ⟨bl s, 1, none⟩ = some (nv s) := by rw [cell_of_row w _ 1 _ _ _ (h.nd s hs)]; rfl
theorem Gst.at2 (h : Gst w B ns bl nv gv G) {s : Nat} (hs : s ∈ ns) : w.cell? ⟨bl s, 2, none⟩ = some (gv s) := by rw [cell_of_row w _ 2 _ _ _ (h.nd s hs)]; rfl
theorem Gst.fr (h : Gst w B ns bl nv gv G) {s : Nat} (hs : s ∈ ns) (j : Nat) : w.frozen? ⟨bl s, j, none⟩ = false := frozen_of_row w _ j _ _ (h.nd s hs)
theorem Gst.alloc (h : Gst w B ns bl nv gv G) (o : Obj) : Gst (w.alloc o) B ns bl nv gv G :=
  ⟨fun s hs => (Below.heap_alloc w o _ (Array.getElem?_eq_some_iff.1 (h.nd s hs)).1).trans (h.nd s hs), fun s hs => (h.row s hs).alloc o, h.apart, h.lo, h.inj⟩
theorem Gst.drewN (h : Gst w B ns bl nv gv G) (q : Nat) : Gst (w.drewN q) B ns bl nv gv G := ⟨h.nd, h.row, h.apart, h.lo, h.inj⟩
theorem Gst.drew (h : Gst w B ns bl nv gv G) : Gst w.drew B ns bl nv gv G := ⟨h.nd, h.row, h.apart, h.lo, h.inj⟩
/-- a mark is written -/
theorem Gst.mark (h : Gst w B ns bl nv gv G) {q n j : Nat} {f : Nat → Value} {T : TypeId} (hP : Pb w q n f T) (hT : T ≠ 42) (hq : B ≤ q) (u : Value) : Gst (w.setCell ⟨q, j, none⟩ u) B ns bl nv gv G :=
  ⟨fun s hs => (heap_setCell_other w ⟨q, j, none⟩ _ u (by have := h.lo s hs; show bl s ≠ q; omega)).trans (h.nd s hs), fun s hs => ownsRow_setCell_other (h.row s hs) ((h.row s hs).not_pb hP hT) u, h.apart, h.lo, h.inj⟩
theorem Gst.hold (h : Gst w B ns bl nv gv G) {w3 : World} {n s : Nat} (hn : n ∈ ns) (hs : s ∈ ns) (hg : w.grownBy w3 (gv n).ownBlock) (hB : B ≤ w.heap.size) : w3.heap[bl s]? = w.heap[bl s]? :=
  hg.block _ (by have := h.lo s hs; omega) (fun e => by
    have h1 := ((h.row n hn).lt _ e.symm).1
    have h2 := h.lo s hs
    omega)
theorem Gst.hold2 (h : Gst w B ns bl nv gv G) {w3 : World} {n : Nat} (hn : n ∈ ns) (hg : w.grownBy w3 (gv n).ownBlock) (hB : B ≤ w.heap.size) : w3.cell? ⟨bl n, 2, none⟩ = some (gv n) ∧ w3.frozen? ⟨bl n, 2, none⟩ = false := by
  have e := (h.hold hn hn hg hB).trans (h.nd n hn)
  exact ⟨by rw [cell_of_row w3 _ 2 _ _ _ e]; rfl, frozen_of_row w3 _ 2 _ _ e⟩
/-- one more is given to n -/
theorem Gst.app (h : Gst w B ns bl nv gv G) {w3 : World} {n m g' cap' L : Nat} (hn : n ∈ ns) (hr : NdS B w3 (.slice (some ⟨g', 0, none⟩) (L + 1) cap') ((G n).map bl ++ [bl m])) (hg : w.grownBy w3 (gv n).ownBlock) (hB : B ≤ w.heap.size) (hw : (gv n).ownBlock = some g' ∨ w.heap.size ≤ g') :
    Gst (w3.setCell ⟨bl n, 2, none⟩ (.slice (some ⟨g', 0, none⟩) (L + 1) cap')) B ns bl nv (fun s => if s = n then .slice (some ⟨g', 0, none⟩) (L + 1) cap' else gv s) (putG G n (G n ++ [m])) := by
  have hold : ∀ s ∈ ns, w3.heap[bl s]? = w.heap[bl s]? := fun s hs => h.hold hn hs hg hB
  have hnew : ∀ t ∈ ns, t ≠ n → (gv t).ownBlock ≠ some g' := fun t ht hne e => by
    rcases hw with hw | hw
    · rcases h.apart n hn t ht (fun e => hne e.symm) with h1 | h1
      · rw [hw] at h1; cases h1
      · exact h1 (hw.trans e.symm)
    · have := ((h.row t ht).lt _ e).2
      omega
  refine ⟨fun s hs => ?_, fun s hs => ?_, fun s hs t ht hst => ?_, h.lo, h.inj⟩
  · by_cases e : s = n
    · subst e
      rw [if_pos rfl, heap_setCell_same w3 (bl s) 2 _ _ _ ((hold s hs).trans (h.nd s hs))]
      rfl
    · rw [if_neg e, heap_setCell_other w3 ⟨bl n, 2, none⟩ _ _ (fun k => e (h.inj s hs n hn k)), hold s hs]
      exact h.nd s hs
  · by_cases e : s = n
    · subst e
      rw [if_pos rfl, putG_me, List.map_append]
      exact ownsRow_setCell_below (a := ⟨bl s, 2, none⟩) hr (h.lo s hs) _
    · rw [if_neg e, putG_ne e]
      exact ownsRow_setCell_below (a := ⟨bl n, 2, none⟩) (World.ownsRow.kept (h.row s hs) hg (h.apart s hs n hn e)) (h.lo n hn) _
  · by_cases e : s = n
    · subst e
      rw [if_pos rfl, if_neg (fun k => hst k.symm)]
      exact .inr (fun k => hnew t ht (fun k => hst k.symm) k.symm)
    · rw [if_neg e]
      by_cases e2 : t = n
      · subst e2
        rw [if_pos rfl]
        exact .inr (fun k => hnew s hs e k)
      · rw [if_neg e2]
        exact h.apart s hs t ht hst
/-- one of those given to n is exchanged -/
theorem Gst.put (h : Gst w B ns bl nv gv G) {n m i g c L : Nat} (hn : n ∈ ns) (hL : (G n).length = L) (hv : gv n = .slice (some ⟨g, 0, none⟩) L c) : Gst (w.setCell ⟨g, i, none⟩ (ndp (bl m))) B ns bl nv gv (putG G n ((G n).set i m)) := by
  subst hL
  have hrow := h.row n hn
  rw [hv] at hrow
  have hlt := (hrow.lt g rfl).1
  refine ⟨fun s hs => ?_, fun s hs => ?_, h.apart, h.lo, h.inj⟩
  · rw [heap_setCell_other w ⟨g, i, none⟩ _ _ (by have := h.lo s hs; show bl s ≠ g; omega)]
    exact h.nd s hs
  · by_cases e : s = n
    · subst e
      rw [putG_me, hv]
      unfold NdS at hrow ⊢
      rw [List.length_map] at hrow
      rw [List.length_map, List.length_set, List.map_set, List.map_set]
      exact (World.ownsRow.stored hrow i (ndp (bl m))).1
    · rw [putG_ne e]
      refine ownsRow_setCell_other (h.row s hs) ?_ _
      rcases h.apart s hs n hn e with h1 | h1
      · rw [h1]; simp
      · rw [hv] at h1; exact h1
end

end Go.Proofs.Ytpkilacappjkhaa
