/- Blocks of values, nodes in blocks of their own, and the two states in which nodesOf's loops run. No program. -/
import Derived.Test.YtpkilacappjkhaaEdgA
namespace Go.Proofs.Ytpkilacappjkhaa
open Go.RowKit

/-- the block b holds the n values f -/
def Pb (w : World) (b n : Nat) (f : Nat → Value) (t : TypeId) : Prop := w.heap[b]? = some (.cells ((List.range n).map f).toArray t (0, 0))
theorem Pb.lt {w : World} {b n : Nat} {f : Nat → Value} {t : TypeId} (h : Pb w b n f t) : b < w.heap.size := (Array.getElem?_eq_some_iff.1 h).1
theorem Pb.keep {w w' : World} {b n : Nat} {f : Nat → Value} {t : TypeId} (h : Pb w b n f t) (e : w'.heap[b]? = w.heap[b]?) : Pb w' b n f t := e.trans h
theorem Pb.congr {w : World} {b n : Nat} {f g : Nat → Value} {t : TypeId} (h : Pb w b n f t) (e : ∀ j, j < n → f j = g j) : Pb w b n g t := by
  have : (List.range n).map g = (List.range n).map f := List.map_congr_left (fun j hj => (e j (List.mem_range.1 hj)).symm)
  unfold Pb
  rw [this]
  exact h
theorem Pb.cell {w : World} {b n : Nat} {f : Nat → Value} {t : TypeId} (h : Pb w b n f t) {j : Nat} (hj : j < n) : w.cell? ⟨b, j, none⟩ = some (f j) ∧ w.frozen? ⟨b, j, none⟩ = false := by
  refine ⟨?_, frozen_of_row w b j _ _ h⟩
  rw [cell_of_row w b j _ _ _ h]
  simp [hj]
theorem Pb.set {w : World} {b n : Nat} {f : Nat → Value} {t : TypeId} (h : Pb w b n f t) (j : Nat) (u : Value) : Pb (w.setCell ⟨b, j, none⟩ u) b n (fun y => if y = j then u else f y) t := by
  unfold Pb
  rw [heap_setCell_same w b j _ _ _ h]
  congr 2
  apply Array.ext_getElem?
  intro y
  rw [Array.getElem?_setIfInBounds]
  simp only [List.size_toArray, List.length_map, List.length_range, List.getElem?_toArray, List.getElem?_map]
  by_cases hy : y < n
  · by_cases e : j = y
    · subst e; simp [hy]
    · simp [e, hy, show ¬ y = j from fun h => e h.symm]
  · by_cases e : j = y
    · subst e; simp [hy]
    · simp [e, hy]
theorem Pb.other {w : World} {b n g j : Nat} {f : Nat → Value} {t : TypeId} (h : Pb w b n f t) (hne : b ≠ g) (u : Value) : Pb (w.setCell ⟨g, j, none⟩ u) b n f t :=
  h.keep (heap_setCell_other w ⟨g, j, none⟩ b u hne)
theorem Pb.alloc {w : World} {b n : Nat} {f : Nat → Value} {t : TypeId} (h : Pb w b n f t) (o : Obj) : Pb (w.alloc o) b n f t := h.keep (Below.heap_alloc w o b h.lt)
theorem Pb.rd {w : World} {b n : Nat} {f : Nat → Value} {t : TypeId} (h : Pb w b n f t) {bs : List Nat} (hn : bs.length = n) (hm : n ≤ 9223372036854775807) (hf : ∀ j, j < n → f j = ndp (bs.getD j 0)) : RdN w (.slice (some ⟨b, 0, none⟩) n n) bs := by
  subst hn
  exact ⟨_, b, 0, _, rfl, fun _ => ⟨rfl, h.lt⟩, hm, fun j hj => by rw [Nat.zero_add, (h.cell hj).1, hf j hj]⟩

/-- the block o holds the node of the set s with the neighbours v; none of its edges is given -/
def Nb (w : World) (o s : Nat) (v : Value) : Prop := w.heap[o]? = some (.cells #[.int .i64 (s : Nat), v, .slice none 0 0] 44 (0, 0))
theorem Nb.lt {w : World} {o s : Nat} {v : Value} (h : Nb w o s v) : o < w.heap.size := (Array.getElem?_eq_some_iff.1 h).1
theorem Nb.keep {w w' : World} {o s : Nat} {v : Value} (h : Nb w o s v) (e : w'.heap[o]? = w.heap[o]?) : Nb w' o s v := e.trans h
theorem Nb.at0 {w : World} {o s : Nat} {v : Value} (h : Nb w o s v) : w.cell? ⟨o, 0, none⟩ = some (.int .i64 (s : Nat)) := by rw [cell_of_row w o 0 _ _ _ h]; rfl
theorem Nb.at1 {w : World} {o s : Nat} {v : Value} (h : Nb w o s v) : w.cell? ⟨o, 1, none⟩ = some v := by rw [cell_of_row w o 1 _ _ _ h]; rfl
theorem Nb.at2 {w : World} {o s : Nat} {v : Value} (h : Nb w o s v) : w.cell? ⟨o, 2, none⟩ = some (.slice none 0 0) := by rw [cell_of_row w o 2 _ _ _ h]; rfl
theorem Nb.fr {w : World} {o s : Nat} {v : Value} (h : Nb w o s v) (j : Nat) : w.frozen? ⟨o, j, none⟩ = false := frozen_of_row w o j _ _ h
theorem Nb.other {w : World} {o s g j : Nat} {v : Value} (h : Nb w o s v) (hne : o ≠ g) (u : Value) : Nb (w.setCell ⟨g, j, none⟩ u) o s v := h.keep (heap_setCell_other w ⟨g, j, none⟩ o u hne)
theorem Nb.alloc {w : World} {o s : Nat} {v : Value} (h : Nb w o s v) (x : Obj) : Nb (w.alloc x) o s v := h.keep (Below.heap_alloc w x o h.lt)
theorem Nb.set {w : World} {o s : Nat} {v : Value} (h : Nb w o s v) (u : Value) : Nb (w.setCell ⟨o, 1, none⟩ u) o s u := by
  unfold Nb
  rw [heap_setCell_same w o 1 _ _ _ h]
  rfl

/-- the first k sets have their nodes -/
structure Made (w : World) (h nb H k : Nat) (ns : List Nat) (bl : Nat → Nat) : Prop where
  known : Pb w h 32 (fun s => if s ∈ ns.take k then ndp (bl s) else .pointer none) 61
  row : Pb w nb ns.length (fun j => if j < k then ndp (bl (ns.getD j 0)) else .pointer none) 42
  nd : ∀ s ∈ ns.take k, H ≤ bl s ∧ Nb w (bl s) s (.slice none 0 0)
  inj : ∀ s ∈ ns.take k, ∀ t ∈ ns.take k, bl s = bl t → s = t
  hlt : h < H
  nlt : nb < H
  hne : h ≠ nb
theorem Made.step {w : World} {h nb H k : Nat} {ns : List Nat} {bl : Nat → Nat} (M : Made w h nb H k ns bl) (hk : k < ns.length) (hH : H ≤ w.heap.size) (hasc : ns.Pairwise (· < ·)) (h32 : ns.getD k 0 < 32) :
    Made (((w.setCell ⟨nb, k, none⟩ (ndp w.heap.size)).setCell ⟨h, ns.getD k 0, none⟩ (ndp w.heap.size)).alloc (.cells #[.int .i64 (ns.getD k 0 : Nat), .slice none 0 0, .slice none 0 0] 44)) h nb H (k + 1) ns (fun t => if t = ns.getD k 0 then w.heap.size else bl t) := by
  have e : ns.take (k + 1) = ns.take k ++ [ns.getD k 0] := by
    rw [List.take_add_one, List.getElem?_eq_getElem hk, List.getD_eq_getElem?_getD, List.getElem?_eq_getElem hk]; rfl
  have hno : ns.getD k 0 ∉ ns.take k := by
    intro hm
    obtain ⟨j, hj, e2⟩ := List.getElem_of_mem hm
    rw [List.length_take] at hj
    rw [List.getElem_take, List.getD_eq_getElem?_getD, List.getElem?_eq_getElem hk, Option.getD_some] at e2
    have := List.pairwise_iff_getElem.1 hasc j k (by omega) hk (by omega)
    omega
  have hne : ∀ t ∈ ns.take k, t ≠ ns.getD k 0 := fun t ht e => hno (e ▸ ht)
  have hlt : ∀ t ∈ ns.take k, bl t < w.heap.size := fun t ht => (M.nd t ht).2.lt
  have hg : ∀ j, j < k → ns.getD j 0 ∈ ns.take k := fun j hj => by
    rw [List.getD_eq_getElem?_getD, List.getElem?_eq_getElem (show j < ns.length by omega), Option.getD_some, List.mem_take_iff_getElem]
    exact ⟨j, by omega, rfl⟩
  refine ⟨?_, ?_, ?_, ?_, M.hlt, M.nlt, M.hne⟩
  · refine (((M.known.other M.hne _).set _ _).alloc _).congr fun j hj => ?_
    rw [e]
    by_cases h1 : j = ns.getD k 0
    · subst h1; simp
    · have hiff : j ∈ ns.take k ++ [ns.getD k 0] ↔ j ∈ ns.take k := by rw [List.mem_append, List.mem_singleton]; exact or_iff_left h1
      simp only [hiff, if_neg h1]
  · refine (((M.row.set _ _).other (fun e => M.hne e.symm) _).alloc _).congr fun j hj => ?_
    by_cases h1 : j = k
    · subst h1; simp
    · by_cases h2 : j < k
      · rw [if_neg h1, if_pos h2, if_pos (by omega), if_neg (hne _ (hg j h2))]
      · rw [if_neg h1, if_neg h2, if_neg (by omega)]
  · intro s hs
    rw [e, List.mem_append, List.mem_singleton] at hs
    rcases hs with hs | hs
    · rw [if_neg (hne s hs)]
      have := M.nd s hs
      have h1 := M.hlt
      have h2 := M.nlt
      exact ⟨this.1, ((this.2.other (by omega) _).other (by omega) _).alloc _⟩
    · subst hs
      rw [if_pos rfl]
      have h1 := M.hlt
      have h2 := M.nlt
      exact ⟨hH, heap_alloc_at (by simp [World.setCell])⟩
  · intro s hs t ht
    rw [e, List.mem_append, List.mem_singleton] at hs ht
    rcases hs with hs | hs <;> rcases ht with ht | ht
    · rw [if_neg (hne s hs), if_neg (hne t ht)]; exact M.inj s hs t ht
    · subst ht
      rw [if_neg (hne s hs), if_pos rfl]
      intro e3
      have := hlt s hs
      omega
    · subst hs
      rw [if_neg (hne t ht), if_pos rfl]
      intro e3
      have := hlt t ht
      omega
    · subst hs; exact fun _ => ht.symm

/-- the first k nodes have their neighbours -/
structure Joined (w : World) (h nb H k m : Nat) (ns : List Nat) (bl : Nat → Nat) : Prop where
  known : Pb w h 32 (fun s => if s ∈ ns then ndp (bl s) else .pointer none) 61
  row : Pb w nb ns.length (fun j => ndp (bl (ns.getD j 0))) 42
  done : ∀ j, j < k → ∃ v, Nb w (bl (ns.getD j 0)) (ns.getD j 0) v ∧ RdN w v ((nearTo ns (ns.getD j 0) m).map bl)
  left : ∀ j, k ≤ j → j < ns.length → Nb w (bl (ns.getD j 0)) (ns.getD j 0) (.slice none 0 0)
  apart : ∀ s ∈ ns, H ≤ bl s
  inj : ∀ s ∈ ns, ∀ t ∈ ns, bl s = bl t → s = t
  hlt : h < H
  nlt : nb < H
theorem Made.joined {w : World} {h nb H m : Nat} {ns : List Nat} {bl : Nat → Nat} (M : Made w h nb H ns.length ns bl) : Joined w h nb H 0 m ns bl := by
  have e : ns.take ns.length = ns := List.take_length
  refine ⟨?_, M.row.congr (fun j hj => by rw [if_pos hj]), fun j hj => absurd hj (by omega), fun j _ hj => ?_, ?_, ?_, M.hlt, M.nlt⟩
  · have := M.known; rw [e] at this; exact this
  · exact (M.nd _ (by rw [e]; exact getD_of_lt hj)).2
  · exact fun s hs => (M.nd s (by rw [e]; exact hs)).1
  · exact fun s hs t ht => M.inj s (by rw [e]; exact hs) t (by rw [e]; exact ht)
theorem getD_inj {ns : List Nat} (hasc : ns.Pairwise (· < ·)) {i j : Nat} (hi : i < ns.length) (hj : j < ns.length) (e : ns.getD i 0 = ns.getD j 0) : i = j := by
  rw [List.getD_eq_getElem?_getD, List.getD_eq_getElem?_getD, List.getElem?_eq_getElem hi, List.getElem?_eq_getElem hj, Option.getD_some, Option.getD_some] at e
  have h1 := List.pairwise_iff_getElem.1 hasc
  rcases Nat.lt_trichotomy i j with h2 | h2 | h2
  · have := h1 i j hi hj h2; omega
  · exact h2
  · have := h1 j i hj hi h2; omega
theorem RdN.keep {w w' : World} {v : Value} {bs : List Nat} (h : RdN w v bs) (hs : w.heap.size ≤ w'.heap.size) {o : Nat} (hb : ∀ b, b < w.heap.size → b ≠ o → w'.heap[b]? = w.heap[b]?) (ho : ∀ b j, w.cell? ⟨o, j, none⟩ ≠ some (ndp b)) : RdN w' v bs := by
  obtain ⟨a, b, off, cap, e, h1, h2, h3⟩ := h
  refine ⟨a, b, off, cap, e, fun hp => ⟨(h1 hp).1, Nat.lt_of_lt_of_le (h1 hp).2 hs⟩, h2, fun j hj => ?_⟩
  have hlt := (h1 (by omega)).2
  have hne : b ≠ o := fun e => ho _ _ (e ▸ h3 j hj)
  have := h3 j hj
  unfold World.cell? at this ⊢
  rw [show w'.heap[(⟨b, off + j, none⟩ : Addr).block]? = w.heap[(⟨b, off + j, none⟩ : Addr).block]? from hb b hlt hne]
  exact this
/-- the k-th node gets its neighbours: whatever else lies there stays -/
theorem Joined.step {w w' : World} {h nb H k m : Nat} {ns : List Nat} {bl : Nat → Nat} (J : Joined w h nb H k m ns bl) (hk : k < ns.length) (hasc : ns.Pairwise (· < ·)) (hs : w.heap.size ≤ w'.heap.size)
    (hb : ∀ b, b < w.heap.size → b ≠ bl (ns.getD k 0) → w'.heap[b]? = w.heap[b]?) {v : Value} (hn : Nb w' (bl (ns.getD k 0)) (ns.getD k 0) v) (hr : RdN w' v ((nearTo ns (ns.getD k 0) m).map bl)) : Joined w' h nb H (k + 1) m ns bl := by
  have hm : ∀ {j : Nat}, j < ns.length → ns.getD j 0 ∈ ns := fun hj => getD_of_lt hj
  have hH := J.apart _ (hm hk)
  have h1 := J.hlt
  have h2 := J.nlt
  have hx : ∀ b j, w.cell? ⟨bl (ns.getD k 0), j, none⟩ ≠ some (ndp b) := by
    intro b j
    have h3 := J.left k (Nat.le_refl _) hk
    rw [cell_of_row w _ j _ _ _ h3]
    match j with
    | 0 => simp [ndp]
    | 1 => simp [ndp]
    | 2 => simp [ndp]
    | j + 3 => simp
  have hnb : ∀ j, j < ns.length → j ≠ k → bl (ns.getD j 0) ≠ bl (ns.getD k 0) := fun j hj hne e => hne (getD_inj hasc hj hk (J.inj _ (hm hj) _ (hm hk) e))
  refine ⟨J.known.keep (hb _ J.known.lt (by omega)), J.row.keep (hb _ J.row.lt (by omega)), fun j hj => ?_, fun j hj hjl => ?_, J.apart, J.inj, h1, h2⟩
  · by_cases e : j = k
    · subst e; exact ⟨v, hn, hr⟩
    · obtain ⟨u, h3, h4⟩ := J.done j (by omega)
      exact ⟨u, h3.keep (hb _ h3.lt (hnb j (by omega) e)), h4.keep hs hb hx⟩
  · have h3 := J.left j (by omega) hjl
    exact h3.keep (hb _ h3.lt (hnb j hjl (by omega)))
theorem Joined.nds {w : World} {h nb H m : Nat} {ns : List Nat} {bl : Nat → Nat} (J : Joined w h nb H ns.length m ns bl) (hl : ns.length ≤ 32) : Nds bl w (.slice (some ⟨nb, 0, none⟩) ns.length ns.length) ns m := by
  have hx : ∀ s ∈ ns, ∃ v, Nb w (bl s) s v ∧ RdN w v ((nearTo ns s m).map bl) := by
    intro s hs
    obtain ⟨j, hj, rfl⟩ := List.getElem_of_mem hs
    have := J.done j hj
    rw [List.getD_eq_getElem?_getD, List.getElem?_eq_getElem hj, Option.getD_some] at this
    exact this
  refine ⟨J.row.rd (by simp) (by omega) (fun j hj => by rw [mapbl_getD hj]), fun s hs => ?_, fun s hs => ?_, fun s hs => ?_⟩
  · obtain ⟨v, h1, _⟩ := hx s hs; exact ⟨h1.lt, h1.at0⟩
  · obtain ⟨v, h1, h2⟩ := hx s hs; exact ⟨v, h1.at1, h2⟩
  · obtain ⟨v, h1, _⟩ := hx s hs; exact h1.at2

end Go.Proofs.Ytpkilacappjkhaa
