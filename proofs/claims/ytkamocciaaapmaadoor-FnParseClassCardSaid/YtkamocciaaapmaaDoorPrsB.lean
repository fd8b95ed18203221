/- What the reading of a class's text leans on: the library's Cut and Split at this program, and its errors kept. Conditions: at most 1048576 bytes. -/
import Derived.Lib.SplitLaws
import Derived.Test.YtkamocciaaapmaaDoorPrsM
import Derived.Test.YtkamocciaaapmaaDoorZA
import Derived.Test.YtkamocciaaapmaaDoorZH
import Derived.WalkSmall
namespace Go.Proofs.YtkamocciaaapmaaDoor
open Go.RowKit

theorem var_keep {P : Program} {w w' : World} {n : String} {cs : Array Value} (h : w.var? P n = some cs) (hb : Below w.heap.size w w') : w'.var? P n = some cs := by
  unfold World.var? at h ⊢
  cases hg : P.globalNamed n with
  | none => rw [hg] at h; simp at h
  | some g =>
    rw [hg] at h
    simp only [Option.bind_some] at h ⊢
    have hlt : g < w.heap.size := by
      rcases Nat.lt_or_ge g w.heap.size with h' | h'
      · exact h'
      · rw [Array.getElem?_eq_none h'] at h; simp at h
    rw [hb.block g hlt]
    exact h
theorem Errs.keep {w w' : World} (h : Errs w) (hb : Below w.heap.size w w') : Errs w' := by
  obtain ⟨⟨t1, p1, h1⟩, ⟨t2, p2, h2⟩⟩ := h
  exact ⟨⟨t1, p1, var_keep h1 hb⟩, ⟨t2, p2, var_keep h2 hb⟩⟩
/-- what the library reads of its own variables -/
def Lbs (w : World) : Prop := Errs w ∧ ∃ m, w.cell? ⟨shCut_ren.g 1, 0, none⟩ = some (.int .i64 m)
theorem Lbs.keep {w w' : World} (h : Lbs w) (hb : Below w.heap.size w w') : Lbs w' := by
  obtain ⟨h1, m, h2⟩ := h
  exact ⟨h1.keep hb, m, (hb.cell (World.block_lt_of_cell? w _ h2)).trans h2⟩
theorem Lbs.below {w w' : World} {B : Nat} (h : Lbs w) (hb : Below B w w') (hB : w.heap.size ≤ B) : Lbs w' := h.keep (hb.mono hB)
theorem Lbs.alloc {w : World} (h : Lbs w) (o : Obj) : Lbs (w.alloc o) := h.keep ((Below.refl _ _).alloc (Nat.le_refl _) o)

theorem cutH_size (s : ByteArray) : (cutH s).size ≤ s.size := by
  have : (Lib.cut s.data.toList [58]).1.length ≤ s.data.toList.length := by
    unfold Lib.cut
    split
    · rw [List.length_take]; omega
    · exact Nat.le_refl _
  show (Lib.cut s.data.toList [58]).1.toArray.size ≤ s.data.size
  rw [List.size_toArray, ← Array.length_toList]
  exact this
theorem cutT_size (s : ByteArray) : (cutT s).size ≤ s.size := by
  have : (Lib.cut s.data.toList [58]).2.1.length ≤ s.data.toList.length := by
    unfold Lib.cut
    split
    · rw [List.length_drop]; omega
    · exact Nat.zero_le _
  show (Lib.cut s.data.toList [58]).2.1.toArray.size ≤ s.data.size
  rw [List.size_toArray, ← Array.length_toList]
  exact this
theorem splK_size (sep : List UInt8) : ∀ (k : Nat) (s : List UInt8), ∀ x ∈ Lib.splitK sep 0 k s, x.length ≤ s.length
  | 0, s => by intro x hx; rw [Lib.splitK, List.mem_singleton] at hx; rw [hx]; exact Nat.le_refl _
  | k + 1, s => by
    intro x hx
    rw [Lib.splitK] at hx
    split at hx
    · rw [List.mem_singleton] at hx; rw [hx]; exact Nat.le_refl _
    · rw [List.mem_cons] at hx
      rcases hx with rfl | hx
      · rw [List.length_take]; omega
      · have := splK_size sep k _ x hx
        rw [List.length_drop] at this
        omega
theorem spB_size (t : ByteArray) : ∀ x ∈ spB t, x.size ≤ t.size := by
  intro x hx
  have h1 : x.data.toList ∈ (spB t).map (·.data.toList) := List.mem_map.2 ⟨x, hx, rfl⟩
  rw [spB, Lib.splitB_data] at h1
  have := splK_size _ _ _ _ h1
  rw [Array.length_toList, Array.length_toList] at this
  exact this
theorem spB_length (t : ByteArray) : (spB t).length = Lib.countB t ⟨#[44]⟩ + 1 := Lib.splitB_all ⟨#[44]⟩ (Nat.le_refl _) 0 _ t rfl
theorem spB_few (t : ByteArray) : (spB t).length ≤ t.size + 1 := by
  rw [spB_length]
  have := Lib.countB_le ⟨#[44]⟩ (Nat.le_refl _) t.size t (Nat.le_refl _)
  omega

theorem libCut (s : ByteArray) (hs : s.size ≤ 1048576) (w : World) (h : Lbs w) :
    Calls Tryd.prog 29 #[.string s, .string ⟨#[58]⟩] w fun e w' => (∃ b, e = .returned (.tuple #[.string (cutH s), .string (cutT s), .bool b])) ∧ Below w.heap.size w w' := by
  obtain ⟨-, m, hm⟩ := h
  refine (Any.strings_Cut { shCut with } s ⟨#[58]⟩ m w (by omega) hm).mono ?_
  rintro e w' ⟨rfl, n, rfl⟩
  exact ⟨⟨_, rfl⟩, below_drewN (Below.refl _ _) n⟩
theorem libSplit (t : ByteArray) (hs : t.size ≤ 1048576) (w : World) (h : Lbs w) :
    Calls Tryd.prog 31 #[.string t, .string ⟨#[44]⟩] w fun e w' => e = .returned (.slice (some ⟨w.heap.size, 0, none⟩) (spB t).length (spB t).length) ∧ w' = w.alloc (.cells ((spB t).map Value.string).toArray 9) := by
  obtain ⟨-, m, hm⟩ := h
  have h9 := Any.strings_Split { shSplit with } shSplit.i9 t ⟨#[44]⟩ m w (by omega) hm (Nat.le_refl _)
  refine h9.mono ?_
  rintro e w' ⟨rfl, rfl⟩
  rw [spB_length]
  exact ⟨rfl, rfl⟩

/-- what a call answers whose results are a class of its own and a bool -/
def RetPC (n : Int) (xs : List Int) (b : Bool) (w : World) (e : Ending) (w' : World) : Prop :=
  ∃ a cap, e = .returned (.tuple #[.agg #[.int .i64 n, .slice a xs.length cap], .bool b]) ∧ Ints w.heap.size w' (.slice a xs.length cap) xs ∧ Below w.heap.size w w'

theorem prs_some {s : ByteArray} {n : Int} {zs : List Int} (h : pM s = some (n, zs)) : prN s = n ∧ prL s = zs ∧ prB s = true := by
  refine ⟨by rw [prN, h], by rw [prL, h], by rw [prB, h]; rfl⟩
theorem prs_none {s : ByteArray} (h : pM s = none) : prN s = 0 ∧ prL s = [] ∧ prB s = false := by
  refine ⟨by rw [prN, h], by rw [prL, h], by rw [prB, h]; rfl⟩
theorem prs_yes {s : ByteArray} (h1 : vldB (numO (cutH s)) (zsI (cutT s)) = true) (h2 : ctB (numO (cutH s)) (zsI (cutT s)) = s) : prN s = numO (cutH s) ∧ prL s = zsI (cutT s) ∧ prB s = true :=
  prs_some (by rw [← pI_pM, pI, if_pos ⟨h1, h2⟩])
theorem prs_no {s : ByteArray} (h : ¬ (vldB (numO (cutH s)) (zsI (cutT s)) = true ∧ ctB (numO (cutH s)) (zsI (cutT s)) = s)) : prN s = 0 ∧ prL s = [] ∧ prB s = false :=
  prs_none (by rw [← pI_pM, pI, if_neg h])
theorem prL_len (s : ByteArray) : (prL s).length ≤ 1048576 := by
  cases h : pM s with
  | none => rw [(prs_none h).2.1]; simp
  | some p =>
    obtain ⟨n, zs⟩ := p
    rw [(prs_some h).2.1]
    obtain ⟨m, ns, -, rfl, hc⟩ := vldB_cls (pM_text h).1
    have h1 := hc.length
    have h2 := hc.pts
    rw [toI_length]
    omega

end Go.Proofs.YtkamocciaaapmaaDoor
