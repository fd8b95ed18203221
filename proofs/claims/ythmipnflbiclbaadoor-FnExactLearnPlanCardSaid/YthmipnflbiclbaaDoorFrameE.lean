/- What a law over examples is handed, opened. No conditions. -/
import Derived.Test.YthmipnflbiclbaaDoorFrame
import Derived.Test.YthmipnflbiclbaaDoorZU
namespace Go.Proofs.YthmipnflbiclbaaDoor
open Go.ChangeShapes Go.WideShapes Go.ChangeAt Go.RowKit Go.Joins

theorem cellsEx : Tryd.prog.cellsOf 111 = 2 := by kernel_rfl
theorem cellsB : Tryd.prog.cellsOf 4 = 1 := by kernel_rfl
def pOf : Option Value → Int
  | some (.int _ n) => n
  | _ => 0
def bOf : Option Value → Bool
  | some (.bool b) => b
  | _ => false

set_option maxRecDepth 100000

section
variable {H : Type} {enc : TypeId × Value → H}

set_option maxRecDepth 100000 in
theorem open_example {W : World} {n : Nat} {a : Addr} {y : DataW H × List MemPlace}
    (h : (W.cells? 0 a 2).bind (DataW.trod enc Tryd.prog W 0 (fun _ => true) true n 111) = some y) : ∃ (p : Int) (l : Bool), W.cell? a = some (.int .i64 p) ∧ W.cell? (a.add 1) = some (.bool l) := by
  rw [Option.bind_eq_some_iff] at h
  obtain ⟨cs, hcs, hy⟩ := h
  obtain ⟨_, hl, hc⟩ := World.cells?_some hcs
  obtain ⟨y0, y1, m, _, _, h0, h1⟩ := trod_struct2 Tryd.underlying111 hy
  match cs, hl with
  | [c0, c1], _ =>
    have e0 : DataW.trod enc Tryd.prog W 0 (fun _ => true) true m 3 [c0] = some y0 := h0
    have e1 : DataW.trod enc Tryd.prog W 0 (fun _ => true) true m 4 [c1] = some y1 := h1
    obtain ⟨p, hp, _, _⟩ := DataW.trod_int Tryd.underlying3 e0
    obtain ⟨l, hb, _⟩ := DataW.trod_bool Tryd.underlying4 e1
    simp only [List.cons.injEq, and_true] at hp hb
    subst hp
    subst hb
    have k0 := hc 0 (by omega)
    have k1 := hc 1 (by omega)
    refine ⟨p, l, ?_, k1⟩
    have e : a.add 0 = a := by unfold Addr.add; split <;> simp_all
    rw [e] at k0
    exact k0

set_option maxRecDepth 100000 in
/-- A list of examples that a law is handed. -/
theorem open_examples {W : World} {base : Nat} {v0 : Value} {d0 : DataW H} {p0 : List MemPlace} (hv : Value.okWide Tryd.prog W .any base 66 v0)
    (h0 : DataW.Trod enc Tryd.prog W 0 (fun _ => true) true 66 v0 d0 p0) : ∃ es : List (Int × Bool), RdE W v0 es := by
  obtain ⟨a, len, cap, rfl⟩ := okWide_slice Tryd.underlying66 hv
  obtain ⟨fuel, hf⟩ := h0
  rcases DataW.trod_slice Tryd.underlying66 hf with ⟨hcs, _⟩ | ⟨a', len', cap', elems, rest, n, _, hcs, _, _, hl, hm, hlen, hel, _, _⟩
  · simp only [Value.cells, List.cons.injEq, Value.slice.injEq, and_true] at hcs
    obtain ⟨rfl, rfl, rfl⟩ := hcs
    exact ⟨[], none, 0, 0, 0, rfl, fun h => by simp at h, by simp, fun j hj => by simp at hj⟩
  · simp only [Value.cells, List.cons.injEq, Value.slice.injEq, and_true] at hcs
    obtain ⟨rfl, rfl, rfl⟩ := hcs
    have each : ∀ i, i < len → ∃ (p : Int) (l : Bool), W.cell? (a'.add (i * 2)) = some (.int .i64 p) ∧ W.cell? ((a'.add (i * 2)).add 1) = some (.bool l) := by
      intro i hi
      have := hel i hi
      rw [cellsEx, List.getElem?_eq_getElem (by omega)] at this
      exact open_example this
    obtain ⟨b, off, spot⟩ := a'
    by_cases hz : len = 0
    · subst hz
      exact ⟨[], some ⟨b, off, spot⟩, b, off, cap, rfl, fun h => by simp at h, by simp, fun j hj => by simp at hj⟩
    · obtain ⟨p, l, hp, _⟩ := each 0 (by omega)
      have hspot : spot = none := by simpa [Addr.add] using World.cell?_spot hp
      subst hspot
      have cells : ∀ i, i < len → ∃ (p : Int) (l : Bool), W.cell? ⟨b, off + i * 2, none⟩ = some (.int .i64 p) ∧ W.cell? ⟨b, off + i * 2 + 1, none⟩ = some (.bool l) := by
        intro i hi
        obtain ⟨p, l, h1, h2⟩ := each i hi
        rw [add_plain] at h1 h2
        rw [add_plain] at h2
        exact ⟨p, l, h1, h2⟩
      have hlt : b < W.heap.size := by
        obtain ⟨p, l, h1, _⟩ := cells 0 (by omega)
        exact World.block_lt_of_cell? W _ h1
      refine ⟨(List.range len).map (fun i => (pOf (W.cell? ⟨b, off + i * 2, none⟩), bOf (W.cell? ⟨b, off + i * 2 + 1, none⟩))), some ⟨b, off, none⟩, b, off, cap, by simp, fun _ => ⟨rfl, hlt⟩, by simp; unfold maxLen at hm; omega, fun j hj => ?_⟩
      have hj' : j < len := by simpa using hj
      obtain ⟨p, l, h1, h2⟩ := cells j hj'
      simp only [List.getD_eq_getElem?_getD, List.getElem?_map, List.getElem?_range hj', Option.map_some, Option.getD_some, h1, h2, pOf, bOf]
      exact ⟨trivial, trivial⟩
end

end Go.Proofs.YthmipnflbiclbaaDoor
