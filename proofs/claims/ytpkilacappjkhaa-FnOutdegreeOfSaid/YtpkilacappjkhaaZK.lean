/- A class that the laws draw, and a set: goodClass, someClass, setOf. Conditions: the reader has drawn at most 80000 numbers. A set of points of a class, most often: setOf. Conditions: the reader has drawn at most 90000 numbers. What the laws of chapter 1 draw. Conditions: the code is a slice of bytes. -/
import Derived.Test.YtpkilacappjkhaaBent
namespace Go.Proofs.Ytpkilacappjkhaa
open Go.RowKit



end Go.Proofs.Ytpkilacappjkhaa

namespace Go.Proofs.Ytpkilacappjkhaa
open Go.RowKit

/-- a drawn number -/
def GotInt (B R k : Nat) (w : World) (e : Ending) (w' : World) : Prop := ∃ (s : Int) (p' : Nat), e = .returned (.int .i64 s) ∧ p' ≤ k ∧ Rdr B R p' w' ∧ w.grownBy w' (some R)


end Go.Proofs.Ytpkilacappjkhaa

namespace Go.Proofs.Ytpkilacappjkhaa
open Go.RowKit

/-- a class is drawn -/
def GotC (w : World) (e : Ending) (w' : World) : Prop := ∃ (n : Int) (zs : List Int), (-8 ≤ n ∧ n ≤ 8 ∧ zs.length ≤ 34) ∧ RetClass n zs w e w'
/-- a class and a number are drawn -/
def GotCI (w : World) (e : Ending) (w' : World) : Prop := ∃ (n : Int) (zs : List Int) (s : Int), (-8 ≤ n ∧ n ≤ 8 ∧ zs.length ≤ 34) ∧ ∃ a cap, e = .returned (.tuple #[.agg #[.int .i64 n, .slice a zs.length cap], .int .i64 s]) ∧ Ints w.heap.size w' (.slice a zs.length cap) zs ∧ Below w.heap.size w w'
theorem Rdr.bx {B R p o : Nat} {w : World} {n : Int} {a' : Option Addr} {l c : Nat} (h : Rdr B R p w) (hx : Bx n (.slice a' l c) o w) (hne : R ≠ o) (j : Nat) (u : Value) : Rdr B R p (w.setCell ⟨o, j, none⟩ u) := by
  obtain ⟨hRB, hB, a, b, off, k, cap, hn, c0, c1, f1, hbR, hy⟩ := h
  have hbo : 0 < k → b ≠ o := fun h0 e => by
    obtain ⟨x, _, hc⟩ := hy.2 0 h0
    rw [e, World.cell?, show w.heap[(⟨o, off + 0, none⟩ : Addr).block]? = _ from hx] at hc
    rcases (show off = 0 ∨ off = 1 ∨ 2 ≤ off by omega) with rfl | rfl | h2
    · simp at hc
    · simp at hc
    · obtain ⟨q, rfl⟩ : ∃ q, off = q + 2 := ⟨off - 2, by omega⟩
      simp at hc
  exact ⟨hRB, by simpa using hB, a, b, off, k, cap, hn, (World.cell?_setCell_other _ _ _ _ (by intro e; have := congrArg Addr.block e; simp at this; omega)).trans c0, (World.cell?_setCell_other _ _ _ _ (by intro e; have := congrArg Addr.block e; simp at this; omega)).trans c1, by rw [World.frozen?_setCell]; exact f1, hbR, hy.kept (grownBy_set w j _) (fun h0 e => hbo h0 (by cases e; rfl))⟩











end Go.Proofs.Ytpkilacappjkhaa
