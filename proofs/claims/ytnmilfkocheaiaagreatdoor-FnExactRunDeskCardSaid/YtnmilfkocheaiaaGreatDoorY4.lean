/- What the start of a row says of the library's variables: its two errors lie, and its greatest length is an int; the wrap that hands both on. No conditions. What the start of RunDesk's rows says of the variables; a row of strings that comes in. No conditions. -/
import Derived.ChangeVars
import Derived.LaidMore
import Derived.LaidOnce
import Derived.LaidSub
import Derived.Lay
import Derived.Lib.LaidTab
import Derived.Lib.SmallJoins
import Derived.OpenShut
import Derived.OpenVars
import Derived.ProofKit
import Derived.SevenTiedAt
import Derived.SliceStrings
import Derived.Stop.LaidErr
import Derived.Stop.LaidTwo
import Derived.Test.YtnmilfkocheaiaaGreatDoorRows
import Derived.Test.YtnmilfkocheaiaaGreatDoorY1
import Derived.Test.YtnmilfkocheaiaaGreatDoorY3
namespace Go.Proofs.YtnmilfkocheaiaaGreatDoor
open Go.ChangeShapes Go.WideShapes Go.ChangeAt Go.RowKit Go.Joins

theorem own : ownKnob Tryz.prog.godebug = none := by kernel_rfl
theorem laidOut : laidOutB Tryz.prog = true := by kernel_rfl
theorem star7 : "*" ++ "errors.errorString" = "*errors.errorString" := by decide
theorem row7 (u : TypeId) (h : Tryz.prog.typeName? 3 u = some "*errors.errorString") : u = 183 :=
  typeName_ptr_named (nm := "errors.errorString") (by rw [star7]; kernel_rfl) (by kernel_rfl) (by decide) u (by rw [star7]; exact h)
abbrev laid7 : List (String × DataW Unit) := [("math/bits.deBruijn32tab", Rows.laid_math_bits_deBruijn32tab), ("math/bits.deBruijn64tab", Rows.laid_math_bits_deBruijn64tab), ("internal/strconv.uint64pow10", Rows.laid_internal_strconv_uint64pow10), ("unicode/utf8.acceptRanges", Rows.laid_unicode_utf8_acceptRanges), ("strconv.ErrRange", Rows.laid_strconv_ErrRange), ("strconv.ErrSyntax", Rows.laid_strconv_ErrSyntax), ("unicode/utf8.first", Rows.laid_unicode_utf8_first)]
theorem lbs_of {W : World} (hL : laidMetH Tryz.prog laid7 W) (hS : W.ShapedOpen Tryz.prog) : Lbs W := by
  have h1 : laidMet Tryz.prog laid7 W := (laidMetH_iff.1 hL).1
  have h2 := h1.tail.tail.tail.tail
  obtain ⟨a1, s1, hv1, -, -, -⟩ := laid_sentinel h2 (g := 7) (ti := 37) (tp := 183) (te := 185) (ts := 9) (by kernel_rfl) (by kernel_rfl) Tryz.underlying37 row7 Tryz.underlying183 Tryz.underlying185 rfl rfl Tryz.underlying9 (by kernel_rfl) (by kernel_rfl)
  obtain ⟨a2, s2, hv2, -, -, -⟩ := laid_sentinel h2.tail (g := 6) (ti := 37) (tp := 183) (te := 185) (ts := 9) (by kernel_rfl) (by kernel_rfl) Tryz.underlying37 row7 Tryz.underlying183 Tryz.underlying185 rfl rfl Tryz.underlying9 (by kernel_rfl) (by kernel_rfl)
  exact ⟨⟨⟨_, _, hv2⟩, ⟨_, _, hv1⟩⟩, shCut.s1_3 W hS⟩

theorem start7 (os : Os) (args : Array Value) : laidMetH Tryz.prog laid7 ((World.laidAll Tryz.prog os laid7).forCall (fun _ _ => 0) ⟨#[], args, []⟩).memory := by
  rw [MakeChecks.laidMetH_plain _ _ _ (by kernel_rfl)]
  exact laidMet_laidAll _ (by kernel_rfl) (by kernel_rfl)

/-- the wrap of a row that lists variables, for a contract that asks for the world's shape, too -/
theorem handed_shaped {H : Type} {enc : TypeId × Value → H} {C : Checked} {os : Os} {f : FuncId} {fn : Func} {s : ChangeSpec} {conds : List PathCond} {apart fresh handsOn again : Bool} {X : World → Array Value → Prop}
    (hX : ∀ (w w' : World) (args : Array Value), w.heap = w'.heap → X w args → X w' args)
    (own : ownKnob C.prog.godebug = none) (started : os.Started) (noInit : C.prog.inits.idxOf? f = none) (hfn : C.prog.funcs[f]? = some fn)
    (witness : ∃ (w : World) (tape : Tape) (i : Input), w.os = os ∧ (w.forCall tape i).Shaped C.prog ∧ i.vars = [] ∧ Input.okWide C.prog (w.forCall tape i) .any w.heap.size f i ∧
      ((s.pre enc C.prog fn conds apart (w.forCall tape i).memory i.args ∧ X (w.forCall tape i).memory i.args) ∧ sizedMet enc C.prog fn (OpenSpec.ofChange s) apart (w.forCall tape i).memory i.args) ∧ ({} : Assume).holds C.prog (lone (Frame.enter C.prog f i.args .normal) [] (w.forCall tape i)))
    (contract : ∀ (W : World) (base : Nat) (args : Array Value) (ds gs : List (DataW H)) (before : List MemPlace),
      (∀ (j : Nat) t v, fn.params[j]? = some t → args[j]? = some v → Value.okWide C.prog W .any base t v) →
      DataW.Whole enc C.prog fn.params.toList s.vars apart W args.toList ds gs before →
      X W args → W.ShapedOpen C.prog →
      Calls C.prog f args W fun e W' => ∃ v, e = .returned v ∧ s.post enc C.prog fn apart fresh handsOn again W args v W') :
    ReturnsInHanded {} C os f .any (fun w args => (s.pre enc C.prog fn conds apart w args ∧ X w args) ∧ sizedMet enc C.prog fn (OpenSpec.ofChange s) apart w args) (s.post enc C.prog fn apart fresh handsOn again) := by
  refine returnsInHanded_of_calls own started noInit witness ?_
  intro w tape i _ hsh _ hok hpre _
  obtain ⟨_, _, _, fn', hfn', _, _, _, _, hval⟩ := hok
  obtain rfl : fn' = fn := Option.some.inj (hfn'.symm.trans hfn)
  obtain ⟨⟨⟨ds, gs, before, hw, _⟩, hx⟩, _⟩ := hpre
  refine (contract (w.forCall tape i) w.heap.size i.args ds gs before hval (DataW.Whole.of_heap (w' := w.forCall tape i) (by rfl) hw) (hX _ _ _ (by rfl) hx) hsh).mono fun e W' ⟨v, he, hp⟩ => ?_
  subst he
  exact ChangeSpec.post_blind hp

end Go.Proofs.YtnmilfkocheaiaaGreatDoor

namespace Go.Proofs.YtnmilfkocheaiaaGreatDoor
open Go.ChangeShapes Go.WideShapes Go.ChangeAt Go.RowKit Go.Joins

abbrev laid11 : List (String × DataW Unit) := [("math/bits.deBruijn32tab", Rows.laid_math_bits_deBruijn32tab), ("math/bits.deBruijn64tab", Rows.laid_math_bits_deBruijn64tab), ("internal/strconv.uint64pow10", Rows.laid_internal_strconv_uint64pow10), ("unicode/utf8.acceptRanges", Rows.laid_unicode_utf8_acceptRanges), ("strconv.ErrRange", Rows.laid_strconv_ErrRange), ("strconv.ErrSyntax", Rows.laid_strconv_ErrSyntax), ("loop.example/shatteredsets/impl.setsWith", Rows.laid_loop_example_shatteredsets_impl_setsWith), ("loop.example/shatteredsets/impl.lineWords", Rows.laid_loop_example_shatteredsets_impl_lineWords), ("loop.example/shatteredsets/impl.errWrong", Rows.laid_loop_example_shatteredsets_impl_errWrong), ("loop.example/shatteredsets/impl.errWhat", Rows.laid_loop_example_shatteredsets_impl_errWhat), ("unicode/utf8.first", Rows.laid_unicode_utf8_first)]
theorem start11 (os : Os) (args : Array Value) : laidMetH Tryz.prog laid11 ((World.laidAll Tryz.prog os laid11).forCall (fun _ _ => 0) ⟨#[], args, []⟩).memory := by
  rw [MakeChecks.laidMetH_plain _ _ _ (by kernel_rfl)]
  exact laidMet_laidAll _ (by kernel_rfl) (by kernel_rfl)

/-- an array of strings that reads as a table holds the table's strings -/
theorem cells_of_strs {H : Type} {enc : TypeId × Value → H} {P : Program} {w : World} {base : Nat} {sp : Nat → Bool} {held : Bool} {fuel : Nat} {t e : TypeId} {n : Nat} {cs : List Value} {ss : List ByteArray} {p : List MemPlace}
    (ht : P.underlying t = some (.array n e)) (he : P.underlying e = some .string) (hce : P.cellsOf e = 1) (hct : P.cellsOf t = n)
    (h : DataW.trod enc P w base sp held fuel t cs = some (.agg (ss.map fun s => .lit (.string s.data.toList)), p)) : cs = ss.map Value.string := by
  cases fuel with
  | zero => simp [DataW.trod] at h
  | succ fuel =>
    simp only [DataW.trod, ht, hce, hct, Nat.mul_one] at h
    split at h
    · rename_i hl
      obtain ⟨xs, hm, hx⟩ := Option.map_eq_some_iff.1 h
      have hxs : xs.map (·.1) = ss.map fun s => (DataW.lit (.string s.data.toList) : DataW H) := by
        have := congrArg Prod.fst hx
        simpa using this
      have hxl : xs.length = n := by simpa using Lib.mapM_length hm
      have hsl : ss.length = n := by
        have := congrArg List.length hxs
        simp at this
        omega
      apply List.ext_getElem?
      intro i
      by_cases hi : i < n
      · obtain ⟨b, hb, hf⟩ := Lib.mapM_at hm i i (by simp [hi])
        obtain ⟨s, hc, rfl, _⟩ := DataW.trod_string he hf
        have h1 : cs[i]? = some (.string s) := by
          have := congrArg (·[0]?) hc
          simpa [List.getElem?_take, List.getElem?_drop] using this
        have h2 : (xs.map (·.1))[i]? = some (DataW.lit (.string s.data.toList) : DataW H) := by simp [hb]
        rw [hxs] at h2
        simp only [List.getElem?_map, Option.map_eq_some_iff, DataW.lit.injEq, Lit.string.injEq] at h2
        obtain ⟨s', hs', h3⟩ := h2
        rw [h1, List.getElem?_map, hs', ba_ext h3]
        rfl
      · rw [List.getElem?_eq_none (by omega), List.getElem?_eq_none (by simp; omega)]
    · cases h
theorem cellsW : Tryz.prog.cellsOf 100 = 11 := by kernel_rfl
theorem cellsS : Tryz.prog.cellsOf 9 = 1 := by kernel_rfl
theorem cellsF : Tryz.prog.cellsOf 116 = 1 := by kernel_rfl
theorem cellsT5 : Tryz.prog.cellsOf 174 = 5 := by kernel_rfl
theorem lw_of {W : World} {rest : List (String × DataW Unit)} (h : laidMet Tryz.prog (("loop.example/shatteredsets/impl.lineWords", Rows.laid_loop_example_shatteredsets_impl_lineWords) :: rest) W) : LW W := by
  obtain ⟨ps, ⟨g, t, cs, fuel, p, q, hg, ht, hvar, hd, _, _⟩, _⟩ := h
  obtain rfl := Option.some.inj ((show Tryz.prog.globalNamed "loop.example/shatteredsets/impl.lineWords" = some 2 by kernel_rfl).symm.trans hg)
  obtain rfl := Option.some.inj ((show (Tryz.prog.globals[2]?).map (·.type) = some 100 by kernel_rfl).symm.trans ht)
  have hcs := cells_of_strs (ss := wordsL) Tryz.underlying100 Tryz.underlying9 cellsS cellsW hd
  intro j hj
  rw [World.var?_cell hg hvar j, ← Array.getElem?_toList, hcs, List.getElem?_map, List.getD_eq_getElem?_getD, List.getElem?_eq_getElem (show j < wordsL.length from hj)]
  rfl
theorem dq_of {W : World} (hL : laidMetH Tryz.prog laid11 W) (hS : W.ShapedOpen Tryz.prog) : ∃ a b, Dq a b W := by
  have h1 : laidMet Tryz.prog laid11 W := (laidMetH_iff.1 hL).1
  have h3 := h1.tail.tail
  have h5 := h3.tail.tail
  have h7 := h5.tail.tail
  have h9 := h7.tail.tail
  obtain ⟨a1, s1, hv1, -, -, -⟩ := laid_sentinel h5 (g := 7) (ti := 37) (tp := 183) (te := 185) (ts := 9) (by kernel_rfl) (by kernel_rfl) Tryz.underlying37 row7 Tryz.underlying183 Tryz.underlying185 rfl rfl Tryz.underlying9 (by kernel_rfl) (by kernel_rfl)
  obtain ⟨a2, s2, hv2, -, -, -⟩ := laid_sentinel h5.tail (g := 6) (ti := 37) (tp := 183) (te := 185) (ts := 9) (by kernel_rfl) (by kernel_rfl) Tryz.underlying37 row7 Tryz.underlying183 Tryz.underlying185 rfl rfl Tryz.underlying9 (by kernel_rfl) (by kernel_rfl)
  obtain ⟨a, b, sa, sb, ca, cb, ta, tb, hva, hvb, -, -, -, -, -, -, hne, hba, hbb⟩ := laid_sentinels2 h9 (g0 := 0) (g1 := 1) (ti := 37) (tp := 183) (te := 185) (ts := 9) (by kernel_rfl) (by kernel_rfl) (by kernel_rfl) (by kernel_rfl) Tryz.underlying37 row7 Tryz.underlying183 Tryz.underlying185 rfl rfl Tryz.underlying9 (by kernel_rfl) (by kernel_rfl)
  have hT : Lib.TabIs Tryz.prog W "loop.example/shatteredsets/impl.setsWith" .u32 swZ := Lib.tabIs_of_head (g := 5) (by kernel_rfl) (by kernel_rfl) Tryz.underlying174 Tryz.underlying116 cellsF cellsT5 h7
  have hg5 : Tryz.prog.globalNamed "loop.example/shatteredsets/impl.setsWith" = some 5 := by kernel_rfl
  have hP : Tb W := Lib.tabIs_of_head (g := 4) (by kernel_rfl) (by kernel_rfl) Tryz.underlying172 Tryz.underlying147 (by kernel_rfl) (by kernel_rfl) h3
  have hga : W.cell? ⟨0, 0, none⟩ = some (.iface 183 (.pointer (some a))) := by simpa using World.var?_cell (show Tryz.prog.globalNamed "loop.example/shatteredsets/impl.errWrong" = some 0 by kernel_rfl) hva 0
  have hgb : W.cell? ⟨1, 0, none⟩ = some (.iface 183 (.pointer (some b))) := by simpa using World.var?_cell (show Tryz.prog.globalNamed "loop.example/shatteredsets/impl.errWhat" = some 1 by kernel_rfl) hvb 0
  exact ⟨a, b, ⟨⟨World.block_lt_of_cell? W _ (hT.cell hg5 0 (by decide)), fun x hx => hT.cell hg5 x hx⟩, ⟨⟨⟨_, _, hv2⟩, ⟨_, _, hv1⟩⟩, shCut.s1_3 W hS⟩, lw_of h7.tail, hga, hgb, hne, ⟨ca, ta, hba⟩, ⟨cb, tb, hbb⟩⟩, hP⟩
set_option maxRecDepth 100000 in
theorem open_lines {H : Type} {enc : TypeId × Value → H} {W : World} {base : Nat} {v0 : Value} {d0 : DataW H} {p0 : List MemPlace} (hv : Value.okWide Tryz.prog W .any base 22 v0)
    (h0 : DataW.Trod enc Tryz.prog W 0 (fun _ => true) true 22 v0 d0 p0) (hlt : ∀ x ∈ p0, x.block < W.heap.size) : ∃ L, RdS W v0 L := by
  obtain ⟨a, len, cap, rfl⟩ := okWide_slice Tryz.underlying22 hv
  obtain ⟨fuel, hf⟩ := h0
  rcases open_strings Tryz.underlying22 Tryz.underlying9 cellsS hf with ⟨hcs, hx⟩ | ⟨a', len', cap', ss, hcs, _, hl, hm, hz, hx, hcell, hwz⟩
  · simp only [Value.cells, List.cons.injEq, Value.slice.injEq, and_true] at hcs
    obtain ⟨rfl, rfl, rfl⟩ := hcs
    exact ⟨[], none, 0, 0, 0, rfl, fun h => by simp at h, ⟨Nat.zero_le _, fun s hs => by simp at hs⟩, fun j hj => by simp at hj⟩
  · simp only [Value.cells, List.cons.injEq, Value.slice.injEq, and_true] at hcs
    obtain ⟨rfl, rfl, rfl⟩ := hcs
    simp only [if_true] at hz
    simp only [Prod.mk.injEq] at hx
    obtain ⟨_, rfl⟩ := hx
    obtain ⟨b, off, spot⟩ := a'
    have htk : (ss.take len).length = len := by rw [List.length_take]; omega
    refine ⟨ss.take len, some ⟨b, off, spot⟩, b, off, cap, by rw [htk], fun h => ?_, ⟨by omega, fun s hs => hwz s (List.mem_of_mem_take hs)⟩, fun j hj => ?_⟩
    · rw [htk] at h
      have hspot : spot = none := by simpa [Addr.add] using World.cell?_spot (hcell 0 (by omega))
      subst hspot
      exact ⟨rfl, hlt (.cell b off) (MemPlace.mem_row.2 ⟨0, by omega, by simp⟩)⟩
    · rw [htk] at hj
      have hspot : spot = none := by simpa [Addr.add] using World.cell?_spot (hcell 0 (by omega))
      subst hspot
      have := hcell j (by omega)
      rw [add_plain] at this
      rw [this, List.getD_eq_getElem?_getD, List.getD_eq_getElem?_getD, List.getElem?_take_of_lt hj]
      rfl

end Go.Proofs.YtnmilfkocheaiaaGreatDoor
