/- FnExactEquivalenceDepth answers true for every class that can be read and both bools, and changes nothing that was there. Condition: the table setsWith reads as its initialiser lays it, which the card ties to the program's text. -/
import Derived.ChangeVars
import Derived.LaidMore
import Derived.Lib.LaidTab
import Derived.SevenTiedAt
import Derived.Test.YthmipnflbiclbaaDoorCards
import Derived.Test.YthmipnflbiclbaaDoorFrame
import Derived.Test.YthmipnflbiclbaaDoorLawEquivalenceDepth
import Derived.Test.YthmipnflbiclbaaDoorTie
namespace Go.Proofs.YthmipnflbiclbaaDoor.PEquivalenceDepth
open Go.ChangeShapes Go.WideShapes Go.ChangeAt Go.RowKit Go.Joins

abbrev vname : String := "loop.example/shatteredsets/impl.setsWith"
abbrev laidD : List (String × DataW Unit) := [(vname, Rows.laid_loop_example_shatteredsets_impl_setsWith)]
theorem gSets : Tryd.prog.globalNamed vname = some 0 := by kernel_rfl
theorem tSets : (Tryd.prog.globals[0]?).map (·.type) = some 136 := by kernel_rfl
theorem cellsE : Tryd.prog.cellsOf 80 = 1 := by kernel_rfl
theorem cellsT : Tryd.prog.cellsOf 136 = 5 := by kernel_rfl
abbrev cells5 : Array Value := (swZ.map fun z => Value.int .u32 z).toArray
theorem reads_table {H : Type} (enc : TypeId × Value → H) (W : World) (sp : Nat → Bool) : DataW.trod enc Tryd.prog W 0 sp true 3 136 cells5.toList = some (Rows.laid_loop_example_shatteredsets_impl_setsWith, []) := by kernel_rfl
theorem door_met (os : Os) (args : Array Value) : laidMetH Tryd.prog laidD ((World.doorLaid Tryd.prog 400 os).forCall (fun _ _ => 0) ⟨#[], args, []⟩).memory :=
  laidMetH_of_parts3 (fuel := 8) (laidMet_of_run' 8 (by kernel_rfl) (by kernel_rfl)) (by kernel_rfl) (by kernel_rfl)
theorem tab_of_laid {W : World} (h : laidMetH Tryd.prog laidD W) : Lib.TabIs Tryd.prog W vname .u32 swZ := by
  rw [MakeChecks.laidMetH_plain _ _ _ (by kernel_rfl)] at h
  exact Lib.tabIs_of_head gSets tSets Tryd.underlying136 Tryd.underlying80 cellsE cellsT h
theorem sw_of_tab {W : World} (h : Lib.TabIs Tryd.prog W vname .u32 swZ) : SW W := by
  refine ⟨?_, fun x hx => h.cell gSets x hx⟩
  exact World.block_lt_of_cell? W _ (h.cell gSets 0 (by decide))
theorem var_kept {W W' : World} (hb : Below W.heap.size W W') (h0 : 0 < W.heap.size) (h : W.var? Tryd.prog vname = some cells5) : W'.var? Tryd.prog vname = some cells5 := by
  simp only [World.var?, gSets, Option.bind_some] at h ⊢
  rw [hb.block 0 h0]
  exact h

set_option maxRecDepth 100000 in
theorem lifted (os : Os) (started : os.Started) (H : Type) (enc : TypeId × Value → H) :
    ReturnsInHanded {} Tryd.checked os 8 .any (fun w args => (Rows.fnExactEquivalenceDepthSpec.pre enc Tryd.prog Tryd.f8 [] false w args ∧ laidMetH Tryd.prog laidD w) ∧ sizedMet enc Tryd.prog Tryd.f8 (OpenSpec.ofChange Rows.fnExactEquivalenceDepthSpec) false w args) (Rows.fnExactEquivalenceDepthSpec.post enc Tryd.prog Tryd.f8 false true false false) := by
  refine returnsInHanded_of_change_and (C := Tryd.checked) (X := fun w _ => laidMetH Tryd.prog laidD w) (fun _ _ _ hh h => h.of_heap hh) own started (by kernel_rfl) Tryd.func8
    (ChangeSpec.witness_shaped (enc := enc) (C := Tryd.checked) (os := os) (X := fun w _ => laidMetH Tryd.prog laidD w) false (World.doorLaid Tryd.prog 400 os) #[.agg #[.int .i64 0, .slice none 0 0], .bool false] 8 rfl (World.shaped_of_RefB (by kernel_rfl) (by kernel_rfl)) (by kernel_rfl) (by kernel_rfl) (by kernel_rfl) (door_met os _)) ?_
  intro W base args ds gs before hval0 hW _ _ hL _
  have hval : ∀ (j : Nat) t v, Tryd.f8.params[j]? = some t → args[j]? = some v → Value.okWide Tryd.prog W .any base t v := hval0
  have hW' := hW
  obtain ⟨p, q, hA0, hV0, rfl, _, _⟩ := hW
  have hA : DataW.TrodAll enc Tryd.prog W 0 (fun _ => true) true Tryd.f8.params.toList args.toList ds p := hA0
  have hV : DataW.TrodVars enc Tryd.prog W (fun _ => true) [vname] gs q := hV0
  rw [Tryd.params8] at hA hval
  have hT := tab_of_laid hL
  have hsw := sw_of_tab hT
  obtain ⟨g, t, cs, fuel, d, p', rfl, hg, ht, hvar, hd, rfl⟩ := trodVars_one hV
  obtain rfl := Option.some.inj (gSets.symm.trans hg)
  obtain rfl := Option.some.inj (tSets.symm.trans ht)
  obtain rfl : cs = cells5 := Option.some.inj (hvar.symm.trans hT)
  obtain ⟨rfl, rfl⟩ := DataW.Trod.unique (v := .agg cells5) ⟨fuel, hd⟩ ⟨3, reads_table enc W _⟩
  obtain ⟨v0, v1, d0, d1, p0, p1, rfl, rfl, rfl, h0, h1⟩ := trodAll_two hA
  obtain ⟨s, rfl, rfl, rfl⟩ := open_bool Tryd.underlying4 (hval 1 4 v1 rfl rfl) h1
  have hlt : ∀ x ∈ p0, x.block < W.heap.size := fun x hx => by simpa using hW'.lt x (by simp [hx])
  obtain ⟨n, v, xs, rfl, hrd, wn⟩ := open_class (hval 0 59 v0 rfl rfl) h0 hlt
  clear hA0 hval0 hV0
  refine (walkExactEquivalenceDepth n v xs s W hrd hsw).mono fun e W' ⟨he, hnx⟩ => ?_
  subst he
  exact ⟨_, rfl, _, _, _, [], p0 ++ [], _, hW', trodAll_mk1 (shut_bool Tryd.underlying4 true), trodAll_mk2 (Below.trod laidOut (by kernel_rfl) (of_decide_eq_true (by kernel_rfl)) h0 hnx hlt) (shut_bool Tryd.underlying4 s), (trodVars_mk1 gSets tSets (var_kept hnx hsw.1 hvar) (reads_table enc W' _)), hnx.frame _, fun h => by cases h⟩

theorem row_holds : Rows.FnExactEquivalenceDepthSaid :=
  OpenClaim.holds_of_wide 8 Tryd.f8 rfl rfl rfl rfl rfl rfl rfl ⟨rfl, rfl, rfl, rfl, rfl⟩ rfl rfl rfl rfl rfl (by kernel_rfl) Tryd.func8 (by kernel_rfl)
    (of_decide_eq_true (by kernel_rfl)) (by unfold Func.isWrapper; first | (rw [if_pos (by decide +kernel)]; kernel_rfl) | (rw [if_neg (by decide +kernel)]; exact ⟨rfl, rfl⟩))
    (fun os started H enc _ => lifted os started H enc)

theorem said : Rows.FnExactEquivalenceDepthCardSaid :=
  Claim7.holds_tied_plain_at .later [] [.data] true _ false
    row_holds (fun _ h => by cases h) (by kernel_rfl) (fun _ h => by cases h) fnExactEquivalenceDepth_row_tie rfl ⟨rfl, rfl⟩ (by kernel_rfl) rfl
    (fun f fn hf hfn => by
      obtain rfl : f = 8 := Option.some.inj ((show Tryd.prog.funcNamed "loop.example/shatteredsets/laws.FnExactEquivalenceDepth" = some 8 by kernel_rfl).symm.trans hf) |>.symm
      obtain rfl : fn = Tryd.f8 := (Option.some.inj (Tryd.func8.symm.trans hfn)).symm
      exact ⟨by kernel_rfl, fun j t ht => by
        rw [Tryd.params8] at ht
        have hm : t ∈ [59, 4] := by simpa using Array.mem_of_getElem? ht
        have hall : ([59, 4].all fun u => !Tryd.prog.wantsStandIn u) = true := by kernel_rfl
        exact (show Tryd.prog.wantsStandIn t = false by simpa using List.all_eq_true.1 hall t hm)⟩)
    (by kernel_rfl)

end Go.Proofs.YthmipnflbiclbaaDoor.PEquivalenceDepth
