/- A map[int]bool that a call made, whose keys are small sets, each true: made, stored into, deleted from, looked up. No conditions. The program's keysOf and hasCubeAt. Conditions: Sets is a slice of small sets. IsStrong, the program's and the model's. Conditions: Sets is a slice of ints. The program's classOf: the class of the sets that are keys. No conditions. The program's FlipClass. Conditions: Sets is a slice of ints. The program's ComplementClass. Conditions: Sets is a slice of ints. -/
import Derived.Carry
import Derived.Maps.OwnOps
import Derived.Maps.OwnSet
import Derived.Test.YtnmilfkocheaiaaGreatDoorZA
import Derived.Test.YtnmilfkocheaiaaGreatDoorZB
namespace Go.Proofs.YtnmilfkocheaiaaGreatDoor
open Go.RowKit Go.Maps

theorem keyInt : Keyed Tryz.prog 3 := int_keyed Tryz.underlying3
theorem zeroBool (w : World) : (zeroValue 4).run Tryz.prog w = .ok (.bool false) w := by kernel_rfl
theorem wf_nat {x : Nat} (h : x < 4096) : (Lit.int .i64 (x : Int)).wf = true := by
  simp [Lit.wf, IntKind.min, IntKind.max, IntKind.signed, IntKind.bits]; omega
theorem keyOf_nat {x : Nat} (h : x < 4096) : keyOf Tryz.prog 3 (.int .i64 (x : Int)) = some (.int .i64 (x : Int)) := keyOf_int_mk Tryz.underlying3 (wf_nat h)
theorem isKeyNat {x : Nat} : WideAt.IsKeyLit (.int .i64 (x : Int)) := by simp [WideAt.IsKeyLit]

/-- block b is a map of at most n entries whose keys are the sets for which K holds, each true -/
def Keys (w : World) (b n : Nat) (K : Nat → Bool) : Prop :=
  ∃ D : DataW Unit, w.ownsMap Tryz.prog 3 (plainElem Tryz.prog 4) b n D ∧ IsMap D ∧ ∀ x : Nat, x < 4096 → D.atKey (.int .i64 (x : Int)) (.lit (.bool false)) = .lit (.bool (K x))
theorem Keys.made (w : World) : Keys (w.alloc (.map #[] 0)) w.heap.size 0 (fun _ => false) :=
  ⟨.map [], World.ownsMap_made _ _ _ _, isMap_empty, fun _ _ => rfl⟩
theorem Keys.lt {w : World} {b n : Nat} {K : Nat → Bool} (h : Keys w b n K) : b < w.heap.size := by
  obtain ⟨D, h1, _⟩ := h
  exact h1.lt
theorem Keys.mono {w : World} {b n m : Nat} {K : Nat → Bool} (h : Keys w b n K) (hm : n ≤ m) : Keys w b m K := by
  obtain ⟨D, h1, h2⟩ := h
  exact ⟨D, h1.mono hm, h2⟩
theorem Keys.below {w w' : World} {b n B : Nat} {K : Nat → Bool} (h : Keys w b n K) (hb : Below B w w') (hB : b < B) : Keys w' b n K := by
  obtain ⟨D, ⟨es, c, h1, h2⟩, h3⟩ := h
  exact ⟨D, ⟨es, c, by rw [hb.block b hB]; exact h1, h2⟩, h3⟩
theorem Keys.kept {w w' : World} {b n : Nat} {r : Option Nat} {K : Nat → Bool} (h : Keys w b n K) (hg : w.grownBy w' r) (hne : some b ≠ r) : Keys w' b n K := by
  obtain ⟨D, h1, h2⟩ := h
  exact ⟨D, h1.kept hg hne, h2⟩
theorem Keys.congr {w : World} {b n : Nat} {K L : Nat → Bool} (h : Keys w b n K) (he : ∀ x, x < 4096 → K x = L x) : Keys w b n L := by
  obtain ⟨D, h1, h2, h3⟩ := h
  exact ⟨D, h1, h2, fun x hx => by rw [h3 x hx, he x hx]⟩

theorem litNe {x y : Nat} (h : y ≠ x) : (Lit.int .i64 (y : Int)) ≠ Lit.int .i64 (x : Int) := by
  intro e
  simp only [Lit.int.injEq, true_and] at e
  omega

theorem Keys.look {w : World} {b n : Nat} {K : Nat → Bool} (h : Keys w b n K) (k : Nat) (hk : k < 4096) :
    (Instr.lookup 121 (.map (some b)) (.int .i64 (k : Int)) false).run Tryz.prog w = .ok (.bool (K k)) w := by
  obtain ⟨D, h1, h2, h3⟩ := h
  obtain ⟨v, ps, hrun, hv⟩ := h1.lookup keyInt Tryz.underlying121 (zeroBool w) (plainElem_bool Tryz.underlying4 false) (keyOf_nat hk)
  rw [h3 k hk] at hv
  have hvb : v = .bool (K k) := by
    unfold plainElem at hv
    rw [show Tryz.prog.underlying 4 = some .bool from Tryz.underlying4] at hv
    cases v <;> simp_all
  subst hvb
  exact hrun

section
variable {ops : Array Oper} {rest : List Oper} {o : Oper} {a : Act} {Q : Exit → Act → World → Prop}

theorem wpList_keys_put (w : World) (hg : o.guard = none) (m x v : Operand) (hop : o.op = Op.mapUpdate 121 m x v)
    (b n : Nat) (K : Nat → Bool) (hm : a.eval m = .map (some b)) (h : Keys w b n K) (hn : n < 4096) (k : Nat) (hk : k < 4096) (hx : a.eval x = .int .i64 (k : Int)) (hv : a.eval v = .bool true)
    (hK : ∀ w', Keys w' b (n + 1) (fun y => decide (y = k) || K y) → w.grownBy w' (some b) → wpList Tryz.prog ops Q rest (a.put o.dst undef) w') :
    wpList Tryz.prog ops Q (o :: rest) a w := by
  obtain ⟨D, h1, h2, h3⟩ := h
  refine wpList_mapUpdate_own w hg m x v 121 hop 3 4 keyInt Tryz.underlying121 (plainElem Tryz.prog 4) b n D hm h1 (by unfold maxLen; omega) _ _ _ hx hv (keyOf_nat hk) (.lit (.bool true)) [] (plainElem_bool Tryz.underlying4 true) ?_
  intro w' hown hgr
  refine hK w' ⟨_, hown, h2.put _ _, fun y hy => ?_⟩ hgr
  by_cases e : y = k
  · subst e
    rw [atKey_put_same h2 isKeyNat]
    simp
  · rw [atKey_put_other (litNe e), h3 y hy]
    simp [e]

theorem wpList_keys_del (w : World) (hg : o.guard = none) (m x : Operand) (hop : o.op = Op.call { callee := Callee.builtin Builtin.delete, args := #[m, x], argTypes := #[121, 3] })
    (b n : Nat) (K : Nat → Bool) (hm : a.eval m = .map (some b)) (h : Keys w b n K) (k : Nat) (hk : k < 4096) (hx : a.eval x = .int .i64 (k : Int))
    (hK : ∀ w', Keys w' b n (fun y => !decide (y = k) && K y) → w.grownBy w' (some b) → wpList Tryz.prog ops Q rest (a.put o.dst (.tuple #[])) w') :
    wpList Tryz.prog ops Q (o :: rest) a w := by
  obtain ⟨D, h1, h2, h3⟩ := h
  refine wpList_delete_own w hg m x 121 3 hop 4 keyInt Tryz.underlying121 (plainElem Tryz.prog 4) b n D hm h1 _ _ hx (keyOf_nat hk) ?_
  intro w' hown ht
  refine hK w' ⟨_, hown, h2.del _, fun y hy => ?_⟩ ht.grown
  by_cases e : y = k
  · subst e
    rw [atKey_del_same]
    simp
  · rw [atKey_del_other (litNe e), h3 y hy]
    simp [e]

theorem wpList_keys_look (w : World) (hg : o.guard = none) (m x : Operand) (hop : o.op = Op.lookup 121 m x false)
    (b n : Nat) (K : Nat → Bool) (hm : a.eval m = .map (some b)) (h : Keys w b n K) (k : Nat) (hk : k < 4096) (hx : a.eval x = .int .i64 (k : Int))
    (hK : wpList Tryz.prog ops Q rest (a.put o.dst (.bool (K k))) w) :
    wpList Tryz.prog ops Q (o :: rest) a w := by
  refine wpList_plain hg fun K' hK' => ?_
  have hrun := h.look k hk
  unfold Oper.wp
  simp [execOp, hop, hm, hx, hrun, Result.andThen]
  exact hK' _ _ hK

end

end Go.Proofs.YtnmilfkocheaiaaGreatDoor

namespace Go.Proofs.YtnmilfkocheaiaaGreatDoor
open Go.RowKit Go.Maps

theorem run_makeMapN (k : Nat) (w : World) : (Instr.makeMap 121 (some (.int .i64 (k : Int)))).run Tryz.prog w = .ok (.map (some w.heap.size)) (w.alloc (.map #[] 0)) := by
  simp [Instr.makeMap, run_underlying Tryz.underlying121, asInt, asIntOf, Result.andThen]

/-- is x among the first k of ns? -/
def hasTo (ns : List Nat) (k x : Nat) : Bool := (List.range k).any (fun j => ns.getD j 0 == x)
theorem hasTo_succ (ns : List Nat) (k x : Nat) : hasTo ns (k + 1) x = (decide (x = ns.getD k 0) || hasTo ns k x) := by
  simp only [hasTo, List.range_succ, List.any_append, List.any_cons, List.any_nil, Bool.or_false]
  rw [Bool.or_comm]
  congr 1
  rw [Bool.eq_iff_iff]
  simp
  exact eq_comm
theorem hasTo_all (ns : List Nat) (x : Nat) : hasTo ns ns.length x = decide (x ∈ ns) := by
  rw [Bool.eq_iff_iff]
  simp only [hasTo, List.any_eq_true, List.mem_range, beq_iff_eq, decide_eq_true_eq]
  constructor
  · rintro ⟨j, hj, rfl⟩
    exact getD_of_lt hj
  · intro hm
    obtain ⟨j, hj, e⟩ := List.getElem_of_mem hm
    exact ⟨j, hj, by rw [List.getD_eq_getElem?_getD, List.getElem?_eq_getElem hj]; exact e⟩

set_option maxHeartbeats 1600000 in
set_option maxRecDepth 100000 in
theorem implKeysOf (n : Int) (v : Value) (ns : List Nat) (w : World) (h : Rd w v (toI ns)) (hl : ns.length ≤ 32) (hm : ∀ t ∈ ns, t < 32) :
    Calls Tryz.prog 113 #[.agg #[.int .i64 n, v]] w fun e w' => e = .returned (.map (some (w.heap.size + 1))) ∧ Keys w' (w.heap.size + 1) 32 (fun x => decide (x ∈ ns)) ∧ Below w.heap.size w w' := by
  obtain ⟨a, b, off, cap, rfl, h1, h3, h5⟩ := h
  rw [toI_length] at *
  have H5 := Lib.hid h5
  have H1 := Lib.hid h1
  clear h5 h1
  have hmm := run_makeMapN ns.length
  go_enter Tryz.func113, Tryz.ntmps113
  go_wp2_with fail
  go_loopw [13] (fun i wr => ∃ k : Nat, k ≤ ns.length ∧ i = .int .i64 k ∧ Keys wr (w.heap.size + 1) k (hasTo ns k) ∧ Below w.heap.size w wr) (fun i _ => ns.length - (intOf i).toNat)
  case atStart =>
    refine ⟨0, Nat.zero_le _, rfl, ?_, ?_⟩
    · have := (Keys.made (w.alloc (Obj.cells #[.int .i64 n, .slice a ns.length cap] 47))).congr (L := hasTo ns 0) (fun _ _ => rfl)
      simpa using this
    · exact Below.alloc (Below.alloc (Below.refl _ _) (Nat.le_refl _) _) (by simp) _
  case round =>
    obtain ⟨k, hk, rfl, hks, hbe⟩ := hrel
    have HK := Lib.hid hks
    have HBE := Lib.hid hbe
    clear hks hbe
    by_cases hlt : k < ns.length
    · obtain ⟨rfl, hbl⟩ := H1.out (by omega)
      have hc := (HBE.out.cell (p := ⟨b, off + k, none⟩) hbl).trans (H5.out k hlt)
      rw [toI_getD] at hc
      have hx := hm _ (getD_of_lt hlt)
      have HS := Lib.hid (hasTo_succ ns k)
      generalize ns.getD k 0 = x at *
      go_wp2_with (at_mapUpdate; refine wpList_keys_put _ rfl (.tmp 17) (.tmp 18) _ rfl (w.heap.size + 1) k (hasTo ns k) rfl HK.out (by omega) x (by omega) rfl rfl ?_; intro w1 hk1 hg1)
      have HK1 := Lib.hid hk1
      have HB1 := Lib.hid (HBE.out.grown hg1 HBE.out.size (fun j hj => by cases hj; omega))
      clear hk1 hg1
      go_roundw
      case rel => exact ⟨k + 1, by omega, by go_num, HK1.out.congr (fun y _ => by rw [HS.out y]), HB1.out⟩
      case measure => simp [intOf]; omega
    · obtain rfl : k = ns.length := by omega
      go_wp2_with fail
      go_ret
      exact ⟨rfl, (HK.out.mono hl).congr (fun y _ => by rw [hasTo_all]), HBE.out⟩

/-- are all parts below k of s, put to c, keys? -/
def cubTo (K : Nat → Bool) (c s k : Nat) : Bool := (List.range k).all (fun a => !(a &&& s == a) || K (c ||| a))
theorem cubTo_skip {K : Nat → Bool} {c s k : Nat} (h : ¬ k &&& s = k) : cubTo K c s (k + 1) = cubTo K c s k := by simp [cubTo, List.range_succ, h]
theorem cubTo_yes {K : Nat → Bool} {c s k : Nat} (h : K (c ||| k) = true) : cubTo K c s (k + 1) = cubTo K c s k := by simp [cubTo, List.range_succ, h]
theorem cubTo_no {K : Nat → Bool} {c s k j : Nat} (h : k &&& s = k) (h2 : K (c ||| k) = false) (hj : k < j) : cubTo K c s j = false := by
  rw [← Bool.not_eq_true]
  intro hh
  simp only [cubTo, List.all_eq_true, List.mem_range] at hh
  have := hh k hj
  simp [h, h2] at this

set_option maxHeartbeats 800000 in
set_option maxRecDepth 100000 in
theorem implHasCubeAt (b n : Nat) (K : Nat → Bool) (c s : Nat) (hc : c < 32) (hs : s < 32) (w : World) (h : Keys w b n K) :
    Calls Tryz.prog 133 #[.map (some b), .int .i64 (c : Int), .int .i64 (s : Int)] w fun e w' => e = .returned (.bool (cubTo K c s (s + 1))) ∧ w' = w := by
  have HK := Lib.hid h
  clear h
  go_enter Tryz.func133, Tryz.ntmps133
  go_wp2_with fail
  go_loop [10] (fun i => ∃ k : Nat, k ≤ s + 1 ∧ i = .int .i64 k ∧ cubTo K c s k = true) (fun i => s + 1 - (intOf i).toNat)
  case atStart => exact ⟨0, Nat.zero_le _, rfl, rfl⟩
  case round =>
    obtain ⟨k, hk, rfl, hcu⟩ := hrel
    have HC := Lib.hid hcu
    clear hcu
    by_cases hlt : k < s + 1
    · have hand := i64_and k s (by omega) (by omega)
      by_cases he : k &&& s = k
      · have hor := i64_or c k (by omega) (by omega)
        have ho : c ||| k < 32 := Nat.or_lt_two_pow (n := 5) hc (by omega)
        have hlook := HK.out.look (c ||| k) (by omega)
        by_cases hq : K (c ||| k) = true
        · have HY := Lib.hid (cubTo_yes (s := s) hq)
          rw [hq] at hlook
          rw [he] at hand
          clear he hq
          generalize c ||| k = z at *
          go_wp2_with fail
          go_round
          case rel => exact ⟨k + 1, by omega, by go_num, by rw [HY.out]; exact HC.out⟩
          case measure => simp [intOf]; omega
        · rw [Bool.not_eq_true] at hq
          have HN := Lib.hid (cubTo_no he hq hlt)
          rw [hq] at hlook
          rw [he] at hand
          clear he hq
          generalize c ||| k = z at *
          go_wp2_with fail
          go_ret
          exact ⟨ret_bool HN.out.symm, rfl⟩
      · have HY := Lib.hid (cubTo_skip (K := K) (c := c) he)
        have hne : ((k &&& s : Nat) : Int) ≠ (k : Int) := by omega
        clear he
        generalize k &&& s = z at *
        go_wp2_with fail
        go_round
        case rel => exact ⟨k + 1, by omega, by go_num, by rw [HY.out]; exact HC.out⟩
        case measure => simp [intOf]; omega
    · obtain rfl : k = s + 1 := by omega
      go_wp2_with fail
      go_ret
      exact ⟨ret_bool HC.out.symm, rfl⟩

end Go.Proofs.YtnmilfkocheaiaaGreatDoor

namespace Go.Proofs.YtnmilfkocheaiaaGreatDoor
open Go.RowKit

/-- is c the corner of a cube along s? -/
def crn (ns : List Nat) (s c : Nat) : Bool := (c &&& s == 0) && cubTo (fun x => decide (x ∈ ns)) c s (s + 1)
def strTo (ns : List Nat) (s k : Nat) : Bool := (List.range k).any (fun j => crn ns s (ns.getD j 0))
def strg (ns : List Nat) (s : Nat) : Bool := strTo ns s ns.length
def strB (n : Int) (zs : List Int) (s : Int) : Bool := inB n zs s && strg (zs.map Int.toNat) s.toNat
theorem strB_bad {n : Int} {zs : List Int} {s : Int} (h : inB n zs s = false) : strB n zs s = false := by simp [strB, h]
theorem strB_in {n : Nat} {ns : List Nat} {s : Nat} (h : vldB n (toI ns) = true) (hs : setB n s = true) : strB n (toI ns) s = strg ns s := by
  simp [strB, inB, h, hs, toNat_toI]
theorem strTo_no {ns : List Nat} {s k : Nat} (h : crn ns s (ns.getD k 0) = false) : strTo ns s (k + 1) = strTo ns s k := by
  simp only [strTo, List.range_succ, List.any_append, List.any_cons, List.any_nil, Bool.or_false]
  rw [h, Bool.or_false]
theorem strTo_yes {ns : List Nat} {s k j : Nat} (h : crn ns s (ns.getD k 0) = true) (hj : k < j) : strTo ns s j = true := by
  simp only [strTo, List.any_eq_true, List.mem_range]
  exact ⟨k, hj, h⟩
theorem crn_mem {ns : List Nat} {s c : Nat} (h : crn ns s c = true) : c ∈ ns := by
  simp only [crn, Bool.and_eq_true, cubTo, List.all_eq_true, List.mem_range] at h
  have := h.2 0 (by omega)
  simpa using this
theorem strg_iff {ns : List Nat} {s : Nat} : strg ns s = true ↔ ∃ c ∈ ns, crn ns s c = true := by
  simp only [strg, strTo, List.any_eq_true, List.mem_range]
  constructor
  · rintro ⟨j, hj, h⟩
    exact ⟨_, getD_of_lt hj, h⟩
  · rintro ⟨c, hm, h⟩
    obtain ⟨j, hj, e⟩ := List.getElem_of_mem hm
    refine ⟨j, hj, ?_⟩
    rw [List.getD_eq_getElem?_getD, List.getElem?_eq_getElem hj]
    show crn ns s ns[j] = true
    rw [e]
    exact h


end Go.Proofs.YtnmilfkocheaiaaGreatDoor

namespace Go.Proofs.YtnmilfkocheaiaaGreatDoor
open Go.RowKit

/-- the class that is being made in block o -/
structure Out (n : Int) (v : Value) (o : Nat) (w : World) : Prop where
  at0 : w.cell? ⟨o, 0, none⟩ = some (.int .i64 n)
  at1 : w.cell? ⟨o, 1, none⟩ = some v
  free0 : w.frozen? ⟨o, 0, none⟩ = false
  free1 : w.frozen? ⟨o, 1, none⟩ = false

theorem Out.next {n : Int} {v : Value} {o B : Nat} {w w' : World} (h : Out n v o w) (hb : Below B w w') (ho : o < B) : Out n v o w' :=
  ⟨(hb.cell (p := ⟨o, 0, none⟩) ho).trans h.at0, (hb.cell (p := ⟨o, 1, none⟩) ho).trans h.at1, (hb.frozen (p := ⟨o, 0, none⟩) ho).trans h.free0, (hb.frozen (p := ⟨o, 1, none⟩) ho).trans h.free1⟩

theorem Out.kept {n : Int} {v : Value} {o : Nat} {r : Option Nat} {w w' : World} (h : Out n v o w) (hg : w.grownBy w' r) (hne : some o ≠ r) (hlt : o < w.heap.size) : Out n v o w' := by
  have hb := hg.block o hlt hne
  have hc : ∀ i, w'.cell? ⟨o, i, none⟩ = w.cell? ⟨o, i, none⟩ := fun i => World.cell?_of_block (w := w) (a := ⟨o, i, none⟩) hb
  have hf : ∀ i, w'.frozen? ⟨o, i, none⟩ = w.frozen? ⟨o, i, none⟩ := fun i => World.frozen?_of_block (w := w) (a := ⟨o, i, none⟩) hb
  exact ⟨(hc 0).trans h.at0, (hc 1).trans h.at1, (hf 0).trans h.free0, (hf 1).trans h.free1⟩

theorem Out.set {n : Int} {v : Value} {o : Nat} {w : World} (h : Out n v o w) (u : Value) : Out n u o (w.setCell ⟨o, 1, none⟩ u) :=
  ⟨(World.cell?_setCell_other _ _ _ _ (by simp)).trans h.at0, World.cell?_setCell_same _ _ _ h.at1, by rw [World.frozen?_setCell]; exact h.free0, by rw [World.frozen?_setCell]; exact h.free1⟩

set_option maxHeartbeats 3200000 in
set_option maxRecDepth 100000 in
theorem implClassOf (m : Nat) (hm : m ≤ 5) (b c : Nat) (K : Nat → Bool) (w : World) (h : Keys w b c K) :
    Calls Tryz.prog 112 #[.int .i64 (m : Int), .map (some b)] w (RetClass m (toI ((List.range (2 ^ m)).filter K)) w) := by
  have HK := Lib.hid h
  have hbw := h.lt
  have hw := wrap_pow m hm
  have HW := Lib.hid hw.1
  have hw2 := hw.2
  have HP := Lib.hid (show ((2 ^ m : Nat) : Int) = (2 : Int) ^ m by simp)
  clear h hw
  go_enter Tryz.func112, Tryz.ntmps112
  go_wp2_with fail
  have HK1 := Lib.hid (HK.out.below (B := w.heap.size) (w' := w.alloc (Obj.cells #[.int .i64 0, .slice none 0 0] 47)) (by go_grown) hbw)
  go_loopw [11] (fun i wr => ∃ (j : Nat) (a' : Option Addr) (c' : Nat), (j : Int) ≤ wrap64 (2 ^ m) ∧ i = .int .i64 j ∧ Out m (.slice a' ((List.range j).filter K).length c') (w.heap.size + 1) wr ∧ Ints (w.heap.size + 1 + 1) wr (.slice a' ((List.range j).filter K).length c') (toI ((List.range j).filter K)) ∧ Below (w.heap.size + 1) (w.alloc (Obj.cells #[.int .i64 0, .slice none 0 0] 47)) wr ∧ w.heap.size + 1 < wr.heap.size) (fun i _ => 40 - (intOf i).toNat)
  case atStart => exact ⟨0, none, 0, by omega, rfl, ⟨by simp [go_sem], by simp [go_sem], by simp [go_sem], by simp [go_sem]⟩, Ints.nil _ _, (Below.refl _ _).alloc (by simp) _, by simp⟩
  case round =>
    obtain ⟨j, a', c', hj, rfl, ho, hin, hbe, hsz⟩ := hrel
    have HO := Lib.hid ho
    have HIN := Lib.hid hin
    have HB := Lib.hid hbe
    clear ho hin hbe
    by_cases hlt : (j : Int) < wrap64 (2 ^ m)
    · have hlook := (HK1.out.below HB.out (by omega)).look j (by omega)
      have hfl := filt_le K j
      by_cases hp : K j = true
      · have HF := Lib.hid (filt_yes hp)
        have HAl := Lib.hid (toI_length ((List.range j).filter K))
        rw [hp] at hlook
        clear hp
        generalize (List.range j).filter K = A at *
        have e1 := HO.out.at1
        go_wp2_with (at_builtin; refine wpList_app rfl (.tmp 18) (.tmp 20) rfl (w.heap.size + 1 + 1) _ (toI A) rfl (by exact HIN.out.alloc _) _ _ _ [(j : Int)] rfl (src_cell (by rw [World.cell?_alloc_at _ _ _ _ rfl]; rfl)) (by rw [HAl.out]; omega) (by simp; omega) ?_; intro a1 c1 w3 hin3 hb3 hg3; have hb13 : Below (w.heap.size + 1 + 1) wr w3 := Below.trans ((Below.refl _ _).alloc (by omega) _) hb3; have O3 := Lib.hid (HO.out.next hb13 (by omega)); have H13 := Lib.hid hb13; have I3 := Lib.hid hin3; clear hin3 hb3 hg3 hb13; have f1 := O3.out.at1; have g1 := O3.out.free1)
        rw [HAl.out] at I3
        go_roundw
        case rel => exact ⟨j + 1, a1, c1, by omega, by go_num, by rw [HF.out, HAl.out, List.length_append]; exact O3.out.set _, by rw [HF.out, HAl.out, List.length_append, toI_append]; exact I3.out.setCell_below (by simp) _, (HB.out.trans (H13.out.mono (by omega))).setCell (by simp) _, by have := H13.out.size; simp; omega⟩
        case measure => simp [intOf]; omega
      · rw [Bool.not_eq_true] at hp
        have HF := Lib.hid (filt_no hp)
        rw [hp] at hlook
        clear hp
        generalize (List.range j).filter K = A at *
        go_wp2_with fail
        go_roundw
        case rel => exact ⟨j + 1, a', c', by omega, by go_num, by rw [HF.out]; exact HO.out, by rw [HF.out]; exact HIN.out, HB.out, hsz⟩
        case measure => simp [intOf]; omega
    · have hj2 : j = 2 ^ m := by have := HW.out; have := HP.out; omega
      have HJ := Lib.hid hj2
      clear hj2
      have OR := Lib.hid ((show Out 0 (.slice none 0 0) w.heap.size (w.alloc (Obj.cells #[.int .i64 0, .slice none 0 0] 47)) from ⟨by simp [go_sem], by simp [go_sem], by simp [go_sem], by simp [go_sem]⟩).next HB.out (by omega))
      have e0 := HO.out.at0
      have e1 := HO.out.at1
      have r0 := OR.out.at0
      have r1 := OR.out.at1
      have q0 := OR.out.free0
      have q1 := OR.out.free1
      go_wp2_with fail
      refine bodyPost_ret (v := .agg #[.int .i64 (m : Int), .slice a' ((List.range j).filter K).length c']) (by simp [results, Tryz.results112, go_sem, r0, r1]) rfl ?_
      rw [← HJ.out]
      have HAl := toI_length ((List.range j).filter K)
      refine ⟨a', c', by rw [HAl], ?_, ?_⟩
      · rw [HAl]
        refine Ints.mono (B := w.heap.size + 1 + 1) ?_ (by omega)
        repeat (refine Ints.setCell_below ?_ (by simp; try omega) _)
        exact HIN.out
      · have hb0 : Below w.heap.size w wr := Below.trans (b := w.alloc (Obj.cells #[.int .i64 0, .slice none 0 0] 47)) (by go_grown) (HB.out.mono (by omega))
        clear e0 e1 r0 r1 q0 q1
        go_grown

end Go.Proofs.YtnmilfkocheaiaaGreatDoor

namespace Go.Proofs.YtnmilfkocheaiaaGreatDoor
open Go.RowKit

/-- is x what f makes of one of the first k of ns? -/
def hasF (f : Nat → Nat) (ns : List Nat) (k x : Nat) : Bool := (List.range k).any (fun j => f (ns.getD j 0) == x)
theorem hasF_succ (f : Nat → Nat) (ns : List Nat) (k x : Nat) : hasF f ns (k + 1) x = (decide (x = f (ns.getD k 0)) || hasF f ns k x) := by
  simp only [hasF, List.range_succ, List.any_append, List.any_cons, List.any_nil, Bool.or_false]
  rw [Bool.or_comm]
  congr 1
  rw [Bool.eq_iff_iff]
  simp
  exact eq_comm
theorem hasF_all (f : Nat → Nat) (ns : List Nat) (x : Nat) : hasF f ns ns.length x = decide (x ∈ ns.map f) := by
  rw [Bool.eq_iff_iff]
  simp only [hasF, List.any_eq_true, List.mem_range, beq_iff_eq, decide_eq_true_eq, List.mem_map]
  constructor
  · rintro ⟨j, hj, rfl⟩
    exact ⟨_, getD_of_lt hj, rfl⟩
  · rintro ⟨c, hm, rfl⟩
    obtain ⟨j, hj, e⟩ := List.getElem_of_mem hm
    exact ⟨j, hj, by rw [List.getD_eq_getElem?_getD, List.getElem?_eq_getElem hj]; show f ns[j] = f c; rw [e]⟩
theorem range_tidy {m : Nat} (hm : m ≤ 5) {l : List Nat} (hl : ∀ x ∈ l, x < 2 ^ m) : (List.range (2 ^ m)).filter (fun x => decide (x ∈ l)) = tidyL l := by
  unfold tidyL
  apply flt_of ((range_asc _).filter _)
  intro x
  have := pow_le_32 hm
  simp only [List.mem_filter, List.mem_range, decide_eq_true_eq]
  constructor
  · rintro ⟨h1, h2⟩
    exact ⟨by omega, h2⟩
  · rintro ⟨h1, h2⟩
    exact ⟨hl x h2, h2⟩

def flipN (n : Int) (zs : List Int) (s : Int) : Int := if inB n zs s = true then n else 0
def flipL (n : Int) (zs : List Int) (s : Int) : List Int := if inB n zs s = true then toI (tidyL ((zs.map Int.toNat).map (fun t => t ^^^ s.toNat))) else []

theorem flipL_len (n : Int) (zs : List Int) (s : Int) : (flipL n zs s).length ≤ 1048576 := by
  unfold flipL
  split
  · rw [toI_length]
    have := flt_length (fun p => decide (p ∈ (zs.map Int.toNat).map (fun t => t ^^^ s.toNat)))
    unfold tidyL
    omega
  · simp


end Go.Proofs.YtnmilfkocheaiaaGreatDoor

namespace Go.Proofs.YtnmilfkocheaiaaGreatDoor
open Go.RowKit

/-- the other sets -/
def cmpl (m : Nat) (ns : List Nat) : List Nat := (List.range (2 ^ m)).filter (fun s => !decide (s ∈ ns))
theorem cmpl_eq (m : Nat) (ns : List Nat) : (List.range (2 ^ m)).filter (fun y => !hasTo ns ns.length y && decide (y < 2 ^ m)) = cmpl m ns := by
  unfold cmpl
  apply List.filter_congr
  intro y hy
  rw [hasTo_all, decide_eq_true (List.mem_range.1 hy), Bool.and_true]
theorem lt_succ_or (y k : Nat) : (decide (y = k) || decide (y < k)) = decide (y < k + 1) := by
  rw [Bool.eq_iff_iff]
  simp
  omega
def cmN (n : Int) (zs : List Int) : Int := if vldB n zs = true then n else 0
def cmL (n : Int) (zs : List Int) : List Int := if vldB n zs = true then toI (cmpl n.toNat (zs.map Int.toNat)) else []
theorem cmL_len (n : Int) (zs : List Int) : (cmL n zs).length ≤ 1048576 := by
  unfold cmL
  split
  · rename_i hv
    obtain ⟨m, ns, rfl, rfl, hc⟩ := vldB_cls hv
    rw [toI_length, Int.toNat_natCast]
    have := List.length_filter_le (fun s => !decide (s ∈ (toI ns).map Int.toNat)) (List.range (2 ^ m))
    have := pow_le_32 hc.pts
    unfold cmpl
    simp at *
    omega
  · simp

set_option maxHeartbeats 1600000 in
set_option maxRecDepth 100000 in
theorem implComplementClass (n : Int) (v : Value) (zs : List Int) (w : World) (h : Rd w v zs) :
    Calls Tryz.prog 80 #[.agg #[.int .i64 n, v]] w (RetClass (cmN n zs) (cmL n zs) w) := by
  have H := Lib.hid h
  obtain ⟨a, b, off, cap, rfl, h1, h3, h5⟩ := h
  by_cases hv : vldB n zs = true
  · obtain ⟨m, ns, rfl, rfl, hc⟩ := vldB_cls hv
    have hm := hc.pts
    have hw := wrap_pow m hm
    have HWq := Lib.hid hw.1
    have hw2 := hw.2
    have HP := Lib.hid (show ((2 ^ m : Nat) : Int) = (2 : Int) ^ m by simp)
    have HN := Lib.hid (show cmN m (toI ns) = m by rw [cmN, if_pos hv])
    have HT := Lib.hid (show cmL m (toI ns) = toI (cmpl m ns) by rw [cmL, if_pos hv, toNat_toI, Int.toNat_natCast])
    have HR := Lib.hid (cmpl_eq m ns)
    have HC := Lib.hid hc
    have hl := hc.length
    have HV := Lib.hid hv
    rw [toI_length] at h1 h3 h5 H ⊢
    have H5 := Lib.hid h5
    have H1 := Lib.hid h1
    have hmm := @run_makeMap Tryz.prog
    have OB := Lib.hid (show Out m (.slice a ns.length cap) w.heap.size ((w.alloc (Obj.cells #[.int .i64 (m : Int), .slice a ns.length cap] 47)).alloc (Obj.cells #[.int .i64 0, .slice none 0 0] 47)) from ⟨by simp [go_sem], by simp [go_sem], by simp [go_sem], by simp [go_sem]⟩)
    have OR := Lib.hid (show Out 0 (.slice none 0 0) (w.heap.size + 1) ((w.alloc (Obj.cells #[.int .i64 (m : Int), .slice a ns.length cap] 47)).alloc (Obj.cells #[.int .i64 0, .slice none 0 0] 47)) from ⟨by simp [go_sem], by simp [go_sem], by simp [go_sem], by simp [go_sem]⟩)
    clear hv hc h1 h5 hw
    go_enter Tryz.func80, Tryz.ntmps80
    go_wp2_with fail
    refine (implValid m _ (toI ns) _ (H.out.below (k := w.heap.size) (by go_grown) (Nat.le_refl _))).mono ?_
    rintro e w1 ⟨rfl, hb⟩
    rw [HV.out]
    have hs1 : w.heap.size + 1 < w1.heap.size := by have := hb.size; simp at this; omega
    have OB1 := Lib.hid (OB.out.next hb (by simp only [World.size_alloc]; omega))
    have OR1 := Lib.hid (OR.out.next hb (by simp only [World.size_alloc]; omega))
    have HB1 := Lib.hid (show Below w.heap.size w w1 from Below.trans (by go_grown) (hb.mono (by simp; omega)))
    clear hb
    have c0 := OB1.out.at0
    have c1 := OB1.out.at1
    have cm := (OB1.out.next (show Below w1.heap.size w1 (w1.alloc (.map #[] 0)) from (Below.refl _ _).alloc (Nat.le_refl _) _) (by omega)).at0
    go_wp2_with fail
    clear c0 c1 cm
    go_loopw [15] (fun i wr => ∃ k : Nat, (k : Int) ≤ wrap64 (2 ^ m) ∧ i = .int .i64 k ∧ Keys wr w1.heap.size k (fun y => decide (y < k)) ∧ Below w1.heap.size w1 wr) (fun i _ => 64 - (intOf i).toNat)
    case atStart => exact ⟨0, by omega, rfl, (Keys.made w1).congr (fun y _ => by simp), (Below.refl _ _).alloc (Nat.le_refl _) _⟩
    case round =>
      obtain ⟨k, hk, rfl, hks, hbe⟩ := hrel
      have HK := Lib.hid hks
      have HBE := Lib.hid hbe
      clear hks hbe
      by_cases hlt : (k : Int) < wrap64 (2 ^ m)
      · go_wp2_with (at_mapUpdate; refine wpList_keys_put _ rfl (.tmp 18) (.tmp 19) _ rfl w1.heap.size k _ rfl HK.out (by omega) k (by omega) rfl rfl ?_; intro w2 hk2 hg2)
        have HK2 := Lib.hid hk2
        have HB2 := Lib.hid (HBE.out.grown hg2 HBE.out.size (fun j hj => by cases hj; omega))
        clear hk2 hg2
        go_roundw
        case rel => exact ⟨k + 1, by omega, by go_num, HK2.out.congr (fun y _ => lt_succ_or y k), HB2.out⟩
        case measure => simp [intOf]; omega
      · have HKe := Lib.hid (show k = 2 ^ m by have := HWq.out; have := HP.out; omega)
        have OB2 := Lib.hid (OB1.out.next HBE.out (by omega))
        have OR2 := Lib.hid (OR1.out.next HBE.out hs1)
        have hz2 : w1.heap.size < wr.heap.size := HK.out.lt
        have HB2 := Lib.hid (HB1.out.trans (HBE.out.mono (by omega)))
        have d0 := OB2.out.at0
        have d1 := OB2.out.at1
        go_wp2_with fail
        clear d0 d1
        go_loopw [24] (fun i wq => ∃ j : Nat, j ≤ ns.length ∧ i = .int .i64 j ∧ Keys wq w1.heap.size k (fun y => !hasTo ns j y && decide (y < k)) ∧ Below w1.heap.size wr wq) (fun i _ => ns.length - (intOf i).toNat)
        case atStart => exact ⟨0, Nat.zero_le _, rfl, HK.out.congr (fun y _ => by simp [hasTo]), Below.refl _ _⟩
        case round =>
          obtain ⟨j, hj, rfl, hkq, hbq⟩ := hrel
          have HKq := Lib.hid hkq
          have HBq := Lib.hid hbq
          clear hkq hbq
          by_cases hjl : j < ns.length
          · obtain ⟨rfl, hbl⟩ := H1.out (by omega)
            have hcx := (HBq.out.cell (p := ⟨b, off + j, none⟩) (by show b < w1.heap.size; omega)).trans ((HB2.out.cell (p := ⟨b, off + j, none⟩) hbl).trans (H5.out j (by omega)))
            rw [toI_getD] at hcx
            have hx := HC.out.lt32 _ (getD_of_lt hjl)
            have HS := Lib.hid (hasTo_succ ns j)
            generalize ns.getD j 0 = x at *
            go_wp2_with (at_delete; refine wpList_keys_del _ rfl (.tmp 28) (.tmp 29) rfl w1.heap.size k _ rfl HKq.out x (by omega) rfl ?_; intro w3 hk3 hg3)
            have HK3 := Lib.hid hk3
            have HB3 := Lib.hid (HBq.out.grown hg3 (by have := HBq.out.size; omega) (fun j hj => by cases hj; omega))
            clear hk3 hg3
            go_roundw
            case rel => exact ⟨j + 1, by omega, by go_num, HK3.out.congr (fun y _ => by rw [HS.out y, Bool.not_or, Bool.and_assoc]), HB3.out⟩
            case measure => simp [intOf]; omega
          · obtain rfl : j = ns.length := by omega
            have hzq := HBq.out.size
            have OB3 := Lib.hid (OB2.out.next HBq.out (by omega))
            have OR3 := Lib.hid (OR2.out.next HBq.out (by omega))
            have HB3 := Lib.hid (HB2.out.trans (HBq.out.mono (by omega)))
            have d0 := OB3.out.at0
            have d1 := OB3.out.at1
            go_wp2_with fail
            refine (implClassOf m hm _ _ _ _ HKq.out).mono ?_
            rintro e w4 ⟨a4, c4, rfl, hin4, hb4⟩
            rw [HKe.out] at hin4 ⊢
            rw [HR.out] at hin4 ⊢
            have hz4 := hb4.size
            have OR4 := Lib.hid (OR3.out.next hb4 (by omega))
            have HIN := Lib.hid hin4
            have HB4 := Lib.hid (show Below w.heap.size w w4 from HB3.out.trans (hb4.mono (by omega)))
            clear hin4 hb4 d0 d1
            have r0 := OR4.out.at0
            have r1 := OR4.out.at1
            have q0 := OR4.out.free0
            have q1 := OR4.out.free1
            go_wp2_with fail
            refine bodyPost_ret (v := .agg #[.int .i64 (m : Int), .slice a4 (toI (cmpl m ns)).length c4]) (by simp [results, Tryz.results80, go_sem, r0, r1]) rfl ?_
            rw [HN.out, HT.out]
            refine ⟨a4, c4, rfl, ?_, ?_⟩
            · refine Ints.mono (B := _) ?_ (show w.heap.size ≤ wr.heap.size by omega)
              repeat (refine Ints.setCell_below ?_ (by simp; omega) _)
              exact HIN.out
            · have hb0 := HB4.out
              clear r0 r1 q0 q1
              go_grown
  · have HN := Lib.hid (show cmN n zs = 0 by rw [cmN, if_neg hv])
    have HT := Lib.hid (show cmL n zs = [] by rw [cmL, if_neg hv])
    rw [Bool.not_eq_true] at hv
    have HV := Lib.hid hv
    clear hv
    go_enter Tryz.func80, Tryz.ntmps80
    go_wp2_with fail
    refine (implValid n _ zs _ (H.out.below (k := w.heap.size) (by go_grown) (Nat.le_refl _))).mono ?_
    rintro e w1 ⟨rfl, hb⟩
    rw [HV.out]
    obtain ⟨hc, hf⟩ := bcell hb
    have Hb := Lib.hid hb
    clear hb
    go_wp2_with fail
    refine bodyPost_ret (v := .agg #[.int .i64 0, .slice none 0 0]) (by simp [results, Tryz.results80, go_sem, hc]) rfl ?_
    rw [HN.out, HT.out]
    refine ⟨none, 0, rfl, Ints.nil _ _, ?_⟩
    have hb0 : Below w.heap.size w w1 := Below.trans (by go_grown) (Hb.out.mono (by simp; omega))
    clear hc hf
    go_grown

end Go.Proofs.YtnmilfkocheaiaaGreatDoor
