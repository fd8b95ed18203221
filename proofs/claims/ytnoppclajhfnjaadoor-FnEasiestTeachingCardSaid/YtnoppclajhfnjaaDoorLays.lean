/- The layers of a family, one after the other: layers, an iterator of two values. Conditions: a class in order; the table setsWith is laid. -/
import Derived.Test.YtnoppclajhfnjaaDoorFirstT
import Derived.Test.YtnoppclajhfnjaaDoorLayP
import Derived.Test.YtnoppclajhfnjaaDoorLeastM
import Derived.Test.YtnoppclajhfnjaaDoorMem
namespace Go.Proofs.YtnoppclajhfnjaaDoor
open Go.RowKit Go.Shelf
attribute [local go_sem] Oper.semAt_some

/-- a layer that is yielded: its slice, the layer and what it is taught among -/
structure Ly where
  v : Value
  p : List Nat × List Nat
abbrev encL (x : Ly) : Array Value := #[x.v, .int .u32 (fm x.p.2)]
/-- what a round keeps -/
def KpL (x : Ly) (A B : World) : Prop := (Rd A x.v (toI x.p.1) → Rd B x.v (toI x.p.1)) ∧ (SW A → SW B)
/-- what is known of a layer -/
def GL (l : List Nat) (pre : List Ly) (x : Ly) (W0 W1 : World) : Prop := Ints W0.heap.size W1 x.v (toI x.p.1) ∧ (pre ++ [x]).map Ly.p <+: lys l
theorem kpL_t (x : Ly) {A B C : World} (h : KpL x A B) (k : KpL x B C) : KpL x A C := ⟨fun e => k.1 (h.1 e), fun e => k.2 (h.2 e)⟩
theorem kpL_b {n0 : Nat} (x : Ly) (W : World) (l : Nat) (o o' : Obj) (_ : n0 ≤ l) (h : W.heap[l]? = some o) (hc : o.isCells = false) (_ : o.isWalk = false) : KpL x W (W.putObj l o') := by
  have key : ∀ {a : Addr} {u : Value}, W.cell? a = some u → (W.putObj l o').cell? a = some u := fun e => cell_kept e (grownBy_putObj' W l o') (fun r er => by cases er; exact ⟨o, h, hc⟩)
  constructor
  · rintro ⟨a, b, off, cap, e, h1, h3, h5⟩
    exact ⟨a, b, off, cap, e, fun h0 => ⟨(h1 h0).1, by rw [World.putObj_size]; exact (h1 h0).2⟩, h3, fun j hj => key (h5 j hj)⟩
  · rintro ⟨h1, h2⟩
    exact ⟨by rw [World.putObj_size]; exact h1, fun x hx => key (h2 x hx)⟩
theorem kpL_below (x : Ly) {W W' : World} (h : Below W.heap.size W W') : KpL x W W' := ⟨fun e => e.below h (Nat.le_refl _), fun e => e.next h⟩
theorem fm_less (l k : List Nat) : bits .andNot .u32 (fm l) (fm k) = fm (l.filter (fun t => !decide (t ∈ k))) := by
  rw [fm, fm, u32_andNot, fm]
  congr 2
  apply famB_ext
  intro s hs
  rw [BitVec.getLsbD_and, BitVec.getLsbD_not, famB_bit l hs, famB_bit k hs, Bool.eq_iff_iff]
  simp [hs]
/-- how many sets a family has -/
def famLen (F : Int) : Nat := ((List.range 32).filter (fun j => F.toNat.testBit j)).length
theorem famLen_fm {m : Nat} {l : List Nat} (h : Cls m l) : famLen (fm l) = l.length := by
  have e : (List.range 32).filter (fun j => (fm l).toNat.testBit j) = l := by
    refine asc_ext ((range_asc 32).filter _) h.asc (fun x => ?_)
    rw [List.mem_filter, List.mem_range]
    have hb : ∀ x, x < 32 → (fm l).toNat.testBit x = decide (x ∈ l) := fun x hx => by
      rw [← famB_bit l hx, fm, Int.toNat_natCast, BitVec.getLsbD]
    constructor
    · rintro ⟨h1, h2⟩; rw [hb x h1] at h2; simpa using h2
    · intro hx; exact ⟨h.lt32 x hx, by rw [hb x (h.lt32 x hx)]; simpa using hx⟩
  rw [famLen, e]
theorem lys_pre {l cur : List Nat} {P : List (List Nat × List Nat)} (h : lys l = P ++ lys cur) (hne : cur ≠ []) : (P ++ [(lay cur, cur)]) <+: lys l := by
  rw [h, lys_cons hne]
  exact ⟨lys (rst cur), by simp⟩

set_option maxRecDepth 100000 in
set_option maxHeartbeats 6400000 in
theorem layStops (m : Nat) (l : List Nat) (hc : Cls m l) (n : Nat) (hn : 1 ≤ n) (w : World) (hsw : SW w) :
    SeqV Fence.wide n Tryd.prog 83 #[.int .u32 (fm l)] #[] encL KpL (GL l) (fun xs => xs.map Ly.p = lys l) (fun pre => pre.map Ly.p <+: lys l) 32 w := fun l0 J Jx W hW hJ hJx hY h0 => by
  have hswW := hsw.next hW
  have hll := lys_len l
  have hl32 := hc.length
  refine callsIn_of_wp Tryd.func83 rfl trivial ?_ rfl
  simp only [Tryd.ntmps83, List.size_toArray, List.length_cons, List.length_nil, Nat.reduceAdd, Nat.reduceSub, Array.replicate_succ, Array.replicate_zero, List.push_toArray, List.append_toArray, List.nil_append, List.cons_append]
  have HLL := Lib.hid hll
  clear hll
  gi_wp2
  gi_loopw [4] (fun f wr => ∃ (pre : List Ly) (cur : List Nat), f = .int .u32 (fm cur) ∧ Cls m cur ∧ lys l = pre.map Ly.p ++ lys cur ∧ J pre wr ∧ SW wr) (fun f _ => famLen (intOf f))
  case atStart => exact ⟨[], l, rfl, hc, rfl, h0, hswW⟩
  case round =>
    obtain ⟨pre, cur, rfl, hcc, hl, hJr, hsr⟩ := hrel
    have HC := Lib.hid hcc
    have HL := Lib.hid hl
    have HSr := Lib.hid hsr
    clear hl hsr
    by_cases hne : cur = []
    · subst hne
      rw [fm_nil]
      gi_wp2
      go_end0
      exact ⟨⟨_, rfl⟩, .inl ⟨pre, by rw [HL.out, lys_nil, List.append_nil], hJr⟩⟩
    · have hF1 := (fm_ne hcc.lt32).2 hne
      have HPre := Lib.hid (lys_pre HL.out hne)
      have hpl : pre.length < 32 := by
        have h1 := HPre.out.length_le
        rw [List.length_append, List.length_map, List.length_singleton] at h1
        have := HLL.out
        omega
      have HLM := Lib.hid (fun w0 (h0 : SW w0) => implLeastM (fm cur) (fun t => tnI t cur) 101 #[.int .u32 (fm cur)] #[] swc (memF cur) (tcR_len _ 32) w0 (enters_of Tryd.func101 (by kernel_rfl) rfl)
        (fun n w1 hn _ => memStops (fun _ => Kcs swc) n hn cur w1)
        (Lib.hid (fun x W hcs => implTnF cur x.val hcc.lt32 hcc.asc x.isLt W (cs_sw hcs))) (sw_cs h0))
      rw [memF_val hcc.lt32 hcc.asc] at HLM
      have HLay := Lib.hid (show (lmn (fun t => tnI t cur) cur).1 = lay cur from rfl)
      rw [HLay.out] at HLM
      have hly32 : ∀ u ∈ lay cur, u < 32 := fun u hu => hcc.lt32 u (lay_sub hu)
      have HFa := Lib.hid (fun v w0 h0 => implFamilyOf 0 v (lay cur) hly32 w0 h0)
      have HAN := Lib.hid (show bits .andNot .u32 (fm cur) (fm (lay cur)) = fm (rst cur) from fm_less cur (lay cur))
      have HM := Lib.hid (show famLen (fm (rst cur)) < famLen (fm cur) by rw [famLen_fm hcc, famLen_fm (rst_cls hcc)]; exact rst_len hne)
      have HNX := Lib.hid (show lys cur = (lay cur, cur) :: lys (rst cur) from lys_cons hne)
      have HY := Lib.hid (fun (a1 : Option Addr) (c1 : Nat) W1 (hb1 : Below wr.heap.size wr W1) (hin1 : Ints wr.heap.size W1 (.slice a1 (toI (lay cur)).length c1) (toI (lay cur))) =>
        hY pre ⟨.slice a1 (toI (lay cur)).length c1, (lay cur, cur)⟩ wr W1 hJr hb1 (hJ _ wr W1 none hJr (grown_none hb1) (fun r e => by cases e)) ⟨hin1, by rw [List.map_append]; exact HPre.out⟩ hpl)
      have HCr := Lib.hid (rst_cls hcc)
      have hd1 : (fm cur == 0) = false := by simpa using hF1
      have hd2 : (fm cur != 0) = true := by simpa using hF1
      have HFC := Lib.hid (show fm cur = fm cur from rfl)
      clear hne hly32 hF1 HLay hcc HC
      obtain ⟨Fr, hFr⟩ : ∃ Fr, Fr = fm (rst cur) := ⟨_, rfl⟩
      obtain ⟨Fl, hFl⟩ : ∃ Fl, Fl = fm (lay cur) := ⟨_, rfl⟩
      rw [← hFr] at HAN HM
      rw [← hFl] at HAN HFa
      have HFr := Lib.hid hFr
      clear hFr hFl
      have han := HAN.out
      gi_wp2_with (first | (refine ⟨trivial, ?_⟩; gi_at_call 112; refine (callsIn_wide.2 (HLM.out _ HSr.out)).mono ?_; rintro e W1 ⟨a1, c1, rfl, hin1, hb1⟩; have R1 := Lib.hid hin1.rd; have S1 := Lib.hid (HSr.out.next hb1); obtain ⟨fn, tmps, assign, body, hy0, hR⟩ := HY.out a1 c1 W1 hb1 hin1; have hy : (Instr.yield l0 #[.slice a1 (toI (lay cur)).length c1, .int .u32 (fm cur)]).run Tryd.prog W1 = _ := hy0; clear hy0 hin1 hb1))
      refine hR.mono ?_
      rintro e W3 (⟨rfl, hJ3, hk3⟩ | ⟨rfl, hJx3⟩)
      · have R3 := Lib.hid (hk3.1 R1.out)
        have S3 := Lib.hid (hk3.2 S1.out)
        clear hk3
        gi_wp2_with (first | (refine ⟨trivial, ?_⟩; gi_at_call 59; refine (callsIn_wide.2 (HFa.out _ _ R3.out)).mono ?_; rintro e W4 ⟨rfl, hb4⟩; have J4 := hJ _ W3 W4 none hJ3 (grown_none hb4) (fun r e => by cases e); have S4 := Lib.hid (S3.out.next hb4); clear hb4))
        go_roundw
        case rel => exact ⟨_, rst cur, by rw [HFr.out], HCr.out, by rw [HL.out, HNX.out, List.map_append, List.append_assoc]; rfl, J4, S4.out⟩
        case measure => exact HM.out
      · gi_wp2
        refine bodyPost_ret (results_none rfl _ _ _) rfl ?_
        exact ⟨⟨_, rfl⟩, .inr ⟨_, by rw [List.map_append]; exact HPre.out, hJx3⟩⟩

end Go.Proofs.YtnoppclajhfnjaaDoor
