/- The program's search: how many steps lead from a node to each. Conditions: the nodes are those of a valid class. -/
import Derived.Deep.Cut
import Derived.Test.YtgldckgecoijfaaQue
import Derived.Test.YtgldckgecoijfaaStepS
namespace Go.Proofs.Ytgldckgecoijfaa
open Go.RowKit

/-- a table of 32 numbers -/
def tbC (f : Nat → Int) : Array Value := ((List.range 32).map (fun t => Value.int .i64 (f t))).toArray
theorem tbC_size (f : Nat → Int) : (tbC f).size = 32 := by simp [tbC]
theorem tbC_one (f : Nat → Int) : (tbC f).all (·.oneCell') = true := by simp [tbC, Value.oneCell']
theorem infoT (f : Nat → Int) : (Try.prog.info? 57).map (·.size) = some (tbC f).size := by rw [tbC_size]; kernel_rfl
theorem Pb.of_zero {w : World} : Pb (w.alloc (.cells #[.int .i64 0, .int .i64 0, .int .i64 0, .int .i64 0, .int .i64 0, .int .i64 0, .int .i64 0, .int .i64 0, .int .i64 0, .int .i64 0, .int .i64 0, .int .i64 0, .int .i64 0, .int .i64 0, .int .i64 0, .int .i64 0, .int .i64 0, .int .i64 0, .int .i64 0, .int .i64 0, .int .i64 0, .int .i64 0, .int .i64 0, .int .i64 0, .int .i64 0, .int .i64 0, .int .i64 0, .int .i64 0, .int .i64 0, .int .i64 0, .int .i64 0, .int .i64 0] 57)) w.heap.size 32 (fun _ => .int .i64 0) 57 := heap_alloc_new w _
/-- is a number below 0 in a cell? -/
def negC : Option Value → Bool
  | some (.int _ x) => decide (x < 0)
  | _ => false
def lenV : Value → Nat
  | .slice _ n _ => n
  | _ => 0
/-- how many are not reached -/
def unrd (w : World) (h : Nat) : Nat := cnt 5 (fun t => negC (w.cell? ⟨h, t, none⟩))
theorem unrd_eq {R : Nat → Nat → Prop} {s i : Nat} {st : Nat → Int} {q L : List Nat} (S : Srch R s st q i L) (hq : ∀ t ∈ q, t < 32) {w : World} {h : Nat} {T : TypeId} (P : Pb w h 32 (fun t => .int .i64 (st t)) T) : unrd w h + q.length = 32 := by
  have h1 := cnt_not 5 (inF q)
  rw [cnt_nodup (n := 5) hq S.nodup] at h1
  have h2 : unrd w h = cnt 5 (notF (inF q)) := cnt_congr (fun t ht => by
    have hc := (P.cell (show t < 32 from ht)).1
    simp only [hc, negC, notF, inF]
    by_cases hm : t ∈ q
    · obtain ⟨k, e, _⟩ := S.path t hm
      rw [decide_eq_true hm, e]
      simp
    · rw [decide_eq_false hm, S.out t hm]
      rfl)
  omega
theorem drop_cons {l : List Nat} {j : Nat} (h : j < l.length) : l.drop j = l.getD j 0 :: l.drop (j + 1) := by
  rw [List.drop_eq_getElem_cons h, List.getD_eq_getElem?_getD, List.getElem?_eq_getElem h]; rfl

set_option maxHeartbeats 6400000 in
set_option maxRecDepth 100000 in
theorem implDistances (bl : Nat → Nat) (m : Nat) (ns : List Nat) (nv : Value) (s : Nat) (w : World) (hc : Cls m ns) (hN : Nds bl w nv ns m) (hs : s ∈ ns) :
    Calls Try.prog 56 #[.pointer (some ⟨bl s, 0, none⟩)] w fun e w' => ∃ st : Nat → Int, e = .returned (.agg (tbC st)) ∧ (∀ t, Dst (fun u v => v ∈ nearTo ns u m) s t (st t)) ∧ Below w.heap.size w w' := by
  have hs32 := hc.lt32 s hs
  have HN := Lib.hid hN
  have HC := Lib.hid hc
  have HSm := Lib.hid hs
  obtain ⟨hbs, hbs0⟩ := hN.set s hs
  have HS0 := Lib.hid hbs0
  clear hN hc hs hbs0
  have P0 := Lib.hid (Pb.of_zero (w := w))
  go_enter Try.func56, Try.ntmps56
  go_upto_region 1 with (fail)
  have Y0 := Lib.hid ((Below.refl w.heap.size w).alloc (Nat.le_refl _) (.cells #[.int .i64 0, .int .i64 0, .int .i64 0, .int .i64 0, .int .i64 0, .int .i64 0, .int .i64 0, .int .i64 0, .int .i64 0, .int .i64 0, .int .i64 0, .int .i64 0, .int .i64 0, .int .i64 0, .int .i64 0, .int .i64 0, .int .i64 0, .int .i64 0, .int .i64 0, .int .i64 0, .int .i64 0, .int .i64 0, .int .i64 0, .int .i64 0, .int .i64 0, .int .i64 0, .int .i64 0, .int .i64 0, .int .i64 0, .int .i64 0, .int .i64 0, .int .i64 0] 57))
  have hs1 : w.heap.size < (w.alloc (.cells #[.int .i64 0, .int .i64 0, .int .i64 0, .int .i64 0, .int .i64 0, .int .i64 0, .int .i64 0, .int .i64 0, .int .i64 0, .int .i64 0, .int .i64 0, .int .i64 0, .int .i64 0, .int .i64 0, .int .i64 0, .int .i64 0, .int .i64 0, .int .i64 0, .int .i64 0, .int .i64 0, .int .i64 0, .int .i64 0, .int .i64 0, .int .i64 0, .int .i64 0, .int .i64 0, .int .i64 0, .int .i64 0, .int .i64 0, .int .i64 0, .int .i64 0, .int .i64 0] 57)).heap.size := by simp
  generalize w.alloc (.cells #[.int .i64 0, .int .i64 0, .int .i64 0, .int .i64 0, .int .i64 0, .int .i64 0, .int .i64 0, .int .i64 0, .int .i64 0, .int .i64 0, .int .i64 0, .int .i64 0, .int .i64 0, .int .i64 0, .int .i64 0, .int .i64 0, .int .i64 0, .int .i64 0, .int .i64 0, .int .i64 0, .int .i64 0, .int .i64 0, .int .i64 0, .int .i64 0, .int .i64 0, .int .i64 0, .int .i64 0, .int .i64 0, .int .i64 0, .int .i64 0, .int .i64 0, .int .i64 0] 57) = w1 at *
  go_upto_region 2 with (fail)
  have P1 := Lib.hid (Pb.of_zero (w := w1))
  have Y1 := Lib.hid (Y0.out.alloc (by omega) (.cells #[.int .i64 0, .int .i64 0, .int .i64 0, .int .i64 0, .int .i64 0, .int .i64 0, .int .i64 0, .int .i64 0, .int .i64 0, .int .i64 0, .int .i64 0, .int .i64 0, .int .i64 0, .int .i64 0, .int .i64 0, .int .i64 0, .int .i64 0, .int .i64 0, .int .i64 0, .int .i64 0, .int .i64 0, .int .i64 0, .int .i64 0, .int .i64 0, .int .i64 0, .int .i64 0, .int .i64 0, .int .i64 0, .int .i64 0, .int .i64 0, .int .i64 0, .int .i64 0] 57))
  have P01 := Lib.hid (P0.out.alloc (.cells #[.int .i64 0, .int .i64 0, .int .i64 0, .int .i64 0, .int .i64 0, .int .i64 0, .int .i64 0, .int .i64 0, .int .i64 0, .int .i64 0, .int .i64 0, .int .i64 0, .int .i64 0, .int .i64 0, .int .i64 0, .int .i64 0, .int .i64 0, .int .i64 0, .int .i64 0, .int .i64 0, .int .i64 0, .int .i64 0, .int .i64 0, .int .i64 0, .int .i64 0, .int .i64 0, .int .i64 0, .int .i64 0, .int .i64 0, .int .i64 0, .int .i64 0, .int .i64 0] 57))
  have hs2 : w1.heap.size < (w1.alloc (.cells #[.int .i64 0, .int .i64 0, .int .i64 0, .int .i64 0, .int .i64 0, .int .i64 0, .int .i64 0, .int .i64 0, .int .i64 0, .int .i64 0, .int .i64 0, .int .i64 0, .int .i64 0, .int .i64 0, .int .i64 0, .int .i64 0, .int .i64 0, .int .i64 0, .int .i64 0, .int .i64 0, .int .i64 0, .int .i64 0, .int .i64 0, .int .i64 0, .int .i64 0, .int .i64 0, .int .i64 0, .int .i64 0, .int .i64 0, .int .i64 0, .int .i64 0, .int .i64 0] 57)).heap.size := by simp
  generalize w1.alloc (.cells #[.int .i64 0, .int .i64 0, .int .i64 0, .int .i64 0, .int .i64 0, .int .i64 0, .int .i64 0, .int .i64 0, .int .i64 0, .int .i64 0, .int .i64 0, .int .i64 0, .int .i64 0, .int .i64 0, .int .i64 0, .int .i64 0, .int .i64 0, .int .i64 0, .int .i64 0, .int .i64 0, .int .i64 0, .int .i64 0, .int .i64 0, .int .i64 0, .int .i64 0, .int .i64 0, .int .i64 0, .int .i64 0, .int .i64 0, .int .i64 0, .int .i64 0, .int .i64 0] 57) = w2 at *
  clear Y0 P0
  go_wp2_with fail
  go_loopw [9] (fun i wr => ∃ k : Nat, k ≤ 32 ∧ i = .int .i64 k ∧ Pb wr w1.heap.size 32 (fun t => .int .i64 (if t < k then -1 else 0)) 57 ∧ Pb wr w.heap.size 32 (fun _ => .int .i64 0) 57 ∧ Below w.heap.size w wr) (fun i _ => 32 - (intOf i).toNat)
  case atStart => exact ⟨0, Nat.zero_le _, rfl, P1.out.congr (fun j _ => by simp), P01.out, Y1.out⟩
  case round =>
    obtain ⟨k, hk, rfl, hp1, hp0, hbe⟩ := hrel
    have A1 := Lib.hid hp1
    have A0 := Lib.hid hp0
    have BE := Lib.hid hbe
    have hlt1 := hp1.lt
    clear hp1 hp0 hbe P1 P01 Y1
    by_cases hk32 : k < 32
    · obtain ⟨hf1, hf2⟩ := A1.out.cell hk32
      have hkI : (k : Int) < 32 := by omega
      go_wp2_with fail
      go_roundw
      case rel =>
        refine ⟨k + 1, by omega, by go_num, (A1.out.set k _).congr (fun t _ => ?_), A0.out.other (by omega) _, BE.out.setCell (by show w.heap.size ≤ w1.heap.size; omega) _⟩
        by_cases e : t = k
        · subst e; simp
        · by_cases h2 : t < k
          · simp [e, h2, show t < k + 1 by omega]
          · simp [e, h2, show ¬ t < k + 1 by omega]
      case measure => simp [intOf]; omega
    · have e32 : k = 32 := by omega
      rw [e32] at A1
      clear e32
      obtain ⟨hf1, hf2⟩ := A1.out.cell hs32
      have hb0 := (BE.out.cell (p := ⟨bl s, 0, none⟩) hbs).trans HS0.out
      have A3 := Lib.hid (((A1.out.set s (.int .i64 0)).alloc (.cells #[ndp (bl s)] 58)).congr (g := fun t => .int .i64 (if t = s then 0 else -1)) (fun t ht => by
        by_cases e : t = s
        · simp [e]
        · simp [e, ht]))
      have A4 := Lib.hid ((A0.out.other (show w.heap.size ≠ w1.heap.size by omega) (j := s) (.int .i64 0)).alloc (.cells #[ndp (bl s)] 58))
      have B4 := Lib.hid ((BE.out.setCell (p := ⟨w1.heap.size, s, none⟩) (by show w.heap.size ≤ w1.heap.size; omega) (.int .i64 0)).alloc (by simp [World.setCell]; omega) (.cells #[ndp (bl s)] 58))
      have Q4 := Lib.hid (Qc.one (w := wr.setCell ⟨w1.heap.size, s, none⟩ (.int .i64 0)) (p := bl s))
      have hz3 : (wr.setCell ⟨w1.heap.size, s, none⟩ (.int .i64 0)).heap.size = wr.heap.size := by simp [World.setCell]
      rw [hz3] at Q4
      have hsI : (s : Int) < 32 := by omega
      go_wp2_with fail
      replace A3 := Lib.hid (show Pb ((wr.setCell ⟨w1.heap.size, s, none⟩ (.int .i64 0)).alloc (.cells #[.pointer (some ⟨bl s, 0, none⟩)] 58)) _ _ _ _ from A3.out)
      replace A4 := Lib.hid (show Pb ((wr.setCell ⟨w1.heap.size, s, none⟩ (.int .i64 0)).alloc (.cells #[.pointer (some ⟨bl s, 0, none⟩)] 58)) _ _ _ _ from A4.out)
      replace B4 := Lib.hid (show Below _ _ ((wr.setCell ⟨w1.heap.size, s, none⟩ (.int .i64 0)).alloc (.cells #[.pointer (some ⟨bl s, 0, none⟩)] 58)) from B4.out)
      replace Q4 := Lib.hid (show Qc ((wr.setCell ⟨w1.heap.size, s, none⟩ (.int .i64 0)).alloc (.cells #[.pointer (some ⟨bl s, 0, none⟩)] 58)) _ _ _ _ from Q4.out)
      generalize (wr.setCell ⟨w1.heap.size, s, none⟩ (.int .i64 0)).alloc (.cells #[.pointer (some ⟨bl s, 0, none⟩)] 58) = w3 at *
      obtain ⟨h0, hh0⟩ : ∃ h0, h0 = w.heap.size := ⟨_, rfl⟩
      obtain ⟨h1, hh1⟩ : ∃ h1, h1 = w1.heap.size := ⟨_, rfl⟩
      obtain ⟨g0, hg0⟩ : ∃ g0, g0 = wr.heap.size := ⟨_, rfl⟩
      rw [← hh1] at A3 hlt1 hs1 ⊢
      rw [← hg0] at Q4 hlt1 ⊢
      have Hh0 := Lib.hid hh0
      clear hh1 hg0 A1 A0 BE hf1 hf2 hb0 hz3 hs2
      go_loopw [5] (fun l wr => ∃ (q : List Nat) (j r g off cap : Nat) (st : Nat → Int), l = .slice (some ⟨g, off, none⟩) r cap ∧ r + j = q.length ∧ Srch (fun u v => v ∈ nearTo ns u m) s st q j [] ∧ (∀ t ∈ q, t ∈ ns) ∧ (∀ b, b < q.length → st (q.getD b 0) ≤ (b : Int)) ∧ Qc wr g off cap ((q.drop j).map bl) ∧ h1 < g ∧ Pb wr h1 32 (fun t => .int .i64 (st t)) 57 ∧ Pb wr w.heap.size 32 (fun _ => .int .i64 0) 57 ∧ Below w.heap.size w wr) (fun l wr => unrd wr h1 + lenV l)
      case atStart =>
        refine ⟨[s], 0, 1, g0, 0, 1, _, rfl, rfl, Srch.first _ s, fun t ht => ?_, fun b hb => ?_, Q4.out, hlt1, A3.out, A4.out, B4.out⟩
        · rw [List.mem_singleton] at ht; rw [ht]; exact HSm.out
        · rw [List.length_singleton] at hb
          obtain rfl : b = 0 := by omega
          rw [show [s].getD 0 0 = s from rfl, if_pos rfl]
          omega
      case round =>
        obtain ⟨q, j, r, g, off, cap, st, rfl, hrj, hsr, hqn, hqb, hqc, hg1, hp1, hp0, hbe⟩ := hrel
        have SR := Lib.hid hsr
        have QN := Lib.hid hqn
        have QB := Lib.hid hqb
        have QC := Lib.hid hqc
        have A1 := Lib.hid hp1
        have A0 := Lib.hid hp0
        have BE := Lib.hid hbe
        have hq32 := few_32 hsr.nodup (fun t ht => HC.out.lt32 t (hqn t ht))
        have UE := Lib.hid (unrd_eq hsr (fun t ht => HC.out.lt32 t (hqn t ht)) hp1)
        clear hsr hqn hqb hqc hp1 hp0 hbe A3 A4 B4 Q4
        by_cases hr0 : 0 < r
        · have hjl : j < q.length := by omega
          have hum : q.getD j 0 ∈ q := getD_of_lt hjl
          have hun := QN.out _ hum
          obtain ⟨u, hu⟩ : ∃ u, u = q.getD j 0 := ⟨_, rfl⟩
          have QD := Lib.hid (show (q.drop j).map bl = bl u :: (q.drop (j + 1)).map bl by rw [drop_cons hjl, List.map_cons, ← hu])
          rw [← hu] at hun
          have HU := Lib.hid hu
          rw [QD.out] at QC
          obtain ⟨hgl, hcl, hcc, -⟩ := QC.out
          have hq0 : wr.cell? ⟨g, off, none⟩ = some (.pointer (some ⟨bl u, 0, none⟩)) := hcc 0 (by simp)
          rw [List.length_cons, List.length_map, List.length_drop] at hcl
          have hu32 := HC.out.lt32 u hun
          obtain ⟨hxl, hx0⟩ := HN.out.set u hun
          obtain ⟨nw, hx1, hnr⟩ := HN.out.near u hun
          obtain ⟨ra, rb, roff, rcap, rfl, hr1, _, hr3⟩ := hnr
          rw [List.length_map] at hr1 hr3 hx1
          have HX0 := Lib.hid hx0
          have HR1 := Lib.hid hr1
          have HR3 := Lib.hid hr3
          have hx1r := (BE.out.cell (p := ⟨bl u, 1, none⟩) hxl).trans hx1
          have hnl := near_len ns u m
          clear hcc hu hum hx0 hr1 hr3 hx1
          have hxl9 := hxl
          have hm5 := HC.out.pts
          by_cases hc0 : cap = 1
          · subst hc0
            obtain rfl : r = 1 := by omega
            have QP := Lib.hid (show Qc wr g off 0 ((q.drop (j + 1)).map bl) from by
              have e : (q.drop (j + 1)).map bl = [] := List.eq_nil_of_length_eq_zero (by rw [List.length_map, List.length_drop]; omega)
              rw [e]; exact Qc.none hgl)
            go_wp2_with fail
            clear hq0 hx1r
            go_loopw [5, 35] (fun l i wq => ∃ (ps : List Nat) (x r g off cap : Nat) (su : Nat → Int), l = .slice (some ⟨g, off, none⟩) r cap ∧ i = .int .i64 x ∧ x ≤ (nearTo ns u m).length ∧ r + (j + 1) = ps.length ∧ Srch (fun u v => v ∈ nearTo ns u m) s su ps j ((nearTo ns u m).take x) ∧ (j < ps.length ∧ ps.getD j 0 = u) ∧ (∀ t ∈ ps, t ∈ ns) ∧ (∀ b, b < ps.length → su (ps.getD b 0) ≤ (b : Int)) ∧ Qc wq g off cap ((ps.drop (j + 1)).map bl) ∧ h1 < g ∧ Pb wq h1 32 (fun t => .int .i64 (su t)) 57 ∧ Pb wq w.heap.size 32 (fun _ => .int .i64 0) 57 ∧ Below w.heap.size w wq) (fun _ i _ => (nearTo ns u m).length - (intOf i).toNat)
            case atStart => exact ⟨q, 0, 0, g, off, 0, st, rfl, rfl, Nat.zero_le _, by omega, SR.out, ⟨hjl, HU.out.symm⟩, QN.out, QB.out, QP.out, hg1, A1.out, A0.out, BE.out⟩
            case round =>
              obtain ⟨ps, x, r, g, off, cap, su, rfl, rfl, hx, hrp, hsr, ⟨hjp, hju⟩, hpn, hpb, hqc, hg2, hp1, hp0, hbe⟩ := hrel
              have SR2 := Lib.hid hsr
              have PN := Lib.hid hpn
              have PB := Lib.hid hpb
              have QC2 := Lib.hid hqc
              have A12 := Lib.hid hp1
              have A02 := Lib.hid hp0
              have BE2 := Lib.hid hbe
              have JU := Lib.hid hju
              have hgl2 := hqc.1
              have hp32 := few_32 hsr.nodup (fun t ht => HC.out.lt32 t (hpn t ht))
              have HUE2 := Lib.hid (unrd_eq hsr (fun t ht => HC.out.lt32 t (hpn t ht)) hp1)
              clear hsr hju hpn hpb hqc hp1 hp0 hbe SR QN QB QC A1 A0 BE QP
              by_cases hxl : x < (nearTo ns u m).length
              · obtain ⟨rfl, hrl⟩ := HR1.out (by omega)
                have hvm : (nearTo ns u m).getD x 0 ∈ nearTo ns u m := getD_of_lt hxl
                have hvn := near_mem hvm
                have HT := Lib.hid (show (nearTo ns u m).take (x + 1) = (nearTo ns u m).take x ++ [(nearTo ns u m).getD x 0] from by rw [List.take_succ_eq_append_getElem hxl, List.getD_eq_getElem?_getD, List.getElem?_eq_getElem hxl]; rfl)
                have hp0 : wr.cell? ⟨rb, roff + x, none⟩ = some (.pointer (some ⟨bl ((nearTo ns u m).getD x 0), 0, none⟩)) := (BE2.out.cell (p := ⟨rb, roff + x, none⟩) hrl).trans ((HR3.out x hxl).trans (by rw [mapbl_getD hxl]; rfl))
                obtain ⟨hyl, hy0⟩ := HN.out.set _ hvn
                have hv32 := HC.out.lt32 _ hvn
                have HVM := Lib.hid hvm
                have hcy := (BE2.out.cell (p := ⟨bl ((nearTo ns u m).getD x 0), 0, none⟩) hyl).trans hy0
                have hcx := (BE2.out.cell (p := ⟨bl u, 0, none⟩) hxl9).trans HX0.out
                have HVN := Lib.hid hvn
                clear hvm hvn hy0
                generalize (nearTo ns u m).getD x 0 = v at *
                obtain ⟨hov, hfv⟩ := A12.out.cell hv32
                obtain ⟨hou, -⟩ := A12.out.cell hu32
                have hub : su u ≤ (j : Int) := by have := PB.out j hjp; rw [JU.out] at this; exact this
                have hu0 : 0 ≤ su u := by
                  obtain ⟨kk, e, _⟩ := SR2.out.path u (by rw [← JU.out]; exact getD_of_lt hjp)
                  omega
                have hvI : (v : Int) < 32 := by omega
                have huI : (u : Int) < 32 := by omega
                have hxI : (x : Int) < ((nearTo ns u m).length : Int) := by omega
                by_cases hneg : su v < 0
                · have hvu : v ≠ u := fun e => by rw [e] at hneg; omega
                  have SV := Lib.hid (SR2.out.visit hjp (v := v) hneg (by rw [JU.out]; exact HVM.out))
                  rw [JU.out] at SV
                  obtain ⟨d, hd⟩ : ∃ d, d = su u + 1 := ⟨_, rfl⟩
                  have hwd : IntKind.i64.wrap (su u + 1) = d := by rw [IntKind.wrap_i64]; omega
                  have PB2 := Lib.hid (show ∀ b, b < (ps ++ [v]).length → (if (ps ++ [v]).getD b 0 = v then d else su ((ps ++ [v]).getD b 0)) ≤ (b : Int) from fun b hb => by
                    rw [List.length_append, List.length_singleton] at hb
                    by_cases hb2 : b < ps.length
                    · rw [app_getD hb2, if_neg (fun e => by
                        obtain ⟨kk, e2, _⟩ := SR2.out.path (ps.getD b 0) (getD_of_lt hb2)
                        rw [e] at e2
                        omega)]
                      exact PB.out b hb2
                    · obtain rfl : b = ps.length := by omega
                      rw [app_last, if_pos rfl]
                      omega)
                  have PN2 := Lib.hid (show ∀ t ∈ ps ++ [v], t ∈ ns from fun t ht => by
                    rcases List.mem_append.1 ht with ht | ht
                    · exact PN.out t ht
                    · rw [List.mem_singleton] at ht; rw [ht]; exact HVN.out)
                  have JU2 := Lib.hid (show j < (ps ++ [v]).length ∧ (ps ++ [v]).getD j 0 = u from ⟨by rw [List.length_append]; omega, by rw [app_getD hjp, JU.out]⟩)
                  have QD2 := Lib.hid (show ((ps ++ [v]).drop (j + 1)).map bl = (ps.drop (j + 1)).map bl ++ [bl v] by rw [List.drop_append_of_le_length (by omega), List.map_append]; rfl)
                  have QL2 := Lib.hid (show ((ps.drop (j + 1)).map bl).length = r by rw [List.length_map, List.length_drop]; omega)
                  rw [← hd] at SV
                  have A13 := Lib.hid ((A12.out.set v (.int .i64 d)).congr (g := fun t => .int .i64 (if t = v then d else su t)) (fun t _ => by by_cases e : t = v <;> simp [e]))
                  have A03 := Lib.hid (A02.out.other (show w.heap.size ≠ h1 by omega) (j := v) (.int .i64 d))
                  have BE3 := Lib.hid (BE2.out.setCell (p := ⟨h1, v, none⟩) (by show w.heap.size ≤ h1; omega) (.int .i64 d))
                  have QC3 := Lib.hid (QC2.out.other (show g ≠ h1 by omega) (j := v) (.int .i64 d))
                  generalize hsu : su u = z at *
                  have hyne : bl v ≠ h1 := by omega
                  have hxne : bl u ≠ h1 := by omega
                  clear hd hsu
                  go_wp2_with fail
                  go_region
                  replace A13 := Lib.hid (show Pb (wr.setCell ⟨h1, v, none⟩ (.int .i64 d)).drew _ _ _ _ from A13.out)
                  replace A03 := Lib.hid (show Pb (wr.setCell ⟨h1, v, none⟩ (.int .i64 d)).drew _ _ _ _ from A03.out)
                  replace BE3 := Lib.hid BE3.out.drew
                  replace QC3 := Lib.hid (show Qc (wr.setCell ⟨h1, v, none⟩ (.int .i64 d)).drew _ _ _ _ from QC3.out)
                  clear hp0 hcy hcx hov hou hfv
                  generalize (wr.setCell ⟨h1, v, none⟩ (.int .i64 d)).drew = w5 at *
                  go_wp2_with (at_builtin; go_loud (refine wpList_appQ rfl (.tmp 58) (.tmp 60) rfl g off r cap ((ps.drop (j + 1)).map bl) QL2.out rfl (by exact QC3.out.alloc _) _ (bl v) rfl (by rw [World.cell?_alloc_at _ _ _ _ (by simp)]; rfl) (by omega) ?_; intro g' off' c7 w7 hg7 hin7 hgr7; have I7 := Lib.hid hin7; have G7 := Lib.hid hgr7; have HG7 := Lib.hid hg7; clear hin7 hgr7 hg7))
                  go_roundw
                  case rel =>
                    have hl5 := QC3.out.1
                    have hw5 := BE3.out.size
                    have ha5 := A13.out.lt
                    have hg9 : h1 < g' := by
                      rcases HG7.out with h8 | h8
                      · omega
                      · simp only [World.size_alloc] at h8; omega
                    refine ⟨ps ++ [v], x + 1, r + 1, g', off', c7, _, rfl, by go_num, by omega, by rw [List.length_append, List.length_singleton]; omega, ?_, JU2.out, PN2.out, PB2.out, by rw [QD2.out]; exact I7.out, hg9, (A13.out.alloc _).keep (G7.out.block _ (by simp; omega) ?_), (A03.out.alloc _).keep (G7.out.block _ (by simp; omega) ?_), ?_⟩
                    · rw [HT.out]; exact SV.out
                    · intro e; have := Option.some.inj e; omega
                    · intro e; have := Option.some.inj e; omega
                    · exact (BE3.out.alloc (by omega) _).trans ⟨G7.out.os, G7.out.tape, G7.out.output, G7.out.size, fun k hk => G7.out.block k (by simp; omega) (fun e => by have := Option.some.inj e; omega)⟩
                  case measure => simp [intOf]; omega
                · have SK := Lib.hid (SR2.out.skip hjp (v := v) hneg)
                  rw [← HT.out] at SK
                  generalize hsv : su v = z at *
                  have hnegI : ¬ z < 0 := hneg
                  clear hsv
                  go_wp2_with fail
                  go_roundw
                  case rel => exact ⟨ps, x + 1, r, g, off, cap, su, rfl, by go_num, by omega, hrp, SK.out, ⟨hjp, JU.out⟩, PN.out, PB.out, QC2.out, hg2, A12.out, A02.out, BE2.out⟩
                  case measure => simp [intOf]; omega
              · obtain rfl : x = (nearTo ns u m).length := by omega
                have SN := Lib.hid (SR2.out.next hjp (by rw [JU.out, List.take_length]; exact fun v h => h))
                go_wp2_with fail
                go_roundw
                case rel => exact ⟨ps, j + 1, r, g, off, cap, su, rfl, by omega, SN.out, PN.out, PB.out, QC2.out, hg2, A12.out, A02.out, BE2.out⟩
                case measure =>
                  have k1 := UE.out
                  have k2 := HUE2.out
                  show unrd wr h1 + r < unrd _ h1 + _
                  first
                    | (show unrd wr h1 + r < unrd _ h1 + (1); omega)
                    | omega
          · obtain ⟨c, rfl⟩ : ∃ c, cap = c + 1 := ⟨cap - 1, by omega⟩
            obtain ⟨r', rfl⟩ : ∃ r', r = r' + 1 := ⟨r - 1, by omega⟩
            have QP := Lib.hid QC.out.pop
            have hrI : (0 : Int) < ((r' + 1 : Nat) : Int) := by omega
            have hr1I : (1 : Int) ≤ ((r' + 1 : Nat) : Int) := by omega
            have hrc : ((r' + 1 : Nat) : Int) ≤ ((c + 1 : Nat) : Int) := by omega
            have hcI : ¬ c = 0 := by omega
            go_wp2_with fail
            clear hq0 hx1r
            go_loopw [5, 35] (fun l i wq => ∃ (ps : List Nat) (x r g off cap : Nat) (su : Nat → Int), l = .slice (some ⟨g, off, none⟩) r cap ∧ i = .int .i64 x ∧ x ≤ (nearTo ns u m).length ∧ r + (j + 1) = ps.length ∧ Srch (fun u v => v ∈ nearTo ns u m) s su ps j ((nearTo ns u m).take x) ∧ (j < ps.length ∧ ps.getD j 0 = u) ∧ (∀ t ∈ ps, t ∈ ns) ∧ (∀ b, b < ps.length → su (ps.getD b 0) ≤ (b : Int)) ∧ Qc wq g off cap ((ps.drop (j + 1)).map bl) ∧ h1 < g ∧ Pb wq h1 32 (fun t => .int .i64 (su t)) 57 ∧ Pb wq w.heap.size 32 (fun _ => .int .i64 0) 57 ∧ Below w.heap.size w wq) (fun _ i _ => (nearTo ns u m).length - (intOf i).toNat)
            case atStart => exact ⟨q, 0, r', g, off + 1, c, st, rfl, rfl, Nat.zero_le _, by omega, SR.out, ⟨hjl, HU.out.symm⟩, QN.out, QB.out, QP.out, hg1, A1.out, A0.out, BE.out⟩
            case round =>
              obtain ⟨ps, x, r, g, off, cap, su, rfl, rfl, hx, hrp, hsr, ⟨hjp, hju⟩, hpn, hpb, hqc, hg2, hp1, hp0, hbe⟩ := hrel
              have SR2 := Lib.hid hsr
              have PN := Lib.hid hpn
              have PB := Lib.hid hpb
              have QC2 := Lib.hid hqc
              have A12 := Lib.hid hp1
              have A02 := Lib.hid hp0
              have BE2 := Lib.hid hbe
              have JU := Lib.hid hju
              have hgl2 := hqc.1
              have hp32 := few_32 hsr.nodup (fun t ht => HC.out.lt32 t (hpn t ht))
              have HUE2 := Lib.hid (unrd_eq hsr (fun t ht => HC.out.lt32 t (hpn t ht)) hp1)
              clear hsr hju hpn hpb hqc hp1 hp0 hbe SR QN QB QC A1 A0 BE QP
              by_cases hxl : x < (nearTo ns u m).length
              · obtain ⟨rfl, hrl⟩ := HR1.out (by omega)
                have hvm : (nearTo ns u m).getD x 0 ∈ nearTo ns u m := getD_of_lt hxl
                have hvn := near_mem hvm
                have HT := Lib.hid (show (nearTo ns u m).take (x + 1) = (nearTo ns u m).take x ++ [(nearTo ns u m).getD x 0] from by rw [List.take_succ_eq_append_getElem hxl, List.getD_eq_getElem?_getD, List.getElem?_eq_getElem hxl]; rfl)
                have hp0 : wr.cell? ⟨rb, roff + x, none⟩ = some (.pointer (some ⟨bl ((nearTo ns u m).getD x 0), 0, none⟩)) := (BE2.out.cell (p := ⟨rb, roff + x, none⟩) hrl).trans ((HR3.out x hxl).trans (by rw [mapbl_getD hxl]; rfl))
                obtain ⟨hyl, hy0⟩ := HN.out.set _ hvn
                have hv32 := HC.out.lt32 _ hvn
                have HVM := Lib.hid hvm
                have hcy := (BE2.out.cell (p := ⟨bl ((nearTo ns u m).getD x 0), 0, none⟩) hyl).trans hy0
                have hcx := (BE2.out.cell (p := ⟨bl u, 0, none⟩) hxl9).trans HX0.out
                have HVN := Lib.hid hvn
                clear hvm hvn hy0
                generalize (nearTo ns u m).getD x 0 = v at *
                obtain ⟨hov, hfv⟩ := A12.out.cell hv32
                obtain ⟨hou, -⟩ := A12.out.cell hu32
                have hub : su u ≤ (j : Int) := by have := PB.out j hjp; rw [JU.out] at this; exact this
                have hu0 : 0 ≤ su u := by
                  obtain ⟨kk, e, _⟩ := SR2.out.path u (by rw [← JU.out]; exact getD_of_lt hjp)
                  omega
                have hvI : (v : Int) < 32 := by omega
                have huI : (u : Int) < 32 := by omega
                have hxI : (x : Int) < ((nearTo ns u m).length : Int) := by omega
                by_cases hneg : su v < 0
                · have hvu : v ≠ u := fun e => by rw [e] at hneg; omega
                  have SV := Lib.hid (SR2.out.visit hjp (v := v) hneg (by rw [JU.out]; exact HVM.out))
                  rw [JU.out] at SV
                  obtain ⟨d, hd⟩ : ∃ d, d = su u + 1 := ⟨_, rfl⟩
                  have hwd : IntKind.i64.wrap (su u + 1) = d := by rw [IntKind.wrap_i64]; omega
                  have PB2 := Lib.hid (show ∀ b, b < (ps ++ [v]).length → (if (ps ++ [v]).getD b 0 = v then d else su ((ps ++ [v]).getD b 0)) ≤ (b : Int) from fun b hb => by
                    rw [List.length_append, List.length_singleton] at hb
                    by_cases hb2 : b < ps.length
                    · rw [app_getD hb2, if_neg (fun e => by
                        obtain ⟨kk, e2, _⟩ := SR2.out.path (ps.getD b 0) (getD_of_lt hb2)
                        rw [e] at e2
                        omega)]
                      exact PB.out b hb2
                    · obtain rfl : b = ps.length := by omega
                      rw [app_last, if_pos rfl]
                      omega)
                  have PN2 := Lib.hid (show ∀ t ∈ ps ++ [v], t ∈ ns from fun t ht => by
                    rcases List.mem_append.1 ht with ht | ht
                    · exact PN.out t ht
                    · rw [List.mem_singleton] at ht; rw [ht]; exact HVN.out)
                  have JU2 := Lib.hid (show j < (ps ++ [v]).length ∧ (ps ++ [v]).getD j 0 = u from ⟨by rw [List.length_append]; omega, by rw [app_getD hjp, JU.out]⟩)
                  have QD2 := Lib.hid (show ((ps ++ [v]).drop (j + 1)).map bl = (ps.drop (j + 1)).map bl ++ [bl v] by rw [List.drop_append_of_le_length (by omega), List.map_append]; rfl)
                  have QL2 := Lib.hid (show ((ps.drop (j + 1)).map bl).length = r by rw [List.length_map, List.length_drop]; omega)
                  rw [← hd] at SV
                  have A13 := Lib.hid ((A12.out.set v (.int .i64 d)).congr (g := fun t => .int .i64 (if t = v then d else su t)) (fun t _ => by by_cases e : t = v <;> simp [e]))
                  have A03 := Lib.hid (A02.out.other (show w.heap.size ≠ h1 by omega) (j := v) (.int .i64 d))
                  have BE3 := Lib.hid (BE2.out.setCell (p := ⟨h1, v, none⟩) (by show w.heap.size ≤ h1; omega) (.int .i64 d))
                  have QC3 := Lib.hid (QC2.out.other (show g ≠ h1 by omega) (j := v) (.int .i64 d))
                  generalize hsu : su u = z at *
                  have hyne : bl v ≠ h1 := by omega
                  have hxne : bl u ≠ h1 := by omega
                  clear hd hsu
                  go_wp2_with fail
                  go_region
                  replace A13 := Lib.hid (show Pb (wr.setCell ⟨h1, v, none⟩ (.int .i64 d)).drew _ _ _ _ from A13.out)
                  replace A03 := Lib.hid (show Pb (wr.setCell ⟨h1, v, none⟩ (.int .i64 d)).drew _ _ _ _ from A03.out)
                  replace BE3 := Lib.hid BE3.out.drew
                  replace QC3 := Lib.hid (show Qc (wr.setCell ⟨h1, v, none⟩ (.int .i64 d)).drew _ _ _ _ from QC3.out)
                  clear hp0 hcy hcx hov hou hfv
                  generalize (wr.setCell ⟨h1, v, none⟩ (.int .i64 d)).drew = w5 at *
                  go_wp2_with (at_builtin; go_loud (refine wpList_appQ rfl (.tmp 58) (.tmp 60) rfl g off r cap ((ps.drop (j + 1)).map bl) QL2.out rfl (by exact QC3.out.alloc _) _ (bl v) rfl (by rw [World.cell?_alloc_at _ _ _ _ (by simp)]; rfl) (by omega) ?_; intro g' off' c7 w7 hg7 hin7 hgr7; have I7 := Lib.hid hin7; have G7 := Lib.hid hgr7; have HG7 := Lib.hid hg7; clear hin7 hgr7 hg7))
                  go_roundw
                  case rel =>
                    have hl5 := QC3.out.1
                    have hw5 := BE3.out.size
                    have ha5 := A13.out.lt
                    have hg9 : h1 < g' := by
                      rcases HG7.out with h8 | h8
                      · omega
                      · simp only [World.size_alloc] at h8; omega
                    refine ⟨ps ++ [v], x + 1, r + 1, g', off', c7, _, rfl, by go_num, by omega, by rw [List.length_append, List.length_singleton]; omega, ?_, JU2.out, PN2.out, PB2.out, by rw [QD2.out]; exact I7.out, hg9, (A13.out.alloc _).keep (G7.out.block _ (by simp; omega) ?_), (A03.out.alloc _).keep (G7.out.block _ (by simp; omega) ?_), ?_⟩
                    · rw [HT.out]; exact SV.out
                    · intro e; have := Option.some.inj e; omega
                    · intro e; have := Option.some.inj e; omega
                    · exact (BE3.out.alloc (by omega) _).trans ⟨G7.out.os, G7.out.tape, G7.out.output, G7.out.size, fun k hk => G7.out.block k (by simp; omega) (fun e => by have := Option.some.inj e; omega)⟩
                  case measure => simp [intOf]; omega
                · have SK := Lib.hid (SR2.out.skip hjp (v := v) hneg)
                  rw [← HT.out] at SK
                  generalize hsv : su v = z at *
                  have hnegI : ¬ z < 0 := hneg
                  clear hsv
                  go_wp2_with fail
                  go_roundw
                  case rel => exact ⟨ps, x + 1, r, g, off, cap, su, rfl, by go_num, by omega, hrp, SK.out, ⟨hjp, JU.out⟩, PN.out, PB.out, QC2.out, hg2, A12.out, A02.out, BE2.out⟩
                  case measure => simp [intOf]; omega
              · obtain rfl : x = (nearTo ns u m).length := by omega
                have SN := Lib.hid (SR2.out.next hjp (by rw [JU.out, List.take_length]; exact fun v h => h))
                go_wp2_with fail
                go_roundw
                case rel => exact ⟨ps, j + 1, r, g, off, cap, su, rfl, by omega, SN.out, PN.out, PB.out, QC2.out, hg2, A12.out, A02.out, BE2.out⟩
                case measure =>
                  have k1 := UE.out
                  have k2 := HUE2.out
                  show unrd wr h1 + r < unrd _ h1 + _
                  first
                    | (show unrd wr h1 + r < unrd _ h1 + (r' + 1); omega)
                    | omega
        · obtain rfl : r = 0 := by omega
          have ej : j = q.length := by omega
          have SE := Lib.hid (show Srch _ s st q q.length [] from by rw [← ej]; exact SR.out)
          clear ej
          go_wp2_with (first
            | ((with_reducible show wpList _ _ _ (Oper.mk _ (Op.load _ _) _ _ _ _ :: _) _ _); refine wpList_load_row rfl 57 (.tmp 3) rfl h1 rfl 57 (tbC st) (0, 0) _ A1.out Try.underlying57 rfl (infoT _) ?_)
            | ((with_reducible show wpList _ _ _ (Oper.mk _ (Op.store _ _ _) _ _ _ _ :: _) _ _); refine wpList_store_row rfl 57 (.tmp 2) (.tmp 63) rfl w.heap.size (tbC st) rfl rfl 57 (tbC fun _ => 0) A0.out (infoT _) (by rw [tbC_size, tbC_size]) (tbC_one _) ?_))
          refine bodyPost_ret (v := .agg (tbC st)) ?_ rfl ⟨st, rfl, fun t => SE.out.end t, below_setRow BE.out (Nat.le_refl _) _⟩
          exact results_cell_row rfl _ _ w.heap.size 57 (tbC st) (0, 0) _ rfl (setRow_heap _ _ _ _ _ _ A0.out) Try.underlying57 rfl (infoT _)

end Go.Proofs.Ytgldckgecoijfaa
