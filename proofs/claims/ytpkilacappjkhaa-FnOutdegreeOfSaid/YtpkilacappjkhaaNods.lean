/- nodesOf, the program's: the sets of a valid class as nodes. Conditions: Sets is a slice of ints, the class is valid. -/
import Derived.BigQuiet
import Derived.Deep.Cut
import Derived.Test.YtpkilacappjkhaaNode
namespace Go.Proofs.Ytpkilacappjkhaa
open Go.RowKit

theorem Pb.of_made {B g n : Nat} {w : World} (h : w.ownsRow B 42 1 (.slice (some ⟨g, 0, none⟩) n n) n (madeCells (Value.pointer none).cells (n * 1)).toList) : Pb w g n (fun _ => .pointer none) 42 := by
  rcases h.2 with ⟨e, _⟩ | ⟨g', cap, cur, e, _, hg, _, _, hs, ht⟩
  · cases e
  · simp only [Value.slice.injEq, Option.some.injEq, Addr.mk.injEq, and_true, true_and] at e
    obtain ⟨rfl, rfl⟩ := e
    unfold Pb
    rw [hg]
    congr 2
    apply Array.toList_inj.1
    rw [List.take_of_length_le (by rw [Array.length_toList]; omega)] at ht
    rw [ht, show (madeCells (Value.pointer none).cells (n * 1)).toList = List.replicate n (.pointer none) by rw [Nat.mul_one]; exact toList_madeCells_one (.pointer none) n]
    simp [List.map_const']
theorem Pb.of_lit {w : World} : Pb (w.alloc (.cells #[.pointer none, .pointer none, .pointer none, .pointer none, .pointer none, .pointer none, .pointer none, .pointer none, .pointer none, .pointer none, .pointer none, .pointer none, .pointer none, .pointer none, .pointer none, .pointer none, .pointer none, .pointer none, .pointer none, .pointer none, .pointer none, .pointer none, .pointer none, .pointer none, .pointer none, .pointer none, .pointer none, .pointer none, .pointer none, .pointer none, .pointer none, .pointer none] 61)) w.heap.size 32 (fun _ => .pointer none) 61 := heap_alloc_new w _

theorem Below.drwN {B : Nat} {a w : World} (h : Below B a w) (n : Nat) : Below B a (w.drewN n) := ⟨h.os, h.tape, h.output, h.size, h.block⟩
theorem xor_at (x j : Nat) (hx : x < 32) (hj : j < 5) : x ^^^ 2 ^ j < 32 ∧ wrap64 ((2 : Int) ^ j) = ((2 ^ j : Nat) : Int) ∧ bits .xor .i64 (x : Int) ((2 ^ j : Nat) : Int) = ((x ^^^ 2 ^ j : Nat) : Int) := by
  have h2j : 2 ^ j < 32 := Nat.lt_of_lt_of_le (Nat.pow_lt_pow_right (by omega) hj) (Nat.le_refl _)
  generalize hp : 2 ^ j = p at *
  refine ⟨Nat.xor_lt_two_pow (n := 5) hx h2j, ?_, i64_xor x p (by omega) (by omega)⟩
  rw [← hp]
  exact (wrap_pow j (by omega)).1.trans (by simp)

set_option maxHeartbeats 6400000 in
set_option maxRecDepth 100000 in
theorem implNodesOfJ (m : Nat) (ns : List Nat) (v : Value) (w : World) (hc : Cls m ns) (h : Rd w v (toI ns)) : Calls Try.prog 16 #[.agg #[.int .i64 m, v]] w fun e w' => ∃ (bl : Nat → Nat) (h nb H : Nat), e = .returned (.slice (some ⟨nb, 0, none⟩) ns.length ns.length) ∧ Joined w' h nb H ns.length m ns bl ∧ w.heap.size ≤ H ∧ Below w.heap.size w w' := by
  obtain ⟨a, b, off, cap, rfl, h1, h3, h5⟩ := h
  obtain ⟨i0, hi, hz0, hz1, hz2⟩ := info_parts infoN
  have Hz2 := Lib.hid hz2
  clear hz2
  rw [toI_length] at *
  have hm := hc.pts
  have hl := hc.length
  have HC := Lib.hid hc
  have H1 := Lib.hid h1
  have H5 := Lib.hid h5
  clear h1 h5 hc
  have X0 := Lib.hid (Bx.new m (.slice a ns.length cap) w)
  have Y0 := Lib.hid (show Below w.heap.size w (w.alloc (.cells #[.int .i64 m, .slice a ns.length cap] 25)) from (Below.refl _ _).alloc (Nat.le_refl _) _)
  go_enter Try.func16, Try.ntmps16
  go_upto_region 1 with (fail)
  have hs1 : w.heap.size < (w.alloc (.cells #[.int .i64 m, .slice a ns.length cap] 25)).heap.size := by simp
  generalize w.alloc (.cells #[.int .i64 m, .slice a ns.length cap] 25) = w1 at *
  go_upto_region 2 with (fail)
  have K2 := Lib.hid (Pb.of_lit (w := w1))
  have hs2 : w1.heap.size < (w1.alloc (.cells #[.pointer none, .pointer none, .pointer none, .pointer none, .pointer none, .pointer none, .pointer none, .pointer none, .pointer none, .pointer none, .pointer none, .pointer none, .pointer none, .pointer none, .pointer none, .pointer none, .pointer none, .pointer none, .pointer none, .pointer none, .pointer none, .pointer none, .pointer none, .pointer none, .pointer none, .pointer none, .pointer none, .pointer none, .pointer none, .pointer none, .pointer none, .pointer none] 61)).heap.size := by simp
  have X2 := Lib.hid (X0.out.alloc (.cells #[.pointer none, .pointer none, .pointer none, .pointer none, .pointer none, .pointer none, .pointer none, .pointer none, .pointer none, .pointer none, .pointer none, .pointer none, .pointer none, .pointer none, .pointer none, .pointer none, .pointer none, .pointer none, .pointer none, .pointer none, .pointer none, .pointer none, .pointer none, .pointer none, .pointer none, .pointer none, .pointer none, .pointer none, .pointer none, .pointer none, .pointer none, .pointer none] 61))
  have Y2 := Lib.hid (Y0.out.alloc (by omega) (.cells #[.pointer none, .pointer none, .pointer none, .pointer none, .pointer none, .pointer none, .pointer none, .pointer none, .pointer none, .pointer none, .pointer none, .pointer none, .pointer none, .pointer none, .pointer none, .pointer none, .pointer none, .pointer none, .pointer none, .pointer none, .pointer none, .pointer none, .pointer none, .pointer none, .pointer none, .pointer none, .pointer none, .pointer none, .pointer none, .pointer none, .pointer none, .pointer none] 61))
  clear X0 Y0
  generalize w1.alloc (.cells #[.pointer none, .pointer none, .pointer none, .pointer none, .pointer none, .pointer none, .pointer none, .pointer none, .pointer none, .pointer none, .pointer none, .pointer none, .pointer none, .pointer none, .pointer none, .pointer none, .pointer none, .pointer none, .pointer none, .pointer none, .pointer none, .pointer none, .pointer none, .pointer none, .pointer none, .pointer none, .pointer none, .pointer none, .pointer none, .pointer none, .pointer none, .pointer none] 61) = w2 at *
  have c1 := X2.out.out.at1
  go_wp2_with (at_make; refine wpList_make_full _ rfl _ _ 40 rfl w2.heap.size 42 i0 (.pointer none) 1 Try.underlying40 hi hz0 hz1 _ _ _ _ ns.length rfl rfl rfl rfl (by rw [Hz2.out]; omega) (by unfold maxLen; omega) (Nat.le_refl _) ?_; intro w4 hown hgrow; have hrow := Pb.of_made hown; have hb4 : Below w2.heap.size w2 w4 := (Below.refl _ _).grown hgrow (Nat.le_refl _) (fun k hk => by simp at hk); have hz4 := hb4.size; have X4 := Lib.hid (X2.out.next hb4 (by omega)); have d1 := X4.out.out.at1)
  clear hown hgrow hi hz0 hz1 c1 d1
  have hr4 := hrow.lt
  have K4 := Lib.hid (K2.out.keep (hb4.block _ (by omega)))
  have Y4 := Lib.hid (Y2.out.trans (hb4.mono (by omega)))
  have M4 := Lib.hid (show Made w4 w1.heap.size w2.heap.size w4.heap.size 0 ns (fun _ => 0) from ⟨K4.out.congr (fun j _ => by simp), hrow.congr (fun j _ => by simp), fun s hs => by simp at hs, fun s hs => by simp at hs, by omega, by omega, by omega⟩)
  clear hrow hb4 K4 K2 X2 Y2
  go_loopw [18] (fun i wr => ∃ (k : Nat) (bl : Nat → Nat), k ≤ ns.length ∧ i = .int .i64 k ∧ Made wr w1.heap.size w2.heap.size w4.heap.size k ns bl ∧ Below w.heap.size w wr ∧ Bx m (.slice a ns.length cap) w.heap.size wr ∧ w4.heap.size ≤ wr.heap.size) (fun i _ => ns.length - (intOf i).toNat)
  case atStart => exact ⟨0, fun _ => 0, Nat.zero_le _, rfl, M4.out, Y4.out, X4.out, Nat.le_refl _⟩
  case round =>
    obtain ⟨k, bl, hk, rfl, hmd, hbe, hbx, hsz⟩ := hrel
    have MD := Lib.hid hmd
    have BE := Lib.hid hbe
    have BX := Lib.hid hbx
    clear hmd hbe hbx
    by_cases hlt : k < ns.length
    · obtain ⟨rfl, hbl⟩ := H1.out (by omega)
      have hx := HC.out.lt32 _ (getD_of_lt hlt)
      have ST := Lib.hid (MD.out.step hlt hsz HC.out.asc hx)
      have hcx := (BE.out.cell (p := ⟨b, off + k, none⟩) hbl).trans (H5.out k hlt)
      rw [toI_getD] at hcx
      have hp := MD.out.row.cell hlt
      rw [if_neg (Nat.lt_irrefl k)] at hp
      obtain ⟨hp1, hp2⟩ := hp
      have hq := MD.out.known.cell hx
      obtain ⟨hq1, hq2⟩ := hq
      have hkl := MD.out.known.lt
      have hnl := MD.out.row.lt
      generalize (if ns.getD k 0 ∈ ns.take k then ndp (bl (ns.getD k 0)) else .pointer none) = q0 at hq1
      generalize ns.getD k 0 = x at *
      go_wp2_with fail
      go_roundw
      case rel =>
        refine ⟨k + 1, _, by omega, by go_num, ST.out, ?_, ?_, ?_⟩
        · exact ((BE.out.setCell (by show w.heap.size ≤ w2.heap.size; omega) _).setCell (by show w.heap.size ≤ w1.heap.size; omega) _).alloc (by simp; omega) _
        · exact ((BX.out.other (by omega) _).other (by omega) _).alloc _
        · simp; omega
      case measure => simp [intOf]; omega
    · obtain rfl : k = ns.length := by omega
      have J0 := Lib.hid (MD.out.joined (m := m))
      clear MD
      go_wp2_with fail
      go_loopw [38] (fun i wr => ∃ k : Nat, k ≤ ns.length ∧ i = .int .i64 k ∧ Joined wr w1.heap.size w2.heap.size w4.heap.size k m ns bl ∧ Below w.heap.size w wr ∧ Bx m (.slice a ns.length cap) w.heap.size wr) (fun i _ => ns.length - (intOf i).toNat)
      case atStart => exact ⟨0, Nat.zero_le _, rfl, J0.out, BE.out, BX.out⟩
      case round =>
        obtain ⟨k, hk, rfl, hj, hbe, hbx⟩ := hrel
        have JO := Lib.hid hj
        have BJ := Lib.hid hbe
        have BX2 := Lib.hid hbx
        clear hj hbe hbx
        by_cases hlt : k < ns.length
        · have hxm := getD_of_lt hlt
          have hx := HC.out.lt32 _ hxm
          have hxl := HC.out.lt _ hxm
          have ST := Lib.hid (fun w' v hs hb hn hr => JO.out.step (w' := w') hlt HC.out.asc hs hb (v := v) hn hr)
          have hp : wr.cell? ⟨w2.heap.size, k, none⟩ = some (.pointer (some ⟨bl (ns.getD k 0), 0, none⟩)) := (JO.out.row.cell hlt).1
          have hnb := JO.out.left k (Nat.le_refl _) hlt
          have NB := Lib.hid hnb
          have KN := Lib.hid JO.out.known
          have hkn := JO.out.known.lt
          have hap := JO.out.apart _ hxm
          have hhl := JO.out.hlt
          have hlo := hnb.lt
          have d0 := BX2.out.out.at0
          have BLE := Lib.hid (BJ.out)
          clear hnb hxm
          generalize ns.getD k 0 = x at *
          generalize hO : bl x = o at *
          clear hO
          obtain ⟨B0, hB0⟩ : ∃ B0, B0 = wr.heap.size := ⟨_, rfl⟩
          have HB0 := Lib.hid hB0
          have hoB : o < B0 := by omega
          have hkB : w1.heap.size < B0 := by omega
          clear hB0
          have KZ := Lib.hid (fun (wq : World) (hfr : ∀ b, b < B0 → b ≠ o → wq.heap[b]? = wr.heap[b]?) => KN.out.keep (hfr w1.heap.size hkB (by omega)))
          go_wp2_with fail
          clear hp
          go_loopw [44] (fun i wq => ∃ (j : Nat) (v : Value), j ≤ m ∧ i = .int .i64 j ∧ B0 ≤ wq.heap.size ∧ (∀ b, b < B0 → b ≠ o → wq.heap[b]? = wr.heap[b]?) ∧ Nb wq o x v ∧ NdS B0 wq v ((nearTo ns x j).map bl) ∧ Below w.heap.size w wq) (fun i _ => m - (intOf i).toNat)
          case atStart => exact ⟨0, _, Nat.zero_le _, rfl, Nat.le_of_eq HB0.out, fun _ _ _ => rfl, NB.out, NdS.nil _ _, BJ.out⟩
          case round =>
            obtain ⟨j, v, hj, rfl, hsq, hfr, hnq, hnd, hbq⟩ := hrel
            have FR := Lib.hid hfr
            have NQ := Lib.hid hnq
            have NDq := Lib.hid hnd
            have BQ := Lib.hid hbq
            have KQ := Lib.hid (KZ.out _ hfr)
            clear hfr hnq hnd hbq
            by_cases hjm : j < m
            · obtain ⟨hz, hwp, hxor⟩ := xor_at x j hx (by omega)
              have e0 := NQ.out.at0
              have hkz := (KQ.out.cell hz).1
              have hln := near_len ns x j
              by_cases hin : x ^^^ 2 ^ j ∈ ns
              · rw [if_pos hin] at hkz
                have NY := Lib.hid (show (nearTo ns x (j + 1)).map bl = (nearTo ns x j).map bl ++ [bl (x ^^^ 2 ^ j)] from (congrArg (List.map bl) (near_yes hin)).trans List.map_append)
                have HL := Lib.hid (show ((nearTo ns x j).map bl).length ≤ 1000000 by rw [List.length_map]; omega)
                clear hin hln
                generalize (nearTo ns x j).map bl = E at *
                generalize x ^^^ 2 ^ j = z at *
                generalize 2 ^ j = p at *
                have hzI : (z : Int) < 32 := by omega
                have hzP : (0 : Int) ≤ (z : Int) := by omega
                generalize bl z = Z at *
                have hkz2 : wr.cell? ⟨w1.heap.size, z, none⟩ = some (.pointer (some ⟨Z, 0, none⟩)) := hkz
                clear hkz
                go_wp2_with fail
                go_quiet (fail)
                clear e0 hkz2 hxor hwp
                have e1 := NQ.out.at1
                go_wp2_with (at_builtin; go_loud (refine wpList_appN rfl (.tmp 62) (.tmp 64) rfl B0 _ E rfl (by exact World.ownsRow.alloc NDq.out _) _ Z rfl (by rw [World.cell?_alloc_at _ _ _ _ (by simp)]; rfl) (by exact HL.out) (by simp; omega) ?_; intro a1 c1 w3 hin3 hb3 hg3; have H13 := Lib.hid (show Below B0 wr w3 from Below.trans ((show Below B0 wr (wr.drewN nq) from Below.drwN (Below.refl B0 wr) nq).alloc (by first | omega | (simp; omega)) _) hb3); have N3 := Lib.hid (NQ.out.keep (H13.out.block o hoB)); have f1 := N3.out.at1; have g1 := N3.out.fr 1; have I3 := Lib.hid hin3; clear hin3 hb3 hg3))
                go_roundw
                case rel =>
                  refine ⟨j + 1, _, by omega, by go_num, ?_, ?_, N3.out.set _, ?_, ?_⟩
                  · have := H13.out.size; simp [World.setCell]; omega
                  · exact fun b hb hne => (heap_setCell_other w3 ⟨o, 1, none⟩ b _ hne).trans ((H13.out.block b hb).trans (FR.out b hb hne))
                  · rw [NY.out]; exact ownsRow_setCell_below (a := ⟨o, 1, none⟩) I3.out hoB _
                  · exact (BQ.out.trans (H13.out.mono (by omega))).setCell (by show w.heap.size ≤ o; omega) _
                case measure => simp [intOf]; omega
              · rw [if_neg hin] at hkz
                have NN := Lib.hid (congrArg (List.map bl) (near_no hin))
                clear hin hln
                generalize (nearTo ns x j).map bl = E at *
                generalize x ^^^ 2 ^ j = z at *
                generalize 2 ^ j = p at *
                have hzI : (z : Int) < 32 := by omega
                have hzP : (0 : Int) ≤ (z : Int) := by omega
                go_wp2_with fail
                go_quiet (fail)
                clear e0 hkz hxor hwp
                go_wp2_with fail
                go_roundw
                case rel => exact ⟨j + 1, v, by omega, by go_num, hsq, FR.out, NQ.out, by rw [NN.out]; exact NDq.out, Below.drwN BQ.out nq⟩
                case measure => simp [intOf]; omega
            · obtain rfl : j = m := by omega
              have S2 := Lib.hid (ST.out _ v (by have := HB0.out; omega) (fun b hb => FR.out b (by have := HB0.out; omega)) NQ.out NDq.out.rd)
              go_wp2_with fail
              go_roundw
              case rel => exact ⟨k + 1, by omega, by go_num, S2.out, BQ.out, (FR.out w.heap.size (by omega) (by omega)).trans BX2.out⟩
              case measure => simp [intOf]; omega
        · obtain rfl : k = ns.length := by omega
          have hH9 : w.heap.size ≤ w4.heap.size := by omega
          go_wp2_with fail
          go_ret
          exact ⟨bl, _, _, _, rfl, JO.out, hH9, BJ.out⟩
theorem implNodesOf (m : Nat) (ns : List Nat) (v : Value) (w : World) (hc : Cls m ns) (h : Rd w v (toI ns)) : Calls Try.prog 16 #[.agg #[.int .i64 m, v]] w fun e w' => ∃ bl v', e = .returned v' ∧ Nds bl w' v' ns m ∧ Below w.heap.size w w' :=
  (implNodesOfJ m ns v w hc h).mono fun _ _ ⟨bl, _, _, _, e, hj, _, hb⟩ => ⟨bl, _, e, hj.nds hc.length, hb⟩

end Go.Proofs.Ytpkilacappjkhaa
