/- ComponentsOf, the program's and the model's. Conditions: Sets is a slice of ints. -/
import Derived.Test.YtbjaacppomobeaaCmp
namespace Go.Proofs.Ytbjaacppomobeaa
open Go.RowKit

/-- what is marked: the sets that some of the first i reach -/
def Mkd (ns : List Nat) (i : Nat) (P : Nat → Bool) : Prop := ∀ j, j < ns.length → (P (ns.getD j 0) = true ↔ ∃ a, a < i ∧ Rch ns a j)
theorem Mkd.zero (ns : List Nat) : Mkd ns 0 (fun _ => false) := fun j _ => ⟨fun h => (by cases h), fun ⟨a, ha, _⟩ => absurd ha (by omega)⟩
theorem Mkd.skip {ns : List Nat} {i : Nat} {P : Nat → Bool} (h : Mkd ns i P) (hi : i < ns.length) (hp : P (ns.getD i 0) = true) : Mkd ns (i + 1) P := fun j hj => by
  rw [h j hj]
  constructor
  · rintro ⟨a, ha, hr⟩
    exact ⟨a, by omega, hr⟩
  · rintro ⟨a, ha, hr⟩
    by_cases e : a = i
    · subst e
      obtain ⟨b, hb, h2⟩ := (h a hi).1 hp
      exact ⟨b, hb, h2.trans hr⟩
    · exact ⟨a, by omega, hr⟩
theorem Mkd.next {ns : List Nat} {i : Nat} {P : Nat → Bool} {st : Nat → Int} (h : Mkd ns i P) (hs : ∀ j, j < ns.length → Dst (nR ns) i j (st (ns.getD j 0))) : Mkd ns (i + 1) (fun t => P t || decide (0 ≤ st t)) := fun j hj => by
  have h1 := dst_rch (hs j hj)
  have h2 : 0 ≤ st (ns.getD j 0) ↔ Rch ns i j := by
    constructor
    · intro k
      exact Classical.byContradiction fun hn => by have := h1.2 hn; omega
    · intro k
      exact Classical.byContradiction fun hn => h1.1 (by omega) k
  rw [Bool.or_eq_true, decide_eq_true_eq, h j hj, h2]
  constructor
  · rintro (⟨a, ha, hr⟩ | hr)
    · exact ⟨a, by omega, hr⟩
    · exact ⟨i, by omega, hr⟩
  · rintro ⟨a, ha, hr⟩
    by_cases e : a = i
    · subst e; exact .inr hr
    · exact .inl ⟨a, by omega, hr⟩
theorem Mkd.first {ns : List Nat} {i : Nat} {P : Nat → Bool} {F : Nat → Bool} (h : Mkd ns i P) (hi : i < ns.length) (hF : Fst ns F) : F i = !P (ns.getD i 0) := by
  have h1 := hF i
  have h2 := h i hi
  cases hp : P (ns.getD i 0) with
  | true =>
    rw [hp] at h2
    obtain ⟨a, ha, hr⟩ := h2.1 rfl
    cases hf : F i with
    | false => rfl
    | true => exact absurd (hr.turn (by omega)) (h1.1 hf a ha)
  | false =>
    rw [hp] at h2
    refine h1.2 (fun k hk hr => ?_)
    have := h2.2 ⟨k, hk, hr.turn hi⟩
    cases this
theorem Pb.of_false {w : World} : Pb (w.alloc (.cells #[.bool false, .bool false, .bool false, .bool false, .bool false, .bool false, .bool false, .bool false, .bool false, .bool false, .bool false, .bool false, .bool false, .bool false, .bool false, .bool false, .bool false, .bool false, .bool false, .bool false, .bool false, .bool false, .bool false, .bool false, .bool false, .bool false, .bool false, .bool false, .bool false, .bool false, .bool false, .bool false] 78)) w.heap.size 32 (fun _ => .bool false) 78 := heap_alloc_new w _

/-- nodes stay where only a block of marks is written -/
theorem Nds.keep {bl : Nat → Nat} {w w' : World} {v : Value} {ns : List Nat} {m o : Nat} {P : Nat → Bool} {T : TypeId} (h : Nds bl w v ns m) (hP : Pb w o 32 (fun t => .bool (P t)) T) (hs : w.heap.size ≤ w'.heap.size) (hb : ∀ b, b < w.heap.size → b ≠ o → w'.heap[b]? = w.heap[b]?) : Nds bl w' v ns m := by
  have hcell : ∀ (j : Nat) (u : Value), w.cell? ⟨o, j, none⟩ = some u → ∃ q, u = .bool q := fun j u hu => by
    by_cases hj : j < 32
    · rw [(hP.cell hj).1] at hu
      exact ⟨_, (Option.some.inj hu).symm⟩
    · rw [cell_of_row _ _ _ _ _ _ hP] at hu
      simp [hj] at hu
  have hno : ∀ b j, w.cell? ⟨o, j, none⟩ ≠ some (ndp b) := fun b j hu => by
    obtain ⟨q, e⟩ := hcell j _ hu
    cases e
  have hne : ∀ s ∈ ns, bl s ≠ o := fun s hs e => by
    obtain ⟨q, e2⟩ := hcell 0 _ (e ▸ (h.set s hs).2)
    cases e2
  have hc : ∀ s ∈ ns, ∀ j, w'.cell? ⟨bl s, j, none⟩ = w.cell? ⟨bl s, j, none⟩ := fun s hs j => World.cell?_of_block (w := w) (w' := w') (a := ⟨bl s, j, none⟩) (hb _ (h.set s hs).1 (hne s hs))
  refine ⟨h.row.keep hs hb hno, fun s k => ⟨Nat.lt_of_lt_of_le (h.set s k).1 hs, (hc s k 0).trans (h.set s k).2⟩, fun s k => ?_, fun s k => (hc s k 2).trans (h.given s k)⟩
  obtain ⟨nv, h1, h2⟩ := h.near s k
  exact ⟨nv, (hc s k 1).trans h1, h2.keep hs hb hno⟩

set_option maxHeartbeats 6400000 in
set_option maxRecDepth 100000 in
theorem implCompsIn (m : Nat) (ns : List Nat) (F : Nat → Bool) (v : Value) (w : World) (hc : Cls m ns) (hv : vldB m (toI ns) = true) (hF : Fst ns F) (h : Rd w v (toI ns)) :
    Calls Try.prog 58 #[.agg #[.int .i64 m, v]] w fun e w' => e = .returned (.int .i64 (cmTo F ns.length : Nat)) ∧ Below w.heap.size w w' := by
  have H := Lib.hid h
  obtain ⟨a, b, off, cap, rfl, h1, h3, h5⟩ := h
  rw [toI_length] at H h1 h3 h5 ⊢
  have HV := Lib.hid (fun w h => implValid m (.slice a ns.length cap) (toI ns) w h)
  rw [hv] at HV
  have HN := Lib.hid (fun w h => implNodesOf m ns (.slice a ns.length cap) w hc h)
  have HD := Lib.hid (fun bl nv s (hs : s ∈ ns) w h => implDistances bl m ns nv s w hc h hs)
  have HL := Lib.hid (fun i (hi : i < ns.length) j (hj : j < ns.length) d => dst_set hc hi hj (d := d))
  have HF := Lib.hid hF
  have H32 := Lib.hid hc.lt32
  have hl := hc.length
  have B0 := Lib.hid (Box.made m (.slice a ns.length cap) w 28)
  clear h1 h5 hv hc hF
  go_enter Try.func58, Try.ntmps58
  go_wp2_with fail
  refine (HV.out _ (H.out.below (k := w.heap.size) (by go_grown) (Nat.le_refl _))).mono ?_
  rintro e w1 ⟨rfl, hb⟩
  have B1 := Lib.hid (B0.out.next (by simp) hb)
  have hs1 : w.heap.size < w1.heap.size := by have := hb.size; simp at this; omega
  clear hb B0
  go_upto_region 4 with (fail)
  have M1 := Lib.hid (Pb.of_false (w := w1))
  have Y1 := Lib.hid ((Below.refl w1.heap.size w1).alloc (Nat.le_refl _) (.cells #[.bool false, .bool false, .bool false, .bool false, .bool false, .bool false, .bool false, .bool false, .bool false, .bool false, .bool false, .bool false, .bool false, .bool false, .bool false, .bool false, .bool false, .bool false, .bool false, .bool false, .bool false, .bool false, .bool false, .bool false, .bool false, .bool false, .bool false, .bool false, .bool false, .bool false, .bool false, .bool false] 78))
  have hsz1 : w1.heap.size < (w1.alloc (.cells #[.bool false, .bool false, .bool false, .bool false, .bool false, .bool false, .bool false, .bool false, .bool false, .bool false, .bool false, .bool false, .bool false, .bool false, .bool false, .bool false, .bool false, .bool false, .bool false, .bool false, .bool false, .bool false, .bool false, .bool false, .bool false, .bool false, .bool false, .bool false, .bool false, .bool false, .bool false, .bool false] 78)).heap.size := by simp
  generalize w1.alloc (.cells #[.bool false, .bool false, .bool false, .bool false, .bool false, .bool false, .bool false, .bool false, .bool false, .bool false, .bool false, .bool false, .bool false, .bool false, .bool false, .bool false, .bool false, .bool false, .bool false, .bool false, .bool false, .bool false, .bool false, .bool false, .bool false, .bool false, .bool false, .bool false, .bool false, .bool false, .bool false, .bool false] 78) = w1b at *
  obtain ⟨hm, hhm⟩ : ∃ hm, hm = w1.heap.size := ⟨_, rfl⟩
  rw [← hhm] at M1 hsz1 ⊢
  have B1b := Lib.hid (B1.out.next hs1 Y1.out)
  have hwm : w.heap.size < hm := by omega
  clear hhm Y1 B1
  have c0 := B1b.out.at0
  have c1 := B1b.out.at1
  go_wp2_with fail
  refine (HN.out _ (H.out.below B1b.out.below (Nat.le_refl _))).mono ?_
  rintro e w2 ⟨bl, v2, rfl, hnd, hb2⟩
  have B2 := Lib.hid (B1b.out.next (by omega) hb2)
  have hs2 : hm < w2.heap.size := by have := hb2.size; omega
  have M2 := Lib.hid (M1.out.keep (hb2.block hm hsz1))
  have ND := Lib.hid hnd
  have HBL := Lib.hid (fun s (hs : s ∈ ns) => (hnd.set s hs).1)
  obtain ⟨na, nb, noff, ncap, rfl, hn1, _, hn3⟩ := hnd.row
  rw [List.length_map] at hn1 hn3 ND ⊢
  have hn1' := Lib.hid hn1
  clear hn1 hn3 hnd hb2 c0 c1 M1
  go_wp2_with fail
  go_loopw [4, 15] (fun n q wr => ∃ (i : Nat) (P : Nat → Bool), i ≤ ns.length ∧ q = .int .i64 i ∧ n = .int .i64 (cmTo F i : Nat) ∧ Hid (Mkd ns i P) ∧ Pb wr hm 32 (fun t => .bool (P t)) 78 ∧ Below hm w2 wr ∧ (∀ b, b < w2.heap.size → b ≠ hm → wr.heap[b]? = w2.heap[b]?)) (fun _ q _ => ns.length - (intOf q).toNat)
  case atStart => exact ⟨0, _, Nat.zero_le _, rfl, rfl, Lib.hid (Mkd.zero ns), M2.out, Below.refl _ _, fun _ _ _ => rfl⟩
  case round =>
    obtain ⟨i, P, hi, rfl, rfl, MK, hpb, hbe, hfr⟩ := hrel
    have PB := Lib.hid hpb
    have BE := Lib.hid hbe
    have FR := Lib.hid hfr
    have hz2 := hbe.size
    have hcl := cmTo_le F i
    have NDr := Lib.hid (ND.out.keep M2.out hbe.size hfr)
    clear hpb hbe hfr
    by_cases hil : i < ns.length
    · have hxm := getD_of_lt hil
      have hx32 := H32.out _ hxm
      obtain ⟨na2, nb2, noff2, ncap2, e9, hn1, -, hn3⟩ := NDr.out.row
      rw [List.length_map] at e9 hn1 hn3
      simp only [Value.slice.injEq] at e9
      obtain ⟨rfl, -, rfl⟩ := e9
      obtain ⟨rfl, hnl⟩ := hn1 (by omega)
      have hp0 : wr.cell? ⟨nb2, noff2 + i, none⟩ = some (.pointer (some ⟨bl (ns.getD i 0), 0, none⟩)) := (hn3 i hil).trans (by rw [mapbl_getD hil]; rfl)
      obtain ⟨hxl, hx0⟩ := NDr.out.set _ hxm
      have HDi := Lib.hid (HD.out bl _ _ hxm _ NDr.out)
      have HLi := Lib.hid (fun j hj d => HL.out i hil j hj d)
      have HFi := Lib.hid (MK.out.first hil HF.out)
      have HSk := Lib.hid (fun hp => MK.out.skip hil hp)
      have HNx := Lib.hid (fun (st : Nat → Int) hs => MK.out.next (i := i) (st := st) hs)
      have HSc := Lib.hid (cmTo_succ F i)
      have hiI : (i : Int) < (ns.length : Int) := by omega
      have hcm := (PB.out.cell hx32).1
      clear hn1 hn3 hxm
      generalize cmTo F i = c at *
      obtain ⟨x, hxe⟩ : ∃ x, x = ns.getD i 0 := ⟨_, rfl⟩
      rw [← hxe] at hp0 HDi hxl hx0 hx32 HFi HSk hcm
      have HXE := Lib.hid hxe
      have hxI : (x : Int) < 32 := by omega
      clear hxe
      cases hpx : P x with
      | true =>
        rw [hpx] at hcm
        have HSt := Lib.hid (show cmTo F (i + 1) = c from by rw [HSc.out, HFi.out, hpx]; rfl)
        have HMk := Lib.hid (HSk.out hpx)
        clear hpx
        go_wp2_with fail
        go_roundw
        case rel => exact ⟨i + 1, P, by omega, by go_num, by rw [HSt.out], HMk, PB.out, BE.out, FR.out⟩
        case measure => simp [intOf]; omega
      | false =>
        rw [hpx] at hcm
        have HSt := Lib.hid (show cmTo F (i + 1) = c + 1 from by rw [HSc.out, HFi.out, hpx]; rfl)
        clear hpx
        go_wp2_with fail
        refine HDi.out.mono ?_
        rintro e w3 ⟨st, rfl, hst, hb3⟩
        have HMk := Lib.hid (HNx.out st (fun j hj => HLi.out j hj _ (by have := hst (ns.getD j 0); rw [HXE.out] at this; exact this)))
        have hz3 := hb3.size
        have hml := PB.out.lt
        have PB3 := Lib.hid (PB.out.keep (hb3.block hm hml))
        have BE3 := Lib.hid (BE.out.trans (hb3.mono (by omega)))
        have FR3 := Lib.hid (show ∀ b, b < w2.heap.size → b ≠ hm → w3.heap[b]? = w2.heap[b]? from fun b h1 h2 => (hb3.block b (by omega)).trans (FR.out b h1 h2))
        clear hst hb3 hp0 hx0 hcm
        go_wp2_with fail
        go_loopw [29] (fun q wq => ∃ k : Nat, k ≤ 32 ∧ q = .int .i64 k ∧ Pb wq hm 32 (fun t => .bool (if t < k then (P t || decide (0 ≤ st t)) else P t)) 78 ∧ Below hm w2 wq ∧ (∀ b, b < w2.heap.size → b ≠ hm → wq.heap[b]? = w2.heap[b]?)) (fun q _ => 32 - (intOf q).toNat)
        case atStart => exact ⟨0, Nat.zero_le _, rfl, PB3.out.congr (fun t _ => by simp), BE3.out, FR3.out⟩
        case round =>
          obtain ⟨k, hk, rfl, hpq, hbq, hfq⟩ := hrel
          have PQ := Lib.hid hpq
          have BQ := Lib.hid hbq
          have FQ := Lib.hid hfq
          clear hpq hbq hfq
          by_cases hk32 : k < 32
          · have hkI : (k : Int) < 32 := by omega
            have hix : ∀ w, Sem.run Try.prog (Instr.index 75 (.agg (tbC st)) (.int .i64 (k : Int))) w = .ok (.int .i64 (st k)) w := fun w => run_indexT st k hk32 w
            obtain ⟨hq1, hq2⟩ := PQ.out.cell hk32
            rw [if_neg (Nat.lt_irrefl k)] at hq1
            have HST := Lib.hid (fun (u : Bool) (hu : u = (P k || decide (0 ≤ st k))) => (PQ.out.set k (.bool u)).congr (g := fun t => .bool (if t < k + 1 then (P t || decide (0 ≤ st t)) else P t)) (fun t _ => by
              by_cases e : t = k
              · subst e; simp [hu]
              · by_cases h2 : t < k
                · simp [e, h2, show t < k + 1 by omega]
                · simp [e, h2, show ¬ t < k + 1 by omega]))
            have HFQ := Lib.hid (fun (u : Value) => show ∀ b, b < w2.heap.size → b ≠ hm → (wr.setCell ⟨hm, k, none⟩ u).heap[b]? = w2.heap[b]? from fun b h1 h2 => (heap_setCell_other wr ⟨hm, k, none⟩ b u h2).trans (FQ.out b h1 h2))
            have HBQ := Lib.hid (fun (u : Value) => BQ.out.setCell (p := ⟨hm, k, none⟩) (Nat.le_refl _) u)
            cases hpk : P k with
            | true =>
              rw [hpk] at hq1 HST
              clear hpk
              go_wp2_with fail
              go_roundw
              case rel => exact ⟨k + 1, by omega, by go_num, HST.out true (by simp), HBQ.out _, HFQ.out _⟩
              case measure => simp [intOf]; omega
            | false =>
              rw [hpk] at hq1 HST
              clear hpk
              by_cases hz : 0 ≤ st k
              · have hd : decide (0 ≤ st k) = true := decide_eq_true hz
                rw [hd] at HST
                generalize st k = z at *
                go_wp2_with fail
                go_roundw
                case rel => exact ⟨k + 1, by omega, by go_num, HST.out true (by simp), HBQ.out _, HFQ.out _⟩
                case measure => simp [intOf]; omega
              · have hd : decide (0 ≤ st k) = false := decide_eq_false hz
                rw [hd] at HST
                generalize st k = z at *
                go_wp2_with fail
                go_roundw
                case rel => exact ⟨k + 1, by omega, by go_num, HST.out false (by simp), HBQ.out _, HFQ.out _⟩
                case measure => simp [intOf]; omega
          · have e32 : k = 32 := by omega
            have PE := Lib.hid (PQ.out.congr (g := fun t => .bool (P t || decide (0 ≤ st t))) (fun t ht => by rw [if_pos (by omega)]))
            clear e32
            go_wp2_with fail
            go_roundw
            case rel => exact ⟨i + 1, _, by omega, by go_num, by rw [HSt.out]; first | rfl | go_num, HMk, PE.out, BQ.out, FQ.out⟩
            case measure => simp [intOf]; omega
    · obtain rfl : i = ns.length := by omega
      go_wp2_with fail
      go_ret
      exact ⟨rfl, B2.out.below.trans (BE.out.mono (by omega))⟩

end Go.Proofs.Ytbjaacppomobeaa
