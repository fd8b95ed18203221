/- OutdegreeOf, the program's. Conditions: Sets is a slice of ints. -/
import Derived.Test.YtpkilacappjkhaaEdgS
import Derived.Test.YtpkilacappjkhaaOutT
namespace Go.Proofs.Ytpkilacappjkhaa
open Go.RowKit

theorem near_dup : ∀ (m : Fin 6) (s : Fin 32), ((List.range m.1).map (fun x => s.1 ^^^ 2 ^ x)).Nodup := by decide +kernel
theorem near_nodup {m s : Nat} (ns : List Nat) (hm : m ≤ 5) (hs : s < 32) : (nearTo ns s m).Nodup := (near_dup ⟨m, by omega⟩ ⟨s, hs⟩).filter _
/-- the edges met: those at the first i sets, and of the i-th one those with L -/
def Don (ns : List Nat) (m i : Nat) (L : List Nat) (E : List (Nat × Nat)) : Prop :=
  ∀ s t, (s, t) ∈ E ↔ s < t ∧ ((∃ j, j < i ∧ j < ns.length ∧ ns.getD j 0 = s ∧ t ∈ nearTo ns s m) ∨ (i < ns.length ∧ ns.getD i 0 = s ∧ t ∈ L))
theorem Don.zero (ns : List Nat) (m : Nat) : Don ns m 0 [] [] := fun s t => ⟨fun h => (by simp at h), fun ⟨_, h⟩ => by
  rcases h with ⟨j, hj, _⟩ | ⟨_, _, h⟩
  · omega
  · simp at h⟩
theorem Don.next {ns : List Nat} {m i : Nat} {E : List (Nat × Nat)} (h : Don ns m i (nearTo ns (ns.getD i 0) m) E) (hi : i < ns.length) : Don ns m (i + 1) [] E := fun s t => by
  rw [h s t]
  constructor
  · rintro ⟨h1, ⟨j, h2, h3, h4, h5⟩ | ⟨_, h4, h5⟩⟩
    · exact ⟨h1, .inl ⟨j, by omega, h3, h4, h5⟩⟩
    · exact ⟨h1, .inl ⟨i, by omega, hi, h4, by rw [← h4]; exact h5⟩⟩
  · rintro ⟨h1, ⟨j, h2, h3, h4, h5⟩ | ⟨_, _, h5⟩⟩
    · by_cases e : j = i
      · subst e
        exact ⟨h1, .inr ⟨hi, h4, by rw [h4]; exact h5⟩⟩
      · exact ⟨h1, .inl ⟨j, by omega, h3, h4, h5⟩⟩
    · simp at h5
theorem Don.skip {ns : List Nat} {m i y : Nat} {L : List Nat} {E : List (Nat × Nat)} (h : Don ns m i L E) (hy : ¬ ns.getD i 0 < y) : Don ns m i (L ++ [y]) E := fun s t => by
  rw [h s t]
  constructor
  · rintro ⟨h1, h2 | ⟨h3, h4, h5⟩⟩
    · exact ⟨h1, .inl h2⟩
    · exact ⟨h1, .inr ⟨h3, h4, List.mem_append_left _ h5⟩⟩
  · rintro ⟨h1, h2 | ⟨h3, h4, h5⟩⟩
    · exact ⟨h1, .inl h2⟩
    · rcases List.mem_append.1 h5 with h5 | h5
      · exact ⟨h1, .inr ⟨h3, h4, h5⟩⟩
      · rw [List.mem_singleton] at h5
        omega
theorem Don.add {ns : List Nat} {m i y : Nat} {L : List Nat} {E : List (Nat × Nat)} (h : Don ns m i L E) (hi : i < ns.length) (hy : ns.getD i 0 < y) : Don ns m i (L ++ [y]) (E ++ [(ns.getD i 0, y)]) := fun s t => by
  rw [List.mem_append, List.mem_singleton, h s t]
  constructor
  · rintro (⟨h1, h2 | ⟨h3, h4, h5⟩⟩ | h6)
    · exact ⟨h1, .inl h2⟩
    · exact ⟨h1, .inr ⟨h3, h4, List.mem_append_left _ h5⟩⟩
    · simp only [Prod.mk.injEq] at h6
      obtain ⟨rfl, rfl⟩ := h6
      exact ⟨hy, .inr ⟨hi, rfl, by simp⟩⟩
  · rintro ⟨h1, h2 | ⟨h3, h4, h5⟩⟩
    · exact .inl ⟨h1, .inl h2⟩
    · rcases List.mem_append.1 h5 with h5 | h5
      · exact .inl ⟨h1, .inr ⟨h3, h4, h5⟩⟩
      · rw [List.mem_singleton] at h5
        exact .inr (by rw [h4, h5])
theorem Don.fresh {ns : List Nat} {m i y : Nat} {L : List Nat} {E : List (Nat × Nat)} (h : Don ns m i L E) (hasc : ns.Pairwise (· < ·)) (hi : i < ns.length) (hy : y ∉ L) : (ns.getD i 0, y) ∉ E := fun he => by
  obtain ⟨_, ⟨j, h2, h3, h4, _⟩ | ⟨_, _, h5⟩⟩ := (h _ _).1 he
  · have := getD_inj hasc h3 hi h4
    omega
  · exact hy h5
theorem Don.all {ns : List Nat} {m : Nat} {E : List (Nat × Nat)} (h : Don ns m ns.length [] E) (hc : Cls m ns) : ∀ s ∈ ns, ∀ t ∈ ns, s < t → adj s t = true → (s, t) ∈ E := by
  intro s hs t ht hst ha
  have hm := hc.pts
  obtain ⟨j, hj, e⟩ := List.getElem_of_mem hs
  have h1 := (adj_iff ⟨m, by omega⟩ ⟨s, hc.lt32 _ hs⟩ ⟨t, hc.lt32 _ ht⟩ (hc.lt _ hs) (hc.lt _ ht)).1 ha
  exact (h s t).2 ⟨hst, .inl ⟨j, hj, hj, by rw [List.getD_eq_getElem?_getD, List.getElem?_eq_getElem hj]; exact e, List.mem_filter.2 ⟨h1, decide_eq_true ht⟩⟩⟩
theorem near_adj {m s t : Nat} {ns : List Nat} (hc : Cls m ns) (hs : s ∈ ns) (h : t ∈ nearTo ns s m) : adj s t = true := by
  have hm := hc.pts
  have ht := near_mem h
  rw [nearTo, List.mem_filter] at h
  exact (adj_iff ⟨m, by omega⟩ ⟨s, hc.lt32 _ hs⟩ ⟨t, hc.lt32 _ ht⟩ (hc.lt _ hs) (hc.lt _ ht)).2 h.1
theorem take_next {l : List Nat} {y : Nat} (h : y < l.length) : l.take (y + 1) = l.take y ++ [l.getD y 0] := by
  rw [List.take_succ_eq_append_getElem h, List.getD_eq_getElem?_getD, List.getElem?_eq_getElem h]; rfl
theorem take_not {l : List Nat} (hn : l.Nodup) {y : Nat} (h : y < l.length) : l.getD y 0 ∉ l.take y := by
  intro hm
  obtain ⟨j, hj, e⟩ := List.getElem_of_mem hm
  rw [List.length_take] at hj
  rw [List.getElem_take, List.getD_eq_getElem?_getD, List.getElem?_eq_getElem h, Option.getD_some] at e
  exact List.pairwise_iff_getElem.1 hn j y (by omega) h (by omega) e

/-- the neighbours of a node: a row that is read and that no node is -/
def Nrow (w : World) (B : Nat) (ns : List Nat) (bl : Nat → Nat) (v : Value) (l : List Nat) : Prop :=
  ∃ (a : Option Addr) (b off cap : Nat), v = .slice a l.length cap ∧ (0 < l.length → a = some ⟨b, off, none⟩ ∧ b < B ∧ ∀ s ∈ ns, b ≠ bl s) ∧ ∀ j, j < l.length → w.cell? ⟨b, off + j, none⟩ = some (ndp (bl (l.getD j 0)))
/-- what nodesOf leaves is a state in which nothing is given -/
theorem Joined.gst {w : World} {h nb H m : Nat} {ns : List Nat} {bl : Nat → Nat} (J : Joined w h nb H ns.length m ns bl) : ∃ nv : Nat → Value, Gst w w.heap.size ns bl nv (fun _ => .slice none 0 0) (fun _ => []) ∧ ∀ s ∈ ns, Nrow w w.heap.size ns bl (nv s) (nearTo ns s m) := by
  have hx : ∀ s, ∃ v, s ∈ ns → Nb w (bl s) s v ∧ RdN w v ((nearTo ns s m).map bl) := by
    intro s
    by_cases hs : s ∈ ns
    · obtain ⟨j, hj, rfl⟩ := List.getElem_of_mem hs
      have := J.done j hj
      rw [List.getD_eq_getElem?_getD, List.getElem?_eq_getElem hj, Option.getD_some] at this
      obtain ⟨v, h1, h2⟩ := this
      exact ⟨v, fun _ => ⟨h1, h2⟩⟩
    · exact ⟨undef, fun k => absurd k hs⟩
  obtain ⟨nv, hnv⟩ := Classical.axiomOfChoice hx
  refine ⟨nv, ⟨fun s hs => (hnv s hs).1, fun s _ => NdS.nil _ _, fun s _ t _ _ => .inl rfl, fun s hs => (hnv s hs).1.lt, J.inj⟩, fun s hs => ?_⟩
  obtain ⟨a, b, off, cap, e, h1, _, h3⟩ := (hnv s hs).2
  rw [List.length_map] at e h1 h3
  refine ⟨a, b, off, cap, e, fun hp => ⟨(h1 hp).1, (h1 hp).2, fun t ht e2 => ?_⟩, fun j hj => (h3 j hj).trans (by rw [mapbl_getD hj])⟩
  have h4 := h3 0 hp
  rw [e2, cell_of_row w _ _ _ _ _ (hnv t ht).1] at h4
  match off, h4 with
  | 0, h4 => simp [ndp] at h4
  | 1, h4 =>
    simp only [Nat.reduceAdd] at h4
    have h5 := (hnv t ht).2
    obtain ⟨a', b', off', cap', e', _⟩ := h5
    rw [e'] at h4
    simp [ndp] at h4
  | 2, h4 => simp [ndp] at h4
  | off + 3, h4 => simp at h4

theorem Gvn.le {ns : List Nat} {k : Nat} {G : Nat → List Nat} {E : List (Nat × Nat)} (h : Gvn ns k G E) (hl : ns.length ≤ 32) : k ≤ 1024 := by
  rcases Nat.eq_zero_or_pos k with e | e
  · omega
  · have h1 := (h.vio (k - 1) (by omega)).lt
    have h2 : ns.length * ns.length ≤ 32 * 32 := Nat.mul_le_mul hl hl
    omega
theorem adj_self (s : Nat) : adj s s = false := by simp [adj, pc]

set_option maxHeartbeats 6400000 in
set_option maxRecDepth 100000 in
theorem implOutIn (m : Nat) (ns : List Nat) (v : Value) (w : World) (hc : Cls m ns) (hv : vldB m (toI ns) = true) (h : Rd w v (toI ns)) :
    Calls Try.prog 6 #[.agg #[.int .i64 m, v]] w fun e w' => ∃ k : Nat, e = .returned (.int .i64 (k : Int)) ∧ Odg ns k ∧ Below w.heap.size w w' := by
  have H := Lib.hid h
  obtain ⟨a, b, off, cap, rfl, h1, h3, h5⟩ := h
  rw [toI_length] at H h1 h3 h5 ⊢
  have hl := hc.length
  have hm5 := hc.pts
  have HV := Lib.hid (fun w h => implValid m (.slice a ns.length cap) (toI ns) w h)
  rw [hv] at HV
  have HN := Lib.hid (fun w h => implNodesOfJ m ns (.slice a ns.length cap) w hc h)
  have HC := Lib.hid hc
  have B0 := Lib.hid (Box.made m (.slice a ns.length cap) w 25)
  clear h1 h5 hv hc
  go_enter Try.func6, Try.ntmps6
  go_wp2_with fail
  refine (HV.out _ (H.out.below (k := w.heap.size) (by go_grown) (Nat.le_refl _))).mono ?_
  rintro e w1 ⟨rfl, hb⟩
  have B1 := Lib.hid (B0.out.next (by simp) hb)
  have hs1 : w.heap.size < w1.heap.size := by have := hb.size; simp at this; omega
  clear hb B0
  have c0 := B1.out.at0
  have c1 := B1.out.at1
  go_wp2_with fail
  refine (HN.out _ (H.out.below B1.out.below (Nat.le_refl _))).mono ?_
  rintro e w2 ⟨bl, hh, nb, HH, rfl, hJ, hHH, hb2⟩
  have B2 := Lib.hid (B1.out.next hs1 hb2).below
  clear c0 c1
  obtain ⟨nv, hg, hnr⟩ := hJ.gst
  have NR := Lib.hid hnr
  have HG0 := Lib.hid hg
  have ROW := Lib.hid hJ.row
  have hnbl : ∀ s ∈ ns, nb ≠ bl s := fun s hs => by have h1 := hJ.apart s hs; have h2 := hJ.nlt; omega
  have hbls : ∀ s ∈ ns, w.heap.size ≤ bl s := fun s hs => by have h1 := hJ.apart s hs; omega
  have hnbB := hJ.row.lt
  have HBL := Lib.hid hbls
  have HNL := Lib.hid hnbl
  obtain ⟨B, hB⟩ : ∃ B, B = w2.heap.size := ⟨_, rfl⟩
  rw [← hB] at HG0 NR hnbB
  have hBw : w.heap.size ≤ B := by have := hb2.size; omega
  have HB := Lib.hid hB
  clear hnr hg hJ hnbl hbls hb2 hB
  go_wp2_with fail
  go_loopw [15, 3] (fun i o wr => ∃ (j k : Nat) (E : List (Nat × Nat)) (gv : Nat → Value) (G : Nat → List Nat), j ≤ ns.length ∧ i = .int .i64 j ∧ o = .int .i64 k ∧ Gst wr B ns bl nv gv G ∧ Gvn ns k G E ∧ Don ns m j [] E ∧ Away B ns bl w2 wr) (fun i _ _ => ns.length - (intOf i).toNat)
  case atStart => exact ⟨0, 0, [], _, _, Nat.zero_le _, rfl, rfl, HG0.out, Gvn.nil ns, Don.zero ns m, Away.refl _ _ _ _⟩
  case round =>
    obtain ⟨j, k, E, gv, G, hj, rfl, rfl, hG, hV, hD, hA⟩ := hrel
    have GR := Lib.hid hG
    have VR := Lib.hid hV
    have DR := Lib.hid hD
    have AR := Lib.hid hA
    clear hG hV hD hA HG0
    by_cases hlt : j < ns.length
    · have hsm : ns.getD j 0 ∈ ns := getD_of_lt hlt
      have hp0 : wr.cell? ⟨nb, j, none⟩ = some (.pointer (some ⟨bl (ns.getD j 0), 0, none⟩)) := ((ROW.out.keep (AR.out.block nb hnbB HNL.out)).cell hlt).1
      have hx1 := GR.out.at1 hsm
      obtain ⟨ra, rb, roff, rcap, hnv, hr1, hr3⟩ := NR.out _ hsm
      rw [hnv] at hx1
      have HR1 := Lib.hid hr1
      have HR3 := Lib.hid hr3
      have HSM := Lib.hid hsm
      have hnl := near_len ns (ns.getD j 0) m
      have HND := Lib.hid (near_nodup ns hm5 (HC.out.lt32 _ hsm))
      have HNM := Lib.hid (fun t (ht : t ∈ nearTo ns (ns.getD j 0) m) => And.intro (near_mem ht) (near_adj HC.out hsm ht))
      have DN := Lib.hid (fun E' (h : Don ns m j (nearTo ns (ns.getD j 0) m) E') => h.next hlt)
      have DS := Lib.hid (fun L E' y (h : Don ns m j L E') hy => h.skip (y := y) hy)
      have DA := Lib.hid (fun L E' y (h : Don ns m j L E') hy => h.add (y := y) hlt hy)
      have DF := Lib.hid (fun L E' y (h : Don ns m j L E') hy => h.fresh (y := y) HC.out.asc hlt hy)
      clear hsm hr1 hr3 hnv
      generalize nearTo ns (ns.getD j 0) m = l at *
      generalize ns.getD j 0 = x at *
      go_wp2_with fail
      clear hp0 hx1
      go_loopw [24, 3] (fun i o wq => ∃ (y k : Nat) (E : List (Nat × Nat)) (gv : Nat → Value) (G : Nat → List Nat), y ≤ l.length ∧ i = .int .i64 y ∧ o = .int .i64 k ∧ Gst wq B ns bl nv gv G ∧ Gvn ns k G E ∧ Don ns m j (l.take y) E ∧ Away B ns bl w2 wq) (fun i _ _ => l.length - (intOf i).toNat)
      case atStart => exact ⟨0, k, E, gv, G, Nat.zero_le _, rfl, rfl, GR.out, VR.out, DR.out, AR.out⟩
      case round =>
        obtain ⟨y, k, E, gv, G, hy, rfl, rfl, hG, hV, hD, hA⟩ := hrel
        have GQ := Lib.hid hG
        have VQ := Lib.hid hV
        have DQ := Lib.hid hD
        have AQ := Lib.hid hA
        have hk9 := hV.le hl
        have hzq := hA.size
        clear hG hV hD hA GR VR DR AR
        by_cases hyl : y < l.length
        · obtain ⟨rfl, hrb, hrn⟩ := HR1.out (by omega)
          have htm : l.getD y 0 ∈ l := getD_of_lt hyl
          obtain ⟨htn, hta⟩ := HNM.out _ htm
          have hp0 : wr.cell? ⟨rb, roff + y, none⟩ = some (.pointer (some ⟨bl (l.getD y 0), 0, none⟩)) := (World.cell?_of_block (w := w2) (w' := wr) (a := ⟨rb, roff + y, none⟩) (AQ.out.block rb hrb hrn)).trans (HR3.out y hyl)
          have HTK := Lib.hid (take_next hyl)
          have HTN := Lib.hid (take_not HND.out hyl)
          have hcx := GQ.out.at0 HSM.out
          have hct := GQ.out.at0 htn
          have HT := Lib.hid htn
          have HTA := Lib.hid hta
          have hxt : x ≠ l.getD y 0 := fun e => by rw [← e, adj_self] at hta; cases hta
          clear htm htn hta
          generalize l.getD y 0 = t at *
          have hyI : (y : Int) < (l.length : Int) := by omega
          by_cases hgt : t < x
          · have hgI : (t : Int) < (x : Int) := by omega
            have DS2 := Lib.hid (show Don ns m j (l.take (y + 1)) E by rw [HTK.out]; exact DS.out _ _ _ DQ.out (by omega))
            clear hgt
            go_wp2_with fail
            clear hp0
            go_region_held3 (fun w' => w'.cell? ⟨bl x, 0, none⟩ = some (.int .i64 (x : Int)) ∧ w'.cell? ⟨bl t, 0, none⟩ = some (.int .i64 (t : Int))) (first | exact ⟨hcx, hct⟩ | go_keep) (fail)
            go_wp2_with fail
            go_roundw
            case rel => exact ⟨y + 1, k, E, gv, G, by omega, by go_num, rfl, GQ.out.drew, VQ.out, DS2.out, ⟨AQ.out.os, AQ.out.tape, AQ.out.output, AQ.out.size, AQ.out.block⟩⟩
            case measure => simp [intOf]; omega
          · have hgI : ¬ (t : Int) < (x : Int) := by omega
            have hxlt : x < t := by omega
            have DA2 := Lib.hid (show Don ns m j (l.take (y + 1)) (E ++ [(x, t)]) by rw [HTK.out]; exact DA.out _ _ _ DQ.out hxlt)
            have DF2 := Lib.hid (DF.out _ _ _ DQ.out HTN.out)
            have G5 := Lib.hid (GQ.out.alloc (.cells #[.bool false, .bool false, .bool false, .bool false, .bool false, .bool false, .bool false, .bool false, .bool false, .bool false, .bool false, .bool false, .bool false, .bool false, .bool false, .bool false, .bool false, .bool false, .bool false, .bool false, .bool false, .bool false, .bool false, .bool false, .bool false, .bool false, .bool false, .bool false, .bool false, .bool false, .bool false, .bool false] 46)).drew
            have P5 := Lib.hid (show Pb (wr.alloc (.cells #[.bool false, .bool false, .bool false, .bool false, .bool false, .bool false, .bool false, .bool false, .bool false, .bool false, .bool false, .bool false, .bool false, .bool false, .bool false, .bool false, .bool false, .bool false, .bool false, .bool false, .bool false, .bool false, .bool false, .bool false, .bool false, .bool false, .bool false, .bool false, .bool false, .bool false, .bool false, .bool false] 46)).drew wr.heap.size 32 _ _ from Pb.of_no (w := wr))
            have A5 := Lib.hid (show Away B ns bl w2 (wr.alloc (.cells #[.bool false, .bool false, .bool false, .bool false, .bool false, .bool false, .bool false, .bool false, .bool false, .bool false, .bool false, .bool false, .bool false, .bool false, .bool false, .bool false, .bool false, .bool false, .bool false, .bool false, .bool false, .bool false, .bool false, .bool false, .bool false, .bool false, .bool false, .bool false, .bool false, .bool false, .bool false, .bool false] 46)).drew from AQ.out.next ((Below.refl B wr).alloc (by have := HB.out; omega) _).drew)
            have HZ5 := Lib.hid (show wr.heap.size ≤ (wr.alloc (.cells #[.bool false, .bool false, .bool false, .bool false, .bool false, .bool false, .bool false, .bool false, .bool false, .bool false, .bool false, .bool false, .bool false, .bool false, .bool false, .bool false, .bool false, .bool false, .bool false, .bool false, .bool false, .bool false, .bool false, .bool false, .bool false, .bool false, .bool false, .bool false, .bool false, .bool false, .bool false, .bool false] 46)).drew.heap.size by show wr.heap.size ≤ (wr.alloc (.cells #[.bool false, .bool false, .bool false, .bool false, .bool false, .bool false, .bool false, .bool false, .bool false, .bool false, .bool false, .bool false, .bool false, .bool false, .bool false, .bool false, .bool false, .bool false, .bool false, .bool false, .bool false, .bool false, .bool false, .bool false, .bool false, .bool false, .bool false, .bool false, .bool false, .bool false, .bool false, .bool false] 46)).heap.size; simp)
            clear hgt
            go_wp2_with fail
            clear hp0
            go_region_held3 (fun w' => w'.cell? ⟨bl x, 0, none⟩ = some (.int .i64 (x : Int)) ∧ w'.cell? ⟨bl t, 0, none⟩ = some (.int .i64 (t : Int))) (first | exact ⟨hcx, hct⟩ | go_keep) (fail)
            go_upto_region 12 with (fail)
            generalize (wr.alloc (.cells #[.bool false, .bool false, .bool false, .bool false, .bool false, .bool false, .bool false, .bool false, .bool false, .bool false, .bool false, .bool false, .bool false, .bool false, .bool false, .bool false, .bool false, .bool false, .bool false, .bool false, .bool false, .bool false, .bool false, .bool false, .bool false, .bool false, .bool false, .bool false, .bool false, .bool false, .bool false, .bool false] 46)).drew = w5 at *
            have hz5 := HZ5.out
            replace P5 := Lib.hid (show Pb w5 wr.heap.size 32 (fun s => .bool ((fun _ => false) s)) 46 from P5.out)
            have hzB : B ≤ wr.heap.size := by have := HB.out; omega
            have T1 := Lib.hid (implTakes B wr.heap.size k ns bl nv (by omega) hzB HC.out.lt32 _ x t gv G (fun _ => false) w5 (Nat.lt_succ_self _) HSM.out HT.out hxt G5.out VQ.out.ok P5.out (by omega))
            have hxt' : t ≠ x := fun e => hxt e.symm
            have T2 := Lib.hid (fun K1 w6 hG1 hP1 hz6 => implTakes B wr.heap.size k ns bl nv (by omega) hzB HC.out.lt32 _ t x gv G K1 w6 (Nat.lt_succ_self _) HT.out HSM.out hxt' hG1 VQ.out.ok hP1 hz6)
            have T3 := Lib.hid (fun K2 w7 (hV' : Gvn ns (k + 1) G E) hG2 hP2 hz7 hle => implTakesFew B wr.heap.size (k + 1) ns bl nv gv x t G K2 w7 (by omega) hzB HSM.out HT.out hxt hG2 hV'.ok hP2 hz7 hle)
            have M1 := Lib.hid (fun G1 K0 (h : Took ns k x t G G1 K0) => VQ.out.took (.inl h) hxlt HTA.out DF2.out)
            have M2 := Lib.hid (fun G1 K0 (h : Took ns k t x G G1 K0) => VQ.out.took (.inr h) hxlt HTA.out DF2.out)
            have M3 := Lib.hid (fun K1 K2 h1 h2 => VQ.out.more (K := K1) (K2 := K2) (asc_nodup HC.out.asc) h1 h2 HSM.out HT.out hxlt HTA.out DF2.out)
            have M4 := Lib.hid (fun G1 K0 (hV' : Gvn ns (k + 1) G E) (h : Took ns (k + 1) x t G G1 K0) => hV'.took (.inl h) hxlt HTA.out DF2.out)
            have hGx := (VQ.out.ok x HSM.out).1
            clear hcx hct
            go_wp2_with fail
            refine T1.out.mono ?_
            rintro e w6 ⟨K1, hP1, hA1, ⟨rfl, G1, gv1, hG1, hT1, -⟩ | ⟨rfl, hG1, hV1, -⟩⟩
            · have V6 := Lib.hid (M1.out _ _ hT1)
              have G6 := Lib.hid hG1
              have A6 := Lib.hid (A5.out.trans hA1)
              clear hP1 hA1 hG1 hT1
              go_wp2_with fail
              go_roundw
              case rel => exact ⟨y + 1, k, _, gv1, G1, by omega, by go_num, rfl, G6.out, V6.out, DA2.out, A6.out⟩
              case measure => simp [intOf]; omega
            · have V6 := Lib.hid hV1
              have G6 := Lib.hid hG1
              have P6 := Lib.hid hP1
              have A6 := Lib.hid (A5.out.trans hA1)
              have hz6 := hA1.size
              clear hP1 hA1 hG1 hV1
              go_wp2_with fail
              refine (T2.out K1 w6 G6.out P6.out (by omega)).mono ?_
              rintro e w7 ⟨K2, hP2, hA2, ⟨rfl, G2, gv2, hG2, hT2, -⟩ | ⟨rfl, hG2, hV2, -⟩⟩
              · have V7 := Lib.hid (M2.out _ _ hT2)
                have G7 := Lib.hid hG2
                have A7 := Lib.hid (A6.out.trans hA2)
                clear hP2 hA2 hG2 hT2
                go_wp2_with fail
                go_roundw
                case rel => exact ⟨y + 1, k, _, gv2, G2, by omega, by go_num, rfl, G7.out, V7.out, DA2.out, A7.out⟩
                case measure => simp [intOf]; omega
              · have V7 := Lib.hid (M3.out K1 K2 V6.out hV2)
                have G7 := Lib.hid hG2
                have P7 := Lib.hid hP2
                have A7 := Lib.hid (A6.out.trans hA2)
                have hz7 := hA2.size
                have T4 := Lib.hid (T3.out K2 w7 V7.out G7.out P7.out (by omega) (by omega))
                obtain ⟨k1, hk1⟩ : ∃ k1, k1 = k + 1 := ⟨_, rfl⟩
                rw [← hk1] at T4 M4 V7
                have HK1 := Lib.hid (show (k : Int) + 1 = ((k1 : Nat) : Int) by omega)
                clear hP2 hA2 hG2 hV2 hk1
                go_wp2_with fail
                rw [HK1.out]
                refine T4.out.mono ?_
                rintro e w8 ⟨G3, gv3, rfl, -, hA3, hG3, hT3, -⟩
                have V8 := Lib.hid (M4.out _ _ V7.out hT3)
                have G8 := Lib.hid hG3
                have A8 := Lib.hid (A7.out.trans hA3)
                clear hA3 hG3 hT3
                go_wp2_with fail
                go_roundw
                case rel => exact ⟨y + 1, k1, _, gv3, G3, by omega, by go_num, rfl, G8.out, V8.out, DA2.out, A8.out⟩
                case measure => simp [intOf]; omega
        · obtain rfl : y = l.length := by omega
          have hyI : ¬ (l.length : Int) < (l.length : Int) := by omega
          have DN2 := Lib.hid (DN.out E (by have := DQ.out; rw [List.take_length] at this; exact this))
          go_wp2_with fail
          go_roundw
          case rel => exact ⟨j + 1, k, E, gv, G, by omega, by go_num, rfl, GQ.out, VQ.out, DN2.out, AQ.out⟩
          case measure => simp [intOf]; omega
    · obtain rfl : j = ns.length := by omega
      have OD := Lib.hid (VR.out.odg (DR.out.all HC.out))
      go_wp2_with fail
      go_ret
      exact ⟨k, rfl, OD.out, B2.out.trans (AR.out.below hBw HBL.out)⟩

set_option maxHeartbeats 1600000 in
set_option maxRecDepth 100000 in
theorem implOutNo (n : Int) (v : Value) (zs : List Int) (w : World) (hv : vldB n zs = false) (h : Rd w v zs) :
    Calls Try.prog 6 #[.agg #[.int .i64 n, v]] w fun e w' => e = .returned (.int .i64 (-1)) ∧ Below w.heap.size w w' := by
  have H := Lib.hid h
  obtain ⟨a, b, off, cap, rfl, _, _, _⟩ := h
  have HV := Lib.hid (fun w h => implValid n (.slice a zs.length cap) zs w h)
  rw [hv] at HV
  have B0 := Lib.hid (Box.made n (.slice a zs.length cap) w 25)
  generalize hL : zs.length = L at *
  clear hv hL
  go_enter Try.func6, Try.ntmps6
  go_wp2_with fail
  refine (HV.out _ (H.out.below (k := w.heap.size) (by go_grown) (Nat.le_refl _))).mono ?_
  rintro e w1 ⟨rfl, hb⟩
  have B1 := Lib.hid (B0.out.next (by simp) hb)
  clear hb B0
  go_wp2_with fail
  go_ret
  exact ⟨rfl, B1.out.below⟩

end Go.Proofs.Ytpkilacappjkhaa
