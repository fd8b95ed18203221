/- The laws' marks on lists of lists: eqIntSS, markIntSS, heldIntSS. Conditions: what the slices hold. -/
import Derived.Deep.RegionHeld3
import Derived.Test.YthmipnflbiclbaaDoorLyOI
import Derived.Test.YthmipnflbiclbaaDoorZB
namespace Go.Proofs.YthmipnflbiclbaaDoor
open Go.RowKit

/-- the slice v reads as the lists Ps -/
def RdLy (w : World) (v : Value) (Ps : List (List Int)) : Prop := ∃ bs, RdLs w v bs ∧ bs.length = Ps.length ∧ ∀ i, i < bs.length → Rd w (slv (bs.getD i sl0)) (Ps.getD i [])
theorem RdLy.below {k : Nat} {w w' : World} {v : Value} {Ps : List (List Int)} (h : RdLy w v Ps) (hb : Below k w w') (hk : w.heap.size ≤ k) : RdLy w' v Ps := by
  obtain ⟨bs, h1, h2, h3⟩ := h
  exact ⟨bs, h1.below hb hk, h2, fun i hi => (h3 i hi).below hb hk⟩
/-- the slice v is owned, and so are the lists in it, no two of which share a block -/
structure LyI (B : Nat) (w : World) (v : Value) (bs : List Sl) (Ps : List (List Int)) : Prop where
  out : LsS B w v bs
  len : bs.length = Ps.length
  ins : ∀ i, i < bs.length → Ints B w (slv (bs.getD i sl0)) (Ps.getD i [])
  far : ∀ i j, i < bs.length → j < bs.length → i ≠ j → (bs.getD i sl0).g ≠ (bs.getD j sl0).g
theorem LyI.rd {B : Nat} {w : World} {v : Value} {bs : List Sl} {Ps : List (List Int)} (h : LyI B w v bs Ps) : RdLy w v Ps := ⟨bs, h.out.rd, h.len, fun i hi => (h.ins i hi).rd⟩
theorem LyI.below {B k : Nat} {w w' : World} {v : Value} {bs : List Sl} {Ps : List (List Int)} (h : LyI B w v bs Ps) (hb : Below k w w') (hk : w.heap.size ≤ k) : LyI B w' v bs Ps := ⟨h.out.below hb hk, h.len, fun i hi => (h.ins i hi).below hb hk, h.far⟩
theorem ownBlock_slv (s : Sl) : (slv s).ownBlock = some s.g := rfl
/-- what is written below B is not seen -/
theorem LyI.low {B : Nat} {w w' : World} {v : Value} {bs : List Sl} {Ps : List (List Int)} {row : Option Nat} (h : LyI B w v bs Ps) (hg : w.grownBy w' row) (hr : ∀ r, row = some r → r < B) : LyI B w' v bs Ps := by
  refine ⟨World.ownsRow.kept h.out hg ?_, h.len, fun i hi => (h.ins i hi).kept hg ?_, h.far⟩
  · by_cases e : v.ownBlock = none
    · exact .inl e
    · refine .inr (fun e2 => ?_)
      cases hv : v.ownBlock with
      | none => exact e hv
      | some r => exact own_ne h.out (hr r (e2 ▸ hv)) hv.symm
  · refine .inr (fun e2 => ?_)
    rw [ownBlock_slv] at e2
    have h1 := ((h.ins i hi).lt _ (ownBlock_slv _)).1
    have h2 := hr _ e2.symm
    omega
/-- one list is written anew -/
theorem LyI.put {B i : Nat} {w w' : World} {v : Value} {bs : List Sl} {Ps : List (List Int)} {zs : List Int} (h : LyI B w v bs Ps) (hi : i < bs.length) (hg : w.grownBy w' (some (bs.getD i sl0).g)) (hz : Ints B w' (slv (bs.getD i sl0)) zs) : LyI B w' v bs (Ps.set i zs) := by
  refine ⟨World.ownsRow.kept h.out hg ?_, by rw [List.length_set]; exact h.len, fun j hj => ?_, h.far⟩
  · have h1 := ls_apart h.out (h.ins i hi)
    rw [ownBlock_slv] at h1
    rcases h1 with h1 | h1
    · cases h1
    · exact .inr (fun e => h1 e.symm)
  · by_cases e : i = j
    · subst e
      rw [show (Ps.set i zs).getD i [] = zs by rw [List.getD_eq_getElem?_getD, List.getElem?_set, if_pos rfl, if_pos (by rw [← h.len]; exact hi)]; rfl]
      exact hz
    · rw [show (Ps.set i zs).getD j [] = Ps.getD j [] by rw [List.getD_eq_getElem?_getD, List.getElem?_set, if_neg e, ← List.getD_eq_getElem?_getD]]
      refine (h.ins j hj).kept hg (.inr (fun e2 => ?_))
      rw [ownBlock_slv] at e2
      exact h.far i j hi hj e (Option.some.inj e2).symm
/-- the layers' sets -/
def lyZ (P : List (List Nat × List Nat)) : List (List Int) := P.map (fun p => toI p.1)
theorem lyZ_at {P : List (List Nat × List Nat)} {i : Nat} (hi : i < P.length) : (lyZ P).getD i [] = toI (P.getD i ([], [])).1 := by simp [lyZ, List.getD_eq_getElem?_getD, hi]
theorem LyR.rd {B : Nat} {w : World} {a : Option Addr} {cap : Nat} {bs : List Sl} {P : List (List Nat × List Nat)} (h1 : LsS B w (.slice a bs.length cap) bs) (h2 : LyR B w bs P) : RdLy w (.slice a bs.length cap) (lyZ P) :=
  ⟨bs, h1.rd, by rw [lyZ, List.length_map]; exact h2.1, fun i hi => by rw [lyZ_at (by rw [← h2.1]; exact hi)]; exact (h2.2 i hi).rd⟩
/-- where the marks of the first i lists end -/
def mkS (k : Nat) (Ps : List (List Int)) (i : Nat) : Nat := k + ((Ps.take i).map List.length).sum
theorem mkS_zero (k : Nat) (Ps : List (List Int)) : mkS k Ps 0 = k := by simp [mkS]
theorem mkS_succ (k : Nat) (Ps : List (List Int)) {i : Nat} (hi : i < Ps.length) : mkS k Ps (i + 1) = mkS k Ps i + (Ps.getD i []).length := by
  rw [mkS, mkS, List.take_succ_eq_append_getElem hi, List.map_append, List.sum_append, List.getD_eq_getElem?_getD, List.getElem?_eq_getElem hi]
  simp; omega
theorem mkS_le (k : Nat) (Ps : List (List Int)) (i : Nat) : mkS k Ps i ≤ mkS k Ps Ps.length := by
  have h : ((Ps.take i).map List.length).sum + ((Ps.drop i).map List.length).sum = (Ps.map List.length).sum := by
    rw [← List.sum_append, ← List.map_append, List.take_append_drop]
  rw [mkS, mkS, List.take_length]
  omega
/-- the first i lists are marked -/
def mkL (k : Nat) (Ps : List (List Int)) (i : Nat) : List (List Int) := (List.range Ps.length).map (fun j => if j < i then ramp (mkS k Ps j) (Ps.getD j []).length else Ps.getD j [])
theorem mkL_len (k : Nat) (Ps : List (List Int)) (i : Nat) : (mkL k Ps i).length = Ps.length := by simp [mkL]
theorem mkL_at (k : Nat) (Ps : List (List Int)) (i : Nat) {j : Nat} (hj : j < Ps.length) : (mkL k Ps i).getD j [] = if j < i then ramp (mkS k Ps j) (Ps.getD j []).length else Ps.getD j [] := by
  simp [mkL, List.getD_eq_getElem?_getD, hj]
theorem mkL_zero (k : Nat) (Ps : List (List Int)) : mkL k Ps 0 = Ps := by
  apply List.ext_getElem (mkL_len k Ps 0)
  intro j h1 h2
  have h := mkL_at k Ps 0 h2
  rw [if_neg (by omega), List.getD_eq_getElem?_getD, List.getD_eq_getElem?_getD, List.getElem?_eq_getElem h1, List.getElem?_eq_getElem h2] at h
  exact h
theorem mkL_step (k : Nat) (Ps : List (List Int)) {i : Nat} (_hi : i < Ps.length) : (mkL k Ps i).set i (ramp (mkS k Ps i) (Ps.getD i []).length) = mkL k Ps (i + 1) := by
  apply List.ext_getElem (by rw [List.length_set, mkL_len, mkL_len])
  intro j h1 h2
  rw [mkL_len] at h2
  rw [List.getElem_set]
  have e1 := mkL_at k Ps i h2
  have e2 := mkL_at k Ps (i + 1) h2
  rw [List.getD_eq_getElem?_getD, List.getElem?_eq_getElem (by rw [mkL_len]; exact h2), Option.getD_some] at e1 e2
  rw [e1, e2]
  by_cases e : i = j
  · subst e
    rw [if_pos rfl, if_pos (by omega)]
  · rw [if_neg e]
    by_cases h : j < i
    · rw [if_pos h, if_pos (by omega)]
    · rw [if_neg h, if_neg (by omega)]

set_option maxHeartbeats 1600000 in
set_option maxRecDepth 100000 in
theorem eqIntSS (va vb : Value) (Ps : List (List Int)) (w : World) (ha : RdLy w va Ps) (hb : RdLy w vb Ps) :
    Calls Tryd.prog 48 #[va, vb] w fun e w' => e = .returned (.bool true) ∧ Below w.heap.size w w' := by
  obtain ⟨bs, ⟨a, ga, oa, ca, rfl, ha1, ha3, ha5⟩, hla, hra⟩ := ha
  obtain ⟨cs, ⟨b, gb, ob, cb, rfl, hb1, hb3, hb5⟩, hlb, hrb⟩ := hb
  have hlen : cs.length = bs.length := hlb.trans hla.symm
  rw [hlen] at hb1 hb3 hb5 hrb ⊢
  clear hla hlb hlen
  have HA1 := Lib.hid ha1
  have HA5 := Lib.hid ha5
  have HB1 := Lib.hid hb1
  have HB5 := Lib.hid hb5
  have HRA := Lib.hid hra
  have HRB := Lib.hid hrb
  clear ha1 ha5 hb1 hb5 hra hrb hb3
  generalize hn : bs.length = n at *
  clear hn
  go_enter Tryd.func48, Tryd.ntmps48
  go_wp2_with fail
  go_loopw [5] (fun i wr => ∃ k : Nat, k ≤ n ∧ i = .int .i64 k ∧ Below w.heap.size w wr) (fun i _ => n - (intOf i).toNat)
  case atStart => exact ⟨0, Nat.zero_le _, rfl, Below.refl _ _⟩
  case round =>
    obtain ⟨k, hk, rfl, hbe⟩ := hrel
    have HBE := Lib.hid hbe
    have hz := hbe.size
    clear hbe
    by_cases hlt : k < n
    · obtain ⟨rfl, hla⟩ := HA1.out (by omega)
      obtain ⟨rfl, hlb⟩ := HB1.out (by omega)
      have c0 := (HBE.out.cell (p := ⟨ga, oa + k, none⟩) hla).trans (HA5.out k hlt)
      have d0 := (HBE.out.cell (p := ⟨gb, ob + k, none⟩) hlb).trans (HB5.out k hlt)
      have R1 := Lib.hid ((HRA.out k hlt).below HBE.out (Nat.le_refl _))
      have R2 := Lib.hid ((HRB.out k hlt).below HBE.out (Nat.le_refl _))
      generalize slv (bs.getD k sl0) = va1 at *
      generalize slv (cs.getD k sl0) = vb1 at *
      generalize Ps.getD k [] = zs at *
      have hkI : (k : Int) < (n : Int) := by omega
      go_wp2_with fail
      go_region_held3 (fun w' => w'.cell? ⟨ga, oa + k, none⟩ = some va1 ∧ w'.cell? ⟨gb, ob + k, none⟩ = some vb1) (first | exact ⟨c0, d0⟩ | exact ⟨x0, y0⟩ | go_keep) (first | (go_at_call 100; refine (eqIntS _ _ zs zs _ (by first | exact R1.out | exact R1.out.below (k := wr.heap.size) ((Below.refl _ _).drew) (Nat.le_refl _)) (by first | exact R2.out | exact R2.out.below (k := wr.heap.size) ((Below.refl _ _).drew) (Nat.le_refl _))).mono ?_; rintro e w4 ⟨he4, hd4⟩; rw [show eqB zs zs = true by simp [eqB]] at he4; subst he4; have B34 := Lib.hid (show Below wr.heap.size wr w4 from by obtain ⟨d, rfl⟩ := hd4; first | exact below_drewN (Below.refl _ _) d | exact below_drewN ((Below.refl _ _).drew) d); clear hd4; have x0 := (B34.out.cell (p := ⟨ga, oa + k, none⟩) (by show ga < wr.heap.size; omega)).trans c0; have y0 := (B34.out.cell (p := ⟨gb, ob + k, none⟩) (by show gb < wr.heap.size; omega)).trans d0))
      go_wp2_with fail
      go_roundw
      case rel => exact ⟨k + 1, by omega, by go_num, HBE.out.trans (B34.out.mono hz)⟩
      case measure => simp [intOf]; omega
    · obtain rfl : k = n := by omega
      go_wp2_with fail
      go_ret
      exact ⟨rfl, HBE.out⟩

set_option maxHeartbeats 1600000 in
set_option maxRecDepth 100000 in
theorem markIntSS {B : Nat} (v : Value) (bs : List Sl) (Ps : List (List Int)) (k : Nat) (w : World) (h : LyI B w v bs Ps) (hB : B ≤ w.heap.size) (hk : mkS k Ps Ps.length ≤ 2097153) (hn : ∀ i, i < Ps.length → (Ps.getD i []).length ≤ 1048576) :
    Calls Tryd.prog 50 #[v, .int .i64 k] w fun e w' => e = .returned (.int .i64 (mkS k Ps Ps.length)) ∧ LyI B w' v bs (mkL k Ps Ps.length) ∧ Below B w w' := by
  have H := Lib.hid h
  have hle := h.len
  obtain ⟨a, ga, oa, ca, rfl, ha1, ha3, _⟩ := h.out.rd
  have HA1 := Lib.hid ha1
  clear h ha1
  have HN := Lib.hid hn
  have HK := Lib.hid hk
  clear hn hk
  have HK0 := Lib.hid (mkS_zero k Ps)
  have HL0 := Lib.hid (mkL_zero k Ps)
  have HKL := Lib.hid (mkS_le k Ps)
  have HKS := Lib.hid (fun i hi => mkS_succ k Ps (i := i) hi)
  have HLS := Lib.hid (fun i hi => mkL_step k Ps (i := i) hi)
  have HAT := Lib.hid (fun i (hi : i < Ps.length) => (mkL_at k Ps i hi).trans (if_neg (Nat.lt_irrefl _)))
  obtain ⟨n, hn⟩ : ∃ n, n = bs.length := ⟨_, rfl⟩
  have hnP : n = Ps.length := hn.trans hle
  rw [← hn] at H HA1 ha3 ⊢
  rw [← hnP] at HN HK HKL HKS HLS HAT ⊢
  have HNB := Lib.hid hn
  clear hn hle hnP
  go_enter Tryd.func50, Tryd.ntmps50
  go_wp2_with fail
  go_loopw [1, 5] (fun q i wr => ∃ j : Nat, j ≤ n ∧ i = .int .i64 j ∧ q = .int .i64 (mkS k Ps j) ∧ LyI B wr (.slice a n ca) bs (mkL k Ps j) ∧ Below B w wr) (fun _ i _ => n - (intOf i).toNat)
  case atStart => exact ⟨0, Nat.zero_le _, rfl, by rw [HK0.out], by rw [HL0.out]; exact H.out, Below.refl _ _⟩
  case round =>
    obtain ⟨j, hj, rfl, rfl, hin, hbe⟩ := hrel
    have HIN := Lib.hid hin
    have HBE := Lib.hid hbe
    clear hin hbe
    by_cases hlt : j < n
    · obtain ⟨rfl, hla⟩ := HA1.out (by omega)
      have hc : wr.cell? ⟨ga, oa + j, none⟩ = some (slv (bs.getD j sl0)) := by
        obtain ⟨a', g', o', c', e, h1, _, h5⟩ := HIN.out.out.rd
        have hnb := HNB.out
        obtain ⟨e1, _⟩ := h1 (by omega)
        rw [e1] at e
        simp only [Value.slice.injEq, Option.some.injEq, Addr.mk.injEq, and_true] at e
        obtain ⟨⟨rfl, rfl⟩, _⟩ := e
        exact h5 j (by omega)
      have hii := HIN.out.ins j (by have := HNB.out; omega)
      rw [HAT.out j hlt] at hii
      have hmk := HKS.out j hlt
      have HLj := Lib.hid (HLS.out j hlt)
      have hb1 := HKL.out j
      have hb2 := HKL.out (j + 1)
      have hnz := HN.out j hlt
      have hkk := HK.out
      have HI := Lib.hid (show Ints B wr (slv (bs.getD j sl0)) (Ps.getD j []) from hii)
      have HBL := Lib.hid (HIN.out.ins j (by have := HNB.out; omega))
      clear hii
      have HOB := Lib.hid (ownBlock_slv (bs.getD j sl0))
      obtain ⟨sv, hsv⟩ : ∃ sv, sv = slv (bs.getD j sl0) := ⟨_, rfl⟩
      rw [← hsv] at hc HI HOB
      have HSV := Lib.hid hsv
      clear hsv
      obtain ⟨zs, hzs⟩ : ∃ zs, zs = Ps.getD j [] := ⟨_, rfl⟩
      rw [← hzs] at HI hmk HLj hnz
      clear hzs
      obtain ⟨q0, hq0⟩ : ∃ q0, q0 = mkS k Ps j := ⟨_, rfl⟩
      obtain ⟨q1, hq1⟩ : ∃ q1, q1 = mkS k Ps (j + 1) := ⟨_, rfl⟩
      rw [← hq0] at hmk HLj hb1 ⊢
      rw [← hq1] at hmk hb2
      have HQ1 := Lib.hid hq1
      clear hq0 hq1
      have HMK := Lib.hid hmk
      have hq2 : q0 ≤ 2097153 := by omega
      clear hmk hb1 hb2 hkk
      go_wp2_with fail
      refine (markIntS (B := B) _ zs q0 _ HI.out hq2 hnz).mono ?_
      rintro e w4 ⟨rfl, hi4, hg4⟩
      rw [← HMK.out]
      have HL4 := Lib.hid (HIN.out.put (i := j) (by have := HNB.out; omega) (by rw [HOB.out] at hg4; exact hg4) (by rw [← HSV.out]; exact hi4))
      have HB4 := Lib.hid (HBE.out.grown hg4 (Nat.le_trans hB HBE.out.size) (fun r hr => (HI.out.lt r hr).1))
      clear hi4 hg4
      go_wp2_with fail
      go_roundw
      case rel => exact ⟨j + 1, by omega, by go_num, by rw [HQ1.out], by rw [← HLj.out]; exact HL4.out, HB4.out⟩
      case measure => simp [intOf]; omega
    · obtain rfl : j = n := by omega
      go_wp2_with fail
      go_ret
      exact ⟨rfl, HIN.out, HBE.out⟩

set_option maxHeartbeats 1600000 in
set_option maxRecDepth 100000 in
theorem heldIntSS (v : Value) (Ps : List (List Int)) (k : Nat) (w : World) (h : RdLy w v (mkL k Ps Ps.length)) (hk : mkS k Ps Ps.length ≤ 2097153) (hn : ∀ i, i < Ps.length → (Ps.getD i []).length ≤ 1048576) :
    Calls Tryd.prog 51 #[v, .int .i64 k] w fun e w' => e = .returned (.int .i64 (mkS k Ps Ps.length)) ∧ w' = w := by
  obtain ⟨bs, ⟨a, ga, oa, ca, rfl, ha1, ha3, ha5⟩, hle, hin⟩ := h
  rw [mkL_len] at hle
  have HA1 := Lib.hid ha1
  have HA5 := Lib.hid ha5
  have HN := Lib.hid hn
  have HK := Lib.hid hk
  have HK0 := Lib.hid (mkS_zero k Ps)
  have HKL := Lib.hid (mkS_le k Ps)
  have HKS := Lib.hid (fun i hi => mkS_succ k Ps (i := i) hi)
  have HAT := Lib.hid (fun i (hi : i < Ps.length) => (mkL_at k Ps Ps.length hi).trans (if_pos hi))
  have HIN := Lib.hid hin
  clear ha1 ha5 hn hk hin
  obtain ⟨n, hn⟩ : ∃ n, n = bs.length := ⟨_, rfl⟩
  have hnP : n = Ps.length := hn.trans hle
  rw [← hn] at HA1 ha3 HA5 HIN ⊢
  rw [← hnP] at HN HK HKL HKS HAT HIN ⊢
  clear hn hle hnP
  go_enter Tryd.func51, Tryd.ntmps51
  go_wp2_with fail
  go_loop [1, 5] (fun q i => ∃ j : Nat, j ≤ n ∧ i = .int .i64 j ∧ q = .int .i64 (mkS k Ps j)) (fun _ i => n - (intOf i).toNat)
  case atStart => exact ⟨0, Nat.zero_le _, rfl, by rw [HK0.out]⟩
  case round =>
    obtain ⟨j, hj, rfl, rfl⟩ := hrel
    by_cases hlt : j < n
    · obtain ⟨rfl, hla⟩ := HA1.out (by omega)
      have hc := HA5.out j hlt
      have hii := HIN.out j hlt
      rw [HAT.out j hlt] at hii
      have hmk := HKS.out j hlt
      have hb1 := HKL.out j
      have hb2 := HKL.out (j + 1)
      have hnz := HN.out j hlt
      have hkk := HK.out
      have HI := Lib.hid hii
      clear hii
      generalize slv (bs.getD j sl0) = sv at *
      generalize (Ps.getD j []).length = L at *
      obtain ⟨q0, hq0⟩ : ∃ q0, q0 = mkS k Ps j := ⟨_, rfl⟩
      obtain ⟨q1, hq1⟩ : ∃ q1, q1 = mkS k Ps (j + 1) := ⟨_, rfl⟩
      rw [← hq0] at hmk hb1 HI ⊢
      rw [← hq1] at hmk hb2
      have HQ1 := Lib.hid hq1
      clear hq0 hq1
      have HMK := Lib.hid hmk
      have hq2 : q0 ≤ 2097153 := by omega
      have hd9 : ¬ (q1 : Int) < 0 := by omega
      clear hmk hb1 hb2 hkk
      go_wp2_with fail
      refine (heldIntS _ L q0 _ HI.out hq2 hnz).mono ?_
      rintro e w4 ⟨rfl, rfl⟩
      rw [← HMK.out]
      go_wp2_with fail
      go_round
      case rel => exact ⟨j + 1, by omega, by go_num, by rw [HQ1.out]⟩
      case measure => simp [intOf]; omega
    · obtain rfl : j = n := by omega
      go_wp2_with fail
      go_ret
      exact ⟨rfl, rfl⟩

end Go.Proofs.YthmipnflbiclbaaDoor
