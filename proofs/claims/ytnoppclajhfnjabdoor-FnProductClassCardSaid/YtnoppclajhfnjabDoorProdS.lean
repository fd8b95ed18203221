/- ProductClass, the model's. Conditions: the classes' Sets are slices of ints. -/
import Derived.Deep.RegionHeld3
import Derived.Test.YtnoppclajhfnjabDoorProdR
import Derived.Test.YtnoppclajhfnjabDoorTidy
import Derived.Test.YtnoppclajhfnjabDoorZ4
import Derived.Test.YtnoppclajhfnjabDoorZB
import Derived.Test.YtnoppclajhfnjabDoorZH
namespace Go.Proofs.YtnoppclajhfnjabDoor
open Go.RowKit

/-- the first i sets with all of the others behind them each -/
def pmIn (m : Nat) (s : Nat) (ms : List Nat) (k : Nat) : List Nat := (ms.take k).map (fun t => s + t * 2 ^ m)
def pmTo (m : Nat) (ns ms : List Nat) (i : Nat) : List Nat := (ns.take i).flatMap (fun s => pmIn m s ms ms.length)
theorem pmIn_len {m s : Nat} {ms : List Nat} {k : Nat} (h : k ≤ ms.length) : (pmIn m s ms k).length = k := by simp [pmIn]; omega
theorem pmIn_succ {m s : Nat} {ms : List Nat} {k : Nat} (h : k < ms.length) : pmIn m s ms (k + 1) = pmIn m s ms k ++ [s + ms.getD k 0 * 2 ^ m] := by
  rw [pmIn, List.take_succ_eq_append_getElem h, List.map_append, List.getD_eq_getElem?_getD, List.getElem?_eq_getElem h]; rfl
theorem pmTo_succ {m : Nat} {ns ms : List Nat} {i : Nat} (h : i < ns.length) : pmTo m ns ms (i + 1) = pmTo m ns ms i ++ pmIn m (ns.getD i 0) ms ms.length := by
  rw [pmTo, List.take_succ_eq_append_getElem h, List.flatMap_append, List.getD_eq_getElem?_getD, List.getElem?_eq_getElem h]; simp [pmTo]
theorem pmTo_len {m : Nat} {ns ms : List Nat} : ∀ i, i ≤ ns.length → (pmTo m ns ms i).length = i * ms.length
  | 0, _ => by simp [pmTo]
  | i + 1, h => by
    rw [pmTo_succ (by omega), List.length_append, pmTo_len i (by omega), pmIn_len (Nat.le_refl _), Nat.succ_mul]
theorem pm_mem {m : Nat} {ns ms : List Nat} {x : Nat} : x ∈ pmTo m ns ms ns.length ↔ ∃ s ∈ ns, ∃ t ∈ ms, x = s + t * 2 ^ m := by
  simp only [pmTo, pmIn, List.take_length, List.mem_flatMap, List.mem_map]
  constructor
  · rintro ⟨s, hs, t, ht, rfl⟩; exact ⟨s, hs, t, ht, rfl⟩
  · rintro ⟨s, hs, t, ht, rfl⟩; exact ⟨s, hs, t, ht, rfl⟩
theorem pd_mem {m : Nat} {ns ms : List Nat} {x : Nat} : x ∈ pdTo m ns ms ms.length ↔ ∃ s ∈ ns, ∃ t ∈ ms, x = s + t * 2 ^ m := by
  simp only [pdTo, pdIn, List.take_length, List.mem_flatMap, List.mem_map]
  constructor
  · rintro ⟨t, ht, s, hs, rfl⟩; exact ⟨s, hs, t, ht, rfl⟩
  · rintro ⟨s, hs, t, ht, rfl⟩; exact ⟨t, ht, s, hs, rfl⟩
theorem pd_bound {m m2 s t : Nat} (hs : s < 2 ^ m) (ht : t < 2 ^ m2) : s + t * 2 ^ m < 2 ^ (m + m2) := by
  have h1 : (t + 1) * 2 ^ m ≤ 2 ^ m2 * 2 ^ m := Nat.mul_le_mul_right _ ht
  rw [Nat.pow_add, Nat.mul_comm (2 ^ m)]
  rw [Nat.succ_mul] at h1
  omega
theorem pd_asc {m : Nat} {ns ms : List Nat} (h1 : ns.Pairwise (· < ·)) (h2 : ms.Pairwise (· < ·)) (h : ∀ s ∈ ns, s < 2 ^ m) : (pdTo m ns ms ms.length).Pairwise (· < ·) := by
  rw [pdTo, List.take_length, List.pairwise_flatMap]
  refine ⟨fun t _ => ?_, h2.imp_of_mem (fun {t u} _ _ htu => ?_)⟩
  · rw [pdIn, List.take_length, List.pairwise_map]
    exact h1.imp (fun h => by omega)
  · intro x hx y hy
    simp only [pdIn, List.take_length, List.mem_map] at hx hy
    obtain ⟨s, hs, rfl⟩ := hx
    obtain ⟨r, hr, rfl⟩ := hy
    have h3 := h s hs
    have h4 : (t + 1) * 2 ^ m ≤ u * 2 ^ m := Nat.mul_le_mul_right _ htu
    rw [Nat.succ_mul] at h4
    omega
theorem pd_tidy {m m2 : Nat} {ns ms : List Nat} (hs : m + m2 ≤ 5) (h1 : Cls m ns) (h2 : Cls m2 ms) : tidyL (pmTo m ns ms ns.length) = pdTo m ns ms ms.length := by
  refine asc_ext (tidy_asc _) (pd_asc h1.asc h2.asc h1.lt) (fun x => ?_)
  rw [pd_mem, ← pm_mem]
  simp only [tidyL, flt, List.mem_filter, List.mem_range, decide_eq_true_eq]
  constructor
  · exact fun h => h.2
  · intro h
    obtain ⟨s, hs1, t, ht1, rfl⟩ := pm_mem.1 h
    have h3 := pd_bound (h1.lt s hs1) (h2.lt t ht1)
    have h4 := pow_le_32 hs
    exact ⟨by omega, h⟩

set_option maxRecDepth 100000 in
set_option maxHeartbeats 12800000 in
theorem specProductClass (na : Int) (va : Value) (xs : List Int) (nb : Int) (vb : Value) (ys : List Int) (w : World) (ha : ∃ B, Ints B w va xs) (hb : ∃ B, Ints B w vb ys) :
    Calls Tryd.prog 50 #[.agg #[.int .i64 na, va], .agg #[.int .i64 nb, vb]] w (RetCB (pdN na xs nb ys) (pdL na xs nb ys) (twoP na xs nb ys) w) := by
  obtain ⟨_, hia⟩ := ha
  obtain ⟨_, hib⟩ := hb
  have HA := Lib.hid hia.rd
  have HB := Lib.hid hib.rd
  have HVA := Lib.hid (fun w h => specValid na va xs w h)
  have HVB := Lib.hid (fun w h => specValid nb vb ys w h)
  have hra := hia.rd
  have hrb := hib.rd
  obtain ⟨a, ba, oa, ca, rfl, a1, -, a5⟩ := hra
  obtain ⟨b, bb, ob, cb, rfl, b1, -, b5⟩ := hrb
  have HA1 := Lib.hid a1
  have HA5 := Lib.hid a5
  have HB1 := Lib.hid b1
  have HB5 := Lib.hid b5
  clear hia hib a1 a5 b1 b5
  have B := Lib.hid (show Below w.heap.size w (((w.alloc (Obj.cells #[.int .i64 na, .slice a xs.length ca] 25)).alloc (Obj.cells #[.int .i64 nb, .slice b ys.length cb] 25)).alloc (Obj.cells #[.int .i64 0, .slice none 0 0] 25)) from (((Below.refl _ _).alloc (Nat.le_refl _) _).alloc (by simp) _).alloc (by simp; omega) _)
  have HZ := Lib.hid (show (((w.alloc (Obj.cells #[.int .i64 na, .slice a xs.length ca] 25)).alloc (Obj.cells #[.int .i64 nb, .slice b ys.length cb] 25)).alloc (Obj.cells #[.int .i64 0, .slice none 0 0] 25)).heap.size = w.heap.size + 3 by simp)
  have Y := Lib.hid (show Bx 0 (.slice none 0 0) (w.heap.size + 2) (((w.alloc (Obj.cells #[.int .i64 na, .slice a xs.length ca] 25)).alloc (Obj.cells #[.int .i64 nb, .slice b ys.length cb] 25)).alloc (Obj.cells #[.int .i64 0, .slice none 0 0] 25)) from heap_alloc_at (by simp))
  have XA := Lib.hid (show Bx na (.slice a xs.length ca) w.heap.size (((w.alloc (Obj.cells #[.int .i64 na, .slice a xs.length ca] 25)).alloc (Obj.cells #[.int .i64 nb, .slice b ys.length cb] 25)).alloc (Obj.cells #[.int .i64 0, .slice none 0 0] 25)) from ((Bx.new _ _ _).alloc _).alloc _)
  have XB := Lib.hid (show Bx nb (.slice b ys.length cb) (w.heap.size + 1) (((w.alloc (Obj.cells #[.int .i64 na, .slice a xs.length ca] 25)).alloc (Obj.cells #[.int .i64 nb, .slice b ys.length cb] 25)).alloc (Obj.cells #[.int .i64 0, .slice none 0 0] 25)) from (show Bx nb (.slice b ys.length cb) (w.heap.size + 1) ((w.alloc (Obj.cells #[.int .i64 na, .slice a xs.length ca] 25)).alloc (Obj.cells #[.int .i64 nb, .slice b ys.length cb] 25)) from heap_alloc_at (by simp)).alloc _)
  by_cases hva : vldB na xs = true
  · by_cases hvb : vldB nb ys = true
    · obtain ⟨m, ns, rfl, rfl, hca⟩ := vldB_cls hva
      obtain ⟨m2, ms, rfl, rfl, hcb⟩ := vldB_cls hvb
      have hm := hca.pts
      have hm2 := hcb.pts
      have hla := hca.length
      have hlb := hcb.length
      rw [hva] at HVA
      rw [hvb] at HVB
      rw [toI_length ns] at *
      rw [toI_length ms] at *
      by_cases hs : m + m2 ≤ 5
      · have ht : twoP (m : Int) (toI ns) (m2 : Int) (toI ms) = true := by rw [twoP, hva, hvb, decide_eq_true (by omega)]; rfl
        rw [show pdN (m : Int) (toI ns) (m2 : Int) (toI ms) = (m : Int) + (m2 : Int) by rw [pdN, if_pos ht], show pdL (m : Int) (toI ns) (m2 : Int) (toI ms) = toI (pdTo m ns ms ms.length) by rw [pdL, if_pos ht, toNat_toI, toNat_toI, Int.toNat_natCast], ht]
        have hn5 : ¬ (5 : Int) < (m : Int) + (m2 : Int) := by omega
        have hn6 : decide ((5 : Int) < (m : Int) + (m2 : Int)) = false := decide_eq_false hn5
        clear ht hva hvb
        have HPW := Lib.hid (fun w0 => (specPower (m : Int) w0 (by omega) (by omega)).mono fun e w' h => And.intro h.1 h.2.symm)
        have hq : (2 : Int) ^ m = ((2 ^ m : Nat) : Int) := by simp
        rw [Int.toNat_natCast, hq] at HPW
        have H1 := Lib.hid hca.lt
        have H2 := Lib.hid hcb.lt
        have HT := Lib.hid (fun v w h => specTidy v (pmTo m ns ms ns.length) w (fun x hx => by
          obtain ⟨s, hs1, t, ht1, rfl⟩ := pm_mem.1 hx
          have h3 := pd_bound (hca.lt s hs1) (hcb.lt t ht1)
          have h4 := pow_le_32 hs
          omega) (by rw [pmTo_len _ (Nat.le_refl _)]; exact Nat.le_trans (Nat.mul_le_mul hla hlb) (by omega)) h)
        rw [pd_tidy hs hca hcb] at HT
        have HPl := Lib.hid (toI_length (pdTo m ns ms ms.length))
        have h32 := pow_le_32 hm
        have HMl := Lib.hid (fun i (h : i ≤ ns.length) => pmTo_len (m := m) (ns := ns) (ms := ms) i h)
        generalize pdTo m ns ms ms.length = PD at *
        generalize hLa : ns.length = La at *
        generalize hLb : ms.length = Lb at *
        clear hca hcb
        go_enter Tryd.func50, Tryd.ntmps50
        go_wp2_with fail
        generalize (((w.alloc (Obj.cells #[.int .i64 (m : Int), .slice a La ca] 25)).alloc (Obj.cells #[.int .i64 (m2 : Int), .slice b Lb cb] 25)).alloc (Obj.cells #[.int .i64 0, .slice none 0 0] 25)) = W at *
        have hz0 : w.heap.size + 3 ≤ W.heap.size := Nat.le_of_eq HZ.out.symm
        clear HZ
        refine (HVA.out _ (HA.out.below B.out (Nat.le_refl _))).mono ?_
        rintro e w1 ⟨rfl, hx⟩
        have hz1 := hx.size
        replace XA := Lib.hid (XA.out.next hx XA.out.lt)
        replace XB := Lib.hid (XB.out.next hx XB.out.lt)
        replace Y := Lib.hid (Y.out.next hx Y.out.lt)
        replace B := Lib.hid (B.out.trans (hx.mono B.out.size))
        clear hx
        have p0 := XA.out.out.at0
        have p1 := XA.out.out.at1
        have p2 := XB.out.out.at0
        have p3 := XB.out.out.at1
        go_wp2_with fail
        clear p0 p1 p2 p3
        refine (HVB.out _ (HB.out.below B.out (Nat.le_refl _))).mono ?_
        rintro e w2 ⟨rfl, hx⟩
        have hz2 := hx.size
        replace XA := Lib.hid (XA.out.next hx XA.out.lt)
        replace XB := Lib.hid (XB.out.next hx XB.out.lt)
        replace Y := Lib.hid (Y.out.next hx Y.out.lt)
        replace B := Lib.hid (B.out.trans (hx.mono B.out.size))
        clear hx
        have p0 := XA.out.out.at0
        have p1 := XA.out.out.at1
        have p2 := XB.out.out.at0
        have p3 := XB.out.out.at1
        have IM := Lib.hid (show Ints w2.heap.size (w2.alloc (Obj.cells #[] 3)) (.slice (some ⟨w2.heap.size, 0, none⟩) 0 0) [] from Ints.lit' (Nat.le_refl _) rfl)
        have BM := Lib.hid (show Below w2.heap.size w2 (w2.alloc (Obj.cells #[] 3)) from (Below.refl _ _).alloc (Nat.le_refl _) _)
        go_wp2_with fail
        clear p0 p1 p2 p3
        go_loopw [6, 7] (fun o j wr => ∃ (i c' : Nat) (a' : Option Addr), i ≤ La ∧ j = .int .i64 i ∧ o = .slice a' (i * Lb) c' ∧ Ints w2.heap.size wr (.slice a' (i * Lb) c') (toI (pmTo m ns ms i)) ∧ Below w2.heap.size w2 wr) (fun _ j _ => La - (intOf j).toNat)
        case atStart => exact ⟨0, _, _, Nat.zero_le _, rfl, by rw [Nat.zero_mul], by rw [Nat.zero_mul]; exact IM.out, BM.out⟩
        case round =>
          obtain ⟨i, c', a', hi, rfl, rfl, hin, hbe⟩ := hrel
          have IO := Lib.hid hin
          have HBE := Lib.hid hbe
          have hzr := hbe.size
          have XA2 := Lib.hid (XA.out.next hbe XA.out.lt)
          have XB2 := Lib.hid (XB.out.next hbe XB.out.lt)
          have Y2 := Lib.hid (Y.out.next hbe Y.out.lt)
          clear hin IM BM
          have p0 := XA2.out.out.at0
          have p1 := XA2.out.out.at1
          have p2 := XB2.out.out.at0
          have p3 := XB2.out.out.at1
          by_cases hlt : i < La
          · obtain ⟨rfl, hal⟩ := HA1.out (by omega)
            have hs1 := H1.out _ (getD_of_lt (show i < ns.length by omega))
            have HAc := Lib.hid (show ∀ w', Below w2.heap.size w2 w' → w'.cell? ⟨ba, oa + i, none⟩ = some (.int .i64 ((ns.getD i 0 : Nat) : Int)) from fun w' hb => by
              rw [← toI_getD]
              exact (hb.cell (p := ⟨ba, oa + i, none⟩) (show ba < w2.heap.size by omega)).trans ((B.out.cell (p := ⟨ba, oa + i, none⟩) hal).trans (HA5.out i (by first | omega | (rw [toI_length]; omega))))
            )
            have HPT := Lib.hid (pmTo_succ (m := m) (ms := ms) (show i < ns.length by omega))
            generalize ns.getD i 0 = s at *
            clear hbe
            have hiI : (i : Int) < (La : Int) := by omega
            have hkl : i * Lb ≤ 992 := Nat.le_trans (Nat.mul_le_mul (show i ≤ 31 by omega) hlb) (by omega)
            go_wp2_with fail
            clear p0 p1 p2 p3
            go_loopw [6, 8] (fun o j ws => ∃ (k c' : Nat) (a' : Option Addr), k ≤ Lb ∧ j = .int .i64 k ∧ o = .slice a' (i * Lb + k) c' ∧ Ints w2.heap.size ws (.slice a' (i * Lb + k) c') (toI (pmTo m ns ms i ++ pmIn m s ms k)) ∧ Below w2.heap.size w2 ws) (fun _ j _ => Lb - (intOf j).toNat)
            case atStart => exact ⟨0, _, _, Nat.zero_le _, rfl, rfl, by rw [show pmIn m s ms 0 = [] from rfl, List.append_nil]; exact IO.out, HBE.out⟩
            case round =>
              obtain ⟨ws, hws⟩ : ∃ ws, ws = wr := ⟨_, rfl⟩
              subst hws
              obtain ⟨k, c2, a2, hk, rfl, rfl, hin, hbe⟩ := hrel
              have IS := Lib.hid hin
              have HBS := Lib.hid hbe
              have hzs := hbe.size
              have XA3 := Lib.hid (XA.out.next hbe XA.out.lt)
              have XB3 := Lib.hid (XB.out.next hbe XB.out.lt)
              clear hin
              have p0 := XA3.out.out.at0
              have p1 := XA3.out.out.at1
              have p2 := XB3.out.out.at0
              have p3 := XB3.out.out.at1
              by_cases hkl2 : k < Lb
              · obtain ⟨rfl, hbl⟩ := HB1.out (by omega)
                have ht1 := H2.out _ (getD_of_lt (show k < ms.length by omega))
                have HBc := Lib.hid (show ∀ w', Below w2.heap.size w2 w' → w'.cell? ⟨bb, ob + k, none⟩ = some (.int .i64 ((ms.getD k 0 : Nat) : Int)) from fun w' hb => by
                  rw [← toI_getD]
                  exact (hb.cell (p := ⟨bb, ob + k, none⟩) (show bb < w2.heap.size by omega)).trans ((B.out.cell (p := ⟨bb, ob + k, none⟩) hbl).trans (HB5.out k (by first | omega | (rw [toI_length]; omega))))
                )
                have HPI := Lib.hid (pmIn_succ (m := m) (s := s) (show k < ms.length by omega))
                generalize ms.getD k 0 = t at *
                have hct := HBc.out _ hbe
                have hcs := HAc.out _ hbe
                clear hbe
                have SS := Lib.hid (show ∀ w', Below w2.heap.size w2 w' → (fun w' => (w'.cell? ⟨w.heap.size, 0, none⟩ = some (.int .i64 (m : Int)) ∧ w'.cell? ⟨w.heap.size, 1, none⟩ = some (.slice (some ⟨ba, oa, none⟩) La ca) ∧ w'.cell? ⟨w.heap.size + 1, 1, none⟩ = some (.slice (some ⟨bb, ob, none⟩) Lb cb)) ∧ w'.cell? ⟨ba, oa + i, none⟩ = some (.int .i64 (s : Int)) ∧ w'.cell? ⟨bb, ob + k, none⟩ = some (.int .i64 (t : Int))) w' from fun w' hb => ⟨⟨(XA.out.next hb XA.out.lt).out.at0, (XA.out.next hb XA.out.lt).out.at1, (XB.out.next hb XB.out.lt).out.at1⟩, HAc.out _ hb, HBc.out _ hb⟩)
                have HSl := Lib.hid (show (toI (pmTo m ns ms i ++ pmIn m s ms k)).length = i * Lb + k by rw [toI_length, List.length_append, pmTo_len i (by omega), pmIn_len (by omega), hLb])
                have hkI : (k : Int) < (Lb : Int) := by omega
                have hyb := pd_bound hs1 ht1
                have hp4 := pow_le_32 hs
                have hw1 : IntKind.i64.wrap ((t : Int) * ((2 ^ m : Nat) : Int)) = ((t * 2 ^ m : Nat) : Int) := by
                  rw [show (t : Int) * ((2 ^ m : Nat) : Int) = ((t * 2 ^ m : Nat) : Int) by simp, IntKind.wrap_i64]; omega
                have hw2 : IntKind.i64.wrap ((s : Int) + ((t * 2 ^ m : Nat) : Int)) = ((s + t * 2 ^ m : Nat) : Int) := by
                  rw [show (s : Int) + ((t * 2 ^ m : Nat) : Int) = ((s + t * 2 ^ m : Nat) : Int) by simp, IntKind.wrap_i64]; omega
                generalize s + t * 2 ^ m = y at *
                generalize t * 2 ^ m = x at *
                generalize 2 ^ m = q at *
                clear hs1 ht1 hyb hp4
                go_wp2_with fail
                clear p0 p1 p2 p3 hct hcs
                have Bd := Lib.hid HBS.out.drew
                have Id := Lib.hid (show Ints _ ws.drew _ _ from IS.out)
                have hzd : w2.heap.size ≤ ws.drew.heap.size := HBS.out.size
                refine wp_region_held_drew (S := fun w' => (w'.cell? ⟨w.heap.size, 0, none⟩ = some (.int .i64 (m : Int)) ∧ w'.cell? ⟨w.heap.size, 1, none⟩ = some (.slice (some ⟨ba, oa, none⟩) La ca) ∧ w'.cell? ⟨w.heap.size + 1, 1, none⟩ = some (.slice (some ⟨bb, ob, none⟩) Lb cb)) ∧ w'.cell? ⟨ba, oa + i, none⟩ = some (.int .i64 (s : Int)) ∧ w'.cell? ⟨bb, ob + k, none⟩ = some (.int .i64 (t : Int))) (by kernel_rfl) (by exact SS.out _ Bd.out) (fun hHeld => ?_)
                generalize ws.drew = v0 at *
                refine wpAnyH_take (i := 0) (v := ?_) rfl (by kernel_rfl) (by kernel_rfl) (by kernel_rfl) (fun _ _ _ h => h) (Or.inl ⟨by rfl, ?_⟩) (by assumption) ?_
                rotate_left
                · (intro w hSw; (try dsimp only at hSw); go_simp; try with_reducible rfl)
                try simp only [List.getElem_toArray, List.getElem_cons_zero, Act.put, List.setIfInBounds_toArray, List.set_cons_zero, List.set_cons_succ]
                refine wpAnyH_take (i := 1) (v := ?_) rfl (by kernel_rfl) (by kernel_rfl) (by kernel_rfl) (fun _ _ _ h => h) (Or.inl ⟨by rfl, ?_⟩) (by assumption) ?_
                rotate_left
                · (intro w hSw; (try dsimp only at hSw); go_simp; try with_reducible rfl)
                try simp only [List.getElem_toArray, List.getElem_cons_zero, List.getElem_cons_succ, Act.put, List.setIfInBounds_toArray, List.set_cons_zero, List.set_cons_succ]
                refine wpAnyH_take (i := 2) (v := ?_) rfl (by kernel_rfl) (by kernel_rfl) (by kernel_rfl) (fun _ _ _ h => h) (Or.inl ⟨by rfl, ?_⟩) (by assumption) ?_
                rotate_left
                · (intro w hSw; (try dsimp only at hSw); go_simp; try with_reducible rfl)
                try simp only [List.getElem_toArray, List.getElem_cons_zero, List.getElem_cons_succ, Act.put, List.setIfInBounds_toArray, List.set_cons_zero, List.set_cons_succ]
                refine wpAnyH_take (i := 3) (v := ?_) rfl (by kernel_rfl) (by kernel_rfl) (by kernel_rfl) (fun _ _ _ h => h) (Or.inl ⟨by rfl, ?_⟩) (by assumption) ?_
                rotate_left
                · (intro w hSw; (try dsimp only at hSw); go_simp; try with_reducible rfl)
                try simp only [List.getElem_toArray, List.getElem_cons_zero, List.getElem_cons_succ, Act.put, List.setIfInBounds_toArray, List.set_cons_zero, List.set_cons_succ]
                refine wpAnyH_take (i := 4) (v := ?_) rfl (by kernel_rfl) (by kernel_rfl) (by kernel_rfl) (fun _ _ _ h => h) (Or.inl ⟨by rfl, ?_⟩) (by assumption) ?_
                rotate_left
                · (intro w hSw; (try dsimp only at hSw); go_simp; try with_reducible rfl)
                try simp only [List.getElem_toArray, List.getElem_cons_zero, List.getElem_cons_succ, Act.put, List.setIfInBounds_toArray, List.set_cons_zero, List.set_cons_succ]
                refine wpAnyH_take (i := 5) (v := ?_) rfl (by kernel_rfl) (by kernel_rfl) (by kernel_rfl) (fun _ _ _ h => h) (Or.inl ⟨by rfl, ?_⟩) (by assumption) ?_
                rotate_left
                · (intro w hSw; (try dsimp only at hSw); go_simp; try with_reducible rfl)
                try simp only [List.getElem_toArray, List.getElem_cons_zero, List.getElem_cons_succ, Act.put, List.setIfInBounds_toArray, List.set_cons_zero, List.set_cons_succ]
                refine wpAnyH_take (i := 6) (v := ?_) rfl (by kernel_rfl) (by kernel_rfl) (by kernel_rfl) (fun _ _ _ h => h) (Or.inl ⟨by rfl, ?_⟩) (by assumption) ?_
                rotate_left
                · (intro w hSw; (try dsimp only at hSw); go_simp; try with_reducible rfl)
                try simp only [List.getElem_toArray, List.getElem_cons_zero, List.getElem_cons_succ, Act.put, List.setIfInBounds_toArray, List.set_cons_zero, List.set_cons_succ]
                refine wpAnyH_take (i := 7) (v := ?_) rfl (by kernel_rfl) (by kernel_rfl) (by kernel_rfl) (fun _ _ _ h => h) (Or.inl ⟨by rfl, ?_⟩) (by assumption) ?_
                rotate_left
                · (intro w hSw; (try dsimp only at hSw); go_simp; try with_reducible rfl)
                try simp only [List.getElem_toArray, List.getElem_cons_zero, List.getElem_cons_succ, Act.put, List.setIfInBounds_toArray, List.set_cons_zero, List.set_cons_succ]
                refine wpAnyH_take (i := 8) (v := ?_) rfl (by kernel_rfl) (by kernel_rfl) (by kernel_rfl) (fun _ _ _ h => h) (Or.inl ⟨by rfl, ?_⟩) (by assumption) ?_
                rotate_left
                · (intro w hSw; (try dsimp only at hSw); go_simp; try with_reducible rfl)
                try simp only [List.getElem_toArray, List.getElem_cons_zero, List.getElem_cons_succ, Act.put, List.setIfInBounds_toArray, List.set_cons_zero, List.set_cons_succ]
                refine wpAnyH_take (i := 9) (v := ?_) rfl (by kernel_rfl) (by kernel_rfl) (by kernel_rfl) (fun _ _ _ h => h) (Or.inl ⟨by rfl, ?_⟩) (by assumption) ?_
                rotate_left
                · (intro w hSw; (try dsimp only at hSw); go_simp; try with_reducible rfl)
                try simp only [List.getElem_toArray, List.getElem_cons_zero, List.getElem_cons_succ, Act.put, List.setIfInBounds_toArray, List.set_cons_zero, List.set_cons_succ]
                refine wpAnyH_take (i := 10) (v := ?_) rfl (by kernel_rfl) (by kernel_rfl) (by kernel_rfl) (fun _ _ _ h => h) (Or.inl ⟨by rfl, ?_⟩) (by assumption) ?_
                rotate_left
                · (intro w hSw; (try dsimp only at hSw); go_simp; try with_reducible rfl)
                try simp only [List.getElem_toArray, List.getElem_cons_zero, List.getElem_cons_succ, Act.put, List.setIfInBounds_toArray, List.set_cons_zero, List.set_cons_succ]
                refine wpAnyH_take (i := 11) (v := ?_) rfl (by kernel_rfl) (by kernel_rfl) (by kernel_rfl) (fun _ _ _ h => h) (Or.inl ⟨by rfl, ?_⟩) (by assumption) ?_
                rotate_left
                · (intro w hSw; (try dsimp only at hSw); go_simp; try with_reducible rfl)
                try simp only [List.getElem_toArray, List.getElem_cons_zero, List.getElem_cons_succ, Act.put, List.setIfInBounds_toArray, List.set_cons_zero, List.set_cons_succ]
                refine wpAnyH_take (i := 12) (v := ?_) rfl (by kernel_rfl) (by kernel_rfl) (by kernel_rfl) (fun _ _ _ h => h) (Or.inl ⟨by rfl, ?_⟩) (by assumption) ?_
                rotate_left
                · (intro w hSw; (try dsimp only at hSw); go_simp; try with_reducible rfl)
                try simp only [List.getElem_toArray, List.getElem_cons_zero, List.getElem_cons_succ, Act.put, List.setIfInBounds_toArray, List.set_cons_zero, List.set_cons_succ]
                refine wpAnyH_ready (rs := [13]) (by kernel_rfl) (by simp) ?_
                refine AllReadyH.cons rfl (fun K hK => ?_) AllReadyH.nil
                try simp only [List.getElem_toArray]
                go_simp
                (go_at_call 99; refine (HPW.out _).mono ?_; rintro e w9 ⟨rfl, hw9⟩; subst w9)
                refine hK.out _ _ (by exact SS.out _ Bd.out) (fun hHeld => ?_)
                clear hK K
                try simp only [List.getElem_toArray, List.getElem_cons_zero, List.getElem_cons_succ, Act.put, List.setIfInBounds_toArray, List.set_cons_zero, List.set_cons_succ]
                refine wpAnyH_take (i := 14) (v := ?_) rfl (by kernel_rfl) (by kernel_rfl) (by kernel_rfl) (fun _ _ _ h => h) (Or.inl ⟨by rfl, ?_⟩) (by assumption) ?_
                rotate_left
                · (intro w hSw; (try dsimp only at hSw); go_simp; (try rw [hw1]); try with_reducible rfl)
                try simp only [List.getElem_toArray, List.getElem_cons_zero, List.getElem_cons_succ, Act.put, List.setIfInBounds_toArray, List.set_cons_zero, List.set_cons_succ]
                refine wpAnyH_take (i := 15) (v := ?_) rfl (by kernel_rfl) (by kernel_rfl) (by kernel_rfl) (fun _ _ _ h => h) (Or.inl ⟨by rfl, ?_⟩) (by assumption) ?_
                rotate_left
                · (intro w hSw; (try dsimp only at hSw); go_simp; (try rw [hw2]); try with_reducible rfl)
                try simp only [List.getElem_toArray, List.getElem_cons_zero, List.getElem_cons_succ, Act.put, List.setIfInBounds_toArray, List.set_cons_zero, List.set_cons_succ]
                refine wpAnyH_ready (rs := [16]) (by kernel_rfl) (by simp) ?_
                refine AllReadyH.cons rfl (fun K hK => ?_) AllReadyH.nil
                try simp only [List.getElem_toArray]
                go_simp
                have Bd1 := Lib.hid (Bd.out.alloc (by omega) (Obj.cells #[.int .i64 (y : Int)] 3))
                have Id1 := Lib.hid (Id.out.alloc (Obj.cells #[.int .i64 (y : Int)] 3))
                refine hK.out _ _ (by exact SS.out _ Bd1.out) (fun hHeld => ?_)
                clear hK K
                try simp only [List.getElem_toArray, List.getElem_cons_zero, List.getElem_cons_succ, Act.put, List.setIfInBounds_toArray, List.set_cons_zero, List.set_cons_succ]
                refine wpAnyH_ready (rs := [17]) (by kernel_rfl) (by simp) ?_
                refine AllReadyH.cons rfl (fun K hK => ?_) AllReadyH.nil
                refine step_app rfl (.tmp 41) (.tmp 57) rfl w2.heap.size _ (toI (pmTo m ns ms i ++ pmIn m s ms k)) rfl (by exact Id1.out) _ _ _ [(y : Int)] rfl (src_cell (by rw [World.cell?_alloc_at _ _ _ _ rfl]; rfl)) (by rw [HSl.out]; omega) (by simp; omega) ?_
                intro a3 c3 w6 hin6 hb6 hg6
                rw [HSl.out] at hin6 ⊢
                have I6 := Lib.hid hin6
                have B6 := Lib.hid (Bd1.out.trans hb6)
                clear hin6 hb6 hg6
                refine hK.out _ _ (by exact SS.out _ B6.out) (fun hHeld => ?_)
                clear hK K
                try simp only [List.getElem_toArray, List.getElem_cons_zero, List.getElem_cons_succ, Act.put, List.setIfInBounds_toArray, List.set_cons_zero, List.set_cons_succ]
                refine wpAnyH_take (i := 18) (v := ?_) rfl (by kernel_rfl) (by kernel_rfl) (by kernel_rfl) (fun _ _ _ h => h) (Or.inl ⟨by rfl, ?_⟩) (by assumption) ?_
                rotate_left
                · (intro w hSw; (try dsimp only at hSw); go_simp; try with_reducible rfl)
                try simp only [List.getElem_toArray, List.getElem_cons_zero, List.getElem_cons_succ, Act.put, List.setIfInBounds_toArray, List.set_cons_zero, List.set_cons_succ]
                refine wpAnyH_done (by kernel_rfl) ?_ _
                go_wp2_with fail
                go_roundw
                case rel => exact ⟨k + 1, c3, a3, by omega, by go_num, rfl, by rw [HPI.out, ← List.append_assoc, toI_append]; exact I6.out, B6.out⟩
                case measure => simp [intOf]; omega
              · obtain rfl : k = Lb := by omega
                rw [hLb] at HPT
                go_wp2_with fail
                go_roundw
                case rel => exact ⟨i + 1, c2, a2, by omega, by go_num, by rw [Nat.succ_mul], by rw [HPT.out, Nat.succ_mul]; exact IS.out, HBS.out⟩
                case measure => simp [intOf]; omega
          · obtain rfl : i = La := by omega
            clear hbe
            go_wp2_with fail
            have hwm : IntKind.i64.wrap ((m : Int) + (m2 : Int)) = (m : Int) + (m2 : Int) := by rw [IntKind.wrap_i64]; omega
            have Yd := Lib.hid (show Bx _ _ _ wr.drew from Y2.out)
            have XAd := Lib.hid (show Bx _ _ _ wr.drew from XA2.out)
            have XBd := Lib.hid (show Bx _ _ _ wr.drew from XB2.out)
            have Bd := Lib.hid (B.out.trans (HBE.out.mono B.out.size)).drew
            have Id := Lib.hid (show Ints _ wr.drew _ _ from IO.out)
            have hzd : w2.heap.size ≤ wr.drew.heap.size := HBE.out.size
            clear p0 p1 p2 p3 XA2 XB2 Y2 IO
            refine wp_region_held_drew (S := fun w' => w'.cell? ⟨w.heap.size, 0, none⟩ = some (.int .i64 (m : Int)) ∧ w'.cell? ⟨w.heap.size + 1, 0, none⟩ = some (.int .i64 (m2 : Int))) (by kernel_rfl) (by exact ⟨XAd.out.out.at0, XBd.out.out.at0⟩) (fun hHeld => ?_)
            generalize wr.drew = v0 at *
            refine wpAnyH_take (i := 0) (v := ?_) rfl (by kernel_rfl) (by kernel_rfl) (by kernel_rfl) (fun _ _ _ h => h) (Or.inl ⟨by rfl, ?_⟩) (by assumption) ?_
            rotate_left
            · (intro w hSw; (try dsimp only at hSw); go_simp; try with_reducible rfl)
            try simp only [List.getElem_toArray, List.getElem_cons_zero, Act.put, List.setIfInBounds_toArray, List.set_cons_zero, List.set_cons_succ]
            refine wpAnyH_take (i := 1) (v := ?_) rfl (by kernel_rfl) (by kernel_rfl) (by kernel_rfl) (fun _ _ _ h => h) (Or.inl ⟨by rfl, ?_⟩) (by assumption) ?_
            rotate_left
            · (intro w hSw; (try dsimp only at hSw); go_simp; try with_reducible rfl)
            try simp only [List.getElem_toArray, List.getElem_cons_zero, List.getElem_cons_succ, Act.put, List.setIfInBounds_toArray, List.set_cons_zero, List.set_cons_succ]
            refine wpAnyH_take (i := 2) (v := ?_) rfl (by kernel_rfl) (by kernel_rfl) (by kernel_rfl) (fun _ _ _ h => h) (Or.inl ⟨by rfl, ?_⟩) (by assumption) ?_
            rotate_left
            · (intro w hSw; (try dsimp only at hSw); go_simp; try with_reducible rfl)
            try simp only [List.getElem_toArray, List.getElem_cons_zero, List.getElem_cons_succ, Act.put, List.setIfInBounds_toArray, List.set_cons_zero, List.set_cons_succ]
            refine wpAnyH_take (i := 3) (v := ?_) rfl (by kernel_rfl) (by kernel_rfl) (by kernel_rfl) (fun _ _ _ h => h) (Or.inl ⟨by rfl, ?_⟩) (by assumption) ?_
            rotate_left
            · (intro w hSw; (try dsimp only at hSw); go_simp; try with_reducible rfl)
            try simp only [List.getElem_toArray, List.getElem_cons_zero, List.getElem_cons_succ, Act.put, List.setIfInBounds_toArray, List.set_cons_zero, List.set_cons_succ]
            refine wpAnyH_take (i := 4) (v := ?_) rfl (by kernel_rfl) (by kernel_rfl) (by kernel_rfl) (fun _ _ _ h => h) (Or.inl ⟨by rfl, ?_⟩) (by assumption) ?_
            rotate_left
            · (intro w hSw; (try dsimp only at hSw); go_simp; (try rw [hwm]); try with_reducible rfl)
            try simp only [List.getElem_toArray, List.getElem_cons_zero, List.getElem_cons_succ, Act.put, List.setIfInBounds_toArray, List.set_cons_zero, List.set_cons_succ]
            refine wpAnyH_take (i := 5) (v := ?_) rfl (by kernel_rfl) (by kernel_rfl) (by kernel_rfl) (fun _ _ _ h => h) (Or.inl ⟨by rfl, ?_⟩) (by assumption) ?_
            rotate_left
            · (intro w hSw; (try dsimp only at hSw); go_simp; try with_reducible rfl)
            try simp only [List.getElem_toArray, List.getElem_cons_zero, List.getElem_cons_succ, Act.put, List.setIfInBounds_toArray, List.set_cons_zero, List.set_cons_succ]
            refine wpAnyH_ready (rs := [6]) (by kernel_rfl) (by simp) ?_
            refine AllReadyH.cons rfl (fun K hK => ?_) AllReadyH.nil
            try simp only [List.getElem_toArray]
            go_simp
            refine (HT.out _ _ (by exact Id.out.rd)).mono ?_
            rintro e v1 ⟨a7, c7, rfl, hin7, hx⟩
            have hxs := hx.size
            replace XAd := Lib.hid (XAd.out.next hx XAd.out.lt)
            replace XBd := Lib.hid (XBd.out.next hx XBd.out.lt)
            replace Yd := Lib.hid (Yd.out.next hx Yd.out.lt)
            replace Bd := Lib.hid (Bd.out.trans (hx.mono Bd.out.size))
            have I7 := Lib.hid (hin7.mono (show w.heap.size + 3 ≤ v0.heap.size by omega))
            clear hin7 hx
            refine hK.out _ _ (by exact ⟨XAd.out.out.at0, XBd.out.out.at0⟩) (fun hHeld => ?_)
            clear hK K
            try simp only [List.getElem_toArray, List.getElem_cons_zero, List.getElem_cons_succ, Act.put, List.setIfInBounds_toArray, List.set_cons_zero, List.set_cons_succ]
            refine wpAnyH_take (i := 7) (v := ?_) rfl (by kernel_rfl) (by kernel_rfl) (by kernel_rfl) (fun _ _ _ h => h) (Or.inl ⟨by rfl, ?_⟩) (by assumption) ?_
            rotate_left
            · (intro w hSw; (try dsimp only at hSw); go_simp; try with_reducible rfl)
            try simp only [List.getElem_toArray, List.getElem_cons_zero, List.getElem_cons_succ, Act.put, List.setIfInBounds_toArray, List.set_cons_zero, List.set_cons_succ]
            refine wpAnyH_ready (rs := [8]) (by kernel_rfl) (by simp) ?_
            refine AllReadyH.cons rfl (fun K hK => ?_) AllReadyH.nil
            try simp only [List.getElem_toArray]
            have y0 := Yd.out.out.at0
            have y1 := Yd.out.out.at1
            have q0 := Yd.out.out.free0
            have q1 := Yd.out.out.free1
            go_simp
            clear y0 y1 q0 q1
            replace XAd := Lib.hid ((XAd.out.other (p := w.heap.size + 2) (j := 0) (by omega) (.int .i64 ((m : Int) + (m2 : Int)))).other (p := w.heap.size + 2) (j := 1) (by omega) (.slice a7 (toI PD).length c7))
            replace XBd := Lib.hid ((XBd.out.other (p := w.heap.size + 2) (j := 0) (by omega) (.int .i64 ((m : Int) + (m2 : Int)))).other (p := w.heap.size + 2) (j := 1) (by omega) (.slice a7 (toI PD).length c7))
            replace I7 := Lib.hid ((I7.out.setCell_below (a := ⟨w.heap.size + 2, 0, none⟩) (by show w.heap.size + 2 < w.heap.size + 3; omega) (.int .i64 ((m : Int) + (m2 : Int)))).setCell_below (a := ⟨w.heap.size + 2, 1, none⟩) (by show w.heap.size + 2 < w.heap.size + 3; omega) (.slice a7 (toI PD).length c7))
            replace Bd := Lib.hid ((Bd.out.setCell (p := ⟨w.heap.size + 2, 0, none⟩) (by show w.heap.size ≤ w.heap.size + 2; omega) (.int .i64 ((m : Int) + (m2 : Int)))).setCell (p := ⟨w.heap.size + 2, 1, none⟩) (by show w.heap.size ≤ w.heap.size + 2; omega) (.slice a7 (toI PD).length c7))
            replace Yd := Lib.hid ((Yd.out.setN ((m : Int) + (m2 : Int))).set (.slice a7 (toI PD).length c7))
            refine hK.out _ _ (by exact ⟨XAd.out.out.at0, XBd.out.out.at0⟩) (fun hHeld => ?_)
            clear hK K
            try simp only [List.getElem_toArray, List.getElem_cons_zero, List.getElem_cons_succ, Act.put, List.setIfInBounds_toArray, List.set_cons_zero, List.set_cons_succ]
            refine wpAnyH_take (i := 9) (v := ?_) rfl (by kernel_rfl) (by kernel_rfl) (by kernel_rfl) (fun _ _ _ h => h) (Or.inl ⟨by rfl, ?_⟩) (by assumption) ?_
            rotate_left
            · (intro w hSw; (try dsimp only at hSw); go_simp; try with_reducible rfl)
            try simp only [List.getElem_toArray, List.getElem_cons_zero, List.getElem_cons_succ, Act.put, List.setIfInBounds_toArray, List.set_cons_zero, List.set_cons_succ]
            refine wpAnyH_done (by kernel_rfl) ?_ _
            generalize hW : World.setCell _ _ _ = W9 at *
            have r0 := Yd.out.out.at0
            have r1 := Yd.out.out.at1
            go_wp2_with fail
            refine bodyPost_ret (v := .tuple #[.agg #[.int .i64 ((m : Int) + (m2 : Int)), .slice a7 (toI PD).length c7], .bool true]) (by simp [results, Tryd.results50, go_sem, r0, r1]) rfl ?_
            exact ⟨a7, c7, rfl, I7.out.mono (by omega), Bd.out⟩

      · have ht : twoP (m : Int) (toI ns) (m2 : Int) (toI ms) = false := by rw [twoP, hva, hvb, decide_eq_false (by omega)]; rfl
        rw [pdN_no ht, pdL_no ht, ht]
        have hn5 : (5 : Int) < (m : Int) + (m2 : Int) := by omega
        have hn6 : decide ((5 : Int) < (m : Int) + (m2 : Int)) = true := decide_eq_true hn5
        clear ht hva hvb hca hcb hs
        go_enter Tryd.func50, Tryd.ntmps50
        go_wp2_with fail
        generalize (((w.alloc (Obj.cells #[.int .i64 (m : Int), .slice a ns.length ca] 25)).alloc (Obj.cells #[.int .i64 (m2 : Int), .slice b ms.length cb] 25)).alloc (Obj.cells #[.int .i64 0, .slice none 0 0] 25)) = W at *
        have hz0 : w.heap.size + 3 ≤ W.heap.size := Nat.le_of_eq HZ.out.symm
        clear HZ
        refine (HVA.out _ (HA.out.below B.out (Nat.le_refl _))).mono ?_
        rintro e w1 ⟨rfl, hx⟩
        have hz1 := hx.size
        replace XA := Lib.hid (XA.out.next hx XA.out.lt)
        replace XB := Lib.hid (XB.out.next hx XB.out.lt)
        replace Y := Lib.hid (Y.out.next hx Y.out.lt)
        replace B := Lib.hid (B.out.trans (hx.mono B.out.size))
        clear hx
        have p0 := XA.out.out.at0
        have p1 := XA.out.out.at1
        have p2 := XB.out.out.at0
        have p3 := XB.out.out.at1
        go_wp2_with fail
        clear p0 p1 p2 p3
        refine (HVB.out _ (HB.out.below B.out (Nat.le_refl _))).mono ?_
        rintro e w2 ⟨rfl, hx⟩
        have hz2 := hx.size
        replace XA := Lib.hid (XA.out.next hx XA.out.lt)
        replace XB := Lib.hid (XB.out.next hx XB.out.lt)
        replace Y := Lib.hid (Y.out.next hx Y.out.lt)
        replace B := Lib.hid (B.out.trans (hx.mono B.out.size))
        clear hx
        have p0 := XA.out.out.at0
        have p1 := XA.out.out.at1
        have p2 := XB.out.out.at0
        have p3 := XB.out.out.at1
        have r0 := Y.out.out.at0
        have r1 := Y.out.out.at1
        have q0 := Y.out.out.free0
        have q1 := Y.out.out.free1
        go_wp2_with fail
        refine bodyPost_ret (v := .tuple #[.agg #[.int .i64 0, .slice none 0 0], .bool false]) (by simp [results, Tryd.results50, go_sem, r0, r1]) rfl ?_
        refine ⟨none, 0, rfl, Ints.nil _ _, ?_⟩
        have hb0 := B.out
        clear r0 r1 q0 q1 p0 p1 p2 p3
        go_grown
    · rw [Bool.not_eq_true] at hvb
      have ht : twoP na xs nb ys = false := by rw [twoP, hva, hvb]; rfl
      rw [pdN_no ht, pdL_no ht, ht]
      rw [hva] at HVA
      rw [hvb] at HVB
      clear ht hva hvb
      go_enter Tryd.func50, Tryd.ntmps50
      go_wp2_with fail
      generalize (((w.alloc (Obj.cells #[.int .i64 na, .slice a xs.length ca] 25)).alloc (Obj.cells #[.int .i64 nb, .slice b ys.length cb] 25)).alloc (Obj.cells #[.int .i64 0, .slice none 0 0] 25)) = W at *
      have hz0 : w.heap.size + 3 ≤ W.heap.size := Nat.le_of_eq HZ.out.symm
      clear HZ
      refine (HVA.out _ (HA.out.below B.out (Nat.le_refl _))).mono ?_
      rintro e w1 ⟨rfl, hx⟩
      have hz1 := hx.size
      replace XA := Lib.hid (XA.out.next hx XA.out.lt)
      replace XB := Lib.hid (XB.out.next hx XB.out.lt)
      replace Y := Lib.hid (Y.out.next hx Y.out.lt)
      replace B := Lib.hid (B.out.trans (hx.mono B.out.size))
      clear hx
      have p0 := XA.out.out.at0
      have p1 := XA.out.out.at1
      have p2 := XB.out.out.at0
      have p3 := XB.out.out.at1
      go_wp2_with fail
      clear p0 p1 p2 p3
      refine (HVB.out _ (HB.out.below B.out (Nat.le_refl _))).mono ?_
      rintro e w2 ⟨rfl, hx⟩
      have hz2 := hx.size
      replace XA := Lib.hid (XA.out.next hx XA.out.lt)
      replace XB := Lib.hid (XB.out.next hx XB.out.lt)
      replace Y := Lib.hid (Y.out.next hx Y.out.lt)
      replace B := Lib.hid (B.out.trans (hx.mono B.out.size))
      clear hx
      have p0 := XA.out.out.at0
      have p1 := XA.out.out.at1
      have p2 := XB.out.out.at0
      have p3 := XB.out.out.at1
      have r0 := Y.out.out.at0
      have r1 := Y.out.out.at1
      have q0 := Y.out.out.free0
      have q1 := Y.out.out.free1
      go_wp2_with fail
      refine bodyPost_ret (v := .tuple #[.agg #[.int .i64 0, .slice none 0 0], .bool false]) (by simp [results, Tryd.results50, go_sem, r0, r1]) rfl ?_
      refine ⟨none, 0, rfl, Ints.nil _ _, ?_⟩
      have hb0 := B.out
      clear r0 r1 q0 q1 p0 p1 p2 p3
      go_grown
  · rw [Bool.not_eq_true] at hva
    have ht : twoP na xs nb ys = false := by rw [twoP, hva]; rfl
    rw [pdN_no ht, pdL_no ht, ht]
    rw [hva] at HVA
    clear ht hva
    go_enter Tryd.func50, Tryd.ntmps50
    go_wp2_with fail
    generalize (((w.alloc (Obj.cells #[.int .i64 na, .slice a xs.length ca] 25)).alloc (Obj.cells #[.int .i64 nb, .slice b ys.length cb] 25)).alloc (Obj.cells #[.int .i64 0, .slice none 0 0] 25)) = W at *
    have hz0 : w.heap.size + 3 ≤ W.heap.size := Nat.le_of_eq HZ.out.symm
    clear HZ
    refine (HVA.out _ (HA.out.below B.out (Nat.le_refl _))).mono ?_
    rintro e w1 ⟨rfl, hx⟩
    have hz1 := hx.size
    replace XA := Lib.hid (XA.out.next hx XA.out.lt)
    replace XB := Lib.hid (XB.out.next hx XB.out.lt)
    replace Y := Lib.hid (Y.out.next hx Y.out.lt)
    replace B := Lib.hid (B.out.trans (hx.mono B.out.size))
    clear hx
    have p0 := XA.out.out.at0
    have p1 := XA.out.out.at1
    have p2 := XB.out.out.at0
    have p3 := XB.out.out.at1
    have r0 := Y.out.out.at0
    have r1 := Y.out.out.at1
    have q0 := Y.out.out.free0
    have q1 := Y.out.out.free1
    go_wp2_with fail
    refine bodyPost_ret (v := .tuple #[.agg #[.int .i64 0, .slice none 0 0], .bool false]) (by simp [results, Tryd.results50, go_sem, r0, r1]) rfl ?_
    refine ⟨none, 0, rfl, Ints.nil _ _, ?_⟩
    have hb0 := B.out
    clear r0 r1 q0 q1 p0 p1 p2 p3
    go_grown

end Go.Proofs.YtnoppclajhfnjabDoor
