/- A plan of a class, most often: planOf. Conditions: small numbers; the reader has drawn at most 70000 numbers. -/
import Derived.Deep.Cut
import Derived.Deep.CutRange
import Derived.Deep.RegionHeld3
import Derived.Test.YtlnnoeicboamgaaDoorClsD
import Derived.Test.YtlnnoeicboamgaaDoorFndP
import Derived.Test.YtlnnoeicboamgaaDoorOneOf
import Derived.Test.YtlnnoeicboamgaaDoorPicked
import Derived.Test.YtlnnoeicboamgaaDoorZK
namespace Go.Proofs.YtlnnoeicboamgaaDoor
open Go.RowKit

/-- a plan is drawn -/
def GotPl (B R k L : Nat) (w : World) (e : Ending) (w' : World) : Prop := ∃ (a : Option Addr) (cap p' : Nat) (ps : List Int), e = .returned (.slice a ps.length cap) ∧ ps.length ≤ L ∧ Ints w.heap.size w' (.slice a ps.length cap) ps ∧ p' ≤ k ∧ Rdr B R p' w' ∧ w.grownBy w' (some R)
def lenV : Value → Nat
  | .slice _ n _ => n
  | _ => 0

set_option maxHeartbeats 12800000 in
set_option maxRecDepth 100000 in
theorem specPlanOf (C B R p : Nat) (n : Int) (a : Option Addr) (cap : Nat) (zs : List Int) (hp : p ≤ 70000) (hBC : B ≤ C) (w : World) (h : Rdr B R p w) (hin : Ints C w (.slice a zs.length cap) zs) (hzl : zs.length ≤ 1000) :
    Calls Tryd.prog 51 #[.pointer (some ⟨R, 0, none⟩), .agg #[.int .i64 n, .slice a zs.length cap]] w (GotPl B R (p + 2 * zs.length + 30) (zs.length + 8) w) := by
  have hRB := h.1
  have hBw := h.2.1
  have X0 := Lib.hid (show Bx n (.slice a zs.length cap) w.heap.size ((w.alloc (Obj.cells #[.int .i64 n, .slice a zs.length cap] 30)).alloc (Obj.cells #[] 3)) from (Bx.new _ _ _).alloc _)
  have I0 := Lib.hid (show Ints C ((w.alloc (Obj.cells #[.int .i64 n, .slice a zs.length cap] 30)).alloc (Obj.cells #[] 3)) (.slice a zs.length cap) zs from (hin.alloc _).alloc _)
  have R0 := Lib.hid (show Rdr B R p ((w.alloc (Obj.cells #[.int .i64 n, .slice a zs.length cap] 30)).alloc (Obj.cells #[] 3)) from (h.alloc _).alloc _)
  have G0 := Lib.hid (show w.grownBy ((w.alloc (Obj.cells #[.int .i64 n, .slice a zs.length cap] 30)).alloc (Obj.cells #[] 3)) (some R) from grownBy_trans (World.grownBy_alloc _ _ _) (World.grownBy_alloc _ _ _))
  have P0 := Lib.hid (show Ints (w.heap.size + 1) ((w.alloc (Obj.cells #[.int .i64 n, .slice a zs.length cap] 30)).alloc (Obj.cells #[] 3)) (.slice (some ⟨w.heap.size + 1, 0, none⟩) 0 0) [] from Ints.lit' (by simp) (by simp))
  have HZ := Lib.hid (show ((w.alloc (Obj.cells #[.int .i64 n, .slice a zs.length cap] 30)).alloc (Obj.cells #[] 3)).heap.size = w.heap.size + 2 by simp)
  have HV := Lib.hid (fun w h => specValid n (.slice a zs.length cap) zs w h)
  have HIN := Lib.hid hin
  clear h hin
  go_enter Tryd.func51, Tryd.ntmps51
  go_upto_region 2 with (fail)
  generalize ((w.alloc (Obj.cells #[.int .i64 n, .slice a zs.length cap] 30)).alloc (Obj.cells #[] 3)) = w1 at *
  generalize ho : w.heap.size = o at *
  have hz1 : o + 2 ≤ w1.heap.size := Nat.le_of_eq HZ.out.symm
  clear HZ
  have c0 := X0.out.out.at0
  have c1 := X0.out.out.at1
  go_cut [19] from 7 to 19 (fun u wq => ∃ (b : Bool) (p' : Nat), u = .bool b ∧ (b = true → vldB n zs = true ∧ zs.length ≤ 7) ∧ Ints (o + 1) wq (.slice (some ⟨o + 1, 0, none⟩) 0 0) [] ∧ p' ≤ p + 1 ∧ Rdr B R p' wq ∧ w.grownBy wq (some R) ∧ Ints C wq (.slice a zs.length cap) zs ∧ Bx n (.slice a zs.length cap) o wq ∧ w1.heap.size ≤ wq.heap.size)
  case first =>
    go_wp2_with fail
    clear c0 c1
    refine (HV.out _ I0.out.rd).mono ?_
    rintro e w2 ⟨rfl, hb⟩
    have hz2 := hb.size
    have X2 := Lib.hid (X0.out.next hb (by omega))
    have I2 := Lib.hid (I0.out.below hb (Nat.le_refl _))
    have R2 := Lib.hid (R0.out.next hb (by omega))
    have G2 := Lib.hid (grown_next G0.out hb)
    have P2 := Lib.hid (P0.out.below hb (Nat.le_refl _))
    clear hb X0 I0 R0 G0 P0 HV
    have c0 := X2.out.out.at0
    have c1 := X2.out.out.at1
    have HVB := Lib.hid (show vldB n zs = true → vldB n zs = true from id)
    generalize hvb : vldB n zs = VB at *
    cases VB with
    | false =>
      clear hvb
      go_wp2_with fail
      go_meet
      exact ⟨false, p, rfl, (fun e => by cases e), P2.out, by omega, R2.out, G2.out, I2.out, X2.out, hz2⟩
    | true =>
      clear hvb HVB
      by_cases hl : zs.length ≤ 7
      · have hlI : (zs.length : Int) ≤ 7 := by omega
        have hld : decide ((zs.length : Int) ≤ 7) = true := decide_eq_true hlI
        go_wp2_with fail
        clear c0 c1
        refine (specPick B R p 2 (by omega) _ R2.out).mono ?_
        rintro e w3 ⟨⟨y, rfl, _⟩, hr3, hg3⟩
        have hz3 := hg3.size
        have X3 := Lib.hid (X2.out.kept hg3 (by simp; omega))
        have I3 := Lib.hid (I2.out.pick (by omega) hg3)
        have P3 := Lib.hid (P2.out.pick (by omega) hg3)
        have R3 := Lib.hid hr3
        have G3 := Lib.hid (grownBy_trans G2.out hg3)
        clear hr3 hg3 X2 I2 P2 R2 G2
        by_cases hy : y = 0
        · subst hy
          go_wp2_with fail
          go_meet
          exact ⟨true, p + 1, rfl, (fun _ => ⟨by first | trivial | rfl, hl⟩), P3.out, by omega, R3.out, G3.out, I3.out, X3.out, by omega⟩
        · have hy1 : ¬ (y : Int) = 0 := by omega
          have hy2 : ((y : Int) == 0) = false := by simpa using hy1
          go_wp2_with fail
          go_meet
          exact ⟨false, p + 1, rfl, (fun e => by cases e), P3.out, by omega, R3.out, G3.out, I3.out, X3.out, by omega⟩
      · have hlI : ¬ (zs.length : Int) ≤ 7 := by omega
        have hld : decide ((zs.length : Int) ≤ 7) = false := decide_eq_false hlI
        go_wp2_with fail
        go_meet
        exact ⟨false, p, rfl, (fun e => by cases e), P2.out, by omega, R2.out, G2.out, I2.out, X2.out, hz2⟩
  case rest =>
    clear c0 c1 X0 I0 R0 G0 P0 HV
    obtain ⟨b, q, rfl, hv, hps, hq, hr, hg, hi, hx, hzc⟩ := hcut
    have X3 := Lib.hid hx
    have I3 := Lib.hid hi
    have R3 := Lib.hid hr
    have G3 := Lib.hid hg
    have P3 := Lib.hid hps
    have HVV := Lib.hid hv
    clear hx hi hr hg hps hv
    go_upto_if 19 with (fail)
    go_cut [5] from 20 to 27 (fun u wq => ∃ (a' : Option Addr) (c' p' : Nat) (ps : List Int), u = .slice a' ps.length c' ∧ ps.length ≤ 7 ∧ Ints (o + 1) wq (.slice a' ps.length c') ps ∧ p' ≤ p + 1 ∧ Rdr B R p' wq ∧ w.grownBy wq (some R) ∧ Ints C wq (.slice a zs.length cap) zs ∧ Bx n (.slice a zs.length cap) o wq ∧ w1.heap.size ≤ wq.heap.size)
    case first =>
      cases b with
      | false =>
        go_wp2_with fail
        go_meet
        exact ⟨_, _, q, [], rfl, by simp, P3.out, hq, R3.out, G3.out, I3.out, X3.out, hzc⟩
      | true =>
        obtain ⟨hv, hl⟩ := HVV.out rfl
        obtain ⟨m, ns, rfl, rfl, hc⟩ := vldB_cls hv
        rw [toI_length] at *
        have HF := Lib.hid (fun u w h hB hu => specFindPlan m hc.pts (.slice a ns.length cap) ns (m : Int) hc.lt32 (by omega) (o + 1) ns.length [] u w (by simp) (fun x hx => by cases hx) h hB hu)
        have HLn := Lib.hid (fun r (hr : fndP ns (m : Int) (2 ^ m) ns.length [] = some r) => fnd_ok ns.length [] r hr)
        clear hv HVV hc
        generalize fndP ns (m : Int) (2 ^ m) ns.length [] = A at *
        have hb4 : Below wc.heap.size wc (wc.alloc (Obj.cells #[] 3)) := (Below.refl _ _).alloc (Nat.le_refl _) _
        have I4 := Lib.hid (I3.out.below hb4 (Nat.le_refl _))
        have L4 := Lib.hid (show Ints (o + 1) (wc.alloc (Obj.cells #[] 3)) (.slice (some ⟨wc.heap.size, 0, none⟩) 0 0) (toI []) from Ints.lit' (by omega) rfl)
        have HB4 := Lib.hid hb4
        clear hb4
        have c0 := X3.out.out.at0
        have c1 := X3.out.out.at1
        go_wp2_with fail
        clear c0 c1
        refine (HF.out _ _ I4.out.rd (by have := HB4.out.size; omega) L4.out).mono ?_
        rintro e w5 ⟨hb5, he⟩
        have hb : Below wc.heap.size wc w5 := HB4.out.trans (hb5.mono HB4.out.size)
        have hz5 := hb.size
        have X5 := Lib.hid (X3.out.next hb X3.out.lt)
        have I5 := Lib.hid (I3.out.below hb (Nat.le_refl _))
        have R5 := Lib.hid (R3.out.next hb (by omega))
        have G5 := Lib.hid (grown_next G3.out hb)
        clear hb hb5
        cases A with
        | none =>
          subst he
          go_wp2_with fail
          go_meet
          exact ⟨none, 0, q, [], rfl, by simp, Ints.nil _ _, hq, R5.out, G5.out, I5.out, X5.out, by omega⟩
        | some r =>
          obtain ⟨a8, c8, rfl, hin8⟩ := he
          have I8 := Lib.hid hin8
          have hrl : r.length = ns.length := by
            obtain ⟨t, h1, h2, _⟩ := HLn.out r rfl
            rw [h1, List.nil_append, h2]
          clear hin8
          go_wp2_with fail
          go_meet
          exact ⟨a8, c8, q, toI r, by rw [toI_length, hrl], by rw [toI_length]; omega, by rw [toI_length]; exact I8.out, hq, R5.out, G5.out, I5.out, X5.out, by omega⟩
    case rest =>
      clear X3 I3 R3 G3 P3 HVV
      obtain ⟨a', c', p', ps, rfl, hpl, hps, hpp, hr, hg, hi, hx, hzc⟩ := hcut
      have X2 := Lib.hid hx
      have I2 := Lib.hid hi
      have R2 := Lib.hid hr
      have G2 := Lib.hid hg
      have P2 := Lib.hid hps
      clear hx hi hr hg hps
      go_wp2_with fail
      go_loopw [5] (fun t wr => ∃ (a' : Option Addr) (c' p' : Nat) (ps : List Int), t = .slice a' ps.length c' ∧ ps.length ≤ zs.length + 7 ∧ Ints (o + 1) wr (.slice a' ps.length c') ps ∧ p' ≤ p + 1 + 2 * ps.length ∧ Rdr B R p' wr ∧ w.grownBy wr (some R) ∧ Ints C wr (.slice a zs.length cap) zs ∧ Bx n (.slice a zs.length cap) o wr ∧ w1.heap.size ≤ wr.heap.size) (fun t _ => zs.length - lenV t)
      case atStart => exact ⟨a', c', p', ps, rfl, by omega, P2.out, by omega, R2.out, G2.out, I2.out, X2.out, hzc⟩
      case round =>
        obtain ⟨a', c', p', ps, rfl, hpl, hps, hpp, hr, hg, hi, hx, hzc⟩ := hrel
        have X3 := Lib.hid hx
        have I3 := Lib.hid hi
        have R3 := Lib.hid hr
        have G3 := Lib.hid hg
        have P3 := Lib.hid hps
        clear hx hi hr hg hps X2 I2 R2 G2 P2
        have c0 := X3.out.out.at0
        have c1 := X3.out.out.at1
        by_cases hlt : ps.length < zs.length
        · have hltI : (ps.length : Int) < (zs.length : Int) := by omega
          go_wp2_with fail
          clear c0 c1
          refine (specSetOf C B R p' n a cap zs (by omega) hBC _ R3.out I3.out).mono ?_
          rintro e w4 ⟨s, p4, rfl, hp4, hr4, hg4⟩
          have hz4 := hg4.size
          have X4 := Lib.hid (X3.out.kept hg4 (by simp; omega))
          have I4 := Lib.hid (I3.out.pick (by omega) hg4)
          have P4 := Lib.hid (P3.out.pick (by omega) hg4)
          have R4 := Lib.hid hr4
          have G4 := Lib.hid (grownBy_trans G3.out hg4)
          clear hr4 hg4 X3 I3 P3 R3 G3
          go_wp2_with (at_builtin; refine wpList_app rfl (.tmp 34) (.tmp 38) rfl (o + 1) _ ps rfl (by exact P4.out.alloc _) _ _ _ [s] rfl (src_cell (by rw [World.cell?_alloc_at _ _ _ _ rfl]; rfl)) (by omega) (by simp; omega) ?_; intro a5 c5 w5 hin5 hb5 hg5; have hbb : Below (o + 1) w4 w5 := Below.trans ((Below.refl _ _).alloc (by omega) _) hb5; have hz5 := hbb.size; have X5 := Lib.hid (X4.out.next hbb (by omega)); have I5 := Lib.hid ((I4.out.alloc (Obj.cells #[.int .i64 s] 3)).kept hg5 (HIN.out.apart P4.out (by omega))); have R5 := Lib.hid ((R4.out.alloc (Obj.cells #[.int .i64 s] 3)).row (P4.out.alloc _) (by omega) hg5); have G5 := Lib.hid (show w.grownBy w5 (some R) from (grownBy_trans G4.out (World.grownBy_alloc _ _ _)).andThen hg5 (fun r hr => .inl (by have := ((P4.out.alloc (Obj.cells #[.int .i64 s] 3)).lt r hr).1; omega))); have P5 := Lib.hid hin5; clear hin5 hb5 hg5 hbb)
          go_roundw
          case rel => exact ⟨a5, c5, p4, ps ++ [s], by rw [List.length_append]; rfl, by rw [List.length_append, List.length_singleton]; omega, by rw [List.length_append]; exact P5.out, by rw [List.length_append, List.length_singleton]; omega, R5.out, G5.out, I5.out, X5.out, by omega⟩
          case measure => simp [lenV]; omega
        · have hltI : ¬ (ps.length : Int) < (zs.length : Int) := by omega
          obtain ⟨qs, hqs⟩ : ∃ qs, qs = ps := ⟨_, rfl⟩
          subst hqs
          go_upto_region 6 with (fail)
          clear c0 c1
          go_cut [47] from 40 to 47 (fun u wq => ∃ (b : Bool) (p4 : Nat), u = .bool b ∧ (b = true → 0 < qs.length) ∧ Ints (o + 1) wq (.slice a' qs.length c') qs ∧ p4 ≤ p' + 1 ∧ Rdr B R p4 wq ∧ w.grownBy wq (some R) ∧ Ints C wq (.slice a zs.length cap) zs ∧ Bx n (.slice a zs.length cap) o wq ∧ w1.heap.size ≤ wq.heap.size)
          case first =>
            by_cases hl0 : 0 < qs.length
            · have hl0I : (0 : Int) < (qs.length : Int) := by omega
              have hl0d : decide ((0 : Int) < (qs.length : Int)) = true := decide_eq_true hl0I
              go_wp2_with fail
              refine (specPick B R p' 4 (by omega) _ R3.out).mono ?_
              rintro e w4 ⟨⟨y, rfl, _⟩, hr4, hg4⟩
              have hz4 := hg4.size
              have X4 := Lib.hid (X3.out.kept hg4 (by simp; omega))
              have I4 := Lib.hid (I3.out.pick (by omega) hg4)
              have P4 := Lib.hid (P3.out.pick (by omega) hg4)
              have R4 := Lib.hid hr4
              have G4 := Lib.hid (grownBy_trans G3.out hg4)
              clear hr4 hg4 X3 I3 P3 R3 G3
              by_cases hy : y = 0
              · subst hy
                go_wp2_with fail
                go_meet
                exact ⟨true, p' + 1, rfl, (fun _ => hl0), P4.out, by omega, R4.out, G4.out, I4.out, X4.out, by omega⟩
              · have hy1 : ¬ (y : Int) = 0 := by omega
                have hy2 : ((y : Int) == 0) = false := by simpa using hy1
                go_wp2_with fail
                go_meet
                exact ⟨false, p' + 1, rfl, (fun e => by cases e), P4.out, by omega, R4.out, G4.out, I4.out, X4.out, by omega⟩
            · have hl0I : ¬ (0 : Int) < (qs.length : Int) := by omega
              have hl0d : decide ((0 : Int) < (qs.length : Int)) = false := decide_eq_false hl0I
              go_wp2_with fail
              go_meet
              exact ⟨false, p', rfl, (fun e => by cases e), P3.out, by omega, R3.out, G3.out, I3.out, X3.out, hzc⟩
          case rest =>
            clear X3 I3 R3 G3 P3
            obtain ⟨b, p4, rfl, hv, hps, hq4, hr, hg, hi, hx, hzd⟩ := hcut
            have X4 := Lib.hid hx
            have I4 := Lib.hid hi
            have R4 := Lib.hid hr
            have G4 := Lib.hid hg
            have P4 := Lib.hid hps
            have HVV := Lib.hid hv
            clear hx hi hr hg hps hv
            go_upto_if 47 with (fail)
            go_cut [5] from 48 to 56 (fun u wq => ∃ (rs : List Int) (p5 : Nat), u = .slice a' rs.length c' ∧ rs.length = qs.length ∧ Ints (o + 1) wq (.slice a' rs.length c') rs ∧ p5 ≤ p' + 4 ∧ Rdr B R p5 wq ∧ w.grownBy wq (some R) ∧ Ints C wq (.slice a zs.length cap) zs ∧ Bx n (.slice a zs.length cap) o wq ∧ w1.heap.size ≤ wq.heap.size)
            case first =>
              cases b with
              | false =>
                go_wp2_with fail
                go_meet
                exact ⟨qs, p4, rfl, rfl, P4.out, by omega, R4.out, G4.out, I4.out, X4.out, hzd⟩
              | true =>
                have hl0 := HVV.out rfl
                clear HVV
                have c0 := X4.out.out.at0
                have c1 := X4.out.out.at1
                obtain ⟨g, rfl, hgo, hgl⟩ := P4.out.someAt hl0
                go_wp2_with fail
                refine wp_region_held_drew (S := fun w' => w'.cell? ⟨o, 0, none⟩ = some (.int .i64 n) ∧ w'.cell? ⟨o, 1, none⟩ = some (.slice a zs.length cap)) (by kernel_rfl) (by exact ⟨c0, c1⟩) (fun hHeld => ?_)
                have hds : wc.drew.heap.size = wc.heap.size := rfl
                replace X4 := Lib.hid (show Bx _ _ _ wc.drew from X4.out)
                replace I4 := Lib.hid (show Ints C wc.drew _ _ from I4.out)
                replace P4 := Lib.hid (show Ints (o + 1) wc.drew _ _ from P4.out)
                replace R4 := Lib.hid (show Rdr _ _ _ wc.drew from R4.out.drew)
                replace G4 := Lib.hid (grown_drew G4.out)
                rw [← hds] at hgl hzd
                clear c0 c1 hds
                generalize wc.drew = v0 at *
                refine wpAnyH_take (i := 0) (v := ?_) rfl (by kernel_rfl) (by kernel_rfl) (by kernel_rfl) (fun _ _ _ h => h) (Or.inl ⟨by rfl, ?_⟩) (by assumption) ?_
                rotate_left
                · (intro w hSw; (try dsimp only at hSw); go_simp; try with_reducible rfl)
                try simp only [List.getElem_toArray, List.getElem_cons_zero, Act.put, List.setIfInBounds_toArray, List.set_cons_zero, List.set_cons_succ]
                refine wpAnyH_take (i := 1) (v := ?_) rfl (by kernel_rfl) (by kernel_rfl) (by kernel_rfl) (fun _ _ _ h => h) (Or.inl ⟨by rfl, ?_⟩) (by assumption) ?_
                rotate_left
                · (intro w hSw; (try dsimp only at hSw); go_simp; try with_reducible rfl)
                try simp only [List.getElem_toArray, List.getElem_cons_zero, List.getElem_cons_succ, Act.put, List.setIfInBounds_toArray, List.set_cons_zero, List.set_cons_succ]
                refine wpAnyH_take (i := 2) (v := ?_) rfl (by kernel_rfl) (by kernel_rfl) (by kernel_rfl) (fun _ _ _ h => h) (Or.inl ⟨by rfl, ?_⟩) (by assumption) ?_
                rotate_left
                · (intro w hSw; (try dsimp only at hSw); go_simp; try with_reducible rfl)
                try simp only [List.getElem_toArray, List.getElem_cons_zero, List.getElem_cons_succ, Act.put, List.setIfInBounds_toArray, List.set_cons_zero, List.set_cons_succ]
                refine wpAnyH_take (i := 3) (v := ?_) rfl (by kernel_rfl) (by kernel_rfl) (by kernel_rfl) (fun _ _ _ h => h) (Or.inl ⟨by rfl, ?_⟩) (by assumption) ?_
                rotate_left
                · (intro w hSw; (try dsimp only at hSw); go_simp; try with_reducible rfl)
                try simp only [List.getElem_toArray, List.getElem_cons_zero, List.getElem_cons_succ, Act.put, List.setIfInBounds_toArray, List.set_cons_zero, List.set_cons_succ]
                refine wpAnyH_take (i := 5) (v := ?_) rfl (by kernel_rfl) (by kernel_rfl) (by kernel_rfl) (fun _ _ _ h => h) (Or.inl ⟨by rfl, ?_⟩) (by assumption) ?_
                rotate_left
                · (intro w hSw; (try dsimp only at hSw); go_simp; try with_reducible rfl)
                try simp only [List.getElem_toArray, List.getElem_cons_zero, List.getElem_cons_succ, Act.put, List.setIfInBounds_toArray, List.set_cons_zero, List.set_cons_succ]
                refine wpAnyH_take (i := 6) (v := ?_) rfl (by kernel_rfl) (by kernel_rfl) (by kernel_rfl) (fun _ _ _ h => h) (Or.inl ⟨by rfl, ?_⟩) (by assumption) ?_
                rotate_left
                · (intro w hSw; (try dsimp only at hSw); go_simp; try with_reducible rfl)
                try simp only [List.getElem_toArray, List.getElem_cons_zero, List.getElem_cons_succ, Act.put, List.setIfInBounds_toArray, List.set_cons_zero, List.set_cons_succ]
                refine wpAnyH_ready (rs := [4]) (by kernel_rfl) (by simp) ?_
                refine AllReadyH.cons rfl (fun K hK => ?_) AllReadyH.nil
                try simp only [List.getElem_toArray]
                go_simp
                refine (specPick B R p4 (qs.length : Int) (by omega) _ R4.out).mono ?_
                rintro e v1 ⟨⟨y, rfl, hy⟩, hr5, hg5⟩
                have hyl : y < qs.length := by rcases hy with hy | hy <;> omega
                have hyI : (y : Int) < (qs.length : Int) := by omega
                have hz5 := hg5.size
                have X5 := Lib.hid (X4.out.kept hg5 (by simp; omega))
                have I5 := Lib.hid (I4.out.pick (by omega) hg5)
                have P5 := Lib.hid (P4.out.pick (by omega) hg5)
                have R5 := Lib.hid hr5
                have G5 := Lib.hid (grownBy_trans G4.out hg5)
                clear hr5 hg5 hy X4 I4 P4 R4 G4
                refine hK.out _ _ (by first | exact ⟨X5.out.out.at0, X5.out.out.at1⟩ | go_keep) (fun hHeld => ?_)
                clear hK K
                try simp only [List.getElem_toArray, List.getElem_cons_zero, List.getElem_cons_succ, Act.put, List.setIfInBounds_toArray, List.set_cons_zero, List.set_cons_succ]
                refine wpAnyH_ready (rs := [7]) (by kernel_rfl) (by simp) ?_
                refine AllReadyH.cons rfl (fun K hK => ?_) AllReadyH.nil
                try simp only [List.getElem_toArray]
                go_simp
                refine (specSetOf C B R (p4 + 1) n a cap zs (by omega) hBC _ R5.out I5.out).mono ?_
                rintro e v2 ⟨s, p6, rfl, hp6, hr6, hg6⟩
                have hz6 := hg6.size
                have X6 := Lib.hid (X5.out.kept hg6 (by simp; omega))
                have I6 := Lib.hid (I5.out.pick (by omega) hg6)
                have P6 := Lib.hid (P5.out.pick (by omega) hg6)
                have R6 := Lib.hid hr6
                have G6 := Lib.hid (grownBy_trans G5.out hg6)
                clear hr6 hg6 X5 I5 P5 R5 G5
                refine hK.out _ _ (by first | exact ⟨X6.out.out.at0, X6.out.out.at1⟩ | go_keep) (fun hHeld => ?_)
                clear hK K
                try simp only [List.getElem_toArray, List.getElem_cons_zero, List.getElem_cons_succ, Act.put, List.setIfInBounds_toArray, List.set_cons_zero, List.set_cons_succ]
                refine wpAnyH_take (i := 8) (v := ?_) rfl (by kernel_rfl) (by kernel_rfl) (by kernel_rfl) (fun _ _ _ h => h) (Or.inl ⟨by rfl, ?_⟩) (by assumption) ?_
                rotate_left
                · (intro w hSw; (try dsimp only at hSw); go_simp; try with_reducible rfl)
                try simp only [List.getElem_toArray, List.getElem_cons_zero, List.getElem_cons_succ, Act.put, List.setIfInBounds_toArray, List.set_cons_zero, List.set_cons_succ]
                refine wpAnyH_ready (rs := [9]) (by kernel_rfl) (by simp) ?_
                refine AllReadyH.cons rfl (fun K hK => ?_) AllReadyH.nil
                try simp only [List.getElem_toArray]
                have hc6 := (P6.out.cellAt y hyl).1
                have hf6 := (P6.out.cellAt y hyl).2
                go_simp
                have X7 := Lib.hid (show Bx n (.slice a zs.length cap) o (v2.setCell ⟨g, y, none⟩ (.int .i64 s)) from X6.out.other (by omega) _)
                have P7 := Lib.hid (P6.out.store y s)
                have I7 := Lib.hid (show Ints C (v2.setCell ⟨g, y, none⟩ (.int .i64 s)) (.slice a zs.length cap) (zs) from I6.out.kept (grownBy_set v2 y (.int .i64 s)) (HIN.out.apart P6.out (by omega)))
                have R7 := Lib.hid (R6.out.set (o := g) (j := y) (by omega) (.int .i64 s))
                have G7 := Lib.hid (grown_set (o := g) G6.out (by omega) (j := y) (.int .i64 s))
                have hz7 : (v2.setCell ⟨g, y, none⟩ (.int .i64 s)).heap.size = v2.heap.size := by simp
                refine hK.out _ _ (by first | exact ⟨X7.out.out.at0, X7.out.out.at1⟩ | go_keep) (fun hHeld => ?_)
                clear hK K
                try simp only [List.getElem_toArray, List.getElem_cons_zero, List.getElem_cons_succ, Act.put, List.setIfInBounds_toArray, List.set_cons_zero, List.set_cons_succ]
                refine wpAnyH_done (by kernel_rfl) ?_ _
                go_wp2_with fail
                go_meet
                exact ⟨qs.set y s, p6, by rw [List.length_set], by rw [List.length_set], by rw [List.length_set]; exact P7.out, by omega, R7.out, G7.out, I7.out, X7.out, by omega⟩
            case rest =>
              clear X4 I4 R4 G4 P4 HVV
              obtain ⟨rs, p5, rfl, hrl, hps, hq5, hr, hg, hi, hx, hze⟩ := hcut
              obtain ⟨w5, hw5⟩ : ∃ w5, w5 = wc := ⟨_, rfl⟩
              subst hw5
              have X5 := Lib.hid hx
              have I5 := Lib.hid hi
              have R5 := Lib.hid hr
              have G5 := Lib.hid hg
              have P5 := Lib.hid hps
              have HRL := Lib.hid hrl
              clear hx hi hr hg hps hrl
              go_wp2_with fail
              refine (specPick B R p5 24 (by omega) _ R5.out).mono ?_
              rintro e w6 ⟨⟨y, rfl, _⟩, hr6, hg6⟩
              have hz6 := hg6.size
              have P6 := Lib.hid (P5.out.pick (by omega) hg6)
              have R6 := Lib.hid hr6
              have G6 := Lib.hid (grownBy_trans G5.out hg6)
              clear hr6 hg6 X5 I5 P5 R5 G5
              by_cases hy : y = 0
              · subst hy
                go_wp2_with (at_builtin; refine wpList_app rfl (.tmp 60) (.tmp 61) rfl (o + 1) _ rs rfl (by exact P6.out.alloc _) _ _ _ [0] rfl (src_cell (by rw [World.cell?_alloc_at _ _ _ _ rfl]; rfl)) (by have := HRL.out; omega) (by simp; omega) ?_; intro a5 c5 w7 hin7 hb7 hg7; have R7 := Lib.hid ((R6.out.alloc (Obj.cells #[.int .i64 0] 3)).row (P6.out.alloc _) (by omega) hg7); have G7 := Lib.hid (show w.grownBy w7 (some R) from (grownBy_trans G6.out (World.grownBy_alloc _ _ _)).andThen hg7 (fun r hr => .inl (by have := ((P6.out.alloc (Obj.cells #[.int .i64 0] 3)).lt r hr).1; omega))); have P7 := Lib.hid hin7; clear hin7 hb7 hg7)
                refine bodyPost_ret (v := .slice a5 (rs.length + 1) c5) (by simp [results, Tryd.results51, go_sem]) rfl ?_
                have hrl := HRL.out
                exact ⟨a5, c5, p5 + 1, rs ++ [0], by rw [List.length_append]; rfl, by rw [List.length_append, List.length_singleton]; omega, by rw [List.length_append]; exact (P7.out.mono (by omega)), by omega, R7.out, by rw [← ho] at *; exact G7.out⟩
              · have hy1 : ¬ (y : Int) = 0 := by omega
                have hy2 : ((y : Int) == 0) = false := by simpa using hy1
                go_wp2_with fail
                refine bodyPost_ret (v := .slice a' rs.length c') (by simp [results, Tryd.results51, go_sem]) rfl ?_
                have hrl := HRL.out
                exact ⟨a', c', p5 + 1, rs, rfl, by omega, P6.out.mono (by omega), by omega, R6.out, G6.out⟩

end Go.Proofs.YtlnnoeicboamgaaDoor
