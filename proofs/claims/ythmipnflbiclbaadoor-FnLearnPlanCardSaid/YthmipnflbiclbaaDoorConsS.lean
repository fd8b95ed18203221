/- ConsistentOf, the model's. Conditions: Sets is a slice of ints of its own, the list one of examples. -/
import Derived.Deep.RegionWith
import Derived.Test.YthmipnflbiclbaaDoorZU
namespace Go.Proofs.YthmipnflbiclbaaDoor
open Go.RowKit

theorem Ints.src {B n c : Nat} {w : World} {a : Option Addr} {xs : List Int} (h : Ints B w (.slice a n c) xs) : Src w a n c xs := by
  refine h.rd.src (fun e => ?_)
  obtain ⟨a', g, cap, e2, _, hn, _⟩ := h.shape
  simp only [Value.slice.injEq] at e2
  obtain ⟨rfl, rfl, rfl⟩ := e2
  obtain ⟨rfl, rfl⟩ := hn e
  exact ⟨rfl, rfl⟩

set_option maxHeartbeats 3200000 in
set_option maxRecDepth 100000 in
theorem specKeepAll (m : Nat) (hm : m ≤ 5) (B : Nat) (v : Value) (ns : List Nat) (u : Value) (es : List (Int × Bool)) (hl : ns.length ≤ 32) (h32 : ∀ t ∈ ns, t < 32) (hp : ptsTo m es es.length = true) (h12 : es.length ≤ 12) (w : World) (h : Ints B w v (toI ns)) (hu : RdE w u es) :
    Calls Tryd.prog 84 #[v, u] w (RetInts (toI (nowTo ns es es.length)) w) := by
  have H := Lib.hid h
  obtain ⟨a, g, cap, rfl, _, _, _⟩ := h.shape
  obtain ⟨a2, b2, off2, cap2, rfl, he1, _, he5⟩ := hu
  have HE1 := Lib.hid he1
  have HE5 := Lib.hid he5
  have H32 := Lib.hid h32
  have HP := Lib.hid hp
  rw [toI_length] at H ⊢
  clear he1 he5 h h32 hp
  go_enter Tryd.func84, Tryd.ntmps84
  go_wp2_with fail
  go_loopw [5, 6] (fun o i wr => ∃ (k : Nat) (a' : Option Addr) (c' : Nat) (B' : Nat), k ≤ es.length ∧ i = .int .i64 k ∧ o = .slice a' (nowTo ns es k).length c' ∧ Ints B' wr (.slice a' (nowTo ns es k).length c') (toI (nowTo ns es k)) ∧ Below w.heap.size w wr) (fun _ i _ => es.length - (intOf i).toNat)
  case atStart => exact ⟨0, _, _, _, Nat.zero_le _, rfl, rfl, H.out, Below.refl _ _⟩
  case round =>
    obtain ⟨k, a', c', B', hk, rfl, rfl, hin, hbe⟩ := hrel
    have HIN := Lib.hid hin
    have BE := Lib.hid hbe
    have hz := hbe.size
    clear hin hbe
    obtain ⟨hsub, hln⟩ := nowTo_sub ns es k
    by_cases hlt : k < es.length
    · obtain ⟨rfl, hbl⟩ := HE1.out (by omega)
      have hc0 := (BE.out.cell (p := ⟨b2, off2 + k * 2, none⟩) hbl).trans (HE5.out k hlt).1
      have hc1 := (BE.out.cell (p := ⟨b2, off2 + k * 2 + 1, none⟩) hbl).trans (HE5.out k hlt).2
      obtain ⟨hp0, hp1⟩ := pts_at HP.out hlt
      have HE := Lib.hid (show es.getD k (0, false) = ((es.getD k (0, false)).1, (es.getD k (0, false)).2) from rfl)
      have HNS := Lib.hid (show nowTo ns es (k + 1) = kp (nowTo ns es k) (es.getD k (0, false)) from rfl)
      have HSub32 := Lib.hid (fun t ht => H32.out t (hsub t ht))
      clear hsub
      rw [HE.out] at HNS
      obtain ⟨x, hx⟩ := Int.eq_ofNat_of_zero_le hp0
      rw [hx] at hc0 hp0 hp1 HNS
      generalize (es.getD k (0, false)).2 = lb at *
      have hx5 : x < 5 := by omega
      have hkI : (k : Int) < (es.length : Int) := by omega
      clear hx HE
      have HKP := Lib.hid (show kp (nowTo ns es k) ((x : Int), lb) = (nowTo ns es k).filter (fun s => hasX x s == lb) by unfold kp; rw [Int.toNat_natCast])
      generalize nowTo ns es k = L at *
      have HF := Lib.hid (fun v w h => specKeep v L x lb hx5 HSub32.out (by omega) w h)
      rw [← HKP.out] at HF
      go_wp2_with fail
      refine (HF.out _ _ (by first | exact HIN.out.rd | exact HIN.out.rd.below (k := wr.heap.size) (by go_grown) (Nat.le_refl _))).mono ?_
      rintro e w6 ⟨a6, c6, rfl, hin6, hb6⟩
      have I6 := Lib.hid hin6
      have B6 := Lib.hid (BE.out.trans (hb6.mono hz))
      rw [toI_length] at I6 ⊢
      clear hin6 hb6
      go_wp2_with fail
      go_roundw
      case rel => exact ⟨k + 1, a6, c6, _, by omega, by go_num, by rw [HNS.out], by rw [HNS.out]; exact I6.out, B6.out⟩
      case measure => simp [intOf]; omega
    · obtain rfl : k = es.length := by omega
      clear hsub
      generalize nowTo ns es es.length = L at *
      have HAl := Lib.hid (toI_length L)
      go_wp2_with (at_builtin; refine wpList_app rfl (.tmp 20) (.tmp 21) rfl wr.heap.size _ [] rfl (Ints.lit' (by simp) (by simp)) _ _ _ (toI L) rfl (HIN.out.alloc _).src (by simp; omega) (by simp) ?_; intro a1 c1 w3 hin3 hb3 hg3; have H13 := Lib.hid (show Below wr.heap.size wr w3 from Below.trans ((Below.refl _ _).alloc (by omega) _) hb3); have I3 := Lib.hid hin3; clear hin3 hb3 hg3)
      go_ret
      refine ⟨a1, c1, by rw [HAl.out]; simp, ?_, BE.out.trans (H13.out.mono hz)⟩
      rw [HAl.out]
      have h3 := I3.out
      simp only [List.length_nil, Nat.zero_add, List.nil_append] at h3
      exact h3.mono hz


end Go.Proofs.YthmipnflbiclbaaDoor
