/- EdgesOf, the model's. Conditions: Sets is a slice of ints. -/
import Derived.Deep.Cut
import Derived.Deep.RegionHeld3
import Derived.Test.YtpkilacappjkhaaAppP
import Derived.Test.YtpkilacappjkhaaEdgM
import Derived.Test.YtpkilacappjkhaaIsStrS
import Derived.Test.YtpkilacappjkhaaZA
import Derived.Test.YtpkilacappjkhaaZH
namespace Go.Proofs.Ytpkilacappjkhaa
open Go.RowKit

set_option maxHeartbeats 6400000 in
set_option maxRecDepth 100000 in
theorem specEdges (v : Value) (ns : List Nat) (w : World) (hl : ns.length ≤ 32) (h32 : ∀ t ∈ ns, t < 32) (h : Rd w v (toI ns)) :
    Calls Try.prog 19 #[v] w (RetPr (egTo ns ns.length) w) := by
  obtain ⟨a, b, off, cap, rfl, h1, h3, h5⟩ := h
  rw [toI_length] at h1 h3 h5 ⊢
  have H1 := Lib.hid h1
  have H5 := Lib.hid h5
  have H32 := Lib.hid h32
  have HLen := Lib.hid (fun j => egTo_len (ns := ns) hl j)
  have HIL := Lib.hid (fun x k => egIn_len ns x k)
  have HSS := Lib.hid (fun j => egTo_succ ns j)
  clear h1 h5 h32
  have HE := Lib.hid ((Below.refl w.heap.size w).alloc (Nat.le_refl _) (Obj.cells #[] 52))
  have HP0 := Lib.hid (PrS.lit' (B := w.heap.size) (w := w) (Nat.le_refl _) rfl)
  go_enter Try.func19, Try.ntmps19
  go_wp2_with fail
  go_loopw [4, 3] (fun i o wr => ∃ (j : Nat) (a' : Option Addr) (c' : Nat), j ≤ ns.length ∧ i = .int .i64 j ∧ o = .slice a' (egTo ns j).length c' ∧ PrS w.heap.size wr (.slice a' (egTo ns j).length c') (egTo ns j) ∧ Below w.heap.size w wr) (fun i _ _ => ns.length - (intOf i).toNat)
  case atStart => exact ⟨0, _, 0, Nat.zero_le _, rfl, rfl, HP0.out, HE.out⟩
  case round =>
    obtain ⟨j, a', c', hj, rfl, rfl, hin, hbe⟩ := hrel
    have HIN := Lib.hid hin
    have HBE := Lib.hid hbe
    have hzr := hbe.size
    clear hin hbe
    by_cases hlt : j < ns.length
    · obtain ⟨rfl, hbl⟩ := H1.out (by omega)
      have HS := Lib.hid (HSS.out j)
      have hel := HLen.out j
      have HJ0 := Lib.hid ((H5.out j hlt).trans (by rw [toI_getD]))
      have hx32 := H32.out _ (getD_of_lt hlt)
      generalize egTo ns j = E at *
      go_wp2_with fail
      go_loopw [5, 3] (fun i o wq => ∃ (k : Nat) (a' : Option Addr) (c' : Nat), j + 1 ≤ k ∧ k ≤ ns.length ∧ i = .int .i64 k ∧ o = .slice a' (E ++ egIn ns j k).length c' ∧ PrS w.heap.size wq (.slice a' (E ++ egIn ns j k).length c') (E ++ egIn ns j k) ∧ Below w.heap.size w wq) (fun i _ _ => ns.length - (intOf i).toNat)
      case atStart =>
        refine ⟨j + 1, a', c', Nat.le_refl _, by omega, by go_num, ?_, ?_, HBE.out⟩
        · rw [egIn_nil, List.append_nil]
        · rw [egIn_nil, List.append_nil]; exact HIN.out
      case round =>
        obtain ⟨k, a2, c2, hjk, hk, rfl, rfl, hin2, hbf⟩ := hrel
        have HIN2 := Lib.hid hin2
        have HBF := Lib.hid hbf
        have hzq := hbf.size
        clear hin2 hbf HIN
        by_cases hklt : k < ns.length
        · have hil := HIL.out j k
          have hy32 := H32.out _ (getD_of_lt hklt)
          have hcj := (HBF.out.cell (p := ⟨b, off + j, none⟩) hbl).trans HJ0.out
          have hck := (HBF.out.cell (p := ⟨b, off + k, none⟩) hbl).trans (H5.out k hklt)
          rw [toI_getD] at hck
          have hcy : adj (ns.getD j 0) (ns.getD k 0) = true → E ++ egIn ns j (k + 1) = E ++ egIn ns j k ++ [(((ns.getD j 0 : Nat) : Int), ((ns.getD k 0 : Nat) : Int))] := fun h => by rw [egIn_yes hjk h, List.append_assoc]
          have hcn : adj (ns.getD j 0) (ns.getD k 0) = false → E ++ egIn ns j (k + 1) = E ++ egIn ns j k := fun h => by rw [egIn_no h]
          rw [adj] at hcy hcn
          have HLE := Lib.hid (show (E ++ egIn ns j k).length ≤ 1000000 by rw [List.length_append]; omega)
          generalize E ++ egIn ns j k = F at *
          clear HJ0
          generalize ns.getD j 0 = x at *
          generalize ns.getD k 0 = y at *
          have hz32 : x ^^^ y < 32 := Nat.xor_lt_two_pow (n := 5) hx32 hy32
          have HF := Lib.hid (fun w => specFlip x y (by omega) (by omega) w)
          have HZ := Lib.hid (fun w => (specSize (x ^^^ y) hz32 w).mono fun e w' h => And.intro h.1 h.2.symm)
          generalize pc (x ^^^ y) = p at *
          by_cases hp : p = 1
          · have hpI : (p : Int) = 1 := by omega
            have HCY := Lib.hid (hcy (by rw [hp]; rfl))
            clear hcy hcn hp
            go_wp2_with fail
            go_region_held3 (fun w' => w'.cell? ⟨b, off + j, none⟩ = some (.int .i64 (x : Int)) ∧ w'.cell? ⟨b, off + k, none⟩ = some (.int .i64 (y : Int))) (first | exact ⟨hcj, hck⟩ | go_keep) (first
              | (go_at_call 31; refine (HF.out _).mono ?_; rintro e w9 ⟨rfl, hw9⟩; subst w9)
              | (go_at_call 30; refine (HZ.out _).mono ?_; rintro e w9 ⟨rfl, hw9⟩; subst w9))
            go_wp2_with fail
            go_region_law (first
              | (refine step_appP rfl (.tmp 32) (.tmp 42) rfl w.heap.size _ F rfl (by exact HIN2.out.alloc _) _ (x : Int) (y : Int) rfl ⟨by first | (rw [World.cell?_alloc_at _ _ _ _ rfl]; rfl) | (rw [World.cell?_alloc_at _ _ _ _ (by simp)]; rfl) | (simp only [cell_drew]; rw [World.cell?_alloc_at _ _ _ _ (by simp)]; rfl), by first | (rw [World.cell?_alloc_at _ _ _ _ rfl]; rfl) | (rw [World.cell?_alloc_at _ _ _ _ (by simp)]; rfl) | (simp only [cell_drew]; rw [World.cell?_alloc_at _ _ _ _ (by simp)]; rfl)⟩ (by exact HLE.out) (by simp; omega) ?_; intro a1 c1 w3 hin3 hb3 hg3; have H13 := Lib.hid (show Below w.heap.size w w3 from Below.trans (by first | exact (HBF.out.alloc (by omega) _).drew.drew | exact (HBF.out.drew.drew).alloc (by first | omega | (simp; omega)) _) hb3); have I3 := Lib.hid hin3; clear hin3 hb3 hg3))
            all_goals
              go_wp2_with fail
              go_roundw
              case rel => exact ⟨k + 1, a1, c1, by omega, by omega, by go_num, by rw [HCY.out, List.length_append]; rfl, by rw [HCY.out, List.length_append]; exact I3.out, H13.out⟩
              case measure => simp [intOf]; omega
          · have hpI : ¬ (p : Int) = 1 := by omega
            have HCN := Lib.hid (hcn (beq_eq_false_iff_ne.2 hp))
            clear hcy hcn hp
            go_wp2_with fail
            go_region_held3 (fun w' => w'.cell? ⟨b, off + j, none⟩ = some (.int .i64 (x : Int)) ∧ w'.cell? ⟨b, off + k, none⟩ = some (.int .i64 (y : Int))) (first | exact ⟨hcj, hck⟩ | go_keep) (first
              | (go_at_call 31; refine (HF.out _).mono ?_; rintro e w9 ⟨rfl, hw9⟩; subst w9)
              | (go_at_call 30; refine (HZ.out _).mono ?_; rintro e w9 ⟨rfl, hw9⟩; subst w9))
            go_wp2_with fail
            go_roundw
            case rel => exact ⟨k + 1, a2, c2, by omega, by omega, by go_num, by rw [HCN.out], by rw [HCN.out]; exact HIN2.out, HBF.out.drew⟩
            case measure => simp [intOf]; omega
        · obtain rfl : k = ns.length := by omega
          go_wp2_with fail
          go_roundw
          case rel => exact ⟨j + 1, a2, c2, by omega, by go_num, by rw [HS.out], by rw [HS.out]; exact HIN2.out, HBF.out⟩
          case measure => simp [intOf]; omega
    · obtain rfl : j = ns.length := by omega
      go_wp2_with fail
      go_ret
      exact ⟨a', c', rfl, HIN.out, HBE.out⟩


end Go.Proofs.Ytpkilacappjkhaa
