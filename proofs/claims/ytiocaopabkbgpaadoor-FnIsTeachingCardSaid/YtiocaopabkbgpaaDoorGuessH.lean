/- What the halving rule guesses. Conditions: the sets are small, no two are equal; the table setsWith is laid. -/
import Derived.Test.YtiocaopabkbgpaaDoorPop
namespace Go.Proofs.YtiocaopabkbgpaaDoor
open Go.RowKit

def gHal (l : List Nat) (x : Nat) : Bool := decide ((wto x l).length < (wth x l).length)
theorem Cls.nodup {m : Nat} {ns : List Nat} (h : Cls m ns) : ns.Nodup := h.asc.imp (fun h => Nat.ne_of_lt h)
theorem wth_wto_len (x : Nat) (l : List Nat) : (wth x l).length + (wto x l).length = l.length := by
  unfold wth wto
  induction l with
  | nil => rfl
  | cons a l ih =>
    cases h : hasX x a <;> simp [h] <;> omega
theorem gHal_two (x : Nat) (l : List Nat) : gHal l x = decide ((l.length : Int) < 2 * ((wth x l).length : Int)) := by
  have := wth_wto_len x l
  unfold gHal
  rw [decide_eq_decide]
  omega

set_option maxHeartbeats 800000 in
theorem implSize (l : List Nat) (h32 : ∀ t ∈ l, t < 32) (hnd : l.Nodup) (w : World) :
    Calls Tryd.prog 146 #[.int .u32 (fm l)] w fun e w' => e = .returned (.int .i64 (l.length : Int)) ∧ Below w.heap.size w w' := by
  have HO := Lib.hid (fun w => onesFm l h32 hnd w)
  generalize fm l = F at *
  generalize l.length = n at *
  go_enter Tryd.func146, Tryd.ntmps146
  go_wp2_with fail
  refine (HO.out _).mono ?_
  rintro e w2 ⟨rfl, d, rfl⟩
  go_wp2_with fail
  go_ret
  exact ⟨rfl, below_drewN (by go_grown) d⟩

set_option maxHeartbeats 1600000 in
set_option maxRecDepth 100000 in
theorem implGuessHal (l : List Nat) (x : Nat) (hx : x < 5) (h32 : ∀ t ∈ l, t < 32) (hnd : l.Nodup) (w : World) (hsw : SW w) :
    Calls Tryd.prog 147 #[.agg #[], .int .u32 (fm l), .int .i64 (x : Int)] w fun e w' => e = .returned (.agg #[.int .i64 (x : Int), .bool (gHal l x)]) ∧ Below w.heap.size w w' := by
  have HSW := Lib.hid hsw
  have HS := Lib.hid (fun w h => implSplit l x hx w h)
  have HM1 := Lib.hid (fun w => implSize (wth x l) (fun t h => h32 t (List.mem_filter.1 h).1) (hnd.filter _) w)
  have HM2 := Lib.hid (fun w => implSize (wto x l) (fun t h => h32 t (List.mem_filter.1 h).1) (hnd.filter _) w)
  clear hnd h32
  rw [gHal]
  clear hsw
  generalize fm l = F at *
  generalize fm (wth x l) = F1 at *
  generalize fm (wto x l) = F2 at *
  generalize (wth x l).length = D1 at *
  generalize (wto x l).length = D2 at *
  have r0 := (show ((w.alloc (Obj.cells #[] 77)).alloc (Obj.cells #[.int .i64 0, .bool false] 59)).cell? ⟨w.heap.size + 1, 0, none⟩ = some (.int .i64 0) by simp [go_sem])
  have r1 := (show ((w.alloc (Obj.cells #[] 77)).alloc (Obj.cells #[.int .i64 0, .bool false] 59)).cell? ⟨w.heap.size + 1, 1, none⟩ = some (.bool false) by simp [go_sem])
  have q0 := (show ((w.alloc (Obj.cells #[] 77)).alloc (Obj.cells #[.int .i64 0, .bool false] 59)).frozen? ⟨w.heap.size + 1, 0, none⟩ = false by simp [go_sem])
  have q1 := (show ((w.alloc (Obj.cells #[] 77)).alloc (Obj.cells #[.int .i64 0, .bool false] 59)).frozen? ⟨w.heap.size + 1, 1, none⟩ = false by simp [go_sem])
  have HB0 := Lib.hid (show Below w.heap.size w ((w.alloc (Obj.cells #[] 77)).alloc (Obj.cells #[.int .i64 0, .bool false] 59)) by go_grown)
  have HZ0 := Lib.hid (show ((w.alloc (Obj.cells #[] 77)).alloc (Obj.cells #[.int .i64 0, .bool false] 59)).heap.size = w.heap.size + 2 by simp)
  have HR := Lib.hid (And.intro (And.intro r0 r1) (And.intro q0 q1))
  clear r0 r1 q0 q1
  go_enter Tryd.func147, Tryd.ntmps147
  go_wp2_with fail
  generalize ((w.alloc (Obj.cells #[] 77)).alloc (Obj.cells #[.int .i64 0, .bool false] 59)) = w0 at *
  refine (HS.out _ (HSW.out.next HB0.out)).mono ?_
  rintro e w1 ⟨rfl, d, rfl⟩
  go_wp2_with fail
  refine (HM1.out _).mono ?_
  rintro e w2 ⟨rfl, hb2⟩
  have B2 := Lib.hid (show Below w0.heap.size w0 w2 from Below.trans (below_drewN (Below.refl _ _) d) hb2)
  have hz2 := B2.out.size
  clear hb2
  go_wp2_with fail
  refine (HM2.out _).mono ?_
  rintro e w3 ⟨rfl, hb3⟩
  have B3 := Lib.hid (B2.out.trans (hb3.mono hz2))
  clear hb3
  have hlt : w.heap.size + 1 < w0.heap.size := by have := HZ0.out; omega
  have r0 := (B3.out.cell (p := ⟨w.heap.size + 1, 0, none⟩) hlt).trans HR.out.1.1
  have r1 := (B3.out.cell (p := ⟨w.heap.size + 1, 1, none⟩) hlt).trans HR.out.1.2
  have q0 := (B3.out.frozen (p := ⟨w.heap.size + 1, 0, none⟩) hlt).trans HR.out.2.1
  have q1 := (B3.out.frozen (p := ⟨w.heap.size + 1, 1, none⟩) hlt).trans HR.out.2.2
  have HBW := Lib.hid (HB0.out.trans (B3.out.mono (show w.heap.size ≤ w0.heap.size by omega)))
  go_wp2_with fail
  refine bodyPost_ret (v := .agg #[.int .i64 (x : Int), .bool (decide (D2 < D1))]) (by simp [results, Tryd.results147, go_sem, r0, r1]) rfl ?_
  refine ⟨rfl, ?_⟩
  have hb0 := HBW.out
  clear r0 r1 q0 q1
  go_grown

end Go.Proofs.YtiocaopabkbgpaaDoor
