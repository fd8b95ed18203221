/- FnLayersOf's walk: layers are all sets. Conditions: the code is a slice of bytes. -/
import Derived.Test.YthmipnflbiclbaaDoorDrawsLy
import Derived.Test.YthmipnflbiclbaaDoorLpM
import Derived.Test.YthmipnflbiclbaaDoorLyF
import Derived.Test.YthmipnflbiclbaaDoorTDim
import Derived.Test.YthmipnflbiclbaaDoorZJ
import Derived.Test.YthmipnflbiclbaaDoorZK
import Derived.Test.YthmipnflbiclbaaDoorZY
namespace Go.Proofs.YthmipnflbiclbaaDoor
open Go.RowKit

theorem eqB_self (xs : List Int) : eqB xs xs = true := eqB_of rfl (fun _ _ => rfl)
theorem et_in2 {m : Nat} {ns : List Nat} (hv : vldB (m : Int) (toI ns) = true) : etB (m : Int) (toI ns) = ezL m ns := by rw [etB, tnsL_in hv, tns_len, ezL]
theorem ly_facts {m : Nat} {ns : List Nat} (hc : Cls m ns) : ∀ j, j < (lys ns).length → 0 < ((lys ns).getD j ([], [])).1.length ∧ ((lys ns).getD j ([], [])).1.Pairwise (· < ·) ∧ ∀ t ∈ ((lys ns).getD j ([], [])).1, t ∈ ns := fun j hj => by
  have hp : (lys ns).getD j ([], []) ∈ lys ns := by
    rw [List.getD_eq_getElem?_getD, List.getElem?_eq_getElem hj]
    exact List.getElem_mem _
  obtain ⟨h1, h2, h3, h4⟩ := lys_mem ns.length ns (Nat.le_refl _) hc _ hp
  rw [h1]
  exact ⟨List.length_pos_iff.2 (lay_ne h2), lay_asc h3.asc, fun t ht => h4 t (lay_sub ht)⟩
theorem ly_first {ns : List Nat} (h : 0 < ns.length) : 0 < (lys ns).length ∧ ((lys ns).getD 0 ([], [])).1 = lay ns := by
  rw [lys_cons (List.length_pos_iff.1 h)]
  exact ⟨Nat.succ_pos _, rfl⟩


set_option maxHeartbeats 6400000 in
set_option maxRecDepth 100000 in
theorem walkFnLayersOf (a : Option Addr) (b off n cap : Nat) (w : World) (hc : n ≤ cap) (hcap : cap ≤ maxLen) (h : Byt w a b off n) (hsw : SW w) :
    Calls Tryd.prog 4 #[.slice a n cap] w fun e w' => e = .returned (.bool true) ∧ Below w.heap.size w w' := by
  have HSW := Lib.hid hsw
  clear hsw
  by_cases hn : n ≤ 1048576
  · have HD := Lib.hid (dDrawLayersOf a b off n cap w hc hn hcap h)
    clear h
    go_enter Tryd.func4, Tryd.ntmps4
    go_wp2_with fail
    refine HD.out.mono ?_
    rintro e w1 ⟨N, zs, hbd, a1, c1, rfl, hin, hb⟩
    generalize hL : zs.length = L at *
    have X := Lib.hid (Bx.new N (.slice a1 L c1) w1)
    have I1 := Lib.hid ((hin.mono (Nat.zero_le _)).alloc (Obj.cells #[.int .i64 N, .slice a1 L c1] 25))
    have B := Lib.hid (hb.alloc hb.size (Obj.cells #[.int .i64 N, .slice a1 L c1] 25))
    have HZ2 := Lib.hid (show (w1.alloc (Obj.cells #[.int .i64 N, .slice a1 L c1] 25)).heap.size = w1.heap.size + 1 by simp)
    have hz1 := hb.size
    clear hin hb HD
    go_wp2_with fail
    generalize (w1.alloc (Obj.cells #[.int .i64 N, .slice a1 L c1] 25)) = w2 at *
    have hz2 := HZ2.out
    generalize ho : w1.heap.size = o at *
    obtain ⟨hN0, hN1, hL34⟩ := hbd
    by_cases hv : vldB N zs = true
    · obtain ⟨m, ns, rfl, rfl, hcl⟩ := vldB_cls hv
      have hL2 : ns.length = L := by rw [← hL, toI_length]
      have HI := Lib.hid (fun v w h hs => implLayersOf (m : Int) v (toI ns) w h hs)
      have HS := Lib.hid (fun v w h => specLayersOf (m : Int) v (toI ns) w h)
      have HV := Lib.hid (fun v w h => implValid (m : Int) v (toI ns) w h)
      have HE := Lib.hid (fun v w h hs => implEasiestTeaching (m : Int) v (toI ns) w h hs)
      have HT := Lib.hid (fun (t : Nat) (ht : t ∈ lay ns) v w (h : Rd w v (toI ns)) (hs : SW w) => show Calls Tryd.prog 22 #[.agg #[.int .i64 (m : Int), v], .int .i64 (t : Int)] w fun e w' => e = .returned (.int .i64 (ezL m ns)) ∧ Below w.heap.size w w' by
        have h9 := implTeachingNumber (m : Int) v (toI ns) (t : Int) w h hs
        rw [show tnB (m : Int) (toI ns) (t : Int) = ezL m ns by rw [(ft_vals hcl hv _).2.2, tns_I hcl (lay_sub ht), ezL_lay hcl ht]] at h9
        exact h9)
      rw [et_in2 hv] at HE
      rw [lyB_in hv] at HI HS
      rw [hv] at HV
      have hsum := lyS_lys L ns (by omega) hcl
      have HFs := Lib.hid (fun (h9 : 0 < L) => ly_first (ns := ns) (by omega))
      have HFa := Lib.hid (ly_facts hcl)
      have h32 := hcl.length
      have hK33 : (lys ns).length ≤ 32 := Nat.le_trans (lys_len ns) h32
      have hfl32 : (lay ns).length ≤ 32 := by rw [lay_flt hcl]; exact Nat.le_trans (List.length_filter_le _ _) h32
      rw [hL2] at hsum h32
      generalize lys ns = PL at *
      generalize lay ns = first at *
      generalize ezL m ns = E at *
      have HSt := Lib.hid (fun k (hk : k < PL.length) => lyS_take hk)
      have HSl := Lib.hid (fun k => lyS_le PL k)
      have H0 := Lib.hid (show lyS (PL.take 0) = 0 from rfl)
      have HSa := Lib.hid (show lyS (PL.take PL.length) = L by rw [List.take_length]; exact hsum)
      have HLz := Lib.hid (fun i (hi : i < PL.length) => lyZ_at hi)
      have HLl := Lib.hid (show (lyZ PL).length = PL.length by rw [lyZ, List.length_map])
      rw [hsum] at HSl
      have HRL := Lib.hid (fun (B : Nat) (w : World) (a : Option Addr) (cap : Nat) (bs : List Sl) (h1 : LsS B w (.slice a bs.length cap) bs) (h2 : LyR B w bs PL) => LyR.rd h1 h2)
      generalize lyZ PL = Ps at *
      obtain ⟨K, hK0⟩ : ∃ K, PL.length = K := ⟨_, rfl⟩
      rw [hK0] at HSt HSa HLz HLl HFs HFa hK33
      clear hv hsum
      have HCL := Lib.hid hcl
      clear hcl
      have hLR := Lib.hid (fun (B : Nat) (w : World) (a : Option Addr) (cap : Nat) (bs : List Sl) (h1 : LsS B w (.slice a bs.length cap) bs) (h2 : LyR B w bs PL) => show True from trivial)
      clear hLR
      refine (HI.out _ _ I1.out.rd (by first | exact HSW.out.next B.out | exact (show SW (World.drew _) from HSW.out.next B.out) | exact HSW.out.next (B.out.trans ((Below.refl _ _).drew)))).mono ?_
      rintro e w3 ⟨a3, c3, bs3, rfl, hls3, hly3, _, hb3⟩
      have LA := Lib.hid (HRL.out _ _ _ _ _ hls3 hly3)
      have hK3 : bs3.length = K := hly3.1.trans hK0
      rw [hK3] at LA ⊢
      have hz3 := hb3.size
      replace X := Lib.hid (X.out.next hb3 X.out.lt)
      replace I1 := Lib.hid (I1.out.below hb3 (Nat.le_refl _))
      replace B := Lib.hid (B.out.trans (hb3.mono B.out.size))
      clear hls3 hly3 hb3 hK3
      have x0 := X.out.out.at0
      have x1 := X.out.out.at1
      go_wp2_with fail
      clear x0 x1
      refine (HS.out _ _ I1.out.rd).mono ?_
      rintro e w4 ⟨a4, c4, bs4, rfl, hls4, hly4, hb4⟩
      have LB := Lib.hid (HRL.out _ _ _ _ _ hls4 hly4)
      have hK4 : bs4.length = K := hly4.1.trans hK0
      rw [hK4] at LB ⊢
      have hz4 := hb4.size
      replace X := Lib.hid (X.out.next hb4 X.out.lt)
      replace I1 := Lib.hid (I1.out.below hb4 (Nat.le_refl _))
      replace LA := Lib.hid (LA.out.below hb4 (Nat.le_refl _))
      replace B := Lib.hid (B.out.trans (hb4.mono B.out.size))
      clear hls4 hly4 hb4 hK4
      have x0 := X.out.out.at0
      have x1 := X.out.out.at1
      go_wp2_with fail
      clear x0 x1
      refine (lawsEqualLists _ _ Ps _ LA.out LB.out).mono ?_
      rintro e w5 ⟨rfl, hb5⟩
      have hz5 := hb5.size
      replace X := Lib.hid (X.out.next hb5 X.out.lt)
      replace I1 := Lib.hid (I1.out.below hb5 (Nat.le_refl _))
      replace LA := Lib.hid (LA.out.below hb5 (Nat.le_refl _))
      replace LB := Lib.hid (LB.out.below hb5 (Nat.le_refl _))
      replace B := Lib.hid (B.out.trans (hb5.mono B.out.size))
      clear hb5
      have x0 := X.out.out.at0
      have x1 := X.out.out.at1
      go_wp2_with fail
      clear x0 x1
      refine (HV.out _ _ I1.out.rd).mono ?_
      rintro e w6 ⟨rfl, hb6⟩
      have hz6 := hb6.size
      replace X := Lib.hid (X.out.next hb6 X.out.lt)
      replace I1 := Lib.hid (I1.out.below hb6 (Nat.le_refl _))
      replace LA := Lib.hid (LA.out.below hb6 (Nat.le_refl _))
      replace LB := Lib.hid (LB.out.below hb6 (Nat.le_refl _))
      replace B := Lib.hid (B.out.trans (hb6.mono B.out.size))
      clear hb6
      clear LB HI HS HV HRL
      obtain ⟨bs, ⟨ar, br, offr, capr, er, l1, l3, l5⟩, hle, hins⟩ := LA.out
      simp only [Value.slice.injEq] at er
      obtain ⟨rfl, hbK, rfl⟩ := er
      rw [← hbK] at l1 l5 hins
      have L1 := Lib.hid l1
      have L5 := Lib.hid l5
      have HIN := Lib.hid (fun i (hi : i < K) => show Rd w6 (slv (bs.getD i sl0)) (toI (PL.getD i ([], [])).1) by rw [← HLz.out i hi]; exact hins i hi)
      clear l1 l3 l5 hle hins hbK LA HLz HLl hK0
      have hK32 : K ≤ 33 ∨ True := Or.inr trivial
      clear hK32
      have x0 := X.out.out.at0
      have x1 := X.out.out.at1
      go_wp2_with fail
      clear x0 x1
      go_loopw [5, 6] (fun q i wr => ∃ j : Nat, j ≤ K ∧ i = .int .i64 j ∧ q = .int .i64 ((lyS (PL.take j) : Nat) : Int) ∧ Below w6.heap.size w6 wr) (fun _ i _ => K - (intOf i).toNat)
      case atStart => exact ⟨0, Nat.zero_le _, rfl, by rw [H0.out]; rfl, Below.refl _ _⟩
      case round =>
        obtain ⟨j, hj, rfl, rfl, hbe⟩ := hrel
        have HBE := Lib.hid hbe
        have hzr := hbe.size
        replace X := Lib.hid (X.out.next hbe X.out.lt)
        replace I1 := Lib.hid (I1.out.below hbe (Nat.le_refl _))
        replace B := Lib.hid (B.out.trans (hbe.mono B.out.size))
        by_cases hlt : j < K
        · obtain ⟨rfl, hbl⟩ := L1.out (by omega)
          have hcx0 := (hbe.cell (p := ⟨br, offr + j, none⟩) hbl).trans (L5.out j hlt)
          have hrq0 := (HIN.out j hlt).below hbe (Nat.le_refl _)
          obtain ⟨⟨sg, sn, sc⟩, hs⟩ : ∃ s, s = bs.getD j sl0 := ⟨_, rfl⟩
          rw [← hs] at hcx0 hrq0
          dsimp only [slv] at hcx0 hrq0
          obtain ⟨hq0, hqa, hqm⟩ := HFa.out j hlt
          have hst := HSt.out j hlt
          have hsl := HSl.out (j + 1)
          have hsl0 := HSl.out j
          generalize (PL.getD j ([], [])).1 = q at *
          have hsn : sn = q.length := by
            obtain ⟨_, _, _, _, e9, _⟩ := hrq0
            simp only [Value.slice.injEq] at e9
            rw [e9.2.1, toI_length]
          rw [hsn] at hcx0 hrq0
          have Hcx := Lib.hid hcx0
          have RQ := Lib.hid hrq0
          have HQa := Lib.hid hqa
          have HAm := Lib.hid (fun v1 v2 w0 (h1 : Rd w0 v1 (toI q)) (h2 : Rd w0 v2 (toI ns)) => (lawsAmong v1 v2 q ns w0 h1 h2 hqm).mono (fun e w' h => show e = .returned (.bool true) ∧ Below w0.heap.size w0 w' from ⟨h.1, by rw [h.2]; exact Below.refl _ _⟩))
          obtain ⟨qn, hqn⟩ : ∃ qn, qn = q.length := ⟨_, rfl⟩
          rw [← hqn] at Hcx RQ hq0 hst
          obtain ⟨s0, hs0⟩ : ∃ s0, s0 = lyS (PL.take j) := ⟨_, rfl⟩
          rw [← hs0] at hst hsl0 ⊢
          have HS1 := Lib.hid hst
          clear hs hsn hqn hs0 hcx0 hrq0 hqa hqm hst hsl
          have hs1 : s0 + qn ≤ L := by have := HSl.out (j + 1); rw [HS1.out] at this; exact this
          clear HSl HFs HFa HSt HSa HIN L1 L5
          have hjI : (j : Int) < (K : Int) := by omega
          have hd0 : ((qn : Int) == 0) = false := by rw [beq_eq_false_iff_ne]; omega
          obtain ⟨w7, hwr⟩ : ∃ w7, w7 = wr := ⟨_, rfl⟩
          subst hwr
          have hbl2 : br < w7.heap.size := by omega
          clear hbe
          have x0 := X.out.out.at0
          have x1 := X.out.out.at1
          have cx := Hcx.out
          go_wp2_with fail
          refine wp_region_held_drew (S := fun w' => w'.cell? ⟨o, 0, none⟩ = some (.int .i64 (m : Int)) ∧ w'.cell? ⟨o, 1, none⟩ = some (.slice a1 L c1) ∧ w'.cell? ⟨br, offr + j, none⟩ = some (.slice (some ⟨sg, 0, none⟩) qn sc)) (by kernel_rfl) (by first | exact ⟨x0, x1, cx⟩ | go_keep) (fun hHeld => ?_)
          refine wpAnyH_take (i := 0) (v := ?_) rfl (by kernel_rfl) (by kernel_rfl) (by kernel_rfl) (fun _ _ _ h => h) (Or.inl ⟨by rfl, ?_⟩) (by assumption) ?_
          rotate_left
          · (intro w hSw; (try dsimp only at hSw); go_simp; try with_reducible rfl)
          try simp only [List.getElem_toArray, List.getElem_cons_zero, Act.put, List.setIfInBounds_toArray, List.set_cons_zero, List.set_cons_succ]
          refine wpAnyH_take (i := 1) (v := ?_) rfl (by kernel_rfl) (by kernel_rfl) (by kernel_rfl) (fun _ _ _ h => h) (Or.inl ⟨by rfl, ?_⟩) (by assumption) ?_
          rotate_left
          · (intro w hSw; (try dsimp only at hSw); go_simp; try with_reducible rfl)
          try simp only [List.getElem_toArray, List.getElem_cons_zero, List.getElem_cons_succ, Act.put, List.setIfInBounds_toArray, List.set_cons_zero, List.set_cons_succ]
          refine wpAnyH_take (i := 2) (v := ?_) rfl (by kernel_rfl) (by kernel_rfl) (by kernel_rfl) (fun _ _ _ h => h) (Or.inl ⟨by rfl, ?_⟩) (by assumption) ?_
          rotate_left
          · (intro w hSw; (try dsimp only at hSw); go_simp; try with_reducible rfl)
          try simp only [List.getElem_toArray, List.getElem_cons_zero, List.getElem_cons_succ, Act.put, List.setIfInBounds_toArray, List.set_cons_zero, List.set_cons_succ]
          refine wpAnyH_take (i := 3) (v := ?_) rfl (by kernel_rfl) (by kernel_rfl) (by kernel_rfl) (fun _ _ _ h => h) (Or.inl ⟨by rfl, ?_⟩) (by assumption) ?_
          rotate_left
          · (intro w hSw; (try dsimp only at hSw); go_simp; try with_reducible rfl)
          try simp only [List.getElem_toArray, List.getElem_cons_zero, List.getElem_cons_succ, Act.put, List.setIfInBounds_toArray, List.set_cons_zero, List.set_cons_succ]
          refine wpAnyH_take (i := 4) (v := ?_) rfl (by kernel_rfl) (by kernel_rfl) (by kernel_rfl) (fun _ _ _ h => h) (Or.inl ⟨by rfl, ?_⟩) (by assumption) ?_
          rotate_left
          · (intro w hSw; (try dsimp only at hSw); go_simp; try with_reducible rfl)
          try simp only [List.getElem_toArray, List.getElem_cons_zero, List.getElem_cons_succ, Act.put, List.setIfInBounds_toArray, List.set_cons_zero, List.set_cons_succ]
          refine wpAnyH_take (i := 5) (v := ?_) rfl (by kernel_rfl) (by kernel_rfl) (by kernel_rfl) (fun _ _ _ h => h) (Or.inl ⟨by rfl, ?_⟩) (by assumption) ?_
          rotate_left
          · (intro w hSw; (try dsimp only at hSw); go_simp; try with_reducible rfl)
          try simp only [List.getElem_toArray, List.getElem_cons_zero, List.getElem_cons_succ, Act.put, List.setIfInBounds_toArray, List.set_cons_zero, List.set_cons_succ]
          refine wpAnyH_take (i := 6) (v := ?_) rfl (by kernel_rfl) (by kernel_rfl) (by kernel_rfl) (fun _ _ _ h => h) (Or.inl ⟨by rfl, ?_⟩) (by assumption) ?_
          rotate_left
          · (intro w hSw; (try dsimp only at hSw); go_simp; try with_reducible rfl)
          try simp only [List.getElem_toArray, List.getElem_cons_zero, List.getElem_cons_succ, Act.put, List.setIfInBounds_toArray, List.set_cons_zero, List.set_cons_succ]
          refine wpAnyH_take (i := 7) (v := ?_) rfl (by kernel_rfl) (by kernel_rfl) (by kernel_rfl) (fun _ _ _ h => h) (Or.inl ⟨by rfl, ?_⟩) (by assumption) ?_
          rotate_left
          · (intro w hSw; (try dsimp only at hSw); go_simp; try with_reducible rfl)
          try simp only [List.getElem_toArray, List.getElem_cons_zero, List.getElem_cons_succ, Act.put, List.setIfInBounds_toArray, List.set_cons_zero, List.set_cons_succ]
          refine wpAnyH_take (i := 8) (v := ?_) rfl (by kernel_rfl) (by kernel_rfl) (by kernel_rfl) (fun _ _ _ h => h) (Or.inl ⟨by rfl, ?_⟩) (by assumption) ?_
          rotate_left
          · (intro w hSw; (try dsimp only at hSw); go_simp; try with_reducible rfl)
          try simp only [List.getElem_toArray, List.getElem_cons_zero, List.getElem_cons_succ, Act.put, List.setIfInBounds_toArray, List.set_cons_zero, List.set_cons_succ]
          refine wpAnyH_take (i := 9) (v := ?_) rfl (by kernel_rfl) (by kernel_rfl) (by kernel_rfl) (fun _ _ _ h => h) (Or.inl ⟨by rfl, ?_⟩) (by assumption) ?_
          rotate_left
          · (intro w hSw; (try dsimp only at hSw); go_simp; try with_reducible rfl)
          try simp only [List.getElem_toArray, List.getElem_cons_zero, List.getElem_cons_succ, Act.put, List.setIfInBounds_toArray, List.set_cons_zero, List.set_cons_succ]
          refine wpAnyH_take (i := 10) (v := ?_) rfl (by kernel_rfl) (by kernel_rfl) (by kernel_rfl) (fun _ _ _ h => h) (Or.inl ⟨by rfl, ?_⟩) (by assumption) ?_
          rotate_left
          · (intro w hSw; (try dsimp only at hSw); go_simp; try with_reducible rfl)
          try simp only [List.getElem_toArray, List.getElem_cons_zero, List.getElem_cons_succ, Act.put, List.setIfInBounds_toArray, List.set_cons_zero, List.set_cons_succ]
          refine wpAnyH_ready (rs := [11]) (by kernel_rfl) (by simp) ?_
          refine AllReadyH.cons rfl (fun K hK => ?_) AllReadyH.nil
          try simp only [List.getElem_toArray]
          go_simp
          (go_at_call 20; refine (lawsAscends _ q _ (by first | exact RQ.out | exact RQ.out.below (k := w7.heap.size) ((Below.refl _ _).drew) (Nat.le_refl _)) HQa.out).mono ?_; rintro e w8 ⟨he8, hd8⟩; subst he8; have hb8 : Below w7.heap.size w7 w8 := (by obtain ⟨d, rfl⟩ := hd8; first | exact below_drewN (Below.refl _ _) d | exact below_drewN ((Below.refl _ _).drew) d); clear hd8; have hz8 := hb8.size; replace X := Lib.hid (X.out.next hb8 X.out.lt); replace I1 := Lib.hid (I1.out.below hb8 (Nat.le_refl _)); replace RQ := Lib.hid (RQ.out.below hb8 (Nat.le_refl _)); replace B := Lib.hid (B.out.trans (hb8.mono B.out.size)); replace Hcx := Lib.hid ((hb8.cell (p := ⟨br, offr + j, none⟩) (by show br < _; omega)).trans Hcx.out); replace HBE := Lib.hid (HBE.out.trans (hb8.mono (by omega))); clear hb8; have x0_8 := X.out.out.at0; have x1_8 := X.out.out.at1; have cx_8 := Hcx.out)
          refine hK.out _ _ (by first | exact ⟨x0_8, x1_8, cx_8⟩ | exact ⟨x0, x1, cx⟩ | go_keep) (fun hHeld => ?_)
          clear hK K
          try simp only [List.getElem_toArray, List.getElem_cons_zero, List.getElem_cons_succ, Act.put, List.setIfInBounds_toArray, List.set_cons_zero, List.set_cons_succ]
          refine wpAnyH_take (i := 12) (v := ?_) rfl (by kernel_rfl) (by kernel_rfl) (by kernel_rfl) (fun _ _ _ h => h) (Or.inl ⟨by rfl, ?_⟩) (by assumption) ?_
          rotate_left
          · (intro w hSw; (try dsimp only at hSw); go_simp; try with_reducible rfl)
          try simp only [List.getElem_toArray, List.getElem_cons_zero, List.getElem_cons_succ, Act.put, List.setIfInBounds_toArray, List.set_cons_zero, List.set_cons_succ]
          refine wpAnyH_take (i := 13) (v := ?_) rfl (by kernel_rfl) (by kernel_rfl) (by kernel_rfl) (fun _ _ _ h => h) (Or.inl ⟨by rfl, ?_⟩) (by assumption) ?_
          rotate_left
          · (intro w hSw; (try dsimp only at hSw); go_simp; try with_reducible rfl)
          try simp only [List.getElem_toArray, List.getElem_cons_zero, List.getElem_cons_succ, Act.put, List.setIfInBounds_toArray, List.set_cons_zero, List.set_cons_succ]
          refine wpAnyH_take (i := 14) (v := ?_) rfl (by kernel_rfl) (by kernel_rfl) (by kernel_rfl) (fun _ _ _ h => h) (Or.inl ⟨by rfl, ?_⟩) (by assumption) ?_
          rotate_left
          · (intro w hSw; (try dsimp only at hSw); go_simp; try with_reducible rfl)
          try simp only [List.getElem_toArray, List.getElem_cons_zero, List.getElem_cons_succ, Act.put, List.setIfInBounds_toArray, List.set_cons_zero, List.set_cons_succ]
          refine wpAnyH_take (i := 15) (v := ?_) rfl (by kernel_rfl) (by kernel_rfl) (by kernel_rfl) (fun _ _ _ h => h) (Or.inl ⟨by rfl, ?_⟩) (by assumption) ?_
          rotate_left
          · (intro w hSw; (try dsimp only at hSw); go_simp; try with_reducible rfl)
          try simp only [List.getElem_toArray, List.getElem_cons_zero, List.getElem_cons_succ, Act.put, List.setIfInBounds_toArray, List.set_cons_zero, List.set_cons_succ]
          refine wpAnyH_take (i := 16) (v := ?_) rfl (by kernel_rfl) (by kernel_rfl) (by kernel_rfl) (fun _ _ _ h => h) (Or.inl ⟨by rfl, ?_⟩) (by assumption) ?_
          rotate_left
          · (intro w hSw; (try dsimp only at hSw); go_simp; try with_reducible rfl)
          try simp only [List.getElem_toArray, List.getElem_cons_zero, List.getElem_cons_succ, Act.put, List.setIfInBounds_toArray, List.set_cons_zero, List.set_cons_succ]
          refine wpAnyH_take (i := 17) (v := ?_) rfl (by kernel_rfl) (by kernel_rfl) (by kernel_rfl) (fun _ _ _ h => h) (Or.inl ⟨by rfl, ?_⟩) (by assumption) ?_
          rotate_left
          · (intro w hSw; (try dsimp only at hSw); go_simp; try with_reducible rfl)
          try simp only [List.getElem_toArray, List.getElem_cons_zero, List.getElem_cons_succ, Act.put, List.setIfInBounds_toArray, List.set_cons_zero, List.set_cons_succ]
          refine wpAnyH_take (i := 18) (v := ?_) rfl (by kernel_rfl) (by kernel_rfl) (by kernel_rfl) (fun _ _ _ h => h) (Or.inl ⟨by rfl, ?_⟩) (by assumption) ?_
          rotate_left
          · (intro w hSw; (try dsimp only at hSw); go_simp; try with_reducible rfl)
          try simp only [List.getElem_toArray, List.getElem_cons_zero, List.getElem_cons_succ, Act.put, List.setIfInBounds_toArray, List.set_cons_zero, List.set_cons_succ]
          refine wpAnyH_take (i := 19) (v := ?_) rfl (by kernel_rfl) (by kernel_rfl) (by kernel_rfl) (fun _ _ _ h => h) (Or.inl ⟨by rfl, ?_⟩) (by assumption) ?_
          rotate_left
          · (intro w hSw; (try dsimp only at hSw); go_simp; try with_reducible rfl)
          try simp only [List.getElem_toArray, List.getElem_cons_zero, List.getElem_cons_succ, Act.put, List.setIfInBounds_toArray, List.set_cons_zero, List.set_cons_succ]
          refine wpAnyH_take (i := 20) (v := ?_) rfl (by kernel_rfl) (by kernel_rfl) (by kernel_rfl) (fun _ _ _ h => h) (Or.inl ⟨by rfl, ?_⟩) (by assumption) ?_
          rotate_left
          · (intro w hSw; (try dsimp only at hSw); go_simp; try with_reducible rfl)
          try simp only [List.getElem_toArray, List.getElem_cons_zero, List.getElem_cons_succ, Act.put, List.setIfInBounds_toArray, List.set_cons_zero, List.set_cons_succ]
          refine wpAnyH_ready (rs := [21]) (by kernel_rfl) (by simp) ?_
          refine AllReadyH.cons rfl (fun K hK => ?_) AllReadyH.nil
          try simp only [List.getElem_toArray]
          go_simp
          (go_at_call 21; refine (HAm.out _ _ _ (by first | exact RQ.out | exact RQ.out.below (k := w8.heap.size) ((Below.refl _ _).drew) (Nat.le_refl _)) (by first | exact I1.out.rd | exact I1.out.rd.below (k := w8.heap.size) ((Below.refl _ _).drew) (Nat.le_refl _))).mono ?_; rintro e w9 ⟨rfl, hbd⟩; have hb9 : Below w8.heap.size w8 w9 := (by first | exact hbd | exact ⟨hbd.os, hbd.tape, hbd.output, hbd.size, hbd.block⟩); clear hbd; have hz9 := hb9.size; replace X := Lib.hid (X.out.next hb9 X.out.lt); replace I1 := Lib.hid (I1.out.below hb9 (Nat.le_refl _)); replace RQ := Lib.hid (RQ.out.below hb9 (Nat.le_refl _)); replace B := Lib.hid (B.out.trans (hb9.mono B.out.size)); replace Hcx := Lib.hid ((hb9.cell (p := ⟨br, offr + j, none⟩) (by show br < _; omega)).trans Hcx.out); replace HBE := Lib.hid (HBE.out.trans (hb9.mono (by omega))); clear hb9; have x0_9 := X.out.out.at0; have x1_9 := X.out.out.at1; have cx_9 := Hcx.out)
          refine hK.out _ _ (by first | exact ⟨x0_9, x1_9, cx_9⟩ | exact ⟨x0_8, x1_8, cx_8⟩ | exact ⟨x0, x1, cx⟩ | go_keep) (fun hHeld => ?_)
          clear hK K
          try simp only [List.getElem_toArray, List.getElem_cons_zero, List.getElem_cons_succ, Act.put, List.setIfInBounds_toArray, List.set_cons_zero, List.set_cons_succ]
          refine wpAnyH_take (i := 22) (v := ?_) rfl (by kernel_rfl) (by kernel_rfl) (by kernel_rfl) (fun _ _ _ h => h) (Or.inl ⟨by rfl, ?_⟩) (by assumption) ?_
          rotate_left
          · (intro w hSw; (try dsimp only at hSw); go_simp; try with_reducible rfl)
          try simp only [List.getElem_toArray, List.getElem_cons_zero, List.getElem_cons_succ, Act.put, List.setIfInBounds_toArray, List.set_cons_zero, List.set_cons_succ]
          refine wpAnyH_take (i := 23) (v := ?_) rfl (by kernel_rfl) (by kernel_rfl) (by kernel_rfl) (fun _ _ _ h => h) (Or.inl ⟨by rfl, ?_⟩) (by assumption) ?_
          rotate_left
          · (intro w hSw; (try dsimp only at hSw); go_simp; try with_reducible rfl)
          try simp only [List.getElem_toArray, List.getElem_cons_zero, List.getElem_cons_succ, Act.put, List.setIfInBounds_toArray, List.set_cons_zero, List.set_cons_succ]
          refine wpAnyH_done (by kernel_rfl) ?_ _
          all_goals
            go_wp2_with fail
            go_roundw
            case rel => exact ⟨j + 1, by omega, by go_num, by rw [HS1.out]; go_num, HBE.out⟩
            case measure => simp [intOf]; omega
        · obtain rfl : j = K := by omega
          rw [HSa.out]
          obtain ⟨w7, hwr⟩ : ∃ w7, w7 = wr := ⟨_, rfl⟩
          subst hwr
          by_cases h0 : L = 0
          · have hn0 : ¬ (0 : Int) < (L : Int) := by omega
            have hd9 : ((L : Int) == (L : Int)) = true := by simp
            clear HFs HFa HSt HSa HSl HIN L1 L5 hbe
            have x0 := X.out.out.at0
            have x1 := X.out.out.at1
            go_wp2_with fail
            go_loopw [7] (fun i wr => i = .int .i64 0 ∧ wr = w7) (fun _ _ => 0)
            case atStart => exact ⟨rfl, rfl⟩
            case round =>
              obtain ⟨rfl, hwr⟩ := hrel
              subst wr
              go_wp2_with fail
              go_ret
              exact ⟨rfl, B.out⟩
          · have hn0 : (0 : Int) < (L : Int) := by omega
            obtain ⟨hj0, hf1⟩ := HFs.out (by omega)
            obtain ⟨rfl, hbl⟩ := L1.out hj0
            have hcx0 := (hbe.cell (p := ⟨br, offr + 0, none⟩) hbl).trans (L5.out 0 hj0)
            have hrq0 := (HIN.out 0 hj0).below hbe (Nat.le_refl _)
            obtain ⟨⟨sg, sn, sc⟩, hs⟩ : ∃ s, s = bs.getD 0 sl0 := ⟨_, rfl⟩
            rw [← hs] at hcx0 hrq0
            rw [Nat.add_zero] at hcx0
            dsimp only [slv] at hcx0 hrq0
            rw [hf1] at hrq0
            obtain ⟨hq0, _, _⟩ := HFa.out 0 hj0
            rw [hf1] at hq0
            have hsn : sn = first.length := by
              obtain ⟨_, _, _, _, e9, _⟩ := hrq0
              simp only [Value.slice.injEq] at e9
              rw [e9.2.1, toI_length]
            rw [hsn] at hcx0 hrq0
            obtain ⟨a9, b9, off9, cap9, e9, k1, k3, k5⟩ := hrq0
            rw [toI_length] at e9 k1 k5
            obtain ⟨e8, hb9⟩ := k1 hq0
            simp only [Value.slice.injEq] at e9
            rw [e8] at e9
            obtain ⟨e7, -, -⟩ := e9
            simp only [Option.some.injEq, Addr.mk.injEq, and_true] at e7
            obtain ⟨rfl, rfl⟩ := e7
            have K5 := Lib.hid (fun t (ht : t < first.length) => show w7.cell? ⟨sg, t, none⟩ = some (.int .i64 ((first.getD t 0 : Nat) : Int)) by have h9 := k5 t ht; rwa [toI_getD, Nat.zero_add] at h9)
            have HMm := Lib.hid (fun t (ht : t < first.length) => getD_of_lt ht)
            obtain ⟨qn, hqn⟩ : ∃ qn, qn = first.length := ⟨_, rfl⟩
            rw [← hqn] at hcx0 hq0 K5 HMm hfl32
            have Hcx0 := Lib.hid hcx0
            have hqn32 : qn ≤ 1000000 ∨ True := Or.inr trivial
            clear hqn32
            have hbl2 : br < w7.heap.size := by omega
            clear hs hsn k1 k3 k5 e8 hqn hcx0 HFs HFa HSt HSa HSl HIN L1 L5 hf1 hbe
            have hq63 : (qn : Int) ≤ 9223372036854775807 := by omega
            have x0 := X.out.out.at0
            have x1 := X.out.out.at1
            have cx := Hcx0.out
            go_wp2_with fail
            clear x0 x1 cx
            go_loopw [7] (fun i wr => ∃ t : Nat, t ≤ qn ∧ i = .int .i64 t ∧ Below w7.heap.size w7 wr) (fun i _ => qn - (intOf i).toNat)
            case atStart => exact ⟨0, Nat.zero_le _, rfl, Below.refl _ _⟩
            case round =>
              obtain ⟨t, ht, rfl, hbe⟩ := hrel
              have HBE := Lib.hid hbe
              have hzr2 := hbe.size
              replace X := Lib.hid (X.out.next hbe X.out.lt)
              replace I1 := Lib.hid (I1.out.below hbe (Nat.le_refl _))
              replace B := Lib.hid (B.out.trans (hbe.mono B.out.size))
              have Hcx := Lib.hid ((hbe.cell (p := ⟨br, offr, none⟩) hbl2).trans Hcx0.out)
              by_cases hlt : t < qn
              · have Hcy := Lib.hid ((hbe.cell (p := ⟨sg, t, none⟩) hb9).trans (K5.out t hlt))
                have HTt := Lib.hid (HT.out _ (HMm.out t hlt))
                generalize first.getD t 0 = u at *
                have htI : (t : Int) < (qn : Int) := by omega
                obtain ⟨w8, hwr⟩ : ∃ w8, w8 = wr := ⟨_, rfl⟩
                subst hwr
                have hbl3 : br < w8.heap.size := by omega
                have hsg3 : sg < w8.heap.size := by omega
                have hE9 : (E != E) = false := by simp
                clear hbe K5 HMm HT hbl2 hb9 Hcx0
                have x0 := X.out.out.at0
                have x1 := X.out.out.at1
                have cx := Hcx.out
                have cy := Hcy.out
                go_wp2_with fail
                refine wp_region_held_drew (S := fun w' => w'.cell? ⟨o, 0, none⟩ = some (.int .i64 (m : Int)) ∧ w'.cell? ⟨o, 1, none⟩ = some (.slice a1 L c1) ∧ w'.cell? ⟨br, offr, none⟩ = some (.slice (some ⟨sg, 0, none⟩) qn sc) ∧ w'.cell? ⟨sg, t, none⟩ = some (.int .i64 (u : Int))) (by kernel_rfl) (by first | exact ⟨x0, x1, cx, cy⟩ | go_keep) (fun hHeld => ?_)
                refine wpAnyH_take (i := 0) (v := ?_) rfl (by kernel_rfl) (by kernel_rfl) (by kernel_rfl) (fun _ _ _ h => h) (Or.inl ⟨by rfl, ?_⟩) (by assumption) ?_
                rotate_left
                · (intro w hSw; (try dsimp only at hSw); go_simp; try with_reducible rfl)
                try simp only [List.getElem_toArray, List.getElem_cons_zero, Act.put, List.setIfInBounds_toArray, List.set_cons_zero, List.set_cons_succ]
                refine wpAnyH_take (i := 1) (v := ?_) rfl (by kernel_rfl) (by kernel_rfl) (by kernel_rfl) (fun _ _ _ h => h) (Or.inl ⟨by rfl, ?_⟩) (by assumption) ?_
                rotate_left
                · (intro w hSw; (try dsimp only at hSw); go_simp; try with_reducible rfl)
                try simp only [List.getElem_toArray, List.getElem_cons_zero, List.getElem_cons_succ, Act.put, List.setIfInBounds_toArray, List.set_cons_zero, List.set_cons_succ]
                refine wpAnyH_take (i := 2) (v := ?_) rfl (by kernel_rfl) (by kernel_rfl) (by kernel_rfl) (fun _ _ _ h => h) (Or.inl ⟨by rfl, ?_⟩) (by assumption) ?_
                rotate_left
                · (intro w hSw; (try dsimp only at hSw); go_simp; try with_reducible rfl)
                try simp only [List.getElem_toArray, List.getElem_cons_zero, List.getElem_cons_succ, Act.put, List.setIfInBounds_toArray, List.set_cons_zero, List.set_cons_succ]
                refine wpAnyH_take (i := 3) (v := ?_) rfl (by kernel_rfl) (by kernel_rfl) (by kernel_rfl) (fun _ _ _ h => h) (Or.inl ⟨by rfl, ?_⟩) (by assumption) ?_
                rotate_left
                · (intro w hSw; (try dsimp only at hSw); go_simp; try with_reducible rfl)
                try simp only [List.getElem_toArray, List.getElem_cons_zero, List.getElem_cons_succ, Act.put, List.setIfInBounds_toArray, List.set_cons_zero, List.set_cons_succ]
                refine wpAnyH_take (i := 4) (v := ?_) rfl (by kernel_rfl) (by kernel_rfl) (by kernel_rfl) (fun _ _ _ h => h) (Or.inl ⟨by rfl, ?_⟩) (by assumption) ?_
                rotate_left
                · (intro w hSw; (try dsimp only at hSw); go_simp; try with_reducible rfl)
                try simp only [List.getElem_toArray, List.getElem_cons_zero, List.getElem_cons_succ, Act.put, List.setIfInBounds_toArray, List.set_cons_zero, List.set_cons_succ]
                refine wpAnyH_take (i := 5) (v := ?_) rfl (by kernel_rfl) (by kernel_rfl) (by kernel_rfl) (fun _ _ _ h => h) (Or.inl ⟨by rfl, ?_⟩) (by assumption) ?_
                rotate_left
                · (intro w hSw; (try dsimp only at hSw); go_simp; try with_reducible rfl)
                try simp only [List.getElem_toArray, List.getElem_cons_zero, List.getElem_cons_succ, Act.put, List.setIfInBounds_toArray, List.set_cons_zero, List.set_cons_succ]
                refine wpAnyH_take (i := 6) (v := ?_) rfl (by kernel_rfl) (by kernel_rfl) (by kernel_rfl) (fun _ _ _ h => h) (Or.inl ⟨by rfl, ?_⟩) (by assumption) ?_
                rotate_left
                · (intro w hSw; (try dsimp only at hSw); go_simp; try with_reducible rfl)
                try simp only [List.getElem_toArray, List.getElem_cons_zero, List.getElem_cons_succ, Act.put, List.setIfInBounds_toArray, List.set_cons_zero, List.set_cons_succ]
                refine wpAnyH_take (i := 8) (v := ?_) rfl (by kernel_rfl) (by kernel_rfl) (by kernel_rfl) (fun _ _ _ h => h) (Or.inl ⟨by rfl, ?_⟩) (by assumption) ?_
                rotate_left
                · (intro w hSw; (try dsimp only at hSw); go_simp; try with_reducible rfl)
                try simp only [List.getElem_toArray, List.getElem_cons_zero, List.getElem_cons_succ, Act.put, List.setIfInBounds_toArray, List.set_cons_zero, List.set_cons_succ]
                refine wpAnyH_ready (rs := [7]) (by kernel_rfl) (by simp) ?_
                refine AllReadyH.cons rfl (fun K hK => ?_) AllReadyH.nil
                try simp only [List.getElem_toArray]
                go_simp
                (go_at_call 22; refine (HTt.out _ _ (by first | exact I1.out.rd | exact I1.out.rd.below (k := w8.heap.size) ((Below.refl _ _).drew) (Nat.le_refl _)) (by first | exact HSW.out.next B.out | exact (show SW (World.drew _) from HSW.out.next B.out) | exact HSW.out.next (B.out.trans ((Below.refl _ _).drew)))).mono ?_; rintro e w9 ⟨rfl, hbd⟩; have hb9 : Below w8.heap.size w8 w9 := (by first | exact hbd | exact ⟨hbd.os, hbd.tape, hbd.output, hbd.size, hbd.block⟩); clear hbd; have hz9 := hb9.size; replace X := Lib.hid (X.out.next hb9 X.out.lt); replace I1 := Lib.hid (I1.out.below hb9 (Nat.le_refl _)); replace B := Lib.hid (B.out.trans (hb9.mono B.out.size)); replace Hcx := Lib.hid ((hb9.cell (p := ⟨br, offr, none⟩) (by show br < _; omega)).trans Hcx.out); replace Hcy := Lib.hid ((hb9.cell (p := ⟨sg, t, none⟩) (by show sg < _; omega)).trans Hcy.out); replace HBE := Lib.hid (HBE.out.trans (hb9.mono (by omega))); clear hb9; have x0_9 := X.out.out.at0; have x1_9 := X.out.out.at1; have cx_9 := Hcx.out; have cy_9 := Hcy.out)
                refine hK.out _ _ (by first | exact ⟨x0_9, x1_9, cx_9, cy_9⟩ | exact ⟨x0, x1, cx, cy⟩ | go_keep) (fun hHeld => ?_)
                clear hK K
                try simp only [List.getElem_toArray, List.getElem_cons_zero, List.getElem_cons_succ, Act.put, List.setIfInBounds_toArray, List.set_cons_zero, List.set_cons_succ]
                refine wpAnyH_ready (rs := [9]) (by kernel_rfl) (by simp) ?_
                refine AllReadyH.cons rfl (fun K hK => ?_) AllReadyH.nil
                try simp only [List.getElem_toArray]
                go_simp
                (go_at_call 23; refine (HE.out _ _ (by first | exact I1.out.rd | exact I1.out.rd.below (k := w9.heap.size) ((Below.refl _ _).drew) (Nat.le_refl _)) (by first | exact HSW.out.next B.out | exact (show SW (World.drew _) from HSW.out.next B.out) | exact HSW.out.next (B.out.trans ((Below.refl _ _).drew)))).mono ?_; rintro e w10 ⟨rfl, hbd⟩; have hb10 : Below w9.heap.size w9 w10 := (by first | exact hbd | exact ⟨hbd.os, hbd.tape, hbd.output, hbd.size, hbd.block⟩); clear hbd; have hz10 := hb10.size; replace X := Lib.hid (X.out.next hb10 X.out.lt); replace I1 := Lib.hid (I1.out.below hb10 (Nat.le_refl _)); replace B := Lib.hid (B.out.trans (hb10.mono B.out.size)); replace Hcx := Lib.hid ((hb10.cell (p := ⟨br, offr, none⟩) (by show br < _; omega)).trans Hcx.out); replace Hcy := Lib.hid ((hb10.cell (p := ⟨sg, t, none⟩) (by show sg < _; omega)).trans Hcy.out); replace HBE := Lib.hid (HBE.out.trans (hb10.mono (by omega))); clear hb10; have x0_10 := X.out.out.at0; have x1_10 := X.out.out.at1; have cx_10 := Hcx.out; have cy_10 := Hcy.out)
                refine hK.out _ _ (by first | exact ⟨x0_10, x1_10, cx_10, cy_10⟩ | exact ⟨x0_9, x1_9, cx_9, cy_9⟩ | exact ⟨x0, x1, cx, cy⟩ | go_keep) (fun hHeld => ?_)
                clear hK K
                try simp only [List.getElem_toArray, List.getElem_cons_zero, List.getElem_cons_succ, Act.put, List.setIfInBounds_toArray, List.set_cons_zero, List.set_cons_succ]
                refine wpAnyH_take (i := 10) (v := ?_) rfl (by kernel_rfl) (by kernel_rfl) (by kernel_rfl) (fun _ _ _ h => h) (Or.inl ⟨by rfl, ?_⟩) (by assumption) ?_
                rotate_left
                · (intro w hSw; (try dsimp only at hSw); go_simp; try with_reducible rfl)
                try simp only [List.getElem_toArray, List.getElem_cons_zero, List.getElem_cons_succ, Act.put, List.setIfInBounds_toArray, List.set_cons_zero, List.set_cons_succ]
                refine wpAnyH_done (by kernel_rfl) ?_ _
                all_goals
                  go_wp2_with fail
                  go_roundw
                  case rel => exact ⟨t + 1, by omega, by go_num, HBE.out⟩
                  case measure => simp [intOf]; omega
              · obtain rfl : t = qn := by omega
                have hd9 : ((L : Int) == (L : Int)) = true := by simp
                have x0 := X.out.out.at0
                have x1 := X.out.out.at1
                have cx := Hcx.out
                clear hbe
                go_wp2_with fail
                go_ret
                exact ⟨rfl, B.out⟩
    · rw [Bool.not_eq_true] at hv
      have HI := Lib.hid (fun v w h hs => implLayersOf N v zs w h hs)
      have HS := Lib.hid (fun v w h => specLayersOf N v zs w h)
      have HV := Lib.hid (fun v w h => implValid N v zs w h)
      rw [lyB_bad hv] at HI HS
      rw [hv] at HV
      have HRL := Lib.hid (fun (B : Nat) (w : World) (a : Option Addr) (cap : Nat) (bs : List Sl) (h1 : LsS B w (.slice a bs.length cap) bs) (h2 : LyR B w bs []) => LyR.rd h1 h2)
      obtain ⟨K, hK0⟩ : ∃ K, ([] : List (List Nat × List Nat)).length = K := ⟨_, rfl⟩
      generalize lyZ [] = Ps at *
      clear hv
      refine (HI.out _ _ I1.out.rd (by first | exact HSW.out.next B.out | exact (show SW (World.drew _) from HSW.out.next B.out) | exact HSW.out.next (B.out.trans ((Below.refl _ _).drew)))).mono ?_
      rintro e w3 ⟨a3, c3, bs3, rfl, hls3, hly3, _, hb3⟩
      have LA := Lib.hid (HRL.out _ _ _ _ _ hls3 hly3)
      have hK3 : bs3.length = K := hly3.1.trans hK0
      rw [hK3] at LA ⊢
      have hz3 := hb3.size
      replace X := Lib.hid (X.out.next hb3 X.out.lt)
      replace I1 := Lib.hid (I1.out.below hb3 (Nat.le_refl _))
      replace B := Lib.hid (B.out.trans (hb3.mono B.out.size))
      clear hls3 hly3 hb3 hK3
      have x0 := X.out.out.at0
      have x1 := X.out.out.at1
      go_wp2_with fail
      clear x0 x1
      refine (HS.out _ _ I1.out.rd).mono ?_
      rintro e w4 ⟨a4, c4, bs4, rfl, hls4, hly4, hb4⟩
      have LB := Lib.hid (HRL.out _ _ _ _ _ hls4 hly4)
      have hK4 : bs4.length = K := hly4.1.trans hK0
      rw [hK4] at LB ⊢
      have hz4 := hb4.size
      replace X := Lib.hid (X.out.next hb4 X.out.lt)
      replace I1 := Lib.hid (I1.out.below hb4 (Nat.le_refl _))
      replace LA := Lib.hid (LA.out.below hb4 (Nat.le_refl _))
      replace B := Lib.hid (B.out.trans (hb4.mono B.out.size))
      clear hls4 hly4 hb4 hK4
      have x0 := X.out.out.at0
      have x1 := X.out.out.at1
      go_wp2_with fail
      clear x0 x1
      refine (lawsEqualLists _ _ Ps _ LA.out LB.out).mono ?_
      rintro e w5 ⟨rfl, hb5⟩
      have hz5 := hb5.size
      replace X := Lib.hid (X.out.next hb5 X.out.lt)
      replace I1 := Lib.hid (I1.out.below hb5 (Nat.le_refl _))
      replace LA := Lib.hid (LA.out.below hb5 (Nat.le_refl _))
      replace LB := Lib.hid (LB.out.below hb5 (Nat.le_refl _))
      replace B := Lib.hid (B.out.trans (hb5.mono B.out.size))
      clear hb5
      have x0 := X.out.out.at0
      have x1 := X.out.out.at1
      go_wp2_with fail
      clear x0 x1
      refine (HV.out _ _ I1.out.rd).mono ?_
      rintro e w6 ⟨rfl, hb6⟩
      have hz6 := hb6.size
      replace X := Lib.hid (X.out.next hb6 X.out.lt)
      replace I1 := Lib.hid (I1.out.below hb6 (Nat.le_refl _))
      replace LA := Lib.hid (LA.out.below hb6 (Nat.le_refl _))
      replace LB := Lib.hid (LB.out.below hb6 (Nat.le_refl _))
      replace B := Lib.hid (B.out.trans (hb6.mono B.out.size))
      clear hb6
      have x0 := X.out.out.at0
      have x1 := X.out.out.at1
      go_wp2_with fail
      clear x0 x1
      refine (HS.out _ _ I1.out.rd).mono ?_
      rintro e w7 ⟨a7, c7, bs7, rfl, hls7, hly7, hb7⟩
      have LC := Lib.hid (HRL.out _ _ _ _ _ hls7 hly7)
      have hK7 : bs7.length = K := hly7.1.trans hK0
      rw [hK7] at LC ⊢
      have hz7 := hb7.size
      replace X := Lib.hid (X.out.next hb7 X.out.lt)
      replace I1 := Lib.hid (I1.out.below hb7 (Nat.le_refl _))
      replace LA := Lib.hid (LA.out.below hb7 (Nat.le_refl _))
      replace LB := Lib.hid (LB.out.below hb7 (Nat.le_refl _))
      replace B := Lib.hid (B.out.trans (hb7.mono B.out.size))
      clear hls7 hly7 hb7 hK7
      have x0 := X.out.out.at0
      have x1 := X.out.out.at1
      go_wp2_with fail
      clear x0 x1
      refine (lawsEqualLists _ _ Ps _ LA.out LC.out).mono ?_
      rintro e w8 ⟨rfl, hb8⟩
      have hz8 := hb8.size
      replace X := Lib.hid (X.out.next hb8 X.out.lt)
      replace I1 := Lib.hid (I1.out.below hb8 (Nat.le_refl _))
      replace LA := Lib.hid (LA.out.below hb8 (Nat.le_refl _))
      replace LB := Lib.hid (LB.out.below hb8 (Nat.le_refl _))
      replace LC := Lib.hid (LC.out.below hb8 (Nat.le_refl _))
      replace B := Lib.hid (B.out.trans (hb8.mono B.out.size))
      clear hb8
      have x0 := X.out.out.at0
      have x1 := X.out.out.at1
      go_wp2_with fail
      clear x0 x1
      go_ret
      exact ⟨rfl, by first | exact B.out | exact B.out.drew⟩
  · go_enter Tryd.func4, Tryd.ntmps4
    go_wp2_with fail
    go_ret
    exact ⟨rfl, Below.refl _ _⟩

end Go.Proofs.YthmipnflbiclbaaDoor
