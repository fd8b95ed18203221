/- relief, the model's: a search for a way from a place that has too many. Conditions: the slices are those of mayTurn. -/
import Derived.Deep.Cut
import Derived.Deep.RegionHeld3
import Derived.Test.YtpkilacappjkhaaOutO
namespace Go.Proofs.Ytpkilacappjkhaa
open Go.RowKit

theorem lit_ls {w : World} {B : Nat} (s : Sl) (hB : B ≤ w.heap.size) : LsS B (w.alloc (.cells #[slv s] 23)) (.slice (some ⟨w.heap.size, 0, none⟩) 1 1) [s] := World.ownsRow_lit w #[slv s] 1 hB (by unfold maxLen; omega) rfl
theorem lit_i1 {w : World} {B : Nat} (x : Int) (hB : B ≤ w.heap.size) : Ints B (w.alloc (.cells #[.int .i64 x] 3)) (.slice (some ⟨w.heap.size, 0, none⟩) 1 1) [x] := World.ownsRow_lit w #[.int .i64 x] 1 hB (by unfold maxLen; omega) rfl
/-- the state at the start -/
theorem Rst.first {w : World} (v : Nat) : Rst (((w.alloc (.cells #[.int .i64 (v : Int)] 3)).alloc (.cells #[] 3)).alloc (.cells #[.slice (some ⟨w.heap.size + 1, 0, none⟩) 0 0] 23)) w.heap.size w.heap.size 1 1 [v] (.slice (some ⟨w.heap.size + 1 + 1, 0, none⟩) 1 1) [⟨w.heap.size + 1, 0, 0⟩] [[]] := by
  refine ⟨?_, rfl, ?_, rfl, fun a ha => ?_⟩
  · exact ((lit_i1 (w := w) (v : Int) (Nat.le_refl _)).alloc _).alloc _
  · have h1 := lit_ls (w := (w.alloc (.cells #[.int .i64 (v : Int)] 3)).alloc (.cells #[] 3)) (B := w.heap.size) ⟨w.heap.size + 1, 0, 0⟩ (by simp; omega)
    simp only [World.size_alloc] at h1
    exact h1
  · rw [List.length_singleton] at ha
    obtain rfl : a = 0 := by omega
    have h1 := Ints.lit w.heap.size (w.alloc (.cells #[.int .i64 (v : Int)] 3)) (by simp)
    simp only [World.size_alloc] at h1
    exact ⟨h1.alloc _, by show w.heap.size + 1 ≠ w.heap.size; omega, rfl⟩

theorem Ints.osrc {B n c : Nat} {w : World} {a : Option Addr} {xs : List Int} (h : Ints B w (.slice a n c) xs) : Src w a n c xs := by
  refine h.rd.src (fun e => ?_)
  obtain ⟨a', g, cap, e2, _, hn, _⟩ := h.shape
  simp only [Value.slice.injEq] at e2
  obtain ⟨rfl, rfl, rfl⟩ := e2
  obtain ⟨rfl, rfl⟩ := hn e
  exact ⟨rfl, rfl⟩

set_option maxHeartbeats 6400000 in
set_option maxRecDepth 100000 in
theorem specRelief (ns os : List Nat) (v most : Nat) (sv pv ov cv : Value) (w : World) (hasc : ns.Pairwise (· < ·)) (hl : ns.length ≤ 32) (hO : Own (ep ns) os) (hv : v < ns.length) (h : Rd w sv (toI ns)) (hp : RdP w pv (egTo ns ns.length)) (ho : Rd w ov (toI os)) (hc : Rd w cv (toI (cnL ns.length os))) (hbig : most < os.count v) :
    Calls Try.prog 33 #[sv, pv, ov, cv, .int .i64 (v : Int), .int .i64 (most : Int)] w fun e w' => ∃ (p : List Nat) (a : Option Addr) (c : Nat), e = .returned (.slice a p.length c) ∧ Ints w.heap.size w' (.slice a p.length c) (toI p) ∧ Below w.heap.size w w' ∧
      ((p = [] ∧ ∃ ss, Clo (ep ns) os ns.length v most ss) ∨ (p ≠ [] ∧ Rel (ep ns) os ns.length v most p)) := by
  have H := Lib.hid h
  obtain ⟨ea, eb, eoff, ecap, rfl, e1, -, e5⟩ := hp
  obtain ⟨oa, ob, ooff, ocap, rfl, o1, -, o5⟩ := ho
  obtain ⟨ca, cb, coff, ccap, rfl, c1, -, c5⟩ := hc
  rw [eg_length] at e1 e5 ⊢
  rw [toI_length] at o1 o5 c1 c5 ⊢
  rw [toI_length]
  rw [cnL_len] at c1 c5 ⊢
  have hoe := hO.1
  rw [hoe] at o1 o5 ⊢
  obtain ⟨N, hN⟩ : ∃ N, N = (ep ns).length := ⟨_, rfl⟩
  have hN9 : N ≤ 1024 := by rw [hN]; exact ep_len hl
  obtain ⟨L, hL⟩ : ∃ L, L = ns.length := ⟨_, rfl⟩
  have HE := Lib.hid (fun k (hk : k < N) => show (ep ns).getD k (0, 0) = (ep ns).getD k (0, 0) ∧ _ from ⟨rfl, ep_at (ns := ns) (e := k) (by omega)⟩)
  have HEG := Lib.hid (fun k (hk : k < N) => eg_at (ns := ns) (e := k) (by omega))
  have HOT := Lib.hid (fun i k u w h hik hk => specOther sv ns i k u w hasc hik hk h)
  have HOW := Lib.hid hO
  have E1 := Lib.hid e1
  have E5 := Lib.hid e5
  have O1 := Lib.hid o1
  have O5 := Lib.hid o5
  have C1 := Lib.hid c1
  have C5 := Lib.hid c5
  have HASC := Lib.hid hasc
  have HBG := Lib.hid hbig
  have HNN := Lib.hid hN
  have HLL := Lib.hid hL
  have F0 := Lib.hid (Rlf.first (E := ep ns) (os := os) (most := most) hv)
  rw [← hN] at E1 E5 O1 O5 ⊢
  rw [← hL] at C1 C5 F0 hv hl ⊢
  have B0 := Lib.hid ((((Below.refl w.heap.size w).alloc (Nat.le_refl _) (.cells #[.int .i64 (v : Int)] 3)).alloc (by simp) (.cells #[] 3)).alloc (by simp; omega) (.cells #[.slice (some ⟨w.heap.size + 1, 0, none⟩) 0 0] 23))
  have R0 := Lib.hid (Rst.first (w := w) v)
  clear h e1 e5 o1 o5 c1 c5 hasc hO hoe hbig hN hL
  go_enter Try.func33, Try.ntmps33
  go_wp2_with fail
  go_loopw [15, 13, 14] (fun i s q wr => ∃ (x : Nat) (ss : List Nat) (ps : List (List Nat)) (sl : List Sl) (g n c : Nat) (pa : Option Addr) (pc : Nat), i = .int .i64 (x : Int) ∧ s = .slice (some ⟨g, 0, none⟩) n c ∧ q = .slice pa sl.length pc ∧ x ≤ n ∧ Rlf (ep ns) os L v most x 0 ss ps ∧ Rst wr w.heap.size g n c ss (.slice pa sl.length pc) sl ps ∧ Below w.heap.size w wr) (fun i _ _ _ => 33 - (intOf i).toNat)
  case atStart => exact ⟨0, [v], [[]], [⟨w.heap.size + 1, 0, 0⟩], w.heap.size, 1, 1, some ⟨w.heap.size + 1 + 1, 0, none⟩, 1, rfl, rfl, rfl, by omega, F0.out, R0.out, B0.out⟩
  case round =>
    obtain ⟨x, ss, ps, sl, g, n, c, pa, pc, rfl, rfl, rfl, hx, hF, hR, hbe⟩ := hrel
    have FR := Lib.hid hF
    have RR := Lib.hid hR
    have BR := Lib.hid hbe
    have hn32 : n ≤ 32 := by have := few_32' hF.nodup (fun t ht => by have := hF.lt t ht; omega); rw [hR.len] at this; exact this
    have HLN := Lib.hid hR.len
    have HSS := Lib.hid (hR.same.trans hF.len)
    clear hF hR hbe
    by_cases hxn : x < n
    · have hxs : x < ss.length := by have := HLN.out; omega
      have hum : ss.getD x 0 ∈ ss := getD_of_lt hxs
      have huL := FR.out.lt _ hum
      obtain ⟨cs, -⟩ := RR.out.seen.cellAt x (by rw [toI_length]; exact hxs)
      rw [toI_getD] at cs
      have hglt := (RR.out.seen.lt g rfl).2
      obtain ⟨rfl, hcb⟩ := C1.out (by omega)
      have hcc := (BR.out.cell (p := ⟨cb, coff + ss.getD x 0, none⟩) hcb).trans (C5.out _ huL)
      rw [toI_getD, HLL.out, cnL_at os (by have := HLL.out; omega)] at hcc
      have hxI : (x : Int) < (n : Int) := by omega
      have huI : ((ss.getD x 0 : Nat) : Int) < (L : Int) := by omega
      by_cases hfew : os.count (ss.getD x 0) < most
      · have hfI : ((os.count (ss.getD x 0) : Nat) : Int) < (most : Int) := by omega
        have RE := Lib.hid (FR.out.rel hxs hfew)
        have hsl : x < sl.length := by have := HSS.out; omega
        obtain ⟨pg, rfl, hpg, hpc⟩ := RR.out.rows.someAt hsl
        obtain ⟨hi, -, hin⟩ := RR.out.each x hsl
        have HI := Lib.hid hi
        have hne : ps.getD x [] ≠ [] := fun e => by
          obtain ⟨y, hw, _, hy, _⟩ := RE.out
          rw [e] at hw
          have : y = v := hw
          rw [this] at hy
          have := HBG.out
          omega
        have hpc2 : wr.cell? ⟨pg, x, none⟩ = some (.slice (some ⟨(sl.getD x sl0).g, 0, none⟩) (sl.getD x sl0).n (sl.getD x sl0).c) := hpc
        have hslI : (x : Int) < (sl.length : Int) := by omega
        have HIN := Lib.hid hin
        clear hi hin hfew hum hxs huL hsl hpc
        generalize os.count (ss.getD x 0) = y at *
        generalize ss.getD x 0 = u at *
        generalize sl.getD x sl0 = q at *
        generalize ps.getD x [] = pl at *
        generalize sl.length = SL at *
        go_wp2_with fail
        go_ret
        exact ⟨pl, _, _, by rw [HIN.out]; rfl, by rw [HIN.out]; exact HI.out, BR.out, .inr ⟨hne, RE.out⟩⟩
      · have hfI : ¬ ((os.count (ss.getD x 0) : Nat) : Int) < (most : Int) := by omega
        have NX := Lib.hid (fun ss' ps' (h : Rlf (ep ns) os L v most x N ss' ps') (h1 : x < ss'.length) (h2 : ss'.getD x 0 = ss.getD x 0) => (show Rlf (ep ns) os L v most x (ep ns).length ss' ps' by rw [← HNN.out]; exact h).next h1 (by rw [h2]; omega))
        have HU := Lib.hid (show ∃ u, u = ss.getD x 0 from ⟨_, rfl⟩)
        obtain ⟨u, hu⟩ := HU.out
        rw [← hu] at cs hcc hfI NX huI huL
        have HUS := Lib.hid hu
        have hyY : os.count u = os.count u := rfl
        clear hfew hum HU hu hyY
        generalize hyc : os.count u = y at *
        clear hyc
        go_wp2_with fail
        clear cs hcc
        go_loopw [16, 13, 14] (fun i s q wq => ∃ (k : Nat) (ss : List Nat) (ps : List (List Nat)) (sl : List Sl) (g n c : Nat) (pa : Option Addr) (pc : Nat), i = .int .i64 (k : Int) ∧ s = .slice (some ⟨g, 0, none⟩) n c ∧ q = .slice pa sl.length pc ∧ k ≤ N ∧ x < n ∧ ss.getD x 0 = u ∧ Rlf (ep ns) os L v most x k ss ps ∧ Rst wq w.heap.size g n c ss (.slice pa sl.length pc) sl ps ∧ Below w.heap.size w wq) (fun i _ _ _ => N - (intOf i).toNat)
        case atStart => exact ⟨0, ss, ps, sl, g, n, c, pa, pc, rfl, rfl, rfl, Nat.zero_le _, hxn, HUS.out.symm, FR.out, RR.out, BR.out⟩
        case round =>
          clear FR RR BR HUS HSS HLN
          obtain ⟨k, ss, ps, sl, g, n, c, pa, pc, rfl, rfl, rfl, hk, hxn, hxu, hF, hR, hbe⟩ := hrel
          have FR := Lib.hid hF
          have RR := Lib.hid hR
          have BR := Lib.hid hbe
          have hn32 : n ≤ 32 := by have := few_32' hF.nodup (fun t ht => by have := hF.lt t ht; omega); rw [hR.len] at this; exact this
          have HLN := Lib.hid hR.len
          have HSS := Lib.hid (hR.same.trans hF.len)
          have HXU := Lib.hid hxu
          clear hF hR hbe
          by_cases hkN : k < N
          · have hxs : x < ss.length := by have := HLN.out; omega
            obtain ⟨cs, -⟩ := RR.out.seen.cellAt x (by rw [toI_length]; exact hxs)
            rw [toI_getD, HXU.out] at cs
            have hglt := (RR.out.seen.lt g rfl).2
            obtain ⟨rfl, hob⟩ := O1.out (by omega)
            obtain ⟨rfl, heb⟩ := E1.out (by omega)
            have co := (BR.out.cell (p := ⟨ob, ooff + k, none⟩) hob).trans (O5.out k hkN)
            rw [toI_getD] at co
            have hkI : (k : Int) < (N : Int) := by omega
            have hxI : (x : Int) < (n : Int) := by omega
            obtain ⟨-, hp1, hp2, -⟩ := HE.out k hkN
            have hkE : k < (ep ns).length := by have := HNN.out; omega
            by_cases hou : os.getD k 0 = u
            · have hob2 : (((os.getD k 0 : Nat) : Int) == ((u : Nat) : Int)) = true := by rw [beq_iff_eq, hou]
              obtain ⟨ce0, ce1⟩ := E5.out k hkN
              rw [HEG.out k hkN] at ce0 ce1
              have helt : eb < wr.heap.size := Nat.lt_of_lt_of_le heb BR.out.size
              replace ce0 := (BR.out.cell (p := ⟨eb, eoff + k * 2, none⟩) heb).trans ce0
              replace ce1 := (BR.out.cell (p := ⟨eb, eoff + k * 2 + 1, none⟩) heb).trans ce1
              have HOTk := Lib.hid (fun w h => HOT.out ((ep ns).getD k (0, 0)).1 ((ep ns).getD k (0, 0)).2 u w h hp1 hp2)
              have SKP := Lib.hid (FR.out.skip (k := k))
              have ADD := Lib.hid (FR.out.add (k := k) hxs hkE (by rw [hou, HXU.out]))
              rw [HXU.out] at SKP ADD
              have hoL : oth ((ep ns).getD k (0, 0)) u < L := by
                have := HLL.out
                rcases oth_or ((ep ns).getD k (0, 0)) u with e | e <;> omega
              rw [show oth (((ep ns).getD k (0, 0)).1, ((ep ns).getD k (0, 0)).2) u = oth ((ep ns).getD k (0, 0)) u from rfl] at HOTk
              have HOTX := HOTk
              clear HOTk HOT
              have HOT := HOTX
              clear HOTX hp1 hp2 hkE hxs
              generalize oth ((ep ns).getD k (0, 0)) u = z at *
              generalize ns.getD ((ep ns).getD k (0, 0)).1 0 = X at *
              generalize ns.getD ((ep ns).getD k (0, 0)).2 0 = Y at *
              clear hou
              generalize os.getD k 0 = y2 at *
              have HHS := Lib.hid (fun w0 h0 => specHasInt (.slice (some ⟨g, 0, none⟩) n c) (toI ss) ((z : Nat) : Int) w0 h0)
              rw [hasB_nat] at HHS
              obtain ⟨D, hD⟩ : ∃ D, D = decide (z ∈ ss) := ⟨_, rfl⟩
              rw [← hD] at HHS
              have HD := Lib.hid hD
              clear hD
              go_wp2_with fail
              go_region_held3 (fun w' => w'.cell? ⟨ob, ooff + k, none⟩ = some (.int .i64 (y2 : Int)) ∧ w'.cell? ⟨g, x, none⟩ = some (.int .i64 (u : Int))) (first | exact ⟨co, cs⟩ | go_keep) (fail)
              go_wp2_with fail
              refine wp_region_held_drew (S := fun w' => w'.cell? ⟨eb, eoff + k * 2, none⟩ = some (.int .i64 (X : Int)) ∧ w'.cell? ⟨eb, eoff + k * 2 + 1, none⟩ = some (.int .i64 (Y : Int)) ∧ w'.cell? ⟨g, x, none⟩ = some (.int .i64 (u : Int))) (by kernel_rfl) (by exact ⟨ce0, ce1, cs⟩) (fun hHeld => ?_)
              refine wpAnyH_take (i := 0) (v := ?_) rfl (by kernel_rfl) (by kernel_rfl) (by kernel_rfl) (fun _ _ _ h => h) (Or.inl ⟨by rfl, ?_⟩) (by assumption) ?_
              rotate_left
              · (intro w hSw; (try dsimp only at hSw); go_simp; try with_reducible rfl)
              try simp only [List.getElem_toArray, List.getElem_cons_zero, Act.put, List.setIfInBounds_toArray, List.set_cons_zero, List.set_cons_succ]
              refine wpAnyH_take (i := 1) (v := ?_) rfl (by kernel_rfl) (by kernel_rfl) (by kernel_rfl) (fun _ _ _ h => h) (Or.inl ⟨by rfl, ?_⟩) (by assumption) ?_
              rotate_left
              · (intro w hSw; (try dsimp only at hSw); go_simp; try with_reducible rfl)
              try simp only [List.getElem_toArray, List.getElem_cons_zero, List.getElem_cons_succ, Act.put, List.setIfInBounds_toArray, List.set_cons_zero, List.set_cons_succ]
              refine wpAnyH_take (i := 2) (v := ?_) rfl (by kernel_rfl) (by kernel_rfl) (by kernel_rfl) (fun _ _ _ h => h) (Or.inl ⟨by rfl, ?_⟩) (by assumption) ?_
              rotate_left
              · (intro w hSw; (try dsimp only at hSw); go_simp; try with_reducible rfl)
              try simp only [List.getElem_toArray, List.getElem_cons_zero, List.getElem_cons_succ, Act.put, List.setIfInBounds_toArray, List.set_cons_zero, List.set_cons_succ]
              refine wpAnyH_take (i := 3) (v := ?_) rfl (by kernel_rfl) (by kernel_rfl) (by kernel_rfl) (fun _ _ _ h => h) (Or.inl ⟨by rfl, ?_⟩) (by assumption) ?_
              rotate_left
              · (intro w hSw; (try dsimp only at hSw); go_simp; try with_reducible rfl)
              try simp only [List.getElem_toArray, List.getElem_cons_zero, List.getElem_cons_succ, Act.put, List.setIfInBounds_toArray, List.set_cons_zero, List.set_cons_succ]
              refine wpAnyH_take (i := 4) (v := ?_) rfl (by kernel_rfl) (by kernel_rfl) (by kernel_rfl) (fun _ _ _ h => h) (Or.inl ⟨by rfl, ?_⟩) (by assumption) ?_
              rotate_left
              · (intro w hSw; (try dsimp only at hSw); go_simp; try with_reducible rfl)
              try simp only [List.getElem_toArray, List.getElem_cons_zero, List.getElem_cons_succ, Act.put, List.setIfInBounds_toArray, List.set_cons_zero, List.set_cons_succ]
              refine wpAnyH_take (i := 5) (v := ?_) rfl (by kernel_rfl) (by kernel_rfl) (by kernel_rfl) (fun _ _ _ h => h) (Or.inl ⟨by rfl, ?_⟩) (by assumption) ?_
              rotate_left
              · (intro w hSw; (try dsimp only at hSw); go_simp; try with_reducible rfl)
              try simp only [List.getElem_toArray, List.getElem_cons_zero, List.getElem_cons_succ, Act.put, List.setIfInBounds_toArray, List.set_cons_zero, List.set_cons_succ]
              refine wpAnyH_take (i := 6) (v := ?_) rfl (by kernel_rfl) (by kernel_rfl) (by kernel_rfl) (fun _ _ _ h => h) (Or.inl ⟨by rfl, ?_⟩) (by assumption) ?_
              rotate_left
              · (intro w hSw; (try dsimp only at hSw); go_simp; try with_reducible rfl)
              try simp only [List.getElem_toArray, List.getElem_cons_zero, List.getElem_cons_succ, Act.put, List.setIfInBounds_toArray, List.set_cons_zero, List.set_cons_succ]
              refine wpAnyH_take (i := 7) (v := ?_) rfl (by kernel_rfl) (by kernel_rfl) (by kernel_rfl) (fun _ _ _ h => h) (Or.inl ⟨by rfl, ?_⟩) (by assumption) ?_
              rotate_left
              · (intro w hSw; (try dsimp only at hSw); go_simp; try with_reducible rfl)
              try simp only [List.getElem_toArray, List.getElem_cons_zero, List.getElem_cons_succ, Act.put, List.setIfInBounds_toArray, List.set_cons_zero, List.set_cons_succ]
              refine wpAnyH_take (i := 8) (v := ?_) rfl (by kernel_rfl) (by kernel_rfl) (by kernel_rfl) (fun _ _ _ h => h) (Or.inl ⟨by rfl, ?_⟩) (by assumption) ?_
              rotate_left
              · (intro w hSw; (try dsimp only at hSw); go_simp; try with_reducible rfl)
              try simp only [List.getElem_toArray, List.getElem_cons_zero, List.getElem_cons_succ, Act.put, List.setIfInBounds_toArray, List.set_cons_zero, List.set_cons_succ]
              refine wpAnyH_ready (rs := [9]) (by kernel_rfl) (by simp) ?_
              refine (AllReadyH.cons rfl (fun KK hK => ?_) AllReadyH.nil)
              try simp only [List.getElem_toArray]
              go_simp
              (go_at_call 34; refine (HOT.out _ (H.out.below BR.out.drew.drew (Nat.le_refl _))).mono ?_; rintro e w5 ⟨rfl, hb5⟩)
              refine hK.out _ _ (by exact ⟨(hb5.cell (p := ⟨eb, eoff + k * 2, none⟩) helt).trans ce0, (hb5.cell (p := ⟨eb, eoff + k * 2 + 1, none⟩) helt).trans ce1, (hb5.cell (p := ⟨g, x, none⟩) hglt).trans cs⟩) (fun hHeld => ?_)
              clear hK KK
              try simp only [List.getElem_toArray, List.getElem_cons_zero, List.getElem_cons_succ, Act.put, List.setIfInBounds_toArray, List.set_cons_zero, List.set_cons_succ]
              refine wpAnyH_take (i := 10) (v := ?_) rfl (by kernel_rfl) (by kernel_rfl) (by kernel_rfl) (fun _ _ _ h => h) (Or.inl ⟨by rfl, ?_⟩) (by assumption) ?_
              rotate_left
              · (intro w hSw; (try dsimp only at hSw); go_simp; try with_reducible rfl)
              try simp only [List.getElem_toArray, List.getElem_cons_zero, List.getElem_cons_succ, Act.put, List.setIfInBounds_toArray, List.set_cons_zero, List.set_cons_succ]
              refine wpAnyH_done (by kernel_rfl) ?_ _
              have HB5 := Lib.hid (show Below wr.heap.size wr w5 from ⟨hb5.os, hb5.tape, hb5.output, hb5.size, hb5.block⟩)
              have R5 := Lib.hid (RR.out.below HB5.out)
              have B5 := Lib.hid (BR.out.trans (HB5.out.mono BR.out.size))
              have hz5 := B5.out.size
              clear hb5 ce0 ce1 cs co HB5
              go_wp2_with fail
              refine (HHS.out w5 R5.out.seen.rd).mono ?_
              rintro e w9 ⟨rfl, hw9⟩
              subst w9
              cases D with
              | true =>
                have SK := Lib.hid (SKP.out (fun _ => of_decide_eq_true HD.out.symm))
                go_wp2_with fail
                go_roundw
                case rel => exact ⟨k + 1, ss, ps, sl, g, n, c, pa, pc, by go_num, rfl, rfl, by omega, hxn, HXU.out, SK.out, R5.out, B5.out⟩
                case measure => simp [intOf]; omega
              | false =>
                have AD := Lib.hid (ADD.out hoL (of_decide_eq_false HD.out.symm))
                have hxs : x < ss.length := by have := HLN.out; omega
                have hsl : x < sl.length := by have := HSS.out; omega
                have HSL := Lib.hid hsl
                have hsl9 : sl.length ≤ 32 := by have := HSS.out; have := HLN.out; omega
                obtain ⟨w1', w2', w3'⟩ := FR.out.way x hxs
                have hpl9 : (ps.getD x []).length ≤ 32 := by
                  have h9 := few_32' w2' (fun t ht => by have := FR.out.lt t (w3' t ht); omega)
                  rw [Wn_len] at h9
                  omega
                obtain ⟨pg, rfl, -, -⟩ := R5.out.rows.someAt hsl
                have HX2 := Lib.hid (show (ss ++ [z]).getD x 0 = u from (getD_snoc hxs).trans HXU.out)
                have HTL := Lib.hid (show (toI ss).length = n by rw [toI_length]; exact HLN.out)
                have hslI : (x : Int) < (sl.length : Int) := by omega
                clear w1' w2' w3' hxs hsl SKP ADD hoL
                obtain ⟨pl, hpl⟩ : ∃ pl, pl = ps.getD x [] := ⟨_, rfl⟩
                rw [← hpl] at AD hpl9
                have HPL := Lib.hid hpl
                obtain ⟨q, hq⟩ : ∃ q, q = sl.getD x sl0 := ⟨_, rfl⟩
                have HQ := Lib.hid hq
                obtain ⟨SL, hSL⟩ : ∃ SL, SL = sl.length := ⟨_, rfl⟩
                have HSL2 := Lib.hid hSL
                rw [← hSL] at hslI hsl9
                have hqn : pl.length = q.n := by rw [hpl, hq]; exact (R5.out.each x HSL.out).2.2
                have HQN := Lib.hid hqn
                have hqn9 : q.n ≤ 32 := by omega
                clear hpl hq hqn hpl9
                try rw [← hSL]
                clear hSL
                go_wp2_with (first
                  | (at_builtin; refine wpList_app1 rfl (.tmp 70) (.tmp 72) rfl w.heap.size g n c (toI ss) HTL.out rfl (by exact R5.out.seen.alloc _) _ (z : Int) rfl (by rw [World.cell?_alloc_at _ _ _ _ (by simp)]; rfl) (by omega) (by simp; omega) ?_; intro g6 c6 w6 hg6 hin6 hb6 hgr6; have R6 := Lib.hid ((R5.out.below ((Below.refl _ w5).alloc (Nat.le_refl _) _)).see hgr6 hin6 hg6); have B6 := Lib.hid ((B5.out.alloc hz5 _).trans hb6); have hz6 := B6.out.size; obtain ⟨pg6, e6, hpg6, hpc6⟩ := R6.out.rows.someAt HSL.out; simp only [Option.some.injEq, Addr.mk.injEq, and_true] at e6; subst e6; rw [← HQ.out] at hpc6; replace hpc6 : w6.cell? ⟨pg, x, none⟩ = some (.slice (some ⟨q.g, 0, none⟩) q.n q.c) := hpc6; have hi6 := (R6.out.each x HSL.out).1; rw [← HQ.out, ← HPL.out] at hi6; have I6 := Lib.hid hi6; have L6 := Lib.hid (Ints.lit w6.heap.size w6 (Nat.le_refl _)); have hg6w := (R6.out.seen.lt g6 rfl).2; clear hg6 hin6 hb6 hgr6 hi6)
                  | (at_builtin; refine wpList_app rfl (.tmp 75) (.tmp 79) rfl w6.heap.size _ [] rfl (by exact L6.out) _ _ _ (toI pl) rfl (by exact (I6.out.alloc _).osrc) (by simp; omega) (by simp) ?_; intro a7 c7 w7 hin7 hb7 hg7; simp only [List.length_nil, Nat.zero_add, List.nil_append] at hin7 ⊢; have I7 := Lib.hid hin7; have D7 := Lib.hid (((Below.refl w6.heap.size w6).alloc (Nat.le_refl _) _).trans hb7); have hz7 := D7.out.size; clear hin7 hb7 hg7)
                  | (at_builtin; refine wpList_app rfl (.tmp 80) (.tmp 82) rfl w6.heap.size _ (toI pl) rfl (by exact I7.out.alloc _) _ _ _ [(k : Int)] rfl (by exact src_one w7 (k : Int) _) (by rw [toI_length, HQN.out]; omega) (by simp; omega) ?_; intro a8 c8 w8 hin8 hb8 hg8; rw [toI_length, HQN.out] at hin8 ⊢; obtain ⟨g8, e8, hg8a, hg8b⟩ := hin8.someAt (Nat.succ_pos _); subst e8; have I8 := Lib.hid (hin8.mono hz6); have D8 := Lib.hid ((D7.out.alloc hz7 _).trans hb8); have hz8 := D8.out.size; have R8 := Lib.hid ((R6.out.below D8.out)); clear hin8 hb8 hg8)
                  | (at_builtin; refine wpList_appL rfl (.tmp 74) (.tmp 84) rfl w.heap.size _ sl rfl (by rw [HSL2.out]; exact R8.out.rows.alloc _) _ ⟨g8, q.n + 1, c8⟩ rfl (by rw [World.cell?_alloc_at _ _ _ _ (by simp)]; rfl) (by rw [← HSL2.out]; omega) (by simp; omega) ?_; intro a9 c9 w9 hin9 hb9 hg9; have P9 := Lib.hid (show (pl ++ [k]).length = q.n + 1 by rw [List.length_append, HQN.out]; rfl); have R9 := Lib.hid (Rst.reach (p := ⟨g8, q.n + 1, c8⟩) (q := pl ++ [k]) (R8.out.below ((Below.refl _ w8).alloc (Nat.le_refl _) (.cells #[.slice (some ⟨g8, 0, none⟩) (q.n + 1) c8] 23))) (by rw [toI_append]; exact I8.out.alloc _) (by show g8 ≠ g6; omega) P9.out hg9 hin9); have B9 := Lib.hid (((B6.out.trans (D8.out.mono hz6)).alloc (by omega) (.cells #[.slice (some ⟨g8, 0, none⟩) (q.n + 1) c8] 23)).trans hb9); clear hin9 hb9 hg9))
                go_roundw
                case rel => exact ⟨k + 1, ss ++ [z], ps ++ [pl ++ [k]], sl ++ [⟨g8, q.n + 1, c8⟩], g6, n + 1, c6, a9, c9, by go_num, rfl, by rw [List.length_append]; rfl, by omega, by omega, HX2.out, AD.out, by rw [List.length_append]; exact R9.out, B9.out⟩
                case measure => simp [intOf]; omega
            · have hob2 : (((os.getD k 0 : Nat) : Int) == ((u : Nat) : Int)) = false := by rw [beq_eq_false_iff_ne]; exact fun e => hou (Int.ofNat_inj.1 e)
              have SKP := Lib.hid (FR.out.skip (k := k) (fun h => absurd (h.trans HXU.out) hou))
              clear hou hp1 hp2 hkE hxs
              generalize os.getD k 0 = y2 at *
              go_wp2_with fail
              go_region_held3 (fun w' => w'.cell? ⟨ob, ooff + k, none⟩ = some (.int .i64 (y2 : Int)) ∧ w'.cell? ⟨g, x, none⟩ = some (.int .i64 (u : Int))) (first | exact ⟨co, cs⟩ | go_keep) (fail)
              go_wp2_with fail
              go_roundw
              case rel => exact ⟨k + 1, ss, ps, sl, g, n, c, pa, pc, by go_num, rfl, rfl, by omega, hxn, HXU.out, SKP.out, RR.out.below (Below.refl _ _).drew, BR.out.drew⟩
              case measure => simp [intOf]; omega
          · obtain rfl : k = N := by omega
            have NX2 := Lib.hid (NX.out ss ps FR.out (by have := HLN.out; omega) HXU.out)
            have hkI : ¬ (k : Int) < (k : Int) := by omega
            go_wp2_with fail
            go_roundw
            case rel => exact ⟨x + 1, ss, ps, sl, g, n, c, pa, pc, by go_num, rfl, rfl, by omega, NX2.out, RR.out, BR.out⟩
            case measure => simp [intOf]; omega
    · obtain rfl : x = n := by omega
      have CL := Lib.hid (show Clo (ep ns) os L v most ss from Rlf.end (by rw [HLN.out]; exact FR.out))
      have hxI : ¬ (x : Int) < (x : Int) := by omega
      have IL := Lib.hid (Ints.lit w.heap.size wr BR.out.size)
      have BL := Lib.hid (BR.out.alloc BR.out.size (.cells #[] 3))
      go_wp2_with fail
      go_ret
      exact ⟨[], _, _, rfl, IL.out, BL.out, .inl ⟨rfl, ss, CL.out⟩⟩

end Go.Proofs.Ytpkilacappjkhaa
