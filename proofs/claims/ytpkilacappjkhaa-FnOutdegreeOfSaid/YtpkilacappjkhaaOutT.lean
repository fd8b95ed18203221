/- takes, the program's: a node takes an edge, or asks the ends of its own. Conditions: the nodes are those of a class, a thousand edges a node at most. -/
import Derived.Deep.Cut
import Derived.Deep.RegionHeld3
import Derived.Test.YtpkilacappjkhaaOutH
import Derived.Test.YtpkilacappjkhaaZH
namespace Go.Proofs.Ytpkilacappjkhaa
open Go.RowKit

theorem Pb.of_no {w : World} : Pb (w.alloc (.cells #[.bool false, .bool false, .bool false, .bool false, .bool false, .bool false, .bool false, .bool false, .bool false, .bool false, .bool false, .bool false, .bool false, .bool false, .bool false, .bool false, .bool false, .bool false, .bool false, .bool false, .bool false, .bool false, .bool false, .bool false, .bool false, .bool false, .bool false, .bool false, .bool false, .bool false, .bool false, .bool false] 46)) w.heap.size 32 (fun _ => .bool false) 46 := heap_alloc_new w _
/-- what takes leaves: the marks K', the edge given or nothing given -/
def TkPost (B q k : Nat) (ns : List Nat) (bl : Nat → Nat) (nv gv : Nat → Value) (n m : Nat) (G : Nat → List Nat) (K : Nat → Bool) (w : World) (e : Ending) (w' : World) : Prop :=
  ∃ K', Pb w' q 32 (fun s => .bool (K' s)) 46 ∧ Away B ns bl w w' ∧
    ((e = .returned (.bool true) ∧ ∃ G' gv', Gst w' B ns bl nv gv' G' ∧ Took ns k n m G G' K ∧ ∀ s, K s = true → s ≠ n → gv' s = gv s) ∨
     (e = .returned (.bool false) ∧ Gst w' B ns bl nv gv G ∧ Vain ns k n G K K' ∧ k ≤ (G n).length))

set_option maxHeartbeats 6400000 in
set_option maxRecDepth 100000 in
/-- a set that has fewer than it may -/
theorem implTakesFew (B q k : Nat) (ns : List Nat) (bl : Nat → Nat) (nv gv : Nat → Value) (n m : Nat) (G : Nat → List Nat) (K : Nat → Bool) (w : World) (hk : k ≤ 2000) (hq : B ≤ q) (hn : n ∈ ns) (hm : m ∈ ns) (hnm : n ≠ m)
    (hG : Gst w B ns bl nv gv G) (ho : GOk ns k G) (hP : Pb w q 32 (fun s => .bool (K s)) 46) (hB : B ≤ w.heap.size) (hl : (G n).length < k) :
    Calls Try.prog 17 #[.pointer (some ⟨bl n, 0, none⟩), .pointer (some ⟨bl m, 0, none⟩), .int .i64 (k : Int), .pointer (some ⟨q, 0, none⟩)] w fun e w' =>
      ∃ (G' : Nat → List Nat) (gv' : Nat → Value), e = .returned (.bool true) ∧ Pb w' q 32 (fun s => .bool (K s)) 46 ∧ Away B ns bl w w' ∧ Gst w' B ns bl nv gv' G' ∧ Took ns k n m G G' K ∧ ∀ s, K s = true → s ≠ n → gv' s = gv s := by
  obtain ⟨L, hL⟩ : ∃ L, L = (G n).length := ⟨_, rfl⟩
  have TO := Lib.hid (took_app (K := K) ho hm hnm hl)
  have c2 := hG.at2 hn
  have hrow := hG.row n hn
  obtain ⟨a, cap, hv⟩ := hrow.form
  rw [List.length_map, ← hL] at hv
  rw [hv] at c2 hrow
  rw [← hL] at hl
  have HV := Lib.hid hv
  have HL := Lib.hid (show ((G n).map bl).length = L by rw [List.length_map, hL])
  have HG := Lib.hid hG
  have HR := Lib.hid hrow
  have HP := Lib.hid hP
  have HN := Lib.hid hn
  have hlo := hG.lo n hn
  have hlI : (L : Int) < (k : Int) := by omega
  have hL9 : L ≤ 1000000 := by omega
  clear hv hG hrow hP hn hm hL ho hl hk
  go_enter Try.func17, Try.ntmps17
  go_wp2_with (at_builtin; go_loud (refine wpList_appN2 rfl (.tmp 22) (.tmp 24) rfl B a L cap _ HL.out rfl (by exact HR.out.alloc _) _ (bl m) rfl (by rw [World.cell?_alloc_at _ _ _ _ (by simp)]; rfl) hL9 (by simp; omega) ?_; intro g1 c1 w3 hin3 hb3 hg3 hw3; have A3 := Lib.hid ((Away.refl B ns bl w).next (((Below.refl B w).alloc hB _).trans hb3)); have P3 := Lib.hid (show Pb w3 q 32 (fun s => .bool (K s)) 46 from (HP.out.alloc _).keep (hg3.block q (by have := HP.out.lt; simp; omega) (fun e => by have h9 := HR.out.not_pb HP.out (by decide); exact h9 e.symm))); have S3 := Lib.hid ((HG.out.alloc _).app HN.out hin3 (by rw [HV.out]; exact hg3) (by simp; omega) (by rw [HV.out]; exact hw3)); have f2 := (HG.out.alloc _).hold2 HN.out (by rw [HV.out]; exact hg3) (by simp; omega); obtain ⟨f2, g2⟩ := f2; rw [HV.out] at f2; clear hin3 hb3 hg3 hw3))
  go_ret
  exact ⟨_, _, rfl, P3.out.other (by omega) _, A3.out.put HN.out _ _, S3.out, TO.out, fun s _ hs => if_neg hs⟩

set_option maxHeartbeats 6400000 in
set_option maxRecDepth 100000 in
theorem implTakes (B q k : Nat) (ns : List Nat) (bl : Nat → Nat) (nv : Nat → Value) (hk : k ≤ 2000) (hq : B ≤ q) (h32 : ∀ s ∈ ns, s < 32) : ∀ (u n m : Nat) (gv : Nat → Value) (G : Nat → List Nat) (K : Nat → Bool) (w : World), unasked n K < u → n ∈ ns → m ∈ ns → n ≠ m →
    Gst w B ns bl nv gv G → GOk ns k G → Pb w q 32 (fun s => .bool (K s)) 46 → B ≤ w.heap.size →
    Calls Try.prog 17 #[.pointer (some ⟨bl n, 0, none⟩), .pointer (some ⟨bl m, 0, none⟩), .int .i64 (k : Int), .pointer (some ⟨q, 0, none⟩)] w (TkPost B q k ns bl nv gv n m G K w) := by
  intro u
  induction u with
  | zero => intro n m gv G K w hu; exact absurd hu (Nat.not_lt_zero _)
  | succ u ih =>
    intro n m gv G K w hu hn hm hnm hG ho hP hB
    by_cases hl : (G n).length < k
    · refine (implTakesFew B q k ns bl nv gv n m G K w hk hq hn hm hnm hG ho hP hB hl).mono ?_
      rintro e w' ⟨G', gv', rfl, h1, h2, h3, h4, h5⟩
      exact ⟨K, h1, h2, .inl ⟨rfl, G', gv', h3, h4, h5⟩⟩
    · obtain ⟨L, hL⟩ : ∃ L, L = (G n).length := ⟨_, rfl⟩
      have c0 := hG.at0 hn
      have c2 := hG.at2 hn
      obtain ⟨a, cap, hv⟩ := (hG.row n hn).form
      rw [List.length_map, ← hL] at hv
      rw [hv] at c2
      have hn32 := h32 n hn
      have hnI : (n : Int) < 32 := by omega
      obtain ⟨q1, q2⟩ := hP.cell hn32
      rw [← hL] at hl
      have hlI : ¬ (L : Int) < (k : Int) := by omega
      have hL9 : L ≤ 2000 := by have := (ho n hn).1; omega
      have G1 := Lib.hid (hG.mark hP (by decide) hq (j := n) (.bool true))
      have P1 := Lib.hid ((hP.set n (.bool true)).congr (g := fun s => .bool ((fun s => if s = n then true else K s) s)) (fun s _ => by
        by_cases e : s = n
        · rw [if_pos e]; simp [e]
        · rw [if_neg e]; simp [e]))
      have A1 := Lib.hid ((Away.refl B ns bl w).next ((Below.refl B w).setCell (p := ⟨q, n, none⟩) hq (.bool true)))
      have V1 := Lib.hid (Vains.first (ns := ns) (k := k) (n := n) (G := G) (K := K))
      have HV := Lib.hid hv
      have HN := Lib.hid hn
      have HM := Lib.hid hm
      have HL := Lib.hid hL
      have HO := Lib.hid ho
      have HU := Lib.hid hu
      have HK := Lib.hid (show k ≤ (G n).length by omega)
      have IH := Lib.hid ih
      have hz1 : (w.setCell ⟨q, n, none⟩ (.bool true)).heap.size = w.heap.size := by simp
      have hB1 : B ≤ (w.setCell ⟨q, n, none⟩ (.bool true)).heap.size := by omega
      generalize hkn : K n = kn at q1
      clear hv hG hP hn hm hL ho hu ih hkn hz1 hl
      go_enter Try.func17, Try.ntmps17
      go_wp2_with fail
      go_region
      replace G1 := Lib.hid G1.out.drew
      replace P1 := Lib.hid (show Pb (w.setCell ⟨q, n, none⟩ (.bool true)).drew _ _ _ _ from P1.out)
      replace A1 := Lib.hid (show Away B ns bl w (w.setCell ⟨q, n, none⟩ (.bool true)).drew from ⟨A1.out.os, A1.out.tape, A1.out.output, A1.out.size, A1.out.block⟩)
      replace hB1 : B ≤ (w.setCell ⟨q, n, none⟩ (.bool true)).drew.heap.size := hB1
      clear c0 c2 q1 q2
      generalize (w.setCell ⟨q, n, none⟩ (.bool true)).drew = w1 at *
      have c2 := G1.out.at2 HN.out
      rw [HV.out] at c2
      go_wp2_with fail
      clear c2
      go_loopw [40] (fun i wr => ∃ (x : Nat) (K' : Nat → Bool), i = .int .i64 x ∧ x ≤ L ∧ Pb wr q 32 (fun s => .bool (K' s)) 46 ∧ Gst wr B ns bl nv gv G ∧ Vains ns k n x G K K' ∧ Away B ns bl w wr) (fun i _ => L - (intOf i).toNat)
      case atStart => exact ⟨0, _, rfl, Nat.zero_le _, P1.out, G1.out, V1.out, A1.out⟩
      case round =>
        obtain ⟨x, K', rfl, hx, hP, hG, hV, hA⟩ := hrel
        have PR := Lib.hid hP
        have GR := Lib.hid hG
        have VR := Lib.hid hV
        have AR := Lib.hid hA
        have hBr := Nat.le_trans hB hA.size
        clear hP hG hV hA
        by_cases hxl : x < L
        · have hxg : x < (G n).length := by have := HL.out; omega
          have hrow := GR.out.row n HN.out
          rw [HV.out] at hrow
          obtain ⟨g, rfl, hg1, hg2, hgc, hgf⟩ := hrow.someAt (j := x) (by rw [List.length_map]; exact hxg)
          rw [mapbl_getD hxg] at hgc
          have hgc' : wr.cell? ⟨g, x, none⟩ = some (.pointer (some ⟨bl ((G n).getD x 0), 0, none⟩)) := hgc
          obtain ⟨hon, hone⟩ := (HO.out n HN.out).2 _ (getD_of_lt hxg)
          have ho32 := h32 _ hon
          have d0 := GR.out.at0 hon
          obtain ⟨d1, -⟩ := PR.out.cell ho32
          have hxI : (x : Int) < (L : Int) := by omega
          have SK := Lib.hid (VR.out.skip (i := x))
          have NX := Lib.hid (fun K2 => VR.out.next (i := x) (K2 := K2))
          have IHo := Lib.hid (fun hKo wz hGz hPz hBz => IH.out ((G n).getD x 0) n gv G K' wz (by have h1 := unasked_lt (n := n) (K := K) (K' := K') ho32 VR.out.sub VR.out.me hKo; have h2 := HU.out; omega) hon HN.out hone hGz HO.out hPz hBz)
          have TS := Lib.hid (fun G2 h2 hKo => took_swap (k := k) (G2 := G2) (K := K) (K' := K') HN.out HM.out hnm hxg hone VR.out.sub VR.out.me h2 hKo)
          have HON := Lib.hid hon
          clear hgc hrow
          generalize (G n).getD x 0 = o at *
          have hoI : (o : Int) < 32 := by omega
          cases hko : K' o with
          | true =>
            rw [hko] at d1
            have SK2 := Lib.hid (SK.out hko)
            clear hon hgf
            go_wp2_with fail
            refine wp_region_held_drew (S := fun w' => w'.cell? ⟨bl o, 0, none⟩ = some (.int .i64 (o : Int)) ∧ w'.cell? ⟨q, o, none⟩ = some (.bool true)) (by kernel_rfl) (by first | exact ⟨d0, d1⟩ | go_keep) (fun hHeld => ?_)
            refine wpAnyH_take (i := 0) (v := ?_) rfl (by kernel_rfl) (by kernel_rfl) (by kernel_rfl) (fun _ _ _ h => h) (Or.inl ⟨by rfl, ?_⟩) (by assumption) ?_
            rotate_left
            · (intro w hSw; (try dsimp only at hSw); go_simp; try with_reducible rfl)
            try simp only [List.getElem_toArray, List.getElem_cons_zero, Act.put, List.setIfInBounds_toArray, List.set_cons_zero, List.set_cons_succ]
            refine wpAnyH_take (i := 1) (v := ?_) rfl (by kernel_rfl) (by kernel_rfl) (by kernel_rfl) (fun _ _ _ h => h) (Or.inl ⟨by rfl, ?_⟩) (by assumption) ?_
            rotate_left
            · (intro w hSw; (try dsimp only at hSw); go_simp; try with_reducible rfl)
            try simp only [List.getElem_toArray, List.getElem_cons_zero, List.getElem_cons_succ, Act.put, List.setIfInBounds_toArray, List.set_cons_zero, List.set_cons_succ]
            refine wpAnyH_take (i := 2) (v := ?_) rfl (by kernel_rfl) (by kernel_rfl) (by kernel_rfl) (fun _ _ _ h => h) (Or.inl ⟨by rfl, ?_⟩) (by assumption) ?_
            rotate_left
            · (intro w hSw; (try dsimp only at hSw); go_simp; try with_reducible rfl)
            try simp only [List.getElem_toArray, List.getElem_cons_zero, List.getElem_cons_succ, Act.put, List.setIfInBounds_toArray, List.set_cons_zero, List.set_cons_succ]
            refine wpAnyH_take (i := 3) (v := ?_) rfl (by kernel_rfl) (by kernel_rfl) (by kernel_rfl) (fun _ _ _ h => h) (Or.inl ⟨by rfl, ?_⟩) (by assumption) ?_
            rotate_left
            · (intro w hSw; (try dsimp only at hSw); go_simp; try with_reducible rfl)
            try simp only [List.getElem_toArray, List.getElem_cons_zero, List.getElem_cons_succ, Act.put, List.setIfInBounds_toArray, List.set_cons_zero, List.set_cons_succ]
            refine wpAnyH_take (i := 4) (v := ?_) rfl (by kernel_rfl) (by kernel_rfl) (by kernel_rfl) (fun _ _ _ h => h) (Or.inl ⟨by rfl, ?_⟩) (by assumption) ?_
            rotate_left
            · (intro w hSw; (try dsimp only at hSw); go_simp; try with_reducible rfl)
            try simp only [List.getElem_toArray, List.getElem_cons_zero, List.getElem_cons_succ, Act.put, List.setIfInBounds_toArray, List.set_cons_zero, List.set_cons_succ]
            refine wpAnyH_take (i := 5) (v := ?_) rfl (by kernel_rfl) (by kernel_rfl) (by kernel_rfl) (fun _ _ _ h => h) (Or.inl ⟨by rfl, ?_⟩) (by assumption) ?_
            rotate_left
            · (intro w hSw; (try dsimp only at hSw); go_simp; try with_reducible rfl)
            try simp only [List.getElem_toArray, List.getElem_cons_zero, List.getElem_cons_succ, Act.put, List.setIfInBounds_toArray, List.set_cons_zero, List.set_cons_succ]
            refine wpAnyH_take (i := 6) (v := ?_) rfl (by kernel_rfl) (by kernel_rfl) (by kernel_rfl) (fun _ _ _ h => h) (Or.inl ⟨by rfl, ?_⟩) (by assumption) ?_
            rotate_left
            · (intro w hSw; (try dsimp only at hSw); go_simp; try with_reducible rfl)
            try simp only [List.getElem_toArray, List.getElem_cons_zero, List.getElem_cons_succ, Act.put, List.setIfInBounds_toArray, List.set_cons_zero, List.set_cons_succ]
            refine wpAnyH_take (i := 7) (v := ?_) rfl (by kernel_rfl) (by kernel_rfl) (by kernel_rfl) (fun _ _ _ h => h) (Or.inl ⟨by rfl, ?_⟩) (by assumption) ?_
            rotate_left
            · (intro w hSw; (try dsimp only at hSw); go_simp; try with_reducible rfl)
            try simp only [List.getElem_toArray, List.getElem_cons_zero, List.getElem_cons_succ, Act.put, List.setIfInBounds_toArray, List.set_cons_zero, List.set_cons_succ]
            refine wpAnyH_take (i := 8) (v := ?_) rfl (by kernel_rfl) (by kernel_rfl) (by kernel_rfl) (fun _ _ _ h => h) (Or.inl ⟨by rfl, ?_⟩) (by assumption) ?_
            rotate_left
            · (intro w hSw; (try dsimp only at hSw); go_simp; try with_reducible rfl)
            try simp only [List.getElem_toArray, List.getElem_cons_zero, List.getElem_cons_succ, Act.put, List.setIfInBounds_toArray, List.set_cons_zero, List.set_cons_succ]
            refine wpAnyH_take (i := 9) (v := ?_) rfl (by kernel_rfl) (by kernel_rfl) (by kernel_rfl) (fun _ _ _ h => h) (Or.inl ⟨by rfl, ?_⟩) (by assumption) ?_
            rotate_left
            · (intro w hSw; (try dsimp only at hSw); go_simp; try with_reducible rfl)
            try simp only [List.getElem_toArray, List.getElem_cons_zero, List.getElem_cons_succ, Act.put, List.setIfInBounds_toArray, List.set_cons_zero, List.set_cons_succ]
            refine wpAnyH_take (i := 10) (v := undef) rfl (by kernel_rfl) (by kernel_rfl) (by kernel_rfl) (fun _ _ _ h => h) (Or.inr ⟨by rfl, rfl⟩) (by assumption) ?_
            try simp only [List.getElem_toArray, List.getElem_cons_zero, List.getElem_cons_succ, Act.put, List.setIfInBounds_toArray, List.set_cons_zero, List.set_cons_succ]
            refine wpAnyH_take (i := 11) (v := undef) rfl (by kernel_rfl) (by kernel_rfl) (by kernel_rfl) (fun _ _ _ h => h) (Or.inr ⟨by rfl, rfl⟩) (by assumption) ?_
            try simp only [List.getElem_toArray, List.getElem_cons_zero, List.getElem_cons_succ, Act.put, List.setIfInBounds_toArray, List.set_cons_zero, List.set_cons_succ]
            refine wpAnyH_take (i := 12) (v := undef) rfl (by kernel_rfl) (by kernel_rfl) (by kernel_rfl) (fun _ _ _ h => h) (Or.inr ⟨by rfl, rfl⟩) (by assumption) ?_
            try simp only [List.getElem_toArray, List.getElem_cons_zero, List.getElem_cons_succ, Act.put, List.setIfInBounds_toArray, List.set_cons_zero, List.set_cons_succ]
            refine wpAnyH_take (i := 13) (v := undef) rfl (by kernel_rfl) (by kernel_rfl) (by kernel_rfl) (fun _ _ _ h => h) (Or.inr ⟨by rfl, rfl⟩) (by assumption) ?_
            try simp only [List.getElem_toArray, List.getElem_cons_zero, List.getElem_cons_succ, Act.put, List.setIfInBounds_toArray, List.set_cons_zero, List.set_cons_succ]
            refine wpAnyH_take (i := 14) (v := undef) rfl (by kernel_rfl) (by kernel_rfl) (by kernel_rfl) (fun _ _ _ h => h) (Or.inr ⟨by rfl, rfl⟩) (by assumption) ?_
            try simp only [List.getElem_toArray, List.getElem_cons_zero, List.getElem_cons_succ, Act.put, List.setIfInBounds_toArray, List.set_cons_zero, List.set_cons_succ]
            refine wpAnyH_take (i := 15) (v := ?_) rfl (by kernel_rfl) (by kernel_rfl) (by kernel_rfl) (fun _ _ _ h => h) (Or.inl ⟨by rfl, ?_⟩) (by assumption) ?_
            rotate_left
            · (intro w hSw; (try dsimp only at hSw); go_simp; try with_reducible rfl)
            try simp only [List.getElem_toArray, List.getElem_cons_zero, List.getElem_cons_succ, Act.put, List.setIfInBounds_toArray, List.set_cons_zero, List.set_cons_succ]
            refine wpAnyH_done (by kernel_rfl) ?_ _
            go_wp2_with fail
            go_roundw
            case rel => exact ⟨x + 1, K', by go_num, by omega, PR.out, GR.out.drew, SK2.out, ⟨AR.out.os, AR.out.tape, AR.out.output, AR.out.size, AR.out.block⟩⟩
            case measure => simp [intOf]; omega
          | false =>
            rw [hko] at d1
            have IHk := Lib.hid (IHo.out hko)
            have TSk := Lib.hid (fun G2 h2 => TS.out G2 h2 hko)
            have hoK : ∀ s, K s = true → s ≠ o := fun s hs e => by have h9 := VR.out.sub s hs; rw [e, hko] at h9; cases h9
            clear IHo TS SK hon hgf
            go_wp2_with fail
            refine wp_region_held_drew (S := fun w' => w'.cell? ⟨bl o, 0, none⟩ = some (.int .i64 (o : Int))) (by kernel_rfl) (by exact d0) (fun hHeld => ?_)
            have IHd := Lib.hid (IHk.out wr.drew GR.out.drew PR.out hBr)
            refine wpAnyH_take (i := 0) (v := ?_) rfl (by kernel_rfl) (by kernel_rfl) (by kernel_rfl) (fun _ _ _ h => h) (Or.inl ⟨by rfl, ?_⟩) (by assumption) ?_
            rotate_left
            · (intro w hSw; (try dsimp only at hSw); go_simp; try with_reducible rfl)
            try simp only [List.getElem_toArray, List.getElem_cons_zero, Act.put, List.setIfInBounds_toArray, List.set_cons_zero, List.set_cons_succ]
            refine wpAnyH_take (i := 1) (v := ?_) rfl (by kernel_rfl) (by kernel_rfl) (by kernel_rfl) (fun _ _ _ h => h) (Or.inl ⟨by rfl, ?_⟩) (by assumption) ?_
            rotate_left
            · (intro w hSw; (try dsimp only at hSw); go_simp; try with_reducible rfl)
            try simp only [List.getElem_toArray, List.getElem_cons_zero, List.getElem_cons_succ, Act.put, List.setIfInBounds_toArray, List.set_cons_zero, List.set_cons_succ]
            refine wpAnyH_take (i := 2) (v := ?_) rfl (by kernel_rfl) (by kernel_rfl) (by kernel_rfl) (fun _ _ _ h => h) (Or.inl ⟨by rfl, ?_⟩) (by assumption) ?_
            rotate_left
            · (intro w hSw; (try dsimp only at hSw); go_simp; try with_reducible rfl)
            try simp only [List.getElem_toArray, List.getElem_cons_zero, List.getElem_cons_succ, Act.put, List.setIfInBounds_toArray, List.set_cons_zero, List.set_cons_succ]
            refine wpAnyH_take (i := 3) (v := ?_) rfl (by kernel_rfl) (by kernel_rfl) (by kernel_rfl) (fun _ _ _ h => h) (Or.inl ⟨by rfl, ?_⟩) (by assumption) ?_
            rotate_left
            · (intro w hSw; (try dsimp only at hSw); go_simp; try with_reducible rfl)
            try simp only [List.getElem_toArray, List.getElem_cons_zero, List.getElem_cons_succ, Act.put, List.setIfInBounds_toArray, List.set_cons_zero, List.set_cons_succ]
            refine wpAnyH_take (i := 4) (v := ?_) rfl (by kernel_rfl) (by kernel_rfl) (by kernel_rfl) (fun _ _ _ h => h) (Or.inl ⟨by rfl, ?_⟩) (by assumption) ?_
            rotate_left
            · (intro w hSw; (try dsimp only at hSw); go_simp; try with_reducible rfl)
            try simp only [List.getElem_toArray, List.getElem_cons_zero, List.getElem_cons_succ, Act.put, List.setIfInBounds_toArray, List.set_cons_zero, List.set_cons_succ]
            refine wpAnyH_take (i := 5) (v := ?_) rfl (by kernel_rfl) (by kernel_rfl) (by kernel_rfl) (fun _ _ _ h => h) (Or.inl ⟨by rfl, ?_⟩) (by assumption) ?_
            rotate_left
            · (intro w hSw; (try dsimp only at hSw); go_simp; try with_reducible rfl)
            try simp only [List.getElem_toArray, List.getElem_cons_zero, List.getElem_cons_succ, Act.put, List.setIfInBounds_toArray, List.set_cons_zero, List.set_cons_succ]
            refine wpAnyH_take (i := 6) (v := ?_) rfl (by kernel_rfl) (by kernel_rfl) (by kernel_rfl) (fun _ _ _ h => h) (Or.inl ⟨by rfl, ?_⟩) (by assumption) ?_
            rotate_left
            · (intro w hSw; (try dsimp only at hSw); go_simp; try with_reducible rfl)
            try simp only [List.getElem_toArray, List.getElem_cons_zero, List.getElem_cons_succ, Act.put, List.setIfInBounds_toArray, List.set_cons_zero, List.set_cons_succ]
            refine wpAnyH_ready (rs := [7]) (by kernel_rfl) (by simp) ?_
            refine (AllReadyH.cons rfl (fun KK hK => ?_) AllReadyH.nil)
            try simp only [List.getElem_toArray]
            go_simp
            refine hK.out _ _ (by exact d0) (fun hHeld => ?_)
            clear hK KK
            try simp only [List.getElem_toArray, List.getElem_cons_zero, List.getElem_cons_succ, Act.put, List.setIfInBounds_toArray, List.set_cons_zero, List.set_cons_succ]
            refine wpAnyH_take (i := 8) (v := ?_) rfl (by kernel_rfl) (by kernel_rfl) (by kernel_rfl) (fun _ _ _ h => h) (Or.inl ⟨by rfl, ?_⟩) (by assumption) ?_
            rotate_left
            · (intro w hSw; (try dsimp only at hSw); go_simp; try with_reducible rfl)
            try simp only [List.getElem_toArray, List.getElem_cons_zero, List.getElem_cons_succ, Act.put, List.setIfInBounds_toArray, List.set_cons_zero, List.set_cons_succ]
            refine wpAnyH_take (i := 9) (v := ?_) rfl (by kernel_rfl) (by kernel_rfl) (by kernel_rfl) (fun _ _ _ h => h) (Or.inl ⟨by rfl, ?_⟩) (by assumption) ?_
            rotate_left
            · (intro w hSw; (try dsimp only at hSw); go_simp; try with_reducible rfl)
            try simp only [List.getElem_toArray, List.getElem_cons_zero, List.getElem_cons_succ, Act.put, List.setIfInBounds_toArray, List.set_cons_zero, List.set_cons_succ]
            refine wpAnyH_take (i := 10) (v := ?_) rfl (by kernel_rfl) (by kernel_rfl) (by kernel_rfl) (fun _ _ _ h => h) (Or.inl ⟨by rfl, ?_⟩) (by assumption) ?_
            rotate_left
            · (intro w hSw; (try dsimp only at hSw); go_simp; try with_reducible rfl)
            try simp only [List.getElem_toArray, List.getElem_cons_zero, List.getElem_cons_succ, Act.put, List.setIfInBounds_toArray, List.set_cons_zero, List.set_cons_succ]
            refine wpAnyH_take (i := 11) (v := ?_) rfl (by kernel_rfl) (by kernel_rfl) (by kernel_rfl) (fun _ _ _ h => h) (Or.inl ⟨by rfl, ?_⟩) (by assumption) ?_
            rotate_left
            · (intro w hSw; (try dsimp only at hSw); go_simp; try with_reducible rfl)
            try simp only [List.getElem_toArray, List.getElem_cons_zero, List.getElem_cons_succ, Act.put, List.setIfInBounds_toArray, List.set_cons_zero, List.set_cons_succ]
            refine wpAnyH_take (i := 12) (v := ?_) rfl (by kernel_rfl) (by kernel_rfl) (by kernel_rfl) (fun _ _ _ h => h) (Or.inl ⟨by rfl, ?_⟩) (by assumption) ?_
            rotate_left
            · (intro w hSw; (try dsimp only at hSw); go_simp; try with_reducible rfl)
            try simp only [List.getElem_toArray, List.getElem_cons_zero, List.getElem_cons_succ, Act.put, List.setIfInBounds_toArray, List.set_cons_zero, List.set_cons_succ]
            refine wpAnyH_take (i := 13) (v := ?_) rfl (by kernel_rfl) (by kernel_rfl) (by kernel_rfl) (fun _ _ _ h => h) (Or.inl ⟨by rfl, ?_⟩) (by assumption) ?_
            rotate_left
            · (intro w hSw; (try dsimp only at hSw); go_simp; try with_reducible rfl)
            try simp only [List.getElem_toArray, List.getElem_cons_zero, List.getElem_cons_succ, Act.put, List.setIfInBounds_toArray, List.set_cons_zero, List.set_cons_succ]
            refine wpAnyH_ready (rs := [14]) (by kernel_rfl) (by simp) ?_
            refine (AllReadyH.cons rfl (fun KK hK => ?_) AllReadyH.nil)
            try simp only [List.getElem_toArray]
            go_simp
            (go_at_call 17; refine (IHd.out).mono ?_; rintro e w5 ⟨K2, hP2, hA2, ⟨rfl, G2, gv2, hG2, hT2, hkp⟩ | ⟨rfl, hG2, hV2, _⟩⟩)
            · have d5 := hG2.at0 HON.out
              refine hK.out _ _ (by exact d5) (fun hHeld => ?_)
              clear hK KK
              try simp only [List.getElem_toArray, List.getElem_cons_zero, List.getElem_cons_succ, Act.put, List.setIfInBounds_toArray, List.set_cons_zero, List.set_cons_succ]
              refine wpAnyH_take (i := 15) (v := ?_) rfl (by kernel_rfl) (by kernel_rfl) (by kernel_rfl) (fun _ _ _ h => h) (Or.inl ⟨by rfl, ?_⟩) (by assumption) ?_
              rotate_left
              · (intro w hSw; (try dsimp only at hSw); go_simp; try with_reducible rfl)
              try simp only [List.getElem_toArray, List.getElem_cons_zero, List.getElem_cons_succ, Act.put, List.setIfInBounds_toArray, List.set_cons_zero, List.set_cons_succ]
              refine wpAnyH_done (by kernel_rfl) ?_ _
              have hgn : gv2 n = gv n := hkp n VR.out.me (fun e => hone e.symm)
              have hGn : G2 n = G n := hT2.keep n VR.out.me (fun e => hone e.symm)
              have TT := Lib.hid (TSk.out G2 hT2)
              have GG := Lib.hid hG2
              have PP := Lib.hid hP2
              have AA := Lib.hid (AR.out.trans ⟨hA2.os, hA2.tape, hA2.output, hA2.size, hA2.block⟩)
              have HGn := Lib.hid (hgn.trans HV.out)
              have c5 := hG2.at2 HN.out
              rw [hgn, HV.out] at c5
              have hrow := hG2.row n HN.out
              rw [hgn, HV.out] at hrow
              obtain ⟨g5, e5, hg5, -, hc5, hf5⟩ := hrow.someAt (j := x) (by rw [List.length_map, hGn]; exact hxg)
              simp only [Option.some.injEq, Addr.mk.injEq, and_true] at e5
              subst e5
              have hne5 : ¬ g = q := fun e => hrow.not_pb hP2 (by decide) (by rw [e]; rfl)
              have HKP := Lib.hid (show ∀ s, K s = true → s ≠ n → gv2 s = gv s from fun s hs _ => hkp s (VR.out.sub s hs) (hoK s hs))
              have GP := Lib.hid (hG2.put (m := m) (i := x) HN.out (by rw [hGn, ← HL.out]) HGn.out)
              have PQ := Lib.hid (hP2.other (fun e => hne5 e.symm) (ndp (bl m)) (j := x))
              have AP := Lib.hid (AA.out.next ((Below.refl B w5).setCell (p := ⟨g, x, none⟩) hg5 (ndp (bl m))))
              clear hG2 hT2 hkp hP2 hA2 hrow hgn hGn
              go_wp2_with fail
              go_ret
              exact ⟨K2, PQ.out, AP.out, .inl ⟨rfl, _, gv2, GP.out, TT.out, HKP.out⟩⟩
            · have d5 := hG2.at0 HON.out
              refine hK.out _ _ (by exact d5) (fun hHeld => ?_)
              clear hK KK
              try simp only [List.getElem_toArray, List.getElem_cons_zero, List.getElem_cons_succ, Act.put, List.setIfInBounds_toArray, List.set_cons_zero, List.set_cons_succ]
              refine wpAnyH_take (i := 15) (v := ?_) rfl (by kernel_rfl) (by kernel_rfl) (by kernel_rfl) (fun _ _ _ h => h) (Or.inl ⟨by rfl, ?_⟩) (by assumption) ?_
              rotate_left
              · (intro w hSw; (try dsimp only at hSw); go_simp; try with_reducible rfl)
              try simp only [List.getElem_toArray, List.getElem_cons_zero, List.getElem_cons_succ, Act.put, List.setIfInBounds_toArray, List.set_cons_zero, List.set_cons_succ]
              refine wpAnyH_done (by kernel_rfl) ?_ _
              have NX2 := Lib.hid (NX.out K2 hV2)
              have GG := Lib.hid hG2
              have PP := Lib.hid hP2
              have AA := Lib.hid (AR.out.trans ⟨hA2.os, hA2.tape, hA2.output, hA2.size, hA2.block⟩)
              clear hG2 hV2 hP2 hA2
              go_wp2_with fail
              go_roundw
              case rel => exact ⟨x + 1, K2, by go_num, by omega, PP.out, GG.out, NX2.out, AA.out⟩
              case measure => simp [intOf]; omega
        · obtain rfl : x = L := by omega
          have hxI : ¬ (x : Int) < (x : Int) := by omega
          have VA := Lib.hid (show Vain ns k n G K K' from Vains.all (by rw [← HL.out]; exact VR.out) HN.out HK.out)
          go_wp2_with fail
          go_ret
          exact ⟨K', PR.out, AR.out, .inr ⟨rfl, GR.out, VA.out, HK.out⟩⟩

end Go.Proofs.Ytpkilacappjkhaa
