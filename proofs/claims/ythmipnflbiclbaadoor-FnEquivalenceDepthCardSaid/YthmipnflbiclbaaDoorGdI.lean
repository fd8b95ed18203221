/- guessDepth, the program's. Conditions: the guesses are sets below 32; the table setsWith is laid. -/
import Derived.Laws.EntriesVeiled
import Derived.Test.YthmipnflbiclbaaDoorLab
import Derived.Test.YthmipnflbiclbaaDoorMemo
import Derived.Test.YthmipnflbiclbaaDoorZH
import Derived.Test.YthmipnflbiclbaaDoorZU
namespace Go.Proofs.YthmipnflbiclbaaDoor
open Go.RowKit Go.Maps

/-- what the closures find: the class, the guesses, each other, and the map -/
structure GI (N : Nat) (G : List Nat) (sv ag : Value) (w : World) (o p n : Nat) (W : World) : Prop where
  below : Below o w W
  size : p + 3 ≤ W.heap.size
  low : o + 3 ≤ p
  c0 : W.cell? ⟨o, 0, none⟩ = some (.int .i64 (N : Int))
  c1 : W.cell? ⟨o + 1, 0, none⟩ = some ag
  c3 : W.cell? ⟨p, 0, none⟩ = some (.map (some (o + 2)))
  c4 : W.cell? ⟨p + 1, 0, none⟩ = some (.func (.func 108) #[] #[.pointer (some ⟨p, 0, none⟩), .pointer (some ⟨o + 1, 0, none⟩), .pointer (some ⟨p + 1 + 1, 0, none⟩)])
  c5 : W.cell? ⟨p + 1 + 1, 0, none⟩ = some (.func (.func 107) #[] #[.pointer (some ⟨o, 0, none⟩), .pointer (some ⟨p + 1, 0, none⟩)])
  memo : Memo (gd N G) W (o + 2) n
  sets : W.cell? ⟨o, 1, none⟩ = some sv
theorem GI.next {N : Nat} {G : List Nat} {sv ag : Value} {w : World} {o p n : Nat} {W W' : World} (h : GI N G sv ag w o p n W) (hb : Below W.heap.size W W') : GI N G sv ag w o p n W' := by
  have hz := h.size
  have hz2 := h.low
  exact ⟨h.below.trans (hb.mono (by omega)), Nat.le_trans h.size hb.size, h.low, (hb.cell (p := ⟨o, 0, none⟩) (by show o < _; omega)).trans h.c0, (hb.cell (p := ⟨o + 1, 0, none⟩) (by show o + 1 < _; omega)).trans h.c1, (hb.cell (p := ⟨p, 0, none⟩) (by show p < _; omega)).trans h.c3, (hb.cell (p := ⟨p + 1, 0, none⟩) (by show p + 1 < _; omega)).trans h.c4, (hb.cell (p := ⟨p + 1 + 1, 0, none⟩) (by show p + 1 + 1 < _; omega)).trans h.c5, h.memo.next hb, (hb.cell (p := ⟨o, 1, none⟩) (by show o < _; omega)).trans h.sets⟩
theorem GI.mono {N : Nat} {G : List Nat} {sv ag : Value} {w : World} {o p n m : Nat} {W : World} (h : GI N G sv ag w o p n W) (hm : n ≤ m) : GI N G sv ag w o p m W := ⟨h.below, h.size, h.low, h.c0, h.c1, h.c3, h.c4, h.c5, h.memo.mono hm, h.sets⟩
theorem GI.put {N : Nat} {G : List Nat} {sv ag : Value} {w : World} {o p n m : Nat} {W W' : World} (h : GI N G sv ag w o p n W) (hg : W.grownBy W' (some (o + 2))) (hm : Memo (gd N G) W' (o + 2) m) : GI N G sv ag w o p m W' := by
  have hl := h.low
  refine ⟨h.below.grown hg (by have := h.size; omega) (fun k hk => by cases hk; omega), Nat.le_trans h.size hg.size, h.low, ?_, ?_, ?_, ?_, ?_, hm, ?_⟩
  · exact hg.cell h.c0 (by simp)
  · exact hg.cell h.c1 (by simp)
  · exact hg.cell h.c3 (by simp; omega)
  · exact hg.cell h.c4 (by simp; omega)
  · exact hg.cell h.c5 (by simp; omega)
  · exact hg.cell h.sets (by simp)
theorem Srt.rs {L : List Nat} (h : Srt L) (g x : Nat) : Srt (rs g x L) := ⟨fun u hu => h.1 u (rs_sub hu), rs_asc h.2⟩
/-- how many entries a call may add -/
def adds (k : Nat) : Nat := 200 ^ k
theorem adds_succ (k : Nat) : adds (k + 1) = 200 * adds k := by rw [adds, adds, Nat.pow_succ]; omega
theorem adds_pos (k : Nat) : 1 ≤ adds k := Nat.pow_pos (by omega)
theorem adds_le {k j : Nat} (h : k ≤ j) : adds k ≤ adds j := Nat.pow_le_pow_right (by omega) h
/-- what a call of depth promises -/
def DepOk (N : Nat) (G : List Nat) (sv ag : Value) (w : World) (o p : Nat) (L : List Nat) : Prop :=
  ∀ (n : Nat) (W : World), GI N G sv ag w o p n W → n + adds L.length ≤ 9223372036854775000 → Calls Tryd.prog 108 #[.int .u32 (fm L), .pointer (some ⟨p, 0, none⟩), .pointer (some ⟨o + 1, 0, none⟩), .pointer (some ⟨p + 1 + 1, 0, none⟩)] W fun e W' => e = .returned (.int .i64 (gd N G L)) ∧ GI N G sv ag w o p (n + adds L.length) W'

set_option maxRecDepth 100000 in
set_option maxHeartbeats 3200000 in
theorem implAfter (N : Nat) (hN : N ≤ 5) (G : List Nat) (sv ag : Value) (w : World) (o p : Nat) (hwo : w.heap.size = o) (hsw : SW w) (L : List Nat) (hL : Srt L) (g : Nat) (hg : g < 32) (k : Nat) (hk : L.length ≤ k + 1)
    (IH : ∀ R, Srt R → R.length ≤ k → DepOk N G sv ag w o p R) (n : Nat) (W : World) (h : GI N G sv ag w o p n W) (hn : n + 5 * adds k ≤ 9223372036854775000) :
    Calls Tryd.prog 107 #[.int .u32 (fm L), .int .i64 (g : Int), .pointer (some ⟨o, 0, none⟩), .pointer (some ⟨p + 1, 0, none⟩)] W fun e W' => e = .returned (.int .i64 (aft N (gd N G) L g)) ∧ GI N G sv ag w o p (n + 5 * adds k) W' := by
  have HH := Lib.hid h
  have HL := Lib.hid hL
  have HIH := Lib.hid IH
  have HSW := Lib.hid hsw
  have HLb := Lib.hid (fun x hx w0 => implLabelled g x hg hx w0)
  have HFi := Lib.hid (fun x b hx w0 h0 => implFitting L x b hx w0 h0)
  have HRk := Lib.hid (fun x => rs_kp g x L)
  have HSt := Lib.hid (fun x => aftTo_succ (gd N G) L g x)
  have HBd := Lib.hid (fun R => gd_bd N G R)
  have HAb := Lib.hid (fun x => aftTo_bd (gd_bd N G) L g x)
  have HYes := Lib.hid (fun x (hx : x < N) (h9 : rs g x L = L) => show aft N (gd N G) L g = 100 by rw [aft, stuck_at hx h9]; rfl)
  have HNo := Lib.hid (fun (h9 : ∀ x, x < N → rs g x L ≠ L) => show aft N (gd N G) L g = aftTo (gd N G) L g N by rw [aft, stuck_no.2 h9]; rfl)
  have HLen := Lib.hid (fun x (h9 : rs g x L ≠ L) => show (rs g x L).length ≤ k by have := rs_len h9; omega)
  have HA0 := Lib.hid (show aftTo (gd N G) L g 0 = 0 from rfl)
  generalize aft N (gd N G) L g = A at *
  generalize aftTo (gd N G) L g = T at *
  obtain ⟨ak, hak⟩ : ∃ ak, ak = adds k := ⟨_, rfl⟩
  rw [← hak] at hn ⊢
  have HAk := Lib.hid hak
  clear hL IH hsw h hak
  have c0 := HH.out.c0
  go_enter Tryd.func107, Tryd.ntmps107
  go_wp2_with fail
  clear c0
  go_loopw [7, 13] (fun q i wr => ∃ j : Nat, j ≤ N ∧ i = .int .i64 j ∧ q = .int .i64 (T j) ∧ (∀ x, x < j → rs g x L ≠ L) ∧ GI N G sv ag w o p (n + j * ak) wr) (fun _ i _ => N - (intOf i).toNat)
  case atStart => exact ⟨0, Nat.zero_le _, rfl, by rw [HA0.out], fun x hx => by omega, by rw [Nat.zero_mul]; exact HH.out⟩
  case round =>
    obtain ⟨j, hj, rfl, rfl, hno, hgi⟩ := hrel
    have HNs := Lib.hid hno
    have HG := Lib.hid hgi
    have hab := HAb.out j
    clear hno hgi
    by_cases hlt : j < N
    · have hltI : (j : Int) < (N : Int) := by omega
      have hmul : (j + 1) * ak = j * ak + ak := by rw [Nat.add_mul, Nat.one_mul]
      have hmx : (j + 1) * ak ≤ 5 * ak := Nat.mul_le_mul_right _ (by omega)
      have hst := HSt.out j
      have hbd := HBd.out (rs g j L)
      have hyes := HYes.out j hlt
      have hlen := HLen.out j
      have hrk := HRk.out j
      have hsr := HL.out.rs g j
      have HNj := Lib.hid (fun (h9 : rs g j L ≠ L) => show ∀ x, x < j + 1 → rs g x L ≠ L from fun x hx => by
        by_cases e : x = j
        · rw [e]; exact h9
        · exact HNs.out x (by omega))
      have hab2 := HAb.out (j + 1)
      obtain ⟨t0, ht0⟩ : ∃ t0, t0 = T j := ⟨_, rfl⟩
      obtain ⟨t1, ht1⟩ : ∃ t1, t1 = T (j + 1) := ⟨_, rfl⟩
      rw [← ht0] at hab hst ⊢
      rw [← ht1] at hst hab2
      have HT1 := Lib.hid ht1
      clear ht0 ht1
      generalize hR : rs g j L = R at *
      have HR := Lib.hid hR
      clear hR
      have HST := Lib.hid hst
      have HYj := Lib.hid hyes
      have HLj := Lib.hid hlen
      have HSr := Lib.hid hsr
      clear hst hyes hlen hsr
      have hb5 : j < 5 := by omega
      go_wp2_with fail
      refine (HLb.out j hb5 _).mono ?_
      rintro e w3 ⟨rfl, hb3⟩
      have HG3 := Lib.hid (HG.out.next hb3)
      clear hb3
      generalize hasX j g = bx at *
      have HKP := Lib.hid hrk
      clear hrk
      have hal : Below w3.heap.size w3 (w3.alloc (Obj.cells #[.int .i64 (j : Int), .bool !bx] 92)) := (Below.refl _ _).alloc (Nat.le_refl _) _
      have HG4 := Lib.hid (HG3.out.next hal)
      have HS4 := Lib.hid (HSW.out.next (by have h9 := HG4.out.below; rw [← hwo] at h9; exact h9))
      clear hal
      go_wp2_with fail
      refine (HFi.out j (!bx) hb5 _ HS4.out).mono ?_
      rintro e w5 ⟨rfl, hb5'⟩
      rw [HKP.out]
      have HG5 := Lib.hid (HG4.out.next hb5')
      clear hb5' HFi HLb
      by_cases hRL : R = L
      · have HE := Lib.hid (HYj.out hRL)
        have hd : (fm R == fm L) = true := by rw [hRL]; simp
        have hle : j * ak ≤ 5 * ak := Nat.mul_le_mul_right _ (by omega)
        clear HSr
        generalize fm R = Fr at *
        go_wp2_with fail
        go_ret
        exact ⟨by rw [HE.out]; rfl, HG5.out.mono (by omega)⟩
      · have hd : (fm R == fm L) = false := by
          rw [beq_eq_false_iff_ne]
          exact fun h9 => hRL ((fm_one HSr.out.1 HL.out.1 HSr.out.2 HL.out.2).1 h9)
        have hrk' := HLj.out hRL
        have had : adds R.length ≤ ak := by rw [HAk.out]; exact adds_le hrk'
        have HD := Lib.hid (HIH.out R HSr.out hrk' (n + j * ak) w5 HG5.out (by omega))
        have c4 := HG5.out.c4
        have HN9 := Lib.hid (HNj.out hRL)
        have HNe := Lib.hid hRL
        obtain ⟨aR, haR⟩ : ∃ aR, aR = adds R.length := ⟨_, rfl⟩
        rw [← haR] at had HD
        clear haR hRL
        generalize hdv : gd N G R = dv at *
        have HDv := Lib.hid hdv
        clear hdv HSr
        generalize fm R = Fr at *
        go_wp2_with fail
        refine HD.out.mono ?_
        rintro e w6 ⟨rfl, hg6⟩
        have HG6 := Lib.hid (hg6.mono (show n + j * ak + aR ≤ n + (j + 1) * ak by omega))
        clear hg6 c4
        by_cases hlt2 : t0 < dv
        · have HS2 := Lib.hid (HST.out.trans (if_pos hlt2))
          have hm2 : max t0 dv = dv := by omega
          go_wp2_with fail
          go_roundw
          case rel => exact ⟨j + 1, by omega, by go_num, by rw [← HT1.out, HS2.out], HN9.out, HG6.out⟩
          case measure => simp [intOf]; omega
        · have HS2 := Lib.hid (HST.out.trans (if_neg hlt2))
          have hm2 : max t0 dv = t0 := by omega
          go_wp2_with fail
          go_roundw
          case rel => exact ⟨j + 1, by omega, by go_num, by rw [← HT1.out, HS2.out], HN9.out, HG6.out⟩
          case measure => simp [intOf]; omega
    · obtain rfl : j = N := by omega
      have HE := Lib.hid (HNo.out HNs.out)
      go_wp2_with fail
      go_ret
      exact ⟨by rw [HE.out]; rfl, HG.out.mono (by have := Nat.mul_le_mul_right ak hN; omega)⟩

set_option maxRecDepth 100000 in
set_option maxHeartbeats 3200000 in
theorem implDepthStep (N : Nat) (hN : N ≤ 5) (G : List Nat) (hG : ∀ g ∈ G, g < 32) (hGl : G.length ≤ 32) (sv : Value) (aa : Option Addr) (cg : Nat) (w : World) (o p : Nat) (hwo : w.heap.size = o) (hsw : SW w) (hrd : Rd w (.slice aa G.length cg) (toI G)) (L : List Nat) (hL : Srt L)
    (IH : ∀ R, Srt R → R.length + 1 ≤ L.length → DepOk N G sv (.slice aa G.length cg) w o p R) : DepOk N G sv (.slice aa G.length cg) w o p L := by
  intro n W h hn
  obtain ⟨cc, bb, hrun, hyes, hno⟩ := h.memo.look L hL
  have HH := Lib.hid h
  have HL := Lib.hid hL
  have HAf := Lib.hid (fun (k : Nat) (hk : L.length = k + 1) g hg n W (h : GI N G sv (.slice aa G.length cg) w o p n W) hn => implAfter N hN G sv (.slice aa G.length cg) w o p hwo hsw L hL g hg k (by omega) (fun R hR hRk => IH R hR (by omega)) n W h hn)
  have HGs := Lib.hid (fun (hne : L ≠ []) => gd_step (n := N) (G := G) hne)
  have HBd := Lib.hid (gd_bd N G L)
  have HLb := Lib.hid (fun j => lsTo_bd (gd_bd N G) N G L j)
  have HLs := Lib.hid (fun j => lsTo_succ N G (gd N G) L j)
  have HL0 := Lib.hid (show lsTo N G (gd N G) L 0 = 100 from rfl)
  have HAb := Lib.hid (fun g => aft_bd (gd_bd N G) N L g)
  have HGe := Lib.hid (fun j (hj : j < G.length) => hG _ (getD_of_lt hj))
  have HRd := Lib.hid hrd
  have HPo := Lib.hid (adds_pos (L.length - 1))
  have HSu := Lib.hid (fun (hne : L ≠ []) => show adds L.length = 200 * adds (L.length - 1) ∧ L.length = L.length - 1 + 1 by
    have := List.length_pos_iff.2 hne
    refine ⟨?_, by omega⟩
    rw [← adds_succ]; congr 1; omega)
  have HRun := Lib.hid hrun
  clear h hL IH hsw hrd hG hrun
  have c3 := HH.out.c3
  cases bb with
  | true =>
    obtain rfl := hyes rfl
    have HBV := Lib.hid (show GI N G sv (.slice aa G.length cg) w o p (n + adds L.length) W from HH.out.mono (by omega))
    clear hyes hno HAf HLs HAb HSu
    generalize gd N G L = v at *
    generalize fm L = FL at *
    go_enter Tryd.func108, Tryd.ntmps108
    go_wp2_with (at_lookup; refine wpList_memo_look _ rfl _ _ rfl (o + 2) rfl _ rfl _ _ HRun.out ?_)
    go_ret
    exact ⟨rfl, HBV.out⟩
  | false =>
    have hne := hno rfl
    obtain ⟨hs1, hs2⟩ := HSu.out hne
    have HG9 := Lib.hid (HGs.out hne)
    have hpo := HPo.out
    obtain ⟨ak, hak⟩ : ∃ ak, ak = adds (L.length - 1) := ⟨_, rfl⟩
    have HAk := Lib.hid (HAf.out (L.length - 1) hs2)
    rw [← hak] at hs1 hpo HAk
    obtain ⟨an, han⟩ : ∃ an, an = adds L.length := ⟨_, rfl⟩
    rw [← han] at hs1 hn ⊢
    clear hyes hno HAf HSu HPo hak han hs2 hne HGs
    obtain ⟨T, hT⟩ : ∃ T, T = lsTo N G (gd N G) L := ⟨_, rfl⟩
    rw [← hT] at HLb HLs HL0 HG9
    clear hT
    obtain ⟨ab, bg, og, cg', eg, g1, g3, g5⟩ := HRd.out
    rw [toI_length] at eg g1 g3
    simp only [Value.slice.injEq, true_and] at eg
    obtain ⟨rfl, rfl⟩ := eg
    have G1 := Lib.hid g1
    have G5 := Lib.hid (fun j (hj : j < G.length) => show w.cell? ⟨bg, og + j, none⟩ = some (.int .i64 ((G.getD j 0 : Nat) : Int)) by have h9 := g5 j (by rw [toI_length]; exact hj); rwa [toI_getD] at h9)
    clear g1 g5
    obtain ⟨K, hK⟩ : ∃ K, K = G.length := ⟨_, rfl⟩
    have HKe := Lib.hid hK
    have HH2 := Lib.hid HH.out
    have c1 := HH2.out.c1
    rw [← hK] at g3 G1 G5 HGe HG9 HAk hGl c1 HH ⊢
    clear hK
    go_enter Tryd.func108, Tryd.ntmps108
    go_wp2_with (at_lookup; refine wpList_memo_look _ rfl _ _ rfl (o + 2) rfl _ rfl _ _ HRun.out ?_)
    clear c3 c1
    go_loopw [8, 21] (fun q i wr => ∃ j : Nat, j ≤ K ∧ i = .int .i64 j ∧ q = .int .i64 (T j) ∧ GI N G sv (.slice aa K cg) w o p (n + j * (5 * ak)) wr) (fun _ i _ => K - (intOf i).toNat)
    case atStart => exact ⟨0, Nat.zero_le _, rfl, by rw [HL0.out], by rw [Nat.zero_mul]; exact HH.out⟩
    case round =>
      obtain ⟨j, hj, rfl, rfl, hgi⟩ := hrel
      have HG := Lib.hid hgi
      have hlb := HLb.out j
      clear hgi
      by_cases hlt : j < K
      · have hltI : (j : Int) < (K : Int) := by omega
        have hmul : (j + 1) * (5 * ak) = j * (5 * ak) + 5 * ak := by rw [Nat.add_mul, Nat.one_mul]
        have hmx : (j + 1) * (5 * ak) ≤ 32 * (5 * ak) := Nat.mul_le_mul_right _ (by omega)
        obtain ⟨rfl, hbg⟩ := G1.out (by omega)
        have hcx := (HG.out.below.cell (p := ⟨bg, og + j, none⟩) (by show bg < o; omega)).trans (G5.out j hlt)
        have c5 := HG.out.c5
        have hls := HLs.out j
        have hab := HAb.out (G.getD j 0)
        have HAj := Lib.hid (HAk.out _ (HGe.out j hlt) (n + j * (5 * ak)) wr HG.out (by omega))
        have hlb1 := HLb.out (j + 1)
        generalize G.getD j 0 = g at *
        generalize aft N (gd N G) L g = A at *
        obtain ⟨t0, ht0⟩ : ∃ t0, t0 = T j := ⟨_, rfl⟩
        obtain ⟨t1, ht1⟩ : ∃ t1, t1 = T (j + 1) := ⟨_, rfl⟩
        rw [← ht0] at hlb hls ⊢
        rw [← ht1] at hls hlb1
        have HT1 := Lib.hid ht1
        clear ht0 ht1
        have HLS := Lib.hid hls
        clear hls
        generalize fm L = FL at *
        go_wp2_with fail
        refine HAj.out.mono ?_
        rintro e w6 ⟨rfl, hg6⟩
        have HG6 := Lib.hid (hg6.mono (show n + j * (5 * ak) + 5 * ak ≤ n + (j + 1) * (5 * ak) by omega))
        clear hg6 c5 hcx
        by_cases hlt2 : 1 + A < t0
        · have HS2 := Lib.hid (HLS.out.trans (if_pos hlt2))
          have hm2 : min t0 (1 + A) = 1 + A := by omega
          go_wp2_with fail
          go_roundw
          case rel => exact ⟨j + 1, by omega, by go_num, by rw [← HT1.out, HS2.out], HG6.out⟩
          case measure => simp [intOf]; omega
        · have HS2 := Lib.hid (HLS.out.trans (if_neg hlt2))
          have hm2 : min t0 (1 + A) = t0 := by omega
          go_wp2_with fail
          go_roundw
          case rel => exact ⟨j + 1, by omega, by go_num, by rw [← HT1.out, HS2.out], HG6.out⟩
          case measure => simp [intOf]; omega
      · obtain rfl : j = K := by omega
        have hmx : j * (5 * ak) ≤ 32 * (5 * ak) := Nat.mul_le_mul_right _ (by omega)
        rw [← HG9.out]
        have c3 := HG.out.c3
        go_wp2_with (at_mapUpdate; refine wpList_memo_put (f := gd N G) _ rfl _ _ _ rfl (o + 2) (n + j * (5 * ak)) rfl HG.out.memo (by unfold maxLen; omega) L HL.out rfl rfl HBd.out ?_; intro w7 hm7 hg7)
        go_ret
        exact ⟨rfl, (HG.out.put hg7 hm7).mono (by omega)⟩
theorem implDepth (N : Nat) (hN : N ≤ 5) (G : List Nat) (hG : ∀ g ∈ G, g < 32) (hGl : G.length ≤ 32) (sv : Value) (aa : Option Addr) (cg : Nat) (w : World) (o p : Nat) (hwo : w.heap.size = o) (hsw : SW w) (hrd : Rd w (.slice aa G.length cg) (toI G)) :
    ∀ (k : Nat) (L : List Nat), Srt L → L.length ≤ k → DepOk N G sv (.slice aa G.length cg) w o p L := by
  intro k
  induction k with
  | zero => exact fun L hL hk => implDepthStep N hN G hG hGl sv aa cg w o p hwo hsw hrd L hL (fun R _ h => by omega)
  | succ k ih => exact fun L hL hk => implDepthStep N hN G hG hGl sv aa cg w o p hwo hsw hrd L hL (fun R hR h => ih R hR (by omega))

set_option maxRecDepth 100000 in
set_option maxHeartbeats 3200000 in
theorem implGuessDepth (N : Nat) (hN : N ≤ 5) (G : List Nat) (hG : ∀ g ∈ G, g < 32) (hGl : G.length ≤ 32) (ns : List Nat) (hns : Srt ns) (hl7 : ns.length ≤ 7) (v u : Value) (w : World) (hv : Rd w v (toI ns)) (hu : Rd w u (toI G)) (hsw : SW w) :
    Calls Tryd.prog 59 #[.agg #[.int .i64 (N : Int), v], u] w fun e w' => e = .returned (.int .i64 (gd N G ns)) ∧ Below w.heap.size w w' := by
  have HD := Lib.hid (fun (aa : Option Addr) (cg : Nat) (hrd : Rd w (.slice aa G.length cg) (toI G)) (p : Nat) => implDepth N hN G hG hGl v aa cg w w.heap.size p rfl hsw hrd ns.length ns hns (Nat.le_refl _))
  have HF := Lib.hid (fun v w0 h0 => implFamilyOf (N : Int) v ns hns.1 w0 h0)
  have H := Lib.hid hv
  have HG0 := Lib.hid (gd_nil N G)
  have hmm := @run_makeMap Tryd.prog
  have hadd : adds ns.length ≤ 200 ^ 7 := adds_le hl7
  obtain ⟨a, b, off, cap, rfl, _, _, _⟩ := hv
  have HU := Lib.hid hu
  obtain ⟨a2, b2, off2, cap2, rfl, _, _, _⟩ := hu
  rw [toI_length] at H HU HD ⊢
  rw [toI_length]
  have HDu := Lib.hid (HD.out _ _ HU.out)
  clear hG hns hl7 hsw HD
  obtain ⟨o, ho⟩ : ∃ o, o = w.heap.size := ⟨_, rfl⟩
  have HO := Lib.hid ho
  obtain ⟨K, hK⟩ : ∃ K, K = G.length := ⟨_, rfl⟩
  rw [← hK] at HU HDu ⊢
  obtain ⟨L, hL⟩ : ∃ L, L = ns.length := ⟨_, rfl⟩
  have HLL := Lib.hid hL
  rw [← hL] at H HDu ⊢
  clear hK hL
  have HM0 := World.ownsMap_made ((w.alloc (Obj.cells #[.int .i64 (N : Int), .slice a L cap] 25)).alloc (Obj.cells #[.slice a2 K cap2] 23)) Tryd.prog 80 (plainElem (H := Unit) Tryd.prog 3)
  rw [show ((w.alloc (Obj.cells #[.int .i64 (N : Int), .slice a L cap] 25)).alloc (Obj.cells #[.slice a2 K cap2] 23)).heap.size = w.heap.size + 1 + 1 by simp] at HM0
  obtain ⟨w1, hrun, hown, hgr⟩ := HM0.update keyFam Tryd.underlying116 (show 0 < maxLen by unfold maxLen; omega) (show keyOf Tryd.prog 80 (.int .u32 0) = some (.int .u32 0) by rw [← fm_none]; exact keyOf_fm []) (plainElem_int Tryd.underlying3 (by decide : (Lit.int .i64 0).wf = true))
  have HMe := Lib.hid (Memo.first (f := gd N G) HG0.out hown)
  have HB1 := Lib.hid (((((Below.refl w.heap.size w).alloc (Nat.le_refl _) (Obj.cells #[.int .i64 (N : Int), .slice a L cap] 25)).alloc (by simp) (Obj.cells #[.slice a2 K cap2] 23)).alloc (by simp; omega) (.map #[] 0)).grown hgr (by simp; omega) (fun k hk => by cases hk; omega))
  have hz1 : w.heap.size + 3 ≤ w1.heap.size := by have h9 := hgr.size; simp at h9; omega
  have e0 : w1.cell? ⟨w.heap.size, 0, none⟩ = some (.int .i64 (N : Int)) := hgr.cell (by simp [go_sem]) (by simp; omega)
  have e1 : w1.cell? ⟨w.heap.size, 1, none⟩ = some (.slice a L cap) := hgr.cell (by simp [go_sem]) (by simp; omega)
  have e2 : w1.cell? ⟨w.heap.size + 1, 0, none⟩ = some (.slice a2 K cap2) := hgr.cell (by simp [go_sem]) (by simp)
  have E0 := Lib.hid e0
  have E1 := Lib.hid e1
  have E2 := Lib.hid e2
  clear HM0 hown hgr e0 e1 e2
  go_enter Tryd.func59, Tryd.ntmps59
  go_wp2_with fail
  have hp3 : w.heap.size + 3 ≤ w1.heap.size := hz1
  obtain ⟨p, hp⟩ : ∃ p, p = w1.heap.size := ⟨_, rfl⟩
  have HW := Lib.hid (show GI N G (.slice a L cap) (.slice a2 K cap2) w w.heap.size p 1 (((w1.alloc (Obj.cells #[.map (some (w.heap.size + 1 + 1))] 116)).alloc (Obj.cells #[(.func (.func 108) #[] #[.pointer (some ⟨p, 0, none⟩), .pointer (some ⟨w.heap.size + 1, 0, none⟩), .pointer (some ⟨p + 1 + 1, 0, none⟩)])] 78)).alloc (Obj.cells #[(.func (.func 107) #[] #[.pointer (some ⟨w.heap.size, 0, none⟩), .pointer (some ⟨p + 1, 0, none⟩)])] 117)) from by
    subst hp
    have hb : Below w1.heap.size w1 (((w1.alloc (Obj.cells #[.map (some (w.heap.size + 1 + 1))] 116)).alloc (Obj.cells #[(.func (.func 108) #[] #[.pointer (some ⟨w1.heap.size, 0, none⟩), .pointer (some ⟨w.heap.size + 1, 0, none⟩), .pointer (some ⟨w1.heap.size + 1 + 1, 0, none⟩)])] 78)).alloc (Obj.cells #[(.func (.func 107) #[] #[.pointer (some ⟨w.heap.size, 0, none⟩), .pointer (some ⟨w1.heap.size + 1, 0, none⟩)])] 117)) := (((Below.refl _ w1).alloc (Nat.le_refl _) _).alloc (by simp) _).alloc (by simp; omega) _
    exact ⟨HB1.out.trans (hb.mono (by omega)), by simp, hz1, (hb.cell (p := ⟨w.heap.size, 0, none⟩) (by show w.heap.size < _; omega)).trans E0.out, (hb.cell (p := ⟨w.heap.size + 1, 0, none⟩) (by show w.heap.size + 1 < _; omega)).trans E2.out, by simp [go_sem], by simp [go_sem], by simp [go_sem], HMe.out.next hb, (hb.cell (p := ⟨w.heap.size, 1, none⟩) (by show w.heap.size < _; omega)).trans E1.out⟩)
  rw [← hp]
  obtain ⟨W2, hW2⟩ : ∃ W2, (((w1.alloc (Obj.cells #[.map (some (w.heap.size + 1 + 1))] 116)).alloc (Obj.cells #[(.func (.func 108) #[] #[.pointer (some ⟨p, 0, none⟩), .pointer (some ⟨w.heap.size + 1, 0, none⟩), .pointer (some ⟨p + 1 + 1, 0, none⟩)])] 78)).alloc (Obj.cells #[(.func (.func 107) #[] #[.pointer (some ⟨w.heap.size, 0, none⟩), .pointer (some ⟨p + 1, 0, none⟩)])] 117)) = W2 := ⟨_, rfl⟩
  rw [hW2] at HW ⊢
  clear hW2 HMe HB1 E0 E1 E2 hrun hmm HO ho hp hz1 hp3
  have x0 := HW.out.c0
  have x1 := HW.out.sets
  have x2 := HW.out.c4
  refine wp_region_held_drew (S := fun w' => w'.cell? ⟨w.heap.size, 0, none⟩ = some (.int .i64 (N : Int)) ∧ w'.cell? ⟨w.heap.size, 1, none⟩ = some (.slice a L cap) ∧ w'.cell? ⟨p + 1, 0, none⟩ = some (.func (.func 108) #[] #[.pointer (some ⟨p, 0, none⟩), .pointer (some ⟨w.heap.size + 1, 0, none⟩), .pointer (some ⟨p + 1 + 1, 0, none⟩)])) (by kernel_rfl) (by first | exact ⟨x0, x1, x2⟩ | exact ⟨y0, y1, y2⟩ | exact ⟨z0, z1, z2⟩ | go_keep) (fun hHeld => ?_)
  refine wpAnyH_take (i := 0) (v := ?_) rfl (by kernel_rfl) (by kernel_rfl) (by kernel_rfl) (fun _ _ _ h => h) (Or.inl ⟨by rfl, ?_⟩) (by assumption) ?_
  rotate_left
  · (intro w hSw; (try dsimp only at hSw); go_simp; try with_reducible rfl)
  try simp only [List.getElem_toArray, List.getElem_cons_zero, Act.put, List.setIfInBounds_toArray, List.set_cons_zero, List.set_cons_succ]
  refine wpAnyH_take (i := 1) (v := ?_) rfl (by kernel_rfl) (by kernel_rfl) (by kernel_rfl) (fun _ _ _ h => h) (Or.inl ⟨by rfl, ?_⟩) (by assumption) ?_
  rotate_left
  · (intro w hSw; (try dsimp only at hSw); go_simp; try with_reducible rfl)
  try simp only [List.getElem_toArray, List.getElem_cons_zero, List.getElem_cons_succ, Act.put, List.setIfInBounds_toArray, List.set_cons_zero, List.set_cons_succ]
  refine wpAnyH_ready (rs := [2]) (by kernel_rfl) (by simp) ?_
  refine AllReadyH.cons rfl (fun K hK => ?_) AllReadyH.nil
  try simp only [List.getElem_toArray]
  go_simp
  (go_at_call 66; refine (HF.out _ _ (by first | exact H.out.below HW.out.below (Nat.le_refl _) | exact H.out.below HW.out.below.drew (Nat.le_refl _))).mono ?_; rintro e w5 ⟨rfl, hb5'⟩; have hb5 : Below W2.heap.size W2 w5 := (by first | exact hb5' | exact ⟨hb5'.os, hb5'.tape, hb5'.output, hb5'.size, hb5'.block⟩); clear hb5'; have HW5 := Lib.hid (HW.out.next hb5); clear hb5; have y0 := HW5.out.c0; have y1 := HW5.out.sets; have y2 := HW5.out.c4)
  refine hK.out _ _ (by first | exact ⟨x0, x1, x2⟩ | exact ⟨y0, y1, y2⟩ | exact ⟨z0, z1, z2⟩ | go_keep) (fun hHeld => ?_)
  clear hK K
  try simp only [List.getElem_toArray, List.getElem_cons_zero, List.getElem_cons_succ, Act.put, List.setIfInBounds_toArray, List.set_cons_zero, List.set_cons_succ]
  refine wpAnyH_ready (rs := [3]) (by kernel_rfl) (by simp) ?_
  refine AllReadyH.cons rfl (fun K hK => ?_) AllReadyH.nil
  try simp only [List.getElem_toArray]
  go_simp
  (refine ((HDu.out p) 1 _ HW5.out (by omega)).mono ?_; rintro e w6 ⟨rfl, hg9⟩; have z0 := hg9.c0; have z1 := hg9.sets; have z2 := hg9.c4)
  refine hK.out _ _ (by first | exact ⟨x0, x1, x2⟩ | exact ⟨y0, y1, y2⟩ | exact ⟨z0, z1, z2⟩ | go_keep) (fun hHeld => ?_)
  clear hK K
  try simp only [List.getElem_toArray, List.getElem_cons_zero, List.getElem_cons_succ, Act.put, List.setIfInBounds_toArray, List.set_cons_zero, List.set_cons_succ]
  refine wpAnyH_take (i := 4) (v := ?_) rfl (by kernel_rfl) (by kernel_rfl) (by kernel_rfl) (fun _ _ _ h => h) (Or.inl ⟨by rfl, ?_⟩) (by assumption) ?_
  rotate_left
  · (intro w hSw; (try dsimp only at hSw); go_simp; try with_reducible rfl)
  try simp only [List.getElem_toArray, List.getElem_cons_zero, List.getElem_cons_succ, Act.put, List.setIfInBounds_toArray, List.set_cons_zero, List.set_cons_succ]
  refine wpAnyH_done (by kernel_rfl) ?_ _
  go_wp2_with fail
  go_ret
  exact ⟨rfl, hg9.below⟩

end Go.Proofs.YthmipnflbiclbaaDoor
