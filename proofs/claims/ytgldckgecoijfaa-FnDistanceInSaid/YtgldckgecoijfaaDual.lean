/- The program's indicesWith and DualClass. Conditions: Sets is a slice of ints. -/
import Derived.Test.YtgldckgecoijfaaLink
import Derived.Test.YtgldckgecoijfaaZD
namespace Go.Proofs.Ytgldckgecoijfaa
open Go.RowKit

/-- the indices, as a number, of those of the first k of ns that have x -/
def indTo (ns : List Nat) (x : Nat) : Nat → Nat
  | 0 => 0
  | k + 1 => indTo ns x k + ns.getD k 0 / 2 ^ x % 2 * 2 ^ k
theorem indTo_lt (ns : List Nat) (x k : Nat) : indTo ns x k < 2 ^ k := by
  induction k with
  | zero => simp [indTo]
  | succ k ih =>
    rw [indTo, Nat.pow_succ]
    have : ns.getD k 0 / 2 ^ x % 2 < 2 := Nat.mod_lt _ (by omega)
    generalize ns.getD k 0 / 2 ^ x % 2 = b at *
    generalize 2 ^ k = p at *
    rcases (show b = 0 ∨ b = 1 by omega) with rfl | rfl <;> omega
theorem or_pow {o k : Nat} (hk : k < 5) (ho : o < 2 ^ k) : o ||| 2 ^ k = o + 2 ^ k := by
  have key : ∀ k : Fin 5, ∀ o : Fin 32, (o : Nat) < 2 ^ (k : Nat) → (o : Nat) ||| 2 ^ (k : Nat) = o + 2 ^ (k : Nat) := by decide +kernel
  exact key ⟨k, hk⟩ ⟨o, Nat.lt_of_lt_of_le ho (pow_le_32 (by omega))⟩ ho

set_option maxHeartbeats 800000 in
theorem implIndices (v : Value) (ns : List Nat) (x : Nat) (w : World) (h : Rd w v (toI ns)) (hl : ns.length ≤ 5) (h32 : ∀ t ∈ ns, t < 32) (hx : x < 5) :
    Calls Try.prog 71 #[v, .int .i64 (x : Int)] w fun e w' => e = .returned (.int .i64 ((indTo ns x ns.length : Nat) : Int)) ∧ w' = w := by
  obtain ⟨a, b, off, cap, rfl, h1, h3, h5⟩ := h
  rw [toI_length] at *
  have H5 := Lib.hid h5
  have H1 := Lib.hid h1
  clear h5 h1
  have hp2 := two_pow_le x (by omega)
  go_enter Try.func71, Try.ntmps71
  go_wp2_with fail
  go_loop [5, 10] (fun o i => ∃ k : Nat, k ≤ ns.length ∧ i = .int .i64 k ∧ o = .int .i64 ((indTo ns x k : Nat) : Int)) (fun _ i => ns.length - (intOf i).toNat)
  case atStart => exact ⟨0, Nat.zero_le _, rfl, rfl⟩
  case round =>
    obtain ⟨k, hk, rfl, rfl⟩ := hrel
    by_cases hlt : k < ns.length
    · obtain ⟨rfl, hbl⟩ := H1.out (by omega)
      have hcx := H5.out k (by omega)
      rw [toI_getD] at hcx
      have ht := h32 _ (getD_of_lt hlt)
      have HS := Lib.hid (show indTo ns x (k + 1) = indTo ns x k + ns.getD k 0 / 2 ^ x % 2 * 2 ^ k from rfl)
      have hI := indTo_lt ns x k
      have hk32 := pow_le_32 (n := k) (by omega)
      have hpk := two_pow_le k (by omega)
      have hcast : ((2 ^ k : Nat) : Int) = (2 : Int) ^ k := by simp
      have HOR := Lib.hid (or_pow (by omega) hI)
      have hor : bits .or .i64 ((indTo ns x k : Nat) : Int) ((2 : Int) ^ k) = ((indTo ns x k + 2 ^ k : Nat) : Int) := by
        rw [← hcast, i64_or _ _ (by omega) (by omega), HOR.out]
      have hor0 : bits .or .i64 ((indTo ns x k : Nat) : Int) 0 = ((indTo ns x k : Nat) : Int) := by
        have := i64_or (indTo ns x k) 0 (by omega) (by omega)
        simpa using this
      generalize ns.getD k 0 = t at *
      have hand := shr_and1 t x ht hx
      rcases (show t / 2 ^ x % 2 = 0 ∨ t / 2 ^ x % 2 = 1 by omega) with e | e
      · rw [e] at hand
        have HS2 := Lib.hid (show indTo ns x (k + 1) = indTo ns x k by rw [HS.out, e]; omega)
        clear e HS
        generalize indTo ns x k = o at *
        go_wp2_with fail
        go_round
        case rel => exact ⟨k + 1, by omega, by go_num, by rw [HS2.out]⟩
        case measure => simp [intOf]; omega
      · rw [e] at hand
        have HS2 := Lib.hid (show indTo ns x (k + 1) = indTo ns x k + 2 ^ k by rw [HS.out, e]; omega)
        clear e HS
        generalize indTo ns x k = o at *
        go_wp2_with fail
        go_round
        case rel => exact ⟨k + 1, by omega, by go_num, by rw [HS2.out]; simp⟩
        case measure => simp [intOf]; omega
    · obtain rfl : k = ns.length := by omega
      go_wp2_with fail
      go_ret
      exact ⟨rfl, rfl⟩

def duN (n : Int) (zs : List Int) : Int := if vldB n zs = true ∧ zs.length ≤ 5 then zs.length else 0
/-- the sets of indices of the points -/
def dul (m : Nat) (ns : List Nat) : List Nat := (List.range m).map (fun x => indTo ns x ns.length)
def duL (n : Int) (zs : List Int) : List Int := if vldB n zs = true ∧ zs.length ≤ 5 then toI (tidyL (dul n.toNat (zs.map Int.toNat))) else []
theorem duL_len (n : Int) (zs : List Int) : (duL n zs).length ≤ 1048576 := by
  unfold duL
  split
  · rw [toI_length]
    have := flt_length (fun p => decide (p ∈ dul n.toNat (zs.map Int.toNat)))
    unfold tidyL
    omega
  · simp
theorem dul_lt {m : Nat} {ns : List Nat} {y : Nat} (h : y ∈ dul m ns) : y < 2 ^ ns.length := by
  obtain ⟨x, _, rfl⟩ := List.mem_map.1 h
  exact indTo_lt _ _ _

/-- is y the indices of one of the first k points? -/
def hasD (ns : List Nat) (k y : Nat) : Bool := decide (y ∈ dul k ns)
theorem hasD_succ (ns : List Nat) (k y : Nat) : hasD ns (k + 1) y = (decide (y = indTo ns k ns.length) || hasD ns k y) := by
  rw [Bool.eq_iff_iff]
  simp only [hasD, dul, List.range_succ, List.map_append, List.map_cons, List.map_nil, List.mem_append, List.mem_singleton, Bool.or_eq_true, decide_eq_true_eq]
  exact ⟨fun h => h.elim (fun h => .inr (decide_eq_true h)) .inl, fun h => h.elim .inr (fun h => .inl (of_decide_eq_true h))⟩

set_option maxHeartbeats 1600000 in
set_option maxRecDepth 100000 in
theorem implDualClass (n : Int) (v : Value) (zs : List Int) (w : World) (h : Rd w v zs) :
    Calls Try.prog 29 #[.agg #[.int .i64 n, v]] w (RetClass (duN n zs) (duL n zs) w) := by
  have H := Lib.hid h
  obtain ⟨a, b, off, cap, rfl, h1, h3, h5⟩ := h
  by_cases hv : vldB n zs = true
  · obtain ⟨m, ns, rfl, rfl, hc⟩ := vldB_cls hv
    have hm := hc.pts
    have HV := Lib.hid hv
    have hl := hc.length
    have HC := Lib.hid hc
    have HNN := Lib.hid (show duN m (toI ns) = if vldB m (toI ns) = true ∧ (toI ns).length ≤ 5 then ((toI ns).length : Int) else 0 from rfl)
    have HTT := Lib.hid (show duL m (toI ns) = if vldB m (toI ns) = true ∧ (toI ns).length ≤ 5 then toI (tidyL (dul (m : Int).toNat ((toI ns).map Int.toNat))) else [] from rfl)
    rw [toI_length] at h1 h3 h5 H HNN HTT ⊢
    rw [toNat_toI, Int.toNat_natCast] at HTT
    have H5 := Lib.hid h5
    have H1 := Lib.hid h1
    have hmm := @run_makeMap Try.prog
    have OB := Lib.hid (show Out m (.slice a ns.length cap) w.heap.size ((w.alloc (Obj.cells #[.int .i64 (m : Int), .slice a ns.length cap] 25)).alloc (Obj.cells #[.int .i64 0, .slice none 0 0] 25)) from ⟨by simp [go_sem], by simp [go_sem], by simp [go_sem], by simp [go_sem]⟩)
    have OR := Lib.hid (show Out 0 (.slice none 0 0) (w.heap.size + 1) ((w.alloc (Obj.cells #[.int .i64 (m : Int), .slice a ns.length cap] 25)).alloc (Obj.cells #[.int .i64 0, .slice none 0 0] 25)) from ⟨by simp [go_sem], by simp [go_sem], by simp [go_sem], by simp [go_sem]⟩)
    by_cases h5l : ns.length ≤ 5
    · have HN := Lib.hid (show duN m (toI ns) = (ns.length : Int) by rw [HNN.out, if_pos ⟨hv, h5l⟩])
      have HT := Lib.hid (show duL m (toI ns) = toI (tidyL (dul m ns)) by rw [HTT.out, if_pos ⟨hv, h5l⟩])
      have HR := Lib.hid (range_tidy h5l (l := dul m ns) (fun x hx => dul_lt hx))
      clear hv hc h1 h5 HNN HTT
      go_enter Try.func29, Try.ntmps29
      go_wp2_with fail
      refine (implValid m _ (toI ns) _ (H.out.below (k := w.heap.size) (by go_grown) (Nat.le_refl _))).mono ?_
      rintro e w1 ⟨rfl, hb⟩
      rw [HV.out]
      have hs1 : w.heap.size + 1 < w1.heap.size := by have := hb.size; simp at this; omega
      have OB1 := Lib.hid (OB.out.next hb (by simp only [World.size_alloc]; omega))
      have OR1 := Lib.hid (OR.out.next hb (by simp only [World.size_alloc]; omega))
      have HB1 := Lib.hid (show Below w.heap.size w w1 from Below.trans (by go_grown) (hb.mono (by simp; omega)))
      clear hb
      have c0 := OB1.out.at0
      have c1 := OB1.out.at1
      have cm := (OB1.out.next (show Below w1.heap.size w1 (w1.alloc (.map #[] 0)) from (Below.refl _ _).alloc (Nat.le_refl _) _) (by omega)).at0
      go_wp2_with fail
      clear c0 c1 cm
      go_loopw [18] (fun i wr => ∃ k : Nat, k ≤ m ∧ i = .int .i64 k ∧ Keys wr w1.heap.size k (hasD ns k) ∧ Below w1.heap.size w1 wr) (fun i _ => m - (intOf i).toNat)
      case atStart => exact ⟨0, Nat.zero_le _, rfl, (Keys.made w1).congr (fun _ _ => rfl), (Below.refl _ _).alloc (Nat.le_refl _) _⟩
      case round =>
        obtain ⟨k, hk, rfl, hks, hbe⟩ := hrel
        have HK := Lib.hid hks
        have HBE := Lib.hid hbe
        have OB2 := Lib.hid (OB1.out.next hbe (by omega))
        have OR2 := Lib.hid (OR1.out.next hbe hs1)
        have HRD := Lib.hid (H.out.below (HB1.out.trans (hbe.mono (by omega))) (Nat.le_refl _))
        clear hks hbe
        have d0 := OB2.out.at0
        have d1 := OB2.out.at1
        by_cases hlt : k < m
        · have HS := Lib.hid (hasD_succ ns k)
          have hz : indTo ns k ns.length < 32 := Nat.lt_of_lt_of_le (indTo_lt ns k ns.length) (pow_le_32 h5l)
          go_wp2_with fail
          refine (implIndices _ ns k _ HRD.out h5l HC.out.lt32 (by omega)).mono ?_
          rintro e w9 ⟨rfl, rfl⟩
          clear d0 d1
          generalize indTo ns k ns.length = z at *
          go_wp2_with (at_mapUpdate; refine wpList_keys_put _ rfl (.tmp 21) (.tmp 25) _ rfl w1.heap.size k _ rfl HK.out (by omega) z (by omega) rfl rfl ?_; intro w2 hk2 hg2)
          have HK2 := Lib.hid hk2
          have HB2 := Lib.hid (HBE.out.grown hg2 HBE.out.size (fun j hj => by cases hj; omega))
          clear hk2 hg2
          go_roundw
          case rel => exact ⟨k + 1, by omega, by go_num, HK2.out.congr (fun y _ => by rw [HS.out y]), HB2.out⟩
          case measure => simp [intOf]; omega
        · obtain rfl : k = m := by omega
          go_wp2_with fail
          refine (implClassOf ns.length h5l _ _ _ _ HK.out).mono ?_
          rintro e w4 ⟨a4, c4, rfl, hin4, hb4⟩
          rw [show (List.range (2 ^ ns.length)).filter (hasD ns k) = tidyL (dul k ns) from HR.out] at hin4 ⊢
          have hz4 := hb4.size
          have hz2 := HBE.out.size
          have OR4 := Lib.hid (OR2.out.next hb4 (by omega))
          have HIN := Lib.hid hin4
          have HB4 := Lib.hid (show Below w.heap.size w w4 from (HB1.out.trans (HBE.out.mono (by omega))).trans (hb4.mono (by omega)))
          clear hin4 hb4 d0 d1
          have r0 := OR4.out.at0
          have r1 := OR4.out.at1
          have q0 := OR4.out.free0
          have q1 := OR4.out.free1
          go_wp2_with fail
          refine bodyPost_ret (v := .agg #[.int .i64 (ns.length : Int), .slice a4 (toI (tidyL (dul k ns))).length c4]) (by simp [results, Try.results29, go_sem, r0, r1]) rfl ?_
          rw [HN.out, HT.out]
          refine ⟨a4, c4, rfl, ?_, ?_⟩
          · refine Ints.mono (B := _) ?_ (show w.heap.size ≤ wr.heap.size by omega)
            repeat (refine Ints.setCell_below ?_ (by simp; omega) _)
            exact HIN.out
          · have hb0 := HB4.out
            clear r0 r1 q0 q1
            go_grown
    · have HN := Lib.hid (show duN m (toI ns) = 0 by rw [HNN.out, if_neg (fun h => h5l h.2)])
      have HT := Lib.hid (show duL m (toI ns) = [] by rw [HTT.out, if_neg (fun h => h5l h.2)])
      clear hv hc h1 h5 HNN HTT
      go_enter Try.func29, Try.ntmps29
      go_wp2_with fail
      refine (implValid m _ (toI ns) _ (H.out.below (k := w.heap.size) (by go_grown) (Nat.le_refl _))).mono ?_
      rintro e w1 ⟨rfl, hb⟩
      rw [HV.out]
      have hs1 : w.heap.size + 1 < w1.heap.size := by have := hb.size; simp at this; omega
      have OB1 := Lib.hid (OB.out.next hb (by simp only [World.size_alloc]; omega))
      have OR1 := Lib.hid (OR.out.next hb (by simp only [World.size_alloc]; omega))
      have HB1 := Lib.hid (show Below w.heap.size w w1 from Below.trans (by go_grown) (hb.mono (by simp; omega)))
      clear hb
      have c0 := OB1.out.at0
      have c1 := OB1.out.at1
      have r0 := OR1.out.at0
      have r1 := OR1.out.at1
      have q0 := OR1.out.free0
      have q1 := OR1.out.free1
      go_wp2_with fail
      refine bodyPost_ret (v := .agg #[.int .i64 0, .slice none 0 0]) (by simp [results, Try.results29, go_sem, r0, r1]) rfl ?_
      rw [HN.out, HT.out]
      refine ⟨none, 0, rfl, Ints.nil _ _, ?_⟩
      have hb0 := HB1.out
      clear c0 c1 r0 r1 q0 q1
      go_grown
  · have HN := Lib.hid (show duN n zs = 0 by rw [duN, if_neg (fun h => hv h.1)])
    have HT := Lib.hid (show duL n zs = [] by rw [duL, if_neg (fun h => hv h.1)])
    rw [Bool.not_eq_true] at hv
    have HV := Lib.hid hv
    clear hv
    go_enter Try.func29, Try.ntmps29
    go_wp2_with fail
    refine (implValid n _ zs _ (H.out.below (k := w.heap.size) (by go_grown) (Nat.le_refl _))).mono ?_
    rintro e w1 ⟨rfl, hb⟩
    rw [HV.out]
    obtain ⟨hc, hf⟩ := bcell hb
    have Hb := Lib.hid hb
    clear hb
    go_wp2_with fail
    refine bodyPost_ret (v := .agg #[.int .i64 0, .slice none 0 0]) (by simp [results, Try.results29, go_sem, hc]) rfl ?_
    rw [HN.out, HT.out]
    refine ⟨none, 0, rfl, Ints.nil _ _, ?_⟩
    have hb0 : Below w.heap.size w w1 := Below.trans (by go_grown) (Hb.out.mono (by simp; omega))
    clear hc hf
    go_grown

end Go.Proofs.Ytgldckgecoijfaa
