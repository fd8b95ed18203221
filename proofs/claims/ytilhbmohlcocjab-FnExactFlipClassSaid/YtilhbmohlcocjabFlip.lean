/- The program's FlipClass. Conditions: Sets is a slice of ints. -/
import Derived.Test.YtilhbmohlcocjabClassOf
import Derived.Test.YtilhbmohlcocjabTraceS
import Derived.Test.YtilhbmohlcocjabArr2
import Derived.Test.YtilhbmohlcocjabCls
namespace Go.Proofs.Ytilhbmohlcocjab
open Go.RowKit

/-- is x what f makes of one of the first k of ns? -/
def hasF (f : Nat → Nat) (ns : List Nat) (k x : Nat) : Bool := (List.range k).any (fun j => f (ns.getD j 0) == x)
theorem hasF_succ (f : Nat → Nat) (ns : List Nat) (k x : Nat) : hasF f ns (k + 1) x = (decide (x = f (ns.getD k 0)) || hasF f ns k x) := by
  simp only [hasF, List.range_succ, List.any_append, List.any_cons, List.any_nil, Bool.or_false]
  rw [Bool.or_comm]
  congr 1
  rw [Bool.eq_iff_iff]
  simp
  exact eq_comm
theorem hasF_all (f : Nat → Nat) (ns : List Nat) (x : Nat) : hasF f ns ns.length x = decide (x ∈ ns.map f) := by
  rw [Bool.eq_iff_iff]
  simp only [hasF, List.any_eq_true, List.mem_range, beq_iff_eq, decide_eq_true_eq, List.mem_map]
  constructor
  · rintro ⟨j, hj, rfl⟩
    exact ⟨_, getD_of_lt hj, rfl⟩
  · rintro ⟨c, hm, rfl⟩
    obtain ⟨j, hj, e⟩ := List.getElem_of_mem hm
    exact ⟨j, hj, by rw [List.getD_eq_getElem?_getD, List.getElem?_eq_getElem hj]; show f ns[j] = f c; rw [e]⟩
theorem range_tidy {m : Nat} (hm : m ≤ 5) {l : List Nat} (hl : ∀ x ∈ l, x < 2 ^ m) : (List.range (2 ^ m)).filter (fun x => decide (x ∈ l)) = tidyL l := by
  unfold tidyL
  apply flt_of ((range_asc _).filter _)
  intro x
  have := pow_le_32 hm
  simp only [List.mem_filter, List.mem_range, decide_eq_true_eq]
  constructor
  · rintro ⟨h1, h2⟩
    exact ⟨by omega, h2⟩
  · rintro ⟨h1, h2⟩
    exact ⟨hl x h2, h2⟩

def flipN (n : Int) (zs : List Int) (s : Int) : Int := if inB n zs s = true then n else 0
def flipL (n : Int) (zs : List Int) (s : Int) : List Int := if inB n zs s = true then toI (tidyL ((zs.map Int.toNat).map (fun t => t ^^^ s.toNat))) else []

theorem flipL_len (n : Int) (zs : List Int) (s : Int) : (flipL n zs s).length ≤ 1048576 := by
  unfold flipL
  split
  · rw [toI_length]
    have := flt_length (fun p => decide (p ∈ (zs.map Int.toNat).map (fun t => t ^^^ s.toNat)))
    unfold tidyL
    omega
  · simp

set_option maxHeartbeats 1600000 in
set_option maxRecDepth 100000 in
theorem implFlipClass (n : Int) (v : Value) (zs : List Int) (s : Int) (w : World) (h : Rd w v zs) :
    Calls Try.prog 24 #[.agg #[.int .i64 n, v], .int .i64 s] w (RetClass (flipN n zs s) (flipL n zs s) w) := by
  have H := Lib.hid h
  obtain ⟨a, b, off, cap, rfl, h1, h3, h5⟩ := h
  by_cases hv : inB n zs s = true
  · have hv0 : vldB n zs = true := by simp [inB] at hv; exact hv.1
    obtain ⟨m, ns, rfl, rfl, hc⟩ := vldB_cls hv0
    have hm := hc.pts
    have hs : setB m s = true := by simp [inB] at hv; exact hv.2
    obtain ⟨t, rfl, ht, ht32⟩ := setB_nat hm hs
    have HN := Lib.hid (show flipN m (toI ns) t = m by rw [flipN, if_pos hv])
    have HT := Lib.hid (show flipL m (toI ns) t = toI (tidyL (ns.map (fun x => x ^^^ t))) by rw [flipL, if_pos hv, toNat_toI, Int.toNat_natCast])
    have HR := Lib.hid (range_tidy hm (l := ns.map (fun x => x ^^^ t)) (by
      intro x hx
      obtain ⟨y, hy, rfl⟩ := List.mem_map.1 hx
      exact Nat.xor_lt_two_pow (hc.lt y hy) ht))
    have HC := Lib.hid hc
    have hl := hc.length
    have HV := Lib.hid hv
    rw [toI_length] at h1 h3 h5 H ⊢
    have H5 := Lib.hid h5
    have H1 := Lib.hid h1
    have hmm := @run_makeMap Try.prog
    have OB := Lib.hid (show Out m (.slice a ns.length cap) w.heap.size ((w.alloc (Obj.cells #[.int .i64 (m : Int), .slice a ns.length cap] 27)).alloc (Obj.cells #[.int .i64 0, .slice none 0 0] 27)) from ⟨by simp [go_sem], by simp [go_sem], by simp [go_sem], by simp [go_sem]⟩)
    have OR := Lib.hid (show Out 0 (.slice none 0 0) (w.heap.size + 1) ((w.alloc (Obj.cells #[.int .i64 (m : Int), .slice a ns.length cap] 27)).alloc (Obj.cells #[.int .i64 0, .slice none 0 0] 27)) from ⟨by simp [go_sem], by simp [go_sem], by simp [go_sem], by simp [go_sem]⟩)
    clear hs hv hv0 hc h1 h5
    go_enter Try.func24, Try.ntmps24
    go_wp2_with fail
    refine (implIsSetOf m _ (toI ns) t _ (H.out.below (k := w.heap.size) (by go_grown) (Nat.le_refl _))).mono ?_
    rintro e w1 ⟨rfl, hb⟩
    rw [HV.out]
    have hs1 : w.heap.size + 1 < w1.heap.size := by have := hb.size; simp at this; omega
    have OB1 := Lib.hid (OB.out.next hb (by simp only [World.size_alloc]; omega))
    have OR1 := Lib.hid (OR.out.next hb (by simp only [World.size_alloc]; omega))
    have HB1 := Lib.hid (show Below w.heap.size w w1 from Below.trans (by go_grown) (hb.mono (by simp; omega)))
    clear hb
    have c0 := OB1.out.at0
    have c1 := OB1.out.at1
    have cm := (OB1.out.next (show Below w1.heap.size w1 (w1.alloc (.map #[] 0)) from (Below.refl _ _).alloc (Nat.le_refl _) _) (by omega)).at1
    go_wp2_with fail
    clear c0 c1 cm
    go_loopw [17] (fun i wr => ∃ k : Nat, k ≤ ns.length ∧ i = .int .i64 k ∧ Keys wr w1.heap.size k (hasF (fun x => x ^^^ t) ns k) ∧ Below w1.heap.size w1 wr) (fun i _ => ns.length - (intOf i).toNat)
    case atStart => exact ⟨0, Nat.zero_le _, rfl, (Keys.made w1).congr (fun _ _ => rfl), (Below.refl _ _).alloc (Nat.le_refl _) _⟩
    case round =>
      obtain ⟨k, hk, rfl, hks, hbe⟩ := hrel
      have HK := Lib.hid hks
      have HBE := Lib.hid hbe
      clear hks hbe
      by_cases hlt : k < ns.length
      · obtain ⟨rfl, hbl⟩ := H1.out (by omega)
        have hcx := (HBE.out.cell (p := ⟨b, off + k, none⟩) (by show b < w1.heap.size; omega)).trans ((HB1.out.cell (p := ⟨b, off + k, none⟩) hbl).trans (H5.out k (by omega)))
        rw [toI_getD] at hcx
        have hx := HC.out.lt32 _ (getD_of_lt hlt)
        have HS := Lib.hid (hasF_succ (fun x => x ^^^ t) ns k)
        generalize ns.getD k 0 = x at *
        have hxor := i64_xor x t (by omega) (by omega)
        have hz : x ^^^ t < 32 := Nat.xor_lt_two_pow (n := 5) hx ht32
        generalize x ^^^ t = z at *
        go_wp2_with (at_mapUpdate; refine wpList_keys_put _ rfl (.tmp 21) (.tmp 24) _ rfl w1.heap.size k _ rfl HK.out (by omega) z (by omega) rfl rfl ?_; intro w2 hk2 hg2)
        have HK2 := Lib.hid hk2
        have HB2 := Lib.hid (HBE.out.grown hg2 HBE.out.size (fun j hj => by cases hj; omega))
        clear hk2 hg2
        go_roundw
        case rel => exact ⟨k + 1, by omega, by go_num, HK2.out.congr (fun y _ => by rw [HS.out y]), HB2.out⟩
        case measure => simp [intOf]; omega
      · obtain rfl : k = ns.length := by omega
        have OB2 := Lib.hid (OB1.out.next HBE.out (by omega))
        have OR2 := Lib.hid (OR1.out.next HBE.out hs1)
        have d0 := OB2.out.at0
        have d1 := OB2.out.at1
        have HKK := Lib.hid (HK.out.congr (fun y _ => hasF_all (fun x => x ^^^ t) ns y))
        go_wp2_with fail
        refine (implClassOf m hm _ _ _ _ HKK.out).mono ?_
        rintro e w4 ⟨a4, c4, rfl, hin4, hb4⟩
        rw [HR.out] at hin4 ⊢
        have hz4 := hb4.size
        have hz2 := HBE.out.size
        have OR4 := Lib.hid (OR2.out.next hb4 (by omega))
        have HIN := Lib.hid hin4
        have HB4 := Lib.hid (show Below w.heap.size w w4 from (HB1.out.trans (HBE.out.mono (by omega))).trans (hb4.mono (by omega)))
        clear hin4 hb4 d0 d1
        have r0 := OR4.out.at0
        have r1 := OR4.out.at1
        have q0 := OR4.out.free0
        have q1 := OR4.out.free1
        go_wp2_with fail
        refine bodyPost_ret (v := .agg #[.int .i64 (m : Int), .slice a4 (toI (tidyL (ns.map (fun x => x ^^^ t)))).length c4]) (by simp [results, Try.results24, go_sem, r0, r1]) rfl ?_
        rw [HN.out, HT.out]
        refine ⟨a4, c4, rfl, ?_, ?_⟩
        · refine Ints.mono (B := _) ?_ (show w.heap.size ≤ wr.heap.size by omega)
          repeat (refine Ints.setCell_below ?_ (by simp; omega) _)
          exact HIN.out
        · have hb0 := HB4.out
          clear r0 r1 q0 q1
          go_grown
  · have HN := Lib.hid (show flipN n zs s = 0 by rw [flipN, if_neg hv])
    have HT := Lib.hid (show flipL n zs s = [] by rw [flipL, if_neg hv])
    rw [Bool.not_eq_true] at hv
    have HV := Lib.hid hv
    clear hv
    go_enter Try.func24, Try.ntmps24
    go_wp2_with fail
    refine (implIsSetOf n _ zs s _ (H.out.below (k := w.heap.size) (by go_grown) (Nat.le_refl _))).mono ?_
    rintro e w1 ⟨rfl, hb⟩
    rw [HV.out]
    obtain ⟨hc, hf⟩ := bcell hb
    have Hb := Lib.hid hb
    clear hb
    go_wp2_with fail
    refine bodyPost_ret (v := .agg #[.int .i64 0, .slice none 0 0]) (by simp [results, Try.results24, go_sem, hc]) rfl ?_
    rw [HN.out, HT.out]
    refine ⟨none, 0, rfl, Ints.nil _ _, ?_⟩
    have hb0 : Below w.heap.size w w1 := Below.trans (by go_grown) (Hb.out.mono (by simp; omega))
    clear hc hf
    go_grown

end Go.Proofs.Ytilhbmohlcocjab
