/- FnUnionClass's walk: unions shatter little more. Conditions: the code is a slice of bytes. -/
import Derived.Deep.Cut
import Derived.Deep.CutRange
import Derived.Deep.RegionHeld3
import Derived.Test.YtpcjecahplglfabComplS
import Derived.Test.YtpcjecahplglfabDrawsTw
import Derived.Test.YtpcjecahplglfabLawHc
import Derived.Test.YtpcjecahplglfabUni
import Derived.Test.YtpcjecahplglfabZC
import Derived.Test.YtpcjecahplglfabZD
import Derived.Test.YtpcjecahplglfabZG
import Derived.Test.YtpcjecahplglfabZJ
namespace Go.Proofs.Ytpcjecahplglfab
open Go.RowKit

theorem eqB_self (xs : List Int) : eqB xs xs = true := eqB_of rfl (fun _ _ => rfl)
theorem fil_or {p q r : Nat → Bool} (h : ∀ x, p x = true → q x = true ∨ r x = true) (l : List Nat) : (l.filter p).length ≤ (l.filter q).length + (l.filter r).length := by
  induction l with
  | nil => simp
  | cons x l ih =>
    have := h x
    cases hp : p x <;> cases hq : q x <;> cases hr : r x <;> simp [hp, hq, hr] at this ⊢ <;> omega
theorem tr_both {xs ys zs : List Nat} (h : ∀ t ∈ zs, t ∈ xs ∨ t ∈ ys) (s : Nat) : (tr zs s).length ≤ (tr xs s).length + (tr ys s).length := by
  unfold tr flt
  refine fil_or (fun p hp => ?_) _
  simp only [List.any_eq_true] at hp ⊢
  obtain ⟨t, ht, e⟩ := hp
  rcases h t ht with h1 | h1
  · exact .inl ⟨t, h1, e⟩
  · exact .inr ⟨t, h1, e⟩
theorem sauer_two {d : Nat} {a b : Int} (hd : d ≤ 5) (ha : -1 ≤ a ∧ a ≤ 5) (hb : -1 ≤ b ∧ b ≤ 5) (h : a + b + 1 < d) : sauerB d a + sauerB d b < (2 ^ d : Nat) := by
  have key : ∀ d : Fin 6, ∀ i j : Fin 7, ((i : Nat) : Int) - 1 + (((j : Nat) : Int) - 1) + 1 < ((d : Nat) : Int) → sauerB ((d : Nat) : Int) (((i : Nat) : Int) - 1) + sauerB ((d : Nat) : Int) (((j : Nat) : Int) - 1) < ((2 ^ (d : Nat) : Nat) : Int) := by decide +kernel
  have := key ⟨d, by omega⟩ ⟨(a + 1).toNat, by omega⟩ ⟨(b + 1).toNat, by omega⟩
  have e1 : (((a + 1).toNat : Nat) : Int) - 1 = a := by omega
  have e2 : (((b + 1).toNat : Nat) : Int) - 1 = b := by omega
  simp only [e1, e2] at this
  exact this h
theorem vc_two {m : Nat} {xs ys zs : List Nat} (hx : Cls m xs) (hy : Cls m ys) (h : ∀ t ∈ zs, t ∈ xs ∨ t ∈ ys) : vcL m zs ≤ vcL m xs + vcL m ys + 1 := by
  have ha := vcL_bd m xs
  have hb := vcL_bd m ys
  rcases widL_at ((List.range (2 ^ m)).filter (sht zs)) with e | ⟨s, hs, e⟩
  · have : vcL m zs = -1 := e
    omega
  · have hs2 := List.mem_range.1 (List.mem_filter.1 hs).1
    have hs3 := (List.mem_filter.1 hs).2
    rw [sht, decide_eq_true_eq] at hs3
    have ev : vcL m zs = pc s := e
    have h1 := tr_sauer hx hs2
    have h2 := tr_sauer hy hs2
    have h3 := tr_both h s
    rw [ev]
    by_cases hc : (pc s : Int) ≤ vcL m xs + vcL m ys + 1
    · exact hc
    · have := sauer_two (d := pc s) (pc_le5 s) ha hb (by omega)
      omega
theorem fil_two (xs ys l : List Nat) : (l.filter (fun x => decide (1 ≤ cnt2 xs ys x))).length + (l.filter (fun x => decide (2 ≤ cnt2 xs ys x))).length = (l.filter (inF xs)).length + (l.filter (inF ys)).length := by
  induction l with
  | nil => simp
  | cons x l ih =>
    by_cases h1 : x ∈ xs <;> by_cases h2 : x ∈ ys <;> simp [cnt2, inF, h1, h2] at ih ⊢ <;> omega
theorem uni_meet_len {m : Nat} {xs ys : List Nat} (hx : Cls m xs) (hy : Cls m ys) : (atL 1 m xs ys).length + (atL 2 m xs ys).length = xs.length + ys.length := by
  have := fil_two xs ys (List.range (2 ^ m))
  rw [hx.self, hy.self] at this
  exact this
theorem atL_in {m : Nat} {xs ys : List Nat} : ∀ t ∈ atL 1 m xs ys, t ∈ xs ∨ t ∈ ys := by
  intro t ht
  have h := of_decide_eq_true (List.mem_filter.1 ht).2
  by_cases h1 : t ∈ xs
  · exact .inl h1
  · by_cases h2 : t ∈ ys
    · exact .inr h2
    · simp [cnt2, h1, h2] at h

theorem atL_cls {m : Nat} {k : Int} {xs ys : List Nat} (hm : m ≤ 5) : Cls m (atL k m xs ys) := ⟨hm, (range_asc _).filter _, fun _ ht => List.mem_range.1 (List.mem_filter.1 ht).1⟩
theorem cmpl_meet {m : Nat} {ns ms : List Nat} : atL 1 m (cmpl m ns) (cmpl m ms) = cmpl m (atL 2 m ns ms) := by
  show List.filter (fun x => decide (1 ≤ cnt2 (cmpl m ns) (cmpl m ms) x)) (List.range (2 ^ m)) = List.filter (fun s => !decide (s ∈ atL 2 m ns ms)) (List.range (2 ^ m))
  apply List.filter_congr
  intro x hx
  have h1 : x ∈ cmpl m ns ↔ ¬ x ∈ ns := by rw [cmpl, List.mem_filter]; simp [List.mem_range.1 hx]
  have h2 : x ∈ cmpl m ms ↔ ¬ x ∈ ms := by rw [cmpl, List.mem_filter]; simp [List.mem_range.1 hx]
  have h3 : x ∈ atL 2 m ns ms ↔ x ∈ ns ∧ x ∈ ms := by
    rw [atL, List.mem_filter, decide_eq_true_eq]
    by_cases a : x ∈ ns <;> by_cases b : x ∈ ms <;> simp [cnt2, a, b, List.mem_range.1 hx]
  simp only [cnt2, h1, h2, h3]
  by_cases a : x ∈ ns <;> by_cases b : x ∈ ms <;> simp [a, b]


set_option maxHeartbeats 12800000 in
set_option maxRecDepth 100000 in
theorem walkFnUnionClass (a : Option Addr) (b off n cap : Nat) (w : World) (hc : n ≤ cap) (hcap : cap ≤ maxLen) (h : Byt w a b off n) :
    Calls Try.prog 4 #[.slice a n cap] w fun e w' => e = .returned (.bool true) ∧ Below w.heap.size w w' := by
  by_cases hn : n ≤ 1048576
  · have HD := Lib.hid (dDrawUnionClass a b off n cap w hc hn hcap h)
    clear h
    go_enter Try.func4, Try.ntmps4
    go_upto_region 3 with (fail)
    go_cut [3, 4] from 14 to 18 (fun p q wq => ∃ (N M : Int) (zs ys : List Int) (a1 b1 : Option Addr) (c1 d1 o1 o2 : Nat), p = .pointer (some ⟨o1, 0, none⟩) ∧ q = .pointer (some ⟨o2, 0, none⟩) ∧ (-8 ≤ N ∧ N ≤ 8 ∧ zs.length ≤ 34) ∧ (-8 ≤ M ∧ M ≤ 8 ∧ ys.length ≤ 34) ∧ Bx N (.slice a1 zs.length c1) o1 wq ∧ Bx M (.slice b1 ys.length d1) o2 wq ∧ Ints 0 wq (.slice a1 zs.length c1) zs ∧ Ints 0 wq (.slice b1 ys.length d1) ys ∧ Below w.heap.size w wq)
    case first =>
      go_wp2_with fail
      refine HD.out.mono ?_
      rintro e w1 ⟨N, M, zs, ys, a1, b1, c1, d1, rfl, hb1, hb2, h1, h2, hb⟩
      have I1 := Lib.hid (h1.mono (Nat.zero_le _))
      have I2 := Lib.hid (h2.mono (Nat.zero_le _))
      have B := Lib.hid hb
      have hbs := hb.size
      clear h1 h2 hb HD
      go_wp2_with fail
      go_meet
      exact ⟨N, M, zs, ys, a1, b1, c1, d1, _, _, rfl, rfl, hb1, hb2, (Bx.new _ _ _).alloc _, heap_alloc_at (by simp), (I1.out.alloc _).alloc _, (I2.out.alloc _).alloc _, (B.out.alloc hbs _).alloc (by simp; omega) _⟩
    case rest =>
      obtain ⟨N, M, zs, ys, a1, b1, c1, d1, o, p, rfl, rfl, hbd1, hbd2, hx1, hx2, h1, h2, hb⟩ := hcut
      obtain ⟨w2, rfl⟩ : ∃ w2, w2 = wc := ⟨_, rfl⟩
      have X := Lib.hid hx1
      have Y := Lib.hid hx2
      have I1 := Lib.hid h1
      have I2 := Lib.hid h2
      have B := Lib.hid hb
      clear hx1 hx2 h1 h2 hb HD
      by_cases hv : twoB N zs M ys = true
      · have hv' := hv
        simp only [twoB, Bool.and_eq_true, decide_eq_true_eq] at hv'
        obtain ⟨hva, hvb, hMN⟩ := hv'
        subst hMN
        obtain ⟨m, ns, rfl, rfl, hca⟩ := vldB_cls hva
        obtain ⟨m', ms, hm', rfl, hcb⟩ := vldB_cls hvb
        obtain rfl : m = m' := by omega
        have hm := hca.pts
        obtain ⟨R, hR⟩ : ∃ R, R = atL 1 m ns ms := ⟨_, rfl⟩
        have hcR : Cls m R := by rw [hR]; exact atL_cls hm
        have hvR := cls_vldB hcR
        have eN : iaN (m : Int) (toI ns) (m : Int) (toI ms) = m := by rw [iaN, if_pos hv]
        have eC : iaL 1 (m : Int) (toI ns) (m : Int) (toI ms) = toI R := by rw [iaL, if_pos hv, toNat_toI, toNat_toI, Int.toNat_natCast, hR]
        have HI := Lib.hid (fun va vb w ha hb => implUnionClass (m : Int) va (toI ns) (m : Int) vb (toI ms) w ha hb)
        have HS := Lib.hid (fun va vb w ha hb => specUnionClass (m : Int) va (toI ns) (m : Int) vb (toI ms) w ha hb)
        rw [eN, eC, hv] at HI HS
        obtain ⟨ML, hML⟩ : ∃ ML, ML = atL 2 m ns ms := ⟨_, rfl⟩
        have hq := uni_meet_len hca hcb
        rw [← hR, ← hML] at hq
        have hvc := vc_two hca hcb (zs := R) (by rw [hR]; exact atL_in)
        have hv1 := vcL_bd m R
        have hv2 := vcL_bd m ns
        have hv3 := vcL_bd m ms
        have HM := Lib.hid (fun va vb w ha hb => implMeetClass (m : Int) va (toI ns) (m : Int) vb (toI ms) w ha hb)
        rw [show iaN (m : Int) (toI ns) (m : Int) (toI ms) = m by rw [iaN, if_pos hv], show iaL 2 (m : Int) (toI ns) (m : Int) (toI ms) = toI ML by rw [iaL, if_pos hv, toNat_toI, toNat_toI, Int.toNat_natCast, hML], hv] at HM
        have HVU := Lib.hid (fun v w h => implVCDimension (m : Int) v (toI R) w h)
        have HVA := Lib.hid (fun v w h => implVCDimension (m : Int) v (toI ns) w h)
        have HVB := Lib.hid (fun v w h => implVCDimension (m : Int) v (toI ms) w h)
        rw [vcB_in hvR] at HVU
        rw [vcB_in hva] at HVA
        rw [vcB_in hvb] at HVB
        rw [← toI_length R, ← toI_length ML, ← toI_length ns, ← toI_length ms] at hq
        generalize vcL m R = vu at *
        generalize vcL m ns = vx at *
        generalize vcL m ms = vy at *
        clear hv hva hvb hcR hvR eN eC hR hca hcb hML
        generalize toI ns = zs at *
        generalize toI ms = ys at *
        generalize toI R = RL at *
        generalize toI ML = MM at *
        obtain ⟨q, hqe⟩ : ∃ q : Nat, q = zs.length + ys.length := ⟨_, rfl⟩
        have hs1 : (RL.length : Int) + (MM.length : Int) = (q : Int) := by omega
        have hs2 : (zs.length : Int) + (ys.length : Int) = (q : Int) := by omega
        have hwq : IntKind.i64.wrap (q : Int) = (q : Int) := by rw [IntKind.wrap_i64]; omega
        have hw1 : IntKind.i64.wrap (vx + vy) = vx + vy := by rw [IntKind.wrap_i64]; omega
        have hw2 : IntKind.i64.wrap (vx + vy + 1) = vx + vy + 1 := by rw [IntKind.wrap_i64]; omega
        clear hqe hq
        have x0 := X.out.out.at0
        have x1 := X.out.out.at1
        have y0 := Y.out.out.at0
        have y1 := Y.out.out.at1
        go_wp2_with fail
        clear x0 x1 y0 y1
        refine (HI.out _ _ _ I1.out.rd I2.out.rd).mono ?_
        rintro e w3 ⟨a3, c3, rfl, hin3, hb3⟩
        have hz3 := hb3.size
        replace X := Lib.hid (X.out.next hb3 X.out.lt)
        replace Y := Lib.hid (Y.out.next hb3 Y.out.lt)
        replace I1 := Lib.hid (I1.out.below hb3 (Nat.le_refl _))
        replace I2 := Lib.hid (I2.out.below hb3 (Nat.le_refl _))
        replace B := Lib.hid (B.out.trans (hb3.mono B.out.size))
        have IR := Lib.hid (hin3.mono (Nat.zero_le _))
        clear hin3 hb3
        have Z := Lib.hid (Bx.new (m : Int) (.slice a3 RL.length c3) w3)
        replace X := Lib.hid (X.out.alloc (Obj.cells #[.int .i64 (m : Int), .slice a3 RL.length c3] 26))
        replace Y := Lib.hid (Y.out.alloc (Obj.cells #[.int .i64 (m : Int), .slice a3 RL.length c3] 26))
        replace I1 := Lib.hid (I1.out.alloc (Obj.cells #[.int .i64 (m : Int), .slice a3 RL.length c3] 26))
        replace I2 := Lib.hid (I2.out.alloc (Obj.cells #[.int .i64 (m : Int), .slice a3 RL.length c3] 26))
        replace IR := Lib.hid (IR.out.alloc (Obj.cells #[.int .i64 (m : Int), .slice a3 RL.length c3] 26))
        replace B := Lib.hid (B.out.alloc B.out.size (Obj.cells #[.int .i64 (m : Int), .slice a3 RL.length c3] 26))
        have x0 := X.out.out.at0
        have x1 := X.out.out.at1
        have y0 := Y.out.out.at0
        have y1 := Y.out.out.at1
        go_wp2_with fail
        clear x0 x1 y0 y1
        generalize (w3.alloc (Obj.cells #[.int .i64 (m : Int), .slice a3 RL.length c3] 26)) = w4 at *
        generalize ho3 : w3.heap.size = o3 at *
        refine (HS.out _ _ _ ⟨_, I1.out⟩ ⟨_, I2.out⟩).mono ?_
        rintro e w5 ⟨a5, c5, rfl, hin5, hb5⟩
        have hz5 := hb5.size
        replace X := Lib.hid (X.out.next hb5 X.out.lt)
        replace Y := Lib.hid (Y.out.next hb5 Y.out.lt)
        replace Z := Lib.hid (Z.out.next hb5 Z.out.lt)
        replace I1 := Lib.hid (I1.out.below hb5 (Nat.le_refl _))
        replace I2 := Lib.hid (I2.out.below hb5 (Nat.le_refl _))
        replace IR := Lib.hid (IR.out.below hb5 (Nat.le_refl _))
        replace B := Lib.hid (B.out.trans (hb5.mono B.out.size))
        have IS := Lib.hid (hin5.mono (Nat.zero_le _))
        clear hin5 hb5
        have V := Lib.hid (Bx.new (m : Int) (.slice a5 RL.length c5) w5)
        replace X := Lib.hid (X.out.alloc (Obj.cells #[.int .i64 (m : Int), .slice a5 RL.length c5] 26))
        replace Y := Lib.hid (Y.out.alloc (Obj.cells #[.int .i64 (m : Int), .slice a5 RL.length c5] 26))
        replace Z := Lib.hid (Z.out.alloc (Obj.cells #[.int .i64 (m : Int), .slice a5 RL.length c5] 26))
        replace I1 := Lib.hid (I1.out.alloc (Obj.cells #[.int .i64 (m : Int), .slice a5 RL.length c5] 26))
        replace I2 := Lib.hid (I2.out.alloc (Obj.cells #[.int .i64 (m : Int), .slice a5 RL.length c5] 26))
        replace IR := Lib.hid (IR.out.alloc (Obj.cells #[.int .i64 (m : Int), .slice a5 RL.length c5] 26))
        replace IS := Lib.hid (IS.out.alloc (Obj.cells #[.int .i64 (m : Int), .slice a5 RL.length c5] 26))
        replace B := Lib.hid (B.out.alloc B.out.size (Obj.cells #[.int .i64 (m : Int), .slice a5 RL.length c5] 26))
        have x0 := X.out.out.at0
        have x1 := X.out.out.at1
        have y0 := Y.out.out.at0
        have y1 := Y.out.out.at1
        have z0 := Z.out.out.at0
        have z1 := Z.out.out.at1
        go_wp2_with fail
        clear x0 x1 y0 y1 z0 z1
        generalize (w5.alloc (Obj.cells #[.int .i64 (m : Int), .slice a5 RL.length c5] 26)) = w6 at *
        generalize ho4 : w5.heap.size = o4 at *
        refine (lawsEqualClass _ _ _ _ _ _ _ _ IR.out.rd IS.out.rd).mono ?_
        rintro e w7 ⟨rfl, hb7⟩
        have hz7 := hb7.size
        replace X := Lib.hid (X.out.next hb7 X.out.lt)
        replace Y := Lib.hid (Y.out.next hb7 Y.out.lt)
        replace Z := Lib.hid (Z.out.next hb7 Z.out.lt)
        replace V := Lib.hid (V.out.next hb7 V.out.lt)
        replace I1 := Lib.hid (I1.out.below hb7 (Nat.le_refl _))
        replace I2 := Lib.hid (I2.out.below hb7 (Nat.le_refl _))
        replace IR := Lib.hid (IR.out.below hb7 (Nat.le_refl _))
        replace IS := Lib.hid (IS.out.below hb7 (Nat.le_refl _))
        replace B := Lib.hid (B.out.trans (hb7.mono B.out.size))
        clear hb7
        have x0 := X.out.out.at0
        have x1 := X.out.out.at1
        have y0 := Y.out.out.at0
        have y1 := Y.out.out.at1
        have z0 := Z.out.out.at0
        have z1 := Z.out.out.at1
        have v0 := V.out.out.at0
        have v1 := V.out.out.at1
        go_wp2_with fail
        clear x0 x1 y0 y1 z0 z1 v0 v1
        clear HI HS IS V
        have x0 := X.out.out.at0
        have x1 := X.out.out.at1
        have y0 := Y.out.out.at0
        have y1 := Y.out.out.at1
        have z0 := Z.out.out.at0
        have z1 := Z.out.out.at1
        go_wp2_with fail
        clear x0 x1 y0 y1 z0 z1
        refine (HM.out _ _ _ I1.out.rd I2.out.rd).mono ?_
        rintro e w8 ⟨a8, c8, rfl, hin8, hb8⟩
        have hz8 := hb8.size
        replace X := Lib.hid (X.out.next hb8 X.out.lt)
        replace Y := Lib.hid (Y.out.next hb8 Y.out.lt)
        replace Z := Lib.hid (Z.out.next hb8 Z.out.lt)
        replace I1 := Lib.hid (I1.out.below hb8 (Nat.le_refl _))
        replace I2 := Lib.hid (I2.out.below hb8 (Nat.le_refl _))
        replace IR := Lib.hid (IR.out.below hb8 (Nat.le_refl _))
        replace B := Lib.hid (B.out.trans (hb8.mono B.out.size))
        have IU := Lib.hid (hin8.mono (Nat.zero_le _))
        clear hin8 hb8
        have U := Lib.hid (Bx.new (m : Int) (.slice a8 MM.length c8) w8)
        replace X := Lib.hid (X.out.alloc (Obj.cells #[.int .i64 (m : Int), .slice a8 MM.length c8] 26))
        replace Y := Lib.hid (Y.out.alloc (Obj.cells #[.int .i64 (m : Int), .slice a8 MM.length c8] 26))
        replace Z := Lib.hid (Z.out.alloc (Obj.cells #[.int .i64 (m : Int), .slice a8 MM.length c8] 26))
        replace I1 := Lib.hid (I1.out.alloc (Obj.cells #[.int .i64 (m : Int), .slice a8 MM.length c8] 26))
        replace I2 := Lib.hid (I2.out.alloc (Obj.cells #[.int .i64 (m : Int), .slice a8 MM.length c8] 26))
        replace IR := Lib.hid (IR.out.alloc (Obj.cells #[.int .i64 (m : Int), .slice a8 MM.length c8] 26))
        replace IU := Lib.hid (IU.out.alloc (Obj.cells #[.int .i64 (m : Int), .slice a8 MM.length c8] 26))
        replace B := Lib.hid (B.out.alloc B.out.size (Obj.cells #[.int .i64 (m : Int), .slice a8 MM.length c8] 26))
        have x0 := X.out.out.at0
        have x1 := X.out.out.at1
        have y0 := Y.out.out.at0
        have y1 := Y.out.out.at1
        have z0 := Z.out.out.at0
        have z1 := Z.out.out.at1
        go_wp2_with fail
        clear x0 x1 y0 y1 z0 z1
        generalize (w8.alloc (Obj.cells #[.int .i64 (m : Int), .slice a8 MM.length c8] 26)) = w9 at *
        generalize ho5 : w8.heap.size = o5 at *
        have x0 := X.out.out.at0
        have x1 := X.out.out.at1
        have y0 := Y.out.out.at0
        have y1 := Y.out.out.at1
        have z0 := Z.out.out.at0
        have z1 := Z.out.out.at1
        have u0 := U.out.out.at0
        have u1 := U.out.out.at1
        go_wp2_with fail
        refine wp_region_held_drew (S := fun w' => w'.cell? ⟨o, 0, none⟩ = some (Value.int .i64 (m : Int)) ∧ w'.cell? ⟨o, 1, none⟩ = some (.slice a1 zs.length c1) ∧ w'.cell? ⟨p, 0, none⟩ = some (Value.int .i64 (m : Int)) ∧ w'.cell? ⟨p, 1, none⟩ = some (.slice b1 ys.length d1) ∧ w'.cell? ⟨o3, 0, none⟩ = some (Value.int .i64 (m : Int)) ∧ w'.cell? ⟨o3, 1, none⟩ = some (.slice a3 RL.length c3) ∧ w'.cell? ⟨o5, 0, none⟩ = some (Value.int .i64 (m : Int)) ∧ w'.cell? ⟨o5, 1, none⟩ = some (.slice a8 MM.length c8)) (by kernel_rfl) (by first | exact ⟨x0, x1, y0, y1, z0, z1, u0, u1⟩ | go_keep) (fun hHeld => ?_)
        refine wpAnyH_take (i := 0) (v := ?_) rfl (by kernel_rfl) (by kernel_rfl) (by kernel_rfl) (fun _ _ _ h => h) (Or.inl ⟨by rfl, ?_⟩) (by assumption) ?_
        rotate_left
        · (intro w hSw; (try dsimp only at hSw); go_simp; try with_reducible rfl)
        try simp only [List.getElem_toArray, List.getElem_cons_zero, Act.put, List.setIfInBounds_toArray, List.set_cons_zero, List.set_cons_succ]
        refine wpAnyH_take (i := 1) (v := ?_) rfl (by kernel_rfl) (by kernel_rfl) (by kernel_rfl) (fun _ _ _ h => h) (Or.inl ⟨by rfl, ?_⟩) (by assumption) ?_
        rotate_left
        · (intro w hSw; (try dsimp only at hSw); go_simp; try with_reducible rfl)
        try simp only [List.getElem_toArray, List.getElem_cons_zero, List.getElem_cons_succ, Act.put, List.setIfInBounds_toArray, List.set_cons_zero, List.set_cons_succ]
        refine wpAnyH_take (i := 2) (v := ?_) rfl (by kernel_rfl) (by kernel_rfl) (by kernel_rfl) (fun _ _ _ h => h) (Or.inl ⟨by rfl, ?_⟩) (by assumption) ?_
        rotate_left
        · (intro w hSw; (try dsimp only at hSw); go_simp; try with_reducible rfl)
        try simp only [List.getElem_toArray, List.getElem_cons_zero, List.getElem_cons_succ, Act.put, List.setIfInBounds_toArray, List.set_cons_zero, List.set_cons_succ]
        refine wpAnyH_take (i := 3) (v := ?_) rfl (by kernel_rfl) (by kernel_rfl) (by kernel_rfl) (fun _ _ _ h => h) (Or.inl ⟨by rfl, ?_⟩) (by assumption) ?_
        rotate_left
        · (intro w hSw; (try dsimp only at hSw); go_simp; try with_reducible rfl)
        try simp only [List.getElem_toArray, List.getElem_cons_zero, List.getElem_cons_succ, Act.put, List.setIfInBounds_toArray, List.set_cons_zero, List.set_cons_succ]
        refine wpAnyH_take (i := 4) (v := ?_) rfl (by kernel_rfl) (by kernel_rfl) (by kernel_rfl) (fun _ _ _ h => h) (Or.inl ⟨by rfl, ?_⟩) (by assumption) ?_
        rotate_left
        · (intro w hSw; (try dsimp only at hSw); go_simp; try with_reducible rfl)
        try simp only [List.getElem_toArray, List.getElem_cons_zero, List.getElem_cons_succ, Act.put, List.setIfInBounds_toArray, List.set_cons_zero, List.set_cons_succ]
        refine wpAnyH_take (i := 5) (v := ?_) rfl (by kernel_rfl) (by kernel_rfl) (by kernel_rfl) (fun _ _ _ h => h) (Or.inl ⟨by rfl, ?_⟩) (by assumption) ?_
        rotate_left
        · (intro w hSw; (try dsimp only at hSw); go_simp; try with_reducible rfl)
        try simp only [List.getElem_toArray, List.getElem_cons_zero, List.getElem_cons_succ, Act.put, List.setIfInBounds_toArray, List.set_cons_zero, List.set_cons_succ]
        refine wpAnyH_take (i := 6) (v := ?_) rfl (by kernel_rfl) (by kernel_rfl) (by kernel_rfl) (fun _ _ _ h => h) (Or.inl ⟨by rfl, ?_⟩) (by assumption) ?_
        rotate_left
        · (intro w hSw; (try dsimp only at hSw); go_simp; try with_reducible rfl)
        try simp only [List.getElem_toArray, List.getElem_cons_zero, List.getElem_cons_succ, Act.put, List.setIfInBounds_toArray, List.set_cons_zero, List.set_cons_succ]
        refine wpAnyH_take (i := 7) (v := ?_) rfl (by kernel_rfl) (by kernel_rfl) (by kernel_rfl) (fun _ _ _ h => h) (Or.inl ⟨by rfl, ?_⟩) (by assumption) ?_
        rotate_left
        · (intro w hSw; (try dsimp only at hSw); go_simp; try with_reducible rfl)
        try simp only [List.getElem_toArray, List.getElem_cons_zero, List.getElem_cons_succ, Act.put, List.setIfInBounds_toArray, List.set_cons_zero, List.set_cons_succ]
        refine wpAnyH_take (i := 8) (v := ?_) rfl (by kernel_rfl) (by kernel_rfl) (by kernel_rfl) (fun _ _ _ h => h) (Or.inl ⟨by rfl, ?_⟩) (by assumption) ?_
        rotate_left
        · (intro w hSw; (try dsimp only at hSw); go_simp; (try rw [hs1, hwq]); try with_reducible rfl)
        try simp only [List.getElem_toArray, List.getElem_cons_zero, List.getElem_cons_succ, Act.put, List.setIfInBounds_toArray, List.set_cons_zero, List.set_cons_succ]
        refine wpAnyH_take (i := 9) (v := ?_) rfl (by kernel_rfl) (by kernel_rfl) (by kernel_rfl) (fun _ _ _ h => h) (Or.inl ⟨by rfl, ?_⟩) (by assumption) ?_
        rotate_left
        · (intro w hSw; (try dsimp only at hSw); go_simp; try with_reducible rfl)
        try simp only [List.getElem_toArray, List.getElem_cons_zero, List.getElem_cons_succ, Act.put, List.setIfInBounds_toArray, List.set_cons_zero, List.set_cons_succ]
        refine wpAnyH_take (i := 10) (v := ?_) rfl (by kernel_rfl) (by kernel_rfl) (by kernel_rfl) (fun _ _ _ h => h) (Or.inl ⟨by rfl, ?_⟩) (by assumption) ?_
        rotate_left
        · (intro w hSw; (try dsimp only at hSw); go_simp; try with_reducible rfl)
        try simp only [List.getElem_toArray, List.getElem_cons_zero, List.getElem_cons_succ, Act.put, List.setIfInBounds_toArray, List.set_cons_zero, List.set_cons_succ]
        refine wpAnyH_take (i := 11) (v := ?_) rfl (by kernel_rfl) (by kernel_rfl) (by kernel_rfl) (fun _ _ _ h => h) (Or.inl ⟨by rfl, ?_⟩) (by assumption) ?_
        rotate_left
        · (intro w hSw; (try dsimp only at hSw); go_simp; try with_reducible rfl)
        try simp only [List.getElem_toArray, List.getElem_cons_zero, List.getElem_cons_succ, Act.put, List.setIfInBounds_toArray, List.set_cons_zero, List.set_cons_succ]
        refine wpAnyH_take (i := 12) (v := ?_) rfl (by kernel_rfl) (by kernel_rfl) (by kernel_rfl) (fun _ _ _ h => h) (Or.inl ⟨by rfl, ?_⟩) (by assumption) ?_
        rotate_left
        · (intro w hSw; (try dsimp only at hSw); go_simp; try with_reducible rfl)
        try simp only [List.getElem_toArray, List.getElem_cons_zero, List.getElem_cons_succ, Act.put, List.setIfInBounds_toArray, List.set_cons_zero, List.set_cons_succ]
        refine wpAnyH_take (i := 13) (v := ?_) rfl (by kernel_rfl) (by kernel_rfl) (by kernel_rfl) (fun _ _ _ h => h) (Or.inl ⟨by rfl, ?_⟩) (by assumption) ?_
        rotate_left
        · (intro w hSw; (try dsimp only at hSw); go_simp; try with_reducible rfl)
        try simp only [List.getElem_toArray, List.getElem_cons_zero, List.getElem_cons_succ, Act.put, List.setIfInBounds_toArray, List.set_cons_zero, List.set_cons_succ]
        refine wpAnyH_take (i := 14) (v := ?_) rfl (by kernel_rfl) (by kernel_rfl) (by kernel_rfl) (fun _ _ _ h => h) (Or.inl ⟨by rfl, ?_⟩) (by assumption) ?_
        rotate_left
        · (intro w hSw; (try dsimp only at hSw); go_simp; try with_reducible rfl)
        try simp only [List.getElem_toArray, List.getElem_cons_zero, List.getElem_cons_succ, Act.put, List.setIfInBounds_toArray, List.set_cons_zero, List.set_cons_succ]
        refine wpAnyH_take (i := 15) (v := ?_) rfl (by kernel_rfl) (by kernel_rfl) (by kernel_rfl) (fun _ _ _ h => h) (Or.inl ⟨by rfl, ?_⟩) (by assumption) ?_
        rotate_left
        · (intro w hSw; (try dsimp only at hSw); go_simp; (try rw [hs2, hwq]); try with_reducible rfl)
        try simp only [List.getElem_toArray, List.getElem_cons_zero, List.getElem_cons_succ, Act.put, List.setIfInBounds_toArray, List.set_cons_zero, List.set_cons_succ]
        refine wpAnyH_take (i := 16) (v := ?_) rfl (by kernel_rfl) (by kernel_rfl) (by kernel_rfl) (fun _ _ _ h => h) (Or.inl ⟨by rfl, ?_⟩) (by assumption) ?_
        rotate_left
        · (intro w hSw; (try dsimp only at hSw); go_simp; try with_reducible rfl)
        try simp only [List.getElem_toArray, List.getElem_cons_zero, List.getElem_cons_succ, Act.put, List.setIfInBounds_toArray, List.set_cons_zero, List.set_cons_succ]
        refine wpAnyH_take (i := 17) (v := ?_) rfl (by kernel_rfl) (by kernel_rfl) (by kernel_rfl) (fun _ _ _ h => h) (Or.inl ⟨by rfl, ?_⟩) (by assumption) ?_
        rotate_left
        · (intro w hSw; (try dsimp only at hSw); go_simp; try with_reducible rfl)
        try simp only [List.getElem_toArray, List.getElem_cons_zero, List.getElem_cons_succ, Act.put, List.setIfInBounds_toArray, List.set_cons_zero, List.set_cons_succ]
        refine wpAnyH_take (i := 18) (v := ?_) rfl (by kernel_rfl) (by kernel_rfl) (by kernel_rfl) (fun _ _ _ h => h) (Or.inl ⟨by rfl, ?_⟩) (by assumption) ?_
        rotate_left
        · (intro w hSw; (try dsimp only at hSw); go_simp; try with_reducible rfl)
        try simp only [List.getElem_toArray, List.getElem_cons_zero, List.getElem_cons_succ, Act.put, List.setIfInBounds_toArray, List.set_cons_zero, List.set_cons_succ]
        refine wpAnyH_take (i := 19) (v := ?_) rfl (by kernel_rfl) (by kernel_rfl) (by kernel_rfl) (fun _ _ _ h => h) (Or.inl ⟨by rfl, ?_⟩) (by assumption) ?_
        rotate_left
        · (intro w hSw; (try dsimp only at hSw); go_simp; try with_reducible rfl)
        try simp only [List.getElem_toArray, List.getElem_cons_zero, List.getElem_cons_succ, Act.put, List.setIfInBounds_toArray, List.set_cons_zero, List.set_cons_succ]
        refine wpAnyH_take (i := 21) (v := ?_) rfl (by kernel_rfl) (by kernel_rfl) (by kernel_rfl) (fun _ _ _ h => h) (Or.inl ⟨by rfl, ?_⟩) (by assumption) ?_
        rotate_left
        · (intro w hSw; (try dsimp only at hSw); go_simp; try with_reducible rfl)
        try simp only [List.getElem_toArray, List.getElem_cons_zero, List.getElem_cons_succ, Act.put, List.setIfInBounds_toArray, List.set_cons_zero, List.set_cons_succ]
        refine wpAnyH_take (i := 23) (v := ?_) rfl (by kernel_rfl) (by kernel_rfl) (by kernel_rfl) (fun _ _ _ h => h) (Or.inl ⟨by rfl, ?_⟩) (by assumption) ?_
        rotate_left
        · (intro w hSw; (try dsimp only at hSw); go_simp; try with_reducible rfl)
        try simp only [List.getElem_toArray, List.getElem_cons_zero, List.getElem_cons_succ, Act.put, List.setIfInBounds_toArray, List.set_cons_zero, List.set_cons_succ]
        refine wpAnyH_ready (rs := [20]) (by kernel_rfl) (by simp) ?_
        refine AllReadyH.cons rfl (fun K hK => ?_) AllReadyH.nil
        try simp only [List.getElem_toArray]
        go_simp
        (go_at_call 22; refine (HVU.out _ _ (by first | exact IR.out.rd | exact IR.out.rd.below (k := w9.heap.size) ((Below.refl _ _).drew) (Nat.le_refl _))).mono ?_; rintro e w10 ⟨rfl, hbd⟩; have hb10 : Below w9.heap.size w9 w10 := (by first | exact hbd | exact ⟨hbd.os, hbd.tape, hbd.output, hbd.size, hbd.block⟩); clear hbd; have hz10 := hb10.size; replace X := Lib.hid (X.out.next hb10 X.out.lt); replace Y := Lib.hid (Y.out.next hb10 Y.out.lt); replace Z := Lib.hid (Z.out.next hb10 Z.out.lt); replace U := Lib.hid (U.out.next hb10 U.out.lt); replace I1 := Lib.hid (I1.out.below hb10 (Nat.le_refl _)); replace I2 := Lib.hid (I2.out.below hb10 (Nat.le_refl _)); replace IR := Lib.hid (IR.out.below hb10 (Nat.le_refl _)); replace IU := Lib.hid (IU.out.below hb10 (Nat.le_refl _)); replace B := Lib.hid (B.out.trans (hb10.mono B.out.size)); clear hb10; have x0_10 := X.out.out.at0; have x1_10 := X.out.out.at1; have y0_10 := Y.out.out.at0; have y1_10 := Y.out.out.at1; have z0_10 := Z.out.out.at0; have z1_10 := Z.out.out.at1; have u0_10 := U.out.out.at0; have u1_10 := U.out.out.at1)
        refine hK.out _ _ (by first | exact ⟨x0_10, x1_10, y0_10, y1_10, z0_10, z1_10, u0_10, u1_10⟩ | exact ⟨x0, x1, y0, y1, z0, z1, u0, u1⟩ | go_keep) (fun hHeld => ?_)
        clear hK K
        try simp only [List.getElem_toArray, List.getElem_cons_zero, List.getElem_cons_succ, Act.put, List.setIfInBounds_toArray, List.set_cons_zero, List.set_cons_succ]
        refine wpAnyH_ready (rs := [22]) (by kernel_rfl) (by simp) ?_
        refine AllReadyH.cons rfl (fun K hK => ?_) AllReadyH.nil
        try simp only [List.getElem_toArray]
        go_simp
        (go_at_call 22; refine (HVA.out _ _ (by first | exact I1.out.rd | exact I1.out.rd.below (k := w10.heap.size) ((Below.refl _ _).drew) (Nat.le_refl _))).mono ?_; rintro e w11 ⟨rfl, hbd⟩; have hb11 : Below w10.heap.size w10 w11 := (by first | exact hbd | exact ⟨hbd.os, hbd.tape, hbd.output, hbd.size, hbd.block⟩); clear hbd; have hz11 := hb11.size; replace X := Lib.hid (X.out.next hb11 X.out.lt); replace Y := Lib.hid (Y.out.next hb11 Y.out.lt); replace Z := Lib.hid (Z.out.next hb11 Z.out.lt); replace U := Lib.hid (U.out.next hb11 U.out.lt); replace I1 := Lib.hid (I1.out.below hb11 (Nat.le_refl _)); replace I2 := Lib.hid (I2.out.below hb11 (Nat.le_refl _)); replace IR := Lib.hid (IR.out.below hb11 (Nat.le_refl _)); replace IU := Lib.hid (IU.out.below hb11 (Nat.le_refl _)); replace B := Lib.hid (B.out.trans (hb11.mono B.out.size)); clear hb11; have x0_11 := X.out.out.at0; have x1_11 := X.out.out.at1; have y0_11 := Y.out.out.at0; have y1_11 := Y.out.out.at1; have z0_11 := Z.out.out.at0; have z1_11 := Z.out.out.at1; have u0_11 := U.out.out.at0; have u1_11 := U.out.out.at1)
        refine hK.out _ _ (by first | exact ⟨x0_11, x1_11, y0_11, y1_11, z0_11, z1_11, u0_11, u1_11⟩ | exact ⟨x0_10, x1_10, y0_10, y1_10, z0_10, z1_10, u0_10, u1_10⟩ | exact ⟨x0, x1, y0, y1, z0, z1, u0, u1⟩ | go_keep) (fun hHeld => ?_)
        clear hK K
        try simp only [List.getElem_toArray, List.getElem_cons_zero, List.getElem_cons_succ, Act.put, List.setIfInBounds_toArray, List.set_cons_zero, List.set_cons_succ]
        refine wpAnyH_ready (rs := [24]) (by kernel_rfl) (by simp) ?_
        refine AllReadyH.cons rfl (fun K hK => ?_) AllReadyH.nil
        try simp only [List.getElem_toArray]
        go_simp
        (go_at_call 22; refine (HVB.out _ _ (by first | exact I2.out.rd | exact I2.out.rd.below (k := w11.heap.size) ((Below.refl _ _).drew) (Nat.le_refl _))).mono ?_; rintro e w12 ⟨rfl, hbd⟩; have hb12 : Below w11.heap.size w11 w12 := (by first | exact hbd | exact ⟨hbd.os, hbd.tape, hbd.output, hbd.size, hbd.block⟩); clear hbd; have hz12 := hb12.size; replace X := Lib.hid (X.out.next hb12 X.out.lt); replace Y := Lib.hid (Y.out.next hb12 Y.out.lt); replace Z := Lib.hid (Z.out.next hb12 Z.out.lt); replace U := Lib.hid (U.out.next hb12 U.out.lt); replace I1 := Lib.hid (I1.out.below hb12 (Nat.le_refl _)); replace I2 := Lib.hid (I2.out.below hb12 (Nat.le_refl _)); replace IR := Lib.hid (IR.out.below hb12 (Nat.le_refl _)); replace IU := Lib.hid (IU.out.below hb12 (Nat.le_refl _)); replace B := Lib.hid (B.out.trans (hb12.mono B.out.size)); clear hb12; have x0_12 := X.out.out.at0; have x1_12 := X.out.out.at1; have y0_12 := Y.out.out.at0; have y1_12 := Y.out.out.at1; have z0_12 := Z.out.out.at0; have z1_12 := Z.out.out.at1; have u0_12 := U.out.out.at0; have u1_12 := U.out.out.at1)
        refine hK.out _ _ (by first | exact ⟨x0_12, x1_12, y0_12, y1_12, z0_12, z1_12, u0_12, u1_12⟩ | exact ⟨x0_11, x1_11, y0_11, y1_11, z0_11, z1_11, u0_11, u1_11⟩ | exact ⟨x0_10, x1_10, y0_10, y1_10, z0_10, z1_10, u0_10, u1_10⟩ | exact ⟨x0, x1, y0, y1, z0, z1, u0, u1⟩ | go_keep) (fun hHeld => ?_)
        clear hK K
        try simp only [List.getElem_toArray, List.getElem_cons_zero, List.getElem_cons_succ, Act.put, List.setIfInBounds_toArray, List.set_cons_zero, List.set_cons_succ]
        refine wpAnyH_take (i := 25) (v := ?_) rfl (by kernel_rfl) (by kernel_rfl) (by kernel_rfl) (fun _ _ _ h => h) (Or.inl ⟨by rfl, ?_⟩) (by assumption) ?_
        rotate_left
        · (intro w hSw; (try dsimp only at hSw); go_simp; (try rw [hw1]); try with_reducible rfl)
        try simp only [List.getElem_toArray, List.getElem_cons_zero, List.getElem_cons_succ, Act.put, List.setIfInBounds_toArray, List.set_cons_zero, List.set_cons_succ]
        refine wpAnyH_take (i := 26) (v := ?_) rfl (by kernel_rfl) (by kernel_rfl) (by kernel_rfl) (fun _ _ _ h => h) (Or.inl ⟨by rfl, ?_⟩) (by assumption) ?_
        rotate_left
        · (intro w hSw; (try dsimp only at hSw); go_simp; (try rw [hw2]); try with_reducible rfl)
        try simp only [List.getElem_toArray, List.getElem_cons_zero, List.getElem_cons_succ, Act.put, List.setIfInBounds_toArray, List.set_cons_zero, List.set_cons_succ]
        refine wpAnyH_take (i := 27) (v := ?_) rfl (by kernel_rfl) (by kernel_rfl) (by kernel_rfl) (fun _ _ _ h => h) (Or.inl ⟨by rfl, ?_⟩) (by assumption) ?_
        rotate_left
        · (intro w hSw; (try dsimp only at hSw); go_simp; (try simp [hvc]); try with_reducible rfl)
        try simp only [List.getElem_toArray, List.getElem_cons_zero, List.getElem_cons_succ, Act.put, List.setIfInBounds_toArray, List.set_cons_zero, List.set_cons_succ]
        refine wpAnyH_take (i := 28) (v := ?_) rfl (by kernel_rfl) (by kernel_rfl) (by kernel_rfl) (fun _ _ _ h => h) (Or.inl ⟨by rfl, ?_⟩) (by assumption) ?_
        rotate_left
        · (intro w hSw; (try dsimp only at hSw); go_simp; try with_reducible rfl)
        try simp only [List.getElem_toArray, List.getElem_cons_zero, List.getElem_cons_succ, Act.put, List.setIfInBounds_toArray, List.set_cons_zero, List.set_cons_succ]
        refine wpAnyH_take (i := 29) (v := ?_) rfl (by kernel_rfl) (by kernel_rfl) (by kernel_rfl) (fun _ _ _ h => h) (Or.inl ⟨by rfl, ?_⟩) (by assumption) ?_
        rotate_left
        · (intro w hSw; (try dsimp only at hSw); go_simp; try with_reducible rfl)
        try simp only [List.getElem_toArray, List.getElem_cons_zero, List.getElem_cons_succ, Act.put, List.setIfInBounds_toArray, List.set_cons_zero, List.set_cons_succ]
        refine wpAnyH_done (by kernel_rfl) ?_ _
        go_wp2_with fail
        go_ret
        exact ⟨rfl, B.out⟩
      · rw [Bool.not_eq_true] at hv
        have HI := Lib.hid (fun va vb w ha hb => implUnionClass N va zs M vb ys w ha hb)
        have HS := Lib.hid (fun va vb w ha hb => specUnionClass N va zs M vb ys w ha hb)
        rw [iaN_no hv, iaL_no hv, hv] at HI HS
        obtain ⟨RL, hRL⟩ : ∃ RL : List Int, RL = [] := ⟨_, rfl⟩
        rw [← hRL] at HI HS
        clear hRL hv
        have x0 := X.out.out.at0
        have x1 := X.out.out.at1
        have y0 := Y.out.out.at0
        have y1 := Y.out.out.at1
        go_wp2_with fail
        clear x0 x1 y0 y1
        refine (HI.out _ _ _ I1.out.rd I2.out.rd).mono ?_
        rintro e w3 ⟨a3, c3, rfl, hin3, hb3⟩
        have hz3 := hb3.size
        replace X := Lib.hid (X.out.next hb3 X.out.lt)
        replace Y := Lib.hid (Y.out.next hb3 Y.out.lt)
        replace I1 := Lib.hid (I1.out.below hb3 (Nat.le_refl _))
        replace I2 := Lib.hid (I2.out.below hb3 (Nat.le_refl _))
        replace B := Lib.hid (B.out.trans (hb3.mono B.out.size))
        have IR := Lib.hid (hin3.mono (Nat.zero_le _))
        clear hin3 hb3
        have Z := Lib.hid (Bx.new (0 : Int) (.slice a3 RL.length c3) w3)
        replace X := Lib.hid (X.out.alloc (Obj.cells #[.int .i64 (0 : Int), .slice a3 RL.length c3] 26))
        replace Y := Lib.hid (Y.out.alloc (Obj.cells #[.int .i64 (0 : Int), .slice a3 RL.length c3] 26))
        replace I1 := Lib.hid (I1.out.alloc (Obj.cells #[.int .i64 (0 : Int), .slice a3 RL.length c3] 26))
        replace I2 := Lib.hid (I2.out.alloc (Obj.cells #[.int .i64 (0 : Int), .slice a3 RL.length c3] 26))
        replace IR := Lib.hid (IR.out.alloc (Obj.cells #[.int .i64 (0 : Int), .slice a3 RL.length c3] 26))
        replace B := Lib.hid (B.out.alloc B.out.size (Obj.cells #[.int .i64 (0 : Int), .slice a3 RL.length c3] 26))
        have x0 := X.out.out.at0
        have x1 := X.out.out.at1
        have y0 := Y.out.out.at0
        have y1 := Y.out.out.at1
        go_wp2_with fail
        clear x0 x1 y0 y1
        generalize (w3.alloc (Obj.cells #[.int .i64 (0 : Int), .slice a3 RL.length c3] 26)) = w4 at *
        generalize ho3 : w3.heap.size = o3 at *
        refine (HS.out _ _ _ ⟨_, I1.out⟩ ⟨_, I2.out⟩).mono ?_
        rintro e w5 ⟨a5, c5, rfl, hin5, hb5⟩
        have hz5 := hb5.size
        replace X := Lib.hid (X.out.next hb5 X.out.lt)
        replace Y := Lib.hid (Y.out.next hb5 Y.out.lt)
        replace Z := Lib.hid (Z.out.next hb5 Z.out.lt)
        replace I1 := Lib.hid (I1.out.below hb5 (Nat.le_refl _))
        replace I2 := Lib.hid (I2.out.below hb5 (Nat.le_refl _))
        replace IR := Lib.hid (IR.out.below hb5 (Nat.le_refl _))
        replace B := Lib.hid (B.out.trans (hb5.mono B.out.size))
        have IS := Lib.hid (hin5.mono (Nat.zero_le _))
        clear hin5 hb5
        have V := Lib.hid (Bx.new (0 : Int) (.slice a5 RL.length c5) w5)
        replace X := Lib.hid (X.out.alloc (Obj.cells #[.int .i64 (0 : Int), .slice a5 RL.length c5] 26))
        replace Y := Lib.hid (Y.out.alloc (Obj.cells #[.int .i64 (0 : Int), .slice a5 RL.length c5] 26))
        replace Z := Lib.hid (Z.out.alloc (Obj.cells #[.int .i64 (0 : Int), .slice a5 RL.length c5] 26))
        replace I1 := Lib.hid (I1.out.alloc (Obj.cells #[.int .i64 (0 : Int), .slice a5 RL.length c5] 26))
        replace I2 := Lib.hid (I2.out.alloc (Obj.cells #[.int .i64 (0 : Int), .slice a5 RL.length c5] 26))
        replace IR := Lib.hid (IR.out.alloc (Obj.cells #[.int .i64 (0 : Int), .slice a5 RL.length c5] 26))
        replace IS := Lib.hid (IS.out.alloc (Obj.cells #[.int .i64 (0 : Int), .slice a5 RL.length c5] 26))
        replace B := Lib.hid (B.out.alloc B.out.size (Obj.cells #[.int .i64 (0 : Int), .slice a5 RL.length c5] 26))
        have x0 := X.out.out.at0
        have x1 := X.out.out.at1
        have y0 := Y.out.out.at0
        have y1 := Y.out.out.at1
        have z0 := Z.out.out.at0
        have z1 := Z.out.out.at1
        go_wp2_with fail
        clear x0 x1 y0 y1 z0 z1
        generalize (w5.alloc (Obj.cells #[.int .i64 (0 : Int), .slice a5 RL.length c5] 26)) = w6 at *
        generalize ho4 : w5.heap.size = o4 at *
        refine (lawsEqualClass _ _ _ _ _ _ _ _ IR.out.rd IS.out.rd).mono ?_
        rintro e w7 ⟨rfl, hb7⟩
        have hz7 := hb7.size
        replace X := Lib.hid (X.out.next hb7 X.out.lt)
        replace Y := Lib.hid (Y.out.next hb7 Y.out.lt)
        replace Z := Lib.hid (Z.out.next hb7 Z.out.lt)
        replace V := Lib.hid (V.out.next hb7 V.out.lt)
        replace I1 := Lib.hid (I1.out.below hb7 (Nat.le_refl _))
        replace I2 := Lib.hid (I2.out.below hb7 (Nat.le_refl _))
        replace IR := Lib.hid (IR.out.below hb7 (Nat.le_refl _))
        replace IS := Lib.hid (IS.out.below hb7 (Nat.le_refl _))
        replace B := Lib.hid (B.out.trans (hb7.mono B.out.size))
        clear hb7
        have x0 := X.out.out.at0
        have x1 := X.out.out.at1
        have y0 := Y.out.out.at0
        have y1 := Y.out.out.at1
        have z0 := Z.out.out.at0
        have z1 := Z.out.out.at1
        have v0 := V.out.out.at0
        have v1 := V.out.out.at1
        go_wp2_with fail
        clear x0 x1 y0 y1 z0 z1 v0 v1
        refine (lawsEqualClass _ _ _ _ _ _ _ _ IR.out.rd IS.out.rd).mono ?_
        rintro e w8 ⟨rfl, hb8⟩
        have hz8 := hb8.size
        replace X := Lib.hid (X.out.next hb8 X.out.lt)
        replace Y := Lib.hid (Y.out.next hb8 Y.out.lt)
        replace Z := Lib.hid (Z.out.next hb8 Z.out.lt)
        replace V := Lib.hid (V.out.next hb8 V.out.lt)
        replace I1 := Lib.hid (I1.out.below hb8 (Nat.le_refl _))
        replace I2 := Lib.hid (I2.out.below hb8 (Nat.le_refl _))
        replace IR := Lib.hid (IR.out.below hb8 (Nat.le_refl _))
        replace IS := Lib.hid (IS.out.below hb8 (Nat.le_refl _))
        replace B := Lib.hid (B.out.trans (hb8.mono B.out.size))
        clear hb8
        have x0 := X.out.out.at0
        have x1 := X.out.out.at1
        have y0 := Y.out.out.at0
        have y1 := Y.out.out.at1
        have z0 := Z.out.out.at0
        have z1 := Z.out.out.at1
        have v0 := V.out.out.at0
        have v1 := V.out.out.at1
        go_wp2_with fail
        clear x0 x1 y0 y1 z0 z1 v0 v1
        go_ret
        exact ⟨rfl, B.out⟩
  · go_enter Try.func4, Try.ntmps4
    go_wp2_with fail
    go_ret
    exact ⟨rfl, Below.refl _ _⟩

end Go.Proofs.Ytpcjecahplglfab
