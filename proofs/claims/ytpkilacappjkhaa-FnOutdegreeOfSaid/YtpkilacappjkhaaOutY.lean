/- mayTurn, the model's: may the edges be given so that no set gets more than some? Conditions: the pairs are those of the sets. -/
import Derived.Test.YtpkilacappjkhaaOutR
namespace Go.Proofs.Ytpkilacappjkhaa
open Go.RowKit

theorem getD_set' {l : List Nat} {k j v : Nat} (hk : k < l.length) : (l.set k v).getD j 0 = if j = k then v else l.getD j 0 := getD_set hk
theorem nat_ext {l m : List Nat} (h : l.length = m.length) (he : ∀ j, j < l.length → l.getD j 0 = m.getD j 0) : l = m := by
  apply List.ext_getElem h
  intro j h1 h2
  have := he j h1
  rw [List.getD_eq_getElem?_getD, List.getD_eq_getElem?_getD, List.getElem?_eq_getElem h1, List.getElem?_eq_getElem h2] at this
  exact this
theorem cnL_add {n p : Nat} (os : List Nat) (hp : p < n) : (cnL n os).set p (os.count p + 1) = cnL n (os ++ [p]) := by
  apply nat_ext (by rw [List.length_set, cnL_len, cnL_len])
  intro j hj
  rw [List.length_set, cnL_len] at hj
  rw [getD_set (by rw [cnL_len]; exact hp), cnL_at os hj, cnL_at _ hj, List.count_append, List.count_cons, List.count_nil]
  by_cases e : j = p
  · subst e; simp
  · rw [if_neg e]
    have : (p == j) = false := by rw [beq_eq_false_iff_ne]; exact fun k => e k.symm
    rw [this]; simp
theorem cnL_move {n v x : Nat} {os os' : List Nat} (hv : v < n) (hx : x < n) (hne : x ≠ v) (h : ∀ u, os'.count u + (if v = u then 1 else 0) = os.count u + if x = u then 1 else 0) : ((cnL n os).set v (os.count v - 1)).set x (os.count x + 1) = cnL n os' := by
  apply nat_ext (by rw [List.length_set, List.length_set, cnL_len, cnL_len])
  intro j hj
  rw [List.length_set, List.length_set, cnL_len] at hj
  rw [getD_set (by rw [List.length_set, cnL_len]; exact hx), getD_set (by rw [cnL_len]; exact hv), cnL_at os hj, cnL_at _ hj]
  have h1 := h j
  by_cases e : j = x
  · subst e
    rw [if_neg (show ¬ v = j from fun k => hne k.symm), if_pos rfl] at h1
    rw [if_pos rfl]
    omega
  · rw [if_neg e]
    rw [if_neg (show ¬ x = j from fun k => e k.symm)] at h1
    by_cases e2 : j = v
    · subst e2
      rw [if_pos rfl] at h1
      rw [if_pos rfl]
      omega
    · rw [if_neg (show ¬ v = j from fun k => e2 k.symm)] at h1
      rw [if_neg e2]
      omega
/-- the last edge of a way is owned where the way ends, once it is turned -/
theorem flw_last {E : List (Nat × Nat)} {x : Nat} : ∀ {p : List Nat} {os : List Nat} {v : Nat}, os.length = E.length → Way E os v p x → (Wn E v p).Nodup → p ≠ [] → (flw E os p).getD (p.getD (p.length - 1) 0) 0 = x := by
  intro p
  induction p with
  | nil => intro os v _ _ _ h; exact absurd rfl h
  | cons k p ih =>
    intro os v hl h hn _
    rw [Wn, List.nodup_cons] at hn
    obtain ⟨hk, ho, hw⟩ := h
    have hkp : k ∉ p := fun hm => hn.1 (by have := hw.own k hm; rw [ho] at this; exact this)
    rw [flw_cons, ho]
    cases p with
    | nil =>
      have : x = oth (E.getD k (0, 0)) v := hw
      rw [this]
      show (os.set k (oth (E.getD k (0, 0)) v)).getD k 0 = _
      rw [getD_set (by omega), if_pos rfl]
    | cons k2 p =>
      have h2 := ih (os := os.set k (oth (E.getD k (0, 0)) v)) (by rw [List.length_set]; exact hl) (hw.congr (fun j hj => by rw [getD_set (by omega), if_neg (show ¬ j = k from fun e => hkp (e ▸ hj))])) hn.2 (by simp)
      exact h2
theorem Wn_lt {E : List (Nat × Nat)} {os : List Nat} {n : Nat} (hE : ∀ e, e < E.length → (E.getD e (0, 0)).1 < (E.getD e (0, 0)).2 ∧ (E.getD e (0, 0)).2 < n) : ∀ {p : List Nat} {v x : Nat}, Way E os v p x → v < n → ∀ u ∈ Wn E v p, u < n := by
  intro p
  induction p with
  | nil =>
    intro v x _ hv u hu
    rw [Wn, List.mem_singleton] at hu
    omega
  | cons k p ih =>
    intro v x h hv u hu
    rw [Wn] at hu
    rcases List.mem_cons.1 hu with e | e
    · omega
    · refine ih h.2.2 ?_ u e
      have h1 := hE k h.1
      rcases oth_or (E.getD k (0, 0)) v with e2 | e2 <;> omega
theorem Way.last {E : List (Nat × Nat)} {os : List Nat} {v x : Nat} {p : List Nat} (h : Way E os v p x) (hne : p ≠ []) : p.getD (p.length - 1) 0 < E.length :=
  h.lt _ (getD_of_lt (by have := List.length_pos_iff.2 hne; omega))
/-- owners and counts in rows of their own -/
structure Mst (w : World) (B cg L : Nat) (ov : Value) (os cs : List Nat) : Prop where
  own : Ints B w ov (toI os)
  cnt : Ints B w (.slice (some ⟨cg, 0, none⟩) L L) (toI cs)
  ne : ov.ownBlock ≠ some cg
theorem ou_toI_set (l : List Nat) (k x : Nat) : (toI l).set k (x : Int) = toI (l.set k x) := by simp [toI, List.map_set]
theorem Mst.below {w w' : World} {B cg L : Nat} {ov : Value} {os cs : List Nat} (h : Mst w B cg L ov os cs) (hb : Below w.heap.size w w') : Mst w' B cg L ov os cs := ⟨h.own.below hb (Nat.le_refl _), h.cnt.below hb (Nat.le_refl _), h.ne⟩
theorem Mst.drew {w : World} {B cg L : Nat} {ov : Value} {os cs : List Nat} (h : Mst w B cg L ov os cs) : Mst w.drew B cg L ov os cs := ⟨h.own, h.cnt, h.ne⟩
theorem Mst.count {w : World} {B cg L : Nat} {ov : Value} {os cs : List Nat} (h : Mst w B cg L ov os cs) (p x : Nat) : Mst (w.setCell ⟨cg, p, none⟩ (.int .i64 (x : Int))) B cg L ov os (cs.set p x) :=
  ⟨ownsRow_setCell_other h.own h.ne _, by rw [← ou_toI_set]; exact h.cnt.store p (x : Int), h.ne⟩
theorem Mst.turn {w : World} {B cg L og n c : Nat} {os cs : List Nat} (h : Mst w B cg L (.slice (some ⟨og, 0, none⟩) n c) os cs) (e z : Nat) : Mst (w.setCell ⟨og, e, none⟩ (.int .i64 (z : Int))) B cg L (.slice (some ⟨og, 0, none⟩) n c) (os.set e z) cs :=
  ⟨by rw [← ou_toI_set]; exact h.own.store e (z : Int), ownsRow_setCell_other h.cnt (fun e2 => h.ne (by simpa [Value.ownBlock] using e2.symm)) _, h.ne⟩
theorem Mst.grow {w w' : World} {B cg L g n c g' c' p : Nat} {os cs : List Nat} (h : Mst w B cg L (.slice (some ⟨g, 0, none⟩) n c) os cs) (hg : w.grownBy w' (some g)) (hi : Ints B w' (.slice (some ⟨g', 0, none⟩) (n + 1) c') (toI os ++ [(p : Int)])) (hg' : g' = g ∨ w.heap.size ≤ g') : Mst w' B cg L (.slice (some ⟨g', 0, none⟩) (n + 1) c') (os ++ [p]) cs := by
  have hne : g ≠ cg := fun e => h.ne (by rw [e]; rfl)
  refine ⟨by rw [toI_append]; exact hi, h.cnt.kept hg (.inr (fun e => hne (by simpa [Value.ownBlock] using e.symm))), fun e => ?_⟩
  obtain rfl : g' = cg := by simpa [Value.ownBlock] using e
  rcases hg' with k | k
  · exact hne k.symm
  · have := (h.cnt.lt g' rfl).2
    omega
theorem take_fst {E : List (Nat × Nat)} {x : Nat} (h : x < E.length) : (E.take (x + 1)).map Prod.fst = (E.take x).map Prod.fst ++ [(E.getD x (0, 0)).1] := by
  rw [List.take_succ_eq_append_getElem h, List.map_append, List.getD_eq_getElem?_getD, List.getElem?_eq_getElem h]
  rfl
theorem own_fst (E : List (Nat × Nat)) : Own E (E.map Prod.fst) := by
  refine ⟨List.length_map _, fun e he => .inl ?_⟩
  rw [List.getD_eq_getElem?_getD, List.getElem?_map, List.getD_eq_getElem?_getD, List.getElem?_eq_getElem he]
  rfl
def cAt (w : World) (g j : Nat) : Nat := match w.cell? ⟨g, j, none⟩ with
  | some (.int _ x) => x.toNat
  | _ => 0
theorem Mst.cAt {w : World} {B cg L j : Nat} {ov : Value} {os cs : List Nat} (h : Mst w B cg L ov os cs) (hj : j < cs.length) : cAt w cg j = cs.getD j 0 := by
  have h1 := (h.cnt.cellAt j (by rw [toI_length]; exact hj)).1
  rw [Go.Proofs.Ytpkilacappjkhaa.cAt, h1, toI_getD]
  exact Int.toNat_natCast _

set_option maxHeartbeats 6400000 in
set_option maxRecDepth 100000 in
theorem specMayTurn (ns : List Nat) (most : Nat) (sv pv : Value) (w : World) (hasc : ns.Pairwise (· < ·)) (hl : ns.length ≤ 32) (hm : most ≤ 2000) (h : Rd w sv (toI ns)) (hp : RdP w pv (egTo ns ns.length)) :
    Calls Try.prog 20 #[sv, pv, .int .i64 (most : Int)] w fun e w' => (e = .returned (.bool false) ∧ Below w.heap.size w w' ∧ Vio ns most) ∨ (e = .returned (.bool true) ∧ Below w.heap.size w w' ∧ Asg ns most) := by
  have H := Lib.hid h
  have HP := Lib.hid hp
  obtain ⟨i0, hi, hz0, hz1, hz2⟩ := info_parts info3
  have Hz2 := Lib.hid hz2
  clear hz2
  obtain ⟨sa, sb, soff, scap, rfl, _, _, _⟩ := h
  obtain ⟨ea, eb, eoff, ecap, rfl, e1, -, e5⟩ := hp
  rw [toI_length] at H ⊢
  rw [eg_length] at e1 e5 HP ⊢
  obtain ⟨N, hN⟩ : ∃ N, N = (ep ns).length := ⟨_, rfl⟩
  have hN9 : N ≤ 1024 := by rw [hN]; exact ep_len hl
  obtain ⟨L, hL⟩ : ∃ L, L = ns.length := ⟨_, rfl⟩
  have HE := Lib.hid (fun k (hk : k < N) => ep_at (ns := ns) (e := k) (by omega))
  have HEG := Lib.hid (fun k (hk : k < N) => eg_at (ns := ns) (e := k) (by omega))
  have HPL := Lib.hid (fun i w h hi => specPlace (.slice sa ns.length scap) ns i w hasc hi h)
  have HOT := Lib.hid (fun i k u w h hik hk => specOther (.slice sa ns.length scap) ns i k u w hasc hik hk h)
  have HRE := Lib.hid (fun os v ov cv w hO hv h hp ho hc hb => specRelief ns os v most (.slice sa ns.length scap) (.slice ea (ep ns).length ecap) ov cv w hasc hl hO hv h hp ho hc hb)
  have HVI := Lib.hid (fun os ss v (hO : Own (ep ns) os) (h : Clo (ep ns) os ns.length v most ss) hv => h.vio hasc hO hv)
  have HAS := Lib.hid (fun os (hO : Own (ep ns) os) h => hO.asg (most := most) hasc h)
  have E1 := Lib.hid e1
  have E5 := Lib.hid e5
  have HNN := Lib.hid hN
  rw [← hN] at E1 E5 HP HRE ⊢
  rw [← hL] at H HP HPL HOT HRE HVI HAS HE hl ⊢
  have I0 := Lib.hid (Ints.lit w.heap.size w (Nat.le_refl _))
  have B0 := Lib.hid ((Below.refl w.heap.size w).alloc (Nat.le_refl _) (.cells #[] 3))
  have hs0 : w.heap.size < (w.alloc (.cells #[] 3)).heap.size := by simp
  clear e1 e5 hN hL hasc
  go_enter Try.func20, Try.ntmps20
  go_upto_region 2 with (fail)
  generalize w.alloc (.cells #[] 3) = w1 at *
  go_wp2_with (at_make; refine wpList_make_full _ rfl _ _ 23 rfl w1.heap.size 3 i0 (.int .i64 0) 1 Try.underlying23 hi hz0 hz1 _ _ _ _ L rfl rfl rfl rfl (by rw [Hz2.out]; omega) (by unfold maxLen; omega) (Nat.le_refl _) ?_; intro w4 hown hgrow; have hin := Ints.of_made hown; have hb4 : Below w1.heap.size w1 w4 := (Below.refl _ _).grown hgrow (Nat.le_refl _) (fun k hk => by simp at hk); have hz4 := hb4.size)
  have M4 := Lib.hid (show Mst w4 w.heap.size w1.heap.size L (.slice (some ⟨w.heap.size, 0, none⟩) 0 0) [] (cnL L []) from ⟨I0.out.below hb4 (Nat.le_refl _), by rw [show toI (cnL L []) = List.replicate L 0 by simp [toI, cnL, List.map_const']]; exact hin.mono (Nat.le_of_lt hs0), by simp [Value.ownBlock]; omega⟩)
  have B4 := Lib.hid (B0.out.trans (hb4.mono (Nat.le_of_lt hs0)))
  clear hown hgrow hin hb4 hi hz0 hz1 I0 B0
  generalize hcg : w1.heap.size = cg at *
  clear hcg
  go_loopw [9, 7] (fun i o wr => ∃ (x g c : Nat), i = .int .i64 (x : Int) ∧ o = .slice (some ⟨g, 0, none⟩) x c ∧ x ≤ N ∧ Mst wr w.heap.size cg L (.slice (some ⟨g, 0, none⟩) x c) (((ep ns).take x).map Prod.fst) (cnL L (((ep ns).take x).map Prod.fst)) ∧ Below w.heap.size w wr) (fun i _ _ => N - (intOf i).toNat)
  case atStart => exact ⟨0, w.heap.size, 0, rfl, rfl, Nat.zero_le _, M4.out, B4.out⟩
  case round =>
    obtain ⟨x, g, c, rfl, rfl, hx, hM, hbe⟩ := hrel
    have MR := Lib.hid hM
    have BR := Lib.hid hbe
    have hzr := hbe.size
    clear hM hbe M4 B4
    by_cases hxN : x < N
    · obtain ⟨rfl, heb⟩ := E1.out (by omega)
      obtain ⟨hp1, hp2, -⟩ := HE.out x hxN
      obtain ⟨ce0, -⟩ := E5.out x hxN
      rw [HEG.out x hxN] at ce0
      replace ce0 := (BR.out.cell (p := ⟨eb, eoff + x * 2, none⟩) heb).trans ce0
      have HPx := Lib.hid (fun w h => HPL.out ((ep ns).getD x (0, 0)).1 w h (by omega))
      have HT := Lib.hid (take_fst (E := ep ns) (x := x) (by have := HNN.out; omega))
      have hos : (((ep ns).take x).map Prod.fst).length = x := by rw [List.length_map, List.length_take]; have := HNN.out; omega
      have HTL := Lib.hid (show (toI (((ep ns).take x).map Prod.fst)).length = x by rw [toI_length]; exact hos)
      have hpL : ((ep ns).getD x (0, 0)).1 < L := by omega
      have hcL : (((ep ns).take x).map Prod.fst).count ((ep ns).getD x (0, 0)).1 ≤ 1024 := by
        have := List.count_le_length (a := ((ep ns).getD x (0, 0)).1) (l := ((ep ns).take x).map Prod.fst)
        omega
      clear hp1 hp2
      generalize ((ep ns).take x).map Prod.fst = os at *
      generalize ns.getD ((ep ns).getD x (0, 0)).1 0 = X at *
      generalize ((ep ns).getD x (0, 0)).1 = p at *
      have HA := Lib.hid (cnL_add os hpL)
      have hCat := cnL_at os hpL
      generalize os.count p = y at *
      have HX9 := Lib.hid (show (toI (os ++ [p])).getD x 0 = (p : Int) by rw [toI_getD, ← hos, getD_snoc_end])
      clear hos
      have hxI : (x : Int) < (N : Int) := by omega
      have hpI : (p : Int) < (L : Int) := by omega
      go_wp2_with fail
      refine (HPx.out _ (H.out.below BR.out (Nat.le_refl _))).mono ?_
      rintro e w9 ⟨rfl, hw9⟩
      subst w9
      go_wp2_with (at_builtin; refine wpList_app1 rfl (.tmp 24) (.tmp 32) rfl w.heap.size g x c (toI os) HTL.out rfl (by exact MR.out.own.alloc _) _ (p : Int) rfl (by rw [World.cell?_alloc_at _ _ _ _ (by simp)]; rfl) (by omega) (by simp; omega) ?_; intro g6 c6 w6 hg6 hin6 hb6 hgr6; have M6 := Lib.hid ((MR.out.below ((Below.refl _ wr).alloc (Nat.le_refl _) _)).grow hgr6 hin6 hg6); have B6 := Lib.hid ((BR.out.alloc hzr _).trans hb6); have d1 := (M6.out.own.cellAt x (by rw [toI_append, List.length_append, HTL.out]; exact Nat.lt_succ_self _)).1; have d2 := M6.out.cnt.cellAt p (by rw [toI_length, cnL_len]; exact hpL); obtain ⟨d2, d3⟩ := d2; clear hg6 hin6 hb6 hgr6)
      rw [HX9.out] at d1
      rw [toI_getD, hCat] at d2
      have M7 := Lib.hid (show Mst (w6.setCell ⟨cg, p, none⟩ (.int .i64 ((y : Int) + 1))).drew w.heap.size cg L (.slice (some ⟨g6, 0, none⟩) (x + 1) c6) (os ++ [p]) (cnL L (os ++ [p])) from by
        have h9 := M6.out.count p (y + 1)
        rw [HA.out] at h9
        exact h9.drew)
      have B7 := Lib.hid (B6.out.setCell (p := ⟨cg, p, none⟩) (by show w.heap.size ≤ cg; omega) (.int .i64 ((y : Int) + 1))).drew
      have hx1I : (x : Int) < ((x + 1 : Nat) : Int) := by omega
      go_region
      go_wp2_with fail
      go_roundw
      case rel => exact ⟨x + 1, g6, c6, by go_num, rfl, by omega, by rw [HT.out]; exact M7.out, B7.out⟩
      case measure => simp [intOf]; omega
    · obtain rfl : x = N := by omega
      have hNe := HNN.out
      have hos0 : ((ep ns).take x).map Prod.fst = (ep ns).map Prod.fst := by rw [hNe, List.take_length]
      rw [hos0] at MR
      have O0 := Lib.hid (own_fst (ep ns))
      generalize (ep ns).map Prod.fst = os0 at *
      obtain ⟨og, hog⟩ : ∃ og, og = g := ⟨_, rfl⟩
      obtain ⟨oc, hoc⟩ : ∃ oc, oc = c := ⟨_, rfl⟩
      rw [← hog, ← hoc] at MR ⊢
      have hne : og ≠ cg := fun e => MR.out.ne (by rw [e]; rfl)
      have hogw : w.heap.size ≤ og := (MR.out.own.lt og rfl).1
      have hcgw : w.heap.size ≤ cg := (MR.out.cnt.lt cg rfl).1
      have hxI : ¬ (x : Int) < (x : Int) := by omega
      clear hos0 hNe hog hoc
      go_wp2_with fail
      go_loopw [10] (fun i wr => ∃ (v : Nat) (os : List Nat), i = .int .i64 (v : Int) ∧ v ≤ L ∧ Own (ep ns) os ∧ (∀ u, u < v → os.count u ≤ most) ∧ Mst wr w.heap.size cg L (.slice (some ⟨og, 0, none⟩) x oc) os (cnL L os) ∧ Below w.heap.size w wr) (fun i _ => L - (intOf i).toNat)
      case atStart => exact ⟨0, os0, rfl, Nat.zero_le _, O0.out, fun u hu => absurd hu (Nat.not_lt_zero u), MR.out, BR.out⟩
      case round =>
        obtain ⟨v, os, rfl, hv, hOw, hfw, hM, hbe⟩ := hrel
        have OW := Lib.hid hOw
        have FW := Lib.hid hfw
        have MV := Lib.hid hM
        have BV := Lib.hid hbe
        clear hOw hfw hM hbe MR BR O0
        by_cases hvL : v < L
        · have hvI : (v : Int) < (L : Int) := by omega
          go_wp2_with fail
          go_loopw [] (fun wq => ∃ (os : List Nat), Own (ep ns) os ∧ (∀ u, u < v → os.count u ≤ most) ∧ Mst wq w.heap.size cg L (.slice (some ⟨og, 0, none⟩) x oc) os (cnL L os) ∧ Below w.heap.size w wq) (fun wq => cAt wq cg v)
          case atStart => exact ⟨os, OW.out, FW.out, MV.out, BV.out⟩
          case round =>
            obtain ⟨os, hOw, hfw, hM, hbe⟩ := hrel
            have OW := Lib.hid hOw
            have FW := Lib.hid hfw
            have MV := Lib.hid hM
            have BV := Lib.hid hbe
            have CV := Lib.hid (hM.cAt (j := v) (by rw [cnL_len]; exact hvL))
            have hcv := (hM.cnt.cellAt v (by rw [toI_length, cnL_len]; exact hvL)).1
            have hcf := (hM.cnt.cellAt v (by rw [toI_length, cnL_len]; exact hvL)).2
            rw [toI_getD, cnL_at os hvL] at hcv
            have hy9 : os.count v ≤ 1024 := by
              have h1 := List.count_le_length (a := v) (l := os)
              have h2 := hOw.1
              have h3 := HNN.out
              omega
            have hrdo := hM.own.rd
            have hrdc := hM.cnt.rd
            have hosl : os.length = x := by rw [hOw.1, ← HNN.out]
            clear hOw hfw hM hbe
            by_cases hbig : most < os.count v
            · have HR := Lib.hid (HRE.out os v _ _ _ OW.out hvL (H.out.below BV.out (Nat.le_refl _)) (HP.out.below BV.out (Nat.le_refl _)) hrdo hrdc hbig)
              have VI := Lib.hid (fun ss h => HVI.out os ss v OW.out h hbig)
              have hbI : (most : Int) < ((os.count v : Nat) : Int) := by omega
              have HOS := Lib.hid hosl
              clear hrdo hrdc hosl
              obtain ⟨y, hy⟩ : ∃ y, y = os.count v := ⟨_, rfl⟩
              have HY := Lib.hid hy
              rw [← hy] at hcv hbI hy9 hbig
              clear hy
              go_wp2_with fail
              refine HR.out.mono ?_
              rintro e w5 ⟨p, pa, pc, rfl, hpr, hb5, hcase⟩
              have M5 := Lib.hid (MV.out.below hb5)
              have B5 := Lib.hid (BV.out.trans (hb5.mono BV.out.size))
              have PR := Lib.hid hpr
              have hz5 := hb5.size
              have hcw : cg < wr.heap.size := (MV.out.cnt.lt cg rfl).2
              have how : og < wr.heap.size := (MV.out.own.lt og rfl).2
              clear hb5 hpr hcv hcf
              rcases hcase with ⟨rfl, ss, hclo⟩ | ⟨hne0, hrel⟩
              · have VV := Lib.hid (VI.out ss hclo)
                go_wp2_with fail
                go_ret
                exact .inl ⟨rfl, B5.out, VV.out⟩
              · have hcv := (M5.out.cnt.cellAt v (by rw [toI_length, cnL_len]; exact hvL)).1
                have hcf := (M5.out.cnt.cellAt v (by rw [toI_length, cnL_len]; exact hvL)).2
                rw [toI_getD, cnL_at os hvL, ← HY.out] at hcv
                obtain ⟨t, hw, hnd, htm, htL⟩ := hrel
                have hpos : 0 < p.length := List.length_pos_iff.2 hne0
                obtain ⟨pg, rfl, hpgB, hpgl⟩ := PR.out.someAt hpos
                obtain ⟨BP, hBP⟩ : ∃ BP, BP = wr.heap.size := ⟨_, rfl⟩
                rw [← hBP] at PR hpgB hcw how
                obtain ⟨n, hr⟩ : ∃ n, n = p.length := ⟨_, rfl⟩
                obtain ⟨y1, hy1⟩ : ∃ y1, y1 = y - 1 := ⟨_, rfl⟩
                have hEl := OW.out.1
                have hp32 : p.length ≤ 32 := by
                  have h1 := few_32' hnd (fun u hu => by have := Wn_lt (n := L) (fun e he => ⟨(HE.out e (by have := HNN.out; omega)).1, (HE.out e (by have := HNN.out; omega)).2.1⟩) hw hvL u hu; omega)
                  rw [Wn_len] at h1
                  omega
                have FC := Lib.hid (flw_count hEl hw hnd)
                have FL := Lib.hid (flw_last hEl hw hnd hne0)
                have WL := Lib.hid (fun k hk => hw.lt k hk)
                have hlast := hw.last hne0
                have OF := Lib.hid (OW.out.flw (p := p) hw.lt)
                have htv : t ≠ v := fun e => by have := HY.out; rw [e] at htm; omega
                have HMV := Lib.hid (cnL_move (n := L) (os := os) (os' := flw (ep ns) os p) hvL htL htv FC.out)
                have hct : ((cnL L os).set v (os.count v - 1)).getD t 0 = os.count t := by rw [getD_set (by rw [cnL_len]; exact hvL), if_neg htv, cnL_at os htL]
                have FW2 := Lib.hid (show ∀ u, u < v → (flw (ep ns) os p).count u ≤ most from fun u hu => by
                  have h1 := FC.out u
                  have h2 := FW.out u hu
                  rw [if_neg (show ¬ v = u by omega)] at h1
                  by_cases e : t = u
                  · subst e; rw [if_pos rfl] at h1; omega
                  · rw [if_neg e] at h1; omega)
                have ht9 : os.count t ≤ 1024 := by omega
                have CN := Lib.hid (show (flw (ep ns) os p).count v < os.count v from by
                  have h1 := FC.out v
                  rw [if_pos rfl, if_neg htv] at h1
                  omega)
                have HCV := Lib.hid (CV.out.trans (cnL_at os hvL))
                have hy2 : os.count v - 1 = y1 := by rw [← HY.out, hy1]
                rw [hy2] at HMV hct
                have M6 := Lib.hid (M5.out.count v y1)
                have P6 := Lib.hid (PR.out.setCell_below (a := ⟨cg, v, none⟩) hcw (.int .i64 (y1 : Int)))
                have B6 := Lib.hid (B5.out.setCell (p := ⟨cg, v, none⟩) (by show w.heap.size ≤ cg; omega) (.int .i64 (y1 : Int)))
                have hyi : ((y1 : Nat) : Int) = (y : Int) - 1 := by omega
                rw [hyi] at M6 P6 B6
                have hlenc : ((cnL L os).set v y1).length = L := by rw [List.length_set, cnL_len]
                generalize hcs : (cnL L os).set v y1 = cs at *
                have HRR := Lib.hid hr
                have hn9 : n ≤ 32 := by omega
                have hn0 : 0 < n := by omega
                have hnb : ((n : Int) == 0) = false := by rw [beq_eq_false_iff_ne]; omega
                have hy0 : 0 < y := by omega
                clear hw hnd hbig HY CV FC hcs hy2 hBP hne0 hp32 hpos hy1 hyi
                rw [← hr]
                clear hr
                go_wp2_with fail
                generalize w5.setCell ⟨cg, v, none⟩ (.int .i64 ((y : Int) - 1)) = w6 at *
                go_loopw [12] (fun i wq => ∃ (j : Nat), i = .int .i64 (j : Int) ∧ j ≤ n ∧ Mst wq w.heap.size cg L (.slice (some ⟨og, 0, none⟩) x oc) (flw (ep ns) os (p.take j)) cs ∧ Ints BP wq (.slice (some ⟨pg, 0, none⟩) (n) pc) (toI p) ∧ Below w.heap.size w wq) (fun i _ => n - (intOf i).toNat)
                case atStart => exact ⟨0, rfl, Nat.zero_le _, M6.out, by rw [HRR.out]; exact P6.out, B6.out⟩
                case round =>
                  obtain ⟨i, rfl, hi, hM, hP, hbe⟩ := hrel
                  have MQ := Lib.hid hM
                  have PQ := Lib.hid hP
                  have BQ := Lib.hid hbe
                  clear hM hP hbe M6 P6 B6 M5 B5
                  by_cases hir : i < n
                  · have hil : i < p.length := by have := HRR.out; omega
                    have heE := WL.out _ (getD_of_lt hil)
                    have cpi := (PQ.out.cellAt i (by rw [toI_length]; exact hil)).1
                    rw [toI_getD] at cpi
                    have hpglt := (PQ.out.lt pg rfl).2
                    have hoglt := (MQ.out.own.lt og rfl).2
                    have hfl : (flw (ep ns) os (p.take i)).length = x := by rw [flw_len]; exact HOS.out
                    have heN : p.getD i 0 < x := by have := HNN.out; omega
                    have co := (MQ.out.own.cellAt (p.getD i 0) (by rw [toI_length, hfl]; exact heN)).1
                    have cof := (MQ.out.own.cellAt (p.getD i 0) (by rw [toI_length, hfl]; exact heN)).2
                    rw [toI_getD] at co
                    obtain ⟨rfl, heb⟩ := E1.out (by omega)
                    obtain ⟨hp1, hp2, -⟩ := HE.out _ heN
                    obtain ⟨ce0, ce1⟩ := E5.out _ heN
                    rw [HEG.out _ heN] at ce0 ce1
                    replace ce0 := (BQ.out.cell (p := ⟨eb, eoff + p.getD i 0 * 2, none⟩) heb).trans ce0
                    replace ce1 := (BQ.out.cell (p := ⟨eb, eoff + p.getD i 0 * 2 + 1, none⟩) heb).trans ce1
                    have helt : eb < wr.heap.size := Nat.lt_of_lt_of_le heb BQ.out.size
                    have HFS := Lib.hid (show flw (ep ns) os (p.take (i + 1)) = (flw (ep ns) os (p.take i)).set (p.getD i 0) (oth ((ep ns).getD (p.getD i 0) (0, 0)) ((flw (ep ns) os (p.take i)).getD (p.getD i 0) 0)) by
                      rw [List.take_succ_eq_append_getElem hil, show p[i] = p.getD i 0 by rw [List.getD_eq_getElem?_getD, List.getElem?_eq_getElem hil]; rfl, flw_snoc])
                    have HOTk := Lib.hid (fun u w h => HOT.out _ _ u w h hp1 hp2)
                    have HOTu := Lib.hid (fun w h => HOTk.out ((flw (ep ns) os (p.take i)).getD (p.getD i 0) 0) w h)
                    clear HOTk
                    rw [show ∀ u, oth (((ep ns).getD (p.getD i 0) (0, 0)).1, ((ep ns).getD (p.getD i 0) (0, 0)).2) u = oth ((ep ns).getD (p.getD i 0) (0, 0)) u from fun _ => rfl] at HOTu
                    have HOTk := HOTu
                    clear HOTu hp1 hp2 heE hfl hil
                    generalize oth ((ep ns).getD (p.getD i 0) (0, 0)) ((flw (ep ns) os (p.take i)).getD (p.getD i 0) 0) = z at *
                    generalize ns.getD ((ep ns).getD (p.getD i 0) (0, 0)).1 0 = X at *
                    generalize ns.getD ((ep ns).getD (p.getD i 0) (0, 0)).2 0 = Y at *
                    generalize (flw (ep ns) os (p.take i)).getD (p.getD i 0) 0 = y0 at *
                    generalize flw (ep ns) os (p.take i) = fo at *
                    generalize p.getD i 0 = e at *
                    have heI : (e : Int) < (x : Int) := by omega
                    have hiI : (i : Int) < ((n : Nat) : Int) := by omega
                    go_wp2_with fail
                    refine wp_region_held_drew (S := fun w' => w'.cell? ⟨eb, eoff + e * 2, none⟩ = some (.int .i64 (X : Int)) ∧ w'.cell? ⟨eb, eoff + e * 2 + 1, none⟩ = some (.int .i64 (Y : Int)) ∧ w'.cell? ⟨pg, i, none⟩ = some (.int .i64 (e : Int))) (by kernel_rfl) (by exact ⟨ce0, ce1, cpi⟩) (fun hHeld => ?_)
                    refine wpAnyH_take (i := 0) (v := ?_) rfl (by kernel_rfl) (by kernel_rfl) (by kernel_rfl) (fun _ _ _ h => h) (Or.inl ⟨by rfl, ?_⟩) (by assumption) ?_
                    rotate_left
                    · (intro w hSw; (try dsimp only at hSw); go_simp; try with_reducible rfl)
                    try simp only [List.getElem_toArray, List.getElem_cons_zero, Act.put, List.setIfInBounds_toArray, List.set_cons_zero, List.set_cons_succ]
                    refine wpAnyH_take (i := 1) (v := ?_) rfl (by kernel_rfl) (by kernel_rfl) (by kernel_rfl) (fun _ _ _ h => h) (Or.inl ⟨by rfl, ?_⟩) (by assumption) ?_
                    rotate_left
                    · (intro w hSw; (try dsimp only at hSw); go_simp; try with_reducible rfl)
                    try simp only [List.getElem_toArray, List.getElem_cons_zero, List.getElem_cons_succ, Act.put, List.setIfInBounds_toArray, List.set_cons_zero, List.set_cons_succ]
                    refine wpAnyH_take (i := 2) (v := ?_) rfl (by kernel_rfl) (by kernel_rfl) (by kernel_rfl) (fun _ _ _ h => h) (Or.inl ⟨by rfl, ?_⟩) (by assumption) ?_
                    rotate_left
                    · (intro w hSw; (try dsimp only at hSw); go_simp; try with_reducible rfl)
                    try simp only [List.getElem_toArray, List.getElem_cons_zero, List.getElem_cons_succ, Act.put, List.setIfInBounds_toArray, List.set_cons_zero, List.set_cons_succ]
                    refine wpAnyH_take (i := 3) (v := ?_) rfl (by kernel_rfl) (by kernel_rfl) (by kernel_rfl) (fun _ _ _ h => h) (Or.inl ⟨by rfl, ?_⟩) (by assumption) ?_
                    rotate_left
                    · (intro w hSw; (try dsimp only at hSw); go_simp; try with_reducible rfl)
                    try simp only [List.getElem_toArray, List.getElem_cons_zero, List.getElem_cons_succ, Act.put, List.setIfInBounds_toArray, List.set_cons_zero, List.set_cons_succ]
                    refine wpAnyH_take (i := 4) (v := ?_) rfl (by kernel_rfl) (by kernel_rfl) (by kernel_rfl) (fun _ _ _ h => h) (Or.inl ⟨by rfl, ?_⟩) (by assumption) ?_
                    rotate_left
                    · (intro w hSw; (try dsimp only at hSw); go_simp; try with_reducible rfl)
                    try simp only [List.getElem_toArray, List.getElem_cons_zero, List.getElem_cons_succ, Act.put, List.setIfInBounds_toArray, List.set_cons_zero, List.set_cons_succ]
                    refine wpAnyH_take (i := 5) (v := ?_) rfl (by kernel_rfl) (by kernel_rfl) (by kernel_rfl) (fun _ _ _ h => h) (Or.inl ⟨by rfl, ?_⟩) (by assumption) ?_
                    rotate_left
                    · (intro w hSw; (try dsimp only at hSw); go_simp; try with_reducible rfl)
                    try simp only [List.getElem_toArray, List.getElem_cons_zero, List.getElem_cons_succ, Act.put, List.setIfInBounds_toArray, List.set_cons_zero, List.set_cons_succ]
                    refine wpAnyH_take (i := 6) (v := ?_) rfl (by kernel_rfl) (by kernel_rfl) (by kernel_rfl) (fun _ _ _ h => h) (Or.inl ⟨by rfl, ?_⟩) (by assumption) ?_
                    rotate_left
                    · (intro w hSw; (try dsimp only at hSw); go_simp; try with_reducible rfl)
                    try simp only [List.getElem_toArray, List.getElem_cons_zero, List.getElem_cons_succ, Act.put, List.setIfInBounds_toArray, List.set_cons_zero, List.set_cons_succ]
                    refine wpAnyH_take (i := 7) (v := ?_) rfl (by kernel_rfl) (by kernel_rfl) (by kernel_rfl) (fun _ _ _ h => h) (Or.inl ⟨by rfl, ?_⟩) (by assumption) ?_
                    rotate_left
                    · (intro w hSw; (try dsimp only at hSw); go_simp; try with_reducible rfl)
                    try simp only [List.getElem_toArray, List.getElem_cons_zero, List.getElem_cons_succ, Act.put, List.setIfInBounds_toArray, List.set_cons_zero, List.set_cons_succ]
                    refine wpAnyH_take (i := 8) (v := ?_) rfl (by kernel_rfl) (by kernel_rfl) (by kernel_rfl) (fun _ _ _ h => h) (Or.inl ⟨by rfl, ?_⟩) (by assumption) ?_
                    rotate_left
                    · (intro w hSw; (try dsimp only at hSw); go_simp; try with_reducible rfl)
                    try simp only [List.getElem_toArray, List.getElem_cons_zero, List.getElem_cons_succ, Act.put, List.setIfInBounds_toArray, List.set_cons_zero, List.set_cons_succ]
                    refine wpAnyH_take (i := 9) (v := ?_) rfl (by kernel_rfl) (by kernel_rfl) (by kernel_rfl) (fun _ _ _ h => h) (Or.inl ⟨by rfl, ?_⟩) (by assumption) ?_
                    rotate_left
                    · (intro w hSw; (try dsimp only at hSw); go_simp; try with_reducible rfl)
                    try simp only [List.getElem_toArray, List.getElem_cons_zero, List.getElem_cons_succ, Act.put, List.setIfInBounds_toArray, List.set_cons_zero, List.set_cons_succ]
                    refine wpAnyH_take (i := 10) (v := ?_) rfl (by kernel_rfl) (by kernel_rfl) (by kernel_rfl) (fun _ _ _ h => h) (Or.inl ⟨by rfl, ?_⟩) (by assumption) ?_
                    rotate_left
                    · (intro w hSw; (try dsimp only at hSw); go_simp; try with_reducible rfl)
                    try simp only [List.getElem_toArray, List.getElem_cons_zero, List.getElem_cons_succ, Act.put, List.setIfInBounds_toArray, List.set_cons_zero, List.set_cons_succ]
                    refine wpAnyH_take (i := 11) (v := ?_) rfl (by kernel_rfl) (by kernel_rfl) (by kernel_rfl) (fun _ _ _ h => h) (Or.inl ⟨by rfl, ?_⟩) (by assumption) ?_
                    rotate_left
                    · (intro w hSw; (try dsimp only at hSw); go_simp; try with_reducible rfl)
                    try simp only [List.getElem_toArray, List.getElem_cons_zero, List.getElem_cons_succ, Act.put, List.setIfInBounds_toArray, List.set_cons_zero, List.set_cons_succ]
                    refine wpAnyH_take (i := 12) (v := ?_) rfl (by kernel_rfl) (by kernel_rfl) (by kernel_rfl) (fun _ _ _ h => h) (Or.inl ⟨by rfl, ?_⟩) (by assumption) ?_
                    rotate_left
                    · (intro w hSw; (try dsimp only at hSw); go_simp; try with_reducible rfl)
                    try simp only [List.getElem_toArray, List.getElem_cons_zero, List.getElem_cons_succ, Act.put, List.setIfInBounds_toArray, List.set_cons_zero, List.set_cons_succ]
                    refine wpAnyH_take (i := 13) (v := ?_) rfl (by kernel_rfl) (by kernel_rfl) (by kernel_rfl) (fun _ _ _ h => h) (Or.inl ⟨by rfl, ?_⟩) (by assumption) ?_
                    rotate_left
                    · (intro w hSw; (try dsimp only at hSw); go_simp; try with_reducible rfl)
                    try simp only [List.getElem_toArray, List.getElem_cons_zero, List.getElem_cons_succ, Act.put, List.setIfInBounds_toArray, List.set_cons_zero, List.set_cons_succ]
                    refine wpAnyH_take (i := 14) (v := ?_) rfl (by kernel_rfl) (by kernel_rfl) (by kernel_rfl) (fun _ _ _ h => h) (Or.inl ⟨by rfl, ?_⟩) (by assumption) ?_
                    rotate_left
                    · (intro w hSw; (try dsimp only at hSw); go_simp; try with_reducible rfl)
                    try simp only [List.getElem_toArray, List.getElem_cons_zero, List.getElem_cons_succ, Act.put, List.setIfInBounds_toArray, List.set_cons_zero, List.set_cons_succ]
                    refine wpAnyH_take (i := 15) (v := ?_) rfl (by kernel_rfl) (by kernel_rfl) (by kernel_rfl) (fun _ _ _ h => h) (Or.inl ⟨by rfl, ?_⟩) (by assumption) ?_
                    rotate_left
                    · (intro w hSw; (try dsimp only at hSw); go_simp; try with_reducible rfl)
                    try simp only [List.getElem_toArray, List.getElem_cons_zero, List.getElem_cons_succ, Act.put, List.setIfInBounds_toArray, List.set_cons_zero, List.set_cons_succ]
                    refine wpAnyH_take (i := 16) (v := ?_) rfl (by kernel_rfl) (by kernel_rfl) (by kernel_rfl) (fun _ _ _ h => h) (Or.inl ⟨by rfl, ?_⟩) (by assumption) ?_
                    rotate_left
                    · (intro w hSw; (try dsimp only at hSw); go_simp; try with_reducible rfl)
                    try simp only [List.getElem_toArray, List.getElem_cons_zero, List.getElem_cons_succ, Act.put, List.setIfInBounds_toArray, List.set_cons_zero, List.set_cons_succ]
                    refine wpAnyH_take (i := 17) (v := ?_) rfl (by kernel_rfl) (by kernel_rfl) (by kernel_rfl) (fun _ _ _ h => h) (Or.inl ⟨by rfl, ?_⟩) (by assumption) ?_
                    rotate_left
                    · (intro w hSw; (try dsimp only at hSw); go_simp; try with_reducible rfl)
                    try simp only [List.getElem_toArray, List.getElem_cons_zero, List.getElem_cons_succ, Act.put, List.setIfInBounds_toArray, List.set_cons_zero, List.set_cons_succ]
                    refine wpAnyH_take (i := 18) (v := ?_) rfl (by kernel_rfl) (by kernel_rfl) (by kernel_rfl) (fun _ _ _ h => h) (Or.inl ⟨by rfl, ?_⟩) (by assumption) ?_
                    rotate_left
                    · (intro w hSw; (try dsimp only at hSw); go_simp; try with_reducible rfl)
                    try simp only [List.getElem_toArray, List.getElem_cons_zero, List.getElem_cons_succ, Act.put, List.setIfInBounds_toArray, List.set_cons_zero, List.set_cons_succ]
                    refine wpAnyH_ready (rs := [19]) (by kernel_rfl) (by simp) ?_
                    refine (AllReadyH.cons rfl (fun KK hK => ?_) AllReadyH.nil)
                    try simp only [List.getElem_toArray]
                    go_simp
                    refine hK.out _ _ (by exact ⟨ce0, ce1, cpi⟩) (fun hHeld => ?_)
                    clear hK KK
                    try simp only [List.getElem_toArray, List.getElem_cons_zero, List.getElem_cons_succ, Act.put, List.setIfInBounds_toArray, List.set_cons_zero, List.set_cons_succ]
                    refine wpAnyH_ready (rs := [20]) (by kernel_rfl) (by simp) ?_
                    refine (AllReadyH.cons rfl (fun KK hK => ?_) AllReadyH.nil)
                    try simp only [List.getElem_toArray]
                    go_simp
                    (go_at_call 34; refine (HOTk.out _ (H.out.below BQ.out.drew (Nat.le_refl _))).mono ?_; rintro e9 w5 ⟨rfl, hb5⟩)
                    have HB5 := Lib.hid (show Below wr.heap.size wr w5 from ⟨hb5.os, hb5.tape, hb5.output, hb5.size, hb5.block⟩)
                    have M5 := Lib.hid (MQ.out.below HB5.out)
                    have P5 := Lib.hid (PQ.out.below HB5.out (Nat.le_refl _))
                    have B5 := Lib.hid (BQ.out.trans (HB5.out.mono BQ.out.size))
                    have cf := (HB5.out.frozen (p := ⟨og, e, none⟩) hoglt).trans cof
                    have ce0' := (HB5.out.cell (p := ⟨eb, eoff + e * 2, none⟩) helt).trans ce0
                    have ce1' := (HB5.out.cell (p := ⟨eb, eoff + e * 2 + 1, none⟩) helt).trans ce1
                    have cpi' := (HB5.out.cell (p := ⟨pg, i, none⟩) hpglt).trans cpi
                    have co' := (HB5.out.cell (p := ⟨og, e, none⟩) hoglt).trans co
                    refine hK.out _ _ (by exact ⟨ce0', ce1', cpi'⟩) (fun hHeld => ?_)
                    clear hK KK
                    try simp only [List.getElem_toArray, List.getElem_cons_zero, List.getElem_cons_succ, Act.put, List.setIfInBounds_toArray, List.set_cons_zero, List.set_cons_succ]
                    refine wpAnyH_take (i := 21) (v := ?_) rfl (by kernel_rfl) (by kernel_rfl) (by kernel_rfl) (fun _ _ _ h => h) (Or.inl ⟨by rfl, ?_⟩) (by assumption) ?_
                    rotate_left
                    · (intro w hSw; (try dsimp only at hSw); go_simp; try with_reducible rfl)
                    try simp only [List.getElem_toArray, List.getElem_cons_zero, List.getElem_cons_succ, Act.put, List.setIfInBounds_toArray, List.set_cons_zero, List.set_cons_succ]
                    refine wpAnyH_ready (rs := [22]) (by kernel_rfl) (by simp) ?_
                    refine (AllReadyH.cons rfl (fun KK hK => ?_) AllReadyH.nil)
                    try simp only [List.getElem_toArray]
                    go_simp
                    have M6 := Lib.hid (M5.out.turn e z)
                    have P6 := Lib.hid (P5.out.setCell_below (a := ⟨og, e, none⟩) (by show og < BP; omega) (.int .i64 ((z : Nat) : Int)))
                    have B6 := Lib.hid (B5.out.setCell (p := ⟨og, e, none⟩) (by show w.heap.size ≤ og; omega) (.int .i64 ((z : Nat) : Int)))
                    refine hK.out _ _ (by exact ⟨(World.cell?_setCell_other _ _ _ _ (fun k => by simp only [Addr.mk.injEq, and_true] at k; omega)).trans ce0', (World.cell?_setCell_other _ _ _ _ (fun k => by simp only [Addr.mk.injEq, and_true] at k; omega)).trans ce1', (World.cell?_setCell_other _ _ _ _ (fun k => by simp only [Addr.mk.injEq, and_true] at k; omega)).trans cpi'⟩) (fun hHeld => ?_)
                    clear hK KK
                    try simp only [List.getElem_toArray, List.getElem_cons_zero, List.getElem_cons_succ, Act.put, List.setIfInBounds_toArray, List.set_cons_zero, List.set_cons_succ]
                    refine wpAnyH_done (by kernel_rfl) ?_ _
                    go_wp2_with fail
                    go_roundw
                    case rel => exact ⟨i + 1, by go_num, by omega, by rw [HFS.out]; exact M6.out, P6.out, B6.out⟩
                    case measure => simp [intOf]; omega
                  · obtain ⟨r, hr⟩ : ∃ r, n = r + 1 := ⟨n - 1, by omega⟩
                    obtain rfl : i = n := by omega
                    have hiI : ¬ (i : Int) < (i : Int) := by omega
                    rw [show p.take i = p by rw [HRR.out, List.take_length]] at MQ
                    rw [show p.length - 1 = r by have := HRR.out; omega] at FL hlast
                    have hrl : r < p.length := by have := HRR.out; omega
                    have cpr := (PQ.out.cellAt r (by rw [toI_length]; exact hrl)).1
                    rw [toI_getD] at cpr
                    have hfl : (flw (ep ns) os p).length = x := by rw [flw_len]; exact HOS.out
                    have heN : p.getD r 0 < x := by have := HNN.out; omega
                    have co := (MQ.out.own.cellAt (p.getD r 0) (by rw [toI_length, hfl]; exact heN)).1
                    rw [toI_getD, FL.out] at co
                    have cct := (MQ.out.cnt.cellAt t (by rw [toI_length, hlenc]; exact htL)).1
                    have ccf := (MQ.out.cnt.cellAt t (by rw [toI_length, hlenc]; exact htL)).2
                    rw [toI_getD, hct] at cct
                    have M9 := Lib.hid (MQ.out.count t (os.count t + 1))
                    rw [HMV.out] at M9
                    have CN9 := Lib.hid (show cAt (wr.setCell ⟨cg, t, none⟩ (.int .i64 ((os.count t + 1 : Nat) : Int))) cg v < os.count v from by rw [M9.out.cAt (by rw [cnL_len]; exact hvL), cnL_at _ hvL]; exact CN.out)
                    have B9 := Lib.hid (BQ.out.setCell (p := ⟨cg, t, none⟩) (by show w.heap.size ≤ cg; omega) (.int .i64 ((os.count t + 1 : Nat) : Int)))
                    clear FL hlast hrl hfl HMV MQ PQ BQ CN
                    generalize p.getD r 0 = e at *
                    generalize os.count t = y2 at *
                    generalize os.count v = y3 at *
                    have heI : (e : Int) < (x : Int) := by omega
                    have htI : (t : Int) < (L : Int) := by omega
                    have hrI : (r : Int) < (i : Int) := by omega
                    have hwi : IntKind.i64.wrap ((i : Int) - 1) = (r : Int) := by rw [IntKind.wrap_i64]; omega
                    clear hr hn9 hn0 hi hir
                    go_wp2_with fail
                    go_roundw
                    case rel => exact ⟨_, OF.out, FW2.out, M9.out, B9.out⟩
                    case measure => rw [HCV.out]; exact CN9.out
            · have hbI : ¬ (most : Int) < ((os.count v : Nat) : Int) := by omega
              have FW2 := Lib.hid (show ∀ u, u < v + 1 → os.count u ≤ most from fun u hu => by
                by_cases e : u = v
                · subst e; omega
                · exact FW.out u (by omega))
              clear hrdo hrdc hosl hbig
              generalize os.count v = y at *
              go_wp2_with fail
              go_roundw
              case rel => exact ⟨v + 1, os, by go_num, by omega, OW.out, FW2.out, MV.out, BV.out⟩
              case measure => simp [intOf]; omega
        · obtain rfl : v = L := by omega
          have hvI : ¬ (v : Int) < (v : Int) := by omega
          have AS := Lib.hid (HAS.out os OW.out FW.out)
          go_wp2_with fail
          go_ret
          exact .inr ⟨rfl, BV.out, AS.out⟩

end Go.Proofs.Ytpkilacappjkhaa
