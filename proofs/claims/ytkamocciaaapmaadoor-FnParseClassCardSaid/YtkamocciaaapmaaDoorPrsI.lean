/- The program's ParseClass. Conditions: at most 1048576 bytes; the library's variables lie. -/
import Derived.Deep.RegionLaw
import Derived.Test.YtkamocciaaapmaaDoorPrsB
import Derived.Test.YtkamocciaaapmaaDoorZA
namespace Go.Proofs.YtkamocciaaapmaaDoor
open Go.RowKit

/-- a block holds a row of strings -/
def Sx (L : List ByteArray) (G : Nat) (w : World) : Prop := w.heap[G]? = some (Obj.cells (L.map Value.string).toArray 9)
theorem Sx.lt {L : List ByteArray} {G : Nat} {w : World} (h : Sx L G w) : G < w.heap.size := (Array.getElem?_eq_some_iff.1 h).1
theorem Sx.next {L : List ByteArray} {G B : Nat} {w w' : World} (h : Sx L G w) (hb : Below B w w') (ho : G < B) : Sx L G w' := (hb.block G ho).trans h
theorem Sx.alloc {L : List ByteArray} {G : Nat} {w : World} (h : Sx L G w) (x : Obj) : Sx L G (w.alloc x) := h.next ((Below.refl _ _).alloc (Nat.le_refl _) x) h.lt
theorem Sx.kept {L : List ByteArray} {G : Nat} {r : Option Nat} {w w' : World} (h : Sx L G w) (hg : w.grownBy w' r) (hne : some G ≠ r) : Sx L G w' := (hg.block G h.lt hne).trans h
theorem Sx.other {L : List ByteArray} {G p j : Nat} {w : World} (h : Sx L G w) (hne : G ≠ p) (u : Value) : Sx L G (w.setCell ⟨p, j, none⟩ u) := by
  show (w.setCell ⟨p, j, none⟩ u).heap[G]? = _
  rw [Below.heap_setCell _ _ _ _ hne]
  exact h
theorem Sx.cell {L : List ByteArray} {G : Nat} {w : World} (h : Sx L G w) {k : Nat} (hk : k < L.length) : w.cell? ⟨G, k, none⟩ = some (.string (L.getD k ⟨#[]⟩)) := by
  simp only [World.cell?, show w.heap[G]? = _ from h]
  simp [List.getD_eq_getElem?_getD, List.getElem?_eq_getElem hk]
/-- the numbers of the first k texts -/
def nmTo (f : ByteArray → Int) (L : List ByteArray) (k : Nat) : List Int := (L.take k).map f
theorem nmTo_len {f : ByteArray → Int} {L : List ByteArray} {k : Nat} (h : k ≤ L.length) : (nmTo f L k).length = k := by rw [nmTo, List.length_map, List.length_take]; omega
theorem nmTo_succ {f : ByteArray → Int} {L : List ByteArray} {k : Nat} (h : k < L.length) : nmTo f L (k + 1) = nmTo f L k ++ [f (L.getD k ⟨#[]⟩)] := by
  rw [nmTo, List.take_succ_eq_append_getElem h, List.map_append, List.getD_eq_getElem?_getD, List.getElem?_eq_getElem h]; rfl
theorem nmTo_all {f : ByteArray → Int} {L : List ByteArray} {k : Nat} (h : k = L.length) : nmTo f L k = L.map f := by rw [nmTo, h, List.take_length]

set_option maxHeartbeats 1600000 in
set_option maxRecDepth 100000 in
theorem implParseClass (s : ByteArray) (hs : s.size ≤ 1048576) (w : World) (hL : Lbs w) :
    Calls Tryd.prog 13 #[.string s] w (RetPC (prN s) (prL s) (prB s) w) := by
  have HL := Lib.hid hL
  have HYs := Lib.hid (fun h1 h2 => prs_yes (s := s) h1 h2)
  have HNo := Lib.hid (fun h => prs_no (s := s) h)
  have hh := cutH_size s
  have ht := cutT_size s
  have HCut := Lib.hid (libCut s hs)
  have HNu := Lib.hid (fun w h => implNumberOr (cutH s) (by omega) w h)
  clear hL
  generalize cutH s = hd at *
  generalize cutT s = tl at *
  generalize prN s = N at *
  generalize prL s = R at *
  generalize prB s = K at *
  have Y := Lib.hid (Bx.new 0 (.slice none 0 0) w)
  have B := Lib.hid (show Below w.heap.size w (w.alloc (Obj.cells #[.int .i64 0, .slice none 0 0] 27)) from (Below.refl _ _).alloc (Nat.le_refl _) _)
  have HZ := Lib.hid (show (w.alloc (Obj.cells #[.int .i64 0, .slice none 0 0] 27)).heap.size = w.heap.size + 1 by simp)
  go_enter Tryd.func13, Tryd.ntmps13
  go_wp2_with fail
  generalize w.alloc (Obj.cells #[.int .i64 0, .slice none 0 0] 27) = w0 at *
  have hz0 := HZ.out
  clear HZ
  generalize hH : w.heap.size = H at *
  have HLb := Lib.hid (fun w' (hb : Below H w w') => HL.out.below hb (Nat.le_of_eq hH))
  refine (HCut.out _ (HLb.out _ B.out)).mono ?_
  rintro e w1 ⟨⟨bb, rfl⟩, hb1⟩
  have hz1 := hb1.size
  replace Y := Lib.hid (Y.out.next hb1 (by omega))
  replace B := Lib.hid (B.out.trans (hb1.mono (by omega)))
  clear hb1 HCut
  go_wp2_with fail
  refine (HNu.out _ (HLb.out _ B.out).1).mono ?_
  rintro e w2 ⟨rfl, hb2⟩
  have hz2 := hb2.size
  replace Y := Lib.hid (Y.out.next hb2 (by omega))
  replace B := Lib.hid (B.out.trans (hb2.mono (by omega)))
  clear hb2 HNu
  generalize numO hd = n at *
  have X := Lib.hid (Bx.new n (.slice none 0 0) w2)
  replace Y := Lib.hid (Y.out.alloc (Obj.cells #[.int .i64 n, .slice none 0 0] 27))
  replace B := Lib.hid (B.out.alloc (by omega) (Obj.cells #[.int .i64 n, .slice none 0 0] 27))
  have HZ := Lib.hid (show (w2.alloc (Obj.cells #[.int .i64 n, .slice none 0 0] 27)).heap.size = w2.heap.size + 1 by simp)
  have HTE := Lib.hid (fun (h : tl = ⟨#[]⟩) => show tl.toList.isEmpty = true from (decide_eq_emptyBytes tl).symm.trans (decide_eq_true (show tl = ByteArray.empty from h)))
  have HTN := Lib.hid (fun (h : ¬ tl = ⟨#[]⟩) => show tl.toList.isEmpty = false from (decide_eq_emptyBytes tl).symm.trans (decide_eq_false (show ¬ tl = ByteArray.empty from h)))
  by_cases h0 : tl = ⟨#[]⟩
  · have hte := HTE.out h0
    have hzs : zsI tl = [] := by rw [zsI, if_pos h0]
    clear HTE HTN h0
    have hI0 : Ints H (w2.alloc (Obj.cells #[.int .i64 n, .slice none 0 0] 27)) (.slice none 0 0) [] := Ints.nil _ _
    have I := Lib.hid hI0
    clear hI0
    go_upto_region 9 with (fail)
    generalize (w2.alloc (Obj.cells #[.int .i64 n, .slice none 0 0] 27)) = v0 at *
    generalize hoC : w2.heap.size = oC at *
    obtain ⟨zs, a', c', hzs, hX, hI⟩ : ∃ (zs : List Int) (a' : Option Addr) (c' : Nat), zs = zsI tl ∧ Bx n (.slice a' zs.length c') oC v0 ∧ Ints H v0 (.slice a' zs.length c') zs := ⟨zsI tl, none, 0, rfl, by rw [hzs]; exact X.out, by rw [hzs]; exact I.out⟩
    replace X := Lib.hid hX
    replace I := Lib.hid hI
    rw [← hzs] at HYs HNo
    clear hX hI hzs HZ hte
    have x0 := X.out.out.at0
    have x1 := X.out.out.at1
    have HV := Lib.hid (fun w h => implValid n (.slice a' zs.length c') zs w h)
    by_cases hv : vldB n zs = true
    · have HCT := Lib.hid (fun w h => implClassText n (.slice a' zs.length c') zs w h)
      have HYv := Lib.hid (HYs.out hv)
      have HNv := Lib.hid (fun (h : ¬ ctB n zs = s) => HNo.out (fun h9 => h h9.2))
      rw [hv] at HV
      clear hv HYs HNo
      generalize ctB n zs = T at *
      go_wp2_with fail
      clear x0 x1
      refine (HV.out _ I.out.rd).mono ?_
      rintro e w5 ⟨rfl, hb5⟩
      have hz5 := hb5.size
      replace X := Lib.hid (X.out.next hb5 X.out.lt)
      replace Y := Lib.hid (Y.out.next hb5 Y.out.lt)
      replace I := Lib.hid (I.out.below hb5 (Nat.le_refl _))
      replace B := Lib.hid (B.out.trans (hb5.mono (by have := B.out.size; omega)))
      clear hb5
      clear HV
      have x0 := X.out.out.at0
      have x1 := X.out.out.at1
      go_wp2_with fail
      clear x0 x1
      refine (HCT.out _ I.out.rd).mono ?_
      rintro e w6 ⟨rfl, hb6⟩
      have hz6 := hb6.size
      replace X := Lib.hid (X.out.next hb6 X.out.lt)
      replace Y := Lib.hid (Y.out.next hb6 Y.out.lt)
      replace I := Lib.hid (I.out.below hb6 (Nat.le_refl _))
      replace B := Lib.hid (B.out.trans (hb6.mono (by have := B.out.size; omega)))
      clear hb6
      clear HCT
      by_cases hq : T = s
      · obtain ⟨HN, HR, HK⟩ := HYv.out hq
        have hqb : (T.toList == s.toList) = true := by rw [hq]; exact beq_self_eq_true _
        clear hq HYv HNv
        have x0 := X.out.out.at0
        have x1 := X.out.out.at1
        have r0 := Y.out.out.at0
        have r1 := Y.out.out.at1
        have q0 := Y.out.out.free0
        have q1 := Y.out.out.free1
        have Y8 := Lib.hid ((Y.out.setN n).set (.slice a' zs.length c'))
        have y0 := Y8.out.out.at0
        have y1 := Y8.out.out.at1
        go_wp2_with fail
        refine bodyPost_ret (v := .tuple #[.agg #[.int .i64 n, .slice a' zs.length c'], .bool true]) (by simp [results, Tryd.results13, go_sem, y0, y1]) rfl ?_
        rw [HN, HR, HK]
        refine ⟨a', c', rfl, ?_, ?_⟩
        · rw [hH]
          exact (I.out.bx Y.out 0 _).bx (Y.out.setN n) 1 _
        · rw [hH]
          have hb0 := B.out
          clear r0 r1 q0 q1 y0 y1
          go_grown
      · obtain ⟨HN, HR, HK⟩ := HNv.out hq
        have hqb : (T.toList == s.toList) = false := beq_eq_false_iff_ne.2 (fun h => hq (by rw [ByteArray.toList_eq, ByteArray.toList_eq] at h; exact ByteArray.ext (Array.toList_inj.1 h)))
        clear hq HYv HNv
        have r0 := Y.out.out.at0
        have r1 := Y.out.out.at1
        have q0 := Y.out.out.free0
        have q1 := Y.out.out.free1
        have Y8 := Lib.hid ((Y.out.setN 0).set (.slice none 0 0))
        have y0 := Y8.out.out.at0
        have y1 := Y8.out.out.at1
        go_wp2_with fail
        refine bodyPost_ret (v := .tuple #[.agg #[.int .i64 0, .slice none 0 0], .bool false]) (by simp [results, Tryd.results13, go_sem, y0, y1]) rfl ?_
        rw [HN, HR, HK]
        refine ⟨none, 0, rfl, ?_, ?_⟩
        · exact Ints.nil _ _
        · rw [hH]
          have hb0 := B.out
          clear r0 r1 q0 q1 y0 y1
          go_grown
    · obtain ⟨HN, HR, HK⟩ := HNo.out (fun h9 => hv h9.1)
      rw [Bool.not_eq_true] at hv
      rw [hv] at HV
      clear hv HYs HNo
      go_wp2_with fail
      clear x0 x1
      refine (HV.out _ I.out.rd).mono ?_
      rintro e w5 ⟨rfl, hb5⟩
      have hz5 := hb5.size
      replace X := Lib.hid (X.out.next hb5 X.out.lt)
      replace Y := Lib.hid (Y.out.next hb5 Y.out.lt)
      replace I := Lib.hid (I.out.below hb5 (Nat.le_refl _))
      replace B := Lib.hid (B.out.trans (hb5.mono (by have := B.out.size; omega)))
      clear hb5
      clear HV
      have r0 := Y.out.out.at0
      have r1 := Y.out.out.at1
      have q0 := Y.out.out.free0
      have q1 := Y.out.out.free1
      have Y8 := Lib.hid ((Y.out.setN 0).set (.slice none 0 0))
      have y0 := Y8.out.out.at0
      have y1 := Y8.out.out.at1
      go_wp2_with fail
      refine bodyPost_ret (v := .tuple #[.agg #[.int .i64 0, .slice none 0 0], .bool false]) (by simp [results, Tryd.results13, go_sem, y0, y1]) rfl ?_
      rw [HN, HR, HK]
      refine ⟨none, 0, rfl, ?_, ?_⟩
      · exact Ints.nil _ _
      · rw [hH]
        have hb0 := B.out
        clear r0 r1 q0 q1 y0 y1
        go_grown
  · have hte := HTN.out h0
    have hzs : zsI tl = (spB tl).map numO := by rw [zsI, if_neg h0]
    rw [hzs] at HYs HNo
    have HSp := Lib.hid (libSplit tl (by omega))
    have HSz := Lib.hid (spB_size tl)
    have hfew := spB_few tl
    clear HTE HTN h0 hzs
    generalize spB tl = L at *
    have HNm := Lib.hid (fun x (hx : x ∈ L) w h => implNumberOr x (by have := HSz.out x hx; omega) w h)
    go_wp2_with fail
    generalize (w2.alloc (Obj.cells #[.int .i64 n, .slice none 0 0] 27)) = v0 at *
    have hzv : w2.heap.size < v0.heap.size := by have := HZ.out; omega
    clear HZ
    generalize hoC : w2.heap.size = oC at *
    refine (HSp.out _ (HLb.out _ B.out)).mono ?_
    rintro e w3 ⟨rfl, rfl⟩
    have S := Lib.hid (show Sx L v0.heap.size (v0.alloc (Obj.cells (L.map Value.string).toArray 9)) from heap_alloc_new _ _)
    replace X := Lib.hid (X.out.alloc (Obj.cells (L.map Value.string).toArray 9))
    replace Y := Lib.hid (Y.out.alloc (Obj.cells (L.map Value.string).toArray 9))
    replace B := Lib.hid (B.out.alloc (by omega) (Obj.cells (L.map Value.string).toArray 9))
    have HZ := Lib.hid (show (v0.alloc (Obj.cells (L.map Value.string).toArray 9)).heap.size = v0.heap.size + 1 by simp)
    generalize (v0.alloc (Obj.cells (L.map Value.string).toArray 9)) = v1 at *
    have hzv1 : v0.heap.size + 1 ≤ v1.heap.size := by have := HZ.out; omega
    clear HZ HSp
    generalize hG : v0.heap.size = G at *
    have hoH : H < oC := by omega
    have hoG : oC < G := by omega
    have HLen := Lib.hid (show (nmTo numO L 0).length = 0 from rfl)
    go_wp2_with fail
    go_loopw [24] (fun i wr => ∃ (k : Nat) (a' : Option Addr) (c' : Nat), k ≤ L.length ∧ i = .int .i64 k ∧ Bx n (.slice a' k c') oC wr ∧ Ints (G + 1) wr (.slice a' k c') (nmTo numO L k) ∧ Bx 0 (.slice none 0 0) H wr ∧ Sx L G wr ∧ G + 1 ≤ wr.heap.size ∧ Below H w wr) (fun i _ => L.length - (intOf i).toNat)
    case atStart => exact ⟨0, none, 0, Nat.zero_le _, rfl, X.out, Ints.nil _ _, Y.out, S.out, by omega, B.out⟩
    case round =>
      obtain ⟨k, a', c', hk, rfl, hx, hin, hy, hsx, hzw, hbl⟩ := hrel
      replace X := Lib.hid hx
      replace Y := Lib.hid hy
      replace S := Lib.hid hsx
      replace B := Lib.hid hbl
      have I := Lib.hid hin
      clear hx hin hy hsx hbl
      by_cases hlt : k < L.length
      · have hki : (k : Int) < (L.length : Int) := by omega
        have hsc := S.out.cell hlt
        have HSu := Lib.hid (nmTo_succ (f := numO) hlt)
        have HLk := Lib.hid (nmTo_len (f := numO) hk)
        have hmem : L.getD k ⟨#[]⟩ ∈ L := by rw [List.getD_eq_getElem?_getD, List.getElem?_eq_getElem hlt]; exact List.getElem_mem hlt
        have HNx := Lib.hid (HNm.out _ hmem)
        clear hmem
        generalize L.getD k ⟨#[]⟩ = x at *
        generalize numO x = z at *
        generalize nmTo numO L k = A at *
        go_wp2_with fail
        have XW := Lib.hid (show Bx n (.slice a' k c') oC wr.drew from X.out)
        have YW := Lib.hid (show Bx 0 (.slice none 0 0) H wr.drew from Y.out)
        have SW := Lib.hid (show Sx L G wr.drew from S.out)
        have IW := Lib.hid (show Ints (G + 1) wr.drew (.slice a' k c') A from I.out)
        have BW := Lib.hid B.out.drew
        have x1 := X.out.out.at1
        clear hsc
        go_region_law (first
          | (go_simp; go_at_call 30; refine (HNx.out _ (HLb.out _ BW.out).1).mono ?_; rintro e w9 ⟨rfl, hb9⟩; have hz9 : wr.heap.size ≤ w9.heap.size := hb9.size; have X9 := Lib.hid (XW.out.next hb9 XW.out.lt); have Y9 := Lib.hid (YW.out.next hb9 YW.out.lt); have S9 := Lib.hid (SW.out.next hb9 SW.out.lt); have I9 := Lib.hid (IW.out.below hb9 (Nat.le_refl _)); have B9 := Lib.hid (BW.out.trans (hb9.mono (by have := BW.out.size; omega))); clear hb9; have x9 := X9.out.out.at1; have x9a := (X9.out.alloc (Obj.cells #[.int .i64 z] 3)).out.at1)
          | (refine step_app rfl (.tmp 29) (.tmp 32) rfl (G + 1) _ A rfl (by exact I9.out.alloc _) _ _ _ [z] rfl (src_cell (by rw [World.cell?_alloc_at _ _ _ _ rfl]; rfl)) (by rw [HLk.out]; omega) (by simp; omega) ?_; intro a5 c5 w5 hin5 hb5 hg5; have hz5 := hg5.size; have I5 := Lib.hid hin5; have X5 := Lib.hid ((X9.out.alloc (Obj.cells #[.int .i64 z] 3)).kept hg5 (X9.out.not_row I9.out)); have Y5 := Lib.hid ((Y9.out.alloc (Obj.cells #[.int .i64 z] 3)).kept hg5 (Y9.out.not_row I9.out)); have S5 := Lib.hid ((S9.out.alloc (Obj.cells #[.int .i64 z] 3)).kept hg5 (fun e => by have := (I9.out.lt G e.symm).1; omega)); have B5 := Lib.hid ((B9.out.alloc (by have := B9.out.size; omega) (Obj.cells #[.int .i64 z] 3)).grown hg5 (by simp; omega) (fun r hr => by have := (I9.out.lt r hr).1; omega)); clear hin5 hb5 hg5; have f1 := X5.out.out.at1; have g1 := X5.out.out.free1))
        all_goals
          rw [HLk.out] at I5
          go_wp2_with fail
          go_roundw
          case rel => exact ⟨k + 1, a5, c5, by omega, by go_num, by rw [← HLk.out]; exact X5.out.set _, by rw [HSu.out]; rw [HLk.out]; exact I5.out.bx X5.out 1 _, Y5.out.other (by omega) _, S5.out.other (by omega) _, by simp at hz5 ⊢; omega, B5.out.setCell (by show H ≤ oC; omega) _⟩
          case measure => simp [intOf]; omega
      · have hke : k = L.length := by omega
        have HA := nmTo_all (f := numO) hke
        rw [HA] at I
        rw [hke] at X I ⊢
        have hml : (L.map numO).length = L.length := List.length_map _
        rw [← hml] at X I
        clear HA HNm HSz
        have hnl : ¬ (L.length : Int) < (L.length : Int) := by omega
        replace I := Lib.hid (I.out.mono (show H ≤ G + 1 by omega))
        go_upto_region 9 with (fail)
        clear hml hnl hke hk
        generalize L.map numO = zs at *
        have x0 := X.out.out.at0
        have x1 := X.out.out.at1
        have HV := Lib.hid (fun w h => implValid n (.slice a' zs.length c') zs w h)
        by_cases hv : vldB n zs = true
        · have HCT := Lib.hid (fun w h => implClassText n (.slice a' zs.length c') zs w h)
          have HYv := Lib.hid (HYs.out hv)
          have HNv := Lib.hid (fun (h : ¬ ctB n zs = s) => HNo.out (fun h9 => h h9.2))
          rw [hv] at HV
          clear hv HYs HNo
          generalize ctB n zs = T at *
          go_wp2_with fail
          clear x0 x1
          refine (HV.out _ I.out.rd).mono ?_
          rintro e w5 ⟨rfl, hb5⟩
          have hz5 := hb5.size
          replace X := Lib.hid (X.out.next hb5 X.out.lt)
          replace Y := Lib.hid (Y.out.next hb5 Y.out.lt)
          replace I := Lib.hid (I.out.below hb5 (Nat.le_refl _))
          replace B := Lib.hid (B.out.trans (hb5.mono (by have := B.out.size; omega)))
          clear hb5
          clear HV
          have x0 := X.out.out.at0
          have x1 := X.out.out.at1
          go_wp2_with fail
          clear x0 x1
          refine (HCT.out _ I.out.rd).mono ?_
          rintro e w6 ⟨rfl, hb6⟩
          have hz6 := hb6.size
          replace X := Lib.hid (X.out.next hb6 X.out.lt)
          replace Y := Lib.hid (Y.out.next hb6 Y.out.lt)
          replace I := Lib.hid (I.out.below hb6 (Nat.le_refl _))
          replace B := Lib.hid (B.out.trans (hb6.mono (by have := B.out.size; omega)))
          clear hb6
          clear HCT
          by_cases hq : T = s
          · obtain ⟨HN, HR, HK⟩ := HYv.out hq
            have hqb : (T.toList == s.toList) = true := by rw [hq]; exact beq_self_eq_true _
            clear hq HYv HNv
            have x0 := X.out.out.at0
            have x1 := X.out.out.at1
            have r0 := Y.out.out.at0
            have r1 := Y.out.out.at1
            have q0 := Y.out.out.free0
            have q1 := Y.out.out.free1
            have Y8 := Lib.hid ((Y.out.setN n).set (.slice a' zs.length c'))
            have y0 := Y8.out.out.at0
            have y1 := Y8.out.out.at1
            go_wp2_with fail
            refine bodyPost_ret (v := .tuple #[.agg #[.int .i64 n, .slice a' zs.length c'], .bool true]) (by simp [results, Tryd.results13, go_sem, y0, y1]) rfl ?_
            rw [HN, HR, HK]
            refine ⟨a', c', rfl, ?_, ?_⟩
            · rw [hH]
              exact (I.out.bx Y.out 0 _).bx (Y.out.setN n) 1 _
            · rw [hH]
              have hb0 := B.out
              clear r0 r1 q0 q1 y0 y1
              go_grown
          · obtain ⟨HN, HR, HK⟩ := HNv.out hq
            have hqb : (T.toList == s.toList) = false := beq_eq_false_iff_ne.2 (fun h => hq (by rw [ByteArray.toList_eq, ByteArray.toList_eq] at h; exact ByteArray.ext (Array.toList_inj.1 h)))
            clear hq HYv HNv
            have r0 := Y.out.out.at0
            have r1 := Y.out.out.at1
            have q0 := Y.out.out.free0
            have q1 := Y.out.out.free1
            have Y8 := Lib.hid ((Y.out.setN 0).set (.slice none 0 0))
            have y0 := Y8.out.out.at0
            have y1 := Y8.out.out.at1
            go_wp2_with fail
            refine bodyPost_ret (v := .tuple #[.agg #[.int .i64 0, .slice none 0 0], .bool false]) (by simp [results, Tryd.results13, go_sem, y0, y1]) rfl ?_
            rw [HN, HR, HK]
            refine ⟨none, 0, rfl, ?_, ?_⟩
            · exact Ints.nil _ _
            · rw [hH]
              have hb0 := B.out
              clear r0 r1 q0 q1 y0 y1
              go_grown
        · obtain ⟨HN, HR, HK⟩ := HNo.out (fun h9 => hv h9.1)
          rw [Bool.not_eq_true] at hv
          rw [hv] at HV
          clear hv HYs HNo
          go_wp2_with fail
          clear x0 x1
          refine (HV.out _ I.out.rd).mono ?_
          rintro e w5 ⟨rfl, hb5⟩
          have hz5 := hb5.size
          replace X := Lib.hid (X.out.next hb5 X.out.lt)
          replace Y := Lib.hid (Y.out.next hb5 Y.out.lt)
          replace I := Lib.hid (I.out.below hb5 (Nat.le_refl _))
          replace B := Lib.hid (B.out.trans (hb5.mono (by have := B.out.size; omega)))
          clear hb5
          clear HV
          have r0 := Y.out.out.at0
          have r1 := Y.out.out.at1
          have q0 := Y.out.out.free0
          have q1 := Y.out.out.free1
          have Y8 := Lib.hid ((Y.out.setN 0).set (.slice none 0 0))
          have y0 := Y8.out.out.at0
          have y1 := Y8.out.out.at1
          go_wp2_with fail
          refine bodyPost_ret (v := .tuple #[.agg #[.int .i64 0, .slice none 0 0], .bool false]) (by simp [results, Tryd.results13, go_sem, y0, y1]) rfl ?_
          rw [HN, HR, HK]
          refine ⟨none, 0, rfl, ?_, ?_⟩
          · exact Ints.nil _ _
          · rw [hH]
            have hb0 := B.out
            clear r0 r1 q0 q1 y0 y1
            go_grown

end Go.Proofs.YtkamocciaaapmaaDoor
