/- The program's ParseClass. Conditions: at most 1048576 bytes; the library's variables lie. The model's ParseClass. Conditions: at most 1048576 bytes. The model's ParseClass as a whole. Conditions: at most 1048576 bytes. -/
import Derived.Deep.RegionLaw
import Derived.Deep.RegionWith
import Derived.Test.YtnmilfkocheaiaaGreatDoorY1
import Derived.Test.YtnmilfkocheaiaaGreatDoorZA
import Derived.Test.YtnmilfkocheaiaaGreatDoorZB
namespace Go.Proofs.YtnmilfkocheaiaaGreatDoor
open Go.RowKit

/-- a block holds a row of strings -/
def Sx (L : List ByteArray) (G : Nat) (w : World) : Prop := w.heap[G]? = some (Obj.cells (L.map Value.string).toArray 9)
theorem Sx.lt {L : List ByteArray} {G : Nat} {w : World} (h : Sx L G w) : G < w.heap.size := (Array.getElem?_eq_some_iff.1 h).1
theorem Sx.next {L : List ByteArray} {G B : Nat} {w w' : World} (h : Sx L G w) (hb : Below B w w') (ho : G < B) : Sx L G w' := (hb.block G ho).trans h
theorem Sx.alloc {L : List ByteArray} {G : Nat} {w : World} (h : Sx L G w) (x : Obj) : Sx L G (w.alloc x) := h.next ((Below.refl _ _).alloc (Nat.le_refl _) x) h.lt
theorem Sx.kept {L : List ByteArray} {G : Nat} {r : Option Nat} {w w' : World} (h : Sx L G w) (hg : w.grownBy w' r) (hne : some G ≠ r) : Sx L G w' := (hg.block G h.lt hne).trans h
theorem Sx.other {L : List ByteArray} {G p j : Nat} {w : World} (h : Sx L G w) (hne : G ≠ p) (u : Value) : Sx L G (w.setCell ⟨p, j, none⟩ u) := by
  show (w.setCell ⟨p, j, none⟩ u).heap[G]? = _
  rw [Below.heap_setCell _ _ _ _ hne]
  exact h
theorem Sx.cell {L : List ByteArray} {G : Nat} {w : World} (h : Sx L G w) {k : Nat} (hk : k < L.length) : w.cell? ⟨G, k, none⟩ = some (.string (L.getD k ⟨#[]⟩)) := by
  simp only [World.cell?, show w.heap[G]? = _ from h]
  simp [List.getD_eq_getElem?_getD, List.getElem?_eq_getElem hk]
/-- the numbers of the first k texts -/
def nmTo (f : ByteArray → Int) (L : List ByteArray) (k : Nat) : List Int := (L.take k).map f
theorem nmTo_len {f : ByteArray → Int} {L : List ByteArray} {k : Nat} (h : k ≤ L.length) : (nmTo f L k).length = k := by rw [nmTo, List.length_map, List.length_take]; omega
theorem nmTo_succ {f : ByteArray → Int} {L : List ByteArray} {k : Nat} (h : k < L.length) : nmTo f L (k + 1) = nmTo f L k ++ [f (L.getD k ⟨#[]⟩)] := by
  rw [nmTo, List.take_succ_eq_append_getElem h, List.map_append, List.getD_eq_getElem?_getD, List.getElem?_eq_getElem h]; rfl
theorem nmTo_all {f : ByteArray → Int} {L : List ByteArray} {k : Nat} (h : k = L.length) : nmTo f L k = L.map f := by rw [nmTo, h, List.take_length]

set_option maxHeartbeats 1600000 in
set_option maxRecDepth 100000 in
theorem implParseClass (s : ByteArray) (hs : s.size ≤ 1048576) (w : World) (hL : Lbs w) :
    Calls Tryz.prog 65 #[.string s] w (RetPC (prN s) (prL s) (prB s) w) := by
  have HL := Lib.hid hL
  have HYs := Lib.hid (fun h1 h2 => prs_yes (s := s) h1 h2)
  have HNo := Lib.hid (fun h => prs_no (s := s) h)
  have hh := cutH_size s
  have ht := cutT_size s
  have HCut := Lib.hid (libCut s hs)
  have HNu := Lib.hid (fun w h => implNumberOr (cutH s) (by omega) w h)
  clear hL
  generalize cutH s = hd at *
  generalize cutT s = tl at *
  generalize prN s = N at *
  generalize prL s = R at *
  generalize prB s = K at *
  have Y := Lib.hid (Bx.new 0 (.slice none 0 0) w)
  have B := Lib.hid (show Below w.heap.size w (w.alloc (Obj.cells #[.int .i64 0, .slice none 0 0] 47)) from (Below.refl _ _).alloc (Nat.le_refl _) _)
  have HZ := Lib.hid (show (w.alloc (Obj.cells #[.int .i64 0, .slice none 0 0] 47)).heap.size = w.heap.size + 1 by simp)
  go_enter Tryz.func65, Tryz.ntmps65
  go_wp2_with fail
  generalize w.alloc (Obj.cells #[.int .i64 0, .slice none 0 0] 47) = w0 at *
  have hz0 := HZ.out
  clear HZ
  generalize hH : w.heap.size = H at *
  have HLb := Lib.hid (fun w' (hb : Below H w w') => HL.out.below hb (Nat.le_of_eq hH))
  refine (HCut.out _ (HLb.out _ B.out)).mono ?_
  rintro e w1 ⟨⟨bb, rfl⟩, hb1⟩
  have hz1 := hb1.size
  replace Y := Lib.hid (Y.out.next hb1 (by omega))
  replace B := Lib.hid (B.out.trans (hb1.mono (by omega)))
  clear hb1 HCut
  go_wp2_with fail
  refine (HNu.out _ (HLb.out _ B.out).1).mono ?_
  rintro e w2 ⟨rfl, hb2⟩
  have hz2 := hb2.size
  replace Y := Lib.hid (Y.out.next hb2 (by omega))
  replace B := Lib.hid (B.out.trans (hb2.mono (by omega)))
  clear hb2 HNu
  generalize numO hd = n at *
  have X := Lib.hid (Bx.new n (.slice none 0 0) w2)
  replace Y := Lib.hid (Y.out.alloc (Obj.cells #[.int .i64 n, .slice none 0 0] 47))
  replace B := Lib.hid (B.out.alloc (by omega) (Obj.cells #[.int .i64 n, .slice none 0 0] 47))
  have HZ := Lib.hid (show (w2.alloc (Obj.cells #[.int .i64 n, .slice none 0 0] 47)).heap.size = w2.heap.size + 1 by simp)
  have HTE := Lib.hid (fun (h : tl = ⟨#[]⟩) => show tl.toList.isEmpty = true from (decide_eq_emptyBytes tl).symm.trans (decide_eq_true (show tl = ByteArray.empty from h)))
  have HTN := Lib.hid (fun (h : ¬ tl = ⟨#[]⟩) => show tl.toList.isEmpty = false from (decide_eq_emptyBytes tl).symm.trans (decide_eq_false (show ¬ tl = ByteArray.empty from h)))
  by_cases h0 : tl = ⟨#[]⟩
  · have hte := HTE.out h0
    have hzs : zsI tl = [] := by rw [zsI, if_pos h0]
    clear HTE HTN h0
    have hI0 : Ints H (w2.alloc (Obj.cells #[.int .i64 n, .slice none 0 0] 47)) (.slice none 0 0) [] := Ints.nil _ _
    have I := Lib.hid hI0
    clear hI0
    go_upto_region 9 with (fail)
    generalize (w2.alloc (Obj.cells #[.int .i64 n, .slice none 0 0] 47)) = v0 at *
    generalize hoC : w2.heap.size = oC at *
    obtain ⟨zs, a', c', hzs, hX, hI⟩ : ∃ (zs : List Int) (a' : Option Addr) (c' : Nat), zs = zsI tl ∧ Bx n (.slice a' zs.length c') oC v0 ∧ Ints H v0 (.slice a' zs.length c') zs := ⟨zsI tl, none, 0, rfl, by rw [hzs]; exact X.out, by rw [hzs]; exact I.out⟩
    replace X := Lib.hid hX
    replace I := Lib.hid hI
    rw [← hzs] at HYs HNo
    clear hX hI hzs HZ hte
    have x0 := X.out.out.at0
    have x1 := X.out.out.at1
    have HV := Lib.hid (fun w h => implValid n (.slice a' zs.length c') zs w h)
    by_cases hv : vldB n zs = true
    · have HCT := Lib.hid (fun w h => implClassText n (.slice a' zs.length c') zs w h)
      have HYv := Lib.hid (HYs.out hv)
      have HNv := Lib.hid (fun (h : ¬ ctB n zs = s) => HNo.out (fun h9 => h h9.2))
      rw [hv] at HV
      clear hv HYs HNo
      generalize ctB n zs = T at *
      go_wp2_with fail
      clear x0 x1
      refine (HV.out _ I.out.rd).mono ?_
      rintro e w5 ⟨rfl, hb5⟩
      have hz5 := hb5.size
      replace X := Lib.hid (X.out.next hb5 X.out.lt)
      replace Y := Lib.hid (Y.out.next hb5 Y.out.lt)
      replace I := Lib.hid (I.out.below hb5 (Nat.le_refl _))
      replace B := Lib.hid (B.out.trans (hb5.mono (by have := B.out.size; omega)))
      clear hb5
      clear HV
      have x0 := X.out.out.at0
      have x1 := X.out.out.at1
      go_wp2_with fail
      clear x0 x1
      refine (HCT.out _ I.out.rd).mono ?_
      rintro e w6 ⟨rfl, hb6⟩
      have hz6 := hb6.size
      replace X := Lib.hid (X.out.next hb6 X.out.lt)
      replace Y := Lib.hid (Y.out.next hb6 Y.out.lt)
      replace I := Lib.hid (I.out.below hb6 (Nat.le_refl _))
      replace B := Lib.hid (B.out.trans (hb6.mono (by have := B.out.size; omega)))
      clear hb6
      clear HCT
      by_cases hq : T = s
      · obtain ⟨HN, HR, HK⟩ := HYv.out hq
        have hqb : (T.toList == s.toList) = true := by rw [hq]; exact beq_self_eq_true _
        clear hq HYv HNv
        have x0 := X.out.out.at0
        have x1 := X.out.out.at1
        have r0 := Y.out.out.at0
        have r1 := Y.out.out.at1
        have q0 := Y.out.out.free0
        have q1 := Y.out.out.free1
        have Y8 := Lib.hid ((Y.out.setN n).set (.slice a' zs.length c'))
        have y0 := Y8.out.out.at0
        have y1 := Y8.out.out.at1
        go_wp2_with fail
        refine bodyPost_ret (v := .tuple #[.agg #[.int .i64 n, .slice a' zs.length c'], .bool true]) (by simp [results, Tryz.results65, go_sem, y0, y1]) rfl ?_
        rw [HN, HR, HK]
        refine ⟨a', c', rfl, ?_, ?_⟩
        · rw [hH]
          exact (I.out.bx Y.out 0 _).bx (Y.out.setN n) 1 _
        · rw [hH]
          have hb0 := B.out
          clear r0 r1 q0 q1 y0 y1
          go_grown
      · obtain ⟨HN, HR, HK⟩ := HNv.out hq
        have hqb : (T.toList == s.toList) = false := beq_eq_false_iff_ne.2 (fun h => hq (by rw [ByteArray.toList_eq, ByteArray.toList_eq] at h; exact ByteArray.ext (Array.toList_inj.1 h)))
        clear hq HYv HNv
        have r0 := Y.out.out.at0
        have r1 := Y.out.out.at1
        have q0 := Y.out.out.free0
        have q1 := Y.out.out.free1
        have Y8 := Lib.hid ((Y.out.setN 0).set (.slice none 0 0))
        have y0 := Y8.out.out.at0
        have y1 := Y8.out.out.at1
        go_wp2_with fail
        refine bodyPost_ret (v := .tuple #[.agg #[.int .i64 0, .slice none 0 0], .bool false]) (by simp [results, Tryz.results65, go_sem, y0, y1]) rfl ?_
        rw [HN, HR, HK]
        refine ⟨none, 0, rfl, ?_, ?_⟩
        · exact Ints.nil _ _
        · rw [hH]
          have hb0 := B.out
          clear r0 r1 q0 q1 y0 y1
          go_grown
    · obtain ⟨HN, HR, HK⟩ := HNo.out (fun h9 => hv h9.1)
      rw [Bool.not_eq_true] at hv
      rw [hv] at HV
      clear hv HYs HNo
      go_wp2_with fail
      clear x0 x1
      refine (HV.out _ I.out.rd).mono ?_
      rintro e w5 ⟨rfl, hb5⟩
      have hz5 := hb5.size
      replace X := Lib.hid (X.out.next hb5 X.out.lt)
      replace Y := Lib.hid (Y.out.next hb5 Y.out.lt)
      replace I := Lib.hid (I.out.below hb5 (Nat.le_refl _))
      replace B := Lib.hid (B.out.trans (hb5.mono (by have := B.out.size; omega)))
      clear hb5
      clear HV
      have r0 := Y.out.out.at0
      have r1 := Y.out.out.at1
      have q0 := Y.out.out.free0
      have q1 := Y.out.out.free1
      have Y8 := Lib.hid ((Y.out.setN 0).set (.slice none 0 0))
      have y0 := Y8.out.out.at0
      have y1 := Y8.out.out.at1
      go_wp2_with fail
      refine bodyPost_ret (v := .tuple #[.agg #[.int .i64 0, .slice none 0 0], .bool false]) (by simp [results, Tryz.results65, go_sem, y0, y1]) rfl ?_
      rw [HN, HR, HK]
      refine ⟨none, 0, rfl, ?_, ?_⟩
      · exact Ints.nil _ _
      · rw [hH]
        have hb0 := B.out
        clear r0 r1 q0 q1 y0 y1
        go_grown
  · have hte := HTN.out h0
    have hzs : zsI tl = (spB tl).map numO := by rw [zsI, if_neg h0]
    rw [hzs] at HYs HNo
    have HSp := Lib.hid (libSplit tl (by omega))
    have HSz := Lib.hid (spB_size tl)
    have hfew := spB_few tl
    clear HTE HTN h0 hzs
    generalize spB tl = L at *
    have HNm := Lib.hid (fun x (hx : x ∈ L) w h => implNumberOr x (by have := HSz.out x hx; omega) w h)
    go_wp2_with fail
    generalize (w2.alloc (Obj.cells #[.int .i64 n, .slice none 0 0] 47)) = v0 at *
    have hzv : w2.heap.size < v0.heap.size := by have := HZ.out; omega
    clear HZ
    generalize hoC : w2.heap.size = oC at *
    refine (HSp.out _ (HLb.out _ B.out)).mono ?_
    rintro e w3 ⟨rfl, rfl⟩
    have S := Lib.hid (show Sx L v0.heap.size (v0.alloc (Obj.cells (L.map Value.string).toArray 9)) from heap_alloc_new _ _)
    replace X := Lib.hid (X.out.alloc (Obj.cells (L.map Value.string).toArray 9))
    replace Y := Lib.hid (Y.out.alloc (Obj.cells (L.map Value.string).toArray 9))
    replace B := Lib.hid (B.out.alloc (by omega) (Obj.cells (L.map Value.string).toArray 9))
    have HZ := Lib.hid (show (v0.alloc (Obj.cells (L.map Value.string).toArray 9)).heap.size = v0.heap.size + 1 by simp)
    generalize (v0.alloc (Obj.cells (L.map Value.string).toArray 9)) = v1 at *
    have hzv1 : v0.heap.size + 1 ≤ v1.heap.size := by have := HZ.out; omega
    clear HZ HSp
    generalize hG : v0.heap.size = G at *
    have hoH : H < oC := by omega
    have hoG : oC < G := by omega
    have HLen := Lib.hid (show (nmTo numO L 0).length = 0 from rfl)
    go_wp2_with fail
    go_loopw [24] (fun i wr => ∃ (k : Nat) (a' : Option Addr) (c' : Nat), k ≤ L.length ∧ i = .int .i64 k ∧ Bx n (.slice a' k c') oC wr ∧ Ints (G + 1) wr (.slice a' k c') (nmTo numO L k) ∧ Bx 0 (.slice none 0 0) H wr ∧ Sx L G wr ∧ G + 1 ≤ wr.heap.size ∧ Below H w wr) (fun i _ => L.length - (intOf i).toNat)
    case atStart => exact ⟨0, none, 0, Nat.zero_le _, rfl, X.out, Ints.nil _ _, Y.out, S.out, by omega, B.out⟩
    case round =>
      obtain ⟨k, a', c', hk, rfl, hx, hin, hy, hsx, hzw, hbl⟩ := hrel
      replace X := Lib.hid hx
      replace Y := Lib.hid hy
      replace S := Lib.hid hsx
      replace B := Lib.hid hbl
      have I := Lib.hid hin
      clear hx hin hy hsx hbl
      by_cases hlt : k < L.length
      · have hki : (k : Int) < (L.length : Int) := by omega
        have hsc := S.out.cell hlt
        have HSu := Lib.hid (nmTo_succ (f := numO) hlt)
        have HLk := Lib.hid (nmTo_len (f := numO) hk)
        have hmem : L.getD k ⟨#[]⟩ ∈ L := by rw [List.getD_eq_getElem?_getD, List.getElem?_eq_getElem hlt]; exact List.getElem_mem hlt
        have HNx := Lib.hid (HNm.out _ hmem)
        clear hmem
        generalize L.getD k ⟨#[]⟩ = x at *
        generalize numO x = z at *
        generalize nmTo numO L k = A at *
        go_wp2_with fail
        have XW := Lib.hid (show Bx n (.slice a' k c') oC wr.drew from X.out)
        have YW := Lib.hid (show Bx 0 (.slice none 0 0) H wr.drew from Y.out)
        have SW := Lib.hid (show Sx L G wr.drew from S.out)
        have IW := Lib.hid (show Ints (G + 1) wr.drew (.slice a' k c') A from I.out)
        have BW := Lib.hid B.out.drew
        have x1 := X.out.out.at1
        clear hsc
        go_region_law (first
          | (go_simp; go_at_call 95; refine (HNx.out _ (HLb.out _ BW.out).1).mono ?_; rintro e w9 ⟨rfl, hb9⟩; have hz9 : wr.heap.size ≤ w9.heap.size := hb9.size; have X9 := Lib.hid (XW.out.next hb9 XW.out.lt); have Y9 := Lib.hid (YW.out.next hb9 YW.out.lt); have S9 := Lib.hid (SW.out.next hb9 SW.out.lt); have I9 := Lib.hid (IW.out.below hb9 (Nat.le_refl _)); have B9 := Lib.hid (BW.out.trans (hb9.mono (by have := BW.out.size; omega))); clear hb9; have x9 := X9.out.out.at1; have x9a := (X9.out.alloc (Obj.cells #[.int .i64 z] 3)).out.at1)
          | (refine step_app rfl (.tmp 29) (.tmp 32) rfl (G + 1) _ A rfl (by exact I9.out.alloc _) _ _ _ [z] rfl (src_cell (by rw [World.cell?_alloc_at _ _ _ _ rfl]; rfl)) (by rw [HLk.out]; omega) (by simp; omega) ?_; intro a5 c5 w5 hin5 hb5 hg5; have hz5 := hg5.size; have I5 := Lib.hid hin5; have X5 := Lib.hid ((X9.out.alloc (Obj.cells #[.int .i64 z] 3)).kept hg5 (X9.out.not_row I9.out)); have Y5 := Lib.hid ((Y9.out.alloc (Obj.cells #[.int .i64 z] 3)).kept hg5 (Y9.out.not_row I9.out)); have S5 := Lib.hid ((S9.out.alloc (Obj.cells #[.int .i64 z] 3)).kept hg5 (fun e => by have := (I9.out.lt G e.symm).1; omega)); have B5 := Lib.hid ((B9.out.alloc (by have := B9.out.size; omega) (Obj.cells #[.int .i64 z] 3)).grown hg5 (by simp; omega) (fun r hr => by have := (I9.out.lt r hr).1; omega)); clear hin5 hb5 hg5; have f1 := X5.out.out.at1; have g1 := X5.out.out.free1))
        all_goals
          rw [HLk.out] at I5
          go_wp2_with fail
          go_roundw
          case rel => exact ⟨k + 1, a5, c5, by omega, by go_num, by rw [← HLk.out]; exact X5.out.set _, by rw [HSu.out]; rw [HLk.out]; exact I5.out.bx X5.out 1 _, Y5.out.other (by omega) _, S5.out.other (by omega) _, by simp at hz5 ⊢; omega, B5.out.setCell (by show H ≤ oC; omega) _⟩
          case measure => simp [intOf]; omega
      · have hke : k = L.length := by omega
        have HA := nmTo_all (f := numO) hke
        rw [HA] at I
        rw [hke] at X I ⊢
        have hml : (L.map numO).length = L.length := List.length_map _
        rw [← hml] at X I
        clear HA HNm HSz
        have hnl : ¬ (L.length : Int) < (L.length : Int) := by omega
        replace I := Lib.hid (I.out.mono (show H ≤ G + 1 by omega))
        go_upto_region 9 with (fail)
        clear hml hnl hke hk
        generalize L.map numO = zs at *
        have x0 := X.out.out.at0
        have x1 := X.out.out.at1
        have HV := Lib.hid (fun w h => implValid n (.slice a' zs.length c') zs w h)
        by_cases hv : vldB n zs = true
        · have HCT := Lib.hid (fun w h => implClassText n (.slice a' zs.length c') zs w h)
          have HYv := Lib.hid (HYs.out hv)
          have HNv := Lib.hid (fun (h : ¬ ctB n zs = s) => HNo.out (fun h9 => h h9.2))
          rw [hv] at HV
          clear hv HYs HNo
          generalize ctB n zs = T at *
          go_wp2_with fail
          clear x0 x1
          refine (HV.out _ I.out.rd).mono ?_
          rintro e w5 ⟨rfl, hb5⟩
          have hz5 := hb5.size
          replace X := Lib.hid (X.out.next hb5 X.out.lt)
          replace Y := Lib.hid (Y.out.next hb5 Y.out.lt)
          replace I := Lib.hid (I.out.below hb5 (Nat.le_refl _))
          replace B := Lib.hid (B.out.trans (hb5.mono (by have := B.out.size; omega)))
          clear hb5
          clear HV
          have x0 := X.out.out.at0
          have x1 := X.out.out.at1
          go_wp2_with fail
          clear x0 x1
          refine (HCT.out _ I.out.rd).mono ?_
          rintro e w6 ⟨rfl, hb6⟩
          have hz6 := hb6.size
          replace X := Lib.hid (X.out.next hb6 X.out.lt)
          replace Y := Lib.hid (Y.out.next hb6 Y.out.lt)
          replace I := Lib.hid (I.out.below hb6 (Nat.le_refl _))
          replace B := Lib.hid (B.out.trans (hb6.mono (by have := B.out.size; omega)))
          clear hb6
          clear HCT
          by_cases hq : T = s
          · obtain ⟨HN, HR, HK⟩ := HYv.out hq
            have hqb : (T.toList == s.toList) = true := by rw [hq]; exact beq_self_eq_true _
            clear hq HYv HNv
            have x0 := X.out.out.at0
            have x1 := X.out.out.at1
            have r0 := Y.out.out.at0
            have r1 := Y.out.out.at1
            have q0 := Y.out.out.free0
            have q1 := Y.out.out.free1
            have Y8 := Lib.hid ((Y.out.setN n).set (.slice a' zs.length c'))
            have y0 := Y8.out.out.at0
            have y1 := Y8.out.out.at1
            go_wp2_with fail
            refine bodyPost_ret (v := .tuple #[.agg #[.int .i64 n, .slice a' zs.length c'], .bool true]) (by simp [results, Tryz.results65, go_sem, y0, y1]) rfl ?_
            rw [HN, HR, HK]
            refine ⟨a', c', rfl, ?_, ?_⟩
            · rw [hH]
              exact (I.out.bx Y.out 0 _).bx (Y.out.setN n) 1 _
            · rw [hH]
              have hb0 := B.out
              clear r0 r1 q0 q1 y0 y1
              go_grown
          · obtain ⟨HN, HR, HK⟩ := HNv.out hq
            have hqb : (T.toList == s.toList) = false := beq_eq_false_iff_ne.2 (fun h => hq (by rw [ByteArray.toList_eq, ByteArray.toList_eq] at h; exact ByteArray.ext (Array.toList_inj.1 h)))
            clear hq HYv HNv
            have r0 := Y.out.out.at0
            have r1 := Y.out.out.at1
            have q0 := Y.out.out.free0
            have q1 := Y.out.out.free1
            have Y8 := Lib.hid ((Y.out.setN 0).set (.slice none 0 0))
            have y0 := Y8.out.out.at0
            have y1 := Y8.out.out.at1
            go_wp2_with fail
            refine bodyPost_ret (v := .tuple #[.agg #[.int .i64 0, .slice none 0 0], .bool false]) (by simp [results, Tryz.results65, go_sem, y0, y1]) rfl ?_
            rw [HN, HR, HK]
            refine ⟨none, 0, rfl, ?_, ?_⟩
            · exact Ints.nil _ _
            · rw [hH]
              have hb0 := B.out
              clear r0 r1 q0 q1 y0 y1
              go_grown
        · obtain ⟨HN, HR, HK⟩ := HNo.out (fun h9 => hv h9.1)
          rw [Bool.not_eq_true] at hv
          rw [hv] at HV
          clear hv HYs HNo
          go_wp2_with fail
          clear x0 x1
          refine (HV.out _ I.out.rd).mono ?_
          rintro e w5 ⟨rfl, hb5⟩
          have hz5 := hb5.size
          replace X := Lib.hid (X.out.next hb5 X.out.lt)
          replace Y := Lib.hid (Y.out.next hb5 Y.out.lt)
          replace I := Lib.hid (I.out.below hb5 (Nat.le_refl _))
          replace B := Lib.hid (B.out.trans (hb5.mono (by have := B.out.size; omega)))
          clear hb5
          clear HV
          have r0 := Y.out.out.at0
          have r1 := Y.out.out.at1
          have q0 := Y.out.out.free0
          have q1 := Y.out.out.free1
          have Y8 := Lib.hid ((Y.out.setN 0).set (.slice none 0 0))
          have y0 := Y8.out.out.at0
          have y1 := Y8.out.out.at1
          go_wp2_with fail
          refine bodyPost_ret (v := .tuple #[.agg #[.int .i64 0, .slice none 0 0], .bool false]) (by simp [results, Tryz.results65, go_sem, y0, y1]) rfl ?_
          rw [HN, HR, HK]
          refine ⟨none, 0, rfl, ?_, ?_⟩
          · exact Ints.nil _ _
          · rw [hH]
            have hb0 := B.out
            clear r0 r1 q0 q1 y0 y1
            go_grown

end Go.Proofs.YtnmilfkocheaiaaGreatDoor

namespace Go.Proofs.YtnmilfkocheaiaaGreatDoor
open Go.RowKit

theorem spP_size (s : ByteArray) (c : Nat) : ∀ k, ∀ x ∈ spP s c k, x.size ≤ s.size
  | 0 => by intro x hx; simp [spP] at hx
  | k + 1 => by
    intro x hx
    rw [spP] at hx
    split at hx
    · rw [List.mem_append, List.mem_singleton] at hx
      rcases hx with hx | rfl
      · exact spP_size s c k x hx
      · rw [ByteArray.size_extract]; omega
    · exact spP_size s c k x hx
theorem spL_size (s : ByteArray) (c : Nat) : ∀ x ∈ spL s c, x.size ≤ s.size := by
  intro x hx
  rw [spL, List.mem_append, List.mem_singleton] at hx
  rcases hx with hx | rfl
  · exact spP_size s c _ x hx
  · rw [ByteArray.size_extract]; omega
theorem spL_few (s : ByteArray) (c : Nat) : (spL s c).length ≤ s.size + 1 := by
  have := spP_len s c s.size
  rw [spL, List.length_append]; simp; omega
theorem spL_one (s : ByteArray) (c : Nat) : 0 < (spL s c).length := by rw [spL, List.length_append]; simp
/-- a block of strings reads as a row -/
def Sc (L : List ByteArray) (g : Nat) (w : World) : Prop := ∃ cur, w.heap[g]? = some (.cells cur 9 (0, 0)) ∧ ∀ k, k < L.length → cur[k]? = some (.string (L.getD k ⟨#[]⟩))
theorem Sc.lt {L : List ByteArray} {g : Nat} {w : World} (h : Sc L g w) : g < w.heap.size := by obtain ⟨cur, h1, _⟩ := h; exact (Array.getElem?_eq_some_iff.1 h1).1
theorem Sc.cell {L : List ByteArray} {g k : Nat} {w : World} (h : Sc L g w) (hk : k < L.length) : w.cell? ⟨g, k, none⟩ = some (.string (L.getD k ⟨#[]⟩)) := by
  obtain ⟨cur, h1, h2⟩ := h
  rw [cell_of_row _ _ _ _ _ _ h1]
  exact h2 k hk
theorem Sc.next {L : List ByteArray} {g B : Nat} {w w' : World} (h : Sc L g w) (hb : Below B w w') (ho : g < B) : Sc L g w' := by
  obtain ⟨cur, h1, h2⟩ := h
  exact ⟨cur, (hb.block g ho).trans h1, h2⟩
theorem Sc.alloc {L : List ByteArray} {g : Nat} {w : World} (h : Sc L g w) (x : Obj) : Sc L g (w.alloc x) := h.next ((Below.refl _ _).alloc (Nat.le_refl _) x) h.lt
theorem Sc.other {L : List ByteArray} {g p j : Nat} {w : World} (h : Sc L g w) (hne : g ≠ p) (u : Value) : Sc L g (w.setCell ⟨p, j, none⟩ u) := by
  obtain ⟨cur, h1, h2⟩ := h
  exact ⟨cur, by rw [Below.heap_setCell _ _ _ _ hne]; exact h1, h2⟩
theorem Sc.kept {L : List ByteArray} {g : Nat} {r : Option Nat} {w w' : World} (h : Sc L g w) (hg : w.grownBy w' r) (hne : some g ≠ r) : Sc L g w' := by
  have hlt := h.lt
  obtain ⟨cur, h1, h2⟩ := h
  exact ⟨cur, (hg.block g hlt hne).trans h1, h2⟩
theorem Sc.not_row {L : List ByteArray} {G B : Nat} {w : World} (h : Sc L G w) {v : Value} {xs : List Int} (hr : Ints B w v xs) : some G ≠ v.ownBlock := by
  obtain ⟨c0, h1, _⟩ := h
  rcases hr.2 with ⟨rfl, _⟩ | ⟨g, cap, cur, rfl, _, hgb, _⟩
  · simp [Value.ownBlock]
  · intro e'
    obtain rfl : G = g := by simpa [Value.ownBlock] using e'
    have := h1.symm.trans hgb
    simp at this
theorem Sc.not_bx {L : List ByteArray} {G o : Nat} {n : Int} {v : Value} {w : World} (h : Sc L G w) (hb : Bx n v o w) : G ≠ o := by
  rintro rfl
  obtain ⟨c0, h1, _⟩ := h
  have := h1.symm.trans (show w.heap[G]? = _ from hb)
  simp at this
theorem Strs.sc {B : Nat} {w : World} {a : Option Addr} {cap : Nat} {L : List ByteArray} (h : Strs B w (.slice a L.length cap) L) (h0 : 0 < L.length) : ∃ g, a = some ⟨g, 0, none⟩ ∧ B ≤ g ∧ Sc L g w := by
  obtain ⟨g, hg⟩ : ∃ g, a = some ⟨g, 0, none⟩ := by
    rcases h.2 with ⟨e, _⟩ | ⟨g, cap2, cur, e, _⟩
    · simp only [Value.slice.injEq] at e; omega
    · simp only [Value.slice.injEq] at e; exact ⟨g, e.1⟩
  subst hg
  refine ⟨g, rfl, h.own rfl, ?_⟩
  rcases h.2 with ⟨e, _⟩ | ⟨g2, cap2, cur, e, h1, h2, h3, h4, h5, h6⟩
  · cases e
  · simp only [Value.slice.injEq, Option.some.injEq, Addr.mk.injEq, and_true] at e
    obtain ⟨rfl, -, rfl⟩ := e
    refine ⟨cur, h2, fun k hk => ?_⟩
    rw [← Array.getElem?_toList]
    have h7 : (cur.toList.take (L.length * 1))[k]? = some (.string (L.getD k ⟨#[]⟩)) := by rw [h6, List.getElem?_map, List.getD_eq_getElem?_getD, List.getElem?_eq_getElem hk]; rfl
    rw [List.getElem?_take] at h7
    split at h7
    · exact h7
    · cases h7
theorem getD_mem' {L : List ByteArray} {k : Nat} (h : k < L.length) : L.getD k ⟨#[]⟩ ∈ L := by rw [List.getD_eq_getElem?_getD, List.getElem?_eq_getElem h]; exact List.getElem_mem h
/-- the numbers of the first k texts -/
def rmTo (L : List ByteArray) (k : Nat) : List Int := (L.take k).map rdN
theorem rmTo_len {L : List ByteArray} {k : Nat} (h : k ≤ L.length) : (rmTo L k).length = k := by rw [rmTo, List.length_map, List.length_take]; omega
theorem rmTo_succ {L : List ByteArray} {k : Nat} (h : k < L.length) : rmTo L (k + 1) = rmTo L k ++ [rdN (L.getD k ⟨#[]⟩)] := by
  rw [rmTo, List.take_succ_eq_append_getElem h, List.map_append, List.getD_eq_getElem?_getD, List.getElem?_eq_getElem h]; rfl
theorem rmTo_all {L : List ByteArray} {k : Nat} (h : k = L.length) : rmTo L k = L.map rdN := by rw [rmTo, h, List.take_length]
theorem pM_two {s : ByteArray} (h : (spL s 58).length = 2) :
    (vldB (rdN ((spL s 58).getD 0 ⟨#[]⟩)) (zsM ((spL s 58).getD 1 ⟨#[]⟩)) = true → prB s = true ∧ prN s = rdN ((spL s 58).getD 0 ⟨#[]⟩) ∧ prL s = zsM ((spL s 58).getD 1 ⟨#[]⟩)) ∧
    (vldB (rdN ((spL s 58).getD 0 ⟨#[]⟩)) (zsM ((spL s 58).getD 1 ⟨#[]⟩)) = false → prB s = false) := by
  refine ⟨fun hv => ?_, fun hv => ?_⟩
  · have := prs_some (s := s) (by rw [pM, if_pos h, if_pos hv])
    exact ⟨this.2.2, this.1, this.2.1⟩
  · exact (prs_none (s := s) (by rw [pM, if_pos h, if_neg (by rw [hv]; simp)])).2.2
theorem pM_not {s : ByteArray} (h : ¬ (spL s 58).length = 2) : prB s = false := (prs_none (s := s) (by rw [pM, if_neg h])).2.2

set_option maxHeartbeats 1600000 in
set_option maxRecDepth 100000 in
theorem specParseIn (s : ByteArray) (hs : s.size ≤ 1048576) (w : World) :
    Calls Tryz.prog 24 #[.string s] w fun e w' => ∃ n zs, RetPC n zs (prB s) w e w' ∧ (prB s = true → n = prN s ∧ zs = prL s) := by
  have HSp := Lib.hid (show ∀ w, Calls Tryz.prog 23 #[.string s, .int .u8 58] w fun e w' => ∃ a cap, e = .returned (.slice a (spL s 58).length cap) ∧ Strs w.heap.size w' (.slice a (spL s 58).length cap) (spL s 58) ∧ Below w.heap.size w w' from specSplitAt s 58 hs)
  have HSz := Lib.hid (spL_size s 58)
  have hone := spL_one s 58
  have HTw := Lib.hid (fun h => pM_two (s := s) h)
  have HNt := Lib.hid (fun h => pM_not (s := s) h)
  generalize spL s 58 = L2 at *
  generalize prN s = N at *
  generalize prL s = R at *
  generalize prB s = K at *
  have Y := Lib.hid (Bx.new 0 (.slice none 0 0) w)
  have B := Lib.hid (show Below w.heap.size w (w.alloc (Obj.cells #[.int .i64 0, .slice none 0 0] 47)) from (Below.refl _ _).alloc (Nat.le_refl _) _)
  have HZ := Lib.hid (show (w.alloc (Obj.cells #[.int .i64 0, .slice none 0 0] 47)).heap.size = w.heap.size + 1 by simp)
  have HN0 := Lib.hid (fun w => specReadNumber (L2.getD 0 ⟨#[]⟩) (by have := HSz.out _ (getD_mem' hone); omega) w)
  go_enter Tryz.func24, Tryz.ntmps24
  go_wp2_with fail
  generalize w.alloc (Obj.cells #[.int .i64 0, .slice none 0 0] 47) = w0 at *
  have hz0 : w.heap.size + 1 ≤ w0.heap.size := by have := HZ.out; omega
  clear HZ
  generalize hH : w.heap.size = H at *
  refine (HSp.out _).mono ?_
  rintro e w1 ⟨a1, c1, rfl, hst, hb1⟩
  have hz1 := hb1.size
  obtain ⟨g2, rfl, hg2, hsc⟩ := hst.sc hone
  have S2 := Lib.hid hsc
  replace Y := Lib.hid (Y.out.next hb1 (by omega))
  replace B := Lib.hid (B.out.trans (hb1.mono (by omega)))
  have hlt2 := hsc.lt
  clear hb1 HSp hst hsc
  have hc0 := S2.out.cell hone
  have honeI : (0 : Int) < (L2.length : Int) := by omega
  generalize L2.getD 0 ⟨#[]⟩ = p0 at *
  go_wp2_with fail
  refine (HN0.out _).mono ?_
  rintro e w2 ⟨rfl, rfl⟩
  clear hc0 HN0
  generalize rdN p0 = n at *
  have I := Lib.hid (show Ints (H + 1) ((w2.alloc (Obj.cells #[] 3)).alloc (Obj.cells #[.int .i64 n, .slice (some ⟨w2.heap.size, 0, none⟩) 0 0] 47)) (.slice (some ⟨w2.heap.size, 0, none⟩) 0 0) [] from (Ints.lit' (by omega) rfl).alloc _)
  have X := Lib.hid (show Bx n (.slice (some ⟨w2.heap.size, 0, none⟩) 0 0) (w2.heap.size + 1) ((w2.alloc (Obj.cells #[] 3)).alloc (Obj.cells #[.int .i64 n, .slice (some ⟨w2.heap.size, 0, none⟩) 0 0] 47)) from heap_alloc_at (by simp))
  replace Y := Lib.hid ((Y.out.alloc (Obj.cells #[] 3)).alloc (Obj.cells #[.int .i64 n, .slice (some ⟨w2.heap.size, 0, none⟩) 0 0] 47))
  replace S2 := Lib.hid ((S2.out.alloc (Obj.cells #[] 3)).alloc (Obj.cells #[.int .i64 n, .slice (some ⟨w2.heap.size, 0, none⟩) 0 0] 47))
  replace B := Lib.hid ((B.out.alloc (by omega) (Obj.cells #[] 3)).alloc (by simp; omega) (Obj.cells #[.int .i64 n, .slice (some ⟨w2.heap.size, 0, none⟩) 0 0] 47))
  have HZ := Lib.hid (show w2.heap.size + 2 ≤ ((w2.alloc (Obj.cells #[] 3)).alloc (Obj.cells #[.int .i64 n, .slice (some ⟨w2.heap.size, 0, none⟩) 0 0] 47)).heap.size by simp)
  by_cases h2 : L2.length = 2
  · obtain ⟨HT1, HT2⟩ := HTw.out h2
    have hc1 := S2.out.cell (show 1 < L2.length by omega)
    have HSz1 := HSz.out (L2.getD 1 ⟨#[]⟩) (getD_mem' (by omega))
    have h2I : ((L2.length : Int) == 2) = true := by rw [h2]; rfl
    have hoI : (1 : Int) < (L2.length : Int) := by omega
    have h2d : decide (L2.length = 2) = true := decide_eq_true h2
    have HTv := Lib.hid (And.intro HT1 HT2)
    clear HT1 HT2 HTw HNt HSz
    generalize L2.getD 1 ⟨#[]⟩ = tl at *
    have HTE := Lib.hid (fun (h : tl = ⟨#[]⟩) => show tl.toList.isEmpty = true from (decide_eq_emptyBytes tl).symm.trans (decide_eq_true (show tl = ByteArray.empty from h)))
    have HTN := Lib.hid (fun (h : ¬ tl = ⟨#[]⟩) => show tl.toList.isEmpty = false from (decide_eq_emptyBytes tl).symm.trans (decide_eq_false (show ¬ tl = ByteArray.empty from h)))
    go_upto_region 3 with (fail)
    generalize ((w2.alloc (Obj.cells #[] 3)).alloc (Obj.cells #[.int .i64 n, .slice (some ⟨w2.heap.size, 0, none⟩) 0 0] 47)) = v0 at *
    have hzv := HZ.out
    clear HZ
    generalize hoZ : w2.heap.size = oZ at *
    by_cases h0 : tl = ⟨#[]⟩
    · have hte := HTE.out h0
      have hzs0 : zsM tl = [] := by rw [zsM, if_pos h0]
      clear HTE HTN h0
      obtain ⟨zs, a', c', hzs, hX, hI⟩ : ∃ (zs : List Int) (a' : Option Addr) (c' : Nat), zs = zsM tl ∧ Bx n (.slice a' zs.length c') (oZ + 1) v0 ∧ Ints H v0 (.slice a' zs.length c') zs := ⟨zsM tl, some ⟨oZ, 0, none⟩, 0, rfl, by rw [hzs0]; exact X.out, by rw [hzs0]; exact I.out.mono (by omega)⟩
      replace X := Lib.hid hX
      replace I := Lib.hid hI
      rw [← hzs] at HTv
      clear hX hI hzs hzs0
      have HV := Lib.hid (fun w h => specValid n (.slice a' zs.length c') zs w h)
      generalize vldB n zs = V at *
      have x0 := X.out.out.at0
      have x1 := X.out.out.at1
      have hHv : H ≤ v0.heap.size := by have := Y.out.lt; omega
      have r0 := Y.out.out.at0
      have r1 := Y.out.out.at1
      have q0 := Y.out.out.free0
      have q1 := Y.out.out.free1
      go_upto_region 11 with (fail)
      clear x0 x1
      have hX1 := X.out.out.at0
      have hX2 := X.out.out.at1
      go_region_with (go_at_call 47; refine (HV.out _ (I.out.rd.below (k := v0.heap.size) (by first | exact Below.refl _ _ | exact (Below.refl _ _).drew) (Nat.le_refl _))).mono ?_; rintro e w4 ⟨rfl, hb4⟩; have hb34 : Below v0.heap.size v0 w4 := Below.trans (by first | exact Below.refl _ _ | exact (Below.refl _ _).drew) hb4; have X4 := Lib.hid (X.out.next hb34 X.out.lt); have Y4 := Lib.hid (Y.out.next hb34 Y.out.lt); have I4 := Lib.hid (I.out.below hb34 (Nat.le_refl _)); have B4 := Lib.hid (B.out.trans (hb34.mono hHv)); clear hb34 hb4; have s0 := X4.out.out.at0; have s1 := X4.out.out.at1; have u0 := Y4.out.out.at0; have u1 := Y4.out.out.at1; have p0 := Y4.out.out.free0; have p1 := Y4.out.out.free1)
      all_goals
        clear X Y I B
        have Y8 := Lib.hid ((Y4.out.setN n).set (.slice a' zs.length c'))
        have y0 := Y8.out.out.at0
        have y1 := Y8.out.out.at1
        go_wp2_with fail
        refine bodyPost_ret (v := .tuple #[.agg #[.int .i64 n, .slice a' zs.length c'], .bool V]) (by simp [results, Tryz.results24, go_sem, y0, y1]) rfl ?_
        have hK : K = V ∧ (K = true → n = N ∧ zs = R) := by
          cases V with
          | true => obtain ⟨h1, h2, h3⟩ := HTv.out.1 rfl; exact ⟨h1, fun _ => ⟨h2.symm, h3.symm⟩⟩
          | false => have h1 := HTv.out.2 rfl; exact ⟨h1, fun h => by rw [h1] at h; cases h⟩
        refine ⟨n, zs, ⟨a', c', by rw [hK.1], ?_, ?_⟩, hK.2⟩
        · rw [hH]
          exact (I4.out.bx Y4.out 0 _).bx (Y4.out.setN n) 1 _
        · rw [hH]
          have hb0 := B4.out
          clear hX1 hX2 r0 r1 q0 q1 s0 s1 u0 u1 p0 p1 y0 y1
          go_grown
    · have hte := HTN.out h0
      have hzs0 : zsM tl = (spL tl 44).map rdN := by rw [zsM, if_neg h0]
      rw [hzs0] at HTv
      have HSq := Lib.hid (show ∀ w, Calls Tryz.prog 23 #[.string tl, .int .u8 44] w fun e w' => ∃ a cap, e = .returned (.slice a (spL tl 44).length cap) ∧ Strs w.heap.size w' (.slice a (spL tl 44).length cap) (spL tl 44) ∧ Below w.heap.size w w' from specSplitAt tl 44 (by omega))
      have HSz := Lib.hid (spL_size tl 44)
      have hone3 := spL_one tl 44
      have hfew := spL_few tl 44
      clear HTE HTN h0 hzs0
      generalize spL tl 44 = L at *
      have HNm := Lib.hid (fun x (hx : x ∈ L) w => specReadNumber x (by have := HSz.out x hx; omega) w)
      go_wp2_with fail
      refine (HSq.out _).mono ?_
      rintro e w3 ⟨a3, c3, rfl, hst, hb3⟩
      have hz3 := hb3.size
      obtain ⟨G, rfl, hGv, hsc⟩ := hst.sc hone3
      have S := Lib.hid hsc
      replace X := Lib.hid (X.out.next hb3 X.out.lt)
      replace Y := Lib.hid (Y.out.next hb3 Y.out.lt)
      replace I := Lib.hid (I.out.below hb3 (Nat.le_refl _))
      replace B := Lib.hid (B.out.trans (hb3.mono (by omega)))
      have hgw := hsc.lt
      clear hb3 HSq hst hsc hc1 S2
      go_wp2_with fail
      go_loopw [7] (fun i wr => ∃ (k : Nat) (a' : Option Addr) (c' : Nat), k ≤ L.length ∧ i = .int .i64 k ∧ Bx n (.slice a' k c') (oZ + 1) wr ∧ Ints (H + 1) wr (.slice a' k c') (rmTo L k) ∧ Bx 0 (.slice none 0 0) H wr ∧ Sc L G wr ∧ Below H w wr) (fun i _ => L.length - (intOf i).toNat)
      case atStart => exact ⟨0, some ⟨oZ, 0, none⟩, 0, Nat.zero_le _, rfl, X.out, I.out, Y.out, S.out, B.out⟩
      case round =>
        obtain ⟨k, a', c', hk, rfl, hx, hin, hy, hsx, hbl⟩ := hrel
        replace X := Lib.hid hx
        replace Y := Lib.hid hy
        replace S := Lib.hid hsx
        replace B := Lib.hid hbl
        replace I := Lib.hid hin
        have hHw := Y.out.lt
        clear hx hin hy hsx hbl
        by_cases hlt : k < L.length
        · have hki : (k : Int) < (L.length : Int) := by omega
          have hsc := S.out.cell hlt
          have HSu := Lib.hid (rmTo_succ hlt)
          have HLk := Lib.hid (rmTo_len hk)
          have HNx := Lib.hid (HNm.out _ (getD_mem' hlt))
          generalize L.getD k ⟨#[]⟩ = x at *
          generalize rdN x = z at *
          generalize rmTo L k = A at *
          have x1 := X.out.out.at1
          go_wp2_with fail
          have XW := Lib.hid (show Bx n (.slice a' k c') (oZ + 1) wr.drew from X.out)
          have YW := Lib.hid (show Bx 0 (.slice none 0 0) H wr.drew from Y.out)
          have SW := Lib.hid (show Sc L G wr.drew from S.out)
          have IW := Lib.hid (show Ints (H + 1) wr.drew (.slice a' k c') A from I.out)
          have BW := Lib.hid B.out.drew
          have x1a := (XW.out.alloc (Obj.cells #[.int .i64 z] 3)).out.at1
          have x1b := (X.out.alloc (Obj.cells #[.int .i64 z] 3)).out.at1
          go_region_law (first
            | (go_simp; go_at_call 46; refine (HNx.out _).mono ?_; rintro e w9 ⟨rfl, hw9⟩; subst w9)
            | (refine step_app rfl (.tmp 35) (.tmp 41) rfl (H + 1) _ A rfl (by exact IW.out.alloc _) _ _ _ [z] rfl (src_cell (by first | (rw [World.cell?_alloc_at _ _ _ _ rfl]; rfl) | (rw [World.cell?_alloc_at _ _ _ _ (by simp)]; rfl) | (simp only [cell_drew]; rw [World.cell?_alloc_at _ _ _ _ rfl]; rfl) | (simp only [cell_drew]; rw [World.cell?_alloc_at _ _ _ _ (by simp)]; rfl))) (by rw [HLk.out]; omega) (by simp; omega) ?_; intro a5 c5 w5 hin5 hb5 hg5; have hz5 := hg5.size; have I5 := Lib.hid hin5; have X5 := Lib.hid ((XW.out.alloc (Obj.cells #[.int .i64 z] 3)).kept hg5 (XW.out.not_row IW.out)); have Y5 := Lib.hid ((YW.out.alloc (Obj.cells #[.int .i64 z] 3)).kept hg5 (YW.out.not_row IW.out)); have S5 := Lib.hid ((SW.out.alloc (Obj.cells #[.int .i64 z] 3)).kept hg5 (SW.out.not_row IW.out)); have B5 := Lib.hid ((BW.out.alloc (by have := BW.out.size; omega) (Obj.cells #[.int .i64 z] 3)).grown hg5 (by simp; omega) (fun r hr => by have := (IW.out.lt r hr).1; omega)); clear hin5 hb5 hg5; have f1 := X5.out.out.at1; have g1 := X5.out.out.free1))
          all_goals
            rw [HLk.out] at I5
            have hGo := S5.out.not_bx X5.out
            go_wp2_with fail
            go_roundw
            case rel => exact ⟨k + 1, a5, c5, by omega, by go_num, by rw [← HLk.out]; exact X5.out.set _, by rw [HSu.out]; rw [HLk.out]; exact I5.out.bx X5.out 1 _, Y5.out.other (by omega) _, S5.out.other hGo _, B5.out.setCell (by show H ≤ oZ + 1; omega) _⟩
            case measure => simp [intOf]; omega
        · have hke : k = L.length := by omega
          have HA := rmTo_all hke
          rw [HA] at I
          rw [hke] at X I ⊢
          have hml : (L.map rdN).length = L.length := List.length_map _
          rw [← hml] at X I
          clear HA HNm HSz hml
          have hnl : ¬ (L.length : Int) < (L.length : Int) := by omega
          replace I := Lib.hid (I.out.mono (show H ≤ H + 1 by omega))
          go_upto_region 11 with (fail)
          clear hnl hke hk
          generalize L.map rdN = zs at *
          generalize wr = v0 at *
          have HV := Lib.hid (fun w h => specValid n (.slice a' zs.length c') zs w h)
          generalize vldB n zs = V at *
          have x0 := X.out.out.at0
          have x1 := X.out.out.at1
          have hHv : H ≤ v0.heap.size := by have := Y.out.lt; omega
          have r0 := Y.out.out.at0
          have r1 := Y.out.out.at1
          have q0 := Y.out.out.free0
          have q1 := Y.out.out.free1
          go_upto_region 11 with (fail)
          clear x0 x1
          have hX1 := X.out.out.at0
          have hX2 := X.out.out.at1
          go_region_with (go_at_call 47; refine (HV.out _ (I.out.rd.below (k := v0.heap.size) (by first | exact Below.refl _ _ | exact (Below.refl _ _).drew) (Nat.le_refl _))).mono ?_; rintro e w4 ⟨rfl, hb4⟩; have hb34 : Below v0.heap.size v0 w4 := Below.trans (by first | exact Below.refl _ _ | exact (Below.refl _ _).drew) hb4; have X4 := Lib.hid (X.out.next hb34 X.out.lt); have Y4 := Lib.hid (Y.out.next hb34 Y.out.lt); have I4 := Lib.hid (I.out.below hb34 (Nat.le_refl _)); have B4 := Lib.hid (B.out.trans (hb34.mono hHv)); clear hb34 hb4; have s0 := X4.out.out.at0; have s1 := X4.out.out.at1; have u0 := Y4.out.out.at0; have u1 := Y4.out.out.at1; have p0 := Y4.out.out.free0; have p1 := Y4.out.out.free1)
          all_goals
            clear X Y I B
            have Y8 := Lib.hid ((Y4.out.setN n).set (.slice a' zs.length c'))
            have y0 := Y8.out.out.at0
            have y1 := Y8.out.out.at1
            go_wp2_with fail
            refine bodyPost_ret (v := .tuple #[.agg #[.int .i64 n, .slice a' zs.length c'], .bool V]) (by simp [results, Tryz.results24, go_sem, y0, y1]) rfl ?_
            have hK : K = V ∧ (K = true → n = N ∧ zs = R) := by
              cases V with
              | true => obtain ⟨h1, h2, h3⟩ := HTv.out.1 rfl; exact ⟨h1, fun _ => ⟨h2.symm, h3.symm⟩⟩
              | false => have h1 := HTv.out.2 rfl; exact ⟨h1, fun h => by rw [h1] at h; cases h⟩
            refine ⟨n, zs, ⟨a', c', by rw [hK.1], ?_, ?_⟩, hK.2⟩
            · rw [hH]
              exact (I4.out.bx Y4.out 0 _).bx (Y4.out.setN n) 1 _
            · rw [hH]
              have hb0 := B4.out
              clear hX1 hX2 r0 r1 q0 q1 s0 s1 u0 u1 p0 p1 y0 y1
              go_grown
  · have HN := HNt.out h2
    have h2d : decide (L2.length = 2) = false := decide_eq_false h2
    have h2I : ((L2.length : Int) == 2) = false := beq_eq_false_iff_ne.2 (by omega)
    have h2e : ¬ (L2.length : Int) = 2 := by omega
    clear HTw HNt HSz X I S2
    go_upto_region 3 with (fail)
    generalize ((w2.alloc (Obj.cells #[] 3)).alloc (Obj.cells #[.int .i64 n, .slice (some ⟨w2.heap.size, 0, none⟩) 0 0] 47)) = v0 at *
    clear HZ
    have r0 := Y.out.out.at0
    have r1 := Y.out.out.at1
    have q0 := Y.out.out.free0
    have q1 := Y.out.out.free1
    have Y8 := Lib.hid ((Y.out.setN 0).set (.slice none 0 0))
    have y0 := Y8.out.out.at0
    have y1 := Y8.out.out.at1
    go_wp2_with fail
    refine bodyPost_ret (v := .tuple #[.agg #[.int .i64 0, .slice none 0 0], .bool false]) (by simp [results, Tryz.results24, go_sem, y0, y1]) rfl ?_
    refine ⟨0, [], ⟨none, 0, by rw [HN]; rfl, Ints.nil _ _, ?_⟩, fun h => by rw [HN] at h; cases h⟩
    rw [hH]
    have hb0 := B.out
    clear r0 r1 q0 q1 y0 y1
    go_grown

end Go.Proofs.YtnmilfkocheaiaaGreatDoor

namespace Go.Proofs.YtnmilfkocheaiaaGreatDoor
open Go.RowKit

theorem prs_false {s : ByteArray} (h : prB s = false) : prN s = 0 ∧ prL s = [] := by
  cases hp : pM s with
  | none => have := prs_none hp; exact ⟨this.1, this.2.1⟩
  | some p => rw [prB, hp] at h; cases h


end Go.Proofs.YtnmilfkocheaiaaGreatDoor
