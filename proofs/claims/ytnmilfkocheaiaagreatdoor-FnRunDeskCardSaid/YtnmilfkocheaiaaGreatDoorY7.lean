/- The mathematics of a desk's line: cut at a space, or in two parts. No conditions. What a line of a desk is answered, as a value; its bounds. No conditions. errors.Is of Go's library at errors of errors.New's make. Conditions: the errors' blocks lie. What Contains and Itoa of Go's library are, at this program's numbers. No conditions. The program's kindOf, yesOrNo, readLine. Conditions: the package's variables lie; at most 1048576 bytes. The program's answerOf and answerTo. Conditions: the package's and the library's variables lie; at most 1048576 bytes. RunDesk, the program's. Conditions: the package's and the library's variables lie; at most 1048576 bytes a line. signed, answer and RunDesk, the model's. Conditions: at most 1048576 bytes a line. RunDesk, the model's; FnExactRunDesk's walk: the law answers true. Conditions: the package's and the library's variables lie. What the start of a row says of the library's variables: its two errors lie, and its greatest length is an int; the wrap that hands both on. No conditions. What the start of RunDesk's rows says of the variables; a row of strings that comes in. No conditions. A class of few points that the laws draw: smallClass, thinClass. Conditions: the reader has drawn at most 80000 numbers. One of some numbers of a literal is drawn. No conditions. A text that the laws draw: one of some strings, mutate, the draw of ParseClass. Conditions: the reader has drawn at most 90000 numbers; the code is a slice of bytes. The mathematics of FnRunDesk: the answers to the first lines are the beginning of those to all, and each answer holds no newline. Conditions: at most 2000 bytes. The draw of RunDesk. Conditions: the code is a slice of bytes. FnRunDesk's walk: each line has an answer, and the first lines' answers are the beginning of all. Conditions: the code is a slice of bytes; the package's and the library's variables lie. A code of bytes that comes in, read as bytes. No conditions. -/
import Derived.ChangeVars
import Derived.Deep.RegionHeld3
import Derived.LaidEql
import Derived.LaidMore
import Derived.LaidOnce
import Derived.LaidSub
import Derived.Lay
import Derived.Lib.LaidTab
import Derived.Lib.SmallJoins
import Derived.OpenShut
import Derived.OpenVars
import Derived.ProofKit
import Derived.RowKitTokens
import Derived.SevenTiedAt
import Derived.Shelf.Strconv.Itoa3
import Derived.Shelf.Strings.Builder1
import Derived.Shelf.Strings.Shaped
import Derived.SliceStrings
import Derived.Stop.Asserts
import Derived.Stop.LaidErr
import Derived.Stop.LaidTwo
import Derived.Test.YtnmilfkocheaiaaGreatDoorComplS
import Derived.Test.YtnmilfkocheaiaaGreatDoorDraw
import Derived.Test.YtnmilfkocheaiaaGreatDoorEul
import Derived.Test.YtnmilfkocheaiaaGreatDoorLittle
import Derived.Test.YtnmilfkocheaiaaGreatDoorLittleS
import Derived.Test.YtnmilfkocheaiaaGreatDoorMaxi
import Derived.Test.YtnmilfkocheaiaaGreatDoorMaxiS
import Derived.Test.YtnmilfkocheaiaaGreatDoorMemb
import Derived.Test.YtnmilfkocheaiaaGreatDoorMembS
import Derived.Test.YtnmilfkocheaiaaGreatDoorRecI
import Derived.Test.YtnmilfkocheaiaaGreatDoorRows
import Derived.Test.YtnmilfkocheaiaaGreatDoorSett
import Derived.Test.YtnmilfkocheaiaaGreatDoorSettle
import Derived.Test.YtnmilfkocheaiaaGreatDoorSettleS
import Derived.Test.YtnmilfkocheaiaaGreatDoorShatS
import Derived.Test.YtnmilfkocheaiaaGreatDoorShelf
import Derived.Test.YtnmilfkocheaiaaGreatDoorStarS
import Derived.Test.YtnmilfkocheaiaaGreatDoorTDim
import Derived.Test.YtnmilfkocheaiaaGreatDoorY1
import Derived.Test.YtnmilfkocheaiaaGreatDoorY2
import Derived.Test.YtnmilfkocheaiaaGreatDoorY6
import Derived.Test.YtnmilfkocheaiaaGreatDoorZA
import Derived.Test.YtnmilfkocheaiaaGreatDoorZC
import Derived.Test.YtnmilfkocheaiaaGreatDoorZD
import Derived.Test.YtnmilfkocheaiaaGreatDoorZE
import Derived.Test.YtnmilfkocheaiaaGreatDoorZG
import Derived.Test.YtnmilfkocheaiaaGreatDoorZU
import Derived.Test.YtnmilfkocheaiaaGreatDoorZV
import Derived.Test.YtnmilfkocheaiaaGreatDoorZY
import Derived.WalkKit
namespace Go.Proofs.YtnmilfkocheaiaaGreatDoor
open Go.RowKit

/-- a line's word, what stands behind its first space, and whether there is one -/
def lnW (s : ByteArray) : ByteArray := ⟨(Lib.cut s.data.toList [32]).1.toArray⟩
def lnT (s : ByteArray) : ByteArray := ⟨(Lib.cut s.data.toList [32]).2.1.toArray⟩
def lnF (s : ByteArray) : Bool := (Lib.cut s.data.toList [32]).2.2
def lnC (s : ByteArray) : Bool := Lib.contains (lnT s).data.toList [32]

theorem list_cut (c : UInt8) : ∀ (l : List UInt8), (∀ x ∈ l, ¬ x = c) ∨ ∃ h t, l = h ++ c :: t ∧ ∀ x ∈ h, ¬ x = c
  | [] => Or.inl (fun x hx => by simp at hx)
  | x :: l => by
    by_cases hx : x = c
    · exact Or.inr ⟨[], l, by rw [hx]; rfl, fun y hy => by simp at hy⟩
    · rcases list_cut c l with h | ⟨h, t, rfl, h2⟩
      · exact Or.inl (fun y hy => by rcases List.mem_cons.1 hy with rfl | hy; exact hx; exact h y hy)
      · exact Or.inr ⟨x :: h, t, rfl, fun y hy => by rcases List.mem_cons.1 hy with rfl | hy; exact hx; exact h2 y hy⟩
theorem cut_hit (c : UInt8) (h t : List UInt8) (hh : ∀ x ∈ h, ¬ x = c) : Lib.cut (h ++ c :: t) [c] = (h, t, true) := by
  rw [Lib.cut, idx_hit c t h hh, if_pos (by omega), Int.toNat_natCast]
  rw [List.take_append_of_le_length (Nat.le_refl _), List.take_length, List.drop_append, List.drop_of_length_le (by simp)]
  simp
theorem cut_miss (c : UInt8) (l : List UInt8) (h : ∀ x ∈ l, ¬ x = c) : Lib.cut l [c] = (l, [], false) := by
  rw [Lib.cut, idx_none c l h, if_neg (by omega)]
theorem sqA_long (c : Nat) (d : UInt8) (hd : d.toNat = c) : ∀ (l : List UInt8) (acc : List (List UInt8)) (cur : List UInt8), d ∈ l → acc.length + 2 ≤ (sqA c acc cur l).length
  | [], acc, cur, h => by simp at h
  | x :: l, acc, cur, h => by
    rw [sqA]
    by_cases hx : x.toNat = c
    · rw [if_pos hx]
      have := sqA_len c l (acc ++ [cur]) []
      simp at this
      omega
    · rw [if_neg hx]
      refine sqA_long c d hd l acc (cur ++ [x]) ?_
      rcases List.mem_cons.1 h with rfl | h
      · exact absurd hd hx
      · exact h
theorem contains_no (c : UInt8) (l : List UInt8) (h : ∀ x ∈ l, ¬ x = c) : Lib.contains l [c] = false := by
  rw [Lib.contains, idx_none c l h]
  rfl
theorem contains_yes (c : UInt8) (h t : List UInt8) (hh : ∀ x ∈ h, ¬ x = c) : Lib.contains (h ++ c :: t) [c] = true := by
  rw [Lib.contains, idx_hit c t h hh, decide_eq_true_eq]
  omega
theorem ln_two (s : ByteArray) : (lnF s = true ∧ lnC s = false → spL s 32 = [lnW s, lnT s]) ∧ (¬ (lnF s = true ∧ lnC s = false) → ¬ (spL s 32).length = 2) := by
  have hlen : (spL s 32).length = (sqA 32 [] [] s.data.toList).length := by rw [← spL_sq, List.length_map]
  have h32 : ∀ x : UInt8, ¬ x = 32 → ¬ x.toNat = 32 := fun x hx h9 => hx (UInt8.toNat_inj.1 h9)
  rcases list_cut 32 s.data.toList with hno | ⟨h, t, he, hh⟩
  · have hc := cut_miss 32 _ hno
    refine ⟨fun h => ?_, fun _ => ?_⟩
    · have := h.1
      rw [lnF, hc] at this
      cases this
    · rw [hlen, sqA_none 32 _ _ _ (fun x hx => h32 x (hno x hx))]
      simp
  · have hc := cut_hit 32 h t hh
    rw [← he] at hc
    have hT : (lnT s).data.toList = t := by rw [lnT, hc]
    have hF : lnF s = true := by rw [lnF, hc]
    have hq : sqA 32 [] [] s.data.toList = sqA 32 [h] [] t := by
      rw [he, sqA_hit 32 32 rfl t h [] [] (fun x hx => h32 x (hh x hx))]
      rfl
    rcases list_cut 32 t with hno | ⟨h2, t2, he2, hh2⟩
    · refine ⟨fun _ => map_dl_inj ?_, fun hn => absurd ⟨hF, by rw [lnC, hT, contains_no 32 t hno]⟩ hn⟩
      rw [spL_sq, hq, sqA_none 32 _ _ _ (fun x hx => h32 x (hno x hx)), lnW, lnT, hc]
      rfl
    · refine ⟨fun hy => ?_, fun _ => ?_⟩
      · have := hy.2
        rw [lnC, hT, he2, contains_yes 32 h2 t2 hh2] at this
        cases this
      · rw [hlen, hq, he2]
        have := sqA_long 32 32 rfl (h2 ++ 32 :: t2) [h] [] (by simp)
        simp at this ⊢
        omega
theorem lnW_size (s : ByteArray) : (lnW s).size ≤ s.size := by
  have : (Lib.cut s.data.toList [32]).1.length ≤ s.data.toList.length := by
    unfold Lib.cut
    split
    · rw [List.length_take]; omega
    · exact Nat.le_refl _
  show (Lib.cut s.data.toList [32]).1.toArray.size ≤ s.data.size
  rw [List.size_toArray, ← Array.length_toList]
  exact this
theorem lnT_size (s : ByteArray) : (lnT s).size ≤ s.size := by
  have : (Lib.cut s.data.toList [32]).2.1.length ≤ s.data.toList.length := by
    unfold Lib.cut
    split
    · rw [List.length_drop]; omega
    · exact Nat.zero_le _
  show (Lib.cut s.data.toList [32]).2.1.toArray.size ≤ s.data.size
  rw [List.size_toArray, ← Array.length_toList]
  exact this

/-- a number in decimal, a - ahead of it below 0 -/
def itB (z : Int) : ByteArray := ⟨(Lib.itoa z).toArray⟩
theorem itB_nat (k : Nat) : itB (k : Int) = nb k := by
  rw [itB, Lib.itoa, if_neg (by omega), Int.toNat_natCast]
  rfl
theorem itB_neg (k : Nat) (h : 0 < k) : itB (-(k : Int)) = ⟨#[45]⟩ ++ nb k := by
  rw [itB, Lib.itoa, if_pos (by omega), Int.natAbs_neg, Int.natAbs_natCast, nb, show (⟨#[45]⟩ : ByteArray) = ⟨([45] : List UInt8).toArray⟩ from rfl, ByteArray.mk_append_mk]
  rfl
/-- the words of a desk -/
def wordsL : List ByteArray := [⟨#[118, 99]⟩, ⟨#[108, 105, 116, 116, 108, 101, 115, 116, 111, 110, 101]⟩, ⟨#[109, 101, 109, 98, 101, 114, 115]⟩, ⟨#[116, 101, 97, 99, 104]⟩, ⟨#[114, 101, 99, 117, 114, 115, 105, 118, 101]⟩, ⟨#[115, 116, 97, 114]⟩, ⟨#[101, 117, 108, 101, 114]⟩, ⟨#[109, 97, 120, 105, 109, 117, 109]⟩, ⟨#[101, 120, 116, 114, 101, 109, 97, 108]⟩, ⟨#[99, 111, 109, 112, 108, 101, 109, 101, 110, 116]⟩, ⟨#[115, 101, 116, 116, 108, 101]⟩]
/-- where a text stands first, looked for from k on -/
def kFrom (x : ByteArray) : List ByteArray → Nat → Option Nat
  | [], _ => none
  | y :: r, k => if y = x then some k else kFrom x r (k + 1)
theorem kFrom_ge (x : ByteArray) : ∀ (l : List ByteArray) (k i : Nat), kFrom x l k = some i → k ≤ i ∧ i < k + l.length ∧ l[i - k]? = some x
  | [], k, i, h => by cases h
  | y :: r, k, i, h => by
    rw [kFrom] at h
    split at h
    · rename_i hy
      simp only [Option.some.injEq] at h
      subst h
      exact ⟨Nat.le_refl _, by simp, by simp [hy]⟩
    · obtain ⟨h1, h2, h3⟩ := kFrom_ge x r (k + 1) i h
      refine ⟨by omega, by simp; omega, ?_⟩
      rw [show i - k = (i - (k + 1)) + 1 by omega, List.getElem?_cons_succ]
      exact h3
theorem kFrom_none (x : ByteArray) : ∀ (l : List ByteArray) (k : Nat), kFrom x l k = none ↔ ∀ y ∈ l, ¬ y = x
  | [], k => ⟨fun _ y hy => (by simp at hy), fun _ => rfl⟩
  | y :: r, k => by
    rw [kFrom]
    by_cases hy : y = x
    · rw [if_pos hy]
      exact ⟨fun h => (by cases h), fun h => absurd hy (h y (List.mem_cons_self ..))⟩
    · rw [if_neg hy, kFrom_none x r (k + 1)]
      exact ⟨fun h z hz => by rcases List.mem_cons.1 hz with rfl | hz; exact hy; exact h z hz, fun h z hz => h z (List.mem_cons_of_mem _ hz)⟩
/-- the kind of a word -/
def kOf (x : ByteArray) : Option Nat := kFrom x wordsL 0
theorem kOf_some {x : ByteArray} {i : Nat} (h : kOf x = some i) : i < 11 ∧ wordsL[i]? = some x := by
  obtain ⟨-, h2, h3⟩ := kFrom_ge x wordsL 0 i h
  exact ⟨by simpa [wordsL] using h2, by simpa using h3⟩

end Go.Proofs.YtnmilfkocheaiaaGreatDoor

namespace Go.Proofs.YtnmilfkocheaiaaGreatDoor
open Go.RowKit

/-- the number that a line of kind i asks for -/
def numK (m : Nat) (ns : List Nat) : Nat → Int
  | 0 => vcB m (toI ns)
  | 1 => mst ns
  | 2 => qst ns
  | 3 => gTo (tns m ns) ns.length
  | 4 => rdM m ns
  | 5 => starM m ns
  | _ => eulB m (toI ns)
def yesT : ByteArray := ⟨#[121, 101, 115]⟩
def noT : ByteArray := ⟨#[110, 111]⟩
def whatT : ByteArray := ⟨#[119, 104, 97, 116]⟩
def wrongT : ByteArray := ⟨#[119, 114, 111, 110, 103]⟩
def ynT (b : Bool) : ByteArray := if b = true then yesT else noT
/-- the answer of kind i for a class -/
def ansK (m : Nat) (ns : List Nat) (i : Nat) : ByteArray :=
  if i < 7 then itB (numK m ns i) else if i = 7 then ynT (maxB m (toI ns)) else if i = 8 then ynT (extB m (toI ns)) else if i = 9 then ctB m (toI (cmpl m ns)) else ctB m (toI (swp m ns))
/-- the answer to a line -/
def ansB (s : ByteArray) : ByteArray :=
  if lnF s = true ∧ lnC s = false then
    match kOf (lnW s) with
    | none => whatT
    | some i => match pM (lnT s) with
      | none => wrongT
      | some p => ansK p.1.toNat (p.2.map Int.toNat) i
  else whatT

theorem numK_bd {m : Nat} {ns : List Nat} (h : Cls m ns) (hm : mst ns ≤ 32) (i : Nat) : -1024 ≤ numK m ns i ∧ numK m ns i ≤ 1024 := by
  have hl := h.length
  have htd : -1 ≤ gTo (tns m ns) ns.length ∧ gTo (tns m ns) ns.length ≤ 5 := by
    have h1 := (gTo_all (tns m ns) ns.length).1
    rcases gTo_one_of (tns m ns) ns.length with e | ⟨j, hj, e⟩
    · omega
    · rw [e, tns_getD hj]
      have := pc_le5 (ftN m (ns.getD j 0) ns)
      omega
  match i with
  | 0 =>
    have := widTo_bd (shatN (m : Int) (toI ns)) (shatN (m : Int) (toI ns)).length
    show -1024 ≤ widTo _ _ ∧ widTo _ _ ≤ 1024
    omega
  | 1 =>
    show -1024 ≤ mst ns ∧ mst ns ≤ 1024
    have : -1 ≤ mst ns := by
      unfold mst
      split
      · omega
      · have := (dep_bdLo 32 ns).1; omega
    omega
  | 2 =>
    have := dep_bdQu 32 ns
    show -1024 ≤ qst ns ∧ qst ns ≤ 1024
    unfold qst
    omega
  | 3 => show -1024 ≤ gTo (tns m ns) ns.length ∧ gTo (tns m ns) ns.length ≤ 1024; omega
  | 4 =>
    have h1 := rdM_lo m ns
    have h2 := rdM_td h
    show -1024 ≤ rdM m ns ∧ rdM m ns ≤ 1024
    omega
  | 5 =>
    have h1 := starM_lo h.pts ns
    have h2 := starM_pts h.pts ns
    have h3 := h.pts
    show -1024 ≤ starM m ns ∧ starM m ns ≤ 1024
    omega
  | _ + 6 =>
    have hv := cls_vldB h
    show -1024 ≤ eulB m (toI ns) ∧ eulB m (toI ns) ≤ 1024
    rw [eulB_in hv]
    have h1 := eulTo_bd (cbTo ns m ns.length) (cbTo ns m ns.length).length
    have h2 := cbTo_len (ns := ns) h.pts ns.length
    omega
theorem mst_le32 (ns : List Nat) : mst ns ≤ 32 := by
  unfold mst
  split
  · omega
  · have := (dep_bdLo 32 ns).2; omega
theorem nb_size6 (k : Nat) (h : k < 1000000) : (nb k).size ≤ 6 := by
  have := dig_len6 5 k (by have : (10 : Nat) ^ (5 + 1) = 1000000 := rfl; omega)
  show (Lib.decDigits k).toArray.size ≤ 6
  rw [List.size_toArray]
  omega
theorem itB_size {z : Int} (h : -1024 ≤ z ∧ z ≤ 1024) : (itB z).size ≤ 7 := by
  by_cases h0 : z < 0
  · obtain ⟨k, rfl⟩ : ∃ k : Nat, z = -(k : Int) := ⟨z.natAbs, by omega⟩
    rw [itB_neg k (by omega), ByteArray.size_append]
    have := nb_size6 k (by omega)
    show 1 + _ ≤ 7
    omega
  · obtain ⟨k, rfl⟩ := Int.eq_ofNat_of_zero_le (show 0 ≤ z by omega)
    rw [itB_nat]
    have := nb_size6 k (by omega)
    omega
theorem ctB_size {m : Nat} {ns : List Nat} (h : Cls m ns) : (ctB m (toI ns)).size ≤ 99 := by
  have hv := cls_vldB h
  have h1 := h.length
  rw [ctB_in hv]
  have := ctT_size (m := m) (ns := ns) (by have := h.pts; omega) (vld_lt hv).2 ns.length (Nat.le_refl _)
  omega
theorem ynT_size (b : Bool) : (ynT b).size ≤ 3 := by cases b <;> decide
theorem ansK_size {m : Nat} {ns : List Nat} (h : Cls m ns) (i : Nat) : (ansK m ns i).size ≤ 99 := by
  rw [ansK]
  split
  · have := itB_size (numK_bd h (mst_le32 ns) i); omega
  · split
    · have := ynT_size (maxB m (toI ns)); omega
    · split
      · have := ynT_size (extB m (toI ns)); omega
      · split
        · exact ctB_size (cmpl_cls h)
        · exact ctB_size (h.swTo m)
theorem ansB_size (s : ByteArray) : (ansB s).size ≤ 99 := by
  have hw : whatT.size = 4 := rfl
  rw [ansB]
  split
  · split
    · omega
    · split
      · show (5 : Nat) ≤ 99; omega
      · rename_i p hp
        obtain ⟨n, zs⟩ := p
        obtain ⟨m, ns, rfl, rfl, hc⟩ := vldB_cls (pM_text hp).1
        show (ansK (Int.toNat (m : Int)) ((toI ns).map Int.toNat) _).size ≤ 99
        rw [Int.toNat_natCast, toNat_toI]
        exact ansK_size hc _
  · omega
/-- the answers to the first k lines -/
def dskTo (L : List ByteArray) : Nat → ByteArray
  | 0 => ⟨#[]⟩
  | k + 1 => dskTo L k ++ ansB (L.getD k ⟨#[]⟩) ++ ⟨#[10]⟩
def dskB (L : List ByteArray) : ByteArray := if L.length ≤ 20 then dskTo L L.length else ⟨#[]⟩
theorem dskTo_size (L : List ByteArray) : ∀ k, (dskTo L k).size ≤ 100 * k
  | 0 => Nat.le_refl _
  | k + 1 => by
    rw [dskTo, ByteArray.size_append, ByteArray.size_append]
    have h1 := dskTo_size L k
    have h2 := ansB_size (L.getD k ⟨#[]⟩)
    show _ + _ + 1 ≤ _
    omega

end Go.Proofs.YtnmilfkocheaiaaGreatDoor

namespace Go.Proofs.YtnmilfkocheaiaaGreatDoor
open Go.RowKit Go.Extern.Stop Go.Stop Go.Extern

theorem erTypeOf (v : Value) (w : World) : (Extern.ReflectliteType.typeOf #[.iface 183 v]).run Tryz.prog w = .ok (.iface 104 (.agg #[.pointer (some ⟨12, 183, none⟩)])) w := by kernel_rfl
theorem erComp (w : World) : ((Extern.ReflectliteType.method fun t => do Go.Extern.Rtype.noPackHeld "Comparable" t; pure (.bool (← typeInfo t).comparable)) #[.agg #[.pointer (some ⟨12, 183, none⟩)]]).run Tryz.prog w = .ok (.bool true) w := by kernel_rfl
theorem erTypeCall (v : Value) (w : World) : (callFunc 66 #[.iface 183 v]).run Tryz.prog w = .ok (.value (.iface 104 (.agg #[.pointer (some ⟨12, 183, none⟩)]))) w := by
  rw [@run_callFunc_extern Tryz.prog 66 _ Extern.ReflectliteType.typeOf Tryz.func66 (by kernel_rfl) (by kernel_rfl) (by kernel_rfl) (by kernel_rfl), erTypeOf]
  rfl
theorem erCompCall (w : World) : (callFunc 206 #[.agg #[.pointer (some ⟨12, 183, none⟩)]]).run Tryz.prog w = .ok (.value (.bool true)) w := by
  rw [@run_callFunc_extern Tryz.prog 206 _ (Extern.ReflectliteType.method fun t => do Go.Extern.Rtype.noPackHeld "Comparable" t; pure (.bool (← typeInfo t).comparable)) Tryz.func206 (by kernel_rfl) (by kernel_rfl) (by kernel_rfl) (by kernel_rfl), erComp]
  rfl
theorem erMeth (v : Value) (w : World) : (Go.method 323 104 v "Comparable").run Tryz.prog w = .ok (206, v) w := by kernel_rfl
theorem erCmp : (Tryz.prog.info? 183).map (·.comparable) = some true := by kernel_rfl
theorem erSize : (Tryz.prog.info? 185).map (·.size) = some 1 := by kernel_rfl
theorem erNoIs (v : Value) (xT : TypeId) (w : World) : (Instr.typeAssert (.iface 183 v) xT 106 true).run Tryz.prog w = .ok (.tuple #[.nilIface, .bool false]) w := run_typeAssert_lacksB Tryz.underlying106 (by kernel_rfl) (by kernel_rfl) v xT w
theorem erNoUw (v : Value) (xT : TypeId) (w : World) : (Instr.typeAssert (.iface 183 v) xT 109 true).run Tryz.prog w = .ok (.tuple #[.nilIface, .bool false]) w := run_typeAssert_lacksB Tryz.underlying109 (by kernel_rfl) (by kernel_rfl) v xT w
theorem erNoUs (v : Value) (xT : TypeId) (w : World) : (Instr.typeAssert (.iface 183 v) xT 111 true).run Tryz.prog w = .ok (.tuple #[.nilIface, .bool false]) w := run_typeAssert_lacksB Tryz.underlying111 (by kernel_rfl) (by kernel_rfl) v xT w

set_option maxRecDepth 100000 in
theorem erSameIn (a b : Addr) (w : World) (hab : a = b) :
    Calls Tryz.prog 67 #[.iface 183 (.pointer (some a)), .iface 183 (.pointer (some b)), .bool true] w fun e w' => e = .returned (.bool true) ∧ w' = w := by
  obtain ⟨i, hi, hcmp⟩ := Option.map_eq_some_iff.1 erCmp
  obtain ⟨j, hj, hjs⟩ := Option.map_eq_some_iff.1 erSize
  subst hab
  have heq := run_eql_iface_ptr_same (P := Tryz.prog) w a Tryz.underlying37 Tryz.underlying183 hi hcmp hj
  go_enter Tryz.func67, Tryz.ntmps67
  go_wp2
  refine wp_loop_rounds 1 ?_
  rw [rounds_succ]
  go_wp2
  go_ret
  exact ⟨rfl, rfl⟩

set_option maxRecDepth 100000 in
theorem erOtherIn (a b : Addr) (w : World) (hne : a ≠ b) (ca cb : Array Value) (ta tb : TypeId) (ha : w.heap[a.block]? = some (.cells ca ta (0, 0))) (hb : w.heap[b.block]? = some (.cells cb tb (0, 0))) :
    Calls Tryz.prog 67 #[.iface 183 (.pointer (some a)), .iface 183 (.pointer (some b)), .bool true] w fun e w' => e = .returned (.bool false) ∧ w' = w := by
  obtain ⟨i, hi, hcmp⟩ := Option.map_eq_some_iff.1 erCmp
  obtain ⟨j, hj, hjs⟩ := Option.map_eq_some_iff.1 erSize
  have heq := run_eql_iface_ptr_other (P := Tryz.prog) w Tryz.underlying37 Tryz.underlying183 hi hcmp hj (by rw [hjs]; decide) hne ha hb
  have nE := erNoIs
  have uE := erNoUw
  have vE := erNoUs
  go_enter Tryz.func67, Tryz.ntmps67
  go_wp2
  refine wp_loop_rounds 1 ?_
  rw [rounds_succ]
  go_wp2
  go_ret
  exact ⟨rfl, rfl⟩

theorem run_eql_iface_nil_right7 (v : Value) (w : World) : (binOp .eql 37 (.iface 183 v) .nilIface).run Tryz.prog w = .ok (.bool false) w := by
  have h : ∀ d : Nat, (Op.equalIn (d + 1) 37 (.iface 183 v) .nilIface).run Tryz.prog w = .ok false w := fun d => by simp [Op.equalIn, run_underlying Tryz.underlying37]
  simp only [binOp]
  simp [Op.equal, Op.maxDepth, h 9999]

set_option maxHeartbeats 800000 in
set_option maxRecDepth 100000 in
theorem erSame (a : Addr) (w : World) :
    Calls Tryz.prog 42 #[.iface 183 (.pointer (some a)), .iface 183 (.pointer (some a))] w fun e w' => e = .returned (.bool true) ∧ w' = w := by
  have HIN := Lib.hid (erSameIn a a w rfl)
  have h8 := erTypeCall
  have h32 := erCompCall
  have mR := erMeth
  have hn1 := run_eql_iface_nil_right7 (.pointer (some a)) w
  go_enter Tryz.func42, Tryz.ntmps42
  go_wp2_with fail
  refine HIN.out.mono ?_
  rintro e w1 ⟨rfl, rfl⟩
  go_wp2_with fail
  go_ret
  exact ⟨rfl, rfl⟩

set_option maxHeartbeats 800000 in
set_option maxRecDepth 100000 in
theorem erOther (a b : Addr) (w : World) (hne : a ≠ b) (ca cb : Array Value) (ta tb : TypeId) (ha : w.heap[a.block]? = some (.cells ca ta (0, 0))) (hb : w.heap[b.block]? = some (.cells cb tb (0, 0))) :
    Calls Tryz.prog 42 #[.iface 183 (.pointer (some a)), .iface 183 (.pointer (some b))] w fun e w' => e = .returned (.bool false) ∧ w' = w := by
  have HIN := Lib.hid (erOtherIn a b w hne ca cb ta tb ha hb)
  have h8 := erTypeCall
  have h32 := erCompCall
  have mR := erMeth
  have hn1 := run_eql_iface_nil_right7 (.pointer (some a)) w
  have hn2 := run_eql_iface_nil_right7 (.pointer (some b)) w
  go_enter Tryz.func42, Tryz.ntmps42
  go_wp2_with fail
  refine HIN.out.mono ?_
  rintro e w1 ⟨rfl, rfl⟩
  go_wp2_with fail
  go_ret
  exact ⟨rfl, rfl⟩

set_option maxRecDepth 100000 in
theorem erNil (b : Addr) (w : World) :
    Calls Tryz.prog 42 #[.nilIface, .iface 183 (.pointer (some b))] w fun e w' => e = .returned (.bool false) ∧ w' = w := by
  have hn := run_eql_iface_nil_left (P := Tryz.prog) w 183 (.pointer (some b)) Tryz.underlying37
  go_enter Tryz.func42, Tryz.ntmps42
  go_wp2
  go_ret
  exact ⟨rfl, rfl⟩

end Go.Proofs.YtnmilfkocheaiaaGreatDoor

namespace Go.Proofs.YtnmilfkocheaiaaGreatDoor
open Go.Shelf Go.RowKit

def shContains_ren : Go.Shelf.Ren := ⟨fun | 144 => 64 | 143 => 94 | 219 => 118 | 217 => 136 | 225 => 137 | 224 => 138 | 267 => 139 | 266 => 160 | 314 => 161 | n => n, fun | 9 => 9 | 4 => 4 | 3 => 3 | 5 => 5 | 46 => 131 | 146 => 161 | 51 => 115 | n => n, fun | 1 => 3 | n => n⟩
theorem shContains : Go.Proofs.LaysM.n144 Tryz.prog shContains_ren := {
  mixed := by kernel_rfl,
  f143 := Tryz.func94.trans (congrArg some (by kernel_rfl)),
  f144 := Tryz.func64.trans (congrArg some (by kernel_rfl)),
  f217 := Tryz.func136.trans (congrArg some (by kernel_rfl)),
  f219 := Tryz.func118.trans (congrArg some (by kernel_rfl)),
  f224 := Tryz.func138.trans (congrArg some (by kernel_rfl)),
  f225 := Tryz.func137.trans (congrArg some (by kernel_rfl)),
  f266 := Tryz.func160.trans (congrArg some (by kernel_rfl)),
  f267 := Tryz.func139.trans (congrArg some (by kernel_rfl)),
  f314 := Tryz.func161.trans (congrArg some (by kernel_rfl)),
  t3 := Tryz.underlying3,
  a3 := Tryz.isAgg3,
  z3 := Tryz.sizeOf3,
  v3 := Tryz.zeroValue3,
  t4 := Tryz.underlying4,
  a4 := Tryz.isAgg4,
  z4 := Tryz.sizeOf4,
  v4 := Tryz.zeroValue4,
  t5 := Tryz.underlying5,
  a5 := Tryz.isAgg5,
  z5 := Tryz.sizeOf5,
  v5 := Tryz.zeroValue5,
  t9 := Tryz.underlying9,
  a9 := Tryz.isAgg9,
  z9 := Tryz.sizeOf9,
  v9 := Tryz.zeroValue9,
  t46 := Tryz.underlying131,
  a46 := Tryz.isAgg131,
  z46 := Tryz.sizeOf131,
  v46 := Tryz.zeroValue131,
  t51 := Tryz.underlying115,
  a51 := Tryz.isAgg115,
  z51 := Tryz.sizeOf115,
  v51 := Tryz.zeroValue115,
  t146 := Tryz.underlying161,
  a146 := Tryz.isAgg161,
  z146 := Tryz.sizeOf161,
  v146 := Tryz.zeroValue161,
  g1 := by kernel_rfl,
  i3 := by kernel_rfl,
  i4 := by kernel_rfl,
  i5 := by kernel_rfl,
  i9 := by kernel_rfl,
  i46 := by kernel_rfl,
  i51 := by kernel_rfl,
  i146 := by kernel_rfl,
  m1 := by kernel_rfl,
  s1_3 := fun w h => Go.Proofs.cell_of_shapedOpen_int (zero := #[.int .i64 0]) (t := 3) h (of_decide_eq_true (by kernel_rfl)) (by kernel_rfl) rfl (by kernel_rfl) (by kernel_rfl) Tryz.underlying3 }
def shItoaM_ren : Go.Shelf.Ren := ⟨fun | 171 => 68 | 243 => 98 | 246 => 121 | 283 => 144 | 284 => 145 | 285 => 146 | 286 => 147 | 129 => 171 | 317 => 170 | 318 => 172 | 319 => 173 | 320 => 174 | 337 => 182 | 338 => 183 | n => n, fun | 3 => 3 | 9 => 9 | 2 => 2 | 4 => 4 | 171 => 146 | 0 => 0 | 53 => 147 | 37 => 28 | 5 => 5 | 173 => 150 | 212 => 172 | 51 => 115 | 20 => 20 | 213 => 173 | 46 => 131 | 232 => 190 | 233 => 191 | n => n, fun | 17 => 4 | 18 => 10 | 19 => 11 | n => n⟩
theorem shItoaM : Go.Proofs.LaysM.n171 Tryz.prog shItoaM_ren := {
  mixed := by kernel_rfl,
  f129 := Tryz.func171.trans (congrArg some (by kernel_rfl)),
  f171 := Tryz.func68.trans (congrArg some (by kernel_rfl)),
  f243 := Tryz.func98.trans (congrArg some (by kernel_rfl)),
  f246 := Tryz.func121.trans (congrArg some (by kernel_rfl)),
  f283 := Tryz.func144.trans (congrArg some (by kernel_rfl)),
  f284 := Tryz.func145.trans (congrArg some (by kernel_rfl)),
  f285 := Tryz.func146.trans (congrArg some (by kernel_rfl)),
  f286 := Tryz.func147.trans (congrArg some (by kernel_rfl)),
  f317 := Tryz.func170.trans (congrArg some (by kernel_rfl)),
  f318 := Tryz.func172.trans (congrArg some (by kernel_rfl)),
  f319 := Tryz.func173.trans (congrArg some (by kernel_rfl)),
  f320 := Tryz.func174.trans (congrArg some (by kernel_rfl)),
  f337 := Tryz.func182.trans (congrArg some (by kernel_rfl)),
  f338 := Tryz.func183.trans (congrArg some (by kernel_rfl)),
  t0 := Tryz.underlying0,
  a0 := Tryz.isAgg0,
  z0 := Tryz.sizeOf0,
  v0 := Tryz.zeroValue0,
  t2 := Tryz.underlying2,
  a2 := Tryz.isAgg2,
  z2 := Tryz.sizeOf2,
  v2 := Tryz.zeroValue2,
  t3 := Tryz.underlying3,
  a3 := Tryz.isAgg3,
  z3 := Tryz.sizeOf3,
  v3 := Tryz.zeroValue3,
  t4 := Tryz.underlying4,
  a4 := Tryz.isAgg4,
  z4 := Tryz.sizeOf4,
  v4 := Tryz.zeroValue4,
  t5 := Tryz.underlying5,
  a5 := Tryz.isAgg5,
  z5 := Tryz.sizeOf5,
  v5 := Tryz.zeroValue5,
  t9 := Tryz.underlying9,
  a9 := Tryz.isAgg9,
  z9 := Tryz.sizeOf9,
  v9 := Tryz.zeroValue9,
  t20 := Tryz.underlying20,
  a20 := Tryz.isAgg20,
  z20 := Tryz.sizeOf20,
  v20 := Tryz.zeroValue20,
  t37 := Tryz.underlying28,
  a37 := Tryz.isAgg28,
  z37 := Tryz.sizeOf28,
  v37 := Tryz.zeroValue28,
  t46 := Tryz.underlying131,
  a46 := Tryz.isAgg131,
  z46 := Tryz.sizeOf131,
  v46 := Tryz.zeroValue131,
  t51 := Tryz.underlying115,
  a51 := Tryz.isAgg115,
  z51 := Tryz.sizeOf115,
  v51 := Tryz.zeroValue115,
  t53 := Tryz.underlying147,
  a53 := Tryz.isAgg147,
  z53 := Tryz.sizeOf147,
  v53 := Tryz.zeroValue147,
  t171 := Tryz.underlying146,
  a171 := Tryz.isAgg146,
  z171 := Tryz.sizeOf146,
  v171 := Tryz.zeroValue146,
  t173 := Tryz.underlying150,
  a173 := Tryz.isAgg150,
  z173 := Tryz.sizeOf150,
  v173 := Tryz.zeroValue150,
  t212 := Tryz.underlying172,
  a212 := Tryz.isAgg172,
  z212 := Tryz.sizeOf172,
  v212 := Tryz.zeroValue172,
  t213 := Tryz.underlying173,
  a213 := Tryz.isAgg173,
  z213 := Tryz.sizeOf173,
  t232 := Tryz.underlying190,
  a232 := Tryz.isAgg190,
  z232 := Tryz.sizeOf190,
  v232 := Tryz.zeroValue190,
  t233 := Tryz.underlying191,
  a233 := Tryz.isAgg191,
  z233 := Tryz.sizeOf191,
  v233 := Tryz.zeroValue191,
  g17 := by kernel_rfl,
  g18 := by kernel_rfl,
  g19 := by kernel_rfl,
  i0 := by kernel_rfl,
  i2 := by kernel_rfl,
  i3 := by kernel_rfl,
  i4 := by kernel_rfl,
  i5 := by kernel_rfl,
  i9 := by kernel_rfl,
  i20 := by kernel_rfl,
  i37 := by kernel_rfl,
  i46 := by kernel_rfl,
  i51 := by kernel_rfl,
  i53 := by kernel_rfl,
  i171 := by kernel_rfl,
  i173 := by kernel_rfl,
  i212 := by kernel_rfl,
  i232 := by kernel_rfl,
  i233 := by kernel_rfl,
  m17 := by kernel_rfl,
  m18 := by kernel_rfl,
  m19 := by kernel_rfl }

end Go.Proofs.YtnmilfkocheaiaaGreatDoor

namespace Go.Proofs.YtnmilfkocheaiaaGreatDoor
open Go.RowKit

/-- the table of words lies -/
def LW (w : World) : Prop := ∀ j, j < 11 → w.cell? ⟨2, j, none⟩ = some (.string (wordsL.getD j ⟨#[]⟩))
theorem LW.keep {w w' : World} (h : LW w) (hb : Below w.heap.size w w') : LW w' := fun j hj => (hb.cell (World.block_lt_of_cell? w _ (h j hj))).trans (h j hj)
/-- the two errors lie, apart -/
def Er (a b : Addr) (w : World) : Prop := w.cell? ⟨0, 0, none⟩ = some (.iface 183 (.pointer (some a))) ∧ w.cell? ⟨1, 0, none⟩ = some (.iface 183 (.pointer (some b))) ∧ a ≠ b ∧
  (∃ ca ta, w.heap[a.block]? = some (.cells ca ta (0, 0))) ∧ ∃ cb tb, w.heap[b.block]? = some (.cells cb tb (0, 0))
theorem Er.keep {a b : Addr} {w w' : World} (h : Er a b w) (hb : Below w.heap.size w w') : Er a b w' := by
  obtain ⟨h1, h2, h3, ⟨ca, ta, h4⟩, ⟨cb, tb, h5⟩⟩ := h
  exact ⟨(hb.cell (World.block_lt_of_cell? w _ h1)).trans h1, (hb.cell (World.block_lt_of_cell? w _ h2)).trans h2, h3, ⟨ca, ta, (hb.block _ (Array.getElem?_eq_some_iff.1 h4).1).trans h4⟩, ⟨cb, tb, (hb.block _ (Array.getElem?_eq_some_iff.1 h5).1).trans h5⟩⟩
/-- all that a desk reads of the package's variables -/
def Dk (a b : Addr) (w : World) : Prop := SW w ∧ Lbs w ∧ LW w ∧ Er a b w
theorem Dk.below {a b : Addr} {w w' : World} {k : Nat} (h : Dk a b w) (hb : Below k w w') (hk : w.heap.size ≤ k) : Dk a b w' :=
  ⟨h.1.next (hb.mono hk), h.2.1.keep (hb.mono hk), h.2.2.1.keep (hb.mono hk), h.2.2.2.keep (hb.mono hk)⟩

theorem ba_eq {x y : ByteArray} (h : x = y) : (x.toList == y.toList) = true := by rw [h]; exact beq_self_eq_true _
theorem ba_ne {x y : ByteArray} (h : ¬ x = y) : (x.toList == y.toList) = false := beq_eq_false_iff_ne.2 (fun h9 => h (by rw [ByteArray.toList_eq, ByteArray.toList_eq] at h9; exact ByteArray.ext (Array.toList_inj.1 h9)))

theorem ixW (k : Nat) (hk : k < 11) (w : World) : (Instr.index 100 (.agg #[.string ⟨#[118, 99]⟩, .string ⟨#[108, 105, 116, 116, 108, 101, 115, 116, 111, 110, 101]⟩, .string ⟨#[109, 101, 109, 98, 101, 114, 115]⟩, .string ⟨#[116, 101, 97, 99, 104]⟩, .string ⟨#[114, 101, 99, 117, 114, 115, 105, 118, 101]⟩, .string ⟨#[115, 116, 97, 114]⟩, .string ⟨#[101, 117, 108, 101, 114]⟩, .string ⟨#[109, 97, 120, 105, 109, 117, 109]⟩, .string ⟨#[101, 120, 116, 114, 101, 109, 97, 108]⟩, .string ⟨#[99, 111, 109, 112, 108, 101, 109, 101, 110, 116]⟩, .string ⟨#[115, 101, 116, 116, 108, 101]⟩]) (.int .i64 (k : Int))).run Tryz.prog w = .ok (.string (wordsL.getD k ⟨#[]⟩)) w := by
  rcases (show k = 0 ∨ k = 1 ∨ k = 2 ∨ k = 3 ∨ k = 4 ∨ k = 5 ∨ k = 6 ∨ k = 7 ∨ k = 8 ∨ k = 9 ∨ k = 10 by omega) with rfl | rfl | rfl | rfl | rfl | rfl | rfl | rfl | rfl | rfl | rfl <;> kernel_rfl

set_option maxHeartbeats 1600000 in
set_option maxRecDepth 100000 in
theorem implKindOf (x : ByteArray) (w : World) (h : LW w) :
    Calls Tryz.prog 63 #[.string x] w fun e w' => e = .returned (.tuple #[.int .i64 (((kOf x).getD 0 : Nat) : Int), .bool (kOf x).isSome]) ∧ w' = w := by
  have h0 : w.cell? ⟨2, 0, none⟩ = some (.string ⟨#[118, 99]⟩) := h 0 (by decide)
  have h1 : w.cell? ⟨2, 1, none⟩ = some (.string ⟨#[108, 105, 116, 116, 108, 101, 115, 116, 111, 110, 101]⟩) := h 1 (by decide)
  have h2 : w.cell? ⟨2, 2, none⟩ = some (.string ⟨#[109, 101, 109, 98, 101, 114, 115]⟩) := h 2 (by decide)
  have h3 : w.cell? ⟨2, 3, none⟩ = some (.string ⟨#[116, 101, 97, 99, 104]⟩) := h 3 (by decide)
  have h4 : w.cell? ⟨2, 4, none⟩ = some (.string ⟨#[114, 101, 99, 117, 114, 115, 105, 118, 101]⟩) := h 4 (by decide)
  have h5 : w.cell? ⟨2, 5, none⟩ = some (.string ⟨#[115, 116, 97, 114]⟩) := h 5 (by decide)
  have h6 : w.cell? ⟨2, 6, none⟩ = some (.string ⟨#[101, 117, 108, 101, 114]⟩) := h 6 (by decide)
  have h7 : w.cell? ⟨2, 7, none⟩ = some (.string ⟨#[109, 97, 120, 105, 109, 117, 109]⟩) := h 7 (by decide)
  have h8 : w.cell? ⟨2, 8, none⟩ = some (.string ⟨#[101, 120, 116, 114, 101, 109, 97, 108]⟩) := h 8 (by decide)
  have h9 : w.cell? ⟨2, 9, none⟩ = some (.string ⟨#[99, 111, 109, 112, 108, 101, 109, 101, 110, 116]⟩) := h 9 (by decide)
  have h10 : w.cell? ⟨2, 10, none⟩ = some (.string ⟨#[115, 101, 116, 116, 108, 101]⟩) := h 10 (by decide)
  clear h
  go_enter Tryz.func63, Tryz.ntmps63
  go_wp2_with fail
  clear h0 h1 h2 h3 h4 h5 h6 h7 h8 h9 h10
  have HIX := Lib.hid ixW
  generalize (Value.agg #[.string ⟨#[118, 99]⟩, .string ⟨#[108, 105, 116, 116, 108, 101, 115, 116, 111, 110, 101]⟩, .string ⟨#[109, 101, 109, 98, 101, 114, 115]⟩, .string ⟨#[116, 101, 97, 99, 104]⟩, .string ⟨#[114, 101, 99, 117, 114, 115, 105, 118, 101]⟩, .string ⟨#[115, 116, 97, 114]⟩, .string ⟨#[101, 117, 108, 101, 114]⟩, .string ⟨#[109, 97, 120, 105, 109, 117, 109]⟩, .string ⟨#[101, 120, 116, 114, 101, 109, 97, 108]⟩, .string ⟨#[99, 111, 109, 112, 108, 101, 109, 101, 110, 116]⟩, .string ⟨#[115, 101, 116, 116, 108, 101]⟩]) = V at *
  go_loop [7] (fun i => ∃ k : Nat, k ≤ 11 ∧ i = .int .i64 k ∧ kOf x = kFrom x (wordsL.drop k) k) (fun i => 11 - (intOf i).toNat)
  case atStart => exact ⟨0, by omega, rfl, rfl⟩
  case round =>
    obtain ⟨k, hk, rfl, hK⟩ := hrel
    by_cases hlt : k < 11
    · have hix := fun w => HIX.out k hlt w
      have hki : (k : Int) < 11 := by omega
      have hdr : wordsL.drop k = wordsL.getD k ⟨#[]⟩ :: wordsL.drop (k + 1) := by
        rw [List.drop_eq_getElem_cons (show k < wordsL.length from hlt), List.getD_eq_getElem?_getD, List.getElem?_eq_getElem (show k < wordsL.length from hlt)]
        rfl
      rw [hdr, kFrom] at hK
      generalize wordsL.getD k ⟨#[]⟩ = y at *
      clear hdr hlt
      by_cases hy : y = x
      · rw [if_pos hy] at hK
        have HF := Lib.hid hK
        have hq := ba_eq hy
        clear hK hy
        go_wp2_with fail
        refine bodyPost_ret (v := .tuple #[.int .i64 (k : Int), .bool true]) (by simp [results, Tryz.results63, go_sem]) rfl ?_
        rw [HF.out]
        exact ⟨rfl, rfl⟩
      · rw [if_neg hy] at hK
        have HF := Lib.hid hK
        have hq := ba_ne hy
        clear hK hy
        go_wp2_with fail
        go_round
        case rel => exact ⟨k + 1, by omega, by go_num, HF.out⟩
        case measure => simp [intOf]; omega
    · obtain rfl : k = 11 := by omega
      have HF := Lib.hid (show kOf x = none from hK)
      clear hK
      go_wp2_with fail
      refine bodyPost_ret (v := .tuple #[.int .i64 0, .bool false]) (by simp [results, Tryz.results63, go_sem]) rfl ?_
      rw [HF.out]
      exact ⟨rfl, rfl⟩

theorem implYes (b : Bool) (w : World) :
    Calls Tryz.prog 76 #[.bool b] w fun e w' => e = .returned (.string (ynT b)) ∧ w' = w := by
  cases b with
  | true =>
    go_enter Tryz.func76, Tryz.ntmps76
    go_wp2_with fail
    go_ret
    exact ⟨rfl, rfl⟩
  | false =>
    go_enter Tryz.func76, Tryz.ntmps76
    go_wp2_with fail
    go_ret
    exact ⟨rfl, rfl⟩
theorem specYn (b : Bool) (w : World) :
    Calls Tryz.prog 35 #[.bool b] w fun e w' => e = .returned (.string (ynT b)) ∧ w' = w := by
  cases b with
  | true =>
    go_enter Tryz.func35, Tryz.ntmps35
    go_wp2_with fail
    go_ret
    exact ⟨rfl, rfl⟩
  | false =>
    go_enter Tryz.func35, Tryz.ntmps35
    go_wp2_with fail
    go_ret
    exact ⟨rfl, rfl⟩
theorem libCutS (s : ByteArray) (hs : s.size ≤ 1048576) (w : World) (h : Lbs w) :
    Calls Tryz.prog 62 #[.string s, .string ⟨#[32]⟩] w fun e w' => e = .returned (.tuple #[.string (lnW s), .string (lnT s), .bool (lnF s)]) ∧ Below w.heap.size w w' := by
  obtain ⟨-, m, hm⟩ := h
  refine (Any.strings_Cut { shCut with } s ⟨#[32]⟩ m w (by omega) hm).mono ?_
  rintro e w' ⟨rfl, n, rfl⟩
  exact ⟨rfl, below_drewN (Below.refl _ _) n⟩
theorem libContains (s : ByteArray) (hs : s.size ≤ 1048576) (w : World) (h : Lbs w) :
    Calls Tryz.prog 64 #[.string s, .string ⟨#[32]⟩] w fun e w' => e = .returned (.bool (Lib.contains s.data.toList [32])) ∧ w' = w := by
  obtain ⟨-, m, hm⟩ := h
  exact Any.strings_Contains { shContains with } s ⟨#[32]⟩ m w (by omega) hm

/-- what readLine answers: nothing known, no class, a kind and a class -/
def RdL (a b : Addr) (s : ByteArray) (w : World) (e : Ending) (w' : World) : Prop :=
  ((ansB s = whatT ∧ e = .returned (.tuple #[.int .i64 0, .agg #[.int .i64 0, .slice none 0 0], .iface 183 (.pointer (some b))])) ∨
   (ansB s = wrongT ∧ e = .returned (.tuple #[.int .i64 0, .agg #[.int .i64 0, .slice none 0 0], .iface 183 (.pointer (some a))])) ∨
   (∃ (i m : Nat) (ns : List Nat) (a' : Option Addr) (c' : Nat), i < 11 ∧ vldB m (toI ns) = true ∧ ansB s = ansK m ns i ∧ e = .returned (.tuple #[.int .i64 i, .agg #[.int .i64 m, .slice a' (toI ns).length c'], .nilIface]) ∧ Ints w.heap.size w' (.slice a' (toI ns).length c') (toI ns))) ∧ Below w.heap.size w w'
theorem ansB_what {s : ByteArray} (h : ¬ (lnF s = true ∧ lnC s = false)) : ansB s = whatT := by rw [ansB, if_neg h]
theorem ansB_unknown {s : ByteArray} (h : kOf (lnW s) = none) : ansB s = whatT := by
  rw [ansB]
  split
  · rw [h]
  · rfl
theorem ansB_wrong {s : ByteArray} {i : Nat} (h : lnF s = true ∧ lnC s = false) (hk : kOf (lnW s) = some i) (hp : pM (lnT s) = none) : ansB s = wrongT := by rw [ansB, if_pos h, hk, hp]
theorem ansB_ok {s : ByteArray} {i m : Nat} {ns : List Nat} (h : lnF s = true ∧ lnC s = false) (hk : kOf (lnW s) = some i) (hp : pM (lnT s) = some ((m : Int), toI ns)) : ansB s = ansK m ns i := by
  rw [ansB, if_pos h, hk, hp]
  show ansK (Int.toNat (m : Int)) ((toI ns).map Int.toNat) i = _
  rw [Int.toNat_natCast, toNat_toI]

set_option maxHeartbeats 1600000 in
set_option maxRecDepth 100000 in
theorem implReadLine (a b : Addr) (s : ByteArray) (hs : s.size ≤ 1048576) (w : World) (hd : Dk a b w) :
    Calls Tryz.prog 41 #[.string s] w (RdL a b s w) := by
  have HDk0 := Lib.hid hd
  have hW := lnW_size s
  have hT := lnT_size s
  have HCut := Lib.hid (libCutS s hs)
  have HKn := Lib.hid (fun w h => implKindOf (lnW s) w h)
  have HCo := Lib.hid (show ∀ w, Lbs w → Calls Tryz.prog 64 #[.string (lnT s), .string ⟨#[32]⟩] w fun e w' => e = .returned (.bool (lnC s)) ∧ w' = w from fun w h => libContains (lnT s) (by omega) w h)
  have HPc := Lib.hid (fun w h => implParseClass (lnT s) (by omega) w h)
  have HA1 := Lib.hid (fun h => ansB_what (s := s) h)
  have HA2 := Lib.hid (fun h => ansB_unknown (s := s) h)
  have HA3 := Lib.hid (fun i h hk hp => ansB_wrong (s := s) (i := i) h hk hp)
  have HA4 := Lib.hid (fun i m ns h hk hp => ansB_ok (s := s) (i := i) (m := m) (ns := ns) h hk hp)
  have HKs := Lib.hid (fun i (h : kOf (lnW s) = some i) => (kOf_some h).1)
  clear hd
  generalize lnW s = wd at *
  generalize lnT s = tx at *
  generalize lnC s = co at *
  generalize lnF s = fo at *
  generalize hko : kOf wd = ko at *
  generalize hpm : pM tx = pm at *
  have HPN := Lib.hid (fun (h : pm = none) => prs_none (s := tx) (by rw [hpm]; exact h))
  have HPS := Lib.hid (fun n zs (h : pm = some (n, zs)) => prs_some (s := tx) (n := n) (zs := zs) (by rw [hpm]; exact h))
  have HPT := Lib.hid (fun n zs (h : pm = some (n, zs)) => (pM_text (s := tx) (n := n) (zs := zs) (by rw [hpm]; exact h)).1)
  clear hpm hko
  have Y := Lib.hid (Bx.new 0 (.slice none 0 0) w)
  have B := Lib.hid (show Below w.heap.size w (w.alloc (Obj.cells #[.int .i64 0, .slice none 0 0] 47)) from (Below.refl _ _).alloc (Nat.le_refl _) _)
  have HZ := Lib.hid (show (w.alloc (Obj.cells #[.int .i64 0, .slice none 0 0] 47)).heap.size = w.heap.size + 1 by simp)
  go_enter Tryz.func41, Tryz.ntmps41
  go_wp2_with fail
  generalize w.alloc (Obj.cells #[.int .i64 0, .slice none 0 0] 47) = w0 at *
  have hz0 : w.heap.size + 1 ≤ w0.heap.size := by have := HZ.out; omega
  clear HZ
  generalize hH : w.heap.size = H at *
  have HDk := Lib.hid (fun w' (hb : Below H w w') => HDk0.out.below hb (Nat.le_of_eq hH))
  have hgr : 0 < H := hH ▸ World.block_lt_of_cell? w _ HDk0.out.2.2.2.1
  have hgh : 1 < H := hH ▸ World.block_lt_of_cell? w _ HDk0.out.2.2.2.2.1
  have hg1 : ¬ 0 = H := by omega
  have hg2 : ¬ 1 = H := by omega
  have hg3 : ¬ H = 0 := by omega
  have hg4 : ¬ H = 1 := by omega
  refine (HCut.out _ (HDk.out _ B.out).2.1).mono ?_
  rintro e w1 ⟨rfl, hb1⟩
  have hz1 := hb1.size
  replace Y := Lib.hid (Y.out.next hb1 (by omega))
  replace B := Lib.hid (B.out.trans (hb1.mono (by omega)))
  clear hb1 HCut
  go_wp2_with fail
  refine (HKn.out _ (HDk.out _ B.out).2.2.1).mono ?_
  rintro e w2 ⟨rfl, rfl⟩
  clear HKn
  cases ko with
  | none =>
    have HW := HA2.out rfl
    clear HA1 HA2 HA3 HA4 HPN HPS HPT HPc HCo
    simp only [Option.getD_none, Option.isSome_none]
    go_upto_region 4 with (fail)
    have r0 := Y.out.out.at0
    have r1 := Y.out.out.at1
    have q0 := Y.out.out.free0
    have q1 := Y.out.out.free1
    have Y8 := Lib.hid ((Y.out.setN 0).set (.slice none 0 0))
    have y0 := Y8.out.out.at0
    have y1 := Y8.out.out.at1
    have e0 := (HDk.out _ B.out).2.2.2.2.1
    go_wp2_with fail
    go_region
    all_goals
      go_wp2_with fail
      refine bodyPost_ret (v := .tuple #[.int .i64 0, .agg #[.int .i64 0, .slice none 0 0], .iface 183 (.pointer (some b))]) (by simp [results, Tryz.results41, go_sem, y0, y1]) rfl ?_
      refine ⟨Or.inl ⟨HW, rfl⟩, ?_⟩
      rw [hH]
      have hb0 := B.out
      clear r0 r1 q0 q1 y0 y1 e0
      go_grown
  | some i =>
    have hi := HKs.out i rfl
    simp only [Option.getD_some, Option.isSome_some]
    cases fo with
    | false =>
      have HW := HA1.out (fun h => by cases h.1)
      clear HA1 HA2 HA3 HA4 HPN HPS HPT HPc HCo
      go_upto_region 4 with (fail)
      have r0 := Y.out.out.at0
      have r1 := Y.out.out.at1
      have q0 := Y.out.out.free0
      have q1 := Y.out.out.free1
      have Y8 := Lib.hid ((Y.out.setN 0).set (.slice none 0 0))
      have y0 := Y8.out.out.at0
      have y1 := Y8.out.out.at1
      have e0 := (HDk.out _ B.out).2.2.2.2.1
      go_wp2_with fail
      go_region
      all_goals
        go_wp2_with fail
        refine bodyPost_ret (v := .tuple #[.int .i64 0, .agg #[.int .i64 0, .slice none 0 0], .iface 183 (.pointer (some b))]) (by simp [results, Tryz.results41, go_sem, y0, y1]) rfl ?_
        refine ⟨Or.inl ⟨HW, rfl⟩, ?_⟩
        rw [hH]
        have hb0 := B.out
        clear r0 r1 q0 q1 y0 y1 e0
        go_grown
    | true =>
      go_wp2_with fail
      refine (HCo.out _ (HDk.out _ B.out).2.1).mono ?_
      rintro e w3 ⟨rfl, rfl⟩
      cases co with
      | true =>
        have HW := HA1.out (fun h => by cases h.2)
        clear HA1 HA2 HA3 HA4 HPN HPS HPT HPc HCo
        go_upto_region 4 with (fail)
        have r0 := Y.out.out.at0
        have r1 := Y.out.out.at1
        have q0 := Y.out.out.free0
        have q1 := Y.out.out.free1
        have Y8 := Lib.hid ((Y.out.setN 0).set (.slice none 0 0))
        have y0 := Y8.out.out.at0
        have y1 := Y8.out.out.at1
        have e0 := (HDk.out _ B.out).2.2.2.2.1
        go_wp2_with fail
        go_region
        all_goals
          go_wp2_with fail
          refine bodyPost_ret (v := .tuple #[.int .i64 0, .agg #[.int .i64 0, .slice none 0 0], .iface 183 (.pointer (some b))]) (by simp [results, Tryz.results41, go_sem, y0, y1]) rfl ?_
          refine ⟨Or.inl ⟨HW, rfl⟩, ?_⟩
          rw [hH]
          have hb0 := B.out
          clear r0 r1 q0 q1 y0 y1 e0
          go_grown
      | false =>
        go_wp2_with fail
        refine (HPc.out _ (HDk.out _ B.out).2.1).mono ?_
        rintro e w4 ⟨a4, c4, rfl, hin4, hb4⟩
        have hz4 := hb4.size
        cases pm with
        | none =>
          have HW := HA3.out i (by simp) rfl rfl
          have hpr := HPN.out rfl
          rw [hpr.1, hpr.2.1, hpr.2.2]
          have hOB := (Bx.new 0 (.slice a4 ([] : List Int).length c4) w4)
          replace Y := Lib.hid ((Y.out.next hb4 (by omega)).alloc (Obj.cells #[.int .i64 0, .slice a4 ([] : List Int).length c4] 47))
          replace B := Lib.hid ((B.out.trans (hb4.mono (by omega))).alloc (by omega) (Obj.cells #[.int .i64 0, .slice a4 ([] : List Int).length c4] 47))
          clear HA1 HA2 HA3 HA4 HPN HPS HPT HPc HCo hin4 hb4 hpr hOB
          go_upto_region 7 with (fail)
          generalize w4.alloc (Obj.cells #[.int .i64 0, .slice a4 ([] : List Int).length c4] 47) = v4 at *
          have r0 := Y.out.out.at0
          have r1 := Y.out.out.at1
          have q0 := Y.out.out.free0
          have q1 := Y.out.out.free1
          have Y8 := Lib.hid ((Y.out.setN 0).set (.slice none 0 0))
          have y0 := Y8.out.out.at0
          have y1 := Y8.out.out.at1
          have e0 := (HDk.out _ B.out).2.2.2.1
          go_wp2_with fail
          go_region
          all_goals
            go_wp2_with fail
            refine bodyPost_ret (v := .tuple #[.int .i64 0, .agg #[.int .i64 0, .slice none 0 0], .iface 183 (.pointer (some a))]) (by simp [results, Tryz.results41, go_sem, y0, y1]) rfl ?_
            refine ⟨Or.inr (Or.inl ⟨HW, rfl⟩), ?_⟩
            rw [hH]
            have hb0 := B.out
            clear r0 r1 q0 q1 y0 y1 e0
            go_grown
        | some p =>
          obtain ⟨n, zs⟩ := p
          have hpr := HPS.out n zs rfl
          have hv := HPT.out n zs rfl
          obtain ⟨m, ns, rfl, rfl, -⟩ := vldB_cls hv
          have HW := HA4.out i m ns (by simp) rfl rfl
          have HV := Lib.hid hv
          rw [hpr.1, hpr.2.1, hpr.2.2]
          rw [hpr.2.1] at hin4
          have X := Lib.hid (Bx.new (m : Int) (.slice a4 (toI ns).length c4) w4)
          have I := Lib.hid ((hin4.mono (show H ≤ _ by omega)).alloc (Obj.cells #[.int .i64 (m : Int), .slice a4 (toI ns).length c4] 47))
          replace Y := Lib.hid ((Y.out.next hb4 (by omega)).alloc (Obj.cells #[.int .i64 (m : Int), .slice a4 (toI ns).length c4] 47))
          replace B := Lib.hid ((B.out.trans (hb4.mono (by omega))).alloc (by omega) (Obj.cells #[.int .i64 (m : Int), .slice a4 (toI ns).length c4] 47))
          clear HA1 HA2 HA3 HA4 HPN HPS HPT HPc HCo hin4 hb4 hpr hv
          obtain ⟨zs, hzs⟩ : ∃ zs, zs = toI ns := ⟨_, rfl⟩
          rw [← hzs] at X I Y B HV ⊢
          have HZS := Lib.hid hzs
          clear hzs
          go_upto_region 8 with (fail)
          generalize w4.alloc (Obj.cells #[.int .i64 (m : Int), .slice a4 zs.length c4] 47) = v4 at *
          have x0 := X.out.out.at0
          have x1 := X.out.out.at1
          have r0 := Y.out.out.at0
          have r1 := Y.out.out.at1
          have q0 := Y.out.out.free0
          have q1 := Y.out.out.free1
          have Y8 := Lib.hid ((Y.out.setN (m : Int)).set (.slice a4 zs.length c4))
          have y0 := Y8.out.out.at0
          have y1 := Y8.out.out.at1
          go_wp2_with fail
          go_region
          all_goals
            go_wp2_with fail
            refine bodyPost_ret (v := .tuple #[.int .i64 i, .agg #[.int .i64 (m : Int), .slice a4 zs.length c4], .nilIface]) (by simp [results, Tryz.results41, go_sem, y0, y1]) rfl ?_
            have hzs := HZS.out
            subst hzs
            refine ⟨Or.inr (Or.inr ⟨i, m, ns, a4, c4, hi, HV.out, HW, rfl, ?_⟩), ?_⟩
            · rw [hH]
              exact (I.out.bx Y.out 0 _).bx (Y.out.setN (m : Int)) 1 _
            · rw [hH]
              have hb0 := B.out
              clear x0 x1 r0 r1 q0 q1 y0 y1
              go_grown

end Go.Proofs.YtnmilfkocheaiaaGreatDoor

namespace Go.Proofs.YtnmilfkocheaiaaGreatDoor
open Go.RowKit

/-- the library's powers of ten lie -/
def Tb (w : World) : Prop := Lib.TabIs Tryz.prog w "internal/strconv.uint64pow10" .u64 Lib.pow10Tab
/-- all that a desk reads -/
def Dq (a b : Addr) (w : World) : Prop := Dk a b w ∧ Tb w
theorem Dq.below {a b : Addr} {w w' : World} {k : Nat} (h : Dq a b w) (hb : Below k w w') (hk : w.heap.size ≤ k) : Dq a b w' := ⟨h.1.below hb hk, var_keep h.2 (hb.mono hk)⟩
theorem libItoaZ (z : Int) (hz : -1024 ≤ z ∧ z ≤ 1024) (w : World) (h : Tb w) :
    Calls Tryz.prog 68 #[.int .i64 z] w fun e w' => e = .returned (.string (itB z)) ∧ Below w.heap.size w w' := by
  refine (Any.strconv_Itoa shItoaM z (by omega) (by omega) w h).mono ?_
  rintro e w' ⟨rfl, k, os, rfl⟩
  refine ⟨rfl, rfl, rfl, rfl, ?_, fun j hj => ?_⟩
  · show w.heap.size ≤ (w.heap ++ os).size
    rw [Array.size_append]
    omega
  · show (w.heap ++ os)[j]? = _
    rw [Array.getElem?_append_left hj]

theorem run_neq_nil7 (v : Value) (w : World) : (binOp .neq 37 (.iface 183 v) .nilIface).run Tryz.prog w = .ok (.bool true) w := by
  have h : ∀ d : Nat, (Op.equalIn (d + 1) 37 (.iface 183 v) .nilIface).run Tryz.prog w = .ok false w := fun d => by simp [Op.equalIn, run_underlying Tryz.underlying37]
  simp only [binOp]
  simp [Op.equal, Op.maxDepth, h 9999]
theorem run_neq_nil8 (w : World) : (binOp .neq 37 .nilIface .nilIface).run Tryz.prog w = .ok (.bool false) w := by
  have h : ∀ d : Nat, (Op.equalIn (d + 1) 37 .nilIface .nilIface).run Tryz.prog w = .ok true w := fun d => by simp [Op.equalIn, run_underlying Tryz.underlying37]
  simp only [binOp]
  simp [Op.equal, Op.maxDepth, h 9999]

set_option maxHeartbeats 1600000 in
set_option maxRecDepth 100000 in
theorem implAns0 (x y : Addr) (m : Nat) (ns : List Nat) (a' : Option Addr) (c' : Nat) (w : World) (hv : vldB m (toI ns) = true) (h : Rd w (.slice a' (toI ns).length c') (toI ns)) (hd : Dq x y w) :
    Calls Tryz.prog 43 #[.int .i64 0, .agg #[.int .i64 (m : Int), .slice a' (toI ns).length c']] w fun e w' => e = .returned (.string (ansK m ns 0)) ∧ Below w.heap.size w w' := by
  have HD := Lib.hid (fun w' (hb : Below w.heap.size w w') => hd.below hb (Nat.le_refl _))
  have H := Lib.hid h
  have HF := Lib.hid (fun w h => implVCDimension (m : Int) (.slice a' (toI ns).length c') (toI ns) w h)
  rw [show vcB m (toI ns) = numK m ns 0 from rfl] at HF
  have hbd : -1024 ≤ numK m ns 0 ∧ numK m ns 0 ≤ 1024 := by
    obtain ⟨m', ns', e1, e2, hc⟩ := vldB_cls hv
    have e1 : m = m' := by omega
    have e2 : ns = ns' := by
      have := congrArg (List.map Int.toNat) e2
      rwa [toNat_toI, toNat_toI] at this
    subst e1 e2
    exact numK_bd hc (mst_le32 ns) 0
  have HA := Lib.hid (show ansK m ns 0 = itB (numK m ns 0) from rfl)
  have HIt := Lib.hid (fun w h => libItoaZ (numK m ns 0) hbd w h)
  generalize numK m ns 0 = z at *
  clear hbd
  generalize toI ns = zs at *
  clear hd h hv
  have X := Lib.hid (Bx.new (m : Int) (.slice a' zs.length c') w)
  have B := Lib.hid (show Below w.heap.size w (w.alloc (Obj.cells #[.int .i64 (m : Int), .slice a' zs.length c'] 47)) from (Below.refl _ _).alloc (Nat.le_refl _) _)
  go_enter Tryz.func43, Tryz.ntmps43
  go_wp2_with fail
  generalize w.alloc (Obj.cells #[.int .i64 (m : Int), .slice a' zs.length c'] 47) = w0 at *
  have x0 := X.out.out.at0
  have x1 := X.out.out.at1
  go_wp2_with fail
  clear x0 x1
  refine (HF.out _ (H.out.below B.out (Nat.le_refl _))).mono ?_
  rintro e w1 ⟨rfl, hb1⟩
  replace B := Lib.hid (B.out.trans (hb1.mono B.out.size))
  clear hb1
  go_wp2_with fail
  refine (HIt.out _ (HD.out _ B.out).2).mono ?_
  rintro e w2 ⟨rfl, hb2⟩
  replace B := Lib.hid (B.out.trans (hb2.mono B.out.size))
  clear hb2
  go_wp2_with fail
  go_ret
  rw [HA.out]
  exact ⟨rfl, B.out⟩

set_option maxHeartbeats 1600000 in
set_option maxRecDepth 100000 in
theorem implAns1 (x y : Addr) (m : Nat) (ns : List Nat) (a' : Option Addr) (c' : Nat) (w : World) (hv : vldB m (toI ns) = true) (h : Rd w (.slice a' (toI ns).length c') (toI ns)) (hd : Dq x y w) :
    Calls Tryz.prog 43 #[.int .i64 1, .agg #[.int .i64 (m : Int), .slice a' (toI ns).length c']] w fun e w' => e = .returned (.string (ansK m ns 1)) ∧ Below w.heap.size w w' := by
  have HD := Lib.hid (fun w' (hb : Below w.heap.size w w') => hd.below hb (Nat.le_refl _))
  have H := Lib.hid h
  have HF := Lib.hid (fun w h hs => implLittlestoneOf (m : Int) (.slice a' (toI ns).length c') (toI ns) w h hs)
  rw [show litB m (toI ns) = numK m ns 1 from by rw [litB, if_pos hv, toNat_toI]; rfl] at HF
  have hbd : -1024 ≤ numK m ns 1 ∧ numK m ns 1 ≤ 1024 := by
    obtain ⟨m', ns', e1, e2, hc⟩ := vldB_cls hv
    have e1 : m = m' := by omega
    have e2 : ns = ns' := by
      have := congrArg (List.map Int.toNat) e2
      rwa [toNat_toI, toNat_toI] at this
    subst e1 e2
    exact numK_bd hc (mst_le32 ns) 1
  have HA := Lib.hid (show ansK m ns 1 = itB (numK m ns 1) from rfl)
  have HIt := Lib.hid (fun w h => libItoaZ (numK m ns 1) hbd w h)
  generalize numK m ns 1 = z at *
  clear hbd
  generalize toI ns = zs at *
  clear hd h hv
  have X := Lib.hid (Bx.new (m : Int) (.slice a' zs.length c') w)
  have B := Lib.hid (show Below w.heap.size w (w.alloc (Obj.cells #[.int .i64 (m : Int), .slice a' zs.length c'] 47)) from (Below.refl _ _).alloc (Nat.le_refl _) _)
  go_enter Tryz.func43, Tryz.ntmps43
  go_wp2_with fail
  generalize w.alloc (Obj.cells #[.int .i64 (m : Int), .slice a' zs.length c'] 47) = w0 at *
  have x0 := X.out.out.at0
  have x1 := X.out.out.at1
  go_wp2_with fail
  clear x0 x1
  refine (HF.out _ (H.out.below B.out (Nat.le_refl _)) (HD.out _ B.out).1.1).mono ?_
  rintro e w1 ⟨rfl, hb1⟩
  replace B := Lib.hid (B.out.trans (hb1.mono B.out.size))
  clear hb1
  go_wp2_with fail
  refine (HIt.out _ (HD.out _ B.out).2).mono ?_
  rintro e w2 ⟨rfl, hb2⟩
  replace B := Lib.hid (B.out.trans (hb2.mono B.out.size))
  clear hb2
  go_wp2_with fail
  go_ret
  rw [HA.out]
  exact ⟨rfl, B.out⟩

set_option maxHeartbeats 1600000 in
set_option maxRecDepth 100000 in
theorem implAns2 (x y : Addr) (m : Nat) (ns : List Nat) (a' : Option Addr) (c' : Nat) (w : World) (hv : vldB m (toI ns) = true) (h : Rd w (.slice a' (toI ns).length c') (toI ns)) (hd : Dq x y w) :
    Calls Tryz.prog 43 #[.int .i64 2, .agg #[.int .i64 (m : Int), .slice a' (toI ns).length c']] w fun e w' => e = .returned (.string (ansK m ns 2)) ∧ Below w.heap.size w w' := by
  have HD := Lib.hid (fun w' (hb : Below w.heap.size w w') => hd.below hb (Nat.le_refl _))
  have H := Lib.hid h
  have HF := Lib.hid (fun w h hs => implMembershipDepth (m : Int) (.slice a' (toI ns).length c') (toI ns) w h hs)
  rw [show memB m (toI ns) = numK m ns 2 from by rw [memB, if_pos hv, toNat_toI]; rfl] at HF
  have hbd : -1024 ≤ numK m ns 2 ∧ numK m ns 2 ≤ 1024 := by
    obtain ⟨m', ns', e1, e2, hc⟩ := vldB_cls hv
    have e1 : m = m' := by omega
    have e2 : ns = ns' := by
      have := congrArg (List.map Int.toNat) e2
      rwa [toNat_toI, toNat_toI] at this
    subst e1 e2
    exact numK_bd hc (mst_le32 ns) 2
  have HA := Lib.hid (show ansK m ns 2 = itB (numK m ns 2) from rfl)
  have HIt := Lib.hid (fun w h => libItoaZ (numK m ns 2) hbd w h)
  generalize numK m ns 2 = z at *
  clear hbd
  generalize toI ns = zs at *
  clear hd h hv
  have X := Lib.hid (Bx.new (m : Int) (.slice a' zs.length c') w)
  have B := Lib.hid (show Below w.heap.size w (w.alloc (Obj.cells #[.int .i64 (m : Int), .slice a' zs.length c'] 47)) from (Below.refl _ _).alloc (Nat.le_refl _) _)
  go_enter Tryz.func43, Tryz.ntmps43
  go_wp2_with fail
  generalize w.alloc (Obj.cells #[.int .i64 (m : Int), .slice a' zs.length c'] 47) = w0 at *
  have x0 := X.out.out.at0
  have x1 := X.out.out.at1
  go_wp2_with fail
  clear x0 x1
  refine (HF.out _ (H.out.below B.out (Nat.le_refl _)) (HD.out _ B.out).1.1).mono ?_
  rintro e w1 ⟨rfl, hb1⟩
  replace B := Lib.hid (B.out.trans (hb1.mono B.out.size))
  clear hb1
  go_wp2_with fail
  refine (HIt.out _ (HD.out _ B.out).2).mono ?_
  rintro e w2 ⟨rfl, hb2⟩
  replace B := Lib.hid (B.out.trans (hb2.mono B.out.size))
  clear hb2
  go_wp2_with fail
  go_ret
  rw [HA.out]
  exact ⟨rfl, B.out⟩

set_option maxHeartbeats 1600000 in
set_option maxRecDepth 100000 in
theorem implAns3 (x y : Addr) (m : Nat) (ns : List Nat) (a' : Option Addr) (c' : Nat) (w : World) (hv : vldB m (toI ns) = true) (h : Rd w (.slice a' (toI ns).length c') (toI ns)) (hd : Dq x y w) :
    Calls Tryz.prog 43 #[.int .i64 3, .agg #[.int .i64 (m : Int), .slice a' (toI ns).length c']] w fun e w' => e = .returned (.string (ansK m ns 3)) ∧ Below w.heap.size w w' := by
  have HD := Lib.hid (fun w' (hb : Below w.heap.size w w') => hd.below hb (Nat.le_refl _))
  have H := Lib.hid h
  have HF := Lib.hid (fun w h hs => implTeachingDimension (m : Int) (.slice a' (toI ns).length c') (toI ns) w h hs)
  rw [show tdB m (toI ns) = numK m ns 3 from by rw [tdB, tnsL_in hv, tns_len]; rfl] at HF
  have hbd : -1024 ≤ numK m ns 3 ∧ numK m ns 3 ≤ 1024 := by
    obtain ⟨m', ns', e1, e2, hc⟩ := vldB_cls hv
    have e1 : m = m' := by omega
    have e2 : ns = ns' := by
      have := congrArg (List.map Int.toNat) e2
      rwa [toNat_toI, toNat_toI] at this
    subst e1 e2
    exact numK_bd hc (mst_le32 ns) 3
  have HA := Lib.hid (show ansK m ns 3 = itB (numK m ns 3) from rfl)
  have HIt := Lib.hid (fun w h => libItoaZ (numK m ns 3) hbd w h)
  generalize numK m ns 3 = z at *
  clear hbd
  generalize toI ns = zs at *
  clear hd h hv
  have X := Lib.hid (Bx.new (m : Int) (.slice a' zs.length c') w)
  have B := Lib.hid (show Below w.heap.size w (w.alloc (Obj.cells #[.int .i64 (m : Int), .slice a' zs.length c'] 47)) from (Below.refl _ _).alloc (Nat.le_refl _) _)
  go_enter Tryz.func43, Tryz.ntmps43
  go_wp2_with fail
  generalize w.alloc (Obj.cells #[.int .i64 (m : Int), .slice a' zs.length c'] 47) = w0 at *
  have x0 := X.out.out.at0
  have x1 := X.out.out.at1
  go_wp2_with fail
  clear x0 x1
  refine (HF.out _ (H.out.below B.out (Nat.le_refl _)) (HD.out _ B.out).1.1).mono ?_
  rintro e w1 ⟨rfl, hb1⟩
  replace B := Lib.hid (B.out.trans (hb1.mono B.out.size))
  clear hb1
  go_wp2_with fail
  refine (HIt.out _ (HD.out _ B.out).2).mono ?_
  rintro e w2 ⟨rfl, hb2⟩
  replace B := Lib.hid (B.out.trans (hb2.mono B.out.size))
  clear hb2
  go_wp2_with fail
  go_ret
  rw [HA.out]
  exact ⟨rfl, B.out⟩

set_option maxHeartbeats 1600000 in
set_option maxRecDepth 100000 in
theorem implAns4 (x y : Addr) (m : Nat) (ns : List Nat) (a' : Option Addr) (c' : Nat) (w : World) (hv : vldB m (toI ns) = true) (h : Rd w (.slice a' (toI ns).length c') (toI ns)) (hd : Dq x y w) :
    Calls Tryz.prog 43 #[.int .i64 4, .agg #[.int .i64 (m : Int), .slice a' (toI ns).length c']] w fun e w' => e = .returned (.string (ansK m ns 4)) ∧ Below w.heap.size w w' := by
  have HD := Lib.hid (fun w' (hb : Below w.heap.size w w') => hd.below hb (Nat.le_refl _))
  have H := Lib.hid h
  have HF := Lib.hid (fun w h hs => implRecursiveDimension (m : Int) (.slice a' (toI ns).length c') (toI ns) w h hs)
  rw [show rdB m (toI ns) = numK m ns 4 from by rw [rdB, if_pos hv, Int.toNat_natCast, toNat_toI]; rfl] at HF
  have hbd : -1024 ≤ numK m ns 4 ∧ numK m ns 4 ≤ 1024 := by
    obtain ⟨m', ns', e1, e2, hc⟩ := vldB_cls hv
    have e1 : m = m' := by omega
    have e2 : ns = ns' := by
      have := congrArg (List.map Int.toNat) e2
      rwa [toNat_toI, toNat_toI] at this
    subst e1 e2
    exact numK_bd hc (mst_le32 ns) 4
  have HA := Lib.hid (show ansK m ns 4 = itB (numK m ns 4) from rfl)
  have HIt := Lib.hid (fun w h => libItoaZ (numK m ns 4) hbd w h)
  generalize numK m ns 4 = z at *
  clear hbd
  generalize toI ns = zs at *
  clear hd h hv
  have X := Lib.hid (Bx.new (m : Int) (.slice a' zs.length c') w)
  have B := Lib.hid (show Below w.heap.size w (w.alloc (Obj.cells #[.int .i64 (m : Int), .slice a' zs.length c'] 47)) from (Below.refl _ _).alloc (Nat.le_refl _) _)
  go_enter Tryz.func43, Tryz.ntmps43
  go_wp2_with fail
  generalize w.alloc (Obj.cells #[.int .i64 (m : Int), .slice a' zs.length c'] 47) = w0 at *
  have x0 := X.out.out.at0
  have x1 := X.out.out.at1
  go_wp2_with fail
  clear x0 x1
  refine (HF.out _ (H.out.below B.out (Nat.le_refl _)) (HD.out _ B.out).1.1).mono ?_
  rintro e w1 ⟨rfl, hb1⟩
  replace B := Lib.hid (B.out.trans (hb1.mono B.out.size))
  clear hb1
  go_wp2_with fail
  refine (HIt.out _ (HD.out _ B.out).2).mono ?_
  rintro e w2 ⟨rfl, hb2⟩
  replace B := Lib.hid (B.out.trans (hb2.mono B.out.size))
  clear hb2
  go_wp2_with fail
  go_ret
  rw [HA.out]
  exact ⟨rfl, B.out⟩

set_option maxHeartbeats 1600000 in
set_option maxRecDepth 100000 in
theorem implAns5 (x y : Addr) (m : Nat) (ns : List Nat) (a' : Option Addr) (c' : Nat) (w : World) (hv : vldB m (toI ns) = true) (h : Rd w (.slice a' (toI ns).length c') (toI ns)) (hd : Dq x y w) :
    Calls Tryz.prog 43 #[.int .i64 5, .agg #[.int .i64 (m : Int), .slice a' (toI ns).length c']] w fun e w' => e = .returned (.string (ansK m ns 5)) ∧ Below w.heap.size w w' := by
  have HD := Lib.hid (fun w' (hb : Below w.heap.size w w') => hd.below hb (Nat.le_refl _))
  have H := Lib.hid h
  have HF := Lib.hid (fun w h hs => implStarNumber (m : Int) (.slice a' (toI ns).length c') (toI ns) w h hs)
  rw [show snB m (toI ns) = numK m ns 5 from by rw [snB_in hv]; rfl] at HF
  have hbd : -1024 ≤ numK m ns 5 ∧ numK m ns 5 ≤ 1024 := by
    obtain ⟨m', ns', e1, e2, hc⟩ := vldB_cls hv
    have e1 : m = m' := by omega
    have e2 : ns = ns' := by
      have := congrArg (List.map Int.toNat) e2
      rwa [toNat_toI, toNat_toI] at this
    subst e1 e2
    exact numK_bd hc (mst_le32 ns) 5
  have HA := Lib.hid (show ansK m ns 5 = itB (numK m ns 5) from rfl)
  have HIt := Lib.hid (fun w h => libItoaZ (numK m ns 5) hbd w h)
  generalize numK m ns 5 = z at *
  clear hbd
  generalize toI ns = zs at *
  clear hd h hv
  have X := Lib.hid (Bx.new (m : Int) (.slice a' zs.length c') w)
  have B := Lib.hid (show Below w.heap.size w (w.alloc (Obj.cells #[.int .i64 (m : Int), .slice a' zs.length c'] 47)) from (Below.refl _ _).alloc (Nat.le_refl _) _)
  go_enter Tryz.func43, Tryz.ntmps43
  go_wp2_with fail
  generalize w.alloc (Obj.cells #[.int .i64 (m : Int), .slice a' zs.length c'] 47) = w0 at *
  have x0 := X.out.out.at0
  have x1 := X.out.out.at1
  go_wp2_with fail
  clear x0 x1
  refine (HF.out _ (H.out.below B.out (Nat.le_refl _)) (HD.out _ B.out).1.1).mono ?_
  rintro e w1 ⟨rfl, hb1⟩
  replace B := Lib.hid (B.out.trans (hb1.mono B.out.size))
  clear hb1
  go_wp2_with fail
  refine (HIt.out _ (HD.out _ B.out).2).mono ?_
  rintro e w2 ⟨rfl, hb2⟩
  replace B := Lib.hid (B.out.trans (hb2.mono B.out.size))
  clear hb2
  go_wp2_with fail
  go_ret
  rw [HA.out]
  exact ⟨rfl, B.out⟩

set_option maxHeartbeats 1600000 in
set_option maxRecDepth 100000 in
theorem implAns6 (x y : Addr) (m : Nat) (ns : List Nat) (a' : Option Addr) (c' : Nat) (w : World) (hv : vldB m (toI ns) = true) (h : Rd w (.slice a' (toI ns).length c') (toI ns)) (hd : Dq x y w) :
    Calls Tryz.prog 43 #[.int .i64 6, .agg #[.int .i64 (m : Int), .slice a' (toI ns).length c']] w fun e w' => e = .returned (.string (ansK m ns 6)) ∧ Below w.heap.size w w' := by
  have HD := Lib.hid (fun w' (hb : Below w.heap.size w w') => hd.below hb (Nat.le_refl _))
  have H := Lib.hid h
  have HF := Lib.hid (fun w h => implEulerOf (m : Int) (.slice a' (toI ns).length c') (toI ns) w h)
  rw [show eulB m (toI ns) = numK m ns 6 from rfl] at HF
  have hbd : -1024 ≤ numK m ns 6 ∧ numK m ns 6 ≤ 1024 := by
    obtain ⟨m', ns', e1, e2, hc⟩ := vldB_cls hv
    have e1 : m = m' := by omega
    have e2 : ns = ns' := by
      have := congrArg (List.map Int.toNat) e2
      rwa [toNat_toI, toNat_toI] at this
    subst e1 e2
    exact numK_bd hc (mst_le32 ns) 6
  have HA := Lib.hid (show ansK m ns 6 = itB (numK m ns 6) from rfl)
  have HIt := Lib.hid (fun w h => libItoaZ (numK m ns 6) hbd w h)
  generalize numK m ns 6 = z at *
  clear hbd
  generalize toI ns = zs at *
  clear hd h hv
  have X := Lib.hid (Bx.new (m : Int) (.slice a' zs.length c') w)
  have B := Lib.hid (show Below w.heap.size w (w.alloc (Obj.cells #[.int .i64 (m : Int), .slice a' zs.length c'] 47)) from (Below.refl _ _).alloc (Nat.le_refl _) _)
  go_enter Tryz.func43, Tryz.ntmps43
  go_wp2_with fail
  generalize w.alloc (Obj.cells #[.int .i64 (m : Int), .slice a' zs.length c'] 47) = w0 at *
  have x0 := X.out.out.at0
  have x1 := X.out.out.at1
  go_wp2_with fail
  clear x0 x1
  refine (HF.out _ (H.out.below B.out (Nat.le_refl _))).mono ?_
  rintro e w1 ⟨rfl, hb1⟩
  replace B := Lib.hid (B.out.trans (hb1.mono B.out.size))
  clear hb1
  go_wp2_with fail
  refine (HIt.out _ (HD.out _ B.out).2).mono ?_
  rintro e w2 ⟨rfl, hb2⟩
  replace B := Lib.hid (B.out.trans (hb2.mono B.out.size))
  clear hb2
  go_wp2_with fail
  go_ret
  rw [HA.out]
  exact ⟨rfl, B.out⟩

set_option maxHeartbeats 1600000 in
set_option maxRecDepth 100000 in
theorem implAns7 (x y : Addr) (m : Nat) (ns : List Nat) (a' : Option Addr) (c' : Nat) (w : World) (_hv : vldB m (toI ns) = true) (h : Rd w (.slice a' (toI ns).length c') (toI ns)) (hd : Dq x y w) :
    Calls Tryz.prog 43 #[.int .i64 7, .agg #[.int .i64 (m : Int), .slice a' (toI ns).length c']] w fun e w' => e = .returned (.string (ansK m ns 7)) ∧ Below w.heap.size w w' := by
  have HD := Lib.hid (fun w' (hb : Below w.heap.size w w') => hd.below hb (Nat.le_refl _))
  have H := Lib.hid h
  have HF := Lib.hid (fun w h => implIsMaximum (m : Int) (.slice a' (toI ns).length c') (toI ns) w h)
  have HA := Lib.hid (show ansK m ns 7 = ynT (maxB m (toI ns)) from rfl)
  generalize maxB m (toI ns) = z at *
  generalize toI ns = zs at *
  clear hd h
  have X := Lib.hid (Bx.new (m : Int) (.slice a' zs.length c') w)
  have B := Lib.hid (show Below w.heap.size w (w.alloc (Obj.cells #[.int .i64 (m : Int), .slice a' zs.length c'] 47)) from (Below.refl _ _).alloc (Nat.le_refl _) _)
  go_enter Tryz.func43, Tryz.ntmps43
  go_wp2_with fail
  generalize w.alloc (Obj.cells #[.int .i64 (m : Int), .slice a' zs.length c'] 47) = w0 at *
  have x0 := X.out.out.at0
  have x1 := X.out.out.at1
  go_wp2_with fail
  clear x0 x1
  refine (HF.out _ (H.out.below B.out (Nat.le_refl _))).mono ?_
  rintro e w1 ⟨rfl, hb1⟩
  replace B := Lib.hid (B.out.trans (hb1.mono B.out.size))
  clear hb1
  go_wp2_with fail
  refine (implYes z _).mono ?_
  rintro e w2 ⟨rfl, rfl⟩
  go_wp2_with fail
  go_ret
  rw [HA.out]
  exact ⟨rfl, B.out⟩

set_option maxHeartbeats 1600000 in
set_option maxRecDepth 100000 in
theorem implAns8 (x y : Addr) (m : Nat) (ns : List Nat) (a' : Option Addr) (c' : Nat) (w : World) (_hv : vldB m (toI ns) = true) (h : Rd w (.slice a' (toI ns).length c') (toI ns)) (hd : Dq x y w) :
    Calls Tryz.prog 43 #[.int .i64 8, .agg #[.int .i64 (m : Int), .slice a' (toI ns).length c']] w fun e w' => e = .returned (.string (ansK m ns 8)) ∧ Below w.heap.size w w' := by
  have HD := Lib.hid (fun w' (hb : Below w.heap.size w w') => hd.below hb (Nat.le_refl _))
  have H := Lib.hid h
  have HF := Lib.hid (fun w h => implIsExtremal (m : Int) (.slice a' (toI ns).length c') (toI ns) w h)
  have HA := Lib.hid (show ansK m ns 8 = ynT (extB m (toI ns)) from rfl)
  generalize extB m (toI ns) = z at *
  generalize toI ns = zs at *
  clear hd h
  have X := Lib.hid (Bx.new (m : Int) (.slice a' zs.length c') w)
  have B := Lib.hid (show Below w.heap.size w (w.alloc (Obj.cells #[.int .i64 (m : Int), .slice a' zs.length c'] 47)) from (Below.refl _ _).alloc (Nat.le_refl _) _)
  go_enter Tryz.func43, Tryz.ntmps43
  go_wp2_with fail
  generalize w.alloc (Obj.cells #[.int .i64 (m : Int), .slice a' zs.length c'] 47) = w0 at *
  have x0 := X.out.out.at0
  have x1 := X.out.out.at1
  go_wp2_with fail
  clear x0 x1
  refine (HF.out _ (H.out.below B.out (Nat.le_refl _))).mono ?_
  rintro e w1 ⟨rfl, hb1⟩
  replace B := Lib.hid (B.out.trans (hb1.mono B.out.size))
  clear hb1
  go_wp2_with fail
  refine (implYes z _).mono ?_
  rintro e w2 ⟨rfl, rfl⟩
  go_wp2_with fail
  go_ret
  rw [HA.out]
  exact ⟨rfl, B.out⟩

set_option maxHeartbeats 1600000 in
set_option maxRecDepth 100000 in
theorem implAns9 (x y : Addr) (m : Nat) (ns : List Nat) (a' : Option Addr) (c' : Nat) (w : World) (hv : vldB m (toI ns) = true) (h : Rd w (.slice a' (toI ns).length c') (toI ns)) (hd : Dq x y w) :
    Calls Tryz.prog 43 #[.int .i64 9, .agg #[.int .i64 (m : Int), .slice a' (toI ns).length c']] w fun e w' => e = .returned (.string (ansK m ns 9)) ∧ Below w.heap.size w w' := by
  have HD := Lib.hid (fun w' (hb : Below w.heap.size w w') => hd.below hb (Nat.le_refl _))
  have H := Lib.hid h
  have HF := Lib.hid (fun w h => implComplementClass (m : Int) (.slice a' (toI ns).length c') (toI ns) w h)
  rw [show cmN m (toI ns) = (m : Int) from by rw [cmN, if_pos hv], show cmL m (toI ns) = toI (cmpl m ns) from by rw [cmL, if_pos hv, Int.toNat_natCast, toNat_toI]] at HF
  have HA := Lib.hid (show ansK m ns 9 = ctB m (toI (cmpl m ns)) from rfl)
  have HCT := Lib.hid (fun v w h => implClassText (m : Int) v (toI (cmpl m ns)) w h)
  generalize toI (cmpl m ns) = R at *
  generalize toI ns = zs at *
  clear hd h hv
  have X := Lib.hid (Bx.new (m : Int) (.slice a' zs.length c') w)
  have B := Lib.hid (show Below w.heap.size w (w.alloc (Obj.cells #[.int .i64 (m : Int), .slice a' zs.length c'] 47)) from (Below.refl _ _).alloc (Nat.le_refl _) _)
  go_enter Tryz.func43, Tryz.ntmps43
  go_wp2_with fail
  generalize w.alloc (Obj.cells #[.int .i64 (m : Int), .slice a' zs.length c'] 47) = w0 at *
  have x0 := X.out.out.at0
  have x1 := X.out.out.at1
  go_wp2_with fail
  clear x0 x1
  refine (HF.out _ (H.out.below B.out (Nat.le_refl _))).mono ?_
  rintro e w1 ⟨a1, c1, rfl, hin1, hb1⟩
  replace B := Lib.hid (B.out.trans (hb1.mono B.out.size))
  have I := Lib.hid hin1
  clear hb1 hin1
  go_wp2_with fail
  refine (HCT.out _ _ I.out.rd).mono ?_
  rintro e w2 ⟨rfl, hb2⟩
  replace B := Lib.hid (B.out.trans (hb2.mono B.out.size))
  clear hb2
  go_wp2_with fail
  go_ret
  rw [HA.out]
  exact ⟨rfl, B.out⟩

set_option maxHeartbeats 1600000 in
set_option maxRecDepth 100000 in
theorem implAns10 (x y : Addr) (m : Nat) (ns : List Nat) (a' : Option Addr) (c' : Nat) (w : World) (hv : vldB m (toI ns) = true) (h : Rd w (.slice a' (toI ns).length c') (toI ns)) (hd : Dq x y w) :
    Calls Tryz.prog 43 #[.int .i64 10, .agg #[.int .i64 (m : Int), .slice a' (toI ns).length c']] w fun e w' => e = .returned (.string (ansK m ns 10)) ∧ Below w.heap.size w w' := by
  have HD := Lib.hid (fun w' (hb : Below w.heap.size w w') => hd.below hb (Nat.le_refl _))
  have H := Lib.hid h
  have HF := Lib.hid (fun w h => implSettleClass (m : Int) (.slice a' (toI ns).length c') (toI ns) w h)
  rw [show stN m (toI ns) = (m : Int) from by rw [stN, if_pos hv], show stL m (toI ns) = toI (swp m ns) from by rw [stL, if_pos hv, Int.toNat_natCast, toNat_toI]] at HF
  have HA := Lib.hid (show ansK m ns 10 = ctB m (toI (swp m ns)) from rfl)
  have HCT := Lib.hid (fun v w h => implClassText (m : Int) v (toI (swp m ns)) w h)
  generalize toI (swp m ns) = R at *
  generalize toI ns = zs at *
  clear hd h hv
  have X := Lib.hid (Bx.new (m : Int) (.slice a' zs.length c') w)
  have B := Lib.hid (show Below w.heap.size w (w.alloc (Obj.cells #[.int .i64 (m : Int), .slice a' zs.length c'] 47)) from (Below.refl _ _).alloc (Nat.le_refl _) _)
  go_enter Tryz.func43, Tryz.ntmps43
  go_wp2_with fail
  generalize w.alloc (Obj.cells #[.int .i64 (m : Int), .slice a' zs.length c'] 47) = w0 at *
  have x0 := X.out.out.at0
  have x1 := X.out.out.at1
  go_wp2_with fail
  clear x0 x1
  refine (HF.out _ (H.out.below B.out (Nat.le_refl _))).mono ?_
  rintro e w1 ⟨a1, c1, rfl, hin1, hb1⟩
  replace B := Lib.hid (B.out.trans (hb1.mono B.out.size))
  have I := Lib.hid hin1
  clear hb1 hin1
  go_wp2_with fail
  refine (HCT.out _ _ I.out.rd).mono ?_
  rintro e w2 ⟨rfl, hb2⟩
  replace B := Lib.hid (B.out.trans (hb2.mono B.out.size))
  clear hb2
  go_wp2_with fail
  go_ret
  rw [HA.out]
  exact ⟨rfl, B.out⟩

theorem implAnswerOf (x y : Addr) (i m : Nat) (hi : i < 11) (ns : List Nat) (a' : Option Addr) (c' : Nat) (w : World) (hv : vldB m (toI ns) = true) (h : Rd w (.slice a' (toI ns).length c') (toI ns)) (hd : Dq x y w) :
    Calls Tryz.prog 43 #[.int .i64 (i : Int), .agg #[.int .i64 (m : Int), .slice a' (toI ns).length c']] w fun e w' => e = .returned (.string (ansK m ns i)) ∧ Below w.heap.size w w' := by
  rcases (show i = 0 ∨ i = 1 ∨ i = 2 ∨ i = 3 ∨ i = 4 ∨ i = 5 ∨ i = 6 ∨ i = 7 ∨ i = 8 ∨ i = 9 ∨ i = 10 by omega) with rfl | rfl | rfl | rfl | rfl | rfl | rfl | rfl | rfl | rfl | rfl
  · exact implAns0 x y m ns a' c' w hv h hd
  · exact implAns1 x y m ns a' c' w hv h hd
  · exact implAns2 x y m ns a' c' w hv h hd
  · exact implAns3 x y m ns a' c' w hv h hd
  · exact implAns4 x y m ns a' c' w hv h hd
  · exact implAns5 x y m ns a' c' w hv h hd
  · exact implAns6 x y m ns a' c' w hv h hd
  · exact implAns7 x y m ns a' c' w hv h hd
  · exact implAns8 x y m ns a' c' w hv h hd
  · exact implAns9 x y m ns a' c' w hv h hd
  · exact implAns10 x y m ns a' c' w hv h hd

set_option maxHeartbeats 1600000 in
set_option maxRecDepth 100000 in
theorem implAnswerTo (a b : Addr) (s : ByteArray) (hs : s.size ≤ 1048576) (w : World) (hd : Dq a b w) :
    Calls Tryz.prog 14 #[.string s] w fun e w' => e = .returned (.string (ansB s)) ∧ Below w.heap.size w w' := by
  have HD := Lib.hid (fun w' (hb : Below w.heap.size w w') => hd.below hb (Nat.le_refl _))
  have HR := Lib.hid (implReadLine a b s hs w hd.1)
  clear hd
  go_enter Tryz.func14, Tryz.ntmps14
  go_wp2_with fail
  refine HR.out.mono ?_
  rintro e w1 ⟨hc, hb1⟩
  have B := Lib.hid hb1
  clear hb1 HR
  rcases hc with ⟨hA, rfl⟩ | ⟨hA, rfl⟩ | ⟨i, m, ns, a', c', hi, hv, hA, rfl, hin⟩
  · have HA := Lib.hid hA
    replace B := Lib.hid (B.out.alloc B.out.size (Obj.cells #[.int .i64 0, .slice none 0 0] 47))
    have e0 := (HD.out _ B.out).1.2.2.2.1
    have hn := run_neq_nil7 (.pointer (some b))
    clear hA
    go_upto_region 2 with (fail)
    generalize w1.alloc (Obj.cells #[.int .i64 0, .slice none 0 0] 47) = v1 at *
    have HE := Lib.hid (HD.out _ B.out).1.2.2.2
    go_wp2_with fail
    obtain ⟨-, -, hne, ⟨ca, ta, h4⟩, ⟨cb, tb, h5⟩⟩ := HE.out
    refine (erOther b a _ (Ne.symm hne) cb ca tb ta h5 h4).mono ?_
    rintro e w2 ⟨rfl, rfl⟩
    clear HE hne h4 h5
    go_wp2_with fail
    go_ret
    rw [HA.out]
    exact ⟨rfl, B.out⟩
  · have HA := Lib.hid hA
    replace B := Lib.hid (B.out.alloc B.out.size (Obj.cells #[.int .i64 0, .slice none 0 0] 47))
    have e0 := (HD.out _ B.out).1.2.2.2.1
    clear hA
    go_upto_region 2 with (fail)
    generalize w1.alloc (Obj.cells #[.int .i64 0, .slice none 0 0] 47) = v1 at *
    go_wp2_with fail
    refine (erSame a _).mono ?_
    rintro e w2 ⟨rfl, rfl⟩
    go_wp2_with fail
    go_ret
    rw [HA.out]
    exact ⟨rfl, B.out⟩
  · have HA := Lib.hid hA
    have HAn := Lib.hid (fun w h hd => implAnswerOf a b i m hi ns a' c' w hv h hd)
    generalize toI ns = zs at *
    have I := Lib.hid (hin.alloc (Obj.cells #[.int .i64 (m : Int), .slice a' zs.length c'] 47))
    have X := Lib.hid (Bx.new (m : Int) (.slice a' zs.length c') w1)
    replace B := Lib.hid (B.out.alloc B.out.size (Obj.cells #[.int .i64 (m : Int), .slice a' zs.length c'] 47))
    have e0 := (HD.out _ B.out).1.2.2.2.1
    have hn := run_neq_nil8
    clear hA hin hv
    go_upto_region 2 with (fail)
    generalize w1.alloc (Obj.cells #[.int .i64 (m : Int), .slice a' zs.length c'] 47) = v1 at *
    go_wp2_with fail
    refine (erNil a _).mono ?_
    rintro e w2 ⟨rfl, rfl⟩
    have x0 := X.out.out.at0
    have x1 := X.out.out.at1
    go_wp2_with fail
    refine (HAn.out _ I.out.rd (HD.out _ B.out)).mono ?_
    rintro e w3 ⟨rfl, hb3⟩
    replace B := Lib.hid (B.out.trans (hb3.mono B.out.size))
    clear hb3
    go_wp2_with fail
    go_ret
    rw [HA.out]
    exact ⟨rfl, B.out⟩

end Go.Proofs.YtnmilfkocheaiaaGreatDoor

namespace Go.Proofs.YtnmilfkocheaiaaGreatDoor
open Go.RowKit

/-- a slice reads as a row of strings -/
def RdS (w : World) (v : Value) (L : List ByteArray) : Prop := ∃ a b off cap, v = .slice a L.length cap ∧ (0 < L.length → a = some ⟨b, off, none⟩ ∧ b < w.heap.size) ∧ (L.length ≤ maxLen ∧ ∀ s ∈ L, s.size ≤ maxLen) ∧ ∀ j, j < L.length → w.cell? ⟨b, off + j, none⟩ = some (.string (L.getD j ⟨#[]⟩))
theorem RdS.below {w w' : World} {v : Value} {L : List ByteArray} {k : Nat} (h : RdS w v L) (hb : Below k w w') (hk : w.heap.size ≤ k) : RdS w' v L := by
  obtain ⟨a, b, off, cap, h1, h2, h3, h4⟩ := h
  refine ⟨a, b, off, cap, h1, fun h0 => ⟨(h2 h0).1, Nat.lt_of_lt_of_le (h2 h0).2 hb.size⟩, h3, fun j hj => ?_⟩
  rw [hb.cell (p := ⟨b, off + j, none⟩) (Nat.lt_of_lt_of_le (h2 (by omega)).2 hk)]
  exact h4 j hj
theorem ownsRow_next {B k : Nat} {e : TypeId} {n : Nat} {xs : List Value} {w w' : World} {v : Value} (h : w.ownsRow B e 1 v n xs) (hb : Below k w w') (hk : w.heap.size ≤ k) : w'.ownsRow B e 1 v n xs := by
  refine ⟨h.1, ?_⟩
  rcases h.2 with h2 | ⟨g, cap, cur, e, hB, hg, r⟩
  · exact .inl h2
  · refine .inr ⟨g, cap, cur, e, hB, ?_, r⟩
    rw [hb.block g (Nat.lt_of_lt_of_le (Array.getElem?_eq_some_iff.1 hg).1 hk)]
    exact hg
theorem bld_at {T e : TypeId} {B b k : Nat} {p : Value} {bs : List Value} {w w' : World} (h : Lib.BuilderAt T e B b p bs w) (hb : Below k w w') (hk : w.heap.size ≤ k) : Lib.BuilderAt T e B b p bs w' := by
  obtain ⟨h1, v, h2, h3, h4⟩ := h
  exact ⟨h1, v, (hb.block b (Nat.lt_of_lt_of_le (Array.getElem?_eq_some_iff.1 h2).1 hk)).trans h2, ownsRow_next h3 hb hk, h4⟩
theorem bld_next {T e : TypeId} {B b k : Nat} {bs : List Value} {w w' : World} (h : Lib.IsBuilder T e B b bs w) (hb : Below k w w') (hk : w.heap.size ≤ k) : Lib.IsBuilder T e B b bs w' := by
  rcases h with h | h
  · exact Or.inl (bld_at h hb hk)
  · exact Or.inr (bld_at h hb hk)
theorem bld_new (w : World) : Lib.IsBuilder (shJoin_ren.t 72) (shJoin_ren.t 5) w.heap.size w.heap.size [] (w.alloc (Obj.cells #[.pointer none, .slice none 0 0] 35)) :=
  Or.inl ⟨Nat.le_refl _, .slice none 0 0, heap_alloc_new w _, ⟨rfl, Or.inl ⟨rfl, rfl⟩⟩, by simp [Value.ownBlock]⟩
theorem libWrite (B b : Nat) (bs : List Value) (s : ByteArray) (w : World) (h : Lib.IsBuilder (shJoin_ren.t 72) (shJoin_ren.t 5) B b bs w) (hlen : bs.length + s.size ≤ 140737488355328) (hBw : B ≤ w.heap.size) :
    Calls Tryz.prog 13 #[.pointer (some ⟨b, 0, none⟩), .string s] w fun e w' => e = .returned (.tuple #[.int .i64 s.size, .nilIface]) ∧ Lib.IsBuilder (shJoin_ren.t 72) (shJoin_ren.t 5) B b (bs ++ Lib.strCells s) w' ∧ Below B w w' := by
  refine (Any.Builder_WriteString { shJoin with } shJoinX B b bs s w h hlen hBw).mono ?_
  rintro e w' ⟨rfl, h1, h2⟩
  exact ⟨rfl, Or.inr h1, h2⟩
theorem libStr (B b : Nat) (l : List UInt8) (w : World) (h : Lib.IsBuilder (shJoin_ren.t 72) (shJoin_ren.t 5) B b (Lib.byteCells l) w) (hBw : B ≤ w.heap.size) :
    Calls Tryz.prog 15 #[.pointer (some ⟨b, 0, none⟩)] w fun e w' => e = .returned (.string ⟨l.toArray⟩) ∧ Below B w w' := Any.Builder_String_any { shJoin with } shJoinX B b l w h hBw
theorem cells_app (a b : ByteArray) : Lib.strCells (a ++ b) = Lib.strCells a ++ Lib.strCells b := by
  rw [Lib.strCells, Lib.strCells, Lib.strCells, ByteArray.data_append, Array.toList_append, List.map_append]

set_option maxHeartbeats 1600000 in
set_option maxRecDepth 100000 in
theorem implRunDesk (x y : Addr) (v : Value) (L : List ByteArray) (w : World) (h : RdS w v L) (hsz : ∀ s ∈ L, s.size ≤ 1048576) (hd : Dq x y w) :
    Calls Tryz.prog 8 #[v] w fun e w' => e = .returned (.string (dskB L)) ∧ Below w.heap.size w w' := by
  obtain ⟨a, b, off, cap, rfl, h1, h3, h4⟩ := h
  by_cases hl : L.length ≤ 20
  · have HD := Lib.hid (fun w' (hb : Below w.heap.size w w') => hd.below hb (Nat.le_refl _))
    have H1 := Lib.hid h1
    have H4 := Lib.hid h4
    have HA := Lib.hid (fun s (hs : s ∈ L) w h => implAnswerTo x y s (hsz s hs) w h)
    have HE := Lib.hid (show dskB L = dskTo L L.length by rw [dskB, if_pos hl])
    have hlI : ¬ (20 : Int) < (L.length : Int) := by omega
    have IB := Lib.hid (bld_new w)
    have B := Lib.hid (show Below w.heap.size w (w.alloc (Obj.cells #[.pointer none, .slice none 0 0] 35)) from (Below.refl _ _).alloc (Nat.le_refl _) _)
    clear h1 h4 hsz hd h3
    go_enter Tryz.func8, Tryz.ntmps8
    go_wp2_with fail
    generalize w.alloc (Obj.cells #[.pointer none, .slice none 0 0] 35) = w0 at *
    generalize hH : w.heap.size = H at *
    go_loopw [11] (fun i wr => ∃ k : Nat, k ≤ L.length ∧ i = .int .i64 k ∧ Lib.IsBuilder (shJoin_ren.t 72) (shJoin_ren.t 5) H H (Lib.strCells (dskTo L k)) wr ∧ Below H w wr) (fun i _ => L.length - (intOf i).toNat)
    case atStart => exact ⟨0, Nat.zero_le _, rfl, IB.out, B.out⟩
    case round =>
      obtain ⟨k, hk, rfl, hib, hbl⟩ := hrel
      replace IB := Lib.hid hib
      replace B := Lib.hid hbl
      have hHr : H ≤ wr.heap.size := hH ▸ hbl.size
      clear hib hbl
      by_cases hlt : k < L.length
      · obtain ⟨rfl, hbb⟩ := H1.out (by omega)
        have hki : (k : Int) < (L.length : Int) := by omega
        have hc := (B.out.cell (p := ⟨b, off + k, none⟩) hbb).trans (H4.out k hlt)
        have hS := Lib.hid (show dskTo L (k + 1) = dskTo L k ++ ansB (L.getD k ⟨#[]⟩) ++ ⟨#[10]⟩ from rfl)
        have hz1 := dskTo_size L k
        have hz2 := ansB_size (L.getD k ⟨#[]⟩)
        have HAx := Lib.hid (HA.out (L.getD k ⟨#[]⟩) (by rw [List.getD_eq_getElem?_getD, List.getElem?_eq_getElem hlt]; exact List.getElem_mem hlt))
        generalize ansB (L.getD k ⟨#[]⟩) = A at *
        generalize L.getD k ⟨#[]⟩ = s at *
        generalize dskTo L k = D at *
        go_wp2_with fail
        refine (HAx.out _ (HD.out _ B.out)).mono ?_
        rintro e w1 ⟨rfl, hb1⟩
        replace IB := Lib.hid (bld_next IB.out hb1 (Nat.le_refl _))
        replace B := Lib.hid (B.out.trans (hb1.mono hHr))
        have hH1 : H ≤ w1.heap.size := by have := hb1.size; omega
        clear hb1 hc
        go_wp2_with fail
        refine (libWrite H H _ A _ IB.out (by rw [Lib.strCells_length]; omega) hH1).mono ?_
        rintro e w2 ⟨rfl, hib2, hb2⟩
        replace IB := Lib.hid hib2
        replace B := Lib.hid (B.out.trans hb2)
        have hH2 : H ≤ w2.heap.size := by have := hb2.size; omega
        clear hb2 hib2
        go_wp2_with fail
        refine (libWrite H H _ ⟨#[10]⟩ _ IB.out (by rw [List.length_append, Lib.strCells_length, Lib.strCells_length]; show _ + 1 ≤ _; omega) hH2).mono ?_
        rintro e w3 ⟨rfl, hib3, hb3⟩
        replace IB := Lib.hid hib3
        replace B := Lib.hid (B.out.trans hb3)
        clear hb3 hib3
        go_wp2_with fail
        go_roundw
        case rel => exact ⟨k + 1, by omega, by go_num, by rw [hS.out, cells_app, cells_app]; exact IB.out, B.out⟩
        case measure => simp [intOf]; omega
      · obtain rfl : k = L.length := by omega
        have hI2 : Lib.IsBuilder (shJoin_ren.t 72) (shJoin_ren.t 5) H H (Lib.byteCells (dskTo L L.length).data.toList) wr := IB.out
        have HS := Lib.hid (libStr H H _ wr hI2 hHr)
        have HB2 := Lib.hid (show (⟨(dskTo L L.length).data.toList.toArray⟩ : ByteArray) = dskB L from HE.out.symm)
        clear hI2
        go_wp2_with fail
        refine HS.out.mono ?_
        rintro e w1 ⟨rfl, hb1⟩
        replace B := Lib.hid (B.out.trans hb1)
        clear hb1
        rw [HB2.out]
        go_wp2_with fail
        go_ret
        exact ⟨rfl, hH ▸ B.out⟩
  · have HE := Lib.hid (show dskB L = ⟨#[]⟩ by rw [dskB, if_neg hl])
    have hlI : (20 : Int) < (L.length : Int) := by omega
    clear h1 h4 hsz hd h3
    go_enter Tryz.func8, Tryz.ntmps8
    go_wp2_with fail
    go_ret
    rw [HE.out]
    exact ⟨rfl, Below.refl _ _⟩

end Go.Proofs.YtnmilfkocheaiaaGreatDoor

namespace Go.Proofs.YtnmilfkocheaiaaGreatDoor
open Go.RowKit

theorem specNumZ (k : Nat) (h : k ≤ 1024) (w : World) : Calls Tryz.prog 44 #[.int .i64 (k : Int)] w fun e w' => e = .returned (.string (nb k)) ∧ w' = w :=
  specNumberAll 5 k (by omega) (by have : (10 : Nat) ^ (5 + 1) = 1000000 := rfl; omega) w
set_option maxRecDepth 100000 in
theorem specSigned (z : Int) (hz : -1024 ≤ z ∧ z ≤ 1024) (w : World) :
    Calls Tryz.prog 25 #[.int .i64 z] w fun e w' => e = .returned (.string (itB z)) ∧ w' = w := by
  by_cases h : z < 0
  · obtain ⟨k, rfl⟩ : ∃ k : Nat, z = -(k : Int) := ⟨z.natAbs, by omega⟩
    have HN := Lib.hid (specNumZ k (by omega))
    have hs := nb_size6 k (by omega)
    have HI := Lib.hid (itB_neg k (by omega))
    have hw : IntKind.i64.wrap (-(-(k : Int))) = (k : Int) := by rw [IntKind.wrap_i64]; omega
    have hw2 : IntKind.i64.wrap (k : Int) = (k : Int) := by rw [IntKind.wrap_i64]; omega
    generalize nb k = T at *
    have hno : ¬ 9223372036854775807 < 1 + T.size := by omega
    go_enter Tryz.func25, Tryz.ntmps25
    go_wp2_with fail
    refine (HN.out _).mono ?_
    rintro e w1 ⟨rfl, rfl⟩
    go_wp2_with fail
    go_ret
    rw [HI.out]
    exact ⟨rfl, rfl⟩
  · obtain ⟨k, rfl⟩ := Int.eq_ofNat_of_zero_le (show 0 ≤ z by omega)
    have HN := Lib.hid (specNumZ k (by omega))
    have HI := Lib.hid (itB_nat k)
    have hk : ¬ (k : Int) < 0 := by omega
    generalize nb k = T at *
    go_enter Tryz.func25, Tryz.ntmps25
    go_wp2_with fail
    refine (HN.out _).mono ?_
    rintro e w1 ⟨rfl, rfl⟩
    go_wp2_with fail
    go_ret
    rw [HI.out]
    exact ⟨rfl, rfl⟩

/-- is the word among the first k -/
def anyTo (x : ByteArray) (k : Nat) : Bool := (wordsL.take k).any (fun y => decide (y = x))
theorem anyTo_succ {x : ByteArray} {k : Nat} (h : k < 11) : anyTo x (k + 1) = (anyTo x k || decide (wordsL.getD k ⟨#[]⟩ = x)) := by
  rw [anyTo, anyTo, List.take_succ_eq_append_getElem (show k < wordsL.length from h), List.any_append, List.getD_eq_getElem?_getD, List.getElem?_eq_getElem (show k < wordsL.length from h)]
  simp
theorem anyTo_all (x : ByteArray) : anyTo x 11 = (kOf x).isSome := by
  rw [anyTo, show wordsL.take 11 = wordsL from rfl]
  cases h : kOf x with
  | none =>
    have h2 := (kFrom_none x wordsL 0).1 h
    refine Bool.eq_false_iff.2 (fun h9 => ?_)
    obtain ⟨y, hy, hyx⟩ := List.any_eq_true.1 h9
    exact h2 y hy (of_decide_eq_true hyx)
  | some i =>
    obtain ⟨hi, hx⟩ := kOf_some h
    show _ = true
    rw [List.any_eq_true]
    exact ⟨x, List.mem_of_getElem? hx, decide_eq_true rfl⟩

/-- what the model answers of kind i: the calls behind the words' tests -/
theorem numK_bd' {m : Nat} {ns : List Nat} (hv : vldB m (toI ns) = true) (j : Nat) : -1024 ≤ numK m ns j ∧ numK m ns j ≤ 1024 := by
  obtain ⟨m', ns', e1, e2, hc⟩ := vldB_cls hv
  have e1 : m = m' := by omega
  have e2 : ns = ns' := by
    have := congrArg (List.map Int.toNat) e2
    rwa [toNat_toI, toNat_toI] at this
  subst e1 e2
  exact numK_bd hc (mst_le32 ns) j
theorem cls_of {m : Nat} {ns : List Nat} (hv : vldB m (toI ns) = true) : Cls m ns := by
  obtain ⟨m', ns', e1, e2, hc⟩ := vldB_cls hv
  have e1 : m = m' := by omega
  have e2 : ns = ns' := by
    have := congrArg (List.map Int.toNat) e2
    rwa [toNat_toI, toNat_toI] at this
  subst e1 e2
  exact hc

set_option maxHeartbeats 3200000 in
set_option maxRecDepth 100000 in
theorem specAnswer (s : ByteArray) (hs : s.size ≤ 1048576) (w : World) :
    Calls Tryz.prog 12 #[.string s] w fun e w' => e = .returned (.string (ansB s)) ∧ Below w.heap.size w w' := by
  have hW := lnW_size s
  have hT := lnT_size s
  have HSp := Lib.hid (show ∀ w, Calls Tryz.prog 23 #[.string s, .int .u8 32] w fun e w' => ∃ a cap, e = .returned (.slice a (spL s 32).length cap) ∧ Strs w.heap.size w' (.slice a (spL s 32).length cap) (spL s 32) ∧ Below w.heap.size w w' from specSplitAt s 32 hs)
  obtain ⟨hl1, hl2⟩ := ln_two s
  by_cases hcd : lnF s = true ∧ lnC s = false
  · rw [hl1 hcd] at HSp
    have HA2 := Lib.hid (fun h => ansB_unknown (s := s) h)
    have HA3 := Lib.hid (fun i hk hp => ansB_wrong (s := s) (i := i) hcd hk hp)
    have HA4 := Lib.hid (fun i m ns hk hp => ansB_ok (s := s) (i := i) (m := m) (ns := ns) hcd hk hp)
    have HPs := Lib.hid (fun w => specParseIn (lnT s) (by omega) w)
    clear hl1 hl2 hcd
    generalize lnW s = wd at *
    generalize lnT s = tx at *
    go_enter Tryz.func12, Tryz.ntmps12
    go_wp2_with fail
    generalize hH : w.heap.size = H at *
    refine (HSp.out _).mono ?_
    rintro e w1 ⟨a1, c1, rfl, hst, hb1⟩
    obtain ⟨g2, rfl, hg2, hsc⟩ := hst.sc (by simp)
    have S2 := Lib.hid hsc
    have B := Lib.hid (hH ▸ hb1 : Below H w w1)
    have hc1 : w1.cell? ⟨g2, 1, none⟩ = some (.string tx) := hsc.cell (k := 1) (by simp)
    have hlen2 : ([wd, tx] : List ByteArray).length = 2 := rfl
    clear hst hb1 hsc HSp
    go_wp2_with fail
    refine (HPs.out _).mono ?_
    rintro e w2 ⟨n, zs, ⟨a4, c4, rfl, hin2, hb2⟩, hok⟩
    have hz1 := B.out.size
    have hz2 := hb2.size
    have hHw1 : H ≤ w1.heap.size := by omega
    have hs2 := S2.out.lt
    replace S2 := Lib.hid (((S2.out.next hb2 hs2).alloc (Obj.cells #[.int .i64 n, .slice a4 zs.length c4] 47)).alloc (Obj.cells #[.string ⟨#[118, 99]⟩, .string ⟨#[108, 105, 116, 116, 108, 101, 115, 116, 111, 110, 101]⟩, .string ⟨#[109, 101, 109, 98, 101, 114, 115]⟩, .string ⟨#[116, 101, 97, 99, 104]⟩, .string ⟨#[114, 101, 99, 117, 114, 115, 105, 118, 101]⟩, .string ⟨#[115, 116, 97, 114]⟩, .string ⟨#[101, 117, 108, 101, 114]⟩, .string ⟨#[109, 97, 120, 105, 109, 117, 109]⟩, .string ⟨#[101, 120, 116, 114, 101, 109, 97, 108]⟩, .string ⟨#[99, 111, 109, 112, 108, 101, 109, 101, 110, 116]⟩, .string ⟨#[115, 101, 116, 116, 108, 101]⟩] 9))
    replace B := Lib.hid (((B.out.trans (hb2.mono hHw1)).alloc (by omega) (Obj.cells #[.int .i64 n, .slice a4 zs.length c4] 47)).alloc (by simp; omega) (Obj.cells #[.string ⟨#[118, 99]⟩, .string ⟨#[108, 105, 116, 116, 108, 101, 115, 116, 111, 110, 101]⟩, .string ⟨#[109, 101, 109, 98, 101, 114, 115]⟩, .string ⟨#[116, 101, 97, 99, 104]⟩, .string ⟨#[114, 101, 99, 117, 114, 115, 105, 118, 101]⟩, .string ⟨#[115, 116, 97, 114]⟩, .string ⟨#[101, 117, 108, 101, 114]⟩, .string ⟨#[109, 97, 120, 105, 109, 117, 109]⟩, .string ⟨#[101, 120, 116, 114, 101, 109, 97, 108]⟩, .string ⟨#[99, 111, 109, 112, 108, 101, 109, 101, 110, 116]⟩, .string ⟨#[115, 101, 116, 116, 108, 101]⟩] 9))
    have I := Lib.hid (((hin2.mono hHw1).alloc (Obj.cells #[.int .i64 n, .slice a4 zs.length c4] 47)).alloc (Obj.cells #[.string ⟨#[118, 99]⟩, .string ⟨#[108, 105, 116, 116, 108, 101, 115, 116, 111, 110, 101]⟩, .string ⟨#[109, 101, 109, 98, 101, 114, 115]⟩, .string ⟨#[116, 101, 97, 99, 104]⟩, .string ⟨#[114, 101, 99, 117, 114, 115, 105, 118, 101]⟩, .string ⟨#[115, 116, 97, 114]⟩, .string ⟨#[101, 117, 108, 101, 114]⟩, .string ⟨#[109, 97, 120, 105, 109, 117, 109]⟩, .string ⟨#[101, 120, 116, 114, 101, 109, 97, 108]⟩, .string ⟨#[99, 111, 109, 112, 108, 101, 109, 101, 110, 116]⟩, .string ⟨#[115, 101, 116, 116, 108, 101]⟩] 9))
    have X := Lib.hid ((Bx.new n (.slice a4 zs.length c4) w2).alloc (Obj.cells #[.string ⟨#[118, 99]⟩, .string ⟨#[108, 105, 116, 116, 108, 101, 115, 116, 111, 110, 101]⟩, .string ⟨#[109, 101, 109, 98, 101, 114, 115]⟩, .string ⟨#[116, 101, 97, 99, 104]⟩, .string ⟨#[114, 101, 99, 117, 114, 115, 105, 118, 101]⟩, .string ⟨#[115, 116, 97, 114]⟩, .string ⟨#[101, 117, 108, 101, 114]⟩, .string ⟨#[109, 97, 120, 105, 109, 117, 109]⟩, .string ⟨#[101, 120, 116, 114, 101, 109, 97, 108]⟩, .string ⟨#[99, 111, 109, 112, 108, 101, 109, 101, 110, 116]⟩, .string ⟨#[115, 101, 116, 116, 108, 101]⟩] 9))
    have HZ := Lib.hid (show ((w2.alloc (Obj.cells #[.int .i64 n, .slice a4 zs.length c4] 47)).alloc (Obj.cells #[.string ⟨#[118, 99]⟩, .string ⟨#[108, 105, 116, 116, 108, 101, 115, 116, 111, 110, 101]⟩, .string ⟨#[109, 101, 109, 98, 101, 114, 115]⟩, .string ⟨#[116, 101, 97, 99, 104]⟩, .string ⟨#[114, 101, 99, 117, 114, 115, 105, 118, 101]⟩, .string ⟨#[115, 116, 97, 114]⟩, .string ⟨#[101, 117, 108, 101, 114]⟩, .string ⟨#[109, 97, 120, 105, 109, 117, 109]⟩, .string ⟨#[101, 120, 116, 114, 101, 109, 97, 108]⟩, .string ⟨#[99, 111, 109, 112, 108, 101, 109, 101, 110, 116]⟩, .string ⟨#[115, 101, 116, 116, 108, 101]⟩] 9)).heap.size = w2.heap.size + 2 by simp)
    have hGh : (w2.alloc (Obj.cells #[.int .i64 n, .slice a4 zs.length c4] 47)).heap.size = w2.heap.size + 1 := by simp
    have SW7 := Lib.hid (show Sc wordsL (w2.heap.size + 1) ((w2.alloc (Obj.cells #[.int .i64 n, .slice a4 zs.length c4] 47)).alloc (Obj.cells #[.string ⟨#[118, 99]⟩, .string ⟨#[108, 105, 116, 116, 108, 101, 115, 116, 111, 110, 101]⟩, .string ⟨#[109, 101, 109, 98, 101, 114, 115]⟩, .string ⟨#[116, 101, 97, 99, 104]⟩, .string ⟨#[114, 101, 99, 117, 114, 115, 105, 118, 101]⟩, .string ⟨#[115, 116, 97, 114]⟩, .string ⟨#[101, 117, 108, 101, 114]⟩, .string ⟨#[109, 97, 120, 105, 109, 117, 109]⟩, .string ⟨#[101, 120, 116, 114, 101, 109, 97, 108]⟩, .string ⟨#[99, 111, 109, 112, 108, 101, 109, 101, 110, 116]⟩, .string ⟨#[115, 101, 116, 116, 108, 101]⟩] 9)) from ⟨_, heap_alloc_at hGh, fun k hk => by
      rcases (show k = 0 ∨ k = 1 ∨ k = 2 ∨ k = 3 ∨ k = 4 ∨ k = 5 ∨ k = 6 ∨ k = 7 ∨ k = 8 ∨ k = 9 ∨ k = 10 by have : k < 11 := hk; omega) with rfl | rfl | rfl | rfl | rfl | rfl | rfl | rfl | rfl | rfl | rfl <;> rfl⟩)
    have HK := Lib.hid hok
    clear hin2 hb2 hok hGh hc1 HPs
    go_upto_region 6 with (fail)
    generalize (w2.alloc (Obj.cells #[.int .i64 n, .slice a4 zs.length c4] 47)).alloc (Obj.cells #[.string ⟨#[118, 99]⟩, .string ⟨#[108, 105, 116, 116, 108, 101, 115, 116, 111, 110, 101]⟩, .string ⟨#[109, 101, 109, 98, 101, 114, 115]⟩, .string ⟨#[116, 101, 97, 99, 104]⟩, .string ⟨#[114, 101, 99, 117, 114, 115, 105, 118, 101]⟩, .string ⟨#[115, 116, 97, 114]⟩, .string ⟨#[101, 117, 108, 101, 114]⟩, .string ⟨#[109, 97, 120, 105, 109, 117, 109]⟩, .string ⟨#[101, 120, 116, 114, 101, 109, 97, 108]⟩, .string ⟨#[99, 111, 109, 112, 108, 101, 109, 101, 110, 116]⟩, .string ⟨#[115, 101, 116, 116, 108, 101]⟩] 9) = v0 at *
    have hzv := HZ.out
    clear HZ
    generalize hoC : w2.heap.size = oC at *
    go_wp2_with fail
    go_loopw [7, 8] (fun kn i wr => ∃ k : Nat, k ≤ 11 ∧ i = .int .i64 k ∧ kn = .bool (anyTo wd k) ∧ Below v0.heap.size v0 wr) (fun _ i _ => 11 - (intOf i).toNat)
    case atStart => exact ⟨0, by omega, rfl, rfl, Below.refl _ _⟩
    case round =>
      obtain ⟨k, hk, rfl, rfl, hbl⟩ := hrel
      by_cases hlt : k < 11
      · have hki : (k : Int) < 11 := by omega
        have hcw := (SW7.out.next hbl (by have := SW7.out.lt; omega)).cell (k := k) hlt
        have hc0 : wr.cell? ⟨g2, 0, none⟩ = some (.string wd) := (S2.out.next hbl (by have := S2.out.lt; omega)).cell (k := 0) (by simp)
        have HSu := Lib.hid (anyTo_succ (x := wd) hlt)
        have HBL := Lib.hid hbl
        generalize wordsL.getD k ⟨#[]⟩ = y at *
        generalize anyTo wd k = kb at *
        clear hbl
        cases kb with
        | true =>
          have HF := Lib.hid (show anyTo wd (k + 1) = true by rw [HSu.out]; rfl)
          clear HSu
          go_wp2_with fail
          go_region
          all_goals
            go_wp2_with fail
            go_roundw
            case rel => exact ⟨k + 1, by omega, by go_num, by rw [HF.out], HBL.out.drew⟩
            case measure => simp [intOf]; omega
        | false =>
          by_cases hy : y = wd
          · have HF := Lib.hid (show anyTo wd (k + 1) = true by rw [HSu.out, decide_eq_true hy]; rfl)
            have hq := ba_eq hy
            clear HSu hy
            go_wp2_with fail
            go_region
            all_goals
              go_wp2_with fail
              go_roundw
              case rel => exact ⟨k + 1, by omega, by go_num, by rw [HF.out], HBL.out.drew⟩
              case measure => simp [intOf]; omega
          · have HF := Lib.hid (show anyTo wd (k + 1) = false by rw [HSu.out, decide_eq_false hy]; rfl)
            have hq := ba_ne hy
            clear HSu hy
            go_wp2_with fail
            go_region
            all_goals
              go_wp2_with fail
              go_roundw
              case rel => exact ⟨k + 1, by omega, by go_num, by rw [HF.out], HBL.out.drew⟩
              case measure => simp [intOf]; omega
      · obtain rfl : k = 11 := by omega
        rw [anyTo_all]
        have hHv : H ≤ v0.heap.size := by have := B.out.size; omega
        replace X := Lib.hid (X.out.next hbl X.out.lt)
        replace I := Lib.hid (I.out.below hbl (Nat.le_refl _))
        replace S2 := Lib.hid (S2.out.next hbl S2.out.lt)
        replace B := Lib.hid (B.out.trans (hbl.mono hHv))
        clear hbl SW7
        cases hko : kOf wd with
        | none =>
          have HA := Lib.hid (HA2.out hko)
          clear hko
          simp only [Option.isSome_none]
          go_wp2_with fail
          go_ret
          rw [HA.out]
          exact ⟨rfl, hH ▸ B.out⟩
        | some i =>
          simp only [Option.isSome_some]
          have hki := kOf_some hko
          cases hpm : pM tx with
          | none =>
            have HA := Lib.hid (HA3.out i hko hpm)
            have hpb := (prs_none hpm).2.2
            rw [hpb]
            clear hko hki hpm hpb
            go_wp2_with fail
            go_ret
            rw [HA.out]
            exact ⟨rfl, hH ▸ B.out⟩
          | some p =>
            obtain ⟨n', zs'⟩ := p
            have hpr := prs_some hpm
            have hv := (pM_text hpm).1
            obtain ⟨h1, h2⟩ := HK.out hpr.2.2
            rw [hpr.1] at h1
            rw [hpr.2.1] at h2
            rw [hpr.2.2]
            subst h1 h2
            obtain ⟨m, ns, rfl, rfl, -⟩ := vldB_cls hv
            have hAns := HA4.out i m ns hko hpm
            have hc0 : wr.cell? ⟨g2, 0, none⟩ = some (.string wd) := S2.out.cell (k := 0) (by simp)
            obtain ⟨hi, hwi⟩ := hki
            clear hpr hpm hko HK HA2 HA3 HA4 S2
            rcases (show i = 0 ∨ i = 1 ∨ i = 2 ∨ i = 3 ∨ i = 4 ∨ i = 5 ∨ i = 6 ∨ i = 7 ∨ i = 8 ∨ i = 9 ∨ i = 10 by omega) with rfl | rfl | rfl | rfl | rfl | rfl | rfl | rfl | rfl | rfl | rfl
            · obtain rfl : ⟨#[118, 99]⟩ = wd := Option.some.inj hwi
              clear hwi hi
              have hq0 := ba_eq (rfl : (⟨#[118, 99]⟩ : ByteArray) = ⟨#[118, 99]⟩)
              have HA := Lib.hid (show ansK m ns 0 = itB (numK m ns 0) from rfl)
              have HSg := Lib.hid (fun w => specSigned (numK m ns 0) (numK_bd' hv 0) w)
              have hc := cls_of hv
              have hm := hc.pts
              have hlen := hc.length
              have HF := Lib.hid (fun v w h => specShatAll m v ns w hc h)
              have HW := Lib.hid (fun v w h => specWidest v ((List.range (2 ^ m)).filter (sht ns)) w (fun t ht => Nat.lt_of_lt_of_le (List.mem_range.1 (List.mem_filter.1 ht).1) (pow_le_32 hm)) h)
              have HV := Lib.hid (show widL ((List.range (2 ^ m)).filter (sht ns)) = numK m ns 0 by rw [← shatN_in hv]; rfl)
              generalize numK m ns 0 = z at *
              generalize (List.range (2 ^ m)).filter (sht ns) = FF at *
              generalize toI ns = zs at *
              clear hv hc hm hlen
              have x0 := X.out.out.at0
              have x1 := X.out.out.at1
              go_wp2_with fail
              clear x0 x1
              refine (HF.out _ _ I.out.rd).mono ?_
              rintro e w8 ⟨a8, c8, rfl, hin8, hb8⟩
              have I8 := Lib.hid hin8
              clear hin8
              replace B := Lib.hid (B.out.trans (hb8.mono (by have := B.out.size; omega)))
              clear hb8
              go_wp2_with fail
              refine (HW.out _ _ I8.out.rd).mono ?_
              rintro e w9 ⟨rfl, rfl⟩
              rw [HV.out]
              go_wp2_with fail
              refine (HSg.out _).mono ?_
              rintro e w9 ⟨rfl, rfl⟩
              go_wp2_with fail
              go_ret
              rw [hAns, HA.out]
              exact ⟨rfl, hH ▸ B.out⟩
            · obtain rfl : ⟨#[108, 105, 116, 116, 108, 101, 115, 116, 111, 110, 101]⟩ = wd := Option.some.inj hwi
              clear hwi hi
              have hq0 := ba_ne (show ¬ (⟨#[108, 105, 116, 116, 108, 101, 115, 116, 111, 110, 101]⟩ : ByteArray) = ⟨#[118, 99]⟩ by decide)
              have hq1 := ba_eq (rfl : (⟨#[108, 105, 116, 116, 108, 101, 115, 116, 111, 110, 101]⟩ : ByteArray) = ⟨#[108, 105, 116, 116, 108, 101, 115, 116, 111, 110, 101]⟩)
              have HA := Lib.hid (show ansK m ns 1 = itB (mst ns) from rfl)
              have HSg := Lib.hid (fun w => specSigned (mst ns) (show -1024 ≤ mst ns ∧ mst ns ≤ 1024 from numK_bd' hv 1) w)
              have hc := cls_of hv
              have hm := hc.pts
              have hlen := hc.length
              have HF := Lib.hid (fun v w h => specLittlestone m hm ns v w hlen hc.lt h)
              generalize mst ns = z at *
              generalize toI ns = zs at *
              clear hv hc hm hlen
              have x0 := X.out.out.at0
              have x1 := X.out.out.at1
              go_wp2_with fail
              clear x0 x1
              refine (HF.out _ _ I.out.rd).mono ?_
              rintro e w8 ⟨rfl, hb8⟩
              replace B := Lib.hid (B.out.trans (hb8.mono (by have := B.out.size; omega)))
              clear hb8
              go_wp2_with fail
              refine (HSg.out _).mono ?_
              rintro e w9 ⟨rfl, rfl⟩
              go_wp2_with fail
              go_ret
              rw [hAns, HA.out]
              exact ⟨rfl, hH ▸ B.out⟩
            · obtain rfl : ⟨#[109, 101, 109, 98, 101, 114, 115]⟩ = wd := Option.some.inj hwi
              clear hwi hi
              have hq0 := ba_ne (show ¬ (⟨#[109, 101, 109, 98, 101, 114, 115]⟩ : ByteArray) = ⟨#[118, 99]⟩ by decide)
              have hq1 := ba_ne (show ¬ (⟨#[109, 101, 109, 98, 101, 114, 115]⟩ : ByteArray) = ⟨#[108, 105, 116, 116, 108, 101, 115, 116, 111, 110, 101]⟩ by decide)
              have hq2 := ba_eq (rfl : (⟨#[109, 101, 109, 98, 101, 114, 115]⟩ : ByteArray) = ⟨#[109, 101, 109, 98, 101, 114, 115]⟩)
              have HA := Lib.hid (show ansK m ns 2 = itB (qst ns) from rfl)
              have HSg := Lib.hid (fun w => specSigned (qst ns) (show -1024 ≤ qst ns ∧ qst ns ≤ 1024 from numK_bd' hv 2) w)
              have hc := cls_of hv
              have hm := hc.pts
              have hlen := hc.length
              have HF := Lib.hid (fun v w h => specMembers m hm ns v w hlen hc.lt hc.asc h)
              generalize qst ns = z at *
              generalize toI ns = zs at *
              clear hv hc hm hlen
              have x0 := X.out.out.at0
              have x1 := X.out.out.at1
              go_wp2_with fail
              clear x0 x1
              refine (HF.out _ _ I.out.rd).mono ?_
              rintro e w8 ⟨rfl, hb8⟩
              replace B := Lib.hid (B.out.trans (hb8.mono (by have := B.out.size; omega)))
              clear hb8
              go_wp2_with fail
              refine (HSg.out _).mono ?_
              rintro e w9 ⟨rfl, rfl⟩
              go_wp2_with fail
              go_ret
              rw [hAns, HA.out]
              exact ⟨rfl, hH ▸ B.out⟩
            · obtain rfl : ⟨#[116, 101, 97, 99, 104]⟩ = wd := Option.some.inj hwi
              clear hwi hi
              have hq0 := ba_ne (show ¬ (⟨#[116, 101, 97, 99, 104]⟩ : ByteArray) = ⟨#[118, 99]⟩ by decide)
              have hq1 := ba_ne (show ¬ (⟨#[116, 101, 97, 99, 104]⟩ : ByteArray) = ⟨#[108, 105, 116, 116, 108, 101, 115, 116, 111, 110, 101]⟩ by decide)
              have hq2 := ba_ne (show ¬ (⟨#[116, 101, 97, 99, 104]⟩ : ByteArray) = ⟨#[109, 101, 109, 98, 101, 114, 115]⟩ by decide)
              have hq3 := ba_eq (rfl : (⟨#[116, 101, 97, 99, 104]⟩ : ByteArray) = ⟨#[116, 101, 97, 99, 104]⟩)
              have HA := Lib.hid (show ansK m ns 3 = itB (gTo (tns m ns) ns.length) from rfl)
              have HSg := Lib.hid (fun w => specSigned (gTo (tns m ns) ns.length) (show -1024 ≤ gTo (tns m ns) ns.length ∧ gTo (tns m ns) ns.length ≤ 1024 from numK_bd' hv 3) w)
              have hc := cls_of hv
              have hm := hc.pts
              have hlen := hc.length
              have HF := Lib.hid (fun v w h => specEfforts m v ns w hc h)
              have HG := Lib.hid (fun v w h => specGreatest v (tns m ns) w h)
              rw [tns_len] at HG
              generalize gTo (tns m ns) ns.length = z at *
              generalize tns m ns = TT at *
              generalize toI ns = zs at *
              clear hv hc hm hlen
              have x0 := X.out.out.at0
              have x1 := X.out.out.at1
              go_wp2_with fail
              clear x0 x1
              refine (HF.out _ _ I.out.rd).mono ?_
              rintro e w8 ⟨a8, c8, rfl, hin8, hb8⟩
              have I8 := Lib.hid hin8
              clear hin8
              replace B := Lib.hid (B.out.trans (hb8.mono (by have := B.out.size; omega)))
              clear hb8
              go_wp2_with fail
              refine (HG.out _ _ I8.out.rd).mono ?_
              rintro e w9 ⟨rfl, rfl⟩
              go_wp2_with fail
              refine (HSg.out _).mono ?_
              rintro e w9 ⟨rfl, rfl⟩
              go_wp2_with fail
              go_ret
              rw [hAns, HA.out]
              exact ⟨rfl, hH ▸ B.out⟩
            · obtain rfl : ⟨#[114, 101, 99, 117, 114, 115, 105, 118, 101]⟩ = wd := Option.some.inj hwi
              clear hwi hi
              have hq0 := ba_ne (show ¬ (⟨#[114, 101, 99, 117, 114, 115, 105, 118, 101]⟩ : ByteArray) = ⟨#[118, 99]⟩ by decide)
              have hq1 := ba_ne (show ¬ (⟨#[114, 101, 99, 117, 114, 115, 105, 118, 101]⟩ : ByteArray) = ⟨#[108, 105, 116, 116, 108, 101, 115, 116, 111, 110, 101]⟩ by decide)
              have hq2 := ba_ne (show ¬ (⟨#[114, 101, 99, 117, 114, 115, 105, 118, 101]⟩ : ByteArray) = ⟨#[109, 101, 109, 98, 101, 114, 115]⟩ by decide)
              have hq3 := ba_ne (show ¬ (⟨#[114, 101, 99, 117, 114, 115, 105, 118, 101]⟩ : ByteArray) = ⟨#[116, 101, 97, 99, 104]⟩ by decide)
              have hq4 := ba_eq (rfl : (⟨#[114, 101, 99, 117, 114, 115, 105, 118, 101]⟩ : ByteArray) = ⟨#[114, 101, 99, 117, 114, 115, 105, 118, 101]⟩)
              have HA := Lib.hid (show ansK m ns 4 = itB (rdM m ns) from rfl)
              have HSg := Lib.hid (fun w => specSigned (rdM m ns) (show -1024 ≤ rdM m ns ∧ rdM m ns ≤ 1024 from numK_bd' hv 4) w)
              have hc := cls_of hv
              have hm := hc.pts
              have hlen := hc.length
              have HF := Lib.hid (fun v w h => specRecursive m v ns w hc h)
              generalize rdM m ns = z at *
              generalize toI ns = zs at *
              clear hv hc hm hlen
              have x0 := X.out.out.at0
              have x1 := X.out.out.at1
              go_wp2_with fail
              clear x0 x1
              refine (HF.out _ _ I.out.rd).mono ?_
              rintro e w8 ⟨rfl, hb8⟩
              replace B := Lib.hid (B.out.trans (hb8.mono (by have := B.out.size; omega)))
              clear hb8
              go_wp2_with fail
              refine (HSg.out _).mono ?_
              rintro e w9 ⟨rfl, rfl⟩
              go_wp2_with fail
              go_ret
              rw [hAns, HA.out]
              exact ⟨rfl, hH ▸ B.out⟩
            · obtain rfl : ⟨#[115, 116, 97, 114]⟩ = wd := Option.some.inj hwi
              clear hwi hi
              have hq0 := ba_ne (show ¬ (⟨#[115, 116, 97, 114]⟩ : ByteArray) = ⟨#[118, 99]⟩ by decide)
              have hq1 := ba_ne (show ¬ (⟨#[115, 116, 97, 114]⟩ : ByteArray) = ⟨#[108, 105, 116, 116, 108, 101, 115, 116, 111, 110, 101]⟩ by decide)
              have hq2 := ba_ne (show ¬ (⟨#[115, 116, 97, 114]⟩ : ByteArray) = ⟨#[109, 101, 109, 98, 101, 114, 115]⟩ by decide)
              have hq3 := ba_ne (show ¬ (⟨#[115, 116, 97, 114]⟩ : ByteArray) = ⟨#[116, 101, 97, 99, 104]⟩ by decide)
              have hq4 := ba_ne (show ¬ (⟨#[115, 116, 97, 114]⟩ : ByteArray) = ⟨#[114, 101, 99, 117, 114, 115, 105, 118, 101]⟩ by decide)
              have hq5 := ba_eq (rfl : (⟨#[115, 116, 97, 114]⟩ : ByteArray) = ⟨#[115, 116, 97, 114]⟩)
              have HA := Lib.hid (show ansK m ns 5 = itB (starM m ns) from rfl)
              have HSg := Lib.hid (fun w => specSigned (starM m ns) (show -1024 ≤ starM m ns ∧ starM m ns ≤ 1024 from numK_bd' hv 5) w)
              have hc := cls_of hv
              have hm := hc.pts
              have hlen := hc.length
              have HF := Lib.hid (fun v w h => specStar m hm v ns w hc.lt32 (by omega) h)
              have HO := Lib.hid (fun b h => star_one (ns := ns) hc (b := b) h)
              generalize starM m ns = z at *
              generalize toI ns = zs at *
              clear hv hc hm hlen
              have x0 := X.out.out.at0
              have x1 := X.out.out.at1
              go_wp2_with fail
              clear x0 x1
              refine (HF.out _ _ I.out.rd).mono ?_
              rintro e w8 ⟨⟨bb, rfl, hmx⟩, hb8⟩
              obtain rfl := HO.out bb hmx
              clear hmx HO
              replace B := Lib.hid (B.out.trans (hb8.mono (by have := B.out.size; omega)))
              clear hb8
              go_wp2_with fail
              refine (HSg.out _).mono ?_
              rintro e w9 ⟨rfl, rfl⟩
              go_wp2_with fail
              go_ret
              rw [hAns, HA.out]
              exact ⟨rfl, hH ▸ B.out⟩
            · obtain rfl : ⟨#[101, 117, 108, 101, 114]⟩ = wd := Option.some.inj hwi
              clear hwi hi
              have hq0 := ba_ne (show ¬ (⟨#[101, 117, 108, 101, 114]⟩ : ByteArray) = ⟨#[118, 99]⟩ by decide)
              have hq1 := ba_ne (show ¬ (⟨#[101, 117, 108, 101, 114]⟩ : ByteArray) = ⟨#[108, 105, 116, 116, 108, 101, 115, 116, 111, 110, 101]⟩ by decide)
              have hq2 := ba_ne (show ¬ (⟨#[101, 117, 108, 101, 114]⟩ : ByteArray) = ⟨#[109, 101, 109, 98, 101, 114, 115]⟩ by decide)
              have hq3 := ba_ne (show ¬ (⟨#[101, 117, 108, 101, 114]⟩ : ByteArray) = ⟨#[116, 101, 97, 99, 104]⟩ by decide)
              have hq4 := ba_ne (show ¬ (⟨#[101, 117, 108, 101, 114]⟩ : ByteArray) = ⟨#[114, 101, 99, 117, 114, 115, 105, 118, 101]⟩ by decide)
              have hq5 := ba_ne (show ¬ (⟨#[101, 117, 108, 101, 114]⟩ : ByteArray) = ⟨#[115, 116, 97, 114]⟩ by decide)
              have hq6 := ba_eq (rfl : (⟨#[101, 117, 108, 101, 114]⟩ : ByteArray) = ⟨#[101, 117, 108, 101, 114]⟩)
              have HA := Lib.hid (show ansK m ns 6 = itB (eulB m (toI ns)) from rfl)
              have HSg := Lib.hid (fun w => specSigned (eulB m (toI ns)) (show -1024 ≤ eulB m (toI ns) ∧ eulB m (toI ns) ≤ 1024 from numK_bd' hv 6) w)
              have hc := cls_of hv
              have hm := hc.pts
              have hlen := hc.length
              have HF := Lib.hid (fun v w h => specEulerOf (m : Int) v (toI ns) w h)
              generalize eulB m (toI ns) = z at *
              generalize toI ns = zs at *
              clear hv hc hm hlen
              have x0 := X.out.out.at0
              have x1 := X.out.out.at1
              go_wp2_with fail
              clear x0 x1
              refine (HF.out _ _ I.out.rd).mono ?_
              rintro e w8 ⟨rfl, hb8⟩
              replace B := Lib.hid (B.out.trans (hb8.mono (by have := B.out.size; omega)))
              clear hb8
              go_wp2_with fail
              refine (HSg.out _).mono ?_
              rintro e w9 ⟨rfl, rfl⟩
              go_wp2_with fail
              go_ret
              rw [hAns, HA.out]
              exact ⟨rfl, hH ▸ B.out⟩
            · obtain rfl : ⟨#[109, 97, 120, 105, 109, 117, 109]⟩ = wd := Option.some.inj hwi
              clear hwi hi
              have hq0 := ba_ne (show ¬ (⟨#[109, 97, 120, 105, 109, 117, 109]⟩ : ByteArray) = ⟨#[118, 99]⟩ by decide)
              have hq1 := ba_ne (show ¬ (⟨#[109, 97, 120, 105, 109, 117, 109]⟩ : ByteArray) = ⟨#[108, 105, 116, 116, 108, 101, 115, 116, 111, 110, 101]⟩ by decide)
              have hq2 := ba_ne (show ¬ (⟨#[109, 97, 120, 105, 109, 117, 109]⟩ : ByteArray) = ⟨#[109, 101, 109, 98, 101, 114, 115]⟩ by decide)
              have hq3 := ba_ne (show ¬ (⟨#[109, 97, 120, 105, 109, 117, 109]⟩ : ByteArray) = ⟨#[116, 101, 97, 99, 104]⟩ by decide)
              have hq4 := ba_ne (show ¬ (⟨#[109, 97, 120, 105, 109, 117, 109]⟩ : ByteArray) = ⟨#[114, 101, 99, 117, 114, 115, 105, 118, 101]⟩ by decide)
              have hq5 := ba_ne (show ¬ (⟨#[109, 97, 120, 105, 109, 117, 109]⟩ : ByteArray) = ⟨#[115, 116, 97, 114]⟩ by decide)
              have hq6 := ba_ne (show ¬ (⟨#[109, 97, 120, 105, 109, 117, 109]⟩ : ByteArray) = ⟨#[101, 117, 108, 101, 114]⟩ by decide)
              have hq7 := ba_eq (rfl : (⟨#[109, 97, 120, 105, 109, 117, 109]⟩ : ByteArray) = ⟨#[109, 97, 120, 105, 109, 117, 109]⟩)
              have HA := Lib.hid (show ansK m ns 7 = ynT (maxB m (toI ns)) from rfl)
              have HF := Lib.hid (fun v w h => specIsMaximum (m : Int) v (toI ns) w h)
              generalize maxB m (toI ns) = z at *
              generalize toI ns = zs at *
              clear hv
              have x0 := X.out.out.at0
              have x1 := X.out.out.at1
              go_wp2_with fail
              clear x0 x1
              refine (HF.out _ _ I.out.rd).mono ?_
              rintro e w8 ⟨rfl, hb8⟩
              replace B := Lib.hid (B.out.trans (hb8.mono (by have := B.out.size; omega)))
              clear hb8
              go_wp2_with fail
              refine (specYn z _).mono ?_
              rintro e w9 ⟨rfl, rfl⟩
              go_wp2_with fail
              go_ret
              rw [hAns, HA.out]
              exact ⟨rfl, hH ▸ B.out⟩
            · obtain rfl : ⟨#[101, 120, 116, 114, 101, 109, 97, 108]⟩ = wd := Option.some.inj hwi
              clear hwi hi
              have hq0 := ba_ne (show ¬ (⟨#[101, 120, 116, 114, 101, 109, 97, 108]⟩ : ByteArray) = ⟨#[118, 99]⟩ by decide)
              have hq1 := ba_ne (show ¬ (⟨#[101, 120, 116, 114, 101, 109, 97, 108]⟩ : ByteArray) = ⟨#[108, 105, 116, 116, 108, 101, 115, 116, 111, 110, 101]⟩ by decide)
              have hq2 := ba_ne (show ¬ (⟨#[101, 120, 116, 114, 101, 109, 97, 108]⟩ : ByteArray) = ⟨#[109, 101, 109, 98, 101, 114, 115]⟩ by decide)
              have hq3 := ba_ne (show ¬ (⟨#[101, 120, 116, 114, 101, 109, 97, 108]⟩ : ByteArray) = ⟨#[116, 101, 97, 99, 104]⟩ by decide)
              have hq4 := ba_ne (show ¬ (⟨#[101, 120, 116, 114, 101, 109, 97, 108]⟩ : ByteArray) = ⟨#[114, 101, 99, 117, 114, 115, 105, 118, 101]⟩ by decide)
              have hq5 := ba_ne (show ¬ (⟨#[101, 120, 116, 114, 101, 109, 97, 108]⟩ : ByteArray) = ⟨#[115, 116, 97, 114]⟩ by decide)
              have hq6 := ba_ne (show ¬ (⟨#[101, 120, 116, 114, 101, 109, 97, 108]⟩ : ByteArray) = ⟨#[101, 117, 108, 101, 114]⟩ by decide)
              have hq7 := ba_ne (show ¬ (⟨#[101, 120, 116, 114, 101, 109, 97, 108]⟩ : ByteArray) = ⟨#[109, 97, 120, 105, 109, 117, 109]⟩ by decide)
              have hq8 := ba_eq (rfl : (⟨#[101, 120, 116, 114, 101, 109, 97, 108]⟩ : ByteArray) = ⟨#[101, 120, 116, 114, 101, 109, 97, 108]⟩)
              have hc := cls_of hv
              have hm := hc.pts
              have hlen := hc.length
              have HA := Lib.hid (show ansK m ns 8 = ynT (extB m (toI ns)) from rfl)
              have HF := Lib.hid (fun v w h => specExtremal m v ns w hc h)
              rw [show decide (((List.range (2 ^ m)).filter (sht ns)).length = ns.length) = extB m (toI ns) by rw [extB_in hv, shatN_in hv, toI_length]] at HF
              generalize extB m (toI ns) = z at *
              generalize toI ns = zs at *
              clear hv hc hm hlen
              have x0 := X.out.out.at0
              have x1 := X.out.out.at1
              go_wp2_with fail
              clear x0 x1
              refine (HF.out _ _ I.out.rd).mono ?_
              rintro e w8 ⟨rfl, hb8⟩
              replace B := Lib.hid (B.out.trans (hb8.mono (by have := B.out.size; omega)))
              clear hb8
              go_wp2_with fail
              refine (specYn z _).mono ?_
              rintro e w9 ⟨rfl, rfl⟩
              go_wp2_with fail
              go_ret
              rw [hAns, HA.out]
              exact ⟨rfl, hH ▸ B.out⟩
            · obtain rfl : ⟨#[99, 111, 109, 112, 108, 101, 109, 101, 110, 116]⟩ = wd := Option.some.inj hwi
              clear hwi hi
              have hq0 := ba_ne (show ¬ (⟨#[99, 111, 109, 112, 108, 101, 109, 101, 110, 116]⟩ : ByteArray) = ⟨#[118, 99]⟩ by decide)
              have hq1 := ba_ne (show ¬ (⟨#[99, 111, 109, 112, 108, 101, 109, 101, 110, 116]⟩ : ByteArray) = ⟨#[108, 105, 116, 116, 108, 101, 115, 116, 111, 110, 101]⟩ by decide)
              have hq2 := ba_ne (show ¬ (⟨#[99, 111, 109, 112, 108, 101, 109, 101, 110, 116]⟩ : ByteArray) = ⟨#[109, 101, 109, 98, 101, 114, 115]⟩ by decide)
              have hq3 := ba_ne (show ¬ (⟨#[99, 111, 109, 112, 108, 101, 109, 101, 110, 116]⟩ : ByteArray) = ⟨#[116, 101, 97, 99, 104]⟩ by decide)
              have hq4 := ba_ne (show ¬ (⟨#[99, 111, 109, 112, 108, 101, 109, 101, 110, 116]⟩ : ByteArray) = ⟨#[114, 101, 99, 117, 114, 115, 105, 118, 101]⟩ by decide)
              have hq5 := ba_ne (show ¬ (⟨#[99, 111, 109, 112, 108, 101, 109, 101, 110, 116]⟩ : ByteArray) = ⟨#[115, 116, 97, 114]⟩ by decide)
              have hq6 := ba_ne (show ¬ (⟨#[99, 111, 109, 112, 108, 101, 109, 101, 110, 116]⟩ : ByteArray) = ⟨#[101, 117, 108, 101, 114]⟩ by decide)
              have hq7 := ba_ne (show ¬ (⟨#[99, 111, 109, 112, 108, 101, 109, 101, 110, 116]⟩ : ByteArray) = ⟨#[109, 97, 120, 105, 109, 117, 109]⟩ by decide)
              have hq8 := ba_ne (show ¬ (⟨#[99, 111, 109, 112, 108, 101, 109, 101, 110, 116]⟩ : ByteArray) = ⟨#[101, 120, 116, 114, 101, 109, 97, 108]⟩ by decide)
              have hq9 := ba_eq (rfl : (⟨#[99, 111, 109, 112, 108, 101, 109, 101, 110, 116]⟩ : ByteArray) = ⟨#[99, 111, 109, 112, 108, 101, 109, 101, 110, 116]⟩)
              have hc := cls_of hv
              have hm := hc.pts
              have hlen := hc.length
              have hc9 := hc
              have HA := Lib.hid (show ansK m ns 9 = ctB m (toI (cmpl m ns)) from rfl)
              have HF := Lib.hid (fun v w h => specCompl m hm v ns w h)
              generalize toI ns = zs at *
              clear hv hc hm hlen
              have x0 := X.out.out.at0
              have x1 := X.out.out.at1
              go_wp2_with fail
              clear x0 x1
              refine (HF.out _ _ I.out.rd).mono ?_
              rintro e w8 ⟨a8, c8, rfl, hin8, hb8⟩
              have I8 := Lib.hid hin8
              clear hin8
              replace B := Lib.hid (B.out.trans (hb8.mono (by have := B.out.size; omega)))
              clear hb8
              have hc2 : Cls m (cmpl m ns) := cmpl_cls hc9
              have hv2 := cls_vldB hc2
              have hl2 := hc2.length
              have HCT := Lib.hid (fun v w h => specClassTextIn m v (cmpl m ns) w h (by have := hc2.pts; omega) (vld_lt hv2).2 (by omega))
              have HCB := Lib.hid (ctB_in hv2)
              clear hv2 hl2 hc2
              go_wp2_with fail
              refine (HCT.out _ _ I8.out.rd).mono ?_
              rintro e w9 ⟨rfl, hb8⟩
              replace B := Lib.hid (B.out.trans (hb8.mono (by have := B.out.size; omega)))
              clear hb8
              go_wp2_with fail
              go_ret
              rw [hAns, HA.out, HCB.out]
              exact ⟨rfl, hH ▸ B.out⟩
            · obtain rfl : ⟨#[115, 101, 116, 116, 108, 101]⟩ = wd := Option.some.inj hwi
              clear hwi hi
              have hq0 := ba_ne (show ¬ (⟨#[115, 101, 116, 116, 108, 101]⟩ : ByteArray) = ⟨#[118, 99]⟩ by decide)
              have hq1 := ba_ne (show ¬ (⟨#[115, 101, 116, 116, 108, 101]⟩ : ByteArray) = ⟨#[108, 105, 116, 116, 108, 101, 115, 116, 111, 110, 101]⟩ by decide)
              have hq2 := ba_ne (show ¬ (⟨#[115, 101, 116, 116, 108, 101]⟩ : ByteArray) = ⟨#[109, 101, 109, 98, 101, 114, 115]⟩ by decide)
              have hq3 := ba_ne (show ¬ (⟨#[115, 101, 116, 116, 108, 101]⟩ : ByteArray) = ⟨#[116, 101, 97, 99, 104]⟩ by decide)
              have hq4 := ba_ne (show ¬ (⟨#[115, 101, 116, 116, 108, 101]⟩ : ByteArray) = ⟨#[114, 101, 99, 117, 114, 115, 105, 118, 101]⟩ by decide)
              have hq5 := ba_ne (show ¬ (⟨#[115, 101, 116, 116, 108, 101]⟩ : ByteArray) = ⟨#[115, 116, 97, 114]⟩ by decide)
              have hq6 := ba_ne (show ¬ (⟨#[115, 101, 116, 116, 108, 101]⟩ : ByteArray) = ⟨#[101, 117, 108, 101, 114]⟩ by decide)
              have hq7 := ba_ne (show ¬ (⟨#[115, 101, 116, 116, 108, 101]⟩ : ByteArray) = ⟨#[109, 97, 120, 105, 109, 117, 109]⟩ by decide)
              have hq8 := ba_ne (show ¬ (⟨#[115, 101, 116, 116, 108, 101]⟩ : ByteArray) = ⟨#[101, 120, 116, 114, 101, 109, 97, 108]⟩ by decide)
              have hq9 := ba_ne (show ¬ (⟨#[115, 101, 116, 116, 108, 101]⟩ : ByteArray) = ⟨#[99, 111, 109, 112, 108, 101, 109, 101, 110, 116]⟩ by decide)
              have hc := cls_of hv
              have hm := hc.pts
              have hlen := hc.length
              have hc9 := hc
              have HA := Lib.hid (show ansK m ns 10 = ctB m (toI (swp m ns)) from rfl)
              have HF := Lib.hid (fun v w h => specSettled m v ns hc H w h)
              generalize toI ns = zs at *
              clear hv hc hm hlen
              have x0 := X.out.out.at0
              have x1 := X.out.out.at1
              go_wp2_with fail
              clear x0 x1
              refine (HF.out _ _ I.out).mono ?_
              rintro e w8 ⟨a8, c8, rfl, hin8, hb8⟩
              have I8 := Lib.hid hin8
              clear hin8
              replace B := Lib.hid (B.out.trans (hb8.mono (by have := B.out.size; omega)))
              clear hb8
              have hc2 : Cls m (swp m ns) := hc9.swTo m
              have hv2 := cls_vldB hc2
              have hl2 := hc2.length
              have HCT := Lib.hid (fun v w h => specClassTextIn m v (swp m ns) w h (by have := hc2.pts; omega) (vld_lt hv2).2 (by omega))
              have HCB := Lib.hid (ctB_in hv2)
              clear hv2 hl2 hc2
              go_wp2_with fail
              refine (HCT.out _ _ I8.out.rd).mono ?_
              rintro e w9 ⟨rfl, hb8⟩
              replace B := Lib.hid (B.out.trans (hb8.mono (by have := B.out.size; omega)))
              clear hb8
              go_wp2_with fail
              go_ret
              rw [hAns, HA.out, HCB.out]
              exact ⟨rfl, hH ▸ B.out⟩
  · have HA := Lib.hid (ansB_what hcd)
    have hne := hl2 hcd
    clear hl1 hl2 hcd
    generalize spL s 32 = L2 at *
    have h2d : decide (L2.length = 2) = false := decide_eq_false hne
    have h2I : ((L2.length : Int) == 2) = false := beq_eq_false_iff_ne.2 (by omega)
    go_enter Tryz.func12, Tryz.ntmps12
    go_wp2_with fail
    refine (HSp.out _).mono ?_
    rintro e w1 ⟨a1, c1, rfl, -, hb1⟩
    have B := Lib.hid hb1
    clear hb1 HSp hne
    go_wp2_with fail
    go_ret
    rw [HA.out]
    exact ⟨rfl, B.out⟩

end Go.Proofs.YtnmilfkocheaiaaGreatDoor

namespace Go.Proofs.YtnmilfkocheaiaaGreatDoor
open Go.RowKit

set_option maxHeartbeats 1600000 in
set_option maxRecDepth 100000 in
theorem specRunDesk (v : Value) (L : List ByteArray) (w : World) (h : RdS w v L) (hsz : ∀ s ∈ L, s.size ≤ 1048576) :
    Calls Tryz.prog 6 #[v] w fun e w' => e = .returned (.string (dskB L)) ∧ Below w.heap.size w w' := by
  obtain ⟨a, b, off, cap, rfl, h1, -, h4⟩ := h
  by_cases hl : L.length ≤ 20
  · have H1 := Lib.hid h1
    have H4 := Lib.hid h4
    have HA := Lib.hid (fun s (hs : s ∈ L) w => specAnswer s (hsz s hs) w)
    have HE := Lib.hid (show dskB L = dskTo L L.length by rw [dskB, if_pos hl])
    have hlI : ¬ (20 : Int) < (L.length : Int) := by omega
    have H0 := Lib.hid (show (⟨#[]⟩ : ByteArray) = dskTo L 0 from rfl)
    clear h1 h4 hsz
    go_enter Tryz.func6, Tryz.ntmps6
    go_wp2_with fail
    generalize hH : w.heap.size = H at *
    go_loopw [3, 4] (fun o i wr => ∃ k : Nat, k ≤ L.length ∧ i = .int .i64 k ∧ o = .string (dskTo L k) ∧ Below H w wr) (fun _ i _ => L.length - (intOf i).toNat)
    case atStart => exact ⟨0, Nat.zero_le _, rfl, by rw [← H0.out], hH ▸ Below.refl _ _⟩
    case round =>
      obtain ⟨k, hk, rfl, rfl, hbl⟩ := hrel
      have B := Lib.hid hbl
      have hHr : H ≤ wr.heap.size := hH ▸ hbl.size
      clear hbl
      by_cases hlt : k < L.length
      · obtain ⟨rfl, hbb⟩ := H1.out (by omega)
        have hki : (k : Int) < (L.length : Int) := by omega
        have hc := (B.out.cell (p := ⟨b, off + k, none⟩) hbb).trans (H4.out k hlt)
        have hS := Lib.hid (show dskTo L (k + 1) = dskTo L k ++ ansB (L.getD k ⟨#[]⟩) ++ ⟨#[10]⟩ from rfl)
        have hz1 := dskTo_size L k
        have hz2 := ansB_size (L.getD k ⟨#[]⟩)
        have HAx := Lib.hid (HA.out (L.getD k ⟨#[]⟩) (by rw [List.getD_eq_getElem?_getD, List.getElem?_eq_getElem hlt]; exact List.getElem_mem hlt))
        generalize ansB (L.getD k ⟨#[]⟩) = A at *
        generalize L.getD k ⟨#[]⟩ = s at *
        generalize dskTo L k = D at *
        have hno1 : ¬ 9223372036854775807 < D.size + A.size := by omega
        have hno2 : ¬ 9223372036854775807 < D.size + A.size + 1 := by omega
        clear hz1 hz2
        go_wp2_with fail
        refine (HAx.out _).mono ?_
        rintro e w1 ⟨rfl, hb1⟩
        replace B := Lib.hid (B.out.trans (hb1.mono hHr))
        clear hb1 hc
        go_wp2_with fail
        go_roundw
        case rel => exact ⟨k + 1, by omega, by go_num, by rw [hS.out], B.out⟩
        case measure => simp [intOf]; omega
      · obtain rfl : k = L.length := by omega
        go_wp2_with fail
        go_ret
        rw [HE.out]
        exact ⟨rfl, hH ▸ B.out⟩
  · have HE := Lib.hid (show dskB L = ⟨#[]⟩ by rw [dskB, if_neg hl])
    have hlI : (20 : Int) < (L.length : Int) := by omega
    clear h1 h4 hsz
    go_enter Tryz.func6, Tryz.ntmps6
    go_wp2_with fail
    go_ret
    rw [HE.out]
    exact ⟨rfl, Below.refl _ _⟩

set_option maxHeartbeats 1600000 in
set_option maxRecDepth 100000 in
theorem lawsToStringS (v : Value) (L : List ByteArray) (w : World) (h : RdS w v L) (hl : L.length ≤ 1048576) :
    Calls Tryz.prog 7 #[v] w fun e w' => (∃ g, e = .returned (.slice (some ⟨g, 0, none⟩) L.length L.length) ∧ Strs w.heap.size w' (.slice (some ⟨g, 0, none⟩) L.length L.length) L) ∧ Below w.heap.size w w' := by
  obtain ⟨a, b, off, cap, rfl, h1, -, h4⟩ := h
  obtain ⟨i0, hi, hi0, hi1, hi2⟩ := info_parts infoStr
  have Hi2 := Lib.hid hi2
  clear hi2
  have H1 := Lib.hid h1
  have H4 := Lib.hid h4
  clear h1 h4
  generalize hK : L.length = K at *
  have HK := Lib.hid hK
  clear hK
  go_enter Tryz.func7, Tryz.ntmps7
  go_wp2_with (at_make; refine wpList_make_full _ rfl _ _ 22 rfl w.heap.size 9 i0 (.string ⟨#[]⟩) 1 Tryz.underlying22 hi hi0 hi1 _ _ _ _ K rfl rfl rfl rfl (by rw [Hi2.out]; omega) (by unfold maxLen; omega) (Nat.le_refl _) ?_; intro w2 hown hgrow; have HO := Lib.hid (Strs.of_made hown); have B2 := Lib.hid ((Below.refl _ _).grown hgrow (Nat.le_refl _) (fun k hk => by simp at hk)); clear hown hgrow)
  clear hi hi0 hi1
  generalize hG : w.heap.size = G at *
  go_loopw [4] (fun i wr => ∃ (k : Nat) (ss : List ByteArray), k ≤ K ∧ i = .int .i64 k ∧ K = ss.length ∧ Hid (∀ j, j < k → ss[j]? = some (L.getD j ⟨#[]⟩)) ∧ Strs G wr (.slice (some ⟨G, 0, none⟩) K K) ss ∧ Below G w wr) (fun i _ => K - (intOf i).toNat)
  case atStart => exact ⟨0, _, Nat.zero_le _, rfl, by simp, Lib.hid (fun j hj => by omega), HO.out, B2.out⟩
  case round =>
    obtain ⟨k, ss, hk, rfl, hsl, HJ, hstr, hbl⟩ := hrel
    have HSL := Lib.hid hsl
    have HST := Lib.hid hstr
    have B := Lib.hid hbl
    clear hsl hstr hbl
    by_cases hlt : k < K
    · obtain ⟨rfl, hbb⟩ := H1.out (by omega)
      have hki : (k : Int) < (K : Int) := by omega
      have hc := (B.out.cell (p := ⟨b, off + k, none⟩) (by rw [← hG] at *; exact hbb)).trans (H4.out k hlt)
      obtain ⟨x, hxe⟩ : ∃ x, x = L.getD k ⟨#[]⟩ := ⟨_, rfl⟩
      have HXE := Lib.hid hxe
      rw [← hxe] at hc
      clear hxe
      have hcs := HST.out.cellAt k (ss.getD k ⟨#[]⟩) (by rw [List.getD_eq_getElem?_getD, List.getElem?_eq_getElem (by have := HSL.out; omega)]; rfl)
      have hs1 := hcs.1
      have hs2 := hcs.2.1
      clear hcs
      generalize ss.getD k ⟨#[]⟩ = old at hs1
      go_wp2_with fail
      go_roundw
      case rel =>
        refine ⟨k + 1, ss.set k x, by omega, by go_num, by rw [List.length_set]; exact HSL.out, Lib.hid (fun j hj => ?_), HST.out.store HSL.out k x, B.out.setCell (show G ≤ G from Nat.le_refl _) _⟩
        rw [List.getElem?_set]
        by_cases hjk : k = j
        · subst hjk
          rw [if_pos rfl, if_pos (by have := HSL.out; omega), ← HXE.out]
        · rw [if_neg hjk]
          exact HJ.out j (by omega)
      case measure => simp [intOf]; omega
    · obtain rfl : k = K := by omega
      have hss : ss = L := by
        apply List.ext_getElem?
        intro j
        by_cases hj : j < k
        · rw [HJ.out j hj, List.getD_eq_getElem?_getD, List.getElem?_eq_getElem (by have := HK.out; omega)]
          rfl
        · rw [List.getElem?_eq_none (by have := HSL.out; omega), List.getElem?_eq_none (by have := HK.out; omega)]
      have HSS := Lib.hid hss
      clear hss
      go_wp2_with fail
      go_ret
      refine ⟨⟨G, rfl, ?_⟩, hG ▸ B.out⟩
      rw [← HSS.out, hG]
      exact HST.out

theorem Strs.rds {B g : Nat} {w : World} {L : List ByteArray} (h : Strs B w (.slice (some ⟨g, 0, none⟩) L.length L.length) L) (hs : L.length ≤ maxLen ∧ ∀ s ∈ L, s.size ≤ maxLen) : RdS w (.slice (some ⟨g, 0, none⟩) L.length L.length) L := by
  have h1 : ∀ k, k < L.length → L[k]? = some (L.getD k ⟨#[]⟩) := fun k hk => by rw [List.getD_eq_getElem?_getD, List.getElem?_eq_getElem hk]; rfl
  exact ⟨some ⟨g, 0, none⟩, g, 0, L.length, rfl, fun h0 => ⟨rfl, (h.cellAt 0 _ (h1 0 h0)).2.2⟩, hs, fun j hj => by rw [Nat.zero_add]; exact (h.cellAt j _ (h1 j hj)).1⟩

set_option maxHeartbeats 1600000 in
set_option maxRecDepth 100000 in
theorem lawsEqStringS (u v : Value) (L : List ByteArray) (w : World) (hu : RdS w u L) (hv : RdS w v L) :
    Calls Tryz.prog 9 #[u, v] w fun e w' => e = .returned (.bool true) ∧ Below w.heap.size w w' := by
  obtain ⟨a, b, off, cap, rfl, h1, ⟨hm, -⟩, h4⟩ := hu
  unfold maxLen at hm
  obtain ⟨a2, b2, off2, cap2, rfl, h12, -, h42⟩ := hv
  have H1 := Lib.hid h1
  have H4 := Lib.hid h4
  have H12 := Lib.hid h12
  have H42 := Lib.hid h42
  clear h1 h4 h12 h42
  go_enter Tryz.func9, Tryz.ntmps9
  go_wp2_with fail
  go_loopw [5] (fun i wr => ∃ k : Nat, k ≤ L.length ∧ i = .int .i64 k ∧ Below w.heap.size w wr) (fun i _ => L.length - (intOf i).toNat)
  case atStart => exact ⟨0, Nat.zero_le _, rfl, Below.refl _ _⟩
  case round =>
    obtain ⟨k, hk, rfl, hbl⟩ := hrel
    have B := Lib.hid hbl
    clear hbl
    by_cases hlt : k < L.length
    · obtain ⟨rfl, hbb⟩ := H1.out (by omega)
      obtain ⟨rfl, hbb2⟩ := H12.out (by omega)
      have hki : (k : Int) < (L.length : Int) := by omega
      have hc := (B.out.cell (p := ⟨b, off + k, none⟩) hbb).trans (H4.out k hlt)
      have hc2 := (B.out.cell (p := ⟨b2, off2 + k, none⟩) hbb2).trans (H42.out k hlt)
      generalize L.getD k ⟨#[]⟩ = x at *
      have hq := ba_eq (rfl : x = x)
      go_wp2_with fail
      go_region
      all_goals
        go_wp2_with fail
        go_roundw
        case rel => exact ⟨k + 1, by omega, by go_num, B.out.drew⟩
        case measure => simp [intOf]; omega
    · obtain rfl : k = L.length := by omega
      go_wp2_with fail
      go_ret
      exact ⟨rfl, B.out⟩

set_option maxHeartbeats 1600000 in
set_option maxRecDepth 100000 in
theorem lawsSzStringS (v : Value) (L : List ByteArray) (w : World) (h : RdS w v L) :
    Calls Tryz.prog 5 #[v, .int .i64 1048576] w fun e w' => (∃ z : Int, e = .returned (.int .i64 z) ∧ (0 ≤ z → L.length ≤ 1048576 ∧ ∀ s ∈ L, s.size ≤ 1048576)) ∧ w' = w := by
  obtain ⟨a, b, off, cap, rfl, h1, ⟨hm, hms⟩, h4⟩ := h
  unfold maxLen at hm hms
  have hw : IntKind.i64.wrap (1048576 - (L.length : Int)) = 1048576 - (L.length : Int) := by rw [IntKind.wrap_i64]; omega
  have H1 := Lib.hid h1
  have H4 := Lib.hid h4
  have HM := Lib.hid hms
  clear h1 h4 hms
  by_cases hneg : 1048576 - (L.length : Int) < 0
  · go_enter Tryz.func5, Tryz.ntmps5
    go_wp2_with fail
    go_ret
    exact ⟨⟨_, rfl, fun h => absurd h (by omega)⟩, rfl⟩
  · go_enter Tryz.func5, Tryz.ntmps5
    go_wp2_with fail
    go_loop [1, 5] (fun z i => ∃ (k : Nat) (y : Int), k ≤ L.length ∧ i = .int .i64 k ∧ z = .int .i64 y ∧ 0 ≤ y ∧ y ≤ 1048576 ∧ Hid (∀ j, j < k → (L.getD j ⟨#[]⟩).size ≤ 1048576)) (fun _ i => L.length - (intOf i).toNat)
    case atStart => exact ⟨0, _, Nat.zero_le _, rfl, rfl, by omega, by omega, Lib.hid (fun j hj => by omega)⟩
    case round =>
      obtain ⟨k, y, hk, rfl, rfl, hy0, hy1, HJ⟩ := hrel
      by_cases hlt : k < L.length
      · obtain ⟨rfl, hbb⟩ := H1.out (by omega)
        have hki : (k : Int) < (L.length : Int) := by omega
        have hc := H4.out k hlt
        have hsx := HM.out (L.getD k ⟨#[]⟩) (by rw [List.getD_eq_getElem?_getD, List.getElem?_eq_getElem hlt]; exact List.getElem_mem hlt)
        have HX := Lib.hid (fun (h : (L.getD k ⟨#[]⟩).size ≤ 1048576) (j : Nat) (hj : j < k + 1) => show (L.getD j ⟨#[]⟩).size ≤ 1048576 from by
          by_cases hjk : j = k
          · rw [hjk]; exact h
          · exact HJ.out j (by omega))
        generalize L.getD k ⟨#[]⟩ = x at *
        have hw2 : IntKind.i64.wrap (y - (x.size : Int)) = y - (x.size : Int) := by rw [IntKind.wrap_i64]; omega
        by_cases hn2 : y - (x.size : Int) < 0
        · go_wp2_with fail
          go_ret
          exact ⟨⟨_, rfl, fun h => absurd h (by omega)⟩, rfl⟩
        · go_wp2_with fail
          go_round
          case rel => exact ⟨k + 1, _, by omega, by go_num, rfl, by omega, by omega, Lib.hid (HX.out (by omega))⟩
          case measure => simp [intOf]; omega
      · obtain rfl : k = L.length := by omega
        go_wp2_with fail
        go_ret
        refine ⟨⟨_, rfl, fun _ => ⟨by omega, fun s hs => ?_⟩⟩, rfl⟩
        obtain ⟨j, hj, rfl⟩ := List.getElem_of_mem hs
        have := HJ.out j hj
        rwa [List.getD_eq_getElem?_getD, List.getElem?_eq_getElem hj] at this

set_option maxHeartbeats 1600000 in
set_option maxRecDepth 100000 in
theorem walkExactRunDesk (x y : Addr) (v : Value) (L : List ByteArray) (w : World) (h : RdS w v L) (hd : Dq x y w) :
    Calls Tryz.prog 3 #[v] w fun e w' => e = .returned (.bool true) ∧ Below w.heap.size w w' := by
  have HD := Lib.hid (fun w' (hb : Below w.heap.size w w') => hd.below hb (Nat.le_refl _))
  have H := Lib.hid h
  have hml : L.length ≤ maxLen ∧ ∀ s ∈ L, s.size ≤ maxLen := by obtain ⟨_, _, _, _, _, _, h3, _⟩ := h; exact h3
  have HM := Lib.hid hml
  have HZ := Lib.hid (lawsSzStringS v L w h)
  clear h hd hml
  obtain ⟨a, b, off, cap, hve, -⟩ := H.out
  subst hve
  go_enter Tryz.func3, Tryz.ntmps3
  go_wp2_with fail
  refine HZ.out.mono ?_
  rintro e w1 ⟨⟨z, rfl, hz⟩, rfl⟩
  clear HZ
  by_cases hneg : z < 0
  · go_wp2_with fail
    go_ret
    exact ⟨rfl, Below.refl _ _⟩
  · obtain ⟨hl, hsz⟩ := hz (by omega)
    have HTo := Lib.hid (fun w h => lawsToStringS (.slice a L.length cap) L w h hl)
    have HI := Lib.hid (fun v w h hd => implRunDesk x y v L w h hsz hd)
    have HS := Lib.hid (fun v w h => specRunDesk v L w h hsz)
    have HE := Lib.hid (fun u v w hu hv => lawsEqStringS u v L w hu hv)
    clear hl hsz hz
    generalize dskB L = D at *
    go_wp2_with fail
    refine (HTo.out _ H.out).mono ?_
    rintro e w2 ⟨⟨g2, rfl, hst2⟩, hb2⟩
    have B := Lib.hid hb2
    have R2 := Lib.hid (hst2.rds HM.out)
    clear hst2 hb2
    go_wp2_with fail
    refine (HS.out _ _ R2.out).mono ?_
    rintro e w3 ⟨rfl, hb3⟩
    replace B := Lib.hid (B.out.trans (hb3.mono B.out.size))
    clear hb3 R2
    go_wp2_with fail
    refine (HTo.out _ (H.out.below B.out (Nat.le_refl _))).mono ?_
    rintro e w4 ⟨⟨g4, rfl, hst4⟩, hb4⟩
    replace B := Lib.hid (B.out.trans (hb4.mono B.out.size))
    have R4 := Lib.hid (hst4.rds HM.out)
    clear hst4 hb4
    go_wp2_with fail
    refine (HI.out _ _ R4.out (HD.out _ B.out)).mono ?_
    rintro e w5 ⟨rfl, hb5⟩
    replace B := Lib.hid (B.out.trans (hb5.mono B.out.size))
    replace R4 := Lib.hid (R4.out.below hb5 (Nat.le_refl _))
    clear hb5
    go_wp2_with fail
    refine (HTo.out _ (H.out.below B.out (Nat.le_refl _))).mono ?_
    rintro e w6 ⟨⟨g6, rfl, hst6⟩, hb6⟩
    replace B := Lib.hid (B.out.trans (hb6.mono B.out.size))
    replace R4 := Lib.hid (R4.out.below hb6 (Nat.le_refl _))
    have R6 := Lib.hid (hst6.rds HM.out)
    clear hst6 hb6
    go_wp2_with fail
    refine (HE.out _ _ _ R4.out R6.out).mono ?_
    rintro e w7 ⟨rfl, hb7⟩
    replace B := Lib.hid (B.out.trans (hb7.mono B.out.size))
    clear hb7
    go_wp2_with fail
    go_ret
    exact ⟨rfl, B.out⟩

end Go.Proofs.YtnmilfkocheaiaaGreatDoor

namespace Go.Proofs.YtnmilfkocheaiaaGreatDoor
open Go.ChangeShapes Go.WideShapes Go.ChangeAt Go.RowKit Go.Joins

theorem own : ownKnob Tryz.prog.godebug = none := by kernel_rfl
theorem laidOut : laidOutB Tryz.prog = true := by kernel_rfl
theorem star7 : "*" ++ "errors.errorString" = "*errors.errorString" := by decide
theorem row7 (u : TypeId) (h : Tryz.prog.typeName? 3 u = some "*errors.errorString") : u = 183 :=
  typeName_ptr_named (nm := "errors.errorString") (by rw [star7]; kernel_rfl) (by kernel_rfl) (by decide) u (by rw [star7]; exact h)
abbrev laid7 : List (String × DataW Unit) := [("math/bits.deBruijn32tab", Rows.laid_math_bits_deBruijn32tab), ("math/bits.deBruijn64tab", Rows.laid_math_bits_deBruijn64tab), ("internal/strconv.uint64pow10", Rows.laid_internal_strconv_uint64pow10), ("unicode/utf8.acceptRanges", Rows.laid_unicode_utf8_acceptRanges), ("strconv.ErrRange", Rows.laid_strconv_ErrRange), ("strconv.ErrSyntax", Rows.laid_strconv_ErrSyntax), ("unicode/utf8.first", Rows.laid_unicode_utf8_first)]
theorem lbs_of {W : World} (hL : laidMetH Tryz.prog laid7 W) (hS : W.ShapedOpen Tryz.prog) : Lbs W := by
  have h1 : laidMet Tryz.prog laid7 W := (laidMetH_iff.1 hL).1
  have h2 := h1.tail.tail.tail.tail
  obtain ⟨a1, s1, hv1, -, -, -⟩ := laid_sentinel h2 (g := 7) (ti := 37) (tp := 183) (te := 185) (ts := 9) (by kernel_rfl) (by kernel_rfl) Tryz.underlying37 row7 Tryz.underlying183 Tryz.underlying185 rfl rfl Tryz.underlying9 (by kernel_rfl) (by kernel_rfl)
  obtain ⟨a2, s2, hv2, -, -, -⟩ := laid_sentinel h2.tail (g := 6) (ti := 37) (tp := 183) (te := 185) (ts := 9) (by kernel_rfl) (by kernel_rfl) Tryz.underlying37 row7 Tryz.underlying183 Tryz.underlying185 rfl rfl Tryz.underlying9 (by kernel_rfl) (by kernel_rfl)
  exact ⟨⟨⟨_, _, hv2⟩, ⟨_, _, hv1⟩⟩, shCut.s1_3 W hS⟩

theorem start7 (os : Os) (args : Array Value) : laidMetH Tryz.prog laid7 ((World.laidAll Tryz.prog os laid7).forCall (fun _ _ => 0) ⟨#[], args, []⟩).memory := by
  rw [MakeChecks.laidMetH_plain _ _ _ (by kernel_rfl)]
  exact laidMet_laidAll _ (by kernel_rfl) (by kernel_rfl)

/-- the wrap of a row that lists variables, for a contract that asks for the world's shape, too -/
theorem handed_shaped {H : Type} {enc : TypeId × Value → H} {C : Checked} {os : Os} {f : FuncId} {fn : Func} {s : ChangeSpec} {conds : List PathCond} {apart fresh handsOn again : Bool} {X : World → Array Value → Prop}
    (hX : ∀ (w w' : World) (args : Array Value), w.heap = w'.heap → X w args → X w' args)
    (own : ownKnob C.prog.godebug = none) (started : os.Started) (noInit : C.prog.inits.idxOf? f = none) (hfn : C.prog.funcs[f]? = some fn)
    (witness : ∃ (w : World) (tape : Tape) (i : Input), w.os = os ∧ (w.forCall tape i).Shaped C.prog ∧ i.vars = [] ∧ Input.okWide C.prog (w.forCall tape i) .any w.heap.size f i ∧
      ((s.pre enc C.prog fn conds apart (w.forCall tape i).memory i.args ∧ X (w.forCall tape i).memory i.args) ∧ sizedMet enc C.prog fn (OpenSpec.ofChange s) apart (w.forCall tape i).memory i.args) ∧ ({} : Assume).holds C.prog (lone (Frame.enter C.prog f i.args .normal) [] (w.forCall tape i)))
    (contract : ∀ (W : World) (base : Nat) (args : Array Value) (ds gs : List (DataW H)) (before : List MemPlace),
      (∀ (j : Nat) t v, fn.params[j]? = some t → args[j]? = some v → Value.okWide C.prog W .any base t v) →
      DataW.Whole enc C.prog fn.params.toList s.vars apart W args.toList ds gs before →
      X W args → W.ShapedOpen C.prog →
      Calls C.prog f args W fun e W' => ∃ v, e = .returned v ∧ s.post enc C.prog fn apart fresh handsOn again W args v W') :
    ReturnsInHanded {} C os f .any (fun w args => (s.pre enc C.prog fn conds apart w args ∧ X w args) ∧ sizedMet enc C.prog fn (OpenSpec.ofChange s) apart w args) (s.post enc C.prog fn apart fresh handsOn again) := by
  refine returnsInHanded_of_calls own started noInit witness ?_
  intro w tape i _ hsh _ hok hpre _
  obtain ⟨_, _, _, fn', hfn', _, _, _, _, hval⟩ := hok
  obtain rfl : fn' = fn := Option.some.inj (hfn'.symm.trans hfn)
  obtain ⟨⟨⟨ds, gs, before, hw, _⟩, hx⟩, _⟩ := hpre
  refine (contract (w.forCall tape i) w.heap.size i.args ds gs before hval (DataW.Whole.of_heap (w' := w.forCall tape i) (by rfl) hw) (hX _ _ _ (by rfl) hx) hsh).mono fun e W' ⟨v, he, hp⟩ => ?_
  subst he
  exact ChangeSpec.post_blind hp

end Go.Proofs.YtnmilfkocheaiaaGreatDoor

namespace Go.Proofs.YtnmilfkocheaiaaGreatDoor
open Go.ChangeShapes Go.WideShapes Go.ChangeAt Go.RowKit Go.Joins

abbrev laid11 : List (String × DataW Unit) := [("math/bits.deBruijn32tab", Rows.laid_math_bits_deBruijn32tab), ("math/bits.deBruijn64tab", Rows.laid_math_bits_deBruijn64tab), ("internal/strconv.uint64pow10", Rows.laid_internal_strconv_uint64pow10), ("unicode/utf8.acceptRanges", Rows.laid_unicode_utf8_acceptRanges), ("strconv.ErrRange", Rows.laid_strconv_ErrRange), ("strconv.ErrSyntax", Rows.laid_strconv_ErrSyntax), ("loop.example/shatteredsets/impl.setsWith", Rows.laid_loop_example_shatteredsets_impl_setsWith), ("loop.example/shatteredsets/impl.lineWords", Rows.laid_loop_example_shatteredsets_impl_lineWords), ("loop.example/shatteredsets/impl.errWrong", Rows.laid_loop_example_shatteredsets_impl_errWrong), ("loop.example/shatteredsets/impl.errWhat", Rows.laid_loop_example_shatteredsets_impl_errWhat), ("unicode/utf8.first", Rows.laid_unicode_utf8_first)]
theorem start11 (os : Os) (args : Array Value) : laidMetH Tryz.prog laid11 ((World.laidAll Tryz.prog os laid11).forCall (fun _ _ => 0) ⟨#[], args, []⟩).memory := by
  rw [MakeChecks.laidMetH_plain _ _ _ (by kernel_rfl)]
  exact laidMet_laidAll _ (by kernel_rfl) (by kernel_rfl)

/-- an array of strings that reads as a table holds the table's strings -/
theorem cells_of_strs {H : Type} {enc : TypeId × Value → H} {P : Program} {w : World} {base : Nat} {sp : Nat → Bool} {held : Bool} {fuel : Nat} {t e : TypeId} {n : Nat} {cs : List Value} {ss : List ByteArray} {p : List MemPlace}
    (ht : P.underlying t = some (.array n e)) (he : P.underlying e = some .string) (hce : P.cellsOf e = 1) (hct : P.cellsOf t = n)
    (h : DataW.trod enc P w base sp held fuel t cs = some (.agg (ss.map fun s => .lit (.string s.data.toList)), p)) : cs = ss.map Value.string := by
  cases fuel with
  | zero => simp [DataW.trod] at h
  | succ fuel =>
    simp only [DataW.trod, ht, hce, hct, Nat.mul_one] at h
    split at h
    · rename_i hl
      obtain ⟨xs, hm, hx⟩ := Option.map_eq_some_iff.1 h
      have hxs : xs.map (·.1) = ss.map fun s => (DataW.lit (.string s.data.toList) : DataW H) := by
        have := congrArg Prod.fst hx
        simpa using this
      have hxl : xs.length = n := by simpa using Lib.mapM_length hm
      have hsl : ss.length = n := by
        have := congrArg List.length hxs
        simp at this
        omega
      apply List.ext_getElem?
      intro i
      by_cases hi : i < n
      · obtain ⟨b, hb, hf⟩ := Lib.mapM_at hm i i (by simp [hi])
        obtain ⟨s, hc, rfl, _⟩ := DataW.trod_string he hf
        have h1 : cs[i]? = some (.string s) := by
          have := congrArg (·[0]?) hc
          simpa [List.getElem?_take, List.getElem?_drop] using this
        have h2 : (xs.map (·.1))[i]? = some (DataW.lit (.string s.data.toList) : DataW H) := by simp [hb]
        rw [hxs] at h2
        simp only [List.getElem?_map, Option.map_eq_some_iff, DataW.lit.injEq, Lit.string.injEq] at h2
        obtain ⟨s', hs', h3⟩ := h2
        rw [h1, List.getElem?_map, hs', ba_ext h3]
        rfl
      · rw [List.getElem?_eq_none (by omega), List.getElem?_eq_none (by simp; omega)]
    · cases h
theorem cellsW : Tryz.prog.cellsOf 100 = 11 := by kernel_rfl
theorem cellsS : Tryz.prog.cellsOf 9 = 1 := by kernel_rfl
theorem cellsF : Tryz.prog.cellsOf 116 = 1 := by kernel_rfl
theorem cellsT5 : Tryz.prog.cellsOf 174 = 5 := by kernel_rfl
theorem lw_of {W : World} {rest : List (String × DataW Unit)} (h : laidMet Tryz.prog (("loop.example/shatteredsets/impl.lineWords", Rows.laid_loop_example_shatteredsets_impl_lineWords) :: rest) W) : LW W := by
  obtain ⟨ps, ⟨g, t, cs, fuel, p, q, hg, ht, hvar, hd, _, _⟩, _⟩ := h
  obtain rfl := Option.some.inj ((show Tryz.prog.globalNamed "loop.example/shatteredsets/impl.lineWords" = some 2 by kernel_rfl).symm.trans hg)
  obtain rfl := Option.some.inj ((show (Tryz.prog.globals[2]?).map (·.type) = some 100 by kernel_rfl).symm.trans ht)
  have hcs := cells_of_strs (ss := wordsL) Tryz.underlying100 Tryz.underlying9 cellsS cellsW hd
  intro j hj
  rw [World.var?_cell hg hvar j, ← Array.getElem?_toList, hcs, List.getElem?_map, List.getD_eq_getElem?_getD, List.getElem?_eq_getElem (show j < wordsL.length from hj)]
  rfl
theorem dq_of {W : World} (hL : laidMetH Tryz.prog laid11 W) (hS : W.ShapedOpen Tryz.prog) : ∃ a b, Dq a b W := by
  have h1 : laidMet Tryz.prog laid11 W := (laidMetH_iff.1 hL).1
  have h3 := h1.tail.tail
  have h5 := h3.tail.tail
  have h7 := h5.tail.tail
  have h9 := h7.tail.tail
  obtain ⟨a1, s1, hv1, -, -, -⟩ := laid_sentinel h5 (g := 7) (ti := 37) (tp := 183) (te := 185) (ts := 9) (by kernel_rfl) (by kernel_rfl) Tryz.underlying37 row7 Tryz.underlying183 Tryz.underlying185 rfl rfl Tryz.underlying9 (by kernel_rfl) (by kernel_rfl)
  obtain ⟨a2, s2, hv2, -, -, -⟩ := laid_sentinel h5.tail (g := 6) (ti := 37) (tp := 183) (te := 185) (ts := 9) (by kernel_rfl) (by kernel_rfl) Tryz.underlying37 row7 Tryz.underlying183 Tryz.underlying185 rfl rfl Tryz.underlying9 (by kernel_rfl) (by kernel_rfl)
  obtain ⟨a, b, sa, sb, ca, cb, ta, tb, hva, hvb, -, -, -, -, -, -, hne, hba, hbb⟩ := laid_sentinels2 h9 (g0 := 0) (g1 := 1) (ti := 37) (tp := 183) (te := 185) (ts := 9) (by kernel_rfl) (by kernel_rfl) (by kernel_rfl) (by kernel_rfl) Tryz.underlying37 row7 Tryz.underlying183 Tryz.underlying185 rfl rfl Tryz.underlying9 (by kernel_rfl) (by kernel_rfl)
  have hT : Lib.TabIs Tryz.prog W "loop.example/shatteredsets/impl.setsWith" .u32 swZ := Lib.tabIs_of_head (g := 5) (by kernel_rfl) (by kernel_rfl) Tryz.underlying174 Tryz.underlying116 cellsF cellsT5 h7
  have hg5 : Tryz.prog.globalNamed "loop.example/shatteredsets/impl.setsWith" = some 5 := by kernel_rfl
  have hP : Tb W := Lib.tabIs_of_head (g := 4) (by kernel_rfl) (by kernel_rfl) Tryz.underlying172 Tryz.underlying147 (by kernel_rfl) (by kernel_rfl) h3
  have hga : W.cell? ⟨0, 0, none⟩ = some (.iface 183 (.pointer (some a))) := by simpa using World.var?_cell (show Tryz.prog.globalNamed "loop.example/shatteredsets/impl.errWrong" = some 0 by kernel_rfl) hva 0
  have hgb : W.cell? ⟨1, 0, none⟩ = some (.iface 183 (.pointer (some b))) := by simpa using World.var?_cell (show Tryz.prog.globalNamed "loop.example/shatteredsets/impl.errWhat" = some 1 by kernel_rfl) hvb 0
  exact ⟨a, b, ⟨⟨World.block_lt_of_cell? W _ (hT.cell hg5 0 (by decide)), fun x hx => hT.cell hg5 x hx⟩, ⟨⟨⟨_, _, hv2⟩, ⟨_, _, hv1⟩⟩, shCut.s1_3 W hS⟩, lw_of h7.tail, hga, hgb, hne, ⟨ca, ta, hba⟩, ⟨cb, tb, hbb⟩⟩, hP⟩
set_option maxRecDepth 100000 in
theorem open_lines {H : Type} {enc : TypeId × Value → H} {W : World} {base : Nat} {v0 : Value} {d0 : DataW H} {p0 : List MemPlace} (hv : Value.okWide Tryz.prog W .any base 22 v0)
    (h0 : DataW.Trod enc Tryz.prog W 0 (fun _ => true) true 22 v0 d0 p0) (hlt : ∀ x ∈ p0, x.block < W.heap.size) : ∃ L, RdS W v0 L := by
  obtain ⟨a, len, cap, rfl⟩ := okWide_slice Tryz.underlying22 hv
  obtain ⟨fuel, hf⟩ := h0
  rcases open_strings Tryz.underlying22 Tryz.underlying9 cellsS hf with ⟨hcs, hx⟩ | ⟨a', len', cap', ss, hcs, _, hl, hm, hz, hx, hcell, hwz⟩
  · simp only [Value.cells, List.cons.injEq, Value.slice.injEq, and_true] at hcs
    obtain ⟨rfl, rfl, rfl⟩ := hcs
    exact ⟨[], none, 0, 0, 0, rfl, fun h => by simp at h, ⟨Nat.zero_le _, fun s hs => by simp at hs⟩, fun j hj => by simp at hj⟩
  · simp only [Value.cells, List.cons.injEq, Value.slice.injEq, and_true] at hcs
    obtain ⟨rfl, rfl, rfl⟩ := hcs
    simp only [if_true] at hz
    simp only [Prod.mk.injEq] at hx
    obtain ⟨_, rfl⟩ := hx
    obtain ⟨b, off, spot⟩ := a'
    have htk : (ss.take len).length = len := by rw [List.length_take]; omega
    refine ⟨ss.take len, some ⟨b, off, spot⟩, b, off, cap, by rw [htk], fun h => ?_, ⟨by omega, fun s hs => hwz s (List.mem_of_mem_take hs)⟩, fun j hj => ?_⟩
    · rw [htk] at h
      have hspot : spot = none := by simpa [Addr.add] using World.cell?_spot (hcell 0 (by omega))
      subst hspot
      exact ⟨rfl, hlt (.cell b off) (MemPlace.mem_row.2 ⟨0, by omega, by simp⟩)⟩
    · rw [htk] at hj
      have hspot : spot = none := by simpa [Addr.add] using World.cell?_spot (hcell 0 (by omega))
      subst hspot
      have := hcell j (by omega)
      rw [add_plain] at this
      rw [this, List.getD_eq_getElem?_getD, List.getD_eq_getElem?_getD, List.getElem?_take_of_lt hj]
      rfl

end Go.Proofs.YtnmilfkocheaiaaGreatDoor

namespace Go.Proofs.YtnmilfkocheaiaaGreatDoor
open Go.RowKit

set_option maxHeartbeats 3200000 in
set_option maxRecDepth 100000 in
theorem specSmallClass (B R p : Nat) (hp : p ≤ 80000) (w : World) (h : Rdr B R p w) :
    Calls Tryz.prog 20 #[.pointer (some ⟨R, 0, none⟩)] w fun e w' => ∃ n : Nat, n ≤ 5 ∧ GotCls B R n (p + 61) w e w' := by
  have hRB := h.1
  have hBw := h.2.1
  obtain ⟨l, hl⟩ : ∃ l : List Int, l = [3, 4, 3, 2, 1] := ⟨_, rfl⟩
  have hlen : l.length = 5 := by rw [hl]; rfl
  have HY := Lib.hid (show Bx 0 (.slice none 0 0) w.heap.size ((w.alloc (Obj.cells #[.int .i64 0, .slice none 0 0] 47)).alloc (Obj.cells #[.int .i64 3, .int .i64 4, .int .i64 3, .int .i64 2, .int .i64 1] 3)) from (Bx.new _ _ _).alloc _)
  have HR := Lib.hid (show Rdr B R p ((w.alloc (Obj.cells #[.int .i64 0, .slice none 0 0] 47)).alloc (Obj.cells #[.int .i64 3, .int .i64 4, .int .i64 3, .int .i64 2, .int .i64 1] 3)) from (h.alloc _).alloc _)
  have HG := Lib.hid (show w.grownBy ((w.alloc (Obj.cells #[.int .i64 0, .slice none 0 0] 47)).alloc (Obj.cells #[.int .i64 3, .int .i64 4, .int .i64 3, .int .i64 2, .int .i64 1] 3)) (some R) from grownBy_trans (World.grownBy_alloc _ _ _) (World.grownBy_alloc _ _ _))
  have HL := Lib.hid (show Rd ((w.alloc (Obj.cells #[.int .i64 0, .slice none 0 0] 47)).alloc (Obj.cells #[.int .i64 3, .int .i64 4, .int .i64 3, .int .i64 2, .int .i64 1] 3)) (.slice (some ⟨(w.alloc (Obj.cells #[.int .i64 0, .slice none 0 0] 47)).heap.size, 0, none⟩) l.length l.length) l from rdLit _ _ _ (by rw [hl]; rfl) (by omega))
  have HO := Lib.hid (specOne B R p (some ⟨(w.alloc (Obj.cells #[.int .i64 0, .slice none 0 0] 47)).heap.size, 0, none⟩) l.length l (by omega) (by omega) _ HR.out HL.out (fun b' o e => by cases e; simp; omega))
  have HB := Lib.hid (show ∀ i, i < l.length → ∃ m : Nat, m ≤ 5 ∧ l.getD i 0 = (m : Int) from fun i hi => by
    rw [hlen] at hi
    subst hl
    rcases (show i = 0 ∨ i = 1 ∨ i = 2 ∨ i = 3 ∨ i = 4 by omega) with rfl | rfl | rfl | rfl | rfl
    · exact ⟨3, by omega, rfl⟩
    · exact ⟨4, by omega, rfl⟩
    · exact ⟨3, by omega, rfl⟩
    · exact ⟨2, by omega, rfl⟩
    · exact ⟨1, by omega, rfl⟩)
  have HO2 := Lib.hid (show Calls Tryz.prog 17 #[.pointer (some ⟨R, 0, none⟩), .slice (some ⟨w.heap.size + 1, 0, none⟩) 5 5] _ _ from by
    have h8 := HO.out
    rw [show (w.alloc (Obj.cells #[.int .i64 0, .slice none 0 0] 47)).heap.size = w.heap.size + 1 by simp, hlen] at h8
    exact h8)
  have HZ := Lib.hid (show ((w.alloc (Obj.cells #[.int .i64 0, .slice none 0 0] 47)).alloc (Obj.cells #[.int .i64 3, .int .i64 4, .int .i64 3, .int .i64 2, .int .i64 1] 3)).heap.size = w.heap.size + 2 by simp)
  clear h hl HL HO
  go_enter Tryz.func20, Tryz.ntmps20
  go_wp2_with fail
  generalize ((w.alloc (Obj.cells #[.int .i64 0, .slice none 0 0] 47)).alloc (Obj.cells #[.int .i64 3, .int .i64 4, .int .i64 3, .int .i64 2, .int .i64 1] 3)) = w1 at *
  have hz1 := HZ.out
  refine HO2.out.mono ?_
  rintro e w2 ⟨⟨i, hi, rfl⟩, hr2, hg2⟩
  obtain ⟨m, hm, hv⟩ := HB.out i (by omega)
  rw [hv]
  have hz2 := hg2.size
  have HY2 := Lib.hid (HY.out.kept hg2 (by simp; omega))
  have HG2 := Lib.hid (grownBy_trans HG.out hg2)
  have HC := Lib.hid (specClassOf B R (p + 1) m hm (by omega) w2 hr2)
  clear hr2 hg2 hv HO2 HB HY HR HG
  go_wp2_with fail
  refine HC.out.mono ?_
  rintro e w3 ⟨a3, c3, p3, ms, rfl, hin3, hcls, hp3, hr3, hg3⟩
  have hz3 := hg3.size
  have HY3 := Lib.hid (HY2.out.kept hg3 (by simp; omega))
  have HI3 := Lib.hid (hin3.mono (show w.heap.size + 1 ≤ w2.heap.size by omega))
  have HR3 := Lib.hid hr3
  have HG3 := Lib.hid (grownBy_trans HG2.out hg3)
  have HCL := Lib.hid hcls
  clear hin3 hcls hr3 hg3 HC
  have r0 := HY3.out.out.at0
  have r1 := HY3.out.out.at1
  have q0 := HY3.out.out.free0
  have q1 := HY3.out.out.free1
  go_wp2_with fail
  refine bodyPost_ret (v := .agg #[.int .i64 (m : Int), .slice a3 ms.length c3]) (by simp [results, Tryz.results20, go_sem, r0, r1]) rfl ?_
  refine ⟨m, hm, a3, c3, p3, ms, rfl, ?_, HCL.out, by omega, ?_, ?_⟩
  · refine Ints.mono (B := w.heap.size + 1) ?_ (by omega)
    repeat (refine Ints.setCell_below ?_ (by simp) _)
    exact HI3.out
  · repeat (refine Rdr.set ?_ (by omega) _)
    exact HR3.out
  · repeat (refine grown_set ?_ (Nat.le_refl _) _)
    exact HG3.out


end Go.Proofs.YtnmilfkocheaiaaGreatDoor

namespace Go.Proofs.YtnmilfkocheaiaaGreatDoor
open Go.RowKit

/-- one of some numbers is drawn -/
theorem specOneLit (B R p : Nat) (l : List Int) (k : Nat) (o : Obj) (hk : l.length = k) (h0 : 0 < k) (hp : p ≤ 1000000) (w : World) (h : Rdr B R p w) (ho : o = Obj.cells (l.map (Value.int .i64)).toArray 3) (hm : k ≤ 100) (b : Nat) (hb : w.heap.size = b) :
    Calls Tryz.prog 17 #[.pointer (some ⟨R, 0, none⟩), .slice (some ⟨b, 0, none⟩) k k] (w.alloc o) fun e w' => (∃ i, i < k ∧ e = .returned (.int .i64 (l.getD i 0))) ∧ Rdr B R (p + 1) w' ∧ w.grownBy w' (some R) := by
  subst hk; subst ho; subst hb
  have hRB := h.1
  have hBw := h.2.1
  refine (specOne B R p (some ⟨w.heap.size, 0, none⟩) l.length l hp h0 _ (h.alloc _) (rdLit _ _ _ rfl (by omega)) (fun b' o e => by cases e; omega)).mono ?_
  rintro e w' ⟨h1, h2, h3⟩
  exact ⟨h1, h2, grownBy_trans (World.grownBy_alloc _ _ _) h3⟩

end Go.Proofs.YtnmilfkocheaiaaGreatDoor

namespace Go.Proofs.YtnmilfkocheaiaaGreatDoor
open Go.RowKit

theorem run_str_h (w : World) (s : ByteArray) (h : Nat) (h2 : h ≤ s.size) : (Instr.slice 9 (.string s) none (some (.int .i64 (h : Int))) none).run Tryz.prog w = .ok (.string (s.extract 0 h)) w := by
  simp [Instr.slice, run_underlying Tryz.underlying9, Instr.sliceBounds, run_sliceBound, (by omega : (0 : Int) ≤ (h : Int)), (by omega : (h : Int) ≤ (s.size : Int))]
theorem run_str_l (w : World) (s : ByteArray) (l : Nat) (h1 : l ≤ s.size) : (Instr.slice 9 (.string s) (some (.int .i64 (l : Int))) none none).run Tryz.prog w = .ok (.string (s.extract l s.size)) w := by
  simp [Instr.slice, run_underlying Tryz.underlying9, Instr.sliceBounds, run_sliceBound, (by omega : (0 : Int) ≤ (l : Int)), (by omega : (l : Int) ≤ (s.size : Int))]

set_option maxHeartbeats 800000 in
theorem specOfLit (B R p : Nat) (L : List ByteArray) (k : Nat) (o : Obj) (hk : L.length = k) (h0 : 0 < k) (hp : p ≤ 1000000) (w : World) (h : Rdr B R p w) (ho : o = Obj.cells (L.map Value.string).toArray 9) (b : Nat) (hb : w.heap.size = b) :
    Calls Tryz.prog 18 #[.pointer (some ⟨R, 0, none⟩), .slice (some ⟨b, 0, none⟩) k k] (w.alloc o) fun e w' => (∃ i, i < k ∧ e = .returned (.string (L.getD i ⟨#[]⟩))) ∧ Rdr B R (p + 1) w' ∧ w.grownBy w' (some R) := by
  subst hk; subst hb
  have hRB := h.1
  have hBw := h.2.1
  have HP := Lib.hid (fun n => specPick B R p n hp (w.alloc o) (h.alloc _))
  have HC := Lib.hid (show ∀ w', (w.alloc o).grownBy w' (some R) → ∀ x, x < L.length → w'.cell? ⟨w.heap.size, x, none⟩ = some (.string (L.getD x ⟨#[]⟩)) from fun w' hg x hx => by
    have hh : w'.heap[w.heap.size]? = some o := (hg.block w.heap.size (by simp) (by simp; omega)).trans (heap_alloc_new w o)
    subst ho
    simp only [World.cell?, hh]
    simp [List.getD_eq_getElem?_getD, List.getElem?_eq_getElem hx])
  have HG := Lib.hid (fun w' (hg : (w.alloc o).grownBy w' (some R)) => show w.grownBy w' (some R) from grownBy_trans (World.grownBy_alloc _ _ _) hg)
  clear h ho
  generalize w.alloc o = w0 at *
  generalize w.heap.size = g at *
  go_enter Tryz.func18, Tryz.ntmps18
  go_wp2_with fail
  refine (HP.out _).mono ?_
  rintro e w1 ⟨⟨x, rfl, hx⟩, hr, hg⟩
  have hxl : x < L.length := by omega
  have hxI : (x : Int) < (L.length : Int) := by omega
  have hcx := HC.out w1 hg x hxl
  have HR1 := Lib.hid hr
  have HG1 := Lib.hid (HG.out w1 hg)
  have HX := Lib.hid hxl
  clear hr hg hx HC HP HG
  obtain ⟨y, hy⟩ : ∃ y, y = L.getD x ⟨#[]⟩ := ⟨_, rfl⟩
  rw [← hy] at hcx
  have HY := Lib.hid hy
  clear hy
  go_wp2_with fail
  go_ret
  exact ⟨⟨x, HX.out, by rw [← HY.out]; rfl⟩, HR1.out, HG1.out⟩

set_option maxHeartbeats 1600000 in
set_option maxRecDepth 100000 in
theorem specMutate (B R p : Nat) (s : ByteArray) (hs : s.size ≤ 1000) (hp : p ≤ 90000) (w : World) (h : Rdr B R p w) :
    Calls Tryz.prog 22 #[.pointer (some ⟨R, 0, none⟩), .string s] w fun e w' => (∃ x : ByteArray, x.size ≤ 1010 ∧ e = .returned (.string x)) ∧ w.grownBy w' (some R) ∧ ∃ p', p' ≤ p + 3 ∧ Rdr B R p' w' := by
  have hw1 : IntKind.i64.wrap ((s.size : Int) + 1) = (s.size : Int) + 1 := by rw [IntKind.wrap_i64]; omega
  have HR := Lib.hid h
  clear h
  go_enter Tryz.func22, Tryz.ntmps22
  go_wp2_with fail
  refine (specPick B R p _ (by omega) _ HR.out).mono ?_
  rintro e w1 ⟨⟨k, rfl, hk⟩, hr, hg⟩
  have hks : k ≤ s.size := by omega
  replace HR := Lib.hid hr
  have G := Lib.hid hg
  clear hr hg hk hw1
  go_wp2_with fail
  refine (specPick B R (p + 1) _ (by omega) _ HR.out).mono ?_
  rintro e w2 ⟨⟨y, rfl, hy⟩, hr, hg⟩
  replace HR := Lib.hid hr
  replace G := Lib.hid (grownBy_trans G.out hg)
  clear hr hg
  have hy5 : y = 0 ∨ y = 1 ∨ y = 2 ∨ y = 3 ∨ y = 4 := by omega
  clear hy
  rcases hy5 with rfl | rfl | rfl | rfl | rfl
  · by_cases hlt : k < s.size
    · have hki : (k : Int) < (s.size : Int) := by omega
      obtain ⟨q, hq⟩ : ∃ q, q = k + 1 := ⟨_, rfl⟩
      have hwq : IntKind.i64.wrap ((k : Int) + 1) = (q : Int) := by rw [IntKind.wrap_i64]; omega
      have hA := fun w => run_str_h w s k hks
      have hB := fun w => run_str_l w s q (by omega)
      have hAs : (s.extract 0 k).size ≤ 1000 := by rw [ByteArray.size_extract]; omega
      have hBs : (s.extract q s.size).size ≤ 1000 - (s.extract 0 k).size := by rw [ByteArray.size_extract, ByteArray.size_extract]; omega
      generalize s.extract 0 k = A at *
      generalize s.extract q s.size = C at *
      clear hq
      go_upto_region 6 with (fail)
      refine wp_region_held_drew (S := fun _ => True) (by kernel_rfl) (by exact trivial) (fun hHeld => ?_)
      have HRd := Lib.hid (show Rdr B R (p + 1 + 1) w2.drew from HR.out.drew)
      have Gd := Lib.hid (grown_drew G.out)
      generalize w2.drew = v0 at *
      refine wpAnyH_take (i := 0) (v := ?_) rfl (by kernel_rfl) (by kernel_rfl) (by kernel_rfl) (fun _ _ _ h => h) (Or.inl ⟨by rfl, ?_⟩) (by assumption) ?_
      rotate_left
      · (intro w hSw; (try dsimp only at hSw); go_simp; try with_reducible rfl)
      try simp only [List.getElem_toArray, List.getElem_cons_zero, Act.put, List.setIfInBounds_toArray, List.set_cons_zero, List.set_cons_succ]
      refine wpAnyH_take (i := 1) (v := ?_) rfl (by kernel_rfl) (by kernel_rfl) (by kernel_rfl) (fun _ _ _ h => h) (Or.inl ⟨by rfl, ?_⟩) (by assumption) ?_
      rotate_left
      · (intro w hSw; (try dsimp only at hSw); go_simp; try with_reducible rfl)
      try simp only [List.getElem_toArray, List.getElem_cons_zero, List.getElem_cons_succ, Act.put, List.setIfInBounds_toArray, List.set_cons_zero, List.set_cons_succ]
      refine wpAnyH_take (i := 2) (v := ?_) rfl (by kernel_rfl) (by kernel_rfl) (by kernel_rfl) (fun _ _ _ h => h) (Or.inl ⟨by rfl, ?_⟩) (by assumption) ?_
      rotate_left
      · (intro w hSw; (try dsimp only at hSw); go_simp; try with_reducible rfl)
      try simp only [List.getElem_toArray, List.getElem_cons_zero, List.getElem_cons_succ, Act.put, List.setIfInBounds_toArray, List.set_cons_zero, List.set_cons_succ]
      refine wpAnyH_take (i := 3) (v := ?_) rfl (by kernel_rfl) (by kernel_rfl) (by kernel_rfl) (fun _ _ _ h => h) (Or.inl ⟨by rfl, ?_⟩) (by assumption) ?_
      rotate_left
      · (intro w hSw; (try dsimp only at hSw); go_simp; try with_reducible rfl)
      try simp only [List.getElem_toArray, List.getElem_cons_zero, List.getElem_cons_succ, Act.put, List.setIfInBounds_toArray, List.set_cons_zero, List.set_cons_succ]
      refine wpAnyH_take (i := 7) (v := ?_) rfl (by kernel_rfl) (by kernel_rfl) (by kernel_rfl) (fun _ _ _ h => h) (Or.inl ⟨by rfl, ?_⟩) (by assumption) ?_
      rotate_left
      · (intro w hSw; (try dsimp only at hSw); go_simp; try with_reducible rfl)
      try simp only [List.getElem_toArray, List.getElem_cons_zero, List.getElem_cons_succ, Act.put, List.setIfInBounds_toArray, List.set_cons_zero, List.set_cons_succ]
      refine wpAnyH_take (i := 8) (v := ?_) rfl (by kernel_rfl) (by kernel_rfl) (by kernel_rfl) (fun _ _ _ h => h) (Or.inl ⟨by rfl, ?_⟩) (by assumption) ?_
      rotate_left
      · (intro w hSw; (try dsimp only at hSw); go_simp; try with_reducible rfl)
      try simp only [List.getElem_toArray, List.getElem_cons_zero, List.getElem_cons_succ, Act.put, List.setIfInBounds_toArray, List.set_cons_zero, List.set_cons_succ]
      refine wpAnyH_take (i := 9) (v := ?_) rfl (by kernel_rfl) (by kernel_rfl) (by kernel_rfl) (fun _ _ _ h => h) (Or.inl ⟨by rfl, ?_⟩) (by assumption) ?_
      rotate_left
      · (intro w hSw; (try dsimp only at hSw); go_simp; (try rw [hwq]); try with_reducible rfl)
      try simp only [List.getElem_toArray, List.getElem_cons_zero, List.getElem_cons_succ, Act.put, List.setIfInBounds_toArray, List.set_cons_zero, List.set_cons_succ]
      refine wpAnyH_take (i := 10) (v := ?_) rfl (by kernel_rfl) (by kernel_rfl) (by kernel_rfl) (fun _ _ _ h => h) (Or.inl ⟨by rfl, ?_⟩) (by assumption) ?_
      rotate_left
      · (intro w hSw; (try dsimp only at hSw); go_simp; try with_reducible rfl)
      try simp only [List.getElem_toArray, List.getElem_cons_zero, List.getElem_cons_succ, Act.put, List.setIfInBounds_toArray, List.set_cons_zero, List.set_cons_succ]
      refine wpAnyH_ready (rs := [4]) (by kernel_rfl) (by simp) ?_
      refine AllReadyH.cons rfl (fun K hK => ?_) AllReadyH.nil
      try simp only [List.getElem_toArray]
      go_simp
      refine hK.out _ _ (by exact trivial) (fun hHeld => ?_)
      clear hK K
      try simp only [List.getElem_toArray, List.getElem_cons_zero, List.getElem_cons_succ, Act.put, List.setIfInBounds_toArray, List.set_cons_zero, List.set_cons_succ]
      refine wpAnyH_ready (rs := [5]) (by kernel_rfl) (by simp) ?_
      refine AllReadyH.cons rfl (fun K hK => ?_) AllReadyH.nil
      try simp only [List.getElem_toArray]
      go_simp
      refine (specOfLit B R (p + 1 + 1) [(⟨#[48]⟩ : ByteArray), ⟨#[49]⟩, ⟨#[55]⟩, ⟨#[44]⟩, ⟨#[58]⟩, ⟨#[45]⟩, ⟨#[97]⟩, ⟨#[32]⟩] 8 (Obj.cells #[.string ⟨#[48]⟩, .string ⟨#[49]⟩, .string ⟨#[55]⟩, .string ⟨#[44]⟩, .string ⟨#[58]⟩, .string ⟨#[45]⟩, .string ⟨#[97]⟩, .string ⟨#[32]⟩] 9) rfl (by omega) (by omega) v0 HRd.out rfl _ rfl).mono ?_
      rintro e v1 ⟨⟨i, hi, rfl⟩, hr1, hg1⟩
      have hx1 : (([(⟨#[48]⟩ : ByteArray), ⟨#[49]⟩, ⟨#[55]⟩, ⟨#[44]⟩, ⟨#[58]⟩, ⟨#[45]⟩, ⟨#[97]⟩, ⟨#[32]⟩]).getD i ⟨#[]⟩).size ≤ 1 := by
        rcases (show i = 0 ∨ i = 1 ∨ i = 2 ∨ i = 3 ∨ i = 4 ∨ i = 5 ∨ i = 6 ∨ i = 7 by omega) with rfl | rfl | rfl | rfl | rfl | rfl | rfl | rfl <;> decide
      generalize ([(⟨#[48]⟩ : ByteArray), ⟨#[49]⟩, ⟨#[55]⟩, ⟨#[44]⟩, ⟨#[58]⟩, ⟨#[45]⟩, ⟨#[97]⟩, ⟨#[32]⟩]).getD i ⟨#[]⟩ = X at *
      have G1 := Lib.hid (grownBy_trans Gd.out hg1)
      have R1 := Lib.hid hr1
      have hno1 : ¬ 9223372036854775807 < A.size + X.size := by omega
      have hno2 : ¬ 9223372036854775807 < A.size + X.size + C.size := by omega
      clear hr1 hg1
      refine hK.out _ _ (by exact trivial) (fun hHeld => ?_)
      clear hK K
      try simp only [List.getElem_toArray, List.getElem_cons_zero, List.getElem_cons_succ, Act.put, List.setIfInBounds_toArray, List.set_cons_zero, List.set_cons_succ]
      refine wpAnyH_take (i := 6) (v := ?_) rfl (by kernel_rfl) (by kernel_rfl) (by kernel_rfl) (fun _ _ _ h => h) (Or.inl ⟨by rfl, ?_⟩) (by assumption) ?_
      rotate_left
      · (intro w hSw; (try dsimp only at hSw); go_simp; try with_reducible rfl)
      try simp only [List.getElem_toArray, List.getElem_cons_zero, List.getElem_cons_succ, Act.put, List.setIfInBounds_toArray, List.set_cons_zero, List.set_cons_succ]
      refine wpAnyH_take (i := 11) (v := ?_) rfl (by kernel_rfl) (by kernel_rfl) (by kernel_rfl) (fun _ _ _ h => h) (Or.inl ⟨by rfl, ?_⟩) (by assumption) ?_
      rotate_left
      · (intro w hSw; (try dsimp only at hSw); go_simp; try with_reducible rfl)
      try simp only [List.getElem_toArray, List.getElem_cons_zero, List.getElem_cons_succ, Act.put, List.setIfInBounds_toArray, List.set_cons_zero, List.set_cons_succ]
      refine wpAnyH_take (i := 12) (v := ?_) rfl (by kernel_rfl) (by kernel_rfl) (by kernel_rfl) (fun _ _ _ h => h) (Or.inl ⟨by rfl, ?_⟩) (by assumption) ?_
      rotate_left
      · (intro w hSw; (try dsimp only at hSw); go_simp; try with_reducible rfl)
      try simp only [List.getElem_toArray, List.getElem_cons_zero, List.getElem_cons_succ, Act.put, List.setIfInBounds_toArray, List.set_cons_zero, List.set_cons_succ]
      refine wpAnyH_done (by kernel_rfl) ?_ _
      go_wp2_with fail
      go_ret
      exact ⟨⟨_, by rw [ByteArray.size_append, ByteArray.size_append]; omega, rfl⟩, by first | exact G1.out | exact G1.out.drew, _, Nat.le_refl _, by first | exact R1.out | exact R1.out.drew⟩
    · have hki : ¬ (k : Int) < (s.size : Int) := by omega
      go_wp2_with fail
      go_ret
      exact ⟨⟨s, by omega, rfl⟩, G.out, _, Nat.le_succ _, HR.out⟩

  · by_cases hlt : k < s.size
    · have hki : (k : Int) < (s.size : Int) := by omega
      obtain ⟨q, hq⟩ : ∃ q, q = k + 1 := ⟨_, rfl⟩
      have hwq : IntKind.i64.wrap ((k : Int) + 1) = (q : Int) := by rw [IntKind.wrap_i64]; omega
      have hA := fun w => run_str_h w s k hks
      have hB := fun w => run_str_l w s q (by omega)
      have hAs : (s.extract 0 k).size ≤ 1000 := by rw [ByteArray.size_extract]; omega
      have hBs : (s.extract q s.size).size ≤ 1000 - (s.extract 0 k).size := by rw [ByteArray.size_extract, ByteArray.size_extract]; omega
      generalize s.extract 0 k = A at *
      generalize s.extract q s.size = C at *
      clear hq
      go_upto_region 6 with (fail)
      refine wp_region_held_drew (S := fun _ => True) (by kernel_rfl) (by exact trivial) (fun hHeld => ?_)
      have HRd := Lib.hid (show Rdr B R (p + 1 + 1) w2.drew from HR.out.drew)
      have Gd := Lib.hid (grown_drew G.out)
      generalize w2.drew = v0 at *
      refine wpAnyH_take (i := 0) (v := ?_) rfl (by kernel_rfl) (by kernel_rfl) (by kernel_rfl) (fun _ _ _ h => h) (Or.inl ⟨by rfl, ?_⟩) (by assumption) ?_
      rotate_left
      · (intro w hSw; (try dsimp only at hSw); go_simp; try with_reducible rfl)
      try simp only [List.getElem_toArray, List.getElem_cons_zero, Act.put, List.setIfInBounds_toArray, List.set_cons_zero, List.set_cons_succ]
      refine wpAnyH_take (i := 1) (v := ?_) rfl (by kernel_rfl) (by kernel_rfl) (by kernel_rfl) (fun _ _ _ h => h) (Or.inl ⟨by rfl, ?_⟩) (by assumption) ?_
      rotate_left
      · (intro w hSw; (try dsimp only at hSw); go_simp; try with_reducible rfl)
      try simp only [List.getElem_toArray, List.getElem_cons_zero, List.getElem_cons_succ, Act.put, List.setIfInBounds_toArray, List.set_cons_zero, List.set_cons_succ]
      refine wpAnyH_take (i := 2) (v := ?_) rfl (by kernel_rfl) (by kernel_rfl) (by kernel_rfl) (fun _ _ _ h => h) (Or.inl ⟨by rfl, ?_⟩) (by assumption) ?_
      rotate_left
      · (intro w hSw; (try dsimp only at hSw); go_simp; try with_reducible rfl)
      try simp only [List.getElem_toArray, List.getElem_cons_zero, List.getElem_cons_succ, Act.put, List.setIfInBounds_toArray, List.set_cons_zero, List.set_cons_succ]
      refine wpAnyH_take (i := 3) (v := ?_) rfl (by kernel_rfl) (by kernel_rfl) (by kernel_rfl) (fun _ _ _ h => h) (Or.inl ⟨by rfl, ?_⟩) (by assumption) ?_
      rotate_left
      · (intro w hSw; (try dsimp only at hSw); go_simp; try with_reducible rfl)
      try simp only [List.getElem_toArray, List.getElem_cons_zero, List.getElem_cons_succ, Act.put, List.setIfInBounds_toArray, List.set_cons_zero, List.set_cons_succ]
      refine wpAnyH_take (i := 7) (v := ?_) rfl (by kernel_rfl) (by kernel_rfl) (by kernel_rfl) (fun _ _ _ h => h) (Or.inl ⟨by rfl, ?_⟩) (by assumption) ?_
      rotate_left
      · (intro w hSw; (try dsimp only at hSw); go_simp; try with_reducible rfl)
      try simp only [List.getElem_toArray, List.getElem_cons_zero, List.getElem_cons_succ, Act.put, List.setIfInBounds_toArray, List.set_cons_zero, List.set_cons_succ]
      refine wpAnyH_take (i := 8) (v := ?_) rfl (by kernel_rfl) (by kernel_rfl) (by kernel_rfl) (fun _ _ _ h => h) (Or.inl ⟨by rfl, ?_⟩) (by assumption) ?_
      rotate_left
      · (intro w hSw; (try dsimp only at hSw); go_simp; try with_reducible rfl)
      try simp only [List.getElem_toArray, List.getElem_cons_zero, List.getElem_cons_succ, Act.put, List.setIfInBounds_toArray, List.set_cons_zero, List.set_cons_succ]
      refine wpAnyH_take (i := 9) (v := ?_) rfl (by kernel_rfl) (by kernel_rfl) (by kernel_rfl) (fun _ _ _ h => h) (Or.inl ⟨by rfl, ?_⟩) (by assumption) ?_
      rotate_left
      · (intro w hSw; (try dsimp only at hSw); go_simp; (try rw [hwq]); try with_reducible rfl)
      try simp only [List.getElem_toArray, List.getElem_cons_zero, List.getElem_cons_succ, Act.put, List.setIfInBounds_toArray, List.set_cons_zero, List.set_cons_succ]
      refine wpAnyH_take (i := 10) (v := ?_) rfl (by kernel_rfl) (by kernel_rfl) (by kernel_rfl) (fun _ _ _ h => h) (Or.inl ⟨by rfl, ?_⟩) (by assumption) ?_
      rotate_left
      · (intro w hSw; (try dsimp only at hSw); go_simp; try with_reducible rfl)
      try simp only [List.getElem_toArray, List.getElem_cons_zero, List.getElem_cons_succ, Act.put, List.setIfInBounds_toArray, List.set_cons_zero, List.set_cons_succ]
      refine wpAnyH_ready (rs := [4]) (by kernel_rfl) (by simp) ?_
      refine AllReadyH.cons rfl (fun K hK => ?_) AllReadyH.nil
      try simp only [List.getElem_toArray]
      go_simp
      refine hK.out _ _ (by exact trivial) (fun hHeld => ?_)
      clear hK K
      try simp only [List.getElem_toArray, List.getElem_cons_zero, List.getElem_cons_succ, Act.put, List.setIfInBounds_toArray, List.set_cons_zero, List.set_cons_succ]
      refine wpAnyH_ready (rs := [5]) (by kernel_rfl) (by simp) ?_
      refine AllReadyH.cons rfl (fun K hK => ?_) AllReadyH.nil
      try simp only [List.getElem_toArray]
      go_simp
      refine (specOfLit B R (p + 1 + 1) [(⟨#[48]⟩ : ByteArray), ⟨#[49]⟩, ⟨#[55]⟩, ⟨#[44]⟩, ⟨#[58]⟩, ⟨#[45]⟩, ⟨#[97]⟩, ⟨#[32]⟩] 8 (Obj.cells #[.string ⟨#[48]⟩, .string ⟨#[49]⟩, .string ⟨#[55]⟩, .string ⟨#[44]⟩, .string ⟨#[58]⟩, .string ⟨#[45]⟩, .string ⟨#[97]⟩, .string ⟨#[32]⟩] 9) rfl (by omega) (by omega) v0 HRd.out rfl _ rfl).mono ?_
      rintro e v1 ⟨⟨i, hi, rfl⟩, hr1, hg1⟩
      have hx1 : (([(⟨#[48]⟩ : ByteArray), ⟨#[49]⟩, ⟨#[55]⟩, ⟨#[44]⟩, ⟨#[58]⟩, ⟨#[45]⟩, ⟨#[97]⟩, ⟨#[32]⟩]).getD i ⟨#[]⟩).size ≤ 1 := by
        rcases (show i = 0 ∨ i = 1 ∨ i = 2 ∨ i = 3 ∨ i = 4 ∨ i = 5 ∨ i = 6 ∨ i = 7 by omega) with rfl | rfl | rfl | rfl | rfl | rfl | rfl | rfl <;> decide
      generalize ([(⟨#[48]⟩ : ByteArray), ⟨#[49]⟩, ⟨#[55]⟩, ⟨#[44]⟩, ⟨#[58]⟩, ⟨#[45]⟩, ⟨#[97]⟩, ⟨#[32]⟩]).getD i ⟨#[]⟩ = X at *
      have G1 := Lib.hid (grownBy_trans Gd.out hg1)
      have R1 := Lib.hid hr1
      have hno1 : ¬ 9223372036854775807 < A.size + X.size := by omega
      have hno2 : ¬ 9223372036854775807 < A.size + X.size + C.size := by omega
      clear hr1 hg1
      refine hK.out _ _ (by exact trivial) (fun hHeld => ?_)
      clear hK K
      try simp only [List.getElem_toArray, List.getElem_cons_zero, List.getElem_cons_succ, Act.put, List.setIfInBounds_toArray, List.set_cons_zero, List.set_cons_succ]
      refine wpAnyH_take (i := 6) (v := ?_) rfl (by kernel_rfl) (by kernel_rfl) (by kernel_rfl) (fun _ _ _ h => h) (Or.inl ⟨by rfl, ?_⟩) (by assumption) ?_
      rotate_left
      · (intro w hSw; (try dsimp only at hSw); go_simp; try with_reducible rfl)
      try simp only [List.getElem_toArray, List.getElem_cons_zero, List.getElem_cons_succ, Act.put, List.setIfInBounds_toArray, List.set_cons_zero, List.set_cons_succ]
      refine wpAnyH_take (i := 11) (v := ?_) rfl (by kernel_rfl) (by kernel_rfl) (by kernel_rfl) (fun _ _ _ h => h) (Or.inl ⟨by rfl, ?_⟩) (by assumption) ?_
      rotate_left
      · (intro w hSw; (try dsimp only at hSw); go_simp; try with_reducible rfl)
      try simp only [List.getElem_toArray, List.getElem_cons_zero, List.getElem_cons_succ, Act.put, List.setIfInBounds_toArray, List.set_cons_zero, List.set_cons_succ]
      refine wpAnyH_take (i := 12) (v := ?_) rfl (by kernel_rfl) (by kernel_rfl) (by kernel_rfl) (fun _ _ _ h => h) (Or.inl ⟨by rfl, ?_⟩) (by assumption) ?_
      rotate_left
      · (intro w hSw; (try dsimp only at hSw); go_simp; try with_reducible rfl)
      try simp only [List.getElem_toArray, List.getElem_cons_zero, List.getElem_cons_succ, Act.put, List.setIfInBounds_toArray, List.set_cons_zero, List.set_cons_succ]
      refine wpAnyH_done (by kernel_rfl) ?_ _
      go_wp2_with fail
      go_ret
      exact ⟨⟨_, by rw [ByteArray.size_append, ByteArray.size_append]; omega, rfl⟩, by first | exact G1.out | exact G1.out.drew, _, Nat.le_refl _, by first | exact R1.out | exact R1.out.drew⟩
    · have hki : ¬ (k : Int) < (s.size : Int) := by omega
      go_wp2_with fail
      go_ret
      exact ⟨⟨s, by omega, rfl⟩, G.out, _, Nat.le_succ _, HR.out⟩

  · have hA := fun w => run_str_h w s k hks
    have hAs : (s.extract 0 k).size ≤ 1000 := by rw [ByteArray.size_extract]; omega
    generalize s.extract 0 k = A at *
    go_wp2_with fail
    go_ret
    exact ⟨⟨A, by omega, rfl⟩, G.out, _, Nat.le_succ _, HR.out⟩
  · have HO := Lib.hid (specOfLit B R (p + 1 + 1) [(⟨#[48]⟩ : ByteArray), ⟨#[44]⟩, ⟨#[32]⟩, ⟨#[44, 51, 49]⟩] 4 (Obj.cells #[.string ⟨#[48]⟩, .string ⟨#[44]⟩, .string ⟨#[32]⟩, .string ⟨#[44, 51, 49]⟩] 9) rfl (by omega) (by omega) w2 HR.out rfl _ rfl)
    go_wp2_with fail
    refine HO.out.mono ?_
    rintro e v1 ⟨⟨i, hi, rfl⟩, hr1, hg1⟩
    have hx1 : (([(⟨#[48]⟩ : ByteArray), ⟨#[44]⟩, ⟨#[32]⟩, ⟨#[44, 51, 49]⟩]).getD i ⟨#[]⟩).size ≤ 3 := by
      rcases (show i = 0 ∨ i = 1 ∨ i = 2 ∨ i = 3 by omega) with rfl | rfl | rfl | rfl <;> decide
    generalize ([(⟨#[48]⟩ : ByteArray), ⟨#[44]⟩, ⟨#[32]⟩, ⟨#[44, 51, 49]⟩]).getD i ⟨#[]⟩ = X at *
    have G1 := Lib.hid (grownBy_trans G.out hg1)
    have R1 := Lib.hid hr1
    have hno1 : ¬ 9223372036854775807 < s.size + X.size := by omega
    clear hr1 hg1 HO
    go_wp2_with fail
    go_ret
    exact ⟨⟨_, by rw [ByteArray.size_append]; omega, rfl⟩, G1.out, _, Nat.le_refl _, R1.out⟩
  · go_wp2_with fail
    go_ret
    exact ⟨⟨s, by omega, rfl⟩, G.out, _, Nat.le_succ _, HR.out⟩


end Go.Proofs.YtnmilfkocheaiaaGreatDoor

namespace Go.Proofs.YtnmilfkocheaiaaGreatDoor
open Go.RowKit

/-- newlines among the first k bytes -/
def nlTo (l : List UInt8) : Nat → Nat
  | 0 => 0
  | k + 1 => nlTo l k + (if (l.getD k 0).toNat = 10 then 1 else 0)
theorem nlTo_le (l : List UInt8) : ∀ k, nlTo l k ≤ k
  | 0 => Nat.le_refl _
  | k + 1 => by have := nlTo_le l k; rw [nlTo]; split <;> omega
/-- newlines of a list -/
def nlL (l : List UInt8) : Nat := (l.filter (fun x => decide (x.toNat = 10))).length
theorem nlL_app (a b : List UInt8) : nlL (a ++ b) = nlL a + nlL b := by rw [nlL, List.filter_append, List.length_append]; rfl
theorem nlTo_take (l : List UInt8) : ∀ k, k ≤ l.length → nlTo l k = nlL (l.take k)
  | 0, _ => rfl
  | k + 1, h => by
    rw [nlTo, nlTo_take l k (by omega), List.take_add_one, List.getD_eq_getElem?_getD, List.getElem?_eq_getElem (by omega), nlL_app]
    congr 1
    show _ = nlL [l[k]]
    simp only [Option.getD_some, nlL, List.filter_cons, List.filter_nil]
    by_cases h : l[k].toNat = 10 <;> simp [h]
theorem nlTo_all (l : List UInt8) : nlTo l l.length = nlL l := by rw [nlTo_take l _ (Nat.le_refl _), List.take_length]
theorem nlL_none {l : List UInt8} (h : ∀ x ∈ l, ¬ x.toNat = 10) : nlL l = 0 := by
  rw [nlL, List.filter_eq_nil_iff.2 (fun x hx => by simpa using h x hx)]
  rfl
theorem dig_all : ∀ (k : Nat), ∀ x ∈ Lib.decDigits k, ¬ x.toNat = 10 := by
  intro k
  induction k using Nat.strongRecOn with
  | _ k ih =>
    have h9 : ∀ i, i < 10 → ¬ (UInt8.ofNat (48 + i)).toNat = 10 := by decide
    by_cases h : k < 10
    · rw [dig10 k h]
      intro x hx
      rw [List.mem_singleton] at hx
      rw [hx]
      exact h9 k h
    · rw [dig100 k h]
      intro x hx
      rcases List.mem_append.1 hx with hx | hx
      · exact ih (k / 10) (by omega) x hx
      · exact ih (k % 10) (by omega) x hx
theorem it_all (z : Int) : ∀ x ∈ (itB z).data.toList, ¬ x.toNat = 10 := by
  intro x hx
  have hx : x ∈ Lib.itoa z := by simpa [itB] using hx
  rw [Lib.itoa] at hx
  split at hx
  · rcases List.mem_cons.1 hx with rfl | hx
    · decide
    · exact dig_all _ x hx
  · exact dig_all _ x hx
theorem join_all : ∀ (L : List (List UInt8)), (∀ l ∈ L, ∀ x ∈ l, ¬ x.toNat = 10) → ∀ x ∈ Lib.join L [44], ¬ x.toNat = 10
  | [], _ => by intro x hx; simp [Lib.join] at hx
  | l :: r, h => by
    rw [joinTail_app]
    split
    · exact h l (List.mem_cons_self ..)
    · intro x hx
      rw [List.mem_append, List.singleton_append, List.mem_cons] at hx
      rcases hx with hx | rfl | hx
      · exact h l (List.mem_cons_self ..) x hx
      · decide
      · exact join_all r (fun l hl => h l (List.mem_cons_of_mem _ hl)) x hx
theorem ct_all {m : Nat} {ns : List Nat} (h : Cls m ns) : ∀ x ∈ (ctB m (toI ns)).data.toList, ¬ x.toNat = 10 := by
  rw [ctB_list (cls_vldB h)]
  intro x hx
  rcases List.mem_append.1 hx with hx | hx
  · exact dig_all m x hx
  · rcases List.mem_cons.1 hx with rfl | hx
    · decide
    · refine join_all _ (fun l hl => ?_) x hx
      obtain ⟨t, _, rfl⟩ := List.mem_map.1 hl
      exact dig_all t
theorem yn_all (b : Bool) : ∀ x ∈ (ynT b).data.toList, ¬ x.toNat = 10 := by cases b <;> decide
theorem ansK_all {m : Nat} {ns : List Nat} (h : Cls m ns) (i : Nat) : ∀ x ∈ (ansK m ns i).data.toList, ¬ x.toNat = 10 := by
  rw [ansK]
  split
  · exact it_all _
  · split
    · exact yn_all _
    · split
      · exact yn_all _
      · split
        · exact ct_all (cmpl_cls h)
        · exact ct_all (h.swTo m)
theorem ansB_all (s : ByteArray) : ∀ x ∈ (ansB s).data.toList, ¬ x.toNat = 10 := by
  have hw : ∀ x ∈ whatT.data.toList, ¬ x.toNat = 10 := by decide
  have hr : ∀ x ∈ wrongT.data.toList, ¬ x.toNat = 10 := by decide
  rw [ansB]
  split
  · split
    · exact hw
    · split
      · exact hr
      · rename_i p hp
        obtain ⟨n, zs⟩ := p
        obtain ⟨m, ns, rfl, rfl, hc⟩ := vldB_cls (pM_text hp).1
        show ∀ x ∈ (ansK (Int.toNat (m : Int)) ((toI ns).map Int.toNat) _).data.toList, _
        rw [Int.toNat_natCast, toNat_toI]
        exact ansK_all hc _
  · exact hw
theorem dsk_lines (L : List ByteArray) : ∀ k, nlL (dskTo L k).data.toList = k
  | 0 => rfl
  | k + 1 => by
    rw [dskTo, ByteArray.data_append, ByteArray.data_append, Array.toList_append, Array.toList_append, nlL_app, nlL_app, dsk_lines L k, nlL_none (ansB_all _)]
    rfl
theorem dsk_nl (L : List ByteArray) (k : Nat) : nlTo (dskTo L k).data.toList (dskTo L k).size = k := by
  have h : (dskTo L k).size = (dskTo L k).data.toList.length := by rw [Array.length_toList]; rfl
  rw [h, nlTo_all, dsk_lines]
/-- the first lines' answers are the beginning of all -/
theorem dsk_begin (L : List ByteArray) (k : Nat) : ∀ j, ∃ T, dskTo L (k + j) = dskTo L k ++ T
  | 0 => ⟨⟨#[]⟩, by rw [Nat.add_zero]; exact (ByteArray.append_empty).symm⟩
  | j + 1 => by
    obtain ⟨T, hT⟩ := dsk_begin L k j
    exact ⟨T ++ ansB (L.getD (k + j) ⟨#[]⟩) ++ ⟨#[10]⟩, by rw [← Nat.add_assoc, dskTo, hT, ByteArray.append_assoc, ByteArray.append_assoc, ByteArray.append_assoc]⟩
theorem dsk_take (L : List ByteArray) (k : Nat) : ∀ j, j ≤ k → k ≤ L.length → dskTo (L.take k) j = dskTo L j
  | 0, _, _ => rfl
  | j + 1, h, hk => by
    rw [dskTo, dskTo, dsk_take L k j (by omega) hk]
    congr 3
    rw [List.getD_eq_getElem?_getD, List.getD_eq_getElem?_getD, List.getElem?_take_of_lt (by omega)]
theorem dskB_take {L : List ByteArray} {k : Nat} (hk : k ≤ L.length) (hl : L.length ≤ 20) : dskB (L.take k) = dskTo L k := by
  have h1 : (L.take k).length = k := by rw [List.length_take]; omega
  rw [dskB, h1, if_pos (by omega), dsk_take L k k (Nat.le_refl _) hk]
theorem dsk_cut {L : List ByteArray} {k : Nat} (hk : k ≤ L.length) : (dskTo L k).size ≤ (dskTo L L.length).size ∧ (dskTo L L.length).extract 0 (dskTo L k).size = dskTo L k := by
  obtain ⟨T, hT⟩ := dsk_begin L k (L.length - k)
  rw [Nat.add_sub_cancel' hk] at hT
  rw [hT]
  refine ⟨by rw [ByteArray.size_append]; omega, ba_ext ?_⟩
  rw [ext_list, ByteArray.data_append, Array.toList_append, List.drop_zero, Nat.sub_zero]
  have h : (dskTo L k).size = (dskTo L k).data.toList.length := by rw [Array.length_toList]; rfl
  rw [h, List.take_left]
theorem dsk_ne {L : List ByteArray} (h : 0 < L.length) : ¬ dskTo L L.length = ⟨#[]⟩ := fun h9 => by
  have := dsk_lines L L.length
  rw [h9] at this
  have h2 : nlL (⟨#[]⟩ : ByteArray).data.toList = 0 := rfl
  omega
theorem RdS.take {w : World} {a : Option Addr} {cap : Nat} {L : List ByteArray} (h : RdS w (.slice a L.length cap) L) (k c' : Nat) (hk : k ≤ L.length) : RdS w (.slice a k c') (L.take k) := by
  obtain ⟨a', b, off, cap', e, h2, ⟨h3, h5⟩, h4⟩ := h
  simp only [Value.slice.injEq, true_and] at e
  obtain ⟨rfl, rfl⟩ := e
  have h1 : (L.take k).length = k := by rw [List.length_take]; omega
  refine ⟨a, b, off, c', by rw [h1], fun h0 => h2 (by omega), ⟨by omega, fun s hs => h5 s (List.mem_of_mem_take hs)⟩, fun j hj => ?_⟩
  rw [h4 j (by omega), List.getD_eq_getElem?_getD, List.getD_eq_getElem?_getD, List.getElem?_take_of_lt (by omega)]

set_option maxHeartbeats 1600000 in
set_option maxRecDepth 100000 in
theorem lawsNewlines (s : ByteArray) (hs : s.size ≤ 1048576) (w : World) :
    Calls Tryz.prog 11 #[.string s] w fun e w' => e = .returned (.int .i64 (nlTo s.data.toList s.size : Nat)) ∧ w' = w := by
  have HL := Lib.hid (nlTo_le s.data.toList)
  go_enter Tryz.func11, Tryz.ntmps11
  go_wp2_with fail
  go_loop [3, 4] (fun n i => ∃ k : Nat, k ≤ s.size ∧ i = .int .i64 k ∧ n = .int .i64 (nlTo s.data.toList k : Nat)) (fun _ i => s.size - (intOf i).toNat)
  case atStart => exact ⟨0, Nat.zero_le _, rfl, rfl⟩
  case round =>
    obtain ⟨k, hk, rfl, rfl⟩ := hrel
    have hm := HL.out k
    by_cases hlt : k < s.size
    · have hki : (k : Int) < (s.size : Int) := by omega
      have HB := Lib.hid (show s.data.toList.getD k 0 = s[k] from by
        rw [List.getD_eq_getElem?_getD, List.getElem?_eq_getElem (by rw [Array.length_toList]; exact hlt)]
        rfl)
      have HS := Lib.hid (show nlTo s.data.toList (k + 1) = nlTo s.data.toList k + (if (s[k]).toNat = 10 then 1 else 0) by rw [nlTo, HB.out])
      generalize nlTo s.data.toList k = m at *
      by_cases hc : s[k].toNat = 10
      · have HF := Lib.hid (show nlTo s.data.toList (k + 1) = m + 1 by rw [HS.out, if_pos hc])
        have hcd : ((s[k].toNat : Int) == 10) = true := by simp [hc]
        clear HS hc
        go_wp2_with fail
        go_round
        case rel => exact ⟨k + 1, by omega, by go_num, by rw [HF.out]; go_num⟩
        case measure => simp [intOf]; omega
      · have HF := Lib.hid (show nlTo s.data.toList (k + 1) = m by rw [HS.out, if_neg hc]; rfl)
        have hcd : ((s[k].toNat : Int) == 10) = false := beq_eq_false_iff_ne.2 (by omega)
        clear HS hc
        go_wp2_with fail
        go_round
        case rel => exact ⟨k + 1, by omega, by go_num, by rw [HF.out]⟩
        case measure => simp [intOf]; omega
    · obtain rfl : k = s.size := by omega
      go_wp2_with fail
      go_ret
      exact ⟨rfl, rfl⟩

end Go.Proofs.YtnmilfkocheaiaaGreatDoor

namespace Go.Proofs.YtnmilfkocheaiaaGreatDoor
open Go.RowKit

theorem Strs.grown {B R : Nat} {w w' : World} {v : Value} {ss : List ByteArray} (h : Strs B w v ss) (hR : R < B) (hg : w.grownBy w' (some R)) : Strs B w' v ss := by
  refine ⟨h.1, ?_⟩
  rcases h.2 with h2 | ⟨g, cap, cur, e, hB, hgb, r⟩
  · exact .inl h2
  · refine .inr ⟨g, cap, cur, e, hB, ?_, r⟩
    exact (hg.block g (Array.getElem?_eq_some_iff.1 hgb).1 (by simp; omega)).trans hgb
theorem Strs.next {B k : Nat} {w w' : World} {v : Value} {ss : List ByteArray} (h : Strs B w v ss) (hb : Below k w w') (hk : w.heap.size ≤ k) : Strs B w' v ss := ownsRow_next h hb hk
theorem Strs.rd2 {B : Nat} {w : World} {a : Option Addr} {cap : Nat} {L : List ByteArray} (h : Strs B w (.slice a L.length cap) L) (hs : L.length ≤ maxLen ∧ ∀ s ∈ L, s.size ≤ maxLen) : RdS w (.slice a L.length cap) L := by
  by_cases h0 : 0 < L.length
  · obtain ⟨g, rfl, -, hsc⟩ := h.sc h0
    exact ⟨some ⟨g, 0, none⟩, g, 0, cap, rfl, fun _ => ⟨rfl, hsc.lt⟩, hs, fun j hj => by rw [Nat.zero_add]; exact hsc.cell hj⟩
  · exact ⟨a, 0, 0, cap, rfl, fun h9 => absurd h9 h0, hs, fun j hj => absurd (Nat.lt_of_le_of_lt (Nat.zero_le j) hj) h0⟩

/-- lines are drawn -/
def GotLn (w : World) (e : Ending) (w' : World) : Prop := ∃ (L : List ByteArray) (a : Option Addr) (cap : Nat), L.length ≤ 6 ∧ (∀ s ∈ L, s.size ≤ 1010) ∧ L.length ≤ cap ∧ e = .returned (.slice a L.length cap) ∧ RdS w' (.slice a L.length cap) L ∧ Below w.heap.size w w'
theorem Strs.cap_le {B : Nat} {w : World} {a : Option Addr} {cap : Nat} {L : List ByteArray} (h : Strs B w (.slice a L.length cap) L) : L.length ≤ cap := by
  rcases h.2 with ⟨e, _⟩ | ⟨g, cap2, cur, e, _, _, hnc, _⟩
  · simp only [Value.slice.injEq] at e; omega
  · simp only [Value.slice.injEq] at e; omega

set_option maxHeartbeats 800000 in
set_option maxRecDepth 100000 in
theorem dDrawRunDesk (a : Option Addr) (b off n cap : Nat) (w : World) (hc : n ≤ cap) (hn : n ≤ 1048576) (hcap : cap ≤ maxLen) (h : Byt w a b off n) :
    Calls Tryz.prog 10 #[.slice a n cap] w (GotLn w) := by
  obtain ⟨i0, hi, hi0, hi1, hi2⟩ := info_parts infoStr
  have HN := Lib.hid (specNewReader a b off n cap w hc hn hcap h)
  clear h hc hn hcap
  go_enter Tryz.func10, Tryz.ntmps10
  go_wp2_with fail
  refine HN.out.mono ?_
  rintro e w1 ⟨rfl, hr, hg⟩
  have HR := Lib.hid (hr.alloc (Obj.cells #[] 9))
  have B := Lib.hid ((show Below w.heap.size w w1 from (Below.refl _ _).grown hg (Nat.le_refl _) (fun k hk => by cases hk)).alloc hg.size (Obj.cells #[] 9))
  have hzw : w.heap.size + 1 ≤ w1.heap.size := hr.2.1
  have HS := Lib.hid (Strs.lit (w.heap.size + 1) w1 hzw)
  generalize hRR : w.heap.size = R at *
  clear hr hg HN
  go_upto_region 3 with (fail)
  generalize (w1.alloc (Obj.cells #[] 9)) = v1 at *
  generalize w1.heap.size = q1 at *
  have HO := Lib.hid (specOneLit (R + 1) R 0 [4, 6, 2, 0] 4 (Obj.cells #[.int .i64 4, .int .i64 6, .int .i64 2, .int .i64 0] 3) rfl (by omega) (by omega) v1 HR.out rfl (by omega) _ rfl)
  go_wp2_with fail
  refine HO.out.mono ?_
  rintro e w2 ⟨⟨i, hi4, rfl⟩, hr2, hg2⟩
  have hm : ∃ m : Nat, m ≤ 6 ∧ ([4, 6, 2, 0] : List Int).getD i 0 = (m : Int) := by
    rcases (show i = 0 ∨ i = 1 ∨ i = 2 ∨ i = 3 by omega) with rfl | rfl | rfl | rfl
    · exact ⟨4, by omega, rfl⟩
    · exact ⟨6, by omega, rfl⟩
    · exact ⟨2, by omega, rfl⟩
    · exact ⟨0, by omega, rfl⟩
  obtain ⟨m, hm6, hme⟩ := hm
  rw [hme]
  replace HR := Lib.hid hr2
  replace HS := Lib.hid (HS.out.grown (Nat.lt_succ_self R) hg2)
  replace B := Lib.hid (B.out.grown hg2 (by have := B.out.size; omega) (fun k hk => by cases hk; omega))
  clear hr2 hg2 HO hme hi4
  go_wp2_with fail
  go_loopw [4, 5] (fun o nn wr => ∃ (k : Nat) (a' : Option Addr) (c' p' : Nat) (L : List ByteArray), nn = .int .i64 k ∧ k ≤ 6 ∧ L.length + k ≤ 6 ∧ o = .slice a' L.length c' ∧ Strs (R + 1) wr (.slice a' L.length c') L ∧ (∀ s ∈ L, s.size ≤ 1010) ∧ p' ≤ 1 + (6 - k) * 100 ∧ Rdr (R + 1) R p' wr ∧ Below R w wr) (fun _ nn _ => (intOf nn).toNat)
  case atStart => exact ⟨m, _, _, 1, [], rfl, hm6, by simpa using hm6, rfl, HS.out, (fun s hs => by simp at hs), by omega, HR.out, B.out⟩
  case round =>
    obtain ⟨k, a', c', p, L, rfl, hk6, hLk, rfl, hst, hLs, hp, hr, hb⟩ := hrel
    replace HR := Lib.hid hr
    replace HS := Lib.hid hst
    replace B := Lib.hid hb
    have HM := Lib.hid hLs
    clear hr hst hb hLs
    by_cases h0 : k = 0
    · subst h0
      have HLl := Lib.hid hLk
      go_wp2_with fail
      go_ret
      exact ⟨L, a', c', by have := HLl.out; omega, HM.out, HS.out.cap_le, rfl, HS.out.rd2 ⟨by have := HLl.out; unfold maxLen; omega, fun s hs => by have := HM.out s hs; unfold maxLen; omega⟩, by rw [hRR]; exact B.out⟩
    · have hkI : (0 : Int) < (k : Int) := by omega
      have HO := Lib.hid (specOfLit (R + 1) R p [(⟨#[118, 99]⟩ : ByteArray), ⟨#[108, 105, 116, 116, 108, 101, 115, 116, 111, 110, 101]⟩, ⟨#[109, 101, 109, 98, 101, 114, 115]⟩, ⟨#[116, 101, 97, 99, 104]⟩, ⟨#[114, 101, 99, 117, 114, 115, 105, 118, 101]⟩, ⟨#[115, 116, 97, 114]⟩, ⟨#[101, 117, 108, 101, 114]⟩, ⟨#[109, 97, 120, 105, 109, 117, 109]⟩, ⟨#[101, 120, 116, 114, 101, 109, 97, 108]⟩, ⟨#[99, 111, 109, 112, 108, 101, 109, 101, 110, 116]⟩, ⟨#[115, 101, 116, 116, 108, 101]⟩] 11 (Obj.cells #[.string ⟨#[118, 99]⟩, .string ⟨#[108, 105, 116, 116, 108, 101, 115, 116, 111, 110, 101]⟩, .string ⟨#[109, 101, 109, 98, 101, 114, 115]⟩, .string ⟨#[116, 101, 97, 99, 104]⟩, .string ⟨#[114, 101, 99, 117, 114, 115, 105, 118, 101]⟩, .string ⟨#[115, 116, 97, 114]⟩, .string ⟨#[101, 117, 108, 101, 114]⟩, .string ⟨#[109, 97, 120, 105, 109, 117, 109]⟩, .string ⟨#[101, 120, 116, 114, 101, 109, 97, 108]⟩, .string ⟨#[99, 111, 109, 112, 108, 101, 109, 101, 110, 116]⟩, .string ⟨#[115, 101, 116, 116, 108, 101]⟩] 9) rfl (by omega) (by omega) wr HR.out rfl _ rfl)
      have hwr := B.out.size
      go_wp2_with fail
      refine HO.out.mono ?_
      rintro e w3 ⟨⟨i, hi11, rfl⟩, hr3, hg3⟩
      have hx1 : (([(⟨#[118, 99]⟩ : ByteArray), ⟨#[108, 105, 116, 116, 108, 101, 115, 116, 111, 110, 101]⟩, ⟨#[109, 101, 109, 98, 101, 114, 115]⟩, ⟨#[116, 101, 97, 99, 104]⟩, ⟨#[114, 101, 99, 117, 114, 115, 105, 118, 101]⟩, ⟨#[115, 116, 97, 114]⟩, ⟨#[101, 117, 108, 101, 114]⟩, ⟨#[109, 97, 120, 105, 109, 117, 109]⟩, ⟨#[101, 120, 116, 114, 101, 109, 97, 108]⟩, ⟨#[99, 111, 109, 112, 108, 101, 109, 101, 110, 116]⟩, ⟨#[115, 101, 116, 116, 108, 101]⟩]).getD i ⟨#[]⟩).size ≤ 11 := by
        rcases (show i = 0 ∨ i = 1 ∨ i = 2 ∨ i = 3 ∨ i = 4 ∨ i = 5 ∨ i = 6 ∨ i = 7 ∨ i = 8 ∨ i = 9 ∨ i = 10 by omega) with rfl | rfl | rfl | rfl | rfl | rfl | rfl | rfl | rfl | rfl | rfl <;> decide
      generalize ([(⟨#[118, 99]⟩ : ByteArray), ⟨#[108, 105, 116, 116, 108, 101, 115, 116, 111, 110, 101]⟩, ⟨#[109, 101, 109, 98, 101, 114, 115]⟩, ⟨#[116, 101, 97, 99, 104]⟩, ⟨#[114, 101, 99, 117, 114, 115, 105, 118, 101]⟩, ⟨#[115, 116, 97, 114]⟩, ⟨#[101, 117, 108, 101, 114]⟩, ⟨#[109, 97, 120, 105, 109, 117, 109]⟩, ⟨#[101, 120, 116, 114, 101, 109, 97, 108]⟩, ⟨#[99, 111, 109, 112, 108, 101, 109, 101, 110, 116]⟩, ⟨#[115, 101, 116, 116, 108, 101]⟩]).getD i ⟨#[]⟩ = X at *
      replace HR := Lib.hid hr3
      replace HS := Lib.hid (HS.out.grown (Nat.lt_succ_self R) hg3)
      replace B := Lib.hid (B.out.grown hg3 (by omega) (fun k hk => by cases hk; omega))
      clear hr3 hg3 HO hi11
      have hno1 : ¬ 9223372036854775807 < X.size + 1 := by omega
      go_wp2_with fail
      refine (specSmallClass (R + 1) R (p + 1) (by omega) _ HR.out).mono ?_
      rintro e w4 ⟨mm, hmm, a2, c2, p2, ns, rfl, hin, hcls, hp2, hr4, hg4⟩
      have hl := hcls.length
      have hp5 := pow_le_32 hmm
      have HT := Lib.hid (fun w h => specClassTextIn mm (.slice a2 ns.length c2) ns w h (by omega) (fun t ht => by have := hcls.lt t ht; omega) (by omega))
      have hsz := ctT_size (m := mm) (ns := ns) (by omega) (fun t ht => by have := hcls.lt t ht; omega) ns.length (Nat.le_refl _)
      have I := Lib.hid hin
      have hw3 := B.out.size
      replace HR := Lib.hid hr4
      replace HS := Lib.hid (HS.out.grown (Nat.lt_succ_self R) hg4)
      replace B := Lib.hid (B.out.grown hg4 (by omega) (fun k hk => by cases hk; omega))
      clear hin hcls hr4 hg4
      go_wp2_with fail
      refine (HT.out _ I.out.rd).mono ?_
      rintro e w5 ⟨rfl, hb5⟩
      have hw4 := B.out.size
      replace HS := Lib.hid (HS.out.next hb5 (Nat.le_refl _))
      replace HR := Lib.hid (HR.out.next hb5 (by have := HR.out.2.1; omega))
      replace B := Lib.hid (B.out.trans (hb5.mono (by omega)))
      generalize ctT mm ns ns.length = CT at *
      have hno2 : ¬ 9223372036854775807 < X.size + 1 + CT.size := by omega
      have hCT : CT.size ≤ 99 := by omega
      have hTl : (X ++ ⟨#[32]⟩ ++ CT).size ≤ 200 := by
        rw [ByteArray.size_append, ByteArray.size_append]
        show X.size + 1 + CT.size ≤ 200
        omega
      have HTX := Lib.hid hTl
      clear hb5 HT I hsz hTl
      go_wp2_with fail
      clear hno1 hno2 hx1 hCT
      have hTs0 := HTX.out
      generalize X ++ ⟨#[32]⟩ ++ CT = T at *
      clear HTX
      refine (specPick (R + 1) R p2 10 (by omega) _ HR.out).mono ?_
      rintro e w6 ⟨⟨y, rfl, _⟩, hr6, hg6⟩
      have hw5 := B.out.size
      replace HR := Lib.hid hr6
      replace HS := Lib.hid (HS.out.grown (Nat.lt_succ_self R) hg6)
      replace B := Lib.hid (B.out.grown hg6 (by omega) (fun k hk => by cases hk; omega))
      clear hr6 hg6
      by_cases hy0 : y = 0
      · subst hy0
        have HO := Lib.hid (specOfLit (R + 1) R (p2 + 1) [(⟨#[]⟩ : ByteArray), ⟨#[104, 101, 108, 112]⟩, ⟨#[118, 99]⟩, ⟨#[118, 99, 32, 120]⟩, ⟨#[119, 97, 108, 107, 32, 50, 58, 49]⟩, ⟨#[115, 116, 97, 114, 32]⟩, ⟨#[101, 117, 108, 101, 114, 32, 57, 58]⟩] 7 (Obj.cells #[.string ⟨#[]⟩, .string ⟨#[104, 101, 108, 112]⟩, .string ⟨#[118, 99]⟩, .string ⟨#[118, 99, 32, 120]⟩, .string ⟨#[119, 97, 108, 107, 32, 50, 58, 49]⟩, .string ⟨#[115, 116, 97, 114, 32]⟩, .string ⟨#[101, 117, 108, 101, 114, 32, 57, 58]⟩] 9) rfl (by omega) (by omega) w6 HR.out rfl _ rfl)
        go_wp2_with fail
        refine HO.out.mono ?_
        rintro e w7 ⟨⟨i, hi7, rfl⟩, hr7, hg7⟩
        clear hTs0
        have hTs : (([(⟨#[]⟩ : ByteArray), ⟨#[104, 101, 108, 112]⟩, ⟨#[118, 99]⟩, ⟨#[118, 99, 32, 120]⟩, ⟨#[119, 97, 108, 107, 32, 50, 58, 49]⟩, ⟨#[115, 116, 97, 114, 32]⟩, ⟨#[101, 117, 108, 101, 114, 32, 57, 58]⟩]).getD i ⟨#[]⟩).size ≤ 1010 := by
          rcases (show i = 0 ∨ i = 1 ∨ i = 2 ∨ i = 3 ∨ i = 4 ∨ i = 5 ∨ i = 6 by omega) with rfl | rfl | rfl | rfl | rfl | rfl | rfl <;> decide
        generalize ([(⟨#[]⟩ : ByteArray), ⟨#[104, 101, 108, 112]⟩, ⟨#[118, 99]⟩, ⟨#[118, 99, 32, 120]⟩, ⟨#[119, 97, 108, 107, 32, 50, 58, 49]⟩, ⟨#[115, 116, 97, 114, 32]⟩, ⟨#[101, 117, 108, 101, 114, 32, 57, 58]⟩]).getD i ⟨#[]⟩ = T at *
        have hw6 := B.out.size
        replace HR := Lib.hid hr7
        replace HS := Lib.hid (HS.out.grown (Nat.lt_succ_self R) hg7)
        replace B := Lib.hid (B.out.grown hg7 (by omega) (fun k hk => by cases hk; omega))
        clear hr7 hg7 HO hi7
        have hw7 := B.out.size
        have hxB : R + 1 ≤ w7.heap.size := HR.out.2.1
        go_wp2_with (at_builtin; refine wpList_append_own _ rfl (.tmp 37) (.tmp 39) 22 rfl (R + 1) 9 i0 (.string ⟨#[]⟩) 1 16 Tryz.underlying22 hi hi0 hi1 hi2 rfl (by decide) _ _ _ rfl (World.ownsRow.alloc HS.out _) ⟨w7.heap.size, 0, none⟩ 1 1 [.string T] rfl rfl (cell_one_new _ _ _) (by simp [Value.oneCell']) (by unfold maxLen; omega) (by omega) (by first | omega | (simp; omega)) ?_; intro v' wz hown' hgrow _)
        obtain ⟨a9, c9, rfl, hS9⟩ := Strs.snoc hown'
        have HS9 := Lib.hid hS9
        have HB9 := Lib.hid ((B.out.alloc (by have := B.out.size; omega) _).grown hgrow (by simp; omega) (fun j hj => by have := HS.out.own hj; omega))
        have HR9 := Lib.hid ((HR.out.alloc (Obj.cells #[.string T] 9)).kept hgrow (fun e => by have := HS.out.own e.symm; omega) (fun j hj => HS.out.own hj))
        clear hS9 hown' hgrow
        have hno7 : IntKind.i64.wrap ((k : Int) - 1) = ((k - 1 : Nat) : Int) := by rw [IntKind.wrap_i64]; omega
        have HT9 := Lib.hid hTs
        clear hTs
        go_wp2_with fail
        go_roundw
        case rel => exact ⟨k - 1, a9, c9, _, L ++ [T], by go_num, by omega, by rw [List.length_append]; simp; omega, rfl, HS9.out, (fun s hs => by rcases List.mem_append.1 hs with hs | hs; exact HM.out s hs; rw [List.mem_singleton] at hs; rw [hs]; exact HT9.out), by omega, HR9.out, HB9.out⟩
        case measure => simp [intOf]; omega

      · have hy0I : ((y : Int) == 0) = false := by simpa using (show ¬ (y : Int) = 0 by omega)
        by_cases hy1 : y = 1
        · subst hy1
          go_wp2_with fail
          refine (specMutate (R + 1) R (p2 + 1) T (by omega) (by omega) _ HR.out).mono ?_
          rintro e w7 ⟨⟨T2, hTs, rfl⟩, hg7, p7, hp7, hr7⟩
          clear hTs0
          have hw6 := B.out.size
          replace HR := Lib.hid hr7
          replace HS := Lib.hid (HS.out.grown (Nat.lt_succ_self R) hg7)
          replace B := Lib.hid (B.out.grown hg7 (by omega) (fun k hk => by cases hk; omega))
          clear hr7 hg7
          have hw7 := B.out.size
          have hxB : R + 1 ≤ w7.heap.size := HR.out.2.1
          go_wp2_with (at_builtin; refine wpList_append_own _ rfl (.tmp 37) (.tmp 39) 22 rfl (R + 1) 9 i0 (.string ⟨#[]⟩) 1 16 Tryz.underlying22 hi hi0 hi1 hi2 rfl (by decide) _ _ _ rfl (World.ownsRow.alloc HS.out _) ⟨w7.heap.size, 0, none⟩ 1 1 [.string T2] rfl rfl (cell_one_new _ _ _) (by simp [Value.oneCell']) (by unfold maxLen; omega) (by omega) (by first | omega | (simp; omega)) ?_; intro v' wz hown' hgrow _)
          obtain ⟨a9, c9, rfl, hS9⟩ := Strs.snoc hown'
          have HS9 := Lib.hid hS9
          have HB9 := Lib.hid ((B.out.alloc (by have := B.out.size; omega) _).grown hgrow (by simp; omega) (fun j hj => by have := HS.out.own hj; omega))
          have HR9 := Lib.hid ((HR.out.alloc (Obj.cells #[.string T2] 9)).kept hgrow (fun e => by have := HS.out.own e.symm; omega) (fun j hj => HS.out.own hj))
          clear hS9 hown' hgrow
          have hno7 : IntKind.i64.wrap ((k : Int) - 1) = ((k - 1 : Nat) : Int) := by rw [IntKind.wrap_i64]; omega
          have HT9 := Lib.hid hTs
          clear hTs
          go_wp2_with fail
          go_roundw
          case rel => exact ⟨k - 1, a9, c9, _, L ++ [T2], by go_num, by omega, by rw [List.length_append]; simp; omega, rfl, HS9.out, (fun s hs => by rcases List.mem_append.1 hs with hs | hs; exact HM.out s hs; rw [List.mem_singleton] at hs; rw [hs]; exact HT9.out), by omega, HR9.out, HB9.out⟩
          case measure => simp [intOf]; omega

        · have hy1I : ((y : Int) == 1) = false := by simpa using (show ¬ (y : Int) = 1 by omega)
          have hTs : T.size ≤ 1010 := by omega
          have hw7 := B.out.size
          have hxB : R + 1 ≤ w6.heap.size := HR.out.2.1
          go_wp2_with (at_builtin; refine wpList_append_own _ rfl (.tmp 37) (.tmp 39) 22 rfl (R + 1) 9 i0 (.string ⟨#[]⟩) 1 16 Tryz.underlying22 hi hi0 hi1 hi2 rfl (by decide) _ _ _ rfl (World.ownsRow.alloc HS.out _) ⟨w6.heap.size, 0, none⟩ 1 1 [.string T] rfl rfl (cell_one_new _ _ _) (by simp [Value.oneCell']) (by unfold maxLen; omega) (by omega) (by first | omega | (simp; omega)) ?_; intro v' wz hown' hgrow _)
          obtain ⟨a9, c9, rfl, hS9⟩ := Strs.snoc hown'
          have HS9 := Lib.hid hS9
          have HB9 := Lib.hid ((B.out.alloc (by have := B.out.size; omega) _).grown hgrow (by simp; omega) (fun j hj => by have := HS.out.own hj; omega))
          have HR9 := Lib.hid ((HR.out.alloc (Obj.cells #[.string T] 9)).kept hgrow (fun e => by have := HS.out.own e.symm; omega) (fun j hj => HS.out.own hj))
          clear hS9 hown' hgrow
          have hno7 : IntKind.i64.wrap ((k : Int) - 1) = ((k - 1 : Nat) : Int) := by rw [IntKind.wrap_i64]; omega
          have HT9 := Lib.hid hTs
          clear hTs
          go_wp2_with fail
          go_roundw
          case rel => exact ⟨k - 1, a9, c9, _, L ++ [T], by go_num, by omega, by rw [List.length_append]; simp; omega, rfl, HS9.out, (fun s hs => by rcases List.mem_append.1 hs with hs | hs; exact HM.out s hs; rw [List.mem_singleton] at hs; rw [hs]; exact HT9.out), by omega, HR9.out, HB9.out⟩
          case measure => simp [intOf]; omega


end Go.Proofs.YtnmilfkocheaiaaGreatDoor

namespace Go.Proofs.YtnmilfkocheaiaaGreatDoor
open Go.RowKit

set_option maxHeartbeats 400000 in
set_option maxRecDepth 100000 in
theorem walkFnRunDesk (x y : Addr) (a : Option Addr) (b off n cap : Nat) (w : World) (hc : n ≤ cap) (hcap : cap ≤ maxLen) (h : Byt w a b off n) (hd : Dq x y w) :
    Calls Tryz.prog 4 #[.slice a n cap] w fun e w' => e = .returned (.bool true) ∧ Below w.heap.size w w' := by
  have HD := Lib.hid (fun w' (hb : Below w.heap.size w w') => hd.below hb (Nat.le_refl _))
  clear hd
  by_cases hn : n ≤ 1048576
  · have HDr := Lib.hid (dDrawRunDesk a b off n cap w hc hn hcap h)
    clear h
    go_enter Tryz.func4, Tryz.ntmps4
    go_wp2_with fail
    refine HDr.out.mono ?_
    rintro e w1 ⟨L, a1, c1, hl6, hsz, hLc, rfl, hrd, hb1⟩
    have B := Lib.hid hb1
    have RS := Lib.hid hrd
    have HI := Lib.hid (fun v L' (hs : ∀ s ∈ L', s.size ≤ 1048576) w h hd => implRunDesk x y v L' w h hs hd)
    have HS := Lib.hid (fun v w h => specRunDesk v L w h (fun s hs => by have := hsz s hs; omega))
    have HM := Lib.hid hsz
    have HL6 := Lib.hid hl6
    have hE : dskB L = dskTo L L.length := by rw [dskB, if_pos (by omega)]
    rw [hE] at HS
    clear hrd hb1 HDr hsz
    go_wp2_with fail
    refine (HI.out _ L (fun s hs => by have := HM.out s hs; omega) _ RS.out (HD.out _ B.out)).mono ?_
    rintro e w2 ⟨rfl, hb2⟩
    rw [hE]
    replace RS := Lib.hid (RS.out.below hb2 (Nat.le_refl _))
    replace B := Lib.hid (B.out.trans (hb2.mono B.out.size))
    have hds := dskTo_size L L.length
    have HCut := Lib.hid (fun k (hk : k ≤ L.length) => dsk_cut (L := L) hk)
    have HTk := Lib.hid (fun k (hk : k ≤ L.length) => dskB_take (L := L) hk (by omega))
    have HNl := Lib.hid (dsk_nl L L.length)
    have HNe := Lib.hid (fun h => dsk_ne (L := L) h)
    have HLz := Lib.hid (fun (h : L.length = 0) => show dskTo L L.length = ⟨#[]⟩ by rw [h]; rfl)
    clear hb2 hE
    by_cases h0 : L.length = 0
    · have hD0 := HLz.out h0
      have hte : (dskTo L L.length).toList.isEmpty = true := (decide_eq_emptyBytes _).symm.trans (decide_eq_true (show dskTo L L.length = ByteArray.empty from hD0))
      clear HNl HNe HLz HTk HCut hD0 hds h0
      generalize dskTo L L.length = D at *
      go_wp2_with fail
      refine (HS.out _ _ RS.out).mono ?_
      rintro e w3 ⟨rfl, hb3⟩
      replace RS := Lib.hid (RS.out.below hb3 (Nat.le_refl _))
      replace B := Lib.hid (B.out.trans (hb3.mono B.out.size))
      clear hb3
      go_wp2_with fail
      refine (HS.out _ _ RS.out).mono ?_
      rintro e w4 ⟨rfl, hb4⟩
      replace B := Lib.hid (B.out.trans (hb4.mono B.out.size))
      clear hb4
      go_wp2_with fail
      go_ret
      exact ⟨rfl, B.out⟩
    · have hD0 := HNe.out (by omega)
      have hte : (dskTo L L.length).toList.isEmpty = false := (decide_eq_emptyBytes _).symm.trans (decide_eq_false (show ¬ dskTo L L.length = ByteArray.empty from hD0))
      clear HNe HLz hD0 h0
      obtain ⟨D, hD⟩ : ∃ D, D = dskTo L L.length := ⟨_, rfl⟩
      rw [← hD] at HS HNl hte hds HCut ⊢
      clear hD
      go_wp2_with fail
      refine (HS.out _ _ RS.out).mono ?_
      rintro e w3 ⟨rfl, hb3⟩
      replace RS := Lib.hid (RS.out.below hb3 (Nat.le_refl _))
      replace B := Lib.hid (B.out.trans (hb3.mono B.out.size))
      clear hb3
      go_wp2_with fail
      go_loopw [5] (fun i wr => ∃ k : Nat, k ≤ L.length + 1 ∧ i = .int .i64 k ∧ RdS wr (.slice a1 L.length c1) L ∧ Below w.heap.size w wr) (fun i _ => L.length + 1 - (intOf i).toNat)
      case atStart => exact ⟨0, Nat.zero_le _, rfl, RS.out, B.out⟩
      case round =>
        obtain ⟨k, hk, rfl, hrs, hbl⟩ := hrel
        replace RS := Lib.hid hrs
        replace B := Lib.hid hbl
        clear hrs hbl
        by_cases hlt : k ≤ L.length
        · have hki : (k : Int) ≤ (L.length : Int) := by omega
          have hkc : (k : Int) ≤ (c1 : Int) := by omega
          have hka := HTk.out k hlt
          obtain ⟨hs1, hs2⟩ := HCut.out k hlt
          have HRk := Lib.hid (fun c => RS.out.take k c hlt)
          have HMk := Lib.hid (fun s (hs : s ∈ L.take k) => show s.size ≤ 1048576 by have := HM.out s (List.mem_of_mem_take hs); omega)
          have HIk := Lib.hid (fun v w h hd => HI.out v (L.take k) HMk.out w h hd)
          rw [hka] at HIk
          generalize L.take k = Lk at *
          generalize dskTo L k = Dk at *
          have hsI : ¬ (D.size : Int) < (Dk.size : Int) := by omega
          have hsJ : (Dk.size : Int) ≤ (D.size : Int) := by omega
          have hex := fun w => run_str_h w D Dk.size hs1
          rw [hs2] at hex
          have hq := ba_eq (rfl : Dk = Dk)
          clear hka hs1 hs2
          go_wp2_with fail
          refine (HIk.out _ _ (HRk.out _) (HD.out _ B.out)).mono ?_
          rintro e w4 ⟨rfl, hb4⟩
          replace RS := Lib.hid (RS.out.below hb4 (Nat.le_refl _))
          replace B := Lib.hid (B.out.trans (hb4.mono B.out.size))
          clear hb4 HRk
          go_wp2_with fail
          go_roundw
          case rel => exact ⟨k + 1, by omega, by go_num, RS.out, B.out⟩
          case measure => simp [intOf]; omega
        · have hki : ¬ (k : Int) ≤ (L.length : Int) := by omega
          have HNw := Lib.hid (lawsNewlines D (by omega) wr)
          rw [HNl.out] at HNw
          go_wp2_with fail
          refine HNw.out.mono ?_
          rintro e w4 ⟨rfl, rfl⟩
          go_wp2_with fail
          go_ret
          exact ⟨rfl, B.out⟩
  · go_enter Tryz.func4, Tryz.ntmps4
    go_wp2_with fail
    go_ret
    exact ⟨rfl, Below.refl _ _⟩

end Go.Proofs.YtnmilfkocheaiaaGreatDoor

namespace Go.Proofs.YtnmilfkocheaiaaGreatDoor
open Go.ChangeShapes Go.WideShapes Go.ChangeAt Go.RowKit Go.Joins

theorem cells8 : Tryz.prog.cellsOf 5 = 1 := by kernel_rfl
set_option maxRecDepth 100000 in
theorem open_code {H : Type} {enc : TypeId × Value → H} {W : World} {base : Nat} {v0 : Value} {d0 : DataW H} {p0 : List MemPlace} (hv : Value.okWide Tryz.prog W .any base 28 v0)
    (h0 : DataW.Trod enc Tryz.prog W 0 (fun _ => true) true 28 v0 d0 p0) (hlt : ∀ x ∈ p0, x.block < W.heap.size) : ∃ (a : Option Addr) (b off n cap : Nat), v0 = .slice a n cap ∧ n ≤ cap ∧ cap ≤ maxLen ∧ Byt W a b off n := by
  obtain ⟨a, len, cap, rfl⟩ := okWide_slice Tryz.underlying28 hv
  obtain ⟨fuel, hf⟩ := h0
  rcases open_ints Tryz.underlying28 Tryz.underlying5 cells8 hf with ⟨hcs, hx⟩ | ⟨a', len', cap', zs, hcs, _, hl, hm, hz, hx, hcell, hwz⟩
  · simp only [Value.cells, List.cons.injEq, Value.slice.injEq, and_true] at hcs
    obtain ⟨rfl, rfl, rfl⟩ := hcs
    exact ⟨none, 0, 0, 0, 0, rfl, Nat.le_refl _, Nat.zero_le _, fun h => by omega, fun j hj => by omega⟩
  · simp only [Value.cells, List.cons.injEq, Value.slice.injEq, and_true] at hcs
    obtain ⟨rfl, rfl, rfl⟩ := hcs
    simp only [if_true] at hz
    simp only [Prod.mk.injEq] at hx
    obtain ⟨_, rfl⟩ := hx
    obtain ⟨b, off, spot⟩ := a'
    by_cases h0 : len = 0
    · subst h0
      exact ⟨some ⟨b, off, spot⟩, b, off, 0, cap, rfl, Nat.zero_le _, hm, fun h => by omega, fun j hj => by omega⟩
    · have hspot : spot = none := by simpa [Addr.add] using World.cell?_spot (hcell 0 (by omega))
      subst hspot
      refine ⟨some ⟨b, off, none⟩, b, off, len, cap, rfl, hl, hm, fun _ => ⟨rfl, ?_⟩, fun j hj => ?_⟩
      · exact hlt (.cell b off) (MemPlace.mem_row.2 ⟨0, by omega, by simp⟩)
      · have := hcell j (by omega)
        rw [add_plain] at this
        have hw := hwz (zs.getD j 0) (by rw [List.getD_eq_getElem?_getD, List.getElem?_eq_getElem (by omega)]; exact List.getElem_mem _)
        have h1 : IntKind.u8.min = 0 := rfl
        have h2 : IntKind.u8.max = 255 := rfl
        simp only [Lit.wf, Bool.and_eq_true, decide_eq_true_eq] at hw
        refine ⟨(zs.getD j 0).toNat, by omega, ?_⟩
        rw [Int.toNat_of_nonneg (by omega)]
        exact this

end Go.Proofs.YtnmilfkocheaiaaGreatDoor
