/- The mathematics of reading a class's text: the model and the program read the same class off every text. No conditions. -/
import Derived.Lib.Split
import Derived.Test.YtkamocciaaapmaaDoorNumO
import Derived.Test.YtkamocciaaapmaaDoorSplS
namespace Go.Proofs.YtkamocciaaapmaaDoor
open Go.RowKit

/-- a list cut at a byte, behind what is done -/
def sqA (c : Nat) : List (List UInt8) → List UInt8 → List UInt8 → List (List UInt8)
  | acc, cur, [] => acc ++ [cur]
  | acc, cur, x :: l => if x.toNat = c then sqA c (acc ++ [cur]) [] l else sqA c acc (cur ++ [x]) l
theorem sqA_none (c : Nat) : ∀ (l : List UInt8) (acc : List (List UInt8)) (cur : List UInt8), (∀ x ∈ l, ¬ x.toNat = c) → sqA c acc cur l = acc ++ [cur ++ l]
  | [], acc, cur, _ => by rw [sqA, List.append_nil]
  | x :: l, acc, cur, h => by
    rw [sqA, if_neg (h x (List.mem_cons_self ..)), sqA_none c l acc (cur ++ [x]) (fun y hy => h y (List.mem_cons_of_mem _ hy)), List.append_assoc]
    rfl
theorem sqA_hit (c : Nat) (d : UInt8) (hd : d.toNat = c) (r : List UInt8) : ∀ (l : List UInt8) (acc : List (List UInt8)) (cur : List UInt8), (∀ x ∈ l, ¬ x.toNat = c) → sqA c acc cur (l ++ d :: r) = sqA c (acc ++ [cur ++ l]) [] r
  | [], acc, cur, _ => by rw [List.nil_append, sqA, if_pos hd, List.append_nil]
  | x :: l, acc, cur, h => by
    rw [List.cons_append, sqA, if_neg (h x (List.mem_cons_self ..)), sqA_hit c d hd r l acc (cur ++ [x]) (fun y hy => h y (List.mem_cons_of_mem _ hy)), List.append_assoc]
    rfl
theorem sqA_join (d : UInt8) : ∀ (l : List UInt8) (acc : List (List UInt8)) (cur : List UInt8), Lib.join (sqA d.toNat acc cur l) [d] = Lib.join (acc ++ [cur]) [d] ++ l
  | [], acc, cur => by rw [sqA, List.append_nil]
  | x :: l, acc, cur => by
    rw [sqA]
    by_cases h : x.toNat = d.toNat
    · have hx : x = d := UInt8.toNat_inj.1 h
      rw [if_pos h, sqA_join d l, join_snoc, if_neg (by simp), hx]
      simp
    · rw [if_neg h, sqA_join d l, join_snoc, join_snoc]
      split <;> simp
theorem sqA_len (c : Nat) : ∀ (l : List UInt8) (acc : List (List UInt8)) (cur : List UInt8), acc.length + 1 ≤ (sqA c acc cur l).length
  | [], acc, cur => by rw [sqA]; simp
  | x :: l, acc, cur => by
    rw [sqA]
    split
    · have := sqA_len c l (acc ++ [cur]) []; simp at this; omega
    · exact sqA_len c l acc (cur ++ [x])

theorem ext_list (s : ByteArray) (f k : Nat) : (s.extract f k).data.toList = (s.data.toList.drop f).take (k - f) := by
  rw [Lib.extract_data]
theorem spL_sqK (s : ByteArray) (c : Nat) : ∀ k, k ≤ s.size → sqA c [] [] s.data.toList = sqA c ((spP s c k).map (·.data.toList)) ((s.data.toList.drop (spF s c k)).take (k - spF s c k)) (s.data.toList.drop k)
  | 0, _ => by simp [spP, spF]
  | k + 1, hk => by
    have hlt : k < s.data.toList.length := by rw [Array.length_toList]; exact hk
    have hf := spF_le s c k
    rw [spL_sqK s c k (by omega), List.drop_eq_getElem_cons hlt, sqA, spP, spF, List.getD_eq_getElem?_getD, List.getElem?_eq_getElem hlt, Option.getD_some]
    by_cases h : (s.data.toList[k]).toNat = c
    · rw [if_pos h, if_pos h, if_pos h, List.map_append, List.map_cons, List.map_nil, ext_list, Nat.sub_self, List.take_zero]
    · rw [if_neg h, if_neg h, if_neg h, Nat.succ_sub hf, List.take_add_one, List.getElem?_drop, Nat.add_sub_cancel' hf, List.getElem?_eq_getElem hlt]
      rfl
theorem spL_sq (s : ByteArray) (c : Nat) : (spL s c).map (·.data.toList) = sqA c [] [] s.data.toList := by
  have hz : s.data.toList.drop s.size = [] := List.drop_of_length_le (by rw [Array.length_toList]; exact Nat.le_refl _)
  rw [spL_sqK s c s.size (Nat.le_refl _), hz, sqA, spL, List.map_append, List.map_cons, List.map_nil, ext_list]
theorem ba_ext {a b : ByteArray} (h : a.data.toList = b.data.toList) : a = b := ByteArray.ext (Array.toList_inj.1 h)
theorem map_dl_inj : ∀ {a b : List ByteArray}, a.map (·.data.toList) = b.map (·.data.toList) → a = b
  | [], [], _ => rfl
  | [], _ :: _, h => by simp at h
  | _ :: _, [], h => by simp at h
  | x :: a, y :: b, h => by
    simp only [List.map_cons, List.cons.injEq] at h
    rw [ba_ext h.1, map_dl_inj h.2]

/-- where a byte first stands -/
theorem idx_none (c : UInt8) : ∀ (l : List UInt8), (∀ x ∈ l, ¬ x = c) → Lib.index l [c] = -1
  | [], _ => rfl
  | x :: l, h => by
    have h1 := h x (List.mem_cons_self ..)
    rw [Lib.index, idx_none c l (fun y hy => h y (List.mem_cons_of_mem _ hy))]
    have : ([c] : List UInt8).isPrefixOf (x :: l) = false := by simp [List.isPrefixOf, Ne.symm h1]
    rw [this]
    rfl
theorem idx_hit (c : UInt8) (r : List UInt8) : ∀ (l : List UInt8), (∀ x ∈ l, ¬ x = c) → Lib.index (l ++ c :: r) [c] = l.length
  | [], _ => by
    rw [List.nil_append, Lib.index, if_pos (by simp [List.isPrefixOf])]
    rfl
  | x :: l, h => by
    have h1 := h x (List.mem_cons_self ..)
    rw [List.cons_append, Lib.index, idx_hit c r l (fun y hy => h y (List.mem_cons_of_mem _ hy))]
    have h2 : ([c] : List UInt8).isPrefixOf (x :: (l ++ c :: r)) = false := by simp [List.isPrefixOf, Ne.symm h1]
    have h3 : ((l.length : Int) == -1) = false := beq_eq_false_iff_ne.2 (by omega)
    rw [h2, h3, List.length_cons]
    simp
theorem joinTail_app (x : List UInt8) (r : List (List UInt8)) (sep : List UInt8) : Lib.join (x :: r) sep = if r = [] then x else x ++ (sep ++ Lib.join r sep) := by
  cases r with
  | nil => rw [if_pos rfl]; exact Lib.join_one x sep
  | cons y r => rw [if_neg (by simp), Lib.join_cons, Lib.join_cons]; simp [Lib.joinTail]
theorem sqA_list (c : UInt8) : ∀ (L acc : List (List UInt8)), L ≠ [] → (∀ l ∈ L, ∀ x ∈ l, ¬ x = c) → sqA c.toNat acc [] (Lib.join L [c]) = acc ++ L
  | [], _, h, _ => absurd rfl h
  | l :: r, acc, _, h => by
    have h1 : ∀ x ∈ l, ¬ x.toNat = c.toNat := fun x hx h9 => h l (List.mem_cons_self ..) x hx (UInt8.toNat_inj.1 h9)
    rw [joinTail_app]
    by_cases h0 : r = []
    · subst h0
      rw [if_pos rfl, sqA_none _ _ _ _ h1, List.nil_append]
    · rw [if_neg h0, List.singleton_append, sqA_hit c.toNat c rfl _ l acc [] h1, sqA_list c r _ h0 (fun l hl => h l (List.mem_cons_of_mem _ hl)), List.nil_append, List.append_assoc]
      rfl
theorem splK_list (c : UInt8) : ∀ (L : List (List UInt8)), L ≠ [] → (∀ l ∈ L, ∀ x ∈ l, ¬ x = c) → Lib.splitK [c] 0 (Lib.count (Lib.join L [c]) [c]) (Lib.join L [c]) = L
  | [], h, _ => absurd rfl h
  | l :: r, _, h => by
    have h1 := h l (List.mem_cons_self ..)
    rw [joinTail_app]
    by_cases h0 : r = []
    · subst h0
      rw [if_pos rfl, Lib.count_miss (idx_none c l h1), Lib.splitK]
    · have hi := idx_hit c (Lib.join r [c]) l h1
      have hd : (l ++ c :: Lib.join r [c]).drop (l.length + 1) = Lib.join r [c] := by
        rw [List.drop_append, List.drop_of_length_le (by omega)]
        simp
      rw [if_neg h0, List.singleton_append, Lib.count_hit (by simp) hi, Nat.add_comm 1, Lib.splitK, hi, if_neg (by rw [beq_iff_eq]; omega), Int.toNat_natCast, List.length_cons, List.length_nil, Nat.zero_add, hd, splK_list c r h0 (fun l hl => h l (List.mem_cons_of_mem _ hl))]
      simp

/-- numbers below 100 -/
theorem dig_two (k : Nat) (hk : k < 100) (h : ¬ k < 10) : Lib.decDigits k = [UInt8.ofNat (48 + k / 10), UInt8.ofNat (48 + k % 10)] := by
  rw [dig100 k h, dig10 (k / 10) (by omega), dig10 (k % 10) (by omega)]
  rfl
theorem dig_byte (k : Nat) (hk : k < 100) : ∀ x ∈ Lib.decDigits k, 48 ≤ x.toNat ∧ x.toNat ≤ 57 := by
  have h9 : ∀ i, i < 10 → 48 ≤ (UInt8.ofNat (48 + i)).toNat ∧ (UInt8.ofNat (48 + i)).toNat ≤ 57 := by decide
  by_cases h : k < 10
  · rw [dig10 k h]
    intro x hx
    rw [List.mem_singleton] at hx
    rw [hx]
    exact h9 k h
  · rw [dig_two k hk h]
    intro x hx
    rw [List.mem_cons, List.mem_singleton] at hx
    rcases hx with rfl | rfl
    · exact h9 _ (by omega)
    · exact h9 _ (by omega)
theorem dig_ne (k : Nat) (hk : k < 100) : Lib.decDigits k ≠ [] := by
  by_cases h : k < 10
  · rw [dig10 k h]; simp
  · rw [dig_two k hk h]; simp
theorem numO_nb (k : Nat) (hk : k < 100) : numO (nb k) = k := by
  have e : (nb k).data.toList = Lib.decDigits k := rfl
  rw [numO, e]
  by_cases h : k < 10
  · have : ∀ i, i < 10 → Lib.atoiAll [UInt8.ofNat (48 + i)] = .ok (i : Int) := by decide
    rw [dig10 k h, this k h]
  · have : ∀ i, i < 10 → ∀ j, j < 10 → Lib.atoiAll [UInt8.ofNat (48 + i), UInt8.ofNat (48 + j)] = .ok ((10 * i + j : Nat) : Int) := by decide
    rw [dig_two k hk h, this (k / 10) (by omega) (k % 10) (by omega), show 10 * (k / 10) + k % 10 = k by omega]
theorem rdN_nb (k : Nat) (hk : k < 100) : rdN (nb k) = k := by
  have e : (nb k).data.toList = Lib.decDigits k := rfl
  have hn : ¬ nb k = ⟨#[]⟩ := fun h => dig_ne k hk (e.symm.trans (by rw [h]))
  have hz : (nb k).size = (Lib.decDigits k).length := by simp [nb, ByteArray.size]
  have hr : rdTo (nb k).data.toList (nb k).size = some k := by
    rw [e, hz]
    by_cases h : k < 10
    · have : ∀ i, i < 10 → rdTo [UInt8.ofNat (48 + i)] 1 = some i := by decide
      rw [dig10 k h]
      exact this k h
    · have : ∀ i, i < 10 → ∀ j, j < 10 → rdTo [UInt8.ofNat (48 + i), UInt8.ofNat (48 + j)] 2 = some (10 * i + j) := by decide
      rw [dig_two k hk h]
      exact (this (k / 10) (by omega) (k % 10) (by omega)).trans (by rw [show 10 * (k / 10) + k % 10 = k by omega])
  rw [rdN, hr]
  exact if_neg (by rintro (h | h); exact hn h; exact h rfl)
theorem rdN_is {s : ByteArray} {k : Nat} (h : rdN s = k) : s = nb k := by
  rw [rdN] at h
  split at h
  · omega
  · split at h
    · omega
    · rename_i n _ hc
      have : n = k := by omega
      subst this
      exact (Decidable.not_not.1 (fun h9 => hc (Or.inr h9))).symm

/-- what the model reads off a text -/
def zsM (t : ByteArray) : List Int := if t = ⟨#[]⟩ then [] else (spL t 44).map rdN
def pM (s : ByteArray) : Option (Int × List Int) :=
  if (spL s 58).length = 2 then
    if vldB (rdN ((spL s 58).getD 0 ⟨#[]⟩)) (zsM ((spL s 58).getD 1 ⟨#[]⟩)) = true then some (rdN ((spL s 58).getD 0 ⟨#[]⟩), zsM ((spL s 58).getD 1 ⟨#[]⟩)) else none
  else none
/-- what the program reads off a text -/
def cutH (s : ByteArray) : ByteArray := ⟨(Lib.cut s.data.toList [58]).1.toArray⟩
def cutT (s : ByteArray) : ByteArray := ⟨(Lib.cut s.data.toList [58]).2.1.toArray⟩
def spB (t : ByteArray) : List ByteArray := Lib.splitB ⟨#[44]⟩ 0 (Lib.countB t ⟨#[44]⟩) t
def zsI (t : ByteArray) : List Int := if t = ⟨#[]⟩ then [] else (spB t).map numO
def pI (s : ByteArray) : Option (Int × List Int) :=
  if vldB (numO (cutH s)) (zsI (cutT s)) = true ∧ ctB (numO (cutH s)) (zsI (cutT s)) = s then some (numO (cutH s), zsI (cutT s)) else none

theorem map_nat {α : Type} (f : α → Int) (g : Nat → α) (hfg : ∀ k, k < 100 → f (g k) = k) : ∀ (ns : List Nat), (∀ t ∈ ns, t < 100) → (ns.map g).map f = toI ns
  | [], _ => rfl
  | t :: ns, h => by
    have h1 := map_nat f g hfg ns (fun t ht => h t (List.mem_cons_of_mem _ ht))
    simp only [List.map_cons, toI] at h1 ⊢
    rw [h1, hfg t (h t (List.mem_cons_self ..))]
theorem map_rd : ∀ (L : List ByteArray) (ns : List Nat), L.map rdN = toI ns → L = ns.map nb
  | [], [], _ => rfl
  | [], _ :: _, h => by simp [toI] at h
  | _ :: _, [], h => by simp [toI] at h
  | x :: L, t :: ns, h => by
    simp only [List.map_cons, toI, List.cons.injEq] at h
    rw [List.map_cons, rdN_is h.1, map_rd L ns h.2]
theorem map_nb_dl (ns : List Nat) : (ns.map nb).map (·.data.toList) = ns.map Lib.decDigits := by rw [List.map_map]; rfl
theorem ctB_list {m : Nat} {ns : List Nat} (h : vldB m (toI ns) = true) : (ctB m (toI ns)).data.toList = Lib.decDigits m ++ 58 :: Lib.join (ns.map Lib.decDigits) [44] := by
  rw [ctB_in h, ctT_eq m ns ns.length (Nat.le_refl _), List.take_length]
  simp
theorem join_nil_iff (ns : List Nat) (h : ∀ t ∈ ns, t < 100) (h0 : Lib.join (ns.map Lib.decDigits) [44] = []) : ns = [] := by
  cases ns with
  | nil => rfl
  | cons t r =>
    rw [List.map_cons, Lib.join_cons] at h0
    exact absurd (List.append_eq_nil_iff.1 h0).1 (dig_ne t (h t (List.mem_cons_self ..)))
theorem vld_lt {m : Nat} {ns : List Nat} (h : vldB m (toI ns) = true) : m < 100 ∧ ∀ t ∈ ns, t < 100 := by
  obtain ⟨m', ns', e1, e2, hc⟩ := vldB_cls h
  have e1 : m = m' := by omega
  have e2 : ns = ns' := by
    have := congrArg (List.map Int.toNat) e2
    rwa [toNat_toI, toNat_toI] at this
  subst e1 e2
  have hm := hc.pts
  exact ⟨by omega, fun t ht => by have := hc.lt t ht; have := pow_le_32 hm; omega⟩
theorem join_no (ns : List Nat) (h : ∀ t ∈ ns, t < 100) : ∀ x ∈ Lib.join (ns.map Lib.decDigits) [44], ¬ x.toNat = 58 := by
  induction ns with
  | nil => intro x hx; simp [Lib.join] at hx
  | cons t r ih =>
    rw [List.map_cons, joinTail_app]
    have h1 := dig_byte t (h t (List.mem_cons_self ..))
    split
    · intro x hx; have := h1 x hx; omega
    · intro x hx
      rw [List.mem_append, List.singleton_append, List.mem_cons] at hx
      rcases hx with hx | rfl | hx
      · have := h1 x hx; omega
      · decide
      · exact ih (fun t ht => h t (List.mem_cons_of_mem _ ht)) x hx
theorem pM_back (m : Nat) (ns : List Nat) (h : vldB m (toI ns) = true) : pM (ctB m (toI ns)) = some ((m : Int), toI ns) := by
  obtain ⟨hm, hns⟩ := vld_lt h
  have hl := ctB_list h
  generalize ctB (m : Int) (toI ns) = s at *
  have hd := dig_byte m hm
  have h1 : (spL s 58).map (·.data.toList) = [Lib.decDigits m, Lib.join (ns.map Lib.decDigits) [44]] := by
    rw [spL_sq, hl, sqA_hit 58 58 rfl _ _ _ _ (fun x hx => by have := hd x hx; omega), sqA_none 58 _ _ _ (join_no ns hns)]
    rfl
  have h2 : spL s 58 = [nb m, ⟨(Lib.join (ns.map Lib.decDigits) [44]).toArray⟩] := map_dl_inj (by rw [h1]; rfl)
  have hz : zsM ⟨(Lib.join (ns.map Lib.decDigits) [44]).toArray⟩ = toI ns := by
    rw [zsM]
    by_cases h0 : ns = []
    · subst h0
      rw [if_pos (by rfl)]
      rfl
    · rw [if_neg (fun h9 => h0 (join_nil_iff ns hns (by have := congrArg (fun b : ByteArray => b.data.toList) h9; simpa using this)))]
      have h3 : spL ⟨(Lib.join (ns.map Lib.decDigits) [44]).toArray⟩ 44 = ns.map nb := map_dl_inj (by
        rw [spL_sq, map_nb_dl]
        refine (sqA_list 44 (ns.map Lib.decDigits) [] (by simpa using h0) (fun l hl x hx h9 => ?_))
        obtain ⟨t, ht, rfl⟩ := List.mem_map.1 hl
        have := dig_byte t (hns t ht) x hx
        rw [h9] at this
        revert this
        decide)
      rw [h3, map_nat rdN nb rdN_nb ns hns]
  rw [pM, h2, if_pos (show ([nb m, ⟨(Lib.join (ns.map Lib.decDigits) [44]).toArray⟩] : List ByteArray).length = 2 from rfl), show ([nb m, ⟨(Lib.join (ns.map Lib.decDigits) [44]).toArray⟩] : List ByteArray).getD 0 ⟨#[]⟩ = nb m from rfl, show ([nb m, ⟨(Lib.join (ns.map Lib.decDigits) [44]).toArray⟩] : List ByteArray).getD 1 ⟨#[]⟩ = ⟨(Lib.join (ns.map Lib.decDigits) [44]).toArray⟩ from rfl, hz, rdN_nb m hm, if_pos h]
theorem pM_text {s : ByteArray} {n : Int} {zs : List Int} (h : pM s = some (n, zs)) : vldB n zs = true ∧ ctB n zs = s := by
  rw [pM] at h
  split at h
  · rename_i h2
    split at h
    · rename_i hv
      simp only [Option.some.injEq, Prod.mk.injEq] at h
      obtain ⟨rfl, rfl⟩ := h
      refine ⟨hv, ?_⟩
      obtain ⟨a, b, hab⟩ : ∃ a b, spL s 58 = [a, b] := by
        match hL : spL s 58, h2 with
        | [a, b], _ => exact ⟨a, b, rfl⟩
      have hj := sqA_join 58 s.data.toList [] []
      rw [show (58 : UInt8).toNat = 58 from rfl, ← spL_sq, hab] at hj
      rw [hab] at hv ⊢
      simp only [List.getD_cons_zero, List.getD_cons_succ] at hv ⊢
      obtain ⟨m, ns, e1, e2, -⟩ := vldB_cls hv
      rw [e1, e2] at hv ⊢
      have ha := rdN_is e1
      refine ba_ext ?_
      rw [ctB_list hv]
      have hj2 : a.data.toList ++ 58 :: b.data.toList = s.data.toList := by
        simpa [Lib.join, Lib.joinTail] using hj
      rw [← hj2, ha]
      have hb : Lib.join (ns.map Lib.decDigits) [44] = b.data.toList := by
        rw [zsM] at e2
        by_cases h0 : b = ⟨#[]⟩
        · rw [if_pos h0] at e2
          have : ns = [] := by cases ns with | nil => rfl | cons t r => simp [toI] at e2
          rw [this, h0]
          rfl
        · rw [if_neg h0] at e2
          have h4 := map_rd _ _ e2
          have h5 := sqA_join 44 b.data.toList [] []
          rw [show (44 : UInt8).toNat = 44 from rfl, ← spL_sq, h4, map_nb_dl] at h5
          rw [h5]
          rfl
      rw [hb]
      rfl
    · cases h
  · cases h
theorem pI_back (m : Nat) (ns : List Nat) (h : vldB m (toI ns) = true) : pI (ctB m (toI ns)) = some ((m : Int), toI ns) := by
  obtain ⟨hm, hns⟩ := vld_lt h
  have hl := ctB_list h
  generalize hs : ctB (m : Int) (toI ns) = s at hl ⊢
  have hd := dig_byte m hm
  have hcut : Lib.cut s.data.toList [58] = (Lib.decDigits m, Lib.join (ns.map Lib.decDigits) [44], true) := by
    have hi := idx_hit 58 (Lib.join (ns.map Lib.decDigits) [44]) (Lib.decDigits m) (fun x hx h9 => by have := hd x hx; rw [h9] at this; revert this; decide)
    rw [hl, Lib.cut, hi, if_pos (by omega), Int.toNat_natCast]
    rw [List.take_append_of_le_length (Nat.le_refl _), List.take_length, List.drop_append, List.drop_of_length_le (by simp)]
    simp
  have h1 : cutH s = nb m := by rw [cutH, hcut]; rfl
  have h2 : cutT s = ⟨(Lib.join (ns.map Lib.decDigits) [44]).toArray⟩ := by rw [cutT, hcut]
  have hz : zsI ⟨(Lib.join (ns.map Lib.decDigits) [44]).toArray⟩ = toI ns := by
    rw [zsI]
    by_cases h0 : ns = []
    · subst h0
      rw [if_pos (by rfl)]
      rfl
    · rw [if_neg (fun h9 => h0 (join_nil_iff ns hns (by have := congrArg (fun b : ByteArray => b.data.toList) h9; simpa using this)))]
      have h3 : spB ⟨(Lib.join (ns.map Lib.decDigits) [44]).toArray⟩ = ns.map nb := map_dl_inj (by
        rw [spB, Lib.splitB_data, map_nb_dl]
        refine (splK_list 44 (ns.map Lib.decDigits) (by simpa using h0) (fun l hl x hx h9 => ?_))
        obtain ⟨t, ht, rfl⟩ := List.mem_map.1 hl
        have := dig_byte t (hns t ht) x hx
        rw [h9] at this
        revert this
        decide)
      rw [h3, map_nat numO nb numO_nb ns hns]
  rw [pI, h1, h2, hz, numO_nb m hm, if_pos ⟨h, hs⟩]
theorem pI_text {s : ByteArray} {n : Int} {zs : List Int} (h : pI s = some (n, zs)) : vldB n zs = true ∧ ctB n zs = s := by
  rw [pI] at h
  split at h
  · rename_i h2
    simp only [Option.some.injEq, Prod.mk.injEq] at h
    obtain ⟨rfl, rfl⟩ := h
    exact h2
  · cases h
theorem pI_pM (s : ByteArray) : pI s = pM s := by
  cases hM : pM s with
  | some p =>
    obtain ⟨n, zs⟩ := p
    obtain ⟨hv, rfl⟩ := pM_text hM
    obtain ⟨m, ns, rfl, rfl, -⟩ := vldB_cls hv
    exact pI_back m ns hv
  | none =>
    cases hI : pI s with
    | none => rfl
    | some p =>
      obtain ⟨n, zs⟩ := p
      obtain ⟨hv, rfl⟩ := pI_text hI
      obtain ⟨m, ns, rfl, rfl, -⟩ := vldB_cls hv
      rw [pM_back m ns hv] at hM
      cases hM

/-- what ParseClass answers -/
def prN (s : ByteArray) : Int := match pM s with | some p => p.1 | none => 0
def prL (s : ByteArray) : List Int := match pM s with | some p => p.2 | none => []
def prB (s : ByteArray) : Bool := (pM s).isSome

end Go.Proofs.YtkamocciaaapmaaDoor
