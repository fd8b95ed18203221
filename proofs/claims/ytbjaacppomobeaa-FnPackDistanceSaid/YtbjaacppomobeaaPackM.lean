/- The least distance of two sets: balls of half of it are apart, and it is 1 where there are edges. No program. -/
import Derived.Test.YtbjaacppomobeaaEdC
import Derived.Test.YtbjaacppomobeaaPack
namespace Go.Proofs.Ytbjaacppomobeaa
open Go.RowKit

/-- acc is the least of S, or 0 where there is none -/
def Lst (acc : Int) (S : Int → Prop) : Prop := (acc = 0 ∧ ∀ d, ¬ S d) ∨ (0 < acc ∧ S acc ∧ ∀ d, S d → acc ≤ d)
theorem Lst.congr {acc : Int} {S T : Int → Prop} (h : Lst acc S) (e : ∀ d, S d ↔ T d) : Lst acc T := by
  rcases h with ⟨h1, h2⟩ | ⟨h1, h2, h3⟩
  · exact .inl ⟨h1, fun d hd => h2 d ((e d).2 hd)⟩
  · exact .inr ⟨h1, (e _).1 h2, fun d hd => h3 d ((e d).2 hd)⟩
theorem Lst.step {acc d : Int} {S : Int → Prop} (h : Lst acc S) (hd : 0 < d) : Lst (pkStep acc d) (fun e => S e ∨ e = d) := by
  refine .inr ?_
  rw [pkStep]
  rcases h with ⟨h1, h2⟩ | ⟨h1, h2, h3⟩
  · rw [if_pos (.inl h1)]
    refine ⟨hd, .inr rfl, fun e he => ?_⟩
    rcases he with he | he
    · exact absurd he (h2 e)
    · omega
  · by_cases hlt : d < acc
    · rw [if_pos (.inr hlt)]
      refine ⟨hd, .inr rfl, fun e he => ?_⟩
      rcases he with he | he
      · have := h3 e he; omega
      · omega
    · rw [if_neg (by omega)]
      refine ⟨h1, .inl h2, fun e he => ?_⟩
      rcases he with he | he
      · exact h3 e he
      · omega
theorem pc_sep : ∀ s t : Fin 32, s.1 ≠ t.1 → 0 < pc (s.1 ^^^ t.1) := by decide +kernel
theorem pc_far : ∀ s t u : Fin 32, pc (s.1 ^^^ t.1) ≤ pc (u.1 ^^^ s.1) + pc (u.1 ^^^ t.1) := by decide +kernel
/-- the distance of the sets at a and b -/
def dsA (ns : List Nat) (a b : Nat) : Int := ((pc (ns.getD a 0 ^^^ ns.getD b 0) : Nat) : Int)
theorem dsA_pos {m : Nat} {ns : List Nat} (h : Cls m ns) {a b : Nat} (ha : a < ns.length) (hb : b < a) : 0 < dsA ns a b := by
  have h1 := pc_sep ⟨_, h.lt32 _ (getD_of_lt ha)⟩ ⟨_, h.lt32 _ (getD_of_lt (show b < ns.length by omega))⟩ (by
    have h2 := List.pairwise_iff_getElem.1 h.asc b a (by omega) ha hb
    dsimp only
    rw [List.getD_eq_getElem?_getD, List.getD_eq_getElem?_getD, List.getElem?_eq_getElem ha, List.getElem?_eq_getElem (show b < ns.length by omega), Option.getD_some, Option.getD_some]
    omega)
  dsimp only at h1
  rw [dsA]
  omega
theorem pkIn_lst {m : Nat} {ns : List Nat} (h : Cls m ns) {i : Nat} (hi : i < ns.length) {a : Int} {S : Int → Prop} (ha : Lst a S) : ∀ k, k ≤ i → Lst (pkIn ns i a k) (fun e => S e ∨ ∃ j, j < k ∧ e = dsA ns i j) := by
  intro k
  induction k with
  | zero => exact fun _ => ha.congr (fun d => ⟨.inl, fun hd => hd.elim id (fun ⟨j, hj, _⟩ => absurd hj (by omega))⟩)
  | succ k ih =>
    intro hk
    refine (Lst.step (ih (by omega)) (dsA_pos h hi (b := k) (by omega))).congr (fun d => ?_)
    constructor
    · rintro ((hd | ⟨j, hj, e⟩) | e)
      · exact .inl hd
      · exact .inr ⟨j, by omega, e⟩
      · exact .inr ⟨k, by omega, e⟩
    · rintro (hd | ⟨j, hj, e⟩)
      · exact .inl (.inl hd)
      · by_cases ej : j = k
        · subst ej; exact .inr e
        · exact .inl (.inr ⟨j, by omega, e⟩)
theorem pkTo_lst {m : Nat} {ns : List Nat} (h : Cls m ns) : ∀ i, i ≤ ns.length → Lst (pkTo ns i) (fun e => ∃ a b, a < i ∧ b < a ∧ e = dsA ns a b) := by
  intro i
  induction i with
  | zero => exact fun _ => .inl ⟨rfl, fun d ⟨a, b, ha, _⟩ => by omega⟩
  | succ i ih =>
    intro hi
    refine (pkIn_lst h (show i < ns.length by omega) (ih (by omega)) i (Nat.le_refl _)).congr (fun d => ?_)
    constructor
    · rintro (⟨a, b, ha, hb, e⟩ | ⟨j, hj, e⟩)
      · exact ⟨a, b, by omega, hb, e⟩
      · exact ⟨i, j, by omega, hj, e⟩
    · rintro ⟨a, b, ha, hb, e⟩
      by_cases ea : a = i
      · subst ea; exact .inr ⟨b, hb, e⟩
      · exact .inl ⟨a, b, by omega, hb, e⟩
theorem pk_few {m : Nat} {ns : List Nat} (h : Cls m ns) (hl : ns.length < 2) : pkTo ns ns.length = 0 := by
  rcases pkTo_lst h ns.length (Nat.le_refl _) with ⟨h1, _⟩ | ⟨_, ⟨a, b, ha, hb, _⟩, _⟩
  · exact h1
  · omega
theorem pk_pos {m : Nat} {ns : List Nat} (h : Cls m ns) (hl : 2 ≤ ns.length) : 0 < pkTo ns ns.length := by
  rcases pkTo_lst h ns.length (Nat.le_refl _) with ⟨_, h1⟩ | ⟨h1, _⟩
  · exact absurd ⟨1, 0, by omega, by omega, rfl⟩ (h1 (dsA ns 1 0))
  · exact h1
theorem pk_le {m : Nat} {ns : List Nat} (h : Cls m ns) {s t : Nat} (hs : s ∈ ns) (ht : t ∈ ns) (hne : s ≠ t) : pkTo ns ns.length ≤ (pc (s ^^^ t) : Int) := by
  obtain ⟨i, hi, ei⟩ := List.getElem_of_mem hs
  obtain ⟨j, hj, ej⟩ := List.getElem_of_mem ht
  have gi : ns.getD i 0 = s := by rw [List.getD_eq_getElem?_getD, List.getElem?_eq_getElem hi]; exact ei
  have gj : ns.getD j 0 = t := by rw [List.getD_eq_getElem?_getD, List.getElem?_eq_getElem hj]; exact ej
  have hij : i ≠ j := fun e => hne (by subst e; rw [← gi, ← gj])
  rcases pkTo_lst h ns.length (Nat.le_refl _) with ⟨h1, _⟩ | ⟨_, _, h3⟩
  · rw [h1]; exact Int.natCast_nonneg _
  · rcases Nat.lt_or_gt_of_ne hij with h4 | h4
    · have := h3 _ ⟨j, i, hj, h4, rfl⟩
      rw [dsA, gi, gj, Nat.xor_comm] at this
      exact this
    · have := h3 _ ⟨i, j, hi, h4, rfl⟩
      rw [dsA, gi, gj] at this
      exact this
/-- it is 1 just where there are edges -/
theorem pk_edge {m : Nat} {ns : List Nat} (h : Cls m ns) (hl : 2 ≤ ns.length) : pkTo ns ns.length = 1 ↔ 0 < (egTo ns ns.length).length := by
  constructor
  · intro h1
    rcases pkTo_lst h ns.length (Nat.le_refl _) with ⟨h2, _⟩ | ⟨_, ⟨a, b, ha, hb, e⟩, _⟩
    · omega
    · rw [h1, dsA] at e
      apply List.length_pos_of_mem (a := (((ns.getD b 0 : Nat) : Int), ((ns.getD a 0 : Nat) : Int)))
      rw [egTo, List.mem_flatMap]
      refine ⟨b, List.mem_range.2 (by omega), ?_⟩
      rw [egIn, List.mem_map]
      refine ⟨a, ?_, rfl⟩
      rw [List.mem_filter, List.mem_range, Bool.and_eq_true, decide_eq_true_eq]
      refine ⟨ha, hb, ?_⟩
      rw [adj, Nat.xor_comm, beq_iff_eq]
      omega
  · intro h1
    obtain ⟨e, he⟩ := List.exists_mem_of_length_pos h1
    rw [egTo, List.mem_flatMap] at he
    obtain ⟨i, hi, he⟩ := he
    rw [egIn, List.mem_map] at he
    obtain ⟨j, hj, _⟩ := he
    rw [List.mem_filter, List.mem_range, Bool.and_eq_true, decide_eq_true_eq, adj, beq_iff_eq] at hj
    have hp := pk_pos h hl
    rcases pkTo_lst h ns.length (Nat.le_refl _) with ⟨h2, _⟩ | ⟨_, _, h3⟩
    · omega
    · have := h3 _ ⟨j, i, hj.1, hj.2.1, rfl⟩
      rw [dsA, Nat.xor_comm, hj.2.2] at this
      omega
theorem cnt_flip {n : Nat} (hn : n ≤ 5) (f : Nat → Bool) {x : Nat} (hx : x < 2 ^ n) : cnt n (xorF x f) = cnt n f := by
  induction n generalizing f x with
  | zero =>
    obtain rfl : x = 0 := by simp at hx; omega
    simp [cnt, xorF]
  | succ n ih =>
    obtain ⟨y, hy, ⟨h1, h2⟩ | ⟨h1, h2⟩⟩ := flip_parts (by omega) f hx
    · rw [cnt, cnt, cnt_congr h1, cnt_congr h2, ih (by omega) f hy, ih (by omega) (up n f) hy]
    · rw [cnt, cnt, cnt_congr h1, cnt_congr h2, ih (by omega) f hy, ih (by omega) (up n f) hy]
      omega
/-- balls that are apart have together no more sets than there are -/
theorem pack_balls {m : Nat} (hm : m ≤ 5) (d : Nat) (l : List Nat) (hl : ∀ s ∈ l, s < 2 ^ m) (hd : l.Nodup) (hap : ∀ s ∈ l, ∀ t ∈ l, s ≠ t → 2 * d < pc (s ^^^ t)) :
    l.length * cnt m (fun t => decide (pc t ≤ d)) = cnt m (fun t => l.any (fun s => decide (pc (t ^^^ s) ≤ d))) := by
  induction l with
  | nil => simp [cnt_none]
  | cons s l ih =>
    have h1 := ih (fun t ht => hl t (List.mem_cons_of_mem _ ht)) (List.nodup_cons.1 hd).2 (fun a ha b hb => hap a (List.mem_cons_of_mem _ ha) b (List.mem_cons_of_mem _ hb))
    have h2 := cnt_or_and m (fun t => decide (pc (t ^^^ s) ≤ d)) (fun t => l.any (fun s => decide (pc (t ^^^ s) ≤ d)))
    have h3 : cnt m (fun t => decide (pc (t ^^^ s) ≤ d)) = cnt m (fun t => decide (pc t ≤ d)) := cnt_flip hm (fun t => decide (pc t ≤ d)) (hl s List.mem_cons_self)
    have h4 : cnt m (andF (fun t => decide (pc (t ^^^ s) ≤ d)) (fun t => l.any (fun s => decide (pc (t ^^^ s) ≤ d)))) = 0 := by
      rw [cnt_congr (g := fun _ => false) (fun t ht => by
        simp only [andF]
        cases ha : decide (pc (t ^^^ s) ≤ d) with
        | false => rfl
        | true =>
          rw [Bool.true_and, List.any_eq_false]
          intro u hu hb
          have hsu : s ≠ u := fun e => (List.nodup_cons.1 hd).1 (e ▸ hu)
          have k1 := hap s List.mem_cons_self u (List.mem_cons_of_mem _ hu) hsu
          have h32 := pow_le_32 hm
          have k2 := pc_far ⟨s, by have := hl s List.mem_cons_self; omega⟩ ⟨u, by have := hl u (List.mem_cons_of_mem _ hu); omega⟩ ⟨t, by omega⟩
          dsimp only at k2
          have k3 := of_decide_eq_true ha
          have k4 := of_decide_eq_true hb
          omega), cnt_none]
    rw [List.length_cons, Nat.succ_mul, h1, show cnt m (fun t => (s :: l).any (fun s => decide (pc (t ^^^ s) ≤ d))) = cnt m (orF (fun t => decide (pc (t ^^^ s) ≤ d)) (fun t => l.any (fun s => decide (pc (t ^^^ s) ≤ d)))) from cnt_congr (fun t _ => by simp only [List.any_cons, orF])]
    omega
theorem pack_le {m : Nat} {ns : List Nat} (h : Cls m ns) (d : Nat) (hd : ∀ s ∈ ns, ∀ t ∈ ns, s ≠ t → 2 * d < pc (s ^^^ t)) : ns.length * cnt m (fun t => decide (pc t ≤ d)) ≤ 2 ^ m := by
  rw [pack_balls h.pts d ns h.lt (h.asc.imp (fun h => Nat.ne_of_lt h)) hd]
  have := cnt_not m (fun t => ns.any (fun s => decide (pc (t ^^^ s) ≤ d)))
  omega

end Go.Proofs.Ytbjaacppomobeaa
