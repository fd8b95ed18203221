/- A range over a method value ('for t := range f.members'): one round of a loop, and the statement, where the function that is ranged over has arguments of its own ahead of yield. Conditions: the loop is no part of another such loop. -/
import Derived.RangeFuncNested
import Derived.Test.YtnoppclajhfnjaaDoorZA
namespace Go.Proofs.YtnoppclajhfnjaaDoor
open Go.RowKit

variable {F : Fence} {n : Nat} {P : Program}

/-- what an iterator with arguments ahead of yield owes, and is owed -/
def SeqV {α : Type} (F : Fence) (n : Nat) (P : Program) (g : Nat) (fs lb : Array Value) (encs : α → Array Value) (Kp : α → World → World → Prop) (G : List α → α → World → World → Prop) (S Sp : List α → Prop) (N : Nat) (w : World) : Prop :=
  ∀ (l : Nat) (J Jx : List α → World → Prop) (W : World), Below w.heap.size w W → AbidesFrom W.heap.size J → AbidesFrom W.heap.size Jx →
    (∀ pre x W0 W1, J pre W0 → Below W0.heap.size W0 W1 → J pre W1 → G pre x W0 W1 → pre.length < N → YieldAt F (n - 1) P l (encs x) W1 fun e W' =>
      (e = .returned (.bool true) ∧ J (pre ++ [x]) W' ∧ Kp x W1 W') ∨ (e = .returned (.bool false) ∧ Jx (pre ++ [x]) W')) →
    J [] W →
    CallsIn F n P g (fs ++ #[.func (.yield l) #[] #[]] ++ lb) W fun e W' => (∃ v, e = .returned v) ∧ ((∃ xs, S xs ∧ J xs W') ∨ (∃ pre, Sp pre ∧ Jx pre W'))

/-- a record's state while its body runs; behind it -/
def Loop.busyR (r : Loop) : Loop := { r with state := .busy }
def Loop.endR (r : Loop) (j : Option Code) : Loop := { r with state := if j.isNone then .ready else .done, pending := j }
/-- by which jump a body is left, if by any -/
def goOn (K : Option Code → World → Prop) : Exit → Act → World → Prop
  | .normal, _, W => K none W
  | .ret, _, W => K (some .ret) W
  | .exit id, _, W => K (some (.exit id)) W
  | .goto t, _, W => K (some (.goto t)) W
  | .panic _, _, _ => False
  | .outgrown, _, _ => False

/-- **one round**, off the record that lies at l -/
theorem yieldAt_rec {m l : Nat} {r : Loop} {args : Array Value} {W : World} {R : Ending → World → Prop} (hl : W.heap[l]? = some (.loop r)) (hs : r.state = .ready) (ha : args.size = r.params.size) (hf : F.fn r.fn)
    (h : r.assign.wpIn (F.inRound l) m P (Exit.then (fun a' Wa => Wa.heap[l]? = some (.loop r) ∧ r.body.wpIn (F.inRound l) m P (goOn fun j W3 => W3.heap[l]? = some (.loop (Loop.busyR r)) ∧ R (.returned (.bool j.isNone)) (W3.putObj l (.loop (Loop.endR r j)))) a' (Wa.putObj l (.loop (Loop.busyR r)))) (fun _ _ _ => False))
      { tmps := (r.params.zip args).foldl (fun tmps (t, a) => tmps.setIfInBounds t a) r.tmps, defers := [] } W) :
    YieldAt F m P l args W R := by
  refine ⟨r.fn, _, r.assign, r.body, run_yield hl ha, roundIn_of_wpIn hf (wpIn_mono h ?_)⟩
  intro e a' Wa hp
  cases e with
  | normal =>
    obtain ⟨hla, hb⟩ := hp
    refine ⟨_, run_beginRound hla hs, wpIn_mono hb ?_⟩
    intro e2 a3 W3 hq
    have fin : ∀ j : Option Code, (W3.heap[l]? = some (.loop (Loop.busyR r)) ∧ R (.returned (.bool j.isNone)) (W3.putObj l (.loop (Loop.endR r j)))) → ∃ v w', (Instr.endRound l j).run P W3 = .ok v w' ∧ R (.returned v) w' :=
      fun j hj => ⟨_, _, run_endRound j hj.1, hj.2⟩
    cases e2 with
    | normal => exact fin none hq
    | ret => exact fin (some .ret) hq
    | exit id => exact fin (some (.exit id)) hq
    | goto t => exact fin (some (.goto t)) hq
    | panic c => exact hq.elim
    | outgrown => exact hq.elim
  | exit id => exact hp.elim
  | goto t => exact hp.elim
  | ret => exact hp.elim
  | panic c => exact hp.elim
  | outgrown => exact hp.elim

/-- what lies at two blocks of book-keeping: the calls put off, and the record -/
def Books (D : Nat) (r : Loop) (W : World) : Prop := W.heap[D]? = some (.deferred (some [])) ∧ W.heap[D + 1]? = some (.loop r)
theorem Books.lt {D : Nat} {r : Loop} {W : World} (h : Books D r W) : D + 1 < W.heap.size := (Array.getElem?_eq_some_iff.1 h.2).1
theorem Books.put {D : Nat} {r : Loop} {W : World} (r' : Loop) (h : Books D r W) : Books D r' (W.putObj (D + 1) (.loop r')) :=
  ⟨(World.putObj_heap_other (by omega)).trans h.1, World.putObj_heap_same h.lt⟩
theorem Books.kept {D B : Nat} {r : Loop} {W W' : World} (h : Books D r W) (k : KeepsFrom B W W') (hB : B ≤ D) : Books D r W' := ⟨k.same _ _ hB h.1 rfl, k.same _ _ (by omega) h.2 rfl⟩
theorem Books.grown {D : Nat} {r : Loop} {A B : World} {row : Option Nat} (h : Books D r A) (hg : A.grownBy B row) (hr : ∀ k, row = some k → ∃ o : Obj, A.heap[k]? = some o ∧ o.isWalk = true) : Books D r B :=
  ⟨(grownBy_keeps hg hr h.1 rfl).trans h.1, (grownBy_keeps hg hr h.2 rfl).trans h.2⟩

/-- **the statement** -/
theorem wpIn_rangeV {α : Type} {g : Operand} {ps : Array Tmp} {assign body : Code} {Q : Exit → Act → World → Prop} {a : Act} {w : World}
    (hro : F.round = none) (h1 : 1 ≤ n) {gf : Nat} {fs lb : Array Value} (hg : a.eval g = .func (.func gf) fs lb) (hFg : F.fn gf) (eg : ∀ args w, (callFunc gf args).run P w = .ok (.enter gf args) w)
    {encs : α → Array Value} {Kp : α → World → World → Prop} {G : List α → α → World → World → Prop} {S Sp : List α → Prop} {N : Nat} {w0 : World} (hseq : SeqV F (n - 1) P gf fs lb encs Kp G S Sp N w0)
    (hKt : ∀ (x : α) {A B C : World}, Kp x A B → Kp x B C → Kp x A C) (hKb : ∀ (x : α) (W : World) (l : Nat) (o o' : Obj), w.heap.size ≤ l → W.heap[l]? = some o → o.isCells = false → o.isWalk = false → Kp x W (W.putObj l o')) (hb0 : Below w0.heap.size w0 w) (hps : ∀ x, (encs x).size = ps.size)
    (I : List α → World → Prop) (Ix : Code → List α → World → Prop) (hI : OwnFrom w.heap.size I) (hIx : ∀ c, OwnFrom w.heap.size (Ix c)) (h0 : I [] w) (Ax : α → Act → World → Prop) (hAx : ∀ x a', OwnFrom w.heap.size (fun (_ : Unit) W => Ax x a' W))
    (hassign : ∀ (l : Nat) (pre : List α) (x : α) (W0 W : World) (K : Act → World → Prop), I pre W0 → Below W0.heap.size W0 W → I pre W → G pre x W0 W → (∀ a' W', KeepsFrom w.heap.size W W' → Kp x W W' → I pre W' → Ax x a' W' → K a' W') →
      assign.wpIn (F.inRound l) (n - 1 - 1) P (Exit.then K (fun _ _ _ => False)) { tmps := (ps.zip (encs x)).foldl (fun t (p, v) => t.setIfInBounds p v) a.tmps, defers := [] } W)
    (hbody : ∀ (l : Nat) (pre : List α) (x : α) (a' : Act) (W : World), w.heap.size ≤ l → (∃ r, W.heap[l]? = some (.loop r)) → I pre W → Ax x a' W → pre.length < N → body.wpIn (F.inRound l) (n - 1 - 1) P (ownPostG w.heap.size (Kp x) I Ix (pre ++ [x]) W) a' W)
    (hdone : ∀ (D : Nat) (xs : List α) (W : World), w.heap.size ≤ D → S xs → I xs W → W.heap[D]? = some (.deferred (some [])) → Q .normal { a with defers := { target := .collected D, args := #[] } :: a.defers } W)
    (hstop : ∀ (D : Nat) (c : Code) (pre : List α) (W : World), w.heap.size ≤ D → Sp pre → Ix c pre W → W.heap[D]? = some (.deferred (some [])) → c.wpIn F n P Q { a with defers := { target := .collected D, args := #[] } :: a.defers } W) :
    (Code.rangeFunc g ps assign body).wpIn F n P Q a w := by
  refine wpIn_rangeFunc (fun fn hfn => ?_)
  obtain ⟨r, hr⟩ : ∃ r : Loop, r = { state := .ready, pending := none, fn, tmps := a.tmps, params := ps, assign, body, defers := w.heap.size } := ⟨_, rfl⟩
  obtain ⟨W1, hW1⟩ : ∃ W1, (w.alloc (.deferred (some []))).alloc (.loop r) = W1 := ⟨_, rfl⟩
  have hs1 : W1.heap.size = w.heap.size + 2 := by rw [← hW1]; simp
  have hbk : Books w.heap.size r W1 := by
    rw [← hW1]
    refine ⟨(Below.heap_alloc _ _ _ (by simp)).trans (World.alloc_heap_new w _), ?_⟩
    have h9 := World.alloc_heap_new (w.alloc (.deferred (some []))) (.loop r)
    rwa [World.size_alloc] at h9
  have hI1 : I [] W1 := by rw [← hW1]; exact hI.alloc _ (hI.alloc _ h0)
  have hb1 : Below w0.heap.size w0 W1 := by
    rw [← hW1]; exact hb0.trans ((((Below.refl _ w).alloc (Nat.le_refl _) _).alloc (by simp) _).mono hb0.size)
  have hen : (Instr.enterLoop fn a.tmps ps assign body F.round).run P w = .ok (w.heap.size + 1, [{ target := .collected w.heap.size, args := #[] }]) W1 := by
    rw [hro, ← hW1, hr]; exact run_enterLoop_outer _ _ _ _ _
  clear hW1
  have hst : r.state = .ready := by rw [hr]
  have hfnr : F.fn r.fn := by rw [hr]; exact hfn
  have ht : r.tmps = a.tmps := by rw [hr]
  have hpa : r.params = ps := by rw [hr]
  have has : r.assign = assign := by rw [hr]
  have hbo : r.body = body := by rw [hr]
  have hpe : Loop.endR r none = r := by rw [hr]; rfl
  have hpn : r.pending = none := by rw [hr]
  clear hr
  have up : ∀ {A : World} {row : Option Nat}, (∀ k, row = some k → W1.heap.size ≤ k ∧ ∃ o : Obj, A.heap[k]? = some o ∧ o.isWalk = true) → (∀ k, row = some k → w.heap.size ≤ k ∧ ∃ o : Obj, A.heap[k]? = some o ∧ o.isCells = false) :=
    fun h k e => by obtain ⟨hB, o, ho, hw⟩ := h k e; exact ⟨by omega, o, ho, Obj.not_cells_of_walk hw⟩
  refine ⟨w.heap.size + 1, _, W1, { target := .fn (.func gf) lb, args := fs ++ #[.func (.yield (w.heap.size + 1)) #[] #[]] }, W1, gf, fs ++ #[.func (.yield (w.heap.size + 1)) #[] #[]] ++ lb, W1, hen, ?_, ?_, ?_, fun _ => h1, ?_⟩
  · simp only [resolve, hg]
    simp [go_sem]
  · intro f' hf'; simp [Target.leads] at hf'; subst hf'; exact hFg
  · simp [invoke, go_sem, eg]
  refine (hseq (w.heap.size + 1) (fun pre W => I pre W ∧ Books w.heap.size r W) (fun pre W => ∃ c, Ix c pre W ∧ Books w.heap.size (Loop.endR r (some c)) W) W1 hb1
    (fun s A B row hs hg' hk => ⟨hI s A B row hs.1 hg' (up hk), hs.2.grown hg' (fun k e => (hk k e).2)⟩)
    (fun s A B row hs hg' hk => by
      obtain ⟨c, hc, hbb⟩ := hs
      exact ⟨c, hIx c s A B row hc hg' (up hk), hbb.grown hg' (fun k e => (hk k e).2)⟩) ?_ ⟨hI1, hbk⟩).mono ?_
  · rintro pre x W9 W ⟨hi9, hB9⟩ hbel ⟨hi, hB⟩ hG hlen
    refine yieldAt_rec hB.2 hst (by rw [hpa]; exact hps x) hfnr ?_
    rw [has, hbo, hpa, ht]
    refine hassign _ pre x W9 W _ hi9 hbel hi hG (fun a' Wa hkf hkp hia hax => ?_)
    have hBa := hB.kept hkf (Nat.le_refl _)
    have hBb := hBa.put (Loop.busyR r)
    refine ⟨hBa.2, wpIn_mono (hbody _ pre x a' _ (by omega) ⟨_, hBb.2⟩ (hI.putObj _ hia (by omega) hBa.2 rfl) ((hAx x a').putObj (s := ()) _ hax (by omega) hBa.2 rfl) hlen) ?_⟩
    have hp1 : Kp x Wa (Wa.putObj (w.heap.size + 1) (.loop (Loop.busyR r))) := hKb _ _ _ _ _ (by omega) hBa.2 rfl rfl
    intro e a3 W3 hq
    have jump : ∀ c, (KeepsFrom w.heap.size (Wa.putObj (w.heap.size + 1) (.loop (Loop.busyR r))) W3 ∧ Ix c (pre ++ [x]) W3) → (W3.heap[w.heap.size + 1]? = some (.loop (Loop.busyR r)) ∧
        ((Ending.returned (.bool (some c).isNone) = .returned (.bool true) ∧ (I (pre ++ [x]) (W3.putObj (w.heap.size + 1) (.loop (Loop.endR r (some c)))) ∧ Books w.heap.size r (W3.putObj (w.heap.size + 1) (.loop (Loop.endR r (some c))))) ∧ Kp x W (W3.putObj (w.heap.size + 1) (.loop (Loop.endR r (some c))))) ∨
          (Ending.returned (.bool (some c).isNone) = .returned (.bool false) ∧ ∃ c', Ix c' (pre ++ [x]) (W3.putObj (w.heap.size + 1) (.loop (Loop.endR r (some c)))) ∧ Books w.heap.size (Loop.endR r (some c')) (W3.putObj (w.heap.size + 1) (.loop (Loop.endR r (some c))))))) := fun c hc => by
      have h3 := hBb.kept hc.1 (Nat.le_refl _)
      exact ⟨h3.2, .inr ⟨rfl, c, (hIx c).putObj _ hc.2 (by omega) h3.2 rfl, h3.put _⟩⟩
    cases e with
    | normal =>
      obtain ⟨hk3, hp3, hi3⟩ := hq
      have h3 := hBb.kept hk3 (Nat.le_refl _)
      refine ⟨h3.2, .inl ⟨rfl, ⟨hI.putObj _ hi3 (by omega) h3.2 rfl, ?_⟩, hKt _ hkp (hKt _ (hKt _ hp1 hp3) (hKb _ _ _ _ _ (by omega) h3.2 rfl rfl))⟩⟩
      rw [hpe]; exact h3.put _
    | ret => exact jump _ hq
    | exit id => exact jump _ hq
    | goto t => exact jump _ hq
    | panic c => exact hq.elim
    | outgrown => exact hq.elim
  · rintro e W2 ⟨⟨v, rfl⟩, (⟨xs, hS, hi, hB⟩ | ⟨pre, hSp, c, hi, hB⟩)⟩
    · refine ⟨_, _, run_endLoop hB.2 (by rw [hst]; decide), ?_⟩
      rw [hpn]
      exact hdone _ xs _ (Nat.le_refl _) hS (hI.putObj _ hi (by omega) hB.2 rfl) ((World.putObj_heap_other (by omega)).trans hB.1)
    · refine ⟨_, _, run_endLoop hB.2 (by simp [Loop.endR]), ?_⟩
      exact hstop _ c pre _ (Nat.le_refl _) hSp ((hIx c).putObj _ hi (by omega) hB.2 rfl) ((World.putObj_heap_other (by omega)).trans hB.1)

end Go.Proofs.YtnoppclajhfnjaaDoor
