/- The numbers of a slice, one after the other: slices.Values and its iterator. Conditions: at most 32 numbers, below 32. -/
import Derived.Test.YtpcjecahplglfabLeastH
namespace Go.Proofs.Ytpcjecahplglfab
open Go.RowKit Go.Shelf
attribute [local go_sem] Oper.semAt_some

/-- the slice in its block, and its numbers -/
def csV (Bn : Nat) (v : Value) (b off : Nat) (ns : List Nat) : List (Addr × Value) := (⟨Bn, 0, none⟩, v) :: (List.range ns.length).map (fun j => (⟨b, off + j, none⟩, .int .i64 ((ns.getD j 0 : Nat) : Int)))
/-- small numbers -/
def f32 (ns : List Nat) : List (Fin 32) := ns.map (fun t => ⟨t % 32, Nat.mod_lt _ (by decide)⟩)
theorem f32_val {ns : List Nat} (h : ∀ t ∈ ns, t < 32) : (f32 ns).map Fin.val = ns := by
  unfold f32
  rw [List.map_map]
  have : ns.map (Fin.val ∘ fun t => (⟨t % 32, Nat.mod_lt _ (by decide)⟩ : Fin 32)) = ns.map id := List.map_congr_left (fun t ht => Nat.mod_eq_of_lt (h t ht))
  rw [this, List.map_id]
theorem f32_len (ns : List Nat) : (f32 ns).length = ns.length := by simp [f32]
theorem f32_at {ns : List Nat} (h : ∀ t ∈ ns, t < 32) {k : Nat} (hk : k < (f32 ns).length) : ((f32 ns)[k].val : Nat) = ns.getD k 0 := by
  have hk' : k < ns.length := by rw [f32_len] at hk; exact hk
  have : ns[k] < 32 := h _ (List.getElem_mem hk')
  simp [f32, List.getD, List.getElem?_eq_getElem hk', Nat.mod_eq_of_lt this]

set_option maxHeartbeats 400000 in
theorem implValues (a : Option Addr) (n cap : Nat) (w : World) :
    Calls Try.prog 89 #[.slice a n cap] w fun e w' => e = .returned (.func (.func 91) #[] #[.pointer (some ⟨w.heap.size, 0, none⟩)]) ∧ w' = w.alloc (.cells #[.slice a n cap] 22) := by
  go_enter Try.func89, Try.ntmps89
  go_wp2_with fail
  go_ret
  exact ⟨rfl, rfl⟩

set_option maxRecDepth 100000 in
set_option maxHeartbeats 3200000 in
theorem valStops (n : Nat) (hn : 1 ≤ n) (Bn : Nat) (a : Option Addr) (b off cap : Nat) (ns : List Nat) (h32 : ∀ t ∈ ns, t < 32) (hl : ns.length ≤ 32) (h1 : 0 < ns.length → a = some ⟨b, off, none⟩) (cs : List (Addr × Value)) (hsub : ∀ p ∈ csV Bn (.slice a ns.length cap) b off ns, p ∈ cs) (w : World) (hcs : CS cs w) :
    SeqStopsK Fence.wide n Try.prog 91 #[.pointer (some ⟨Bn, 0, none⟩)] encG (Kcs cs) (fun xs => xs = f32 ns) (fun pre => pre <+: f32 ns) 32 w := fun l0 J Jx W hW hJ hJx hY h0 => by
  have hcW : CS cs W := hcs.next hW
  have hbn : W.cell? ⟨Bn, 0, none⟩ = some (.slice a ns.length cap) := hcW (⟨Bn, 0, none⟩, .slice a ns.length cap) (hsub _ (by simp [csV]))
  have HAt := Lib.hid (fun (k : Nat) (hk : k < (f32 ns).length) (W : World) (hc : CS cs W) => show W.cell? ⟨b, off + k, none⟩ = some (.int .i64 (((f32 ns)[k].val : Nat) : Int)) by
    rw [f32_at h32 hk]
    refine hc (⟨b, off + k, none⟩, .int .i64 ((ns.getD k 0 : Nat) : Int)) (hsub _ ?_)
    rw [f32_len] at hk
    exact List.mem_cons_of_mem _ (List.mem_map.2 ⟨k, List.mem_range.2 hk, rfl⟩))
  have HLn := Lib.hid (f32_len ns)
  have H1 := Lib.hid h1
  clear h1 h32 hsub
  refine callsIn_of_wp Try.func91 rfl trivial ?_ rfl
  simp only [Try.ntmps91, List.size_toArray, List.length_cons, List.length_nil, Nat.reduceAdd, Nat.reduceSub, Array.replicate_succ, Array.replicate_zero, List.push_toArray, List.append_toArray, List.nil_append, List.cons_append]
  gi_wp2
  gi_loopw [7] (fun i wr => ∃ k : Nat, k ≤ ns.length ∧ i = .int .i64 k ∧ J ((f32 ns).take k) wr ∧ CS cs wr) (fun i _ => ns.length - (intOf i).toNat)
  case atStart => exact ⟨0, Nat.zero_le _, rfl, by rw [List.take_zero]; exact h0, hcW⟩
  case round =>
    obtain ⟨k, hk, rfl, hJr, hcr⟩ := hrel
    by_cases hlt : k < ns.length
    · have hkf : k < (f32 ns).length := by rw [HLn.out]; exact hlt
      obtain rfl := H1.out (by omega)
      have hc := HAt.out k hkf wr hcr
      have HT := Lib.hid (show (f32 ns).take (k + 1) = (f32 ns).take k ++ [(f32 ns)[k]] from List.take_succ_eq_append_getElem hkf)
      obtain ⟨fn, tmps, assign, body, hy, hR⟩ := hY ((f32 ns).take k) (f32 ns)[k] wr hJr (by rw [List.length_take]; omega)
      have HPre := Lib.hid (List.take_prefix (k + 1) (f32 ns))
      generalize (f32 ns)[k] = x at *
      gi_wp2
      refine hR.mono ?_
      rintro e W3 (⟨rfl, hJ3, hk3⟩ | ⟨rfl, hJx3⟩)
      · have hc3 := hk3 hcr
        gi_wp2
        go_roundw
        case rel => exact ⟨k + 1, by omega, by go_num, by rw [HT.out]; exact hJ3, hc3⟩
        case measure => simp [intOf]; omega
      · gi_wp2
        refine bodyPost_ret (results_none rfl _ _ _) rfl ?_
        exact ⟨⟨_, rfl⟩, .inr ⟨_, by rw [← HT.out]; exact HPre.out, hJx3⟩⟩
    · obtain rfl : k = ns.length := by omega
      have hJ2 : J (f32 ns) wr := by rw [← List.take_length (l := f32 ns), HLn.out]; exact hJr
      gi_wp2
      go_end0
      exact ⟨⟨_, rfl⟩, .inl ⟨_, rfl, hJ2⟩⟩

end Go.Proofs.Ytpcjecahplglfab
