/- Shifts, masks and places, as package insn writes them: contracts. -/
import Derived.Test.YtmbefmmnkfoneaaDoorNames
import Derived.Laws.AppendOwnNone
import Derived.Great.BuildSlice
namespace Go.Proofs.YtmbefmmnkfoneaaDoor
open Go.RowKit Go.Rel

/-- A row of texts that the call made, or none. -/
abbrev RowT (base : Nat) (xs : List Tx) (v : Value) (w : World) : Prop := w.ownsRow base 9 1 v xs.length (xs.map strV)

theorem own_grow {w w' : World} {base : Nat} {e : TypeId} {size n : Nat} {v : Value} {xs : List Value} (h : w.ownsRow base e size v n xs) (hb : Below w.heap.size w w') : w'.ownsRow base e size v n xs := by
  obtain ⟨h1, h2⟩ := h
  refine ⟨h1, ?_⟩
  rcases h2 with h2 | ⟨g, cap, cur, hv, hg, hc, r⟩
  · exact Or.inl h2
  · refine Or.inr ⟨g, cap, cur, hv, hg, ?_, r⟩
    rw [hb.block g (Array.getElem?_eq_some_iff.1 hc).1]
    exact hc
theorem row_up (base : Nat) (xs : List Tx) (v : Value) : Up Grows (RowT base xs v) := fun _ _ h hb => own_grow h hb

theorem own_new (w : World) (cs : List Value) (n : Nat) (hn : cs.length = n) (h1 : n ≤ 1000) (base : Nat) (hb : base ≤ w.heap.size) : (w.alloc (.cells cs.toArray 9)).ownsRow base 9 1 (.slice (some ⟨w.heap.size, 0, none⟩) n n) n cs := by
  refine ⟨by omega, Or.inr ⟨w.heap.size, n, cs.toArray, rfl, hb, heap_alloc_new _ _, Nat.le_refl _, by unfold maxLen; omega, by simp [hn], ?_⟩⟩
  simp [← hn]
theorem row_new (w : World) (xs : List Tx) (h1 : xs.length ≤ 1000) (base : Nat) (hb : base ≤ w.heap.size) : RowT base xs (.slice (some ⟨w.heap.size, 0, none⟩) xs.length xs.length) (w.alloc (.cells (xs.map strV).toArray 9)) :=
  own_new w _ _ (by simp) h1 base hb

theorem maskV_bounds (n r s : Int) : 0 ≤ maskV n r s ∧ maskV n r s < 18446744073709551616 := by
  unfold maskV
  split
  · have := orBits_lt (fun i => (turnN (2 ^ ((s % sizeI n s).toNat + 1) - 1) (r % sizeI n s).toNat (sizeI n s).toNat).testBit (i % (sizeI n s).toNat)) 64
    unfold maskN
    omega
  · omega

theorem sft_len {k a : Int} (h0 : 0 ≤ k) (h3 : k ≤ 3) (a0 : -9223372036854775808 ≤ a) (a1 : a ≤ 9223372036854775807) : (sftT k a).length ≤ 26 := by
  have := shift_split h0 h3
  have := itoa_le a0 a1
  simp [sftT, numT]; omega
theorem num_len {a : Int} (a0 : -9223372036854775808 ≤ a) (a1 : a ≤ 9223372036854775807) : (numT a).length ≤ 22 := by
  have := itoa_le a0 a1
  simp [numT]; omega
theorem reg_len {n : Int} (sp : Bool) (h0 : 0 ≤ n) (h1 : n ≤ 31) : (regT n sp).length ≤ 22 := by
  have := itoa_le (n := n) (by omega) (by omega)
  unfold regT
  cases n == 31
  · simp; omega
  · cases sp <;> simp

set_option maxRecDepth 4000 in
set_option maxHeartbeats 800000 in
theorem maskT_c (i : Ins) (w : World) (T : Tab w) : Calls Tryd.prog 42 #[i.val] w fun e w' => e = .returned (strV (maskT i)) ∧ Below w.heap.size w w' := by
  have HB := one_start i w
  have hm := maskV_bounds i.amount i.imm i.imm2
  obtain ⟨u, hu⟩ : ∃ u : Nat, maskV i.amount i.imm i.imm2 = (u : Int) := ⟨_, (Int.toNat_of_nonneg hm.1).symm⟩
  have hu64 : Hid (u < 18446744073709551616) := by show _ < _; omega
  have hl : (Lib.decDigits u).length ≤ 20 := by
    rw [Lib.decDigits_length]
    by_cases h1 : 1 ≤ u
    · have := Lib.numDigits_eq u h1 hu64.out
      split at this <;> omega
    · rw [Lib.nDigits_small (by omega)]; omega
  have hU : Hid (maskT i = 35 :: Lib.decDigits u) := by show _ = _; unfold maskT; rw [hu]; rfl
  clear hm
  have HU : Hid (maskV i.amount i.imm i.imm2 = (u : Int)) := hu
  clear hu
  go_enter Tryd.func42, Tryd.ntmps42
  repeat' (first | with_reducible refine then_exit ?_ | with_reducible refine then_normal ?_ | with_reducible refine inBlock_eq ?_ | with_reducible refine inBlock_ne rfl ?_ | with_reducible refine inBlock_normal ?_ | (refine wpList_load_if rfl 23 _ rfl w.heap.size rfl 23 _ (0, 0) _ HB.box Tryd.underlying23 rfl (by kernel_rfl) ?_; simp only [Act.put, List.setIfInBounds_toArray, List.set_cons_succ, List.set_cons_zero]) | (go_at_call 36; refine (maskOf_c i _).mono ?_; rw [HU.out]; rintro e w' ⟨rfl, hb⟩; dsimp only; replace HB := HB.grow hb; clear hb) | (go_at_call 59; refine (uint_c u hu64.out _ (T.grow HB.below)).mono ?_; rintro e w' ⟨rfl, hb⟩; dsimp only; replace HB := HB.grow hb; clear hb) | go_step)
  go_ret
  rw [hU.out]
  exact ⟨congrArg Ending.returned (congrArg Value.string (str_app [35] _)), HB.below⟩

set_option maxRecDepth 4000 in
set_option maxHeartbeats 800000 in
theorem shifted_c (k a : Int) (h0 : 0 ≤ k) (h3 : k ≤ 3) (a0 : -9223372036854775808 ≤ a) (a1 : a ≤ 9223372036854775807) (w : World) (T : Tab w) :
    Calls Tryd.prog 41 #[vI k, vI a] w fun e w' => ∃ v, e = .returned v ∧ RowT w.heap.size (shiftedT k a) v w' ∧ Below w.heap.size w w' := by
  have hl := sft_len h0 h3 a0 a1
  have hs := shift_split h0 h3
  have hn := num_len a0 a1
  have H0 : Hid (0 ≤ k) := h0
  have H3 : Hid (k ≤ 3) := h3
  have A0 : Hid (-9223372036854775808 ≤ a) := a0
  have A1 : Hid (a ≤ 9223372036854775807) := a1
  clear h0 h3 a0 a1
  have hE : Hid ((⟨(shiftT k).toArray⟩ : ByteArray) ++ ⟨#[32]⟩ ++ ⟨(numT a).toArray⟩ = ⟨(sftT k a).toArray⟩) := by
    show _ = _
    rw [str_app _ [32], str_app, List.append_assoc]
    rfl
  cases hk : k == 0
  · have hS : Hid (shiftedT k a = [sftT k a]) := by show _ = _; unfold shiftedT; rw [hk]; rfl
    go_enter Tryd.func41, Tryd.ntmps41
    repeat' (first | with_reducible refine then_exit ?_ | with_reducible refine then_normal ?_ | with_reducible refine inBlock_eq ?_ | with_reducible refine inBlock_ne rfl ?_ | with_reducible refine inBlock_normal ?_ | (go_at_call 45; refine (shift_c k H0.out H3.out _).mono ?_; rintro e w1 ⟨rfl, hb1⟩; dsimp only) | (go_at_call 40; refine (number_c a A0.out A1.out _ (T.grow hb1)).mono ?_; rintro e w2 ⟨rfl, hb2⟩; dsimp only) | go_step)
    go_ret
    refine ⟨_, rfl, ?_, below_then (below_then hb1 hb2) (below_alloc _ _)⟩
    rw [hS.out, hE.out]
    exact row_new w2 [sftT k a] (by simp) _ (below_then hb1 hb2).size
  · cases ha : a == 0
    · have hS : Hid (shiftedT k a = [sftT k a]) := by show _ = _; unfold shiftedT; rw [hk, ha]; rfl
      go_enter Tryd.func41, Tryd.ntmps41
      repeat' (first | with_reducible refine then_exit ?_ | with_reducible refine then_normal ?_ | with_reducible refine inBlock_eq ?_ | with_reducible refine inBlock_ne rfl ?_ | with_reducible refine inBlock_normal ?_ | (go_at_call 45; refine (shift_c k H0.out H3.out _).mono ?_; rintro e w1 ⟨rfl, hb1⟩; dsimp only) | (go_at_call 40; refine (number_c a A0.out A1.out _ (T.grow hb1)).mono ?_; rintro e w2 ⟨rfl, hb2⟩; dsimp only) | go_step)
      go_ret
      refine ⟨_, rfl, ?_, below_then (below_then hb1 hb2) (below_alloc _ _)⟩
      rw [hS.out, hE.out]
      exact row_new w2 [sftT k a] (by simp) _ (below_then hb1 hb2).size
    · have hS : Hid (shiftedT k a = []) := by show _ = _; unfold shiftedT; rw [hk, ha]; rfl
      go_enter Tryd.func41, Tryd.ntmps41
      repeat' (first | with_reducible refine then_exit ?_ | with_reducible refine then_normal ?_ | with_reducible refine inBlock_eq ?_ | with_reducible refine inBlock_ne rfl ?_ | with_reducible refine inBlock_normal ?_ | go_step)
      go_ret
      refine ⟨_, rfl, ?_, Below.refl _ _⟩
      rw [hS.out]
      exact World.ownsRow_nil _ _ _ _

theorem flat_le : ∀ (xs : List Tx), (∀ x ∈ xs, x.length ≤ 100) → (Lib.join xs commaT).length ≤ 102 * xs.length
  | [], _ => by simp [Lib.join]
  | [x], h => by
    rw [Lib.join_one]
    have := h x (by simp)
    simp; omega
  | x :: y :: r, h => by
    rw [join_two]
    have h1 := h x (by simp)
    have h2 := flat_le (y :: r) (fun z hz => h z (List.mem_cons_of_mem _ hz))
    simp only [List.length_append, List.length_cons] at h2 ⊢
    omega

theorem join_c (xs : List Tx) (v : Value) (base : Nat) (w : World) (hrow : RowT base xs v w) (hne : xs ≠ []) (hl : ∀ x ∈ xs, x.length ≤ 100) (hn : xs.length ≤ 10) :
    Calls Tryd.prog 25 #[v, strV commaT] w fun e w' => e = .returned (strV (Lib.join xs commaT)) ∧ Below w.heap.size w w' := by
  rcases hrow.2 with ⟨-, h0⟩ | ⟨g, cap, cur, rfl, hg, hc, hcap, -⟩
  · exact absurd (List.length_eq_zero_iff.1 h0) hne
  · have hcells := World.ownsRow.cells hrow (g := g) rfl
    have hlt := (Array.getElem?_eq_some_iff.1 hc).1
    have hmap : ((xs.map fun x => (⟨x.toArray⟩ : ByteArray)).map (·.data.toList)) = xs := by
      rw [List.map_map]
      exact List.map_id'' (fun _ => rfl) xs
    have := Tryd.strings_Join g 0 cap (xs.map fun x => (⟨x.toArray⟩ : ByteArray)) ⟨commaT.toArray⟩ w (fun j x hx => by
      rw [List.getElem?_map] at hx
      obtain ⟨y, hy, rfl⟩ := Option.map_eq_some_iff.1 hx
      have := hcells j (strV y) (by rw [List.getElem?_map, hy]; rfl)
      rwa [Lib.add_plain] at this) hlt (by rw [List.length_map]; omega) (by rw [List.length_map]; exact hcap) (by
      rw [hmap]
      have := flat_le xs hl
      show (Lib.join xs commaT).length ≤ _
      omega)
    rw [hmap, List.length_map] at this
    exact this

set_option maxRecDepth 4000 in
set_option maxHeartbeats 800000 in
theorem place_c (xs : List Tx) (v : Value) (base : Nat) (w : World) (hrow : RowT base xs v w) (hne : xs ≠ []) (hl : ∀ x ∈ xs, x.length ≤ 100) (hn : xs.length ≤ 10) :
    Calls Tryd.prog 44 #[v] w fun e w' => e = .returned (strV (placeT xs)) ∧ Below w.heap.size w w' := by
  have hE : Hid ((⟨#[91]⟩ : ByteArray) ++ ⟨(Lib.join xs commaT).toArray⟩ ++ ⟨#[93]⟩ = ⟨(placeT xs).toArray⟩) := by
    show _ = _
    rw [str_app [91], str_app _ [93]]
    rfl
  have hj := join_c xs v base w hrow hne hl hn
  have hle := flat_le xs hl
  replace hle : (Lib.join xs commaT).length ≤ 1020 := by omega
  clear hrow hne hl hn
  go_enter Tryd.func44, Tryd.ntmps44
  repeat' (first | with_reducible refine then_exit ?_ | with_reducible refine then_normal ?_ | with_reducible refine inBlock_eq ?_ | with_reducible refine inBlock_ne rfl ?_ | with_reducible refine inBlock_normal ?_ | (go_at_call 25; refine hj.mono ?_; rintro e w1 ⟨rfl, hb1⟩; dsimp only) | go_step)
  go_ret
  exact ⟨congrArg Ending.returned (congrArg Value.string hE.out), hb1⟩
end Go.Proofs.YtmbefmmnkfoneaaDoor
