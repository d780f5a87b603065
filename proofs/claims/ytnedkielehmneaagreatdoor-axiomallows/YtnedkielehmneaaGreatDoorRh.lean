/- Pairs. -/
import Derived.Test.YtnedkielehmneaaGreatDoorRf
namespace Go.Proofs.YtnedkielehmneaaGreatDoor
open Go.RowKit
set_option linter.unusedVariables false
set_option linter.unusedSimpArgs false
set_option maxRecDepth 8000

open Go.Shelf
attribute [local go_sem] Oper.semAt_some
def flatP (l : List (Nat × Nat)) : List Value := l.flatMap fun p => [vI p.1, vI p.2]
theorem flatP_append (l m : List (Nat × Nat)) : flatP (l ++ m) = flatP l ++ flatP m := by simp [flatP]
theorem flatP_len (l : List (Nat × Nat)) : (flatP l).length = l.length * 2 := by
  induction l with
  | nil => rfl
  | cons p l ih => simp only [flatP, List.flatMap_cons, List.length_append, List.length_cons, List.length_nil] at *; omega
def prsW (f : Nat → Nat) (k : Nat) : List (Nat × Nat) := (List.range k).flatMap fun a => (elsN (f a).testBit 64).map fun b => (a, b)
def paW (f : Nat → Nat) (k : Nat) (pre : List Int) : List (Nat × Nat) := prsW f k ++ pre.map fun x => (k, x.toNat)
theorem paW_put (f : Nat → Nat) (k : Nat) (pre : List Int) (b : Nat) : paW f k (pre ++ [(b : Int)]) = paW f k pre ++ [(k, b)] := by simp [paW]
theorem paW_next (f : Nat → Nat) (k : Nat) : paW f k (els (f k)) = paW f (k + 1) [] := by
  unfold paW prsW els
  rw [List.range_succ, List.flatMap_append]
  simp
theorem prsW_len (f : Nat → Nat) : ∀ k, (prsW f k).length ≤ k * 64
  | 0 => by simp [prsW]
  | k + 1 => by
    have ih := prsW_len f k
    have : prsW f (k + 1) = prsW f k ++ (elsN (f k).testBit 64).map fun b => (k, b) := by unfold prsW; rw [List.range_succ, List.flatMap_append]; simp
    rw [this, List.length_append, List.length_map]
    have : (elsN (f k).testBit 64).length ≤ 64 := Nat.le_trans (List.length_filter_le _ _) (by rw [List.length_range]; exact Nat.le_refl _)
    omega
theorem prsW_rel {r n : Nat} {R : Nat → Nat → Bool} {w : World} (H : RelAt r n R w) : prsW (rwd R) 64 = Rlw.prsN n n R := by
  rw [← Rlw.prsN_fits H.fit H.le H.le]
  unfold prsW Rlw.prsN Rlw.prow elsN
  congr 1
  funext a
  congr 1
  apply List.filter_congr
  intro b hb
  rw [H.test]
theorem info60 : (Tryz.prog.info? 48).map (fun i => (i.zero, i.size, i.bytes)) = some (some (.agg #[vI 0, vI 0]), 2, 16) := by kernel_rfl
structure PaI (r n : Nat) (f : Nat → Nat) (w : World) (k : Nat) (Ds : List Nat) (pre : List Int) (W : World) : Prop where
  out : ∃ v, Boxed W w.heap.size 40 v ∧ W.ownsRow w.heap.size 48 2 v (paW f k pre).length (flatP (paW f k pre))
  src : RowAt r n f W
  low : Below w.heap.size w W
  tab : Tab W
  mks : Rg.Marks Ds W
  big : ∀ D ∈ Ds, w.heap.size + 1 ≤ D
section
variable {r n : Nat} {f : Nat → Nat} {w W W' : World} {k : Nat} {Ds : List Nat} {pre : List Int}
theorem PaI.turn {B : Nat} (h : PaI r n f w k Ds pre W) (t : Rg.Turn B W W') (hB : w.heap.size < B) (hD : ∀ D ∈ Ds, D < B) : PaI r n f w k Ds pre W' := by
  obtain ⟨v, h1, h2⟩ := h.out
  exact ⟨⟨v, boxed_turn h1 t, t.own h2⟩, h.src.turn t, h.low.trans (t.below (by omega) h.low.size), h.tab.turn t (by omega), h.mks.keep fun D hd => t.low (hD D hd) (h.mks.lt hd), h.big⟩
theorem PaI.grow (h : PaI r n f w k Ds pre W) (t : Below W.heap.size W W') : PaI r n f w k Ds pre W' := by
  obtain ⟨v, h1, h2⟩ := h.out
  exact ⟨⟨v, boxed_grow h1 t, own_of_block h2 fun k hk => t.block k (h2.lt k hk).2⟩, h.src.grow t, h.low.trans (t.mono h.low.size), h.tab.grow t, h.mks.below t, h.big⟩
end
theorem cell_two_new (W : World) (a b : Value) (t : TypeId) (j : Nat) (u : Value) (h : [a, b][j]? = some u) : (W.alloc (.cells #[a, b] t)).cell? ((⟨W.heap.size, 0, none⟩ : Addr).add j) = some u := by
  have e : (⟨W.heap.size, 0, none⟩ : Addr).add j = ⟨W.heap.size, j, none⟩ := by rw [Addr.add_mid, Nat.zero_add]
  rw [e, cell_of_row _ _ _ _ _ _ (World.alloc_heap_new W _)]
  simpa using h
set_option maxHeartbeats 4000000 in
theorem pairs_c {r n : Nat} {f : Nat → Nat} {w : World} (H : RowAt r n f w) (hf : ∀ a, f a < 2 ^ 64) (hT : Tab w) : Calls Tryz.prog 43 #[ptr r 0] w fun e w' => ∃ v, e = .returned v ∧ w'.ownsRow w.heap.size 48 2 v (prsW f 64).length (flatP (prsW f 64)) ∧ Below w.heap.size w w' := by
  have hrl := H.lt
  obtain ⟨i0, hi, hz0, hz1, hz2⟩ := info_parts info60
  refine Rg.calls_marks Tryz.func43 rfl ?_
  simp only [Tryz.ntmps43, List.size_toArray, List.length_cons, List.length_nil, Nat.reduceAdd, Nat.reduceSub, Array.replicate_succ, Array.replicate_zero, List.push_toArray, List.append_toArray, List.nil_append, List.cons_append]
  go_upto_region 2 with fail
  have hI0 : PaI r n f w 0 [] [] (w.alloc (Obj.cells #[Value.slice none 0 0] 40)) := ⟨⟨_, Boxed.new w 40 _, World.ownsRow_nil _ _ _ _⟩, H.grow (below_alloc _ _), below_alloc _ _, hT.grow (below_alloc _ _), Rg.Marks.nil _, fun _ h => by cases h⟩
  have H4 := hI0.src
  generalize (w.alloc (Obj.cells #[Value.slice none 0 0] 40)) = W1 at *
  go_wp2_with (first | (with_reducible refine wpList_load68 rfl _ rfl rfl H4 ?_; simp only [Act.put, List.setIfInBounds_toArray, List.set_cons_succ, List.set_cons_zero]))
  refine Rg.wp_loop_by (fun m a W => ∃ (k : Nat) (Ds : List Nat) (u4 u5 u6 u12 u13 u14 u15 u16 u17 u18 u19 u20 u21 u22 u23 u24 : Value), m = 64 - k ∧ k ≤ 64 ∧ PaI r n f w k Ds [] W ∧ a = { tmps := #[ptr r 0, undef, Value.slice none 0 0, ptr w.heap.size 0, u4, u5, u6, ptr r 0, ptr r 0, ptr r 1, Value.agg (rl f).toArray, vI k, u12, u13, u14, u15, u16, u17, u18, u19, u20, u21, u22, u23, u24, undef], defers := Ds.map Rg.mark }) 64 ?_ ?_
  · exact ⟨0, [], undef, undef, undef, undef, undef, undef, undef, undef, undef, undef, undef, undef, undef, undef, undef, undef, rfl, by omega, hI0, rfl⟩
  clear hI0 H4
  rintro m a W ⟨k, Ds, u4, u5, u6, u12, u13, u14, u15, u16, u17, u18, u19, u20, u21, u22, u23, u24, rfl, hk, hI, rfl⟩
  try dsimp only
  by_cases hlt : (k : Int) < 64
  · have hk2 : k < 64 := by omega
    go_wp2_with (first | (with_reducible refine wpList_index68 rfl _ _ rfl rfl k hk2 rfl ?_; simp only [Act.put, List.setIfInBounds_toArray, List.set_cons_succ, List.set_cons_zero]))
    have qa : Boxed (W.alloc (Obj.cells #[vI k] 3)) W.heap.size 3 (vI k) := Boxed.new W 3 (vI k)
    have hI2 := hI.grow (below_alloc W (Obj.cells #[vI k] 3))
    have hgt : w.heap.size < W.heap.size := by obtain ⟨v, hv, _⟩ := hI.out; exact hv.lt
    clear hI
    generalize W.alloc (Obj.cells #[vI k] 3) = W2 at *
    have hlt2 := qa.lt
    refine wp_each (f k) (hf k) rfl (fun pre W' => PaI r n f w k Ds pre W' ∧ Boxed W' W.heap.size 3 (vI k)) (fun pre A B h t => ⟨h.1.turn t (by omega) (fun D hD => hI2.mks.lt hD), boxed_turn h.2 t⟩) (fun pre A h => h.1.tab) ⟨hI2, qa⟩ (fun x => { tmps := #[ptr r 0, undef, Value.slice none 0 0, ptr w.heap.size 0, ptr W.heap.size 0, vU (f k), vI x, ptr r 0, ptr r 0, ptr r 1, Value.agg (rl f).toArray, vI k, Value.bool true, vI k, vU (f k), vU (f k), Value.func (Fn.func 85) #[vU (f k)] #[], vI x, u18, u19, u20, u21, u22, u23, u24, undef], defers := [] }) ?assign ?body ?done
    case assign =>
      intro l x A K hK
      gi_wp2
      exact hK
    case body =>
      intro l pre b A hA hb hvb hpre
      obtain ⟨hA, hqa⟩ := hA
      obtain ⟨v, hv, hrow⟩ := hA.out
      have hc := hv.cell
      have hca := hqa.cell
      have hpl : (paW f k pre).length ≤ 8192 := by
        have h1 := prsW_len f k
        have h2 : pre.length ≤ 64 := by
          have h3 := hpre.length_le
          have h4 : (els (f k)).length ≤ 64 := by
            unfold els elsN
            rw [List.length_map]
            exact Nat.le_trans (List.length_filter_le _ _) (by rw [List.length_range]; exact Nat.le_refl _)
          rw [List.length_append, List.length_singleton] at h3
          omega
        unfold paW
        rw [List.length_append, List.length_map]
        omega
      have hsz := hA.low.size
      gi_wp2_with (gi_at_builtin; refine wpListIn_append_own _ rfl _ _ 40 rfl w.heap.size 48 i0 (.agg #[vI 0, vI 0]) 2 16 Tryz.underlying40 hi hz0 hz1 hz2 rfl (by decide) _ _ _ rfl (hrow.alloc _) ⟨A.heap.size, 0, none⟩ 1 1 [vI k, vI b] rfl rfl (cell_two_new _ _ _ _) (by simp [Value.oneCell']) (by simp only [maxLen]; omega) (by omega) (by simp; omega) ?_; intro v' w1 hown' hgrow _; obtain ⟨g', cap', rfl⟩ := ownsRow_succ hown'; obtain ⟨hv1, hv2, hr2, hk2, hb2⟩ := hv.appended (by decide) hrow hsz (Nat.le_refl _) hown' hgrow; have hc1 := hv1.cell; have hf1 := hv1.frozen)
      have ht0 := (hT 0 (by decide)).2
      refine ⟨hk2.from _, ⟨⟨_, hv2, ?_⟩, hA.src.keep (hb2.block _ hrl), hA.low.trans hb2, hA.tab.keep (hb2.block _ ht0), hA.mks.keeps (hk2.from 0), hA.big⟩, ?_⟩
      · rw [paW_put, flatP_append, List.length_append]
        exact hr2
      · have h1 : Boxed w1 W.heap.size 3 (vI k) := (hqa.alloc _).kept hgrow (hqa.not_row (by decide) hrow)
        unfold Boxed
        rw [Below.heap_setCell _ _ _ _ (show W.heap.size ≠ w.heap.size by omega)]
        exact h1
    case done =>
      intro D A hD hA hK
      obtain ⟨hA, _⟩ := hA
      go_wp2
      refine ⟨64 - (k + 1), by omega, k + 1, D :: Ds, _, _, _, _, _, _, _, _, _, _, _, _, _, _, _, _, rfl, by omega, ⟨by rw [← paW_next]; exact hA.out, hA.src, hA.low, hA.tab, hA.mks.cons hK (fun h => by have := hI2.mks.lt h; omega), fun E hE => ?_⟩, by go_num⟩
      rcases List.mem_cons.1 hE with rfl | hE
      · omega
      · exact hA.big E hE
  · obtain rfl : k = 64 := by omega
    obtain ⟨v, hv, hrow⟩ := hI.out
    have hc := hv.cell
    go_wp2
    have e : paW f 64 [] = prsW f 64 := by simp [paW]
    rw [e] at hrow
    exact Rg.ret_marks (w.heap.size + 1) hI.mks (fun D hD => by have := hI.big D hD; omega) (fun w' => results_tmp rfl _ _ _) fun w' ht => ⟨v, rfl, ht.own hrow, hI.low.trans (ht.below (by omega) hI.low.size)⟩
end Go.Proofs.YtnedkielehmneaaGreatDoor
