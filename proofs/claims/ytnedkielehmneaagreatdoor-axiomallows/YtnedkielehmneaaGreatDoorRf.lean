/- Turned. -/
import Derived.Test.YtnedkielehmneaaGreatDoorRe
namespace Go.Proofs.YtnedkielehmneaaGreatDoor
open Go.RowKit
set_option linter.unusedVariables false
set_option linter.unusedSimpArgs false
set_option maxRecDepth 8000

open Go.Shelf
attribute [local go_sem] Oper.semAt_some
/-- A chain of one store. -/
def StC (W : World) (Post : World → Prop) : Nat → World → Prop
  | 0, w1 => Below W.heap.size W w1
  | 1, w1 => Post w1
  | _, _ => False
theorem stC_low {W w1 : World} {Post : World → Prop} {j : Nat} (hj : j ≤ 0) (hC : StC W Post j w1) : Below W.heap.size W w1 := by
  obtain rfl : j = 0 := by omega
  exact hC
theorem els_iff {v b : Nat} (hb : b < 64) : decide ((b : Int) ∈ els v) = v.testBit b := by
  rw [Bool.eq_iff_iff, decide_eq_true_eq]
  unfold els elsN
  simp only [List.mem_map, List.mem_filter, List.mem_range]
  constructor
  · rintro ⟨k, ⟨_, h⟩, e⟩
    obtain rfl : k = b := by omega
    exact h
  · intro h; exact ⟨b, ⟨hb, h⟩, rfl⟩
/-- What is turned so far: the rows below k, and of row k these. -/
def tuW (f : Nat → Nat) (k : Nat) (pre : List Int) (b : Nat) : Nat := Bit.orN (fun a => (decide (a < k) && (f a).testBit b) || (decide (a = k) && decide ((b : Int) ∈ pre))) 64
theorem tuW_lt (f : Nat → Nat) (k : Nat) (pre : List Int) (b : Nat) : tuW f k pre b < 2 ^ 64 := Bit.orN_lt _ 64
theorem tuW_test (f : Nat → Nat) (k : Nat) (pre : List Int) (b a : Nat) : (tuW f k pre b).testBit a = (decide (a < 64) && ((decide (a < k) && (f a).testBit b) || (decide (a = k) && decide ((b : Int) ∈ pre)))) := Bit.test_orN _ _ _
theorem tuW_zero (f : Nat → Nat) (b : Nat) : tuW f 0 [] b = 0 := by
  apply Nat.eq_of_testBit_eq
  intro a
  rw [tuW_test]; simp
theorem tuW_put (f : Nat → Nat) {k : Nat} (hk : k < 64) (pre : List Int) (b c : Nat) : up (tuW f k pre) b (tuW f k pre b ||| 2 ^ k) c = tuW f k (pre ++ [(b : Int)]) c := by
  unfold up
  apply Nat.eq_of_testBit_eq
  intro a
  by_cases e : c = b
  · subst e
    rw [if_pos rfl, Nat.testBit_or, tuW_test, tuW_test, Nat.testBit_two_pow]
    by_cases ha : a = k
    · subst ha; simp [hk]
    · have : ¬ k = a := fun h => ha h.symm
      simp [ha, this]
  · rw [if_neg e, tuW_test, tuW_test]
    have : ((c : Int) ∈ pre ++ [(b : Int)]) ↔ (c : Int) ∈ pre := by
      rw [List.mem_append, List.mem_singleton]
      constructor
      · rintro (h | h)
        · exact h
        · omega
      · exact .inl
    rw [decide_eq_decide.2 this]
theorem tuW_next (f : Nat → Nat) (k : Nat) {b : Nat} (hb : b < 64) : tuW f k (els (f k)) b = tuW f (k + 1) [] b := by
  apply Nat.eq_of_testBit_eq
  intro a
  rw [tuW_test, tuW_test, els_iff hb]
  by_cases h1 : a < k
  · rw [decide_eq_true h1, decide_eq_true (by omega : a < k + 1), decide_eq_false (by omega : ¬ a = k)]; simp
  · by_cases h2 : a = k
    · subst h2; simp
    · rw [decide_eq_false h1, decide_eq_false (by omega : ¬ a < k + 1), decide_eq_false h2]; simp
theorem tuW_end (f : Nat → Nat) (b : Nat) : tuW f 64 [] b = Bit.orN (fun a => (f a).testBit b) 64 := by
  unfold tuW
  apply Bit.orN_congr
  intro a ha
  rw [decide_eq_true ha]; simp
structure TuI (r n : Nat) (f : Nat → Nat) (w : World) (k : Nat) (Ds : List Nat) (pre : List Int) (W : World) : Prop where
  out : Boxed W (w.heap.size + 1) 73 (ptr w.heap.size 0)
  row : RowAt w.heap.size n (tuW f k pre) W
  src : RowAt r n f W
  low : Below w.heap.size w W
  tab : Tab W
  mks : Rg.Marks Ds W
  big : ∀ D ∈ Ds, w.heap.size + 2 ≤ D
section
variable {r n : Nat} {f : Nat → Nat} {w W W' : World} {k : Nat} {Ds : List Nat} {pre : List Int}
theorem TuI.turn {B : Nat} (h : TuI r n f w k Ds pre W) (t : Rg.Turn B W W') (hB : w.heap.size + 1 < B) (hD : ∀ D ∈ Ds, D < B) : TuI r n f w k Ds pre W' :=
  ⟨boxed_turn h.out t, h.row.turn t, h.src.turn t, h.low.trans (t.below (by omega) h.low.size), h.tab.turn t (by omega), h.mks.keep fun D hd => t.low (hD D hd) (h.mks.lt hd), h.big⟩
theorem TuI.grow (h : TuI r n f w k Ds pre W) (t : Below W.heap.size W W') : TuI r n f w k Ds pre W' :=
  ⟨boxed_grow h.out t, h.row.grow t, h.src.grow t, h.low.trans (t.mono h.low.size), h.tab.grow t, h.mks.below t, h.big⟩
theorem TuI.put (h : TuI r n f w k Ds pre W) (hk : k < 64) {b : Nat} (hb : b < 64) (hr : r < w.heap.size) : TuI r n f w k Ds (pre ++ [(b : Int)]) (W.setCell ⟨w.heap.size, 1 + b, none⟩ (vU ((tuW f k pre b ||| 2 ^ k : Nat) : Int))) := by
  have kk : ∀ i, i ≠ w.heap.size → (W.setCell ⟨w.heap.size, 1 + b, none⟩ (vU ((tuW f k pre b ||| 2 ^ k : Nat) : Int))).heap[i]? = W.heap[i]? := fun i hi => Below.heap_setCell _ _ _ _ hi
  refine ⟨?_, ?_, h.src.keep (kk _ (by omega)), h.low.setCell (p := ⟨w.heap.size, 1 + b, none⟩) (Nat.le_refl _) _, h.tab.keep (kk _ ?_), h.mks.keep fun D hd => kk _ ?_, h.big⟩
  · unfold Boxed; rw [kk _ (by omega)]; exact h.out
  · exact (h.row.put hb _).congr fun c _ => tuW_put f hk pre b c
  · omega
  · have := h.big D hd; omega
end
set_option maxHeartbeats 4000000 in
theorem turned_c {r n : Nat} {f : Nat → Nat} {w : World} (H : RowAt r n f w) (hf : ∀ a, f a < 2 ^ 64) (hT : Tab w) : Calls Tryz.prog 117 #[ptr r 0] w fun e w' => ∃ q, e = .returned (ptr q 0) ∧ RowAt q n (fun b => Bit.orN (fun a => (f a).testBit b) 64) w' ∧ w.heap.size ≤ q ∧ Below w.heap.size w w' := by
  have c0 := H.c0
  have hrl := H.lt
  refine Rg.calls_marks Tryz.func117 rfl ?_
  simp only [Tryz.ntmps117, List.size_toArray, List.length_cons, List.length_nil, Nat.reduceAdd, Nat.reduceSub, Array.replicate_succ, Array.replicate_zero, List.push_toArray, List.append_toArray, List.nil_append, List.cons_append]
  go_upto_region 2 with (first | (with_reducible refine wpList_new70 rfl _ rfl n rfl ?_; simp only [Act.put, List.setIfInBounds_toArray, List.set_cons_succ, List.set_cons_zero]) | (with_reducible refine wpList_box70 rfl _ rfl n (fun _ => 0) rfl ?_; intro w1 hR1 hB1 hsz1; simp only [Act.put, List.setIfInBounds_toArray, List.set_cons_succ, List.set_cons_zero]))
  have b3 : Boxed (w1.alloc (Obj.cells #[ptr w.heap.size 0] 73)) (w.heap.size + 1) 73 (ptr w.heap.size 0) := by
    have := Boxed.new w1 73 (ptr w.heap.size 0)
    rwa [hsz1] at this
  have hB2 : Below w.heap.size w (w1.alloc (Obj.cells #[ptr w.heap.size 0] 73)) := hB1.alloc (by omega) _
  have hR2 : RowAt w.heap.size n (fun _ => 0) (w1.alloc (Obj.cells #[ptr w.heap.size 0] 73)) := hR1.grow (below_alloc _ _)
  have hI0 : TuI r n f w 0 [] [] (w1.alloc (Obj.cells #[ptr w.heap.size 0] 73)) := ⟨b3, hR2.congr fun b _ => (tuW_zero f b).symm, H.grow hB2, hB2, hT.grow hB2, Rg.Marks.nil _, fun _ h => by cases h⟩
  have H4 := hI0.src
  generalize (w1.alloc (Obj.cells #[ptr w.heap.size 0] 73)) = W1 at *
  clear b3 hB2 hR2 hR1 hB1 hsz1 w1 c0
  go_wp2_with (first | (with_reducible refine wpList_load68 rfl _ rfl rfl H4 ?_; simp only [Act.put, List.setIfInBounds_toArray, List.set_cons_succ, List.set_cons_zero]))
  refine Rg.wp_loop_by (fun m a W => ∃ (k : Nat) (Ds : List Nat) (u4 u5 u6 u18 u19 u20 u21 u22 u23 u24 u25 u26 u27 u28 u29 u30 u31 u32 u33 u34 u35 u36 u37 : Value), m = 64 - k ∧ k ≤ 64 ∧ TuI r n f w k Ds [] W ∧ a = { tmps := #[ptr r 0, undef, Value.pointer none, ptr (w.heap.size + 1) 0, u4, u5, u6, ptr r 0, ptr r 0, ptr r 0, vI n, Value.agg (vI n :: rl fun x => 0).toArray, ptr w.heap.size 0, ptr r 0, ptr r 0, ptr r 1, Value.agg (rl f).toArray, vI k, u18, u19, u20, u21, u22, u23, u24, u25, u26, u27, u28, u29, u30, u31, u32, u33, u34, u35, u36, u37, undef], defers := Ds.map Rg.mark }) 64 ?_ ?_
  · exact ⟨0, [], undef, undef, undef, undef, undef, undef, undef, undef, undef, undef, undef, undef, undef, undef, undef, undef, undef, undef, undef, undef, undef, undef, undef, rfl, by omega, hI0, rfl⟩
  clear hI0 H4
  rintro m a W ⟨k, Ds, u4, u5, u6, u18, u19, u20, u21, u22, u23, u24, u25, u26, u27, u28, u29, u30, u31, u32, u33, u34, u35, u36, u37, rfl, hk, hI, rfl⟩
  dsimp only
  by_cases hlt : (k : Int) < 64
  · have hk2 : k < 64 := by omega
    go_wp2_with (first | (with_reducible refine wpList_index68 rfl _ _ rfl rfl k hk2 rfl ?_; simp only [Act.put, List.setIfInBounds_toArray, List.set_cons_succ, List.set_cons_zero]))
    have qa : Boxed (W.alloc (Obj.cells #[vI k] 3)) W.heap.size 3 (vI k) := Boxed.new W 3 (vI k)
    have hI2 := hI.grow (below_alloc W (Obj.cells #[vI k] 3))
    have hgt : w.heap.size + 1 < W.heap.size := hI.out.lt
    clear hI
    generalize W.alloc (Obj.cells #[vI k] 3) = W2 at *
    have hlt2 := qa.lt
    refine wp_each (f k) (hf k) rfl (fun pre W' => TuI r n f w k Ds pre W' ∧ Boxed W' W.heap.size 3 (vI k)) (fun pre A B h t => ⟨h.1.turn t (by omega) (fun D hD => hI2.mks.lt hD), boxed_turn h.2 t⟩) (fun pre A h => h.1.tab) ⟨hI2, qa⟩ (fun x => { tmps := #[ptr r 0, undef, Value.pointer none, ptr (w.heap.size + 1) 0, ptr W.heap.size 0, vU (f k), vI x, ptr r 0, ptr r 0, ptr r 0, vI n, Value.agg (vI n :: rl fun x => 0).toArray, ptr w.heap.size 0, ptr r 0, ptr r 0, ptr r 1, Value.agg (rl f).toArray, vI k, Value.bool true, vI k, vU (f k), vU (f k), Value.func (Fn.func 85) #[vU (f k)] #[], vI x, u24, u25, u26, u27, u28, u29, u30, u31, u32, u33, u34, u35, u36, u37, undef], defers := [] }) ?assign ?body ?done
    case assign =>
      intro l x A K hK
      gi_wp2
      exact hK
    case body =>
      intro l pre b A hA hb hvb hpre
      obtain ⟨hA, hqa⟩ := hA
      refine wpIn_block ?_
      have hb2 : (b : Int) < 64 := by omega
      have hst : (StC A (fun w1 => KeepsFrom W2.heap.size A w1 ∧ TuI r n f w k Ds (pre ++ [(b : Int)]) w1 ∧ Boxed w1 W.heap.size 3 (vI k))) 0 { A with drawn := A.drawn + 1 } := Rel.below_draws (n := 1) (Below.refl _ _)
      refine Rg.region_round (by kernel_rfl) (by kernel_rfl) (by rintro ⟨_, _, h⟩; exact h) ?_
      refine Chn.wpAny_region_chainL (StC A (fun w1 => KeepsFrom W2.heap.size A w1 ∧ TuI r n f w k Ds (pre ++ [(b : Int)]) w1 ∧ Boxed w1 W.heap.size 3 (vI k))) [13] [0, 1, 0, 1, 1, 1, 1, 0, 0, 1, 1, 1, 1, 1] [ptr w.heap.size 0, vI b, ptr w.heap.size 0, vI b, ptr w.heap.size 0, ptr w.heap.size 1, ptr w.heap.size (1 + b), vU (tuW f k pre b), vI k, vU ((tuW f k pre b ||| 2 ^ k : Nat) : Int), ptr w.heap.size 0, ptr w.heap.size 1, ptr w.heap.size (1 + b), undef] (by kernel_rfl) (by kernel_rfl) (by kernel_rfl) (by kernel_rfl) hst ?_
      clear hst
      refine ⟨fun j w1 hj hC => by
        have z := (boxed_grow hA.out (stC_low hj hC)).cell
        exact Chn.upon_pure hC (fun F hF => by (go_simp <;> exact hF)), ?_⟩
      simp only [Act.put, List.setIfInBounds_toArray, List.set_cons_succ, List.set_cons_zero]
      refine ⟨fun j w1 hj hC => by exact Chn.upon_pure hC (fun F hF => by (go_simp <;> exact hF)), ?_⟩
      simp only [Act.put, List.setIfInBounds_toArray, List.set_cons_succ, List.set_cons_zero]
      refine ⟨fun j w1 hj hC => by
        have z := (boxed_grow hA.out (stC_low hj hC)).cell
        exact Chn.upon_pure hC (fun F hF => by (go_simp <;> exact hF)), ?_⟩
      simp only [Act.put, List.setIfInBounds_toArray, List.set_cons_succ, List.set_cons_zero]
      refine ⟨fun j w1 hj hC => by exact Chn.upon_pure hC (fun F hF => by (go_simp <;> exact hF)), ?_⟩
      simp only [Act.put, List.setIfInBounds_toArray, List.set_cons_succ, List.set_cons_zero]
      refine ⟨fun j w1 hj hC => by exact Chn.upon_pure hC (fun F hF => by (go_simp <;> exact hF)), ?_⟩
      simp only [Act.put, List.setIfInBounds_toArray, List.set_cons_succ, List.set_cons_zero]
      refine ⟨fun j w1 hj hC => by exact Chn.upon_pure hC (fun F hF => by (go_simp <;> exact hF)), ?_⟩
      simp only [Act.put, List.setIfInBounds_toArray, List.set_cons_succ, List.set_cons_zero]
      refine ⟨fun j w1 hj hC => by exact Chn.upon_pure hC (fun F hF => by (go_simp <;> exact hF)), ?_⟩
      simp only [Act.put, List.setIfInBounds_toArray, List.set_cons_succ, List.set_cons_zero]
      refine ⟨fun j w1 hj hC => by
        have z := (hA.row.grow (stC_low hj hC)).cell hb
        exact Chn.upon_pure hC (fun F hF => by (go_simp <;> exact hF)), ?_⟩
      simp only [Act.put, List.setIfInBounds_toArray, List.set_cons_succ, List.set_cons_zero]
      refine ⟨fun j w1 hj hC => by
        have z := (boxed_grow hqa (stC_low hj hC)).cell
        exact Chn.upon_pure hC (fun F hF => by (go_simp <;> exact hF)), ?_⟩
      simp only [Act.put, List.setIfInBounds_toArray, List.set_cons_succ, List.set_cons_zero]
      refine ⟨fun j w1 hj hC => by
        exact Chn.upon_call (C := (StC A (fun w1 => KeepsFrom W2.heap.size A w1 ∧ TuI r n f w k Ds (pre ++ [(b : Int)]) w1 ∧ Boxed w1 W.heap.size 3 (vI k))) j) (with_c (tuW f k pre b) k (tuW_lt f k pre b) hk2 w1) (fun e2 w2 hh => ⟨hh.1, by rw [hh.2]; exact hC⟩) (fun F hF => by (go_simp <;> exact hF)), ?_⟩
      simp only [Act.put, List.setIfInBounds_toArray, List.set_cons_succ, List.set_cons_zero]
      refine ⟨fun j w1 hj hC => by exact Chn.upon_pure hC (fun F hF => by (go_simp <;> exact hF)), ?_⟩
      simp only [Act.put, List.setIfInBounds_toArray, List.set_cons_succ, List.set_cons_zero]
      refine ⟨fun j w1 hj hC => by exact Chn.upon_pure hC (fun F hF => by (go_simp <;> exact hF)), ?_⟩
      simp only [Act.put, List.setIfInBounds_toArray, List.set_cons_succ, List.set_cons_zero]
      refine ⟨fun j w1 hj hC => by exact Chn.upon_pure hC (fun F hF => by (go_simp <;> exact hF)), ?_⟩
      simp only [Act.put, List.setIfInBounds_toArray, List.set_cons_succ, List.set_cons_zero]
      refine ⟨fun w1 hC => by
        exact chn_store (C := (StC A (fun w1 => KeepsFrom W2.heap.size A w1 ∧ TuI r n f w k Ds (pre ++ [(b : Int)]) w1 ∧ Boxed w1 W.heap.size 3 (vI k))) 1) 94 _ _ rfl w.heap.size (1 + b) rfl (vU ((tuW f k pre b ||| 2 ^ k : Nat) : Int)) rfl ((hA.row.grow hC).run67 hb _) (⟨(keeps_below hC).trans ((KeepsOthers.setCell _ _ _).from _), (hA.grow hC).put hk2 hb hrl, by have h := boxed_grow hqa hC; unfold Boxed; rw [Below.heap_setCell _ _ _ _ (show W.heap.size ≠ w.heap.size by omega)]; exact h⟩), ?_⟩
      simp only [Act.put, List.setIfInBounds_toArray, List.set_cons_succ, List.set_cons_zero]
      intro w5 hC

      exact hC
    case done =>
      intro D A hD hA hK
      obtain ⟨hA, _⟩ := hA
      go_wp2
      refine ⟨64 - (k + 1), by omega, k + 1, D :: Ds, _, _, _, _, _, _, _, _, _, _, _, _, _, _, _, _, _, _, _, _, _, _, _, rfl, by omega, ⟨hA.out, hA.row.congr fun c hc => tuW_next f k hc, hA.src, hA.low, hA.tab, hA.mks.cons hK (fun h => by have := hI2.mks.lt h; omega), fun E hE => ?_⟩, by go_num⟩
      rcases List.mem_cons.1 hE with rfl | hE
      · omega
      · exact hA.big E hE
  · obtain rfl : k = 64 := by omega
    have hc := hI.out.cell
    go_wp2
    exact Rg.ret_marks (w.heap.size + 1) hI.mks (fun D hD => by have := hI.big D hD; omega) (fun w' => results_tmp rfl _ _ _) fun w' ht => ⟨w.heap.size, rfl, (hI.row.turn ht).congr fun b _ => tuW_end f b, Nat.le_refl _, hI.low.trans (ht.below (by omega) hI.low.size)⟩
end Go.Proofs.YtnedkielehmneaaGreatDoor
