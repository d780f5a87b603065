/- Wrote. -/
import Derived.Test.YtgloemlbkkjcaaaMe
namespace Go.Proofs.Ytgloemlbkkjcaaa
open Go.RowKit
set_option linter.unusedVariables false
set_option linter.unusedSimpArgs false

/-- What goes on beside: of what was there nothing turns but rooms for marks of a call's own, and these to ns. -/
structure GM (B : Nat) (ns : List Mk) (w w' : World) : Prop where
  os : w'.os = w.os
  tape : w'.tape = w.tape
  output : w'.output = w.output
  size : w.heap.size ≤ w'.heap.size
  block : ∀ k, k < w.heap.size → w'.heap[k]? = w.heap[k]? ∨ (B ≤ k ∧ (∃ X, w.heap[k]? = some (.cells X 57)) ∧ w'.heap[k]? = some (.cells (flatM ns).toArray 57))
theorem GM.refl (B : Nat) (ns : List Mk) (w : World) : GM B ns w w := ⟨rfl, rfl, rfl, Nat.le_refl _, fun _ _ => .inl rfl⟩
theorem gm_below {B : Nat} {ns : List Mk} {w w' : World} (h : Below w.heap.size w w') : GM B ns w w' := ⟨h.os, h.tape, h.output, h.size, fun k hk => .inl (h.block k hk)⟩
theorem gm_set {B : Nat} {ns : List Mk} {w : World} {q : Nat} {X : Array Value} (hq : B ≤ q) (h : w.heap[q]? = some (.cells X 57)) : GM B ns w (w.setRow q (flatM ns).toArray) :=
  ⟨rfl, rfl, rfl, by simp, fun k _ => by
    by_cases e : k = q
    · subst e; exact .inr ⟨hq, ⟨X, h⟩, setRow_heap _ _ _ _ _ _ h⟩
    · exact .inl (setRow_other _ _ _ _ e)⟩
theorem up_gm (B : Nat) (ns : List Mk) (w : World) (hB : B = w.heap.size) : Rel.Up (GM B ns) (fun x => Below w.heap.size w x) := fun a b h g =>
  ⟨g.os.trans h.os, g.tape.trans h.tape, g.output.trans h.output, Nat.le_trans h.size g.size, fun k hk => by
    rcases g.block k (Nat.lt_of_lt_of_le hk h.size) with e | ⟨e, _⟩
    · rw [e]; exact h.block k hk
    · omega⟩
theorem GM.row {B : Nat} {ns : List Mk} {w w' : World} (g : GM B ns w w') {v : Value} {L : List Int} {base : Nat} (h : w.ownsRow base 3 1 v L.length (L.map vI)) : w'.ownsRow base 3 1 v L.length (L.map vI) :=
  own_of_block h fun k hk => by
    rcases g.block k (h.lt k hk).2 with e | ⟨_, ⟨X, hX⟩, _⟩
    · exact e
    · exact absurd hk (own_ne hX h (by decide))
/-- The values on the way. -/
def W7 (B : Nat) (ns : List Mk) (L : List Int) (_ : Nat → Value) (v : Value) (x : World) : Prop := ∃ ha hc, v = .tuple #[.agg (flatM ns).toArray, .slice ha L.length hc] ∧ x.ownsRow B 3 1 (.slice ha L.length hc) L.length (L.map vI)
def W10 (B : Nat) (L : List Int) (_ : Nat → Value) (v : Value) (x : World) : Prop := ∃ ha hc, v = .slice ha L.length hc ∧ x.ownsRow B 3 1 (.slice ha L.length hc) L.length (L.map vI)
def W11 (B : Nat) (_ : Nat → Value) (v : Value) (x : World) : Prop := ∃ (q : Nat) (zs : List Mk), v = ptr q 0 ∧ B ≤ q ∧ zs.length = 8 ∧ x.heap[q]? = some (.cells (flatM zs).toArray 57)
def W12 (B : Nat) (ns : List Mk) (vals : Nat → Value) (_ : Value) (x : World) : Prop := ∃ q : Nat, vals 11 = ptr q 0 ∧ B ≤ q ∧ x.heap[q]? = some (.cells (flatM ns).toArray 57)
theorem up7 (B : Nat) (ns : List Mk) (L : List Int) : RelD.upD (GM B ns) (.inr (W7 B ns L)) := fun _ _ _ _ ⟨ha, hc, e, h⟩ g => ⟨ha, hc, e, g.row h⟩
theorem up10 (B : Nat) (ns : List Mk) (L : List Int) : RelD.upD (GM B ns) (.inr (W10 B L)) := fun _ _ _ _ ⟨ha, hc, e, h⟩ g => ⟨ha, hc, e, g.row h⟩
theorem up11 (B : Nat) (ns : List Mk) (hl : ns.length = 8) : RelD.upD (GM B ns) (.inr (W11 B)) := fun _ _ _ _ ⟨q, zs, e, hq, hz, h⟩ g => by
  rcases g.block q (lt_of_some h) with h2 | ⟨_, _, h2⟩
  · exact ⟨q, zs, e, hq, hz, by rw [h2]; exact h⟩
  · exact ⟨q, ns, e, hq, hl, h2⟩
theorem up12 (B : Nat) (ns : List Mk) : RelD.upD (GM B ns) (.inr (W12 B ns)) := fun _ _ _ _ ⟨q, e, hq, h⟩ g => by
  rcases g.block q (lt_of_some h) with h2 | ⟨_, _, h2⟩
  · exact ⟨q, e, hq, by rw [h2]; exact h⟩
  · exact ⟨q, e, hq, h2⟩
theorem own_base {w : World} {b base size n : Nat} {e : TypeId} {v : Value} {xs : List Value} (h : w.ownsRow base e size v n xs) (hb : b ≤ base) : w.ownsRow b e size v n xs := by
  refine ⟨h.1, ?_⟩
  rcases h.2 with hn | ⟨g, cap, cur, rfl, h1, rest⟩
  · exact .inl hn
  · exact .inr ⟨g, cap, cur, rfl, Nat.le_trans hb h1, rest⟩
def wroteS (n : Int) (ms : List Mk) (core addr : Int) : List Mk := if hasB n core then wip ms core (ofV addr) 8 else ms
def wroteL (n : Int) (ms : List Mk) (core addr : Int) : List Int := if hasB n core then lst ms core (ofV addr) 8 else []
set_option maxRecDepth 8000 in
theorem wrote_c (g : Nat) (n : Int) (ms : List Mk) (core addr : Int) (w : World) (H : MonAt g n ms w) (hn : n ≤ 8) (hA : U64 addr) : Calls Try.prog 13 #[ptr g 0, vI core, vU addr] w fun e w' => ∃ ha hc, e = .returned (.tuple #[.slice ha (wroteL n ms core addr).length hc, vI (if hasB n core then 0 else 1)]) ∧ MTurn g n (wroteS n ms core addr) w w' ∧ w'.ownsRow w.heap.size 3 1 (.slice ha (wroteL n ms core addr).length hc) (wroteL n ms core addr).length ((wroteL n ms core addr).map vI) := by
  unfold wroteS wroteL
  cases hB : hasB n core
  · go_enter Try.func13, Try.ntmps13
    go_wp2_with (go_at_call 19; refine (hasCore_c g n ms core _ H).mono ?_; rintro e w' ⟨rfl, rfl⟩; dsimp only; rw [show (decide (0 ≤ core) && decide (core < n)) = false from hB])
    go_ret2
    exact ⟨none, 0, rfl, mturn_refl H, World.ownsRow_nil _ _ _ _⟩
  · simp only [if_true]
    have hl2 : (wip ms core (ofV addr) 8).length = 8 := by rw [wip_len]; exact H.len
    have hc0 := (hasB_iff.1 hB).1
    generalize hns : wip ms core (ofV addr) 8 = ns at hl2 ⊢
    generalize hL : lst ms core (ofV addr) 8 = L
    go_enter Try.func13, Try.ntmps13
    go_upto_region 3 with (go_at_call 19; refine (hasCore_c g n ms core _ H).mono ?_; rintro e w' ⟨rfl, rfl⟩; dsimp only; rw [show (decide (0 ≤ core) && decide (core < n)) = true from hB])
    obtain ⟨B, hBd⟩ : ∃ B, Hid (B = w'.heap.size) := ⟨_, rfl⟩
    refine RelD.wp_region_relD (GM B ns) (fun x => Below w'.heap.size w' x) [.inl (ptr g 0), .inl (ptr g 0), .inl (ptr g 1), .inl (.agg (flatM ms).toArray), .inl (vI core), .inl (vU addr), .inl (ofV addr).val, .inr (W7 B ns L), .inr (W7 B ns L), .inl (.agg (flatM ns).toArray), .inr (W10 B L), .inr (W11 B), .inr (W12 B ns), .inr (W10 B L)] (by kernel_rfl) (by kernel_rfl) (up_gm B ns w' hBd.out) ⟨rfl, rfl, rfl, Nat.le_refl _, fun _ _ => rfl⟩ ?_ ?_ ?_
    · intro k hk
      simp only [List.mem_cons, List.not_mem_nil, or_false] at hk
      rcases hk with rfl | rfl | rfl | rfl | rfl | rfl | rfl | rfl | rfl | rfl | rfl | rfl | rfl | rfl
      all_goals first | trivial | exact up7 B ns L | exact up10 B ns L | exact up11 B ns hl2 | exact up12 B ns
    · intro i k hk
      match i with
      | 12 =>
        cases hk
        intro vals vals' hv v x ⟨q, e, r⟩
        exact ⟨q, by rw [← hv 11 (by kernel_rfl)]; exact e, r⟩
      | 0 | 1 | 2 | 3 | 4 | 5 | 6 | 7 | 8 | 9 | 10 | 11 | 13 => cases hk; first | trivial | exact fun _ _ _ _ _ h => h
      | i + 14 => simp at hk
    intro vals
    iterate 3
      refine ⟨fun w1 hC hF => by (go_simp <;> exact GM.refl _ _ _), ?_⟩
      simp only [Act.put, List.setIfInBounds_toArray, List.set_cons_succ, List.set_cons_zero]
    refine ⟨fun w1 hC hF => rel_loadMs (GM.refl _ _) _ rfl g 1 rfl ms (H.grow hC).all H.len, ?_⟩
    simp only [Act.put, List.setIfInBounds_toArray, List.set_cons_succ, List.set_cons_zero]
    iterate 2
      refine ⟨fun w1 hC hF => by (go_simp <;> exact GM.refl _ _ _), ?_⟩
      simp only [Act.put, List.setIfInBounds_toArray, List.set_cons_succ, List.set_cons_zero]
    refine ⟨fun w1 hC hF => by
      go_simp
      refine (of_c addr w1 hA).mono ?_
      rintro e w'' ⟨rfl, hb⟩
      exact ⟨rfl, gm_below hb⟩, ?_⟩
    simp only [Act.put, List.setIfInBounds_toArray, List.set_cons_succ, List.set_cons_zero]
    refine ⟨fun w1 hC hF => by
      go_simp
      refine (without_c ms core (ofV addr) w1 H.len).mono ?_
      rintro e w'' ⟨ha, hc, rfl, T⟩
      rw [hL] at T
      rw [hns, hL]
      exact ⟨_, rfl, gm_below T.below, ha, hc, rfl, own_base T.row (by rw [hBd.out]; exact hC.size)⟩, ?_⟩
    simp only [Act.put, List.setIfInBounds_toArray, List.set_cons_succ, List.set_cons_zero, Nat.zero_add, Nat.reduceAdd]
    generalize vals 7 = v7
    refine ⟨fun w1 hC hF => by
      obtain ⟨ha, hc, rfl, h⟩ : W7 B ns L vals v7 w1 := (hF 7 (by kernel_rfl)).1 rfl
      go_simp
      exact ⟨GM.refl _ _ _, ha, hc, rfl, h⟩, ?_⟩
    simp only [Act.put, List.setIfInBounds_toArray, List.set_cons_succ, List.set_cons_zero, Nat.zero_add, Nat.reduceAdd]
    generalize vals 8 = v8
    refine ⟨fun w1 hC hF => by
      obtain ⟨ha, hc, rfl, h⟩ : W7 B ns L vals v8 w1 := (hF 8 (by kernel_rfl)).1 rfl
      go_simp <;> exact GM.refl _ _ _, ?_⟩
    simp only [Act.put, List.setIfInBounds_toArray, List.set_cons_succ, List.set_cons_zero, Nat.zero_add, Nat.reduceAdd]
    refine ⟨fun w1 hC hF => by
      obtain ⟨ha, hc, rfl, h⟩ : W7 B ns L vals v8 w1 := (hF 8 (by kernel_rfl)).1 rfl
      go_simp
      exact ⟨GM.refl _ _ _, ha, hc, rfl, h⟩, ?_⟩
    simp only [Act.put, List.setIfInBounds_toArray, List.set_cons_succ, List.set_cons_zero, Nat.zero_add, Nat.reduceAdd]
    generalize vals 10 = v10
    refine ⟨fun w1 hC hF => by
      go_simp
      exact ⟨gm_below (below_alloc _ _), w1.heap.size, nilM, rfl, by rw [hBd.out]; exact hC.size, rfl, heap_alloc_new _ _⟩, ?_⟩
    simp only [Act.put, List.setIfInBounds_toArray, List.set_cons_succ, List.set_cons_zero, Nat.zero_add, Nat.reduceAdd]
    generalize h11 : vals 11 = v11
    refine ⟨fun w1 hC hF => by
      obtain ⟨q, zs, rfl, hq, hz, h⟩ : W11 B vals v11 w1 := (hF 11 (by kernel_rfl)).1 rfl
      refine rel_storeMs _ _ rfl q 0 rfl ns rfl hl2 (flatM zs) 57 h (by rw [len_flatM, hz]; decide) ?_ ?_
      · rw [seg_marks (by rw [hl2, hz])]; exact gm_set hq h
      · rw [seg_marks (by rw [hl2, hz])]; exact ⟨q, h11, hq, setRow_heap _ _ _ _ _ _ h⟩, ?_⟩
    simp only [Act.put, List.setIfInBounds_toArray, List.set_cons_succ, List.set_cons_zero, Nat.zero_add, Nat.reduceAdd]
    refine ⟨fun w1 hC hF => by
      obtain ⟨ha, hc, rfl, h⟩ : W10 B L vals v10 w1 := (hF 10 (by kernel_rfl)).2.2.1 rfl
      go_simp
      exact ⟨GM.refl _ _ _, ha, hc, rfl, h⟩, ?_⟩
    simp only [Act.put, List.setIfInBounds_toArray, List.set_cons_succ, List.set_cons_zero, Nat.zero_add, Nat.reduceAdd]
    generalize vals 13 = v13
    intro y hC hF
    obtain ⟨ha, hc, rfl, hrow⟩ : W10 B L vals v13 y := (hF 13).1 rfl
    obtain ⟨q, e11, hq, hqb⟩ : W12 B ns vals (vals 12) y := (hF 12).2.1 rfl
    obtain rfl : v11 = ptr q 0 := by rw [← h11, e11]
    clear hF
    have hrq : y.rangeAt q 0 (flatM ns) := range_of hqb (fun j v h => by simpa using h)
    go_wp2_with (first | ((with_reducible refine wpList_loadMs rfl _ rfl q 0 rfl ns hrq hl2 ?_); simp only [Act.put, List.setIfInBounds_toArray, List.set_cons_succ, List.set_cons_zero]) | ((with_reducible refine wpList_storeMs rfl _ _ rfl g 1 rfl ns rfl hl2 (monC n ms) 59 (H.grow hC).row (by rw [monC, List.length_cons, len_flatM, H.len]; decide) ?_); simp only [Act.put, List.setIfInBounds_toArray, List.set_cons_succ, List.set_cons_zero]))
    go_ret2
    refine ⟨ha, hc, rfl, H.put hC hl2, ?_⟩
    rw [← hBd.out]
    exact own_of_block hrow fun k hk => setRow_other _ _ _ _ (fun e => by subst e; have := (hrow.lt k hk).1; have := H.lt; have := hBd.out; omega)
end Go.Proofs.Ytgloemlbkkjcaaa
