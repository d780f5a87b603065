/- Relation. -/
import Derived.Test.YtnedkielehmneaaGreatDoorEk
namespace Go.Proofs.YtnedkielehmneaaGreatDoor
open Go.RowKit
open Go.Shelf
set_option linter.unusedVariables false
set_option linter.unusedSimpArgs false
set_option maxRecDepth 8000

open Axm
theorem wpList_index93 {ops : Array Oper} {rest : List Oper} {o : Oper} {a : Act} {w : World} {Q : Exit → Act → World → Prop} (hg : o.guard = none) (x y : Operand) (ho : o.op = .index 93 x y) {cs : Array Value} (hx : a.eval x = .agg cs) {k : Value} (hy : a.eval y = k) (r : Value) (hrun : ∀ w, (Instr.index 93 (.agg cs) k).run Tryz.prog w = .ok r w)
    (h : wpList Tryz.prog ops Q rest (a.put o.dst r) w) : wpList Tryz.prog ops Q (o :: rest) a w :=
  wpList_plain hg fun _ hK => by
    unfold Oper.wp execOp
    simp only [ho, hx, hy, Sem.run_bind, hrun, Result.andThen_ok]
    exact hK _ _ h
def TwoAt (t : Nat) (cs : Array Value) (w : World) : Prop := w.heap[t]? = some (.cells cs 92)
theorem TwoAt.cell {t : Nat} {cs : Array Value} {w : World} (h : TwoAt t cs w) (j : Nat) : w.cell? ⟨t, j, none⟩ = cs[j]? := by rw [cell_of_row _ _ _ _ _ _ h]
theorem wpList_new92 {ops : Array Oper} {rest : List Oper} {o : Oper} {a : Act} {w : World} {Q : Exit → Act → World → Prop} (hg : o.guard = none) (ho : o.op = .alloc 92)
    (h : ∀ w', TwoAt w.heap.size #[.string { data := #[] }, .nilFunc] w' → Below w.heap.size w w' → wpList Tryz.prog ops Q rest (a.put o.dst (ptr w.heap.size 0)) w') : wpList Tryz.prog ops Q (o :: rest) a w :=
  wpList_alloc hg 92 ho #[.string { data := #[] }, .nilFunc] (by kernel_rfl) (h _ (World.alloc_heap_new w _) (below_alloc _ _))
theorem wpList_store92 {ops : Array Oper} {rest : List Oper} {o : Oper} {a : Act} {w : World} {Q : Exit → Act → World → Prop} (hg : o.guard = none) (x y : Operand) (ho : o.op = .store 92 x y) {q : Nat} {cs : Array Value} (hs : cs.size = 2) (hx : a.eval x = ptr q 0) (H : TwoAt q cs w) {u v : Value} (hy : a.eval y = .agg #[u, v]) (h1 : u.oneCell' = true) (h2 : v.oneCell' = true)
    (h : ∀ w', w'.cell? ⟨q, 0, none⟩ = some u → w'.cell? ⟨q, 1, none⟩ = some v → Goes (fun k => k = q) w w' → wpList Tryz.prog ops Q rest (a.put o.dst undef) w') : wpList Tryz.prog ops Q (o :: rest) a w :=
  wpList_store_row hg 92 x y ho q _ hx hy 92 _ H (by show _ = some 2; kernel_rfl) (by rw [hs]; rfl) (by simp only [List.all_toArray, List.all_cons, List.all_nil, h1, h2]; rfl) (by
    have R : TwoAt q #[u, v] _ := setRow_heap _ _ _ _ _ _ H
    exact h _ (R.cell 0) (R.cell 1) (goes_setRow w (F := fun k => k = q) rfl _))
set_option maxHeartbeats 16000000 in
theorem named_fr {w : World} {ao : Option Addr} {n cap : Nat} : Calls Tryz.prog 42 #[.slice ao n cap, .string { data := #[102, 114] }] w fun e w' => e = .returned (.func (.func 56) #[.slice ao n cap] #[]) ∧ Below w.heap.size w w' := by
  go_enter Tryz.func42, Tryz.ntmps42
  go_wp2
  go_loopw [6, 68] (fun _ s68 wr => ∃ k : Nat, k ≤ 4 ∧ s68 = vI k ∧ Hid (Below w.heap.size w wr)) (fun _ s68 _ => 4 - (intOf s68).toNat)
  case atStart => exact ⟨0, Nat.zero_le _, rfl, Below.refl _ _⟩
  case round =>
    obtain ⟨k, hk, rfl, hH⟩ := hrel
    have hB := hH.out
    clear hH
    match k, hk with
    | 0, _ =>
      go_wp2_with (first | (with_reducible refine wpList_index93 rfl _ _ rfl rfl rfl (.agg #[.string { data := #[112, 111] }, .func (.func 52) #[.slice ao n cap] #[]]) (fun _ => by kernel_rfl) ?_; simp only [Act.put, List.setIfInBounds_toArray, List.set_cons_succ, List.set_cons_zero]) | (with_reducible refine wpList_new92 rfl rfl ?_; intro w1 V1 hB1; simp only [Act.put, List.setIfInBounds_toArray, List.set_cons_succ, List.set_cons_zero]) | (with_reducible refine wpList_store92 rfl _ _ rfl rfl rfl V1 rfl rfl rfl ?_; intro w2 d0 d1 hG; simp only [Act.put, List.setIfInBounds_toArray, List.set_cons_succ, List.set_cons_zero]))
      go_roundw
      case rel => exact ⟨1, by decide, by go_num, hB.trans ((hB1.mono hB.size).trans (hG.below (Nat.le_trans hB.size hB1.size) (fun k hk => by rw [hk]; exact hB.size)))⟩
      case measure => simp [intOf]
    | 1, _ =>
      go_wp2_with (first | (with_reducible refine wpList_index93 rfl _ _ rfl rfl rfl (.agg #[.string { data := #[108, 111, 99] }, .func (.func 53) #[.slice ao n cap] #[]]) (fun _ => by kernel_rfl) ?_; simp only [Act.put, List.setIfInBounds_toArray, List.set_cons_succ, List.set_cons_zero]) | (with_reducible refine wpList_new92 rfl rfl ?_; intro w1 V1 hB1; simp only [Act.put, List.setIfInBounds_toArray, List.set_cons_succ, List.set_cons_zero]) | (with_reducible refine wpList_store92 rfl _ _ rfl rfl rfl V1 rfl rfl rfl ?_; intro w2 d0 d1 hG; simp only [Act.put, List.setIfInBounds_toArray, List.set_cons_succ, List.set_cons_zero]))
      go_roundw
      case rel => exact ⟨2, by decide, by go_num, hB.trans ((hB1.mono hB.size).trans (hG.below (Nat.le_trans hB.size hB1.size) (fun k hk => by rw [hk]; exact hB.size)))⟩
      case measure => simp [intOf]
    | 2, _ =>
      go_wp2_with (first | (with_reducible refine wpList_index93 rfl _ _ rfl rfl rfl (.agg #[.string { data := #[114, 102] }, .func (.func 54) #[.slice ao n cap] #[]]) (fun _ => by kernel_rfl) ?_; simp only [Act.put, List.setIfInBounds_toArray, List.set_cons_succ, List.set_cons_zero]) | (with_reducible refine wpList_new92 rfl rfl ?_; intro w1 V1 hB1; simp only [Act.put, List.setIfInBounds_toArray, List.set_cons_succ, List.set_cons_zero]) | (with_reducible refine wpList_store92 rfl _ _ rfl rfl rfl V1 rfl rfl rfl ?_; intro w2 d0 d1 hG; simp only [Act.put, List.setIfInBounds_toArray, List.set_cons_succ, List.set_cons_zero]))
      go_roundw
      case rel => exact ⟨3, by decide, by go_num, hB.trans ((hB1.mono hB.size).trans (hG.below (Nat.le_trans hB.size hB1.size) (fun k hk => by rw [hk]; exact hB.size)))⟩
      case measure => simp [intOf]
    | 3, _ =>
      go_wp2_with (first | (with_reducible refine wpList_index93 rfl _ _ rfl rfl rfl (.agg #[.string { data := #[99, 111] }, .func (.func 55) #[.slice ao n cap] #[]]) (fun _ => by kernel_rfl) ?_; simp only [Act.put, List.setIfInBounds_toArray, List.set_cons_succ, List.set_cons_zero]) | (with_reducible refine wpList_new92 rfl rfl ?_; intro w1 V1 hB1; simp only [Act.put, List.setIfInBounds_toArray, List.set_cons_succ, List.set_cons_zero]) | (with_reducible refine wpList_store92 rfl _ _ rfl rfl rfl V1 rfl rfl rfl ?_; intro w2 d0 d1 hG; simp only [Act.put, List.setIfInBounds_toArray, List.set_cons_succ, List.set_cons_zero]))
      go_roundw
      case rel => exact ⟨4, by decide, by go_num, hB.trans ((hB1.mono hB.size).trans (hG.below (Nat.le_trans hB.size hB1.size) (fun k hk => by rw [hk]; exact hB.size)))⟩
      case measure => simp [intOf]
    | 4, _ =>
      go_wp2_with (first | (with_reducible refine wpList_index93 rfl _ _ rfl rfl rfl (.agg #[.string { data := #[102, 114] }, .func (.func 56) #[.slice ao n cap] #[]]) (fun _ => by kernel_rfl) ?_; simp only [Act.put, List.setIfInBounds_toArray, List.set_cons_succ, List.set_cons_zero]) | (with_reducible refine wpList_new92 rfl rfl ?_; intro w1 V1 hB1; simp only [Act.put, List.setIfInBounds_toArray, List.set_cons_succ, List.set_cons_zero]) | (with_reducible refine wpList_store92 rfl _ _ rfl rfl rfl V1 rfl rfl rfl ?_; intro w2 d0 d1 hG; simp only [Act.put, List.setIfInBounds_toArray, List.set_cons_succ, List.set_cons_zero]))
      go_ret
      exact ⟨rfl, hB.trans ((hB1.mono hB.size).trans (hG.below (Nat.le_trans hB.size hB1.size) (fun k hk => by rw [hk]; exact hB.size)))⟩

/-- The relation fr. -/
theorem relation_fr {w : World} {v : Value} {n : Nat} {x : Nat → Ev} (E : Evs w v n x) (T : Tab w) (h0 : rightE n x = 0) {q : List (Nat × Nat)} (hq : Rlw.prsN n n (frR n x) = q) : Calls Tryz.prog 16 #[v, .string { data := #[102, 114] }] w fun e w' => ∃ ao cap, e = .returned (.tuple #[.slice ao q.length cap, vI 0]) ∧ Below w.heap.size w w' := by
  have hn := rightE_len h0
  have k1 := right_c E
  rw [h0] at k1
  obtain ⟨ao, cap, ev⟩ := E.len
  have B := Below.refl w.heap.size w
  rw [ev] at k1 ⊢
  have hrun : ∀ w, Sem.run Tryz.prog (binOp BinOp.eql 71 (Value.func (.func 56) #[.slice ao n cap] #[]) Value.nilFunc) w = .ok (.bool false) w := fun _ => by kernel_rfl
  have eg := enters_of (P := Tryz.prog) Tryz.func56 (by kernel_rfl) rfl
  go_enter Tryz.func16, Tryz.ntmps16
  go_wp2_with (first | (go_at_call 13; with_reducible refine k1.mono ?_; clear k1; rintro e w1 ⟨rfl, h1⟩; replace E := E.grow h1; replace T := T.grow h1; replace B := B.trans (h1.mono B.size); dsimp only) | (go_at_call 42; with_reducible refine named_fr.mono ?_; rintro e w2 ⟨rfl, h2⟩; replace E := E.grow h2; replace T := T.grow h2; replace B := B.trans (h2.mono B.size); have k3 := fr_c E hn T; rw [ev] at k3; dsimp only) | (go_at_call 56; with_reducible refine k3.mono ?_; clear k3; rintro e w3 ⟨r3, rfl, H3, h3⟩; replace E := E.grow h3; replace T := T.grow h3; replace B := B.trans (h3.mono B.size); have k4 := pairs_q H3 T hq; dsimp only) | (go_at_call 43; with_reducible refine k4.mono ?_; clear k4; rintro e w4 ⟨vq, rfl, hR, h4⟩; replace B := B.trans (h4.mono B.size); obtain ⟨ao4, cap4, rfl⟩ := owns_len hR; dsimp only))
  go_ret2
  exact ⟨ao4, cap4, rfl, B⟩
end Go.Proofs.YtnedkielehmneaaGreatDoor
