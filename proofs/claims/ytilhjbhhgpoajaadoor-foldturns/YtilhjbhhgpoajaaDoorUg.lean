/- What is known: exitIf. -/
import Derived.Test.YtilhjbhhgpoajaaDoorXv
import Derived.Test.YtilhjbhhgpoajaaDoorTail
import Derived.Test.YtilhjbhhgpoajaaDoorRelT
import Derived.Test.YtilhjbhhgpoajaaDoorAReck
namespace Go.Proofs.YtilhjbhhgpoajaaDoor
open Go.RowKit
set_option linter.unusedVariables false
set_option linter.unusedSimpArgs false
set_option maxRecDepth 8000

theorem still_built {ops : Array Oper} {rest : List Oper} {o : Oper} {a : Act} {w : World} {Q : Act → Prop} (hg : Region.wanted o (yielded ops a.tmps) = true) (t : TypeId) (parts : Array (Nat × Operand)) (ho : o.op = .build t parts) (cs : Array Value) (hf : Tryd.prog.built t (parts.map fun (i, x) => (i, a.eval x)).toList = some cs)
    (h : wpStill Tryd.prog ops w Q rest (a.put o.dst (.agg cs))) : wpStill Tryd.prog ops w Q (o :: rest) a := by
  refine wpStill_step fun K hK => ?_
  rw [if_pos hg]
  have hr := run_build (P := Tryd.prog) w t (parts.map fun (i, x) => (i, a.eval x)) cs hf
  unfold Oper.still execOp
  simp only [ho, Sem.run_bind, hr, Result.andThen_ok, Sem.run_pure, Oper.stillUpon_value]
  exact hK _ h
theorem FM.row {G : Fh} {c : Nat} {S : Fo} {u u' : Value} {w w' : World} (h : FM G c S u w u' w') {b : Nat} (hb : w.heap.size ≤ b) (a : Apart G u' b) (d : Array Value) : FM G c S u w u' (w'.setRow b d) := by
  have e : ∀ k, k ≠ b → (w'.setRow b d).heap[k]? = w'.heap[k]? := fun k hk => setRow_other _ _ _ _ hk
  refine ⟨⟨(e _ (Ne.symm a.p)).trans h.at_.top, (e _ (Ne.symm a.v)).trans h.at_.var, own_of_block h.at_.own (fun k hk => e k (fun q => a.u (q ▸ hk))), h.at_.map.keep (e _ (Ne.symm a.m)), by simpa using h.at_.hB, h.at_.hp, h.at_.hv, h.at_.hm⟩, ⟨h.goes.os, h.goes.tape, h.goes.output, by simpa using h.goes.size, fun k hk hf => (e k (by omega)).trans (h.goes.block k hk hf)⟩, h.lies⟩
/-- A new variable for an operation. -/
def NewO (N : Nat) (v : Value) (w : World) : Prop := ∃ b, v = ptr b 0 ∧ N ≤ b ∧ w.heap[b]? = some (.cells #[vI 0, vI 0, vI 0, vI 0, vI 0, vU 0] 37)
theorem newO_up {N : Nat} (v : Value) : Rel.Up Rel.Grows (NewO N v) := fun w w' h hb => by
  obtain ⟨b, e, h1, h2⟩ := h
  exact ⟨b, e, h1, keepRow h2 hb⟩
section
variable {G : Fh} {c : Nat} {S : Fo} {u : Value} {w : World}
set_option maxHeartbeats 4000000 in
theorem exitIf_c (h : FoAt G c S u w) (o : Opr) (hl : S.laid.length ≤ 100000) (h0 : 0 ≤ o.a) (hA : o.a.toNat < S.laid.length) : Calls Tryd.prog 38 #[ptr G.p 0, opV o] w fun e w' => e = .returned (vI (S.exitIf o).2) ∧ FT G c (S.exitIf o).1 u w w' := by
  obtain ⟨q, hq⟩ : ∃ q : Nat, o.a = q := ⟨o.a.toNat, by omega⟩
  have e0 : Hid (S.exitIf o = if (opAt S.laid q).kind ≠ 1 then (S.put o, 0) else if (opAt S.laid q).imm ≠ 0 then ((S.put ⟨16, 0, 0, 0, 0, o.imm⟩).leave, 0) else (S, 0)) := by unfold Hid Fo.exitIf; rw [hq, Int.toNat_natCast]
  rw [hq, Int.toNat_natCast] at hA
  have hb := below_alloc w (.cells (opA o) 37)
  have L : LocO w.heap.size o (w.alloc (.cells (opA o) 37)) := LocO.new w o
  have apO : Apart G u w.heap.size := h.apart (Nat.le_refl _)
  have R := FM.from hb (h.grow hb).here
  have hsz : w.heap.size < (w.alloc (.cells (opA o) 37)).heap.size := by simp
  clear hb
  go_enter Tryd.func38, Tryd.ntmps38
  go_upto_region 1 with fail
  generalize w.alloc (.cells (opA o) 37) = w1 at *
  have hN : w.heap.size ≤ w1.heap.size := R.goes.size
  have apN : ∀ b, w1.heap.size ≤ b → Apart G u b := fun b hb => h.apart (Nat.le_trans hN hb)
  have hu : Rel.Up Rel.Grows (fun x => FM G c S u w u x ∧ LocO w.heap.size o x ∧ w1.heap.size ≤ x.heap.size) := fun x y hx hb => ⟨hx.1.grow hb, hx.2.1.grow hb, Nat.le_trans hx.2.2 hb.size⟩
  refine Rel.wp_region_tail 8 Rel.Grows (fun x => FM G c S u w u x ∧ LocO w.heap.size o x ∧ w1.heap.size ≤ x.heap.size) [.inl (ptr G.p 0), .inl (ptr G.p 0), .inl (ptr G.p 2), .inl (.func (.func 27) #[] #[ptr G.v 0]), .inl (ptr w.heap.size 2), .inl (vI q), .inl (opV (opAt S.laid q)), .inr (NewO w1.heap.size)] (by kernel_rfl) (by kernel_rfl) hu ⟨R.grow (below_dr w1), L.grow (below_dr w1), Nat.le_refl _⟩ (by intro k hk; simp only [List.mem_cons, List.not_mem_nil, or_false] at hk; rcases hk with rfl | rfl | rfl | rfl | rfl | rfl | rfl | rfl <;> first | trivial | exact newO_up) ?_
  refine ⟨fun w6 hC hF => by go_simp; exact Below.refl _ _, ?_⟩
  simp only [Act.put, List.setIfInBounds_toArray, List.set_cons_succ, List.set_cons_zero]
  refine ⟨fun w6 hC hF => by go_simp; exact Below.refl _ _, ?_⟩
  simp only [Act.put, List.setIfInBounds_toArray, List.set_cons_succ, List.set_cons_zero]
  refine ⟨fun w6 hC hF => by go_simp; exact Below.refl _ _, ?_⟩
  simp only [Act.put, List.setIfInBounds_toArray, List.set_cons_succ, List.set_cons_zero]
  refine ⟨fun w6 hC hF => by have zz := hC.1.at_.c2; go_simp; exact Below.refl _ _, ?_⟩
  simp only [Act.put, List.setIfInBounds_toArray, List.set_cons_succ, List.set_cons_zero]
  refine ⟨fun w6 hC hF => by go_simp; exact Below.refl _ _, ?_⟩
  simp only [Act.put, List.setIfInBounds_toArray, List.set_cons_succ, List.set_cons_zero]
  refine ⟨fun w6 hC hF => by have zz := (show w6.cell? ⟨w.heap.size, 2, none⟩ = some (vI q) by rw [hC.2.1.c2, hq]); go_simp; exact Below.refl _ _, ?_⟩
  simp only [Act.put, List.setIfInBounds_toArray, List.set_cons_succ, List.set_cons_zero]
  refine ⟨fun w6 hC hF => by (go_simp; refine (at_c hC.1.at_ hA hl).mono ?_; rintro e w7 ⟨rfl, B7⟩; exact ⟨rfl, B7⟩), ?_⟩
  simp only [Act.put, List.setIfInBounds_toArray, List.set_cons_succ, List.set_cons_zero]
  refine ⟨fun w6 hC hF => by (go_simp; exact ⟨below_alloc _ _, w6.heap.size, rfl, hC.2.2, heap_alloc_new _ _⟩), fun v7 => ?_⟩
  simp only [Act.put, List.setIfInBounds_toArray, List.set_cons_succ, List.set_cons_zero]
  intro w2 hC hF
  obtain ⟨b, rfl, hbN, hb⟩ := (hF 7).1 rfl
  obtain ⟨R2, L2, hs2⟩ := hC
  have apB := apN b hbN
  have hwb : w.heap.size ≤ b := Nat.le_trans hN hbN
  have hbo : w.heap.size ≠ b := fun e => by have := lt_of_some (show w1.heap[w.heap.size]? = _ from L); omega
  have L3 : LocO w.heap.size o (w2.setRow b (opA (opAt S.laid q))) := by unfold LocO; rw [setRow_other _ _ _ _ hbo]; exact L2
  have R3 := R2.row hwb apB (opA (opAt S.laid q))
  have A3 : LocO b (opAt S.laid q) (w2.setRow b (opA (opAt S.laid q))) := setRow_heap _ _ _ _ _ _ hb
  simp only [List.drop_succ_cons, List.drop_zero]
  clear R L hF hu h
  generalize opAt S.laid q = x at *
  (with_reducible refine wpList_store_row rfl 37 _ _ rfl b (opA x) rfl rfl 37 _ hb (op_inf _) rfl (op_one _) ?_)
  simp only [Act.put, List.setIfInBounds_toArray, List.set_cons_succ, List.set_cons_zero]
  generalize w2.setRow b (opA x) = w3 at *
  have hb3 : b < w3.heap.size := A3.lt
  clear hb hbN hbo hs2 L2 R2 hN apN hsz
  have y0 := A3.c0
  have y5 := A3.c5
  generalize w.heap.size = t1 at *
  by_cases h1 : x.kind = 1
  · have hb1 : ¬ x.kind ≠ 1 := fun e => e h1
    rw [h1] at y0
    by_cases h2 : x.imm = 0
    · have e1 : Hid (S.exitIf o = (S, 0)) := by unfold Hid; rw [e0.out, if_neg hb1, if_neg (fun e => e h2)]
      rw [h2] at y5
      clear e0 hb1 h1 h2
      go_wp2
      go_ret
      rw [e1.out]
      exact ⟨rfl, _, R3⟩
    · have e1 : Hid (S.exitIf o = ((S.put ⟨16, 0, 0, 0, 0, o.imm⟩).leave, 0)) := by unfold Hid; rw [e0.out, if_neg hb1, if_pos h2]
      clear e0 hb1
      have hb0 : (x.imm != 0) = true := by simp [h2]
      go_upto_region 5 with fail
      have L : LocO t1 o w3 := L3
      have R := R3
      have z5 := L.c5
      refine wp_region_still_tail 7 (by kernel_rfl) (by kernel_rfl) ?_
      replace R := R.grow (below_dr w3)
      replace L := L.grow (below_dr w3)
      generalize ({ w3 with drawn := w3.drawn + 1 } : World) = w4 at *
      have z1 := R.at_.c1
      have A3 := run_load42 L.at_
      have z5 := L.c5
      simp only [List.take_succ_cons, List.take_zero, List.drop_succ_cons, List.drop_zero]
      repeat (first | still_step | ((with_reducible refine still_row rfl _ _ rfl rfl A3 ?_); simp only [Act.put, List.setIfInBounds_toArray, List.set_cons_succ, List.set_cons_zero]) | ((with_reducible refine still_built rfl _ _ rfl (opA ⟨16, 0, 0, 0, 0, o.imm⟩) (by kernel_rfl) ?_); simp only [Act.put, List.setIfInBounds_toArray, List.set_cons_succ, List.set_cons_zero]))
      refine wpStill_nil ?_
      have kp := put_c R.at_ (⟨16, 0, 0, 0, 0, o.imm⟩) hl
      clear z1 A3
      clear y0 y5 A3 z5
      go_upto_region 6 with (go_at_call 26; (with_reducible refine kp.mono ?_); clear kp; rintro e w9 ⟨rfl, u9, R9⟩; dsimp only)
      have R9 := R.then R9
      have z3 := R9.at_.c3
      have f3 := R9.at_.fp 3
      have R10 := R9.then R9.at_.leaves
      clear R9 R R3
      go_wp2
      go_ret
      rw [e1.out]
      exact ⟨rfl, _, R10⟩
  · have e1 : Hid (S.exitIf o = (S.put o, 0)) := by unfold Hid; rw [e0.out, if_pos h1]
    clear e0
    have hb0 : (x.kind != 1) = true := by simp [h1]
    go_upto_region 3 with fail
    have L : LocO t1 o w3 := L3
    have R := R3
    refine wp_region_still_tail 5 (by kernel_rfl) (by kernel_rfl) ?_
    replace R := R.grow (below_dr w3)
    replace L := L.grow (below_dr w3)
    generalize ({ w3 with drawn := w3.drawn + 1 } : World) = w4 at *
    have z1 := R.at_.c1
    have A3 := run_load42 L.at_
    simp only [List.take_succ_cons, List.take_zero, List.drop_succ_cons, List.drop_zero]
    repeat (first | still_step | ((with_reducible refine still_row rfl _ _ rfl rfl A3 ?_); simp only [Act.put, List.setIfInBounds_toArray, List.set_cons_succ, List.set_cons_zero]))
    refine wpStill_nil ?_
    have kp := put_c R.at_ (o) hl
    clear z1 A3
    go_wp2_with (go_at_call 26; (with_reducible refine kp.mono ?_); clear kp; rintro e w9 ⟨rfl, u9, R9⟩; dsimp only)
    go_ret
    rw [e1.out]
    exact ⟨rfl, _, R.then R9⟩
end
end Go.Proofs.YtilhjbhhgpoajaaDoor
