/- Ug, Uh, Ui, Uj, Uk of the seat, joined. -/
import Derived.Test.YtilhjbhhgpoajaaXu
import Derived.Test.YtilhjbhhgpoajaaTail
import Derived.Test.YtilhjbhhgpoajaaRelT
import Derived.Test.YtilhjbhhgpoajaaAReck
import Derived.Test.YtilhjbhhgpoajaaIb
/- What is known: exitIf. -/
namespace Go.Proofs.Ytilhjbhhgpoajaa
open Go.RowKit
set_option linter.unusedVariables false
set_option linter.unusedSimpArgs false
set_option maxRecDepth 8000

theorem still_built {ops : Array Oper} {rest : List Oper} {o : Oper} {a : Act} {w : World} {Q : Act → Prop} (hg : Region.wanted o (yielded ops a.tmps) = true) (t : TypeId) (parts : Array (Nat × Operand)) (ho : o.op = .build t parts) (cs : Array Value) (hf : Try.prog.built t (parts.map fun (i, x) => (i, a.eval x)).toList = some cs)
    (h : wpStill Try.prog ops w Q rest (a.put o.dst (.agg cs))) : wpStill Try.prog ops w Q (o :: rest) a := by
  refine wpStill_step fun K hK => ?_
  rw [if_pos hg]
  have hr := run_build (P := Try.prog) w t (parts.map fun (i, x) => (i, a.eval x)) cs hf
  unfold Oper.still execOp
  simp only [ho, Sem.run_bind, hr, Result.andThen_ok, Sem.run_pure, Oper.stillUpon_value]
  exact hK _ h
theorem FM.row {G : Fh} {c : Nat} {S : Fo} {u u' : Value} {w w' : World} (h : FM G c S u w u' w') {b : Nat} (hb : w.heap.size ≤ b) (a : Apart G u' b) (d : Array Value) : FM G c S u w u' (w'.setRow b d) := by
  have e : ∀ k, k ≠ b → (w'.setRow b d).heap[k]? = w'.heap[k]? := fun k hk => setRow_other _ _ _ _ hk
  refine ⟨⟨(e _ (Ne.symm a.p)).trans h.at_.top, (e _ (Ne.symm a.v)).trans h.at_.var, own_of_block h.at_.own (fun k hk => e k (fun q => a.u (q ▸ hk))), h.at_.map.keep (e _ (Ne.symm a.m)), by simpa using h.at_.hB, h.at_.hp, h.at_.hv, h.at_.hm⟩, ⟨h.goes.os, h.goes.tape, h.goes.output, by simpa using h.goes.size, fun k hk hf => (e k (by omega)).trans (h.goes.block k hk hf)⟩, h.lies⟩
/-- A new variable for an operation. -/
def NewO (N : Nat) (v : Value) (w : World) : Prop := ∃ b, v = ptr b 0 ∧ N ≤ b ∧ w.heap[b]? = some (.cells #[vI 0, vI 0, vI 0, vI 0, vI 0, vU 0] 45)
theorem newO_up {N : Nat} (v : Value) : Rel.Up Rel.Grows (NewO N v) := fun w w' h hb => by
  obtain ⟨b, e, h1, h2⟩ := h
  exact ⟨b, e, h1, keepRow h2 hb⟩
section
variable {G : Fh} {c : Nat} {S : Fo} {u : Value} {w : World}
set_option maxHeartbeats 4000000 in
theorem exitIf_c (h : FoAt G c S u w) (o : Opr) (hl : S.laid.length ≤ 100000) (h0 : 0 ≤ o.a) (hA : o.a.toNat < S.laid.length) : Calls Try.prog 68 #[ptr G.p 0, opV o] w fun e w' => e = .returned (vI (S.exitIf o).2) ∧ FT G c (S.exitIf o).1 u w w' := by
  obtain ⟨q, hq⟩ : ∃ q : Nat, o.a = q := ⟨o.a.toNat, by omega⟩
  have e0 : Hid (S.exitIf o = if (opAt S.laid q).kind ≠ 1 then (S.put o, 0) else if (opAt S.laid q).imm ≠ 0 then ((S.put ⟨16, 0, 0, 0, 0, o.imm⟩).leave, 0) else (S, 0)) := by unfold Hid Fo.exitIf; rw [hq, Int.toNat_natCast]
  rw [hq, Int.toNat_natCast] at hA
  have hb := below_alloc w (.cells (opA o) 45)
  have L : LocO w.heap.size o (w.alloc (.cells (opA o) 45)) := LocO.new w o
  have apO : Apart G u w.heap.size := h.apart (Nat.le_refl _)
  have R := FM.from hb (h.grow hb).here
  have hsz : w.heap.size < (w.alloc (.cells (opA o) 45)).heap.size := by simp
  clear hb
  go_enter Try.func68, Try.ntmps68
  go_upto_region 1 with fail
  generalize w.alloc (.cells (opA o) 45) = w1 at *
  have hN : w.heap.size ≤ w1.heap.size := R.goes.size
  have apN : ∀ b, w1.heap.size ≤ b → Apart G u b := fun b hb => h.apart (Nat.le_trans hN hb)
  have hu : Rel.Up Rel.Grows (fun x => FM G c S u w u x ∧ LocO w.heap.size o x ∧ w1.heap.size ≤ x.heap.size) := fun x y hx hb => ⟨hx.1.grow hb, hx.2.1.grow hb, Nat.le_trans hx.2.2 hb.size⟩
  refine Rel.wp_region_tail 8 Rel.Grows (fun x => FM G c S u w u x ∧ LocO w.heap.size o x ∧ w1.heap.size ≤ x.heap.size) [.inl (ptr G.p 0), .inl (ptr G.p 0), .inl (ptr G.p 2), .inl (.func (.func 37) #[] #[ptr G.v 0]), .inl (ptr w.heap.size 2), .inl (vI q), .inl (opV (opAt S.laid q)), .inr (NewO w1.heap.size)] (by kernel_rfl) (by kernel_rfl) hu ⟨R.grow (below_dr w1), L.grow (below_dr w1), Nat.le_refl _⟩ (by intro k hk; simp only [List.mem_cons, List.not_mem_nil, or_false] at hk; rcases hk with rfl | rfl | rfl | rfl | rfl | rfl | rfl | rfl <;> first | trivial | exact newO_up) ?_
  refine ⟨fun w6 hC hF => by go_simp; exact Below.refl _ _, ?_⟩
  simp only [Act.put, List.setIfInBounds_toArray, List.set_cons_succ, List.set_cons_zero]
  refine ⟨fun w6 hC hF => by go_simp; exact Below.refl _ _, ?_⟩
  simp only [Act.put, List.setIfInBounds_toArray, List.set_cons_succ, List.set_cons_zero]
  refine ⟨fun w6 hC hF => by go_simp; exact Below.refl _ _, ?_⟩
  simp only [Act.put, List.setIfInBounds_toArray, List.set_cons_succ, List.set_cons_zero]
  refine ⟨fun w6 hC hF => by have zz := hC.1.at_.c2; go_simp; exact Below.refl _ _, ?_⟩
  simp only [Act.put, List.setIfInBounds_toArray, List.set_cons_succ, List.set_cons_zero]
  refine ⟨fun w6 hC hF => by go_simp; exact Below.refl _ _, ?_⟩
  simp only [Act.put, List.setIfInBounds_toArray, List.set_cons_succ, List.set_cons_zero]
  refine ⟨fun w6 hC hF => by have zz := (show w6.cell? ⟨w.heap.size, 2, none⟩ = some (vI q) by rw [hC.2.1.c2, hq]); go_simp; exact Below.refl _ _, ?_⟩
  simp only [Act.put, List.setIfInBounds_toArray, List.set_cons_succ, List.set_cons_zero]
  refine ⟨fun w6 hC hF => by (go_simp; refine (at_c hC.1.at_ hA hl).mono ?_; rintro e w7 ⟨rfl, B7⟩; exact ⟨rfl, B7⟩), ?_⟩
  simp only [Act.put, List.setIfInBounds_toArray, List.set_cons_succ, List.set_cons_zero]
  refine ⟨fun w6 hC hF => by (go_simp; exact ⟨below_alloc _ _, w6.heap.size, rfl, hC.2.2, heap_alloc_new _ _⟩), fun v7 => ?_⟩
  simp only [Act.put, List.setIfInBounds_toArray, List.set_cons_succ, List.set_cons_zero]
  intro w2 hC hF
  obtain ⟨b, rfl, hbN, hb⟩ := (hF 7).1 rfl
  obtain ⟨R2, L2, hs2⟩ := hC
  have apB := apN b hbN
  have hwb : w.heap.size ≤ b := Nat.le_trans hN hbN
  have hbo : w.heap.size ≠ b := fun e => by have := lt_of_some (show w1.heap[w.heap.size]? = _ from L); omega
  have L3 : LocO w.heap.size o (w2.setRow b (opA (opAt S.laid q))) := by unfold LocO; rw [setRow_other _ _ _ _ hbo]; exact L2
  have R3 := R2.row hwb apB (opA (opAt S.laid q))
  have A3 : LocO b (opAt S.laid q) (w2.setRow b (opA (opAt S.laid q))) := setRow_heap _ _ _ _ _ _ hb
  simp only [List.drop_succ_cons, List.drop_zero]
  clear R L hF hu h
  generalize opAt S.laid q = x at *
  (with_reducible refine wpList_store_row rfl 45 _ _ rfl b (opA x) rfl rfl 45 _ hb (op_inf _) rfl (op_one _) ?_)
  simp only [Act.put, List.setIfInBounds_toArray, List.set_cons_succ, List.set_cons_zero]
  generalize w2.setRow b (opA x) = w3 at *
  have hb3 : b < w3.heap.size := A3.lt
  clear hb hbN hbo hs2 L2 R2 hN apN hsz
  have y0 := A3.c0
  have y5 := A3.c5
  generalize w.heap.size = t1 at *
  by_cases h1 : x.kind = 1
  · have hb1 : ¬ x.kind ≠ 1 := fun e => e h1
    rw [h1] at y0
    by_cases h2 : x.imm = 0
    · have e1 : Hid (S.exitIf o = (S, 0)) := by unfold Hid; rw [e0.out, if_neg hb1, if_neg (fun e => e h2)]
      rw [h2] at y5
      clear e0 hb1 h1 h2
      go_wp2
      go_ret
      rw [e1.out]
      exact ⟨rfl, _, R3⟩
    · have e1 : Hid (S.exitIf o = ((S.put ⟨16, 0, 0, 0, 0, o.imm⟩).leave, 0)) := by unfold Hid; rw [e0.out, if_neg hb1, if_pos h2]
      clear e0 hb1
      have hb0 : (x.imm != 0) = true := by simp [h2]
      go_upto_region 5 with fail
      have L : LocO t1 o w3 := L3
      have R := R3
      have z5 := L.c5
      refine wp_region_still_tail 7 (by kernel_rfl) (by kernel_rfl) ?_
      replace R := R.grow (below_dr w3)
      replace L := L.grow (below_dr w3)
      generalize ({ w3 with drawn := w3.drawn + 1 } : World) = w4 at *
      have z1 := R.at_.c1
      have A3 := run_load42 L.at_
      have z5 := L.c5
      simp only [List.take_succ_cons, List.take_zero, List.drop_succ_cons, List.drop_zero]
      repeat (first | still_step | ((with_reducible refine still_row rfl _ _ rfl rfl A3 ?_); simp only [Act.put, List.setIfInBounds_toArray, List.set_cons_succ, List.set_cons_zero]) | ((with_reducible refine still_built rfl _ _ rfl (opA ⟨16, 0, 0, 0, 0, o.imm⟩) (by kernel_rfl) ?_); simp only [Act.put, List.setIfInBounds_toArray, List.set_cons_succ, List.set_cons_zero]))
      refine wpStill_nil ?_
      have kp := put_c R.at_ (⟨16, 0, 0, 0, 0, o.imm⟩) hl
      clear z1 A3
      clear y0 y5 A3 z5
      go_upto_region 6 with (go_at_call 36; (with_reducible refine kp.mono ?_); clear kp; rintro e w9 ⟨rfl, u9, R9⟩; dsimp only)
      have R9 := R.then R9
      have z3 := R9.at_.c3
      have f3 := R9.at_.fp 3
      have R10 := R9.then R9.at_.leaves
      clear R9 R R3
      go_wp2
      go_ret
      rw [e1.out]
      exact ⟨rfl, _, R10⟩
  · have e1 : Hid (S.exitIf o = (S.put o, 0)) := by unfold Hid; rw [e0.out, if_pos h1]
    clear e0
    have hb0 : (x.kind != 1) = true := by simp [h1]
    go_upto_region 3 with fail
    have L : LocO t1 o w3 := L3
    have R := R3
    refine wp_region_still_tail 5 (by kernel_rfl) (by kernel_rfl) ?_
    replace R := R.grow (below_dr w3)
    replace L := L.grow (below_dr w3)
    generalize ({ w3 with drawn := w3.drawn + 1 } : World) = w4 at *
    have z1 := R.at_.c1
    have A3 := run_load42 L.at_
    simp only [List.take_succ_cons, List.take_zero, List.drop_succ_cons, List.drop_zero]
    repeat (first | still_step | ((with_reducible refine still_row rfl _ _ rfl rfl A3 ?_); simp only [Act.put, List.setIfInBounds_toArray, List.set_cons_succ, List.set_cons_zero]))
    refine wpStill_nil ?_
    have kp := put_c R.at_ (o) hl
    clear z1 A3
    go_wp2_with (go_at_call 36; (with_reducible refine kp.mono ?_); clear kp; rintro e w9 ⟨rfl, u9, R9⟩; dsimp only)
    go_ret
    rw [e1.out]
    exact ⟨rfl, _, R.then R9⟩
end
end Go.Proofs.Ytilhjbhhgpoajaa
/- What is known: reckon. -/
namespace Go.Proofs.Ytilhjbhhgpoajaa
open Go.RowKit
set_option linter.unusedVariables false
set_option linter.unusedSimpArgs false
set_option maxRecDepth 8000

theorem newAtO {o : Oper} (ho : o.op = .alloc 45) : RelT.NewAt Try.prog o := fun a w => by
  unfold execOp
  simp only [ho]
  go_simp
section
variable {G : Fh} {c : Nat} {S : Fo} {u : Value} {w : World}
set_option maxHeartbeats 4000000 in
theorem reckon_c (h : FoAt G c S u w) (o : Opr) (hl : S.laid.length ≤ 100000) (h0 : 0 ≤ o.a) (hA : o.a.toNat < S.laid.length) (h1 : 0 ≤ o.b) (hB : o.b.toNat < S.laid.length) (hU : ∀ k, U64 (opAt S.laid k).imm) : Calls Try.prog 67 #[ptr G.p 0, opV o] w fun e w' => e = .returned (vI (S.reckon o).2) ∧ FT G c (S.reckon o).1 u w w' := by
  obtain ⟨q, hq⟩ : ∃ q : Nat, o.a = q := ⟨o.a.toNat, by omega⟩
  obtain ⟨r, hr⟩ : ∃ r : Nat, o.b = r := ⟨o.b.toNat, by omega⟩
  have e0 : Hid (S.reckonO o = if (opAt S.laid q).kind = 1 ∧ (opAt S.laid r).kind = 1 then ⟨1, 0, 0, 0, 0, Alu.reckonV o.r (opAt S.laid q).imm (opAt S.laid r).imm⟩ else o) := by unfold Hid Fo.reckonO; rw [hq, hr, Int.toNat_natCast, Int.toNat_natCast]
  rw [hq, Int.toNat_natCast] at hA
  rw [hr, Int.toNat_natCast] at hB
  have hUq := hU q
  have hUr := hU r
  clear hU
  have hb := below_alloc w (.cells (opA o) 45)
  have L : LocO w.heap.size o (w.alloc (.cells (opA o) 45)) := LocO.new w o
  have apO : Apart G u w.heap.size := h.apart (Nat.le_refl _)
  have R := FM.from hb (h.grow hb).here
  have hsz : w.heap.size < (w.alloc (.cells (opA o) 45)).heap.size := by simp
  clear hb
  go_enter Try.func67, Try.ntmps67
  go_upto_region 1 with fail
  generalize w.alloc (.cells (opA o) 45) = w1 at *
  have hN : w.heap.size ≤ w1.heap.size := R.goes.size
  have apN : ∀ b, w1.heap.size ≤ b → Apart G u b := fun b hb => h.apart (Nat.le_trans hN hb)
  have hu : Rel.Up Rel.Grows (fun x => FM G c S u w u x ∧ LocO w.heap.size o x ∧ w1.heap.size ≤ x.heap.size) := fun x y hx hb => ⟨hx.1.grow hb, hx.2.1.grow hb, Nat.le_trans hx.2.2 hb.size⟩
  refine RelT.wp_region_two 16 14 15 5 6 Rel.Grows (fun x => FM G c S u w u x ∧ LocO w.heap.size o x ∧ w1.heap.size ≤ x.heap.size) [.inl (ptr G.p 0), .inl (ptr G.p 0), .inl (ptr G.p 2), .inl (.func (.func 37) #[] #[ptr G.v 0]), .inl (ptr w.heap.size 2), .inl (vI q), .inl (opV (opAt S.laid q)), .inl (ptr G.p 0), .inl (ptr G.p 0), .inl (ptr G.p 2), .inl (.func (.func 37) #[] #[ptr G.v 0]), .inl (ptr w.heap.size 3), .inl (vI r), .inl (opV (opAt S.laid r)), .inr (NewO w1.heap.size), .inr (NewO w1.heap.size)] (by kernel_rfl) (by kernel_rfl) hu ⟨R.grow (below_dr w1), L.grow (below_dr w1), Nat.le_refl _⟩ (by decide) (by decide) (by decide) rfl rfl (by simp) (by simp) (fun v w h => by obtain ⟨b, e, _, hb⟩ := (h : NewO w1.heap.size v w); exact ⟨b, e, lt_of_some hb⟩) (fun v w h => by obtain ⟨b, e, _, hb⟩ := (h : NewO w1.heap.size v w); exact ⟨b, e, lt_of_some hb⟩) (fun o ho => newAtO (by injection ho with e; rw [← e]; rfl)) (fun o ho => newAtO (by injection ho with e; rw [← e]; rfl)) (by intro k hk; simp only [List.mem_cons, List.not_mem_nil, or_false] at hk; rcases hk with rfl | rfl | rfl | rfl | rfl | rfl | rfl | rfl | rfl | rfl | rfl | rfl | rfl | rfl | rfl | rfl <;> first | trivial | exact newO_up) ?_
  refine ⟨fun w6 hC hF => by go_simp; exact Below.refl _ _, ?_⟩
  simp only [Act.put, List.setIfInBounds_toArray, List.set_cons_succ, List.set_cons_zero]
  refine ⟨fun w6 hC hF => by go_simp; exact Below.refl _ _, ?_⟩
  simp only [Act.put, List.setIfInBounds_toArray, List.set_cons_succ, List.set_cons_zero]
  refine ⟨fun w6 hC hF => by go_simp; exact Below.refl _ _, ?_⟩
  simp only [Act.put, List.setIfInBounds_toArray, List.set_cons_succ, List.set_cons_zero]
  refine ⟨fun w6 hC hF => by have zz := hC.1.at_.c2; go_simp; exact Below.refl _ _, ?_⟩
  simp only [Act.put, List.setIfInBounds_toArray, List.set_cons_succ, List.set_cons_zero]
  refine ⟨fun w6 hC hF => by go_simp; exact Below.refl _ _, ?_⟩
  simp only [Act.put, List.setIfInBounds_toArray, List.set_cons_succ, List.set_cons_zero]
  refine ⟨fun w6 hC hF => by have zz := (show w6.cell? ⟨w.heap.size, 2, none⟩ = some (vI q) by rw [hC.2.1.c2, hq]); go_simp; exact Below.refl _ _, ?_⟩
  simp only [Act.put, List.setIfInBounds_toArray, List.set_cons_succ, List.set_cons_zero]
  refine ⟨fun w6 hC hF => by (go_simp; refine (at_c hC.1.at_ hA hl).mono ?_; rintro e w7 ⟨rfl, B7⟩; exact ⟨rfl, B7⟩), ?_⟩
  simp only [Act.put, List.setIfInBounds_toArray, List.set_cons_succ, List.set_cons_zero]
  refine ⟨fun w6 hC hF => by go_simp; exact Below.refl _ _, ?_⟩
  simp only [Act.put, List.setIfInBounds_toArray, List.set_cons_succ, List.set_cons_zero]
  refine ⟨fun w6 hC hF => by go_simp; exact Below.refl _ _, ?_⟩
  simp only [Act.put, List.setIfInBounds_toArray, List.set_cons_succ, List.set_cons_zero]
  refine ⟨fun w6 hC hF => by go_simp; exact Below.refl _ _, ?_⟩
  simp only [Act.put, List.setIfInBounds_toArray, List.set_cons_succ, List.set_cons_zero]
  refine ⟨fun w6 hC hF => by have zz := hC.1.at_.c2; go_simp; exact Below.refl _ _, ?_⟩
  simp only [Act.put, List.setIfInBounds_toArray, List.set_cons_succ, List.set_cons_zero]
  refine ⟨fun w6 hC hF => by go_simp; exact Below.refl _ _, ?_⟩
  simp only [Act.put, List.setIfInBounds_toArray, List.set_cons_succ, List.set_cons_zero]
  refine ⟨fun w6 hC hF => by have zz := (show w6.cell? ⟨w.heap.size, 3, none⟩ = some (vI r) by rw [hC.2.1.c3, hr]); go_simp; exact Below.refl _ _, ?_⟩
  simp only [Act.put, List.setIfInBounds_toArray, List.set_cons_succ, List.set_cons_zero]
  refine ⟨fun w6 hC hF => by (go_simp; refine (at_c hC.1.at_ hB hl).mono ?_; rintro e w7 ⟨rfl, B7⟩; exact ⟨rfl, B7⟩), ?_⟩
  simp only [Act.put, List.setIfInBounds_toArray, List.set_cons_succ, List.set_cons_zero]
  refine ⟨fun w6 hC hF => by (go_simp; exact ⟨below_alloc _ _, w6.heap.size, rfl, hC.2.2, heap_alloc_new _ _⟩), fun v14 => ?_⟩
  simp only [Act.put, List.setIfInBounds_toArray, List.set_cons_succ, List.set_cons_zero]
  refine ⟨fun w6 hC hF => by (go_simp; exact ⟨below_alloc _ _, w6.heap.size, rfl, hC.2.2, heap_alloc_new _ _⟩), fun v15 => ?_⟩
  simp only [Act.put, List.setIfInBounds_toArray, List.set_cons_succ, List.set_cons_zero]
  intro w2 hC hF hne
  obtain ⟨b, rfl, hbN, hb⟩ := (hF 14).2.1 rfl
  obtain ⟨d, rfl, hdN, hd⟩ := (hF 15).1 rfl
  have hbd : b ≠ d := fun e => hne (by rw [e]; rfl)
  obtain ⟨R2, L2, hs2⟩ := hC
  have hwb : w.heap.size ≤ b := Nat.le_trans hN hbN
  have hwd : w.heap.size ≤ d := Nat.le_trans hN hdN
  have hlt := lt_of_some (show w1.heap[w.heap.size]? = _ from L)
  have hbo : w.heap.size ≠ b := fun e => by omega
  have hdo : w.heap.size ≠ d := fun e => by omega
  have L3 : LocO w.heap.size o ((w2.setRow b (opA (opAt S.laid q))).setRow d (opA (opAt S.laid r))) := by unfold LocO; rw [setRow_other _ _ _ _ hdo, setRow_other _ _ _ _ hbo]; exact L2
  have R3 := (R2.row hwb (apN b hbN) (opA (opAt S.laid q))).row hwd (apN d hdN) (opA (opAt S.laid r))
  have A3 : LocO b (opAt S.laid q) ((w2.setRow b (opA (opAt S.laid q))).setRow d (opA (opAt S.laid r))) := by unfold LocO; rw [setRow_other _ _ _ _ hbd]; exact setRow_heap _ _ _ _ _ _ hb
  have hd' : (w2.setRow b (opA (opAt S.laid q))).heap[d]? = some (.cells #[vI 0, vI 0, vI 0, vI 0, vI 0, vU 0] 45) := by rw [setRow_other _ _ _ _ (Ne.symm hbd)]; exact hd
  have B3 : LocO d (opAt S.laid r) ((w2.setRow b (opA (opAt S.laid q))).setRow d (opA (opAt S.laid r))) := setRow_heap _ _ _ _ _ _ hd'
  simp only [List.drop_succ_cons, List.drop_zero]
  clear R L hF hu h hne hs2 hlt L2 R2
  generalize opAt S.laid q = x at *
  generalize opAt S.laid r = y at *
  (with_reducible refine wpList_store_row rfl 45 _ _ rfl b (opA x) rfl rfl 45 _ hb (op_inf _) rfl (op_one _) ?_)
  simp only [Act.put, List.setIfInBounds_toArray, List.set_cons_succ, List.set_cons_zero]
  (with_reducible refine wpList_store_row rfl 45 _ _ rfl d (opA y) rfl rfl 45 _ hd' (op_inf _) rfl (op_one _) ?_)
  simp only [Act.put, List.setIfInBounds_toArray, List.set_cons_succ, List.set_cons_zero]
  generalize (w2.setRow b (opA x)).setRow d (opA y) = w3 at *
  clear hb hd hd' hbN hdN hbo hdo hN apN hsz hwb hwd hbd
  have y0 := A3.c0
  have y5 := A3.c5
  have x0 := B3.c0
  have x5 := B3.c5
  generalize w.heap.size = t1 at *
  have L : LocO t1 o w3 := L3
  have R := R3
  clear L3 R3
  by_cases hk : x.kind = 1 ∧ y.kind = 1
  · have e1 : Hid (S.reckonO o = ⟨1, 0, 0, 0, 0, Alu.reckonV o.r x.imm y.imm⟩) := by unfold Hid; rw [e0.out, if_pos hk]
    rw [hk.1] at y0
    rw [hk.2] at x0
    have yr := L.c1
    have kk := fun w => Alu.Reckon_c o.r x.imm y.imm hUq hUr w
    generalize Alu.reckonV o.r x.imm y.imm = V at *
    generalize Alu.kindE o.r = E at *
    clear e0 hk
    go_upto_region 5 with (go_at_call 16; (with_reducible refine (kk _).mono ?_); clear kk; rintro e w4 ⟨rfl, B4⟩; dsimp only)
    replace R := R.grow B4
    have z1 := R.at_.c1
    have kp := put_c R.at_ ⟨1, 0, 0, 0, 0, V⟩ hl
    clear B4 y0 y5 x0 x5 yr A3 B3 L
    go_wp2_with (first | ((with_reducible refine wpList_built rfl 45 _ rfl (opA ⟨1, 0, 0, 0, 0, V⟩) (by kernel_rfl) ?_); simp only [Act.put, List.setIfInBounds_toArray, List.set_cons_succ, List.set_cons_zero]) | (go_at_call 36; (with_reducible refine kp.mono ?_); clear kp; rintro e w9 ⟨rfl, u9, R9⟩; dsimp only))
    go_ret
    unfold Fo.reckon
    rw [e1.out]
    exact ⟨rfl, _, R.then R9⟩
  · have e1 : Hid (S.reckonO o = o) := by unfold Hid; rw [e0.out, if_neg hk]
    clear e0
    rcases (by by_cases hx : x.kind = 1; exact .inr ⟨hx, fun hy => hk ⟨hx, hy⟩⟩; exact .inl hx : x.kind ≠ 1 ∨ (x.kind = 1 ∧ y.kind ≠ 1)) with hx | ⟨hx, hy⟩
    · have b0 : (x.kind != 1) = true := by simp [hx]
      clear hk
      go_upto_region 3 with fail
      refine wp_region_still_tail 5 (by kernel_rfl) (by kernel_rfl) ?_
      replace R := R.grow (below_dr w3)
      replace L := L.grow (below_dr w3)
      generalize ({ w3 with drawn := w3.drawn + 1 } : World) = w4 at *
      have z1 := R.at_.c1
      have A4 := run_load42 L.at_
      simp only [List.take_succ_cons, List.take_zero, List.drop_succ_cons, List.drop_zero]
      repeat (first | still_step | ((with_reducible refine still_row rfl _ _ rfl rfl A4 ?_); simp only [Act.put, List.setIfInBounds_toArray, List.set_cons_succ, List.set_cons_zero]))
      refine wpStill_nil ?_
      have kp := put_c R.at_ (o) hl
      clear z1 A4
      clear y0 y5 x0 x5 A3 B3
      go_wp2_with (go_at_call 36; (with_reducible refine kp.mono ?_); clear kp; rintro e w9 ⟨rfl, u9, R9⟩; dsimp only)
      go_ret
      unfold Fo.reckon
      rw [e1.out]
      exact ⟨rfl, _, R.then R9⟩
    · have b0 : (y.kind != 1) = true := by simp [hy]
      clear hk
      rw [hx] at y0
      go_upto_region 3 with fail
      refine wp_region_still_tail 5 (by kernel_rfl) (by kernel_rfl) ?_
      replace R := R.grow (below_dr w3)
      replace L := L.grow (below_dr w3)
      generalize ({ w3 with drawn := w3.drawn + 1 } : World) = w4 at *
      have z1 := R.at_.c1
      have A4 := run_load42 L.at_
      simp only [List.take_succ_cons, List.take_zero, List.drop_succ_cons, List.drop_zero]
      repeat (first | still_step | ((with_reducible refine still_row rfl _ _ rfl rfl A4 ?_); simp only [Act.put, List.setIfInBounds_toArray, List.set_cons_succ, List.set_cons_zero]))
      refine wpStill_nil ?_
      have kp := put_c R.at_ (o) hl
      clear z1 A4
      clear y0 y5 x0 x5 A3 B3
      go_wp2_with (go_at_call 36; (with_reducible refine kp.mono ?_); clear kp; rintro e w9 ⟨rfl, u9, R9⟩; dsimp only)
      go_ret
      unfold Fo.reckon
      rw [e1.out]
      exact ⟨rfl, _, R.then R9⟩
end
end Go.Proofs.Ytilhjbhhgpoajaa
/- An operation told anew. -/
namespace Go.Proofs.Ytilhjbhhgpoajaa
open Go.RowKit
set_option linter.unusedVariables false
set_option linter.unusedSimpArgs false
set_option maxRecDepth 8000

/-- The places so far, in a row of n. -/
def prow (ps : List Nat) (n : Nat) : Array Value := ((List.range n).map fun i => vI ((ps.getD i 0 : Nat) : Int)).toArray
theorem prow_at {ps : List Nat} {n i : Nat} (h : i < n) : (prow ps n)[i]? = some (vI ((ps.getD i 0 : Nat) : Int)) := by unfold prow; simp [h]
theorem prow_set (ps : List Nat) (n v : Nat) : (prow ps n).setIfInBounds ps.length (vI (v : Int)) = prow (ps ++ [v]) n := by
  apply Array.ext
  · simp [prow]
  · intro i h1 h2
    have hi : i < n := by simpa [prow] using h1
    have e : ∀ qs : List Nat, (prow qs n)[i]? = some (vI ((qs.getD i 0 : Nat) : Int)) := fun qs => prow_at hi
    apply Option.some.inj
    rw [← Array.getElem?_eq_getElem h1, ← Array.getElem?_eq_getElem h2, e, Array.getElem?_setIfInBounds]
    by_cases hl : ps.length = i
    · subst hl
      rw [if_pos rfl, if_pos (by simpa [prow] using hi)]
      simp
    · rw [if_neg hl, e]
      congr 3
      rcases Nat.lt_or_ge i ps.length with h | h
      · simp [List.getD_eq_getElem?_getD, List.getElem?_append_left h]
      · have h3 : ps.length + 1 ≤ i := by omega
        rw [List.getD_eq_getElem?_getD, List.getD_eq_getElem?_getD, List.getElem?_eq_none h, List.getElem?_eq_none (by simpa using h3)]
/-- While an operation is told anew. -/
def TolC (pb n : Nat) (ps : List Nat) (w : World) (t : Nat) (o : Opr) : Nat → World → Prop
  | 0, x => LocO t o x ∧ Below w.heap.size w x ∧ w.heap.size ≤ t ∧ x.heap[pb]? = some (.cells (prow ps n) 3) ∧ pb < w.heap.size ∧ x.heap[t + 1]? = some (.cells #[vI 0, vI 0, vI 0, vI 0, vI 0, vU 0] 45)
  | 1, x => LocO t { o with a := (ps.getD o.a.toNat 0 : Nat) } x ∧ Below w.heap.size w x ∧ w.heap.size ≤ t ∧ x.heap[pb]? = some (.cells (prow ps n) 3) ∧ pb < w.heap.size ∧ x.heap[t + 1]? = some (.cells #[vI 0, vI 0, vI 0, vI 0, vI 0, vU 0] 45)
  | _, x => LocO t (toldO o ps) x ∧ Below w.heap.size w x ∧ w.heap.size ≤ t ∧ x.heap[pb]? = some (.cells (prow ps n) 3) ∧ pb < w.heap.size ∧ x.heap[t + 1]? = some (.cells #[vI 0, vI 0, vI 0, vI 0, vI 0, vU 0] 45)
section
variable {pb n t : Nat} {ps : List Nat} {w x : World} {o : Opr}
theorem tol_row {j : Nat} (h : TolC pb n ps w t o j x) : x.heap[pb]? = some (.cells (prow ps n) 3) := match j, h with
  | 0, h => h.2.2.2.1
  | 1, h => h.2.2.2.1
  | _ + 2, h => h.2.2.2.1
theorem tol_cell {j : Nat} (h : TolC pb n ps w t o j x) {q : Nat} (hq : q < n) : x.cell? ⟨pb, q, none⟩ = some (vI ((ps.getD q 0 : Nat) : Int)) := by rw [cell_of_row _ _ _ _ _ _ (tol_row h), prow_at hq]
theorem tol_rest {o' : Opr} {v : Value} {k : Nat} (h : Below w.heap.size w x ∧ w.heap.size ≤ t ∧ x.heap[pb]? = some (.cells (prow ps n) 3) ∧ pb < w.heap.size ∧ x.heap[t + 1]? = some (.cells #[vI 0, vI 0, vI 0, vI 0, vI 0, vU 0] 45)) : Below w.heap.size w (x.setCell ⟨t, k, none⟩ v) ∧ w.heap.size ≤ t ∧ (x.setCell ⟨t, k, none⟩ v).heap[pb]? = some (.cells (prow ps n) 3) ∧ pb < w.heap.size ∧ (x.setCell ⟨t, k, none⟩ v).heap[t + 1]? = some (.cells #[vI 0, vI 0, vI 0, vI 0, vI 0, vU 0] 45) := by
  obtain ⟨h1, h2, h3, h4, h5⟩ := h
  refine ⟨h1.trans ⟨rfl, rfl, rfl, by simp [World.setCell], fun k hk => Below.heap_setCell _ _ _ _ (by show k ≠ t; omega)⟩, h2, ?_, h4, ?_⟩
  · rw [Below.heap_setCell _ _ _ _ (by show pb ≠ t; omega)]; exact h3
  · rw [Below.heap_setCell _ _ _ _ (by show t + 1 ≠ t; omega)]; exact h5
theorem tol_a {qa : Nat} (h : TolC pb n ps w t o 0 x) (ha : o.a = qa) : TolC pb n ps w t o 1 (x.setCell ⟨t, 2, none⟩ (vI ((ps.getD qa 0 : Nat) : Int))) := by
  refine ⟨?_, tol_rest (o' := o) h.2⟩
  have := heap_setCell_same x t 2 _ 45 (vI ((ps.getD qa 0 : Nat) : Int)) h.1
  unfold LocO
  rw [this, ha, Int.toNat_natCast]
  rfl
theorem tol_b {qb : Nat} (h : TolC pb n ps w t o 1 x) (hb : o.b = qb) : TolC pb n ps w t o 2 (x.setCell ⟨t, 3, none⟩ (vI ((ps.getD qb 0 : Nat) : Int))) := by
  refine ⟨?_, tol_rest (o' := o) h.2⟩
  have := heap_setCell_same x t 3 _ 45 (vI ((ps.getD qb 0 : Nat) : Int)) h.1
  unfold LocO toldO
  rw [this, hb, Int.toNat_natCast]
  rfl
set_option maxHeartbeats 2000000 in
theorem told_c (hp : w.heap[pb]? = some (.cells (prow ps n) 3)) {qa qb : Nat} (ha : o.a = qa) (hb : o.b = qb) (hqa : qa < n) (hqb : qb < n) : Calls Try.prog 39 #[opV o, .slice (some ⟨pb, 0, none⟩) n n] w fun e w' => e = .returned (opV (toldO o ps)) ∧ Below w.heap.size w w' := by
  have hia : (qa : Int) < n := by omega
  have hib : (qb : Int) < n := by omega
  have hb1 := below_alloc w (.cells (opA o) 45)
  have hb2 := below_alloc (w.alloc (.cells (opA o) 45)) (.cells #[vI 0, vI 0, vI 0, vI 0, vI 0, vU 0] 45)
  have hB := below_then hb1 (Nat.le_refl _) hb2
  have st : TolC pb n ps w w.heap.size o 0 ((w.alloc (.cells (opA o) 45)).alloc (.cells #[vI 0, vI 0, vI 0, vI 0, vI 0, vU 0] 45)) := by
    refine ⟨(LocO.new w o).grow hb2, hB, Nat.le_refl _, keepRow hp hB, lt_of_some hp, ?_⟩
    have := heap_alloc_new (w.alloc (.cells (opA o) 45)) (.cells #[vI 0, vI 0, vI 0, vI 0, vI 0, vU 0] 45)
    rw [World.size_alloc] at this
    exact this
  clear hb1 hb2 hB hp
  go_enter Try.func39, Try.ntmps39
  go_upto_region 1 with fail
  generalize (w.alloc (.cells (opA o) 45)).alloc (.cells #[vI 0, vI 0, vI 0, vI 0, vI 0, vU 0] 45) = w2 at *
  generalize ht : w.heap.size = t at st
  have hst0 : TolC pb n ps w t o 0 ({ w2 with drawn := w2.drawn + 1 } : World) := ⟨st.1.grow (below_dr w2), st.2.1.trans ((below_dr w2).mono st.2.1.size), st.2.2.1, keepRow st.2.2.2.1 (below_dr w2), st.2.2.2.2.1, keepRow st.2.2.2.2.2 (below_dr w2)⟩
  have hst : (TolC pb n ps w t o) 0 _ := hst0
  refine Chn.wp_region_chainL (TolC pb n ps w t o) [11, 13] [2, 2, 0, 2, 2, 2, 2, 0, 2, 2, 2, 2, 2, 2] [.slice (some ⟨pb, 0, none⟩) n n, ptr t 2, vI qa, ptr pb qa, vI ((ps.getD qa 0 : Nat) : Int), .slice (some ⟨pb, 0, none⟩) n n, ptr t 3, vI qb, ptr pb qb, vI ((ps.getD qb 0 : Nat) : Int), ptr t 2, undef, ptr t 3, undef] (by kernel_rfl) (by kernel_rfl) (by kernel_rfl) (by kernel_rfl) (by kernel_rfl) hst ?_
  clear hst
  refine ⟨fun j w1 hj hC => by exact Chn.upon_pure hC (fun F hF => by (go_simp <;> exact hF)), ?_⟩
  simp only [Act.put, List.setIfInBounds_toArray, List.set_cons_succ, List.set_cons_zero]
  refine ⟨fun j w1 hj hC => by exact Chn.upon_pure hC (fun F hF => by (go_simp <;> exact hF)), ?_⟩
  simp only [Act.put, List.setIfInBounds_toArray, List.set_cons_succ, List.set_cons_zero]
  refine ⟨fun j w1 hj hC => by
    have z := (show w1.cell? ⟨t, 2, none⟩ = some (vI qa) by (obtain rfl : j = 0 := Nat.le_zero.1 hj); rw [hC.1.c2, ha])
    exact Chn.upon_pure hC (fun F hF => by (go_simp <;> exact hF)), ?_⟩
  simp only [Act.put, List.setIfInBounds_toArray, List.set_cons_succ, List.set_cons_zero]
  refine ⟨fun j w1 hj hC => by exact Chn.upon_pure hC (fun F hF => by (go_simp <;> exact hF)), ?_⟩
  simp only [Act.put, List.setIfInBounds_toArray, List.set_cons_succ, List.set_cons_zero]
  refine ⟨fun j w1 hj hC => by
    have z := tol_cell hC hqa
    exact Chn.upon_pure hC (fun F hF => by (go_simp <;> exact hF)), ?_⟩
  simp only [Act.put, List.setIfInBounds_toArray, List.set_cons_succ, List.set_cons_zero]
  refine ⟨fun j w1 hj hC => by exact Chn.upon_pure hC (fun F hF => by (go_simp <;> exact hF)), ?_⟩
  simp only [Act.put, List.setIfInBounds_toArray, List.set_cons_succ, List.set_cons_zero]
  refine ⟨fun j w1 hj hC => by exact Chn.upon_pure hC (fun F hF => by (go_simp <;> exact hF)), ?_⟩
  simp only [Act.put, List.setIfInBounds_toArray, List.set_cons_succ, List.set_cons_zero]
  refine ⟨fun j w1 hj hC => by
    have z := (show w1.cell? ⟨t, 3, none⟩ = some (vI qb) by (obtain rfl : j = 0 := Nat.le_zero.1 hj); rw [hC.1.c3, hb])
    exact Chn.upon_pure hC (fun F hF => by (go_simp <;> exact hF)), ?_⟩
  simp only [Act.put, List.setIfInBounds_toArray, List.set_cons_succ, List.set_cons_zero]
  refine ⟨fun j w1 hj hC => by exact Chn.upon_pure hC (fun F hF => by (go_simp <;> exact hF)), ?_⟩
  simp only [Act.put, List.setIfInBounds_toArray, List.set_cons_succ, List.set_cons_zero]
  refine ⟨fun j w1 hj hC => by
    have z := tol_cell hC hqb
    exact Chn.upon_pure hC (fun F hF => by (go_simp <;> exact hF)), ?_⟩
  simp only [Act.put, List.setIfInBounds_toArray, List.set_cons_succ, List.set_cons_zero]
  refine ⟨fun j w1 hj hC => by exact Chn.upon_pure hC (fun F hF => by (go_simp <;> exact hF)), ?_⟩
  simp only [Act.put, List.setIfInBounds_toArray, List.set_cons_succ, List.set_cons_zero]
  refine ⟨fun w1 hC => by
    exact chn_store 3 _ _ rfl t 2 rfl _ rfl (run_cell w1 3 t 2 _ _ inf3 rfl rfl hC.1.c2 (frozen_of_row _ _ _ _ _ hC.1)) (tol_a hC ha), ?_⟩
  simp only [Act.put, List.setIfInBounds_toArray, List.set_cons_succ, List.set_cons_zero]
  refine ⟨fun j w1 hj hC => by exact Chn.upon_pure hC (fun F hF => by (go_simp <;> exact hF)), ?_⟩
  simp only [Act.put, List.setIfInBounds_toArray, List.set_cons_succ, List.set_cons_zero]
  refine ⟨fun w1 hC => by
    exact chn_store 3 _ _ rfl t 3 rfl _ rfl (run_cell w1 3 t 3 _ _ inf3 rfl rfl hC.1.c3 (frozen_of_row _ _ _ _ _ hC.1)) (tol_b hC hb), ?_⟩
  simp only [Act.put, List.setIfInBounds_toArray, List.set_cons_succ, List.set_cons_zero]
  intro w5 hC
  refine Rel.then_normal ?_
  obtain ⟨L5, B5, htw, -, -, z5⟩ : TolC pb n ps w t o 2 w5 := hC
  have A5 := L5.at_
  go_upto_region 3 with (first | ((with_reducible refine wpList_load42 rfl _ rfl _ rfl _ A5 ?_); simp only [Act.put, List.setIfInBounds_toArray, List.set_cons_succ, List.set_cons_zero]) | ((with_reducible refine wpList_store_row rfl 45 _ _ rfl (t + 1) (opA (toldO o ps)) rfl rfl 45 _ z5 (op_inf _) rfl (op_one _) ?_); simp only [Act.put, List.setIfInBounds_toArray, List.set_cons_succ, List.set_cons_zero]))
  refine bodyPost_ret (results_cell_row rfl _ _ _ 45 (opA (toldO o ps)) (0, 0) _ rfl (setRow_heap _ _ _ _ _ _ z5) Try.underlying45 rfl (op_inf _)) rfl ?_
  exact ⟨rfl, below_setRow B5 (by omega)⟩
end
end Go.Proofs.Ytilhjbhhgpoajaa
/- An operation laid down. -/
namespace Go.Proofs.Ytilhjbhhgpoajaa
open Go.RowKit
set_option linter.unusedVariables false
set_option linter.unusedSimpArgs false
set_option maxRecDepth 8000

section
variable {G : Fh} {c : Nat} {S : Fo} {u : Value} {w : World}
set_option maxHeartbeats 2000000 in
theorem lay_2 (h : FoAt G c S u w) (o : Opr) (hr : SmallI o.r) (hc : c < 100000) (hl : S.laid.length ≤ 100000) (hk : o.kind = 2) : Calls Try.prog 38 #[ptr G.p 0, opV o] w fun e w' => e = .returned (vI (S.get o).2) ∧ FT G (c + 1) (S.get o).1 u w w' := by
  have hb := below_alloc w (.cells (opA o) 45)
  have L : LocO w.heap.size o (w.alloc (.cells (opA o) 45)) := LocO.new w o
  have apO : Apart G u w.heap.size := h.apart (Nat.le_refl _)
  have R := FM.from hb (h.grow hb).here
  have hsz : w.heap.size < (w.alloc (.cells (opA o) 45)).heap.size := by simp
  have y0 := L.c0
  have y1 := L.c1
  rw [hk] at y0
  clear apO
  have A := L.at_
  have kc := get_c (h.grow hb) o (by rw [hk]; exact ⟨by decide, by decide⟩) hr hc hl
  clear h
  go_enter Try.func38, Try.ntmps38
  go_upto_region 1 with fail
  generalize w.alloc (.cells (opA o) 45) = w1 at *
  generalize w.heap.size = t1 at *
  go_wp2_with (first | ((with_reducible refine wpList_load42 rfl _ rfl _ rfl _ A ?_); simp only [Act.put, List.setIfInBounds_toArray, List.set_cons_succ, List.set_cons_zero]) | ((with_reducible refine wpList_built rfl 93 _ rfl (rgA 0 o.r) (by kernel_rfl) ?_); simp only [Act.put, List.setIfInBounds_toArray, List.set_cons_succ, List.set_cons_zero]) | (go_at_call 64; (with_reducible refine kc.mono ?_); clear kc; rintro e w9 ⟨rfl, u9, R9⟩; dsimp only))
  go_ret
  exact ⟨rfl, _, R.then R9⟩
set_option maxHeartbeats 2000000 in
theorem lay_4 (h : FoAt G c S u w) (o : Opr) (hr : SmallI o.r) (hc : c < 100000) (hl : S.laid.length ≤ 100000) (hk : o.kind = 4) : Calls Try.prog 38 #[ptr G.p 0, opV o] w fun e w' => e = .returned (vI (S.get o).2) ∧ FT G (c + 1) (S.get o).1 u w w' := by
  have hb := below_alloc w (.cells (opA o) 45)
  have L : LocO w.heap.size o (w.alloc (.cells (opA o) 45)) := LocO.new w o
  have apO : Apart G u w.heap.size := h.apart (Nat.le_refl _)
  have R := FM.from hb (h.grow hb).here
  have hsz : w.heap.size < (w.alloc (.cells (opA o) 45)).heap.size := by simp
  have y0 := L.c0
  have y1 := L.c1
  rw [hk] at y0
  clear apO
  have A := L.at_
  have kc := get_c (h.grow hb) o (by rw [hk]; exact ⟨by decide, by decide⟩) hr hc hl
  clear h
  go_enter Try.func38, Try.ntmps38
  go_upto_region 1 with fail
  generalize w.alloc (.cells (opA o) 45) = w1 at *
  generalize w.heap.size = t1 at *
  go_wp2_with (first | ((with_reducible refine wpList_load42 rfl _ rfl _ rfl _ A ?_); simp only [Act.put, List.setIfInBounds_toArray, List.set_cons_succ, List.set_cons_zero]) | ((with_reducible refine wpList_built rfl 93 _ rfl (rgA 0 o.r) (by kernel_rfl) ?_); simp only [Act.put, List.setIfInBounds_toArray, List.set_cons_succ, List.set_cons_zero]) | (go_at_call 64; (with_reducible refine kc.mono ?_); clear kc; rintro e w9 ⟨rfl, u9, R9⟩; dsimp only))
  go_ret
  exact ⟨rfl, _, R.then R9⟩
set_option maxHeartbeats 2000000 in
theorem lay_6 (h : FoAt G c S u w) (o : Opr) (hr : SmallI o.r) (hc : c < 100000) (hl : S.laid.length ≤ 100000) (hk : o.kind = 6) : Calls Try.prog 38 #[ptr G.p 0, opV o] w fun e w' => e = .returned (vI (S.get o).2) ∧ FT G (c + 1) (S.get o).1 u w w' := by
  have hb := below_alloc w (.cells (opA o) 45)
  have L : LocO w.heap.size o (w.alloc (.cells (opA o) 45)) := LocO.new w o
  have apO : Apart G u w.heap.size := h.apart (Nat.le_refl _)
  have R := FM.from hb (h.grow hb).here
  have hsz : w.heap.size < (w.alloc (.cells (opA o) 45)).heap.size := by simp
  have y0 := L.c0
  have y1 := L.c1
  rw [hk] at y0
  clear apO
  have A := L.at_
  have kc := get_c (h.grow hb) o (by rw [hk]; exact ⟨by decide, by decide⟩) hr hc hl
  clear h
  go_enter Try.func38, Try.ntmps38
  go_upto_region 1 with fail
  generalize w.alloc (.cells (opA o) 45) = w1 at *
  generalize w.heap.size = t1 at *
  go_wp2_with (first | ((with_reducible refine wpList_load42 rfl _ rfl _ rfl _ A ?_); simp only [Act.put, List.setIfInBounds_toArray, List.set_cons_succ, List.set_cons_zero]) | ((with_reducible refine wpList_built rfl 93 _ rfl (rgA 0 o.r) (by kernel_rfl) ?_); simp only [Act.put, List.setIfInBounds_toArray, List.set_cons_succ, List.set_cons_zero]) | (go_at_call 64; (with_reducible refine kc.mono ?_); clear kc; rintro e w9 ⟨rfl, u9, R9⟩; dsimp only))
  go_ret
  exact ⟨rfl, _, R.then R9⟩
set_option maxHeartbeats 2000000 in
theorem lay_3 (h : FoAt G c S u w) (o : Opr) (hr : SmallI o.r) (hc : c < 100000) (hl : S.laid.length ≤ 100000) (h0 : 0 ≤ o.a) (hk : o.kind = 3) : Calls Try.prog 38 #[ptr G.p 0, opV o] w fun e w' => e = .returned (vI (S.set 2 o.r o).2) ∧ FT G (c + 1) (S.set 2 o.r o).1 u w w' := by
  have hb := below_alloc w (.cells (opA o) 45)
  have L : LocO w.heap.size o (w.alloc (.cells (opA o) 45)) := LocO.new w o
  have apO : Apart G u w.heap.size := h.apart (Nat.le_refl _)
  have R := FM.from hb (h.grow hb).here
  have hsz : w.heap.size < (w.alloc (.cells (opA o) 45)).heap.size := by simp
  have y0 := L.c0
  have y1 := L.c1
  rw [hk] at y0
  clear apO
  have A := L.at_
  have kc := set_c (h.grow hb) o (a := 2) (r := o.r) ⟨by decide, by decide⟩ hr hc h0 hl
  clear h
  go_enter Try.func38, Try.ntmps38
  go_upto_region 1 with fail
  generalize w.alloc (.cells (opA o) 45) = w1 at *
  generalize w.heap.size = t1 at *
  go_wp2_with (first | ((with_reducible refine wpList_load42 rfl _ rfl _ rfl _ A ?_); simp only [Act.put, List.setIfInBounds_toArray, List.set_cons_succ, List.set_cons_zero]) | ((with_reducible refine wpList_built rfl 93 _ rfl (rgA 2 o.r) (by kernel_rfl) ?_); simp only [Act.put, List.setIfInBounds_toArray, List.set_cons_succ, List.set_cons_zero]) | (go_at_call 65; (with_reducible refine kc.mono ?_); clear kc; rintro e w9 ⟨rfl, u9, R9⟩; dsimp only))
  go_ret
  exact ⟨rfl, _, R.then R9⟩
set_option maxHeartbeats 2000000 in
theorem lay_5 (h : FoAt G c S u w) (o : Opr) (hr : SmallI o.r) (hc : c < 100000) (hl : S.laid.length ≤ 100000) (h0 : 0 ≤ o.a) (hk : o.kind = 5) : Calls Try.prog 38 #[ptr G.p 0, opV o] w fun e w' => e = .returned (vI (S.set 4 o.r o).2) ∧ FT G (c + 1) (S.set 4 o.r o).1 u w w' := by
  have hb := below_alloc w (.cells (opA o) 45)
  have L : LocO w.heap.size o (w.alloc (.cells (opA o) 45)) := LocO.new w o
  have apO : Apart G u w.heap.size := h.apart (Nat.le_refl _)
  have R := FM.from hb (h.grow hb).here
  have hsz : w.heap.size < (w.alloc (.cells (opA o) 45)).heap.size := by simp
  have y0 := L.c0
  have y1 := L.c1
  rw [hk] at y0
  clear apO
  have A := L.at_
  have kc := set_c (h.grow hb) o (a := 4) (r := o.r) ⟨by decide, by decide⟩ hr hc h0 hl
  clear h
  go_enter Try.func38, Try.ntmps38
  go_upto_region 1 with fail
  generalize w.alloc (.cells (opA o) 45) = w1 at *
  generalize w.heap.size = t1 at *
  go_wp2_with (first | ((with_reducible refine wpList_load42 rfl _ rfl _ rfl _ A ?_); simp only [Act.put, List.setIfInBounds_toArray, List.set_cons_succ, List.set_cons_zero]) | ((with_reducible refine wpList_built rfl 93 _ rfl (rgA 4 o.r) (by kernel_rfl) ?_); simp only [Act.put, List.setIfInBounds_toArray, List.set_cons_succ, List.set_cons_zero]) | (go_at_call 65; (with_reducible refine kc.mono ?_); clear kc; rintro e w9 ⟨rfl, u9, R9⟩; dsimp only))
  go_ret
  exact ⟨rfl, _, R.then R9⟩
set_option maxHeartbeats 2000000 in
theorem lay_7 (h : FoAt G c S u w) (o : Opr) (hr : SmallI o.r) (hc : c < 100000) (hl : S.laid.length ≤ 100000) (h0 : 0 ≤ o.a) (hA : o.a.toNat < S.laid.length) (hk : o.kind = 7) : Calls Try.prog 38 #[ptr G.p 0, opV o] w fun e w' => e = .returned (vI (S.setFlag o).2) ∧ FT G (c + 1) (S.setFlag o).1 u w w' := by
  have hb := below_alloc w (.cells (opA o) 45)
  have L : LocO w.heap.size o (w.alloc (.cells (opA o) 45)) := LocO.new w o
  have apO : Apart G u w.heap.size := h.apart (Nat.le_refl _)
  have R := FM.from hb (h.grow hb).here
  have hsz : w.heap.size < (w.alloc (.cells (opA o) 45)).heap.size := by simp
  have y0 := L.c0
  have y1 := L.c1
  rw [hk] at y0
  clear apO
  have A := L.at_
  have kc := setFlag_c (h.grow hb) o hr hc hl h0 hA
  clear h
  go_enter Try.func38, Try.ntmps38
  go_upto_region 1 with fail
  generalize w.alloc (.cells (opA o) 45) = w1 at *
  generalize w.heap.size = t1 at *
  go_wp2_with (first | ((with_reducible refine wpList_load42 rfl _ rfl _ rfl _ A ?_); simp only [Act.put, List.setIfInBounds_toArray, List.set_cons_succ, List.set_cons_zero]) | ((with_reducible refine wpList_built rfl 93 _ rfl (rgA 0 o.r) (by kernel_rfl) ?_); simp only [Act.put, List.setIfInBounds_toArray, List.set_cons_succ, List.set_cons_zero]) | (go_at_call 66; (with_reducible refine kc.mono ?_); clear kc; rintro e w9 ⟨rfl, u9, R9⟩; dsimp only))
  go_ret
  exact ⟨rfl, _, R.then R9⟩
set_option maxHeartbeats 2000000 in
theorem lay_8 (h : FoAt G c S u w) (o : Opr) (hl : S.laid.length ≤ 100000) (h0 : 0 ≤ o.a) (hA : o.a.toNat < S.laid.length) (h1 : 0 ≤ o.b) (hB : o.b.toNat < S.laid.length) (hU : ∀ k, U64 (opAt S.laid k).imm) (hk : o.kind = 8) : Calls Try.prog 38 #[ptr G.p 0, opV o] w fun e w' => e = .returned (vI (S.reckon o).2) ∧ FT G (c + 1) (S.reckon o).1 u w w' := by
  have hb := below_alloc w (.cells (opA o) 45)
  have L : LocO w.heap.size o (w.alloc (.cells (opA o) 45)) := LocO.new w o
  have apO : Apart G u w.heap.size := h.apart (Nat.le_refl _)
  have R := FM.from hb (h.grow hb).here
  have hsz : w.heap.size < (w.alloc (.cells (opA o) 45)).heap.size := by simp
  have y0 := L.c0
  have y1 := L.c1
  rw [hk] at y0
  clear apO
  have A := L.at_
  have kc := reckon_c (h.grow hb) o hl h0 hA h1 hB hU
  clear h
  go_enter Try.func38, Try.ntmps38
  go_upto_region 1 with fail
  generalize w.alloc (.cells (opA o) 45) = w1 at *
  generalize w.heap.size = t1 at *
  go_wp2_with (first | ((with_reducible refine wpList_load42 rfl _ rfl _ rfl _ A ?_); simp only [Act.put, List.setIfInBounds_toArray, List.set_cons_succ, List.set_cons_zero]) | ((with_reducible refine wpList_built rfl 93 _ rfl (rgA 0 o.r) (by kernel_rfl) ?_); simp only [Act.put, List.setIfInBounds_toArray, List.set_cons_succ, List.set_cons_zero]) | (go_at_call 67; (with_reducible refine kc.mono ?_); clear kc; rintro e w9 ⟨rfl, u9, R9⟩; dsimp only))
  go_ret
  exact ⟨rfl, _, (R.then R9).mono (Nat.le_succ _)⟩
set_option maxHeartbeats 2000000 in
theorem lay_15 (h : FoAt G c S u w) (o : Opr) (hl : S.laid.length ≤ 100000) (h0 : 0 ≤ o.a) (hA : o.a.toNat < S.laid.length) (hk : o.kind = 15) : Calls Try.prog 38 #[ptr G.p 0, opV o] w fun e w' => e = .returned (vI (S.exitIf o).2) ∧ FT G (c + 1) (S.exitIf o).1 u w w' := by
  have hb := below_alloc w (.cells (opA o) 45)
  have L : LocO w.heap.size o (w.alloc (.cells (opA o) 45)) := LocO.new w o
  have apO : Apart G u w.heap.size := h.apart (Nat.le_refl _)
  have R := FM.from hb (h.grow hb).here
  have hsz : w.heap.size < (w.alloc (.cells (opA o) 45)).heap.size := by simp
  have y0 := L.c0
  have y1 := L.c1
  rw [hk] at y0
  clear apO
  have A := L.at_
  have kc := exitIf_c (h.grow hb) o hl h0 hA
  clear h
  go_enter Try.func38, Try.ntmps38
  go_upto_region 1 with fail
  generalize w.alloc (.cells (opA o) 45) = w1 at *
  generalize w.heap.size = t1 at *
  go_wp2_with (first | ((with_reducible refine wpList_load42 rfl _ rfl _ rfl _ A ?_); simp only [Act.put, List.setIfInBounds_toArray, List.set_cons_succ, List.set_cons_zero]) | ((with_reducible refine wpList_built rfl 93 _ rfl (rgA 0 o.r) (by kernel_rfl) ?_); simp only [Act.put, List.setIfInBounds_toArray, List.set_cons_succ, List.set_cons_zero]) | (go_at_call 68; (with_reducible refine kc.mono ?_); clear kc; rintro e w9 ⟨rfl, u9, R9⟩; dsimp only))
  go_ret
  exact ⟨rfl, _, (R.then R9).mono (Nat.le_succ _)⟩
set_option maxHeartbeats 4000000 in
theorem lay_put (h : FoAt G c S u w) (o : Opr) (hl : S.laid.length ≤ 100000) (hk : o.kind ≠ 2 ∧ o.kind ≠ 4 ∧ o.kind ≠ 6 ∧ o.kind ≠ 3 ∧ o.kind ≠ 5 ∧ o.kind ≠ 7 ∧ o.kind ≠ 8 ∧ o.kind ≠ 15) : Calls Try.prog 38 #[ptr G.p 0, opV o] w fun e w' => e = .returned (vI S.laid.length) ∧ FT G (c + 1) (S.put o) u w w' := by
  have hb := below_alloc w (.cells (opA o) 45)
  have L : LocO w.heap.size o (w.alloc (.cells (opA o) 45)) := LocO.new w o
  have apO : Apart G u w.heap.size := h.apart (Nat.le_refl _)
  have R := FM.from hb (h.grow hb).here
  have hsz : w.heap.size < (w.alloc (.cells (opA o) 45)).heap.size := by simp
  clear hb
  have y0 := L.c0
  clear apO h
  obtain ⟨k2, k4, k6, k3, k5, k7, k8, k15⟩ := hk
  have b2 : (o.kind == 2) = false := by simpa using k2
  have b4 : (o.kind == 4) = false := by simpa using k4
  have b6 : (o.kind == 6) = false := by simpa using k6
  have b3 : (o.kind == 3) = false := by simpa using k3
  have b5 : (o.kind == 5) = false := by simpa using k5
  have b7 : (o.kind == 7) = false := by simpa using k7
  have b8 : (o.kind == 8) = false := by simpa using k8
  have b15 : (o.kind == 15) = false := by simpa using k15
  clear k2 k3 k4 k5 k6 k7 k8 k15
  go_enter Try.func38, Try.ntmps38
  go_upto_region 1 with fail
  generalize w.alloc (.cells (opA o) 45) = w1 at *
  generalize w.heap.size = t1 at *
  go_upto_region 16 with fail
  clear b2 b3 b4 b5 b6 b7 b8 b15 y0
  refine wp_region_still_tail 5 (by kernel_rfl) (by kernel_rfl) ?_
  replace R := R.grow (below_dr w1)
  replace L := L.grow (below_dr w1)
  generalize ({ w1 with drawn := w1.drawn + 1 } : World) = w2 at *
  have z1 := R.at_.c1
  have A3 := run_load42 L.at_
  simp only [List.take_succ_cons, List.take_zero, List.drop_succ_cons, List.drop_zero]
  repeat (first | still_step | ((with_reducible refine still_row rfl _ _ rfl rfl (run_reg K) ?_); simp only [Act.put, List.setIfInBounds_toArray, List.set_cons_succ, List.set_cons_zero]) | ((with_reducible refine still_row rfl _ _ rfl rfl A3 ?_); simp only [Act.put, List.setIfInBounds_toArray, List.set_cons_succ, List.set_cons_zero]))
  refine wpStill_nil ?_
  have kp := put_c R.at_ o (by first | exact hl | simpa using hl)
  clear z1 A3
  go_wp2_with (go_at_call 36; (with_reducible refine kp.mono ?_); clear kp; rintro e w9 ⟨rfl, u9, R9⟩; dsimp only)
  go_ret
  exact ⟨rfl, _, (R.then R9).mono (Nat.le_succ _)⟩
/-- What a right block's operation has, told anew. -/
structure LayOk (S : Fo) (o : Opr) : Prop where
  kind : isK o.kind = true
  r : o.kind = 2 ∨ o.kind = 3 ∨ o.kind = 4 ∨ o.kind = 5 ∨ o.kind = 6 ∨ o.kind = 7 → SmallI o.r
  a : o.kind = 3 ∨ o.kind = 5 ∨ o.kind = 7 ∨ o.kind = 8 ∨ o.kind = 15 → 0 ≤ o.a ∧ o.a.toNat < S.laid.length
  b : o.kind = 8 → 0 ≤ o.b ∧ o.b.toNat < S.laid.length
  u : ∀ k, U64 (opAt S.laid k).imm
theorem lay_c (h : FoAt G c S u w) (o : Opr) (k : LayOk S o) (hc : c < 100000) (hl : S.laid.length ≤ 100000) : Calls Try.prog 38 #[ptr G.p 0, opV o] w fun e w' => e = .returned (vI (S.lay o).2) ∧ FT G (c + 1) (S.lay o).1 u w w' := by
  have hk := k.kind
  have kr := k.r; have ka := k.a; have kb := k.b; have ku := k.u
  have P := fun hq => lay_put h o hl hq
  obtain ⟨kind, r, a, b, order, imm⟩ := o
  dsimp only at hk kr ka kb P
  rcases isK_cases hk with rfl | rfl | rfl | rfl | rfl | rfl | rfl | rfl | rfl | rfl | rfl | rfl | rfl | rfl | rfl | rfl | rfl | rfl
  · exact P (by decide)
  · exact lay_2 h _ (kr (by decide)) hc hl rfl
  · exact lay_3 h _ (kr (by decide)) hc hl (ka (by decide)).1 rfl
  · exact lay_4 h _ (kr (by decide)) hc hl rfl
  · exact lay_5 h _ (kr (by decide)) hc hl (ka (by decide)).1 rfl
  · exact lay_6 h _ (kr (by decide)) hc hl rfl
  · exact lay_7 h _ (kr (by decide)) hc hl (ka (by decide)).1 (ka (by decide)).2 rfl
  · exact lay_8 h _ hl (ka (by decide)).1 (ka (by decide)).2 (kb rfl).1 (kb rfl).2 ku rfl
  · exact P (by decide)
  · exact P (by decide)
  · exact P (by decide)
  · exact P (by decide)
  · exact P (by decide)
  · exact P (by decide)
  · exact lay_15 h _ hl (ka (by decide)).1 (ka (by decide)).2 rfl
  · exact P (by decide)
  · exact P (by decide)
  · exact P (by decide)
end
end Go.Proofs.Ytilhjbhhgpoajaa
/- What holds of a go over a right block: plain. -/
namespace Go.Proofs.Ytilhjbhhgpoajaa
open Go.RowKit
set_option linter.unusedVariables false
set_option linter.unusedSimpArgs false
set_option maxRecDepth 8000

theorem opAt_left {l : List Opr} {o : Opr} {j : Nat} (h : j < l.length) : opAt (l ++ [o]) j = opAt l j := by unfold opAt; rw [List.getElem?_append_left h]
theorem opAt_last (l : List Opr) (o : Opr) : opAt (l ++ [o]) l.length = o := by unfold opAt; simp
theorem opAt_out {l : List Opr} {j : Nat} (h : l.length ≤ j) : opAt l j = nilO := by unfold opAt; rw [List.getElem?_eq_none h]; rfl
theorem u_nil : U64 nilO.imm := ⟨by decide, by decide⟩
theorem u_snoc {l : List Opr} {o : Opr} (h : ∀ j, U64 (opAt l j).imm) (ho : U64 o.imm) (j : Nat) : U64 (opAt (l ++ [o]) j).imm := by
  rcases Nat.lt_trichotomy j l.length with e | e | e
  · rw [opAt_left e]; exact h j
  · rw [e, opAt_last]; exact ho
  · rw [opAt_out (by simp; omega)]; exact u_nil
/-- The parts of what is right of an operation. -/
structure OkP (l : List Opr) (k : Nat) : Prop where
  kind : isK (opAt l k).kind = true
  last : hasP (opAt l k).kind 128 = decide (k + 1 = l.length)
  op : opB (opAt l k) = true
  a : hasP (opAt l k).kind 2 = true → 0 ≤ (opAt l k).a ∧ (opAt l k).a.toNat < k ∧ hasP (opAt l (opAt l k).a.toNat).kind 32 = true
  b : hasP (opAt l k).kind 4 = true → 0 ≤ (opAt l k).b ∧ (opAt l k).b.toNat < k ∧ hasP (opAt l (opAt l k).b.toNat).kind 32 = true
theorem okP_of {l : List Opr} {k : Nat} (h : okAt l k = true) : OkP l k := by
  unfold okAt at h
  simp only [Bool.and_eq_true] at h
  obtain ⟨⟨⟨h1, h2⟩, h3⟩, h4⟩ := h
  have d : ∀ p ∈ usesL (opAt l k), 0 ≤ p ∧ p.toNat < k ∧ hasP (opAt l p.toNat).kind 32 = true := fun p hp => by
    have := List.all_eq_true.1 h4 p hp
    unfold defB at this
    simp only [Bool.and_eq_true, decide_eq_true_eq] at this
    exact ⟨this.1.1, by omega, this.2⟩
  exact ⟨h1, by simpa using h2, h3, fun e => d _ (by unfold usesL; rw [if_pos e]; simp), fun e => d _ (by unfold usesL; rw [if_pos e]; simp)⟩
theorem okP_ab {l : List Opr} {k : Nat} (h : OkP l k) : (hasP (opAt l k).kind 2 = false → (opAt l k).a = 0) ∧ (hasP (opAt l k).kind 4 = false → (opAt l k).b = 0) := by
  have h := h.op
  unfold opB at h
  simp only [Bool.and_eq_true, Bool.or_eq_true] at h
  obtain ⟨⟨⟨⟨⟨_, h2⟩, h3⟩, _⟩, _⟩, _⟩ := h
  exact ⟨fun e => by rcases h2 with h2 | h2; (rw [e] at h2; cases h2); simpa using h2, fun e => by rcases h3 with h3 | h3; (rw [e] at h3; cases h3); simpa using h3⟩
theorem okP_r {l : List Opr} {k : Nat} (h : OkP l k) (hk : (opAt l k).kind = 2 ∨ (opAt l k).kind = 3 ∨ (opAt l k).kind = 4 ∨ (opAt l k).kind = 5 ∨ (opAt l k).kind = 6 ∨ (opAt l k).kind = 7) : 0 ≤ (opAt l k).r ∧ (opAt l k).r < 1000 := by
  have h := h.op
  generalize opAt l k = o at h hk
  obtain ⟨kind, r, a, b, order, imm⟩ := o
  dsimp only at hk ⊢
  unfold opB at h
  simp only [Bool.and_eq_true, Bool.or_eq_true] at h
  obtain ⟨⟨⟨⟨⟨h1, _⟩, _⟩, _⟩, _⟩, hr⟩ := h
  unfold rangeB at hr
  rcases hk with rfl | rfl | rfl | rfl | rfl | rfl
  · simp at hr; omega
  · simp at hr; omega
  · have : r = 0 := by rcases h1 with h1 | h1; (rw [hp4_1] at h1; cases h1); simpa using h1
    omega
  · have : r = 0 := by rcases h1 with h1 | h1; (rw [hp5_1] at h1; cases h1); simpa using h1
    omega
  · simp at hr; omega
  · simp at hr; omega
/-- What holds of a go over a right block, behind k operations. -/
structure FoOk (l : List Opr) (k : Nat) (S : Fo) (ps : List Nat) : Prop where
  len : ps.length = k
  le : S.laid.length ≤ k
  pos : 0 < k → 0 < S.laid.length
  pl : ∀ i, i < k → hasP (opAt l i).kind 32 = true → ps.getD i 0 < S.laid.length ∧ hasP (opAt S.laid (ps.getD i 0)).kind 32 = true
  zero : ps.getD 0 0 = 0
  kn : ∀ a r v, S.known a r = some v → v < S.laid.length ∧ hasP (opAt S.laid v).kind 32 = true
  first : 0 < k → opAt S.laid 0 = opAt l 0
  u : ∀ j, U64 (opAt S.laid j).imm
theorem getD_snoc_lt {ps : List Nat} {v i : Nat} (h : i < ps.length) : (ps ++ [v]).getD i 0 = ps.getD i 0 := by
  rw [List.getD_eq_getElem?_getD, List.getD_eq_getElem?_getD, List.getElem?_append_left h]
theorem getD_snoc_eq (ps : List Nat) (v : Nat) : (ps ++ [v]).getD ps.length 0 = v := by
  rw [List.getD_eq_getElem?_getD]; simp
theorem toldO_kind (o : Opr) (ps : List Nat) : (toldO o ps).kind = o.kind := rfl
theorem toldO_r (o : Opr) (ps : List Nat) : (toldO o ps).r = o.r := rfl
theorem toldO_imm (o : Opr) (ps : List Nat) : (toldO o ps).imm = o.imm := rfl
section
variable {l : List Opr} {k : Nat} {S : Fo} {ps : List Nat}
/-- What A and B of an operation told anew are. -/
theorem FoOk.told_a (H : FoOk l k S ps) (P : OkP l k) (h : hasP (opAt l k).kind 2 = true) : ps.getD (opAt l k).a.toNat 0 < S.laid.length ∧ hasP (opAt S.laid (ps.getD (opAt l k).a.toNat 0)).kind 32 = true := H.pl _ (P.a h).2.1 (P.a h).2.2
theorem FoOk.told_b (H : FoOk l k S ps) (P : OkP l k) (h : hasP (opAt l k).kind 4 = true) : ps.getD (opAt l k).b.toNat 0 < S.laid.length ∧ hasP (opAt S.laid (ps.getD (opAt l k).b.toNat 0)).kind 32 = true := H.pl _ (P.b h).2.1 (P.b h).2.2
theorem FoOk.layOk (H : FoOk l k S ps) (P : OkP l k) : LayOk S (toldO (opAt l k) ps) := by
  refine ⟨P.kind, fun h => okP_r P h, fun h => ?_, fun h => ?_, H.u⟩
  · have h2 : hasP (opAt l k).kind 2 = true := by
      have h : (opAt l k).kind = 3 ∨ (opAt l k).kind = 5 ∨ (opAt l k).kind = 7 ∨ (opAt l k).kind = 8 ∨ (opAt l k).kind = 15 := h
      rcases h with h | h | h | h | h <;> rw [h]
      · exact hp3_2
      · exact hp5_2
      · exact hp7_2
      · exact hp8_2
      · exact hp15_2
    refine ⟨Int.natCast_nonneg _, ?_⟩
    show Int.toNat ((ps.getD (opAt l k).a.toNat 0 : Nat) : Int) < _
    rw [Int.toNat_natCast]; exact (H.told_a P h2).1
  · have h4 : hasP (opAt l k).kind 4 = true := by
      have h : (opAt l k).kind = 8 := h
      rw [h]; exact hp8_4
    refine ⟨Int.natCast_nonneg _, ?_⟩
    show Int.toNat ((ps.getD (opAt l k).b.toNat 0 : Nat) : Int) < _
    rw [Int.toNat_natCast]; exact (H.told_b P h4).1
/-- One more operation laid. -/
theorem FoOk.push (H : FoOk l k S ps) (hk : 0 < k) {x : Opr} {v : Nat} {kn : Int → Int → Option Nat} {lf : Bool} (hu : U64 x.imm) (hv : hasP (opAt l k).kind 32 = true → v < S.laid.length ∧ hasP (opAt S.laid v).kind 32 = true ∨ v = S.laid.length ∧ hasP x.kind 32 = true)
    (hkn : ∀ a r q, kn a r = some q → S.known a r = some q ∨ (q < S.laid.length ∧ hasP (opAt S.laid q).kind 32 = true) ∨ (q = S.laid.length ∧ hasP x.kind 32 = true)) : FoOk l (k + 1) ⟨S.laid ++ [x], kn, lf⟩ (ps ++ [v]) := by
  have hl := H.len
  have old : ∀ q, (q < S.laid.length ∧ hasP (opAt S.laid q).kind 32 = true) ∨ (q = S.laid.length ∧ hasP x.kind 32 = true) → q < (S.laid ++ [x]).length ∧ hasP (opAt (S.laid ++ [x]) q).kind 32 = true := fun q h => by
    rcases h with ⟨h1, h2⟩ | ⟨h1, h2⟩
    · exact ⟨by simp; omega, by rw [opAt_left h1]; exact h2⟩
    · exact ⟨by simp [h1], by rw [h1, opAt_last]; exact h2⟩
  refine ⟨by simp [hl], by have := H.le; simp; omega, fun _ => by simp, fun i hi h32 => ?_, ?_, fun a r q h => ?_, fun _ => ?_, u_snoc H.u hu⟩
  · rcases Nat.lt_or_ge i k with e | e
    · rw [getD_snoc_lt (by omega)]; exact old _ (.inl (H.pl i e h32))
    · obtain rfl : i = k := by omega
      rw [← hl, getD_snoc_eq]
      exact old _ (hv h32)
  · rw [getD_snoc_lt (by omega)]; exact H.zero
  · rcases hkn a r q h with h | h
    · exact old _ (.inl (H.kn a r q h))
    · exact old _ h
  · rw [opAt_left (H.pos hk)]; exact H.first hk
/-- None laid. -/
theorem FoOk.pass (H : FoOk l k S ps) (hk : 0 < k) {v : Nat} (hv : hasP (opAt l k).kind 32 = true → v < S.laid.length ∧ hasP (opAt S.laid v).kind 32 = true) : FoOk l (k + 1) S (ps ++ [v]) := by
  have hl := H.len
  refine ⟨by simp [hl], by have := H.le; omega, fun _ => H.pos hk, fun i hi h32 => ?_, ?_, H.kn, fun _ => H.first hk, H.u⟩
  · rcases Nat.lt_or_ge i k with e | e
    · rw [getD_snoc_lt (by omega)]; exact H.pl i e h32
    · obtain rfl : i = k := by omega
      rw [← hl, getD_snoc_eq]
      exact hv h32
  · rw [getD_snoc_lt (by omega)]; exact H.zero
theorem FoOk.put (H : FoOk l k S ps) (hk : 0 < k) (hu : U64 (opAt l k).imm) : FoOk l (k + 1) (S.put (toldO (opAt l k) ps)) (ps ++ [S.laid.length]) :=
  H.push hk hu (fun h => .inr ⟨rfl, h⟩) (fun a r q h => .inl h)
theorem FoOk.get (H : FoOk l k S ps) (hk : 0 < k) (hu : U64 (opAt l k).imm) (h32 : hasP (opAt l k).kind 32 = true) : FoOk l (k + 1) (S.get (toldO (opAt l k) ps)).1 (ps ++ [(S.get (toldO (opAt l k) ps)).2]) := by
  unfold Fo.get
  cases e : S.known (toldO (opAt l k) ps).kind (toldO (opAt l k) ps).r with
  | some v => exact H.pass hk (fun _ => H.kn _ _ _ e)
  | none =>
    refine H.push hk hu (fun h => .inr ⟨rfl, h⟩) (fun a r q h => ?_)
    dsimp only [Fo.put] at h
    split at h
    · cases h; exact .inr (.inr ⟨rfl, h32⟩)
    · exact .inl h
theorem FoOk.set (H : FoOk l k S ps) (hk : 0 < k) (hu : U64 (opAt l k).imm) (P : OkP l k) (h2 : hasP (opAt l k).kind 2 = true) (h32 : hasP (opAt l k).kind 32 = false) (a r : Int) : FoOk l (k + 1) (S.set a r (toldO (opAt l k) ps)).1 (ps ++ [(S.set a r (toldO (opAt l k) ps)).2]) := by
  unfold Fo.set
  refine H.push hk hu (fun h => by rw [h32] at h; cases h) (fun x y q h => ?_)
  dsimp only [Fo.know] at h
  split at h
  · cases h
    right; left
    have := H.told_a P h2
    show Int.toNat ((ps.getD (opAt l k).a.toNat 0 : Nat) : Int) < _ ∧ hasP (opAt S.laid (Int.toNat ((ps.getD (opAt l k).a.toNat 0 : Nat) : Int))).kind 32 = true
    rw [Int.toNat_natCast]; exact this
  · exact .inl h
theorem FoOk.lay (H : FoOk l k S ps) (hk : 0 < k) (hu : U64 (opAt l k).imm) (P : OkP l k) : FoOk l (k + 1) (S.lay (toldO (opAt l k) ps)).1 (ps ++ [(S.lay (toldO (opAt l k) ps)).2]) := by
  have hput := H.put hk hu
  have hget := H.get hk hu
  have hset := H.set hk hu P
  unfold Fo.lay
  rw [toldO_kind]
  have hK := P.kind
  have hL := H.layOk P
  generalize ho : opAt l k = o at *
  have hnd : hasP o.kind 32 = false → ∀ x : Opr, U64 x.imm → ∀ v kn lf, (∀ a r q, kn a r = some q → S.known a r = some q) → FoOk l (k + 1) ⟨S.laid ++ [x], kn, lf⟩ (ps ++ [v]) := fun h x hx v kn lf hkn =>
    H.push hk hx (fun e => by rw [ho, h] at e; cases e) (fun a r q e => .inl (hkn a r q e))
  rcases isK_cases hK with h | h | h | h | h | h | h | h | h | h | h | h | h | h | h | h | h | h <;> rw [h]
  · exact hput
  · exact hget (by rw [h]; exact hp2_32)
  · exact hset (by rw [h]; exact hp3_2) (by rw [h]; exact hp3_32) 2 o.r
  · exact hget (by rw [h]; exact hp4_32)
  · exact hset (by rw [h]; exact hp5_2) (by rw [h]; exact hp5_32) 4 o.r
  · exact hget (by rw [h]; exact hp6_32)
  · show FoOk l (k + 1) (S.setFlag (toldO o ps)).1 (ps ++ [(S.setFlag (toldO o ps)).2])
    unfold Fo.setFlag
    split
    · exact hset (by rw [h]; exact hp7_2) (by rw [h]; exact hp7_32) 6 o.r
    · refine hnd (by rw [h]; exact hp7_32) (toldO o ps) hu _ _ _ (fun a r q e => ?_)
      dsimp only [Fo.drop] at e
      split at e
      · cases e
      · exact e
  · show FoOk l (k + 1) (S.put (S.reckonO (toldO o ps))) (ps ++ [S.laid.length])
    unfold Fo.reckonO
    split
    · exact H.push hk (Alu.reckon_in (H.u _) (H.u _)) (fun _ => .inr ⟨rfl, hp1_32⟩) (fun a r q e => .inl e)
    · exact hput
  · exact hput
  · exact hput
  · exact hput
  · exact hput
  · exact hput
  · exact hput
  · show FoOk l (k + 1) (S.exitIf (toldO o ps)).1 (ps ++ [(S.exitIf (toldO o ps)).2])
    have h32 : hasP o.kind 32 = false := by rw [h]; exact hp15_32
    unfold Fo.exitIf
    split
    · exact hnd h32 (toldO o ps) hu _ _ _ (fun a r q e => e)
    · split
      · exact hnd h32 ⟨16, 0, 0, 0, 0, o.imm⟩ hu _ _ _ (fun a r q e => e)
      · exact H.pass hk (fun e => by rw [ho, h32] at e; cases e)
  · exact hput
  · exact hput
  · exact hput
end
theorem right_first {pc words el : Int} {l : List Opr} (h : rightB pc words el l = true) : 0 < l.length ∧ l.length ≤ 512 ∧ opAt l 0 = ⟨14, 0, 0, 0, 0, pc⟩ := by
  unfold rightB headB at h
  simp only [Bool.and_eq_true, decide_eq_true_eq] at h
  exact ⟨by omega, by omega, h.1.2⟩
theorem right_ok {pc words el : Int} {l : List Opr} (h : rightB pc words el l = true) {k : Nat} (hk : k < l.length) : OkP l k := by
  unfold rightB at h
  simp only [Bool.and_eq_true] at h
  exact okP_of (ops_at h.2 hk)
theorem foS_zero {pc words el : Int} {l : List Opr} (h : rightB pc words el l = true) : foS l 1 = (⟨[⟨14, 0, 0, 0, 0, pc⟩], fun _ _ => none, false⟩, [0]) := by
  have h0 := (right_first h).2.2
  show (if (Fo.nil).left = true then _ else _) = _
  rw [if_neg (by decide)]
  show (((Fo.nil).lay (toldO (opAt l 0) [])).1, [] ++ [((Fo.nil).lay (toldO (opAt l 0) [])).2]) = _
  rw [h0]
  rfl
theorem foOk_all {pc words el : Int} {l : List Opr} (h : rightB pc words el l = true) (hu : ∀ k, U64 (opAt l k).imm) : ∀ k, 0 < k → k ≤ l.length → (foS l (k - 1)).1.left = false → FoOk l k (foS l k).1 (foS l k).2
  | 0, h0, _, _ => absurd h0 (by decide)
  | 1, _, _, _ => by
    have h0 := (right_first h).2.2
    rw [foS_zero h]
    refine ⟨rfl, Nat.le_refl _, fun _ => by simp, fun i hi h32 => ?_, rfl, fun a r v e => (by cases e), fun _ => h0.symm, fun j => ?_⟩
    · obtain rfl : i = 0 := by omega
      rw [h0] at h32
      exact absurd h32 (by rw [show (Opr.kind ⟨14, 0, 0, 0, 0, pc⟩) = 14 from rfl, hp14_32]; decide)
    · have := hu 0
      rw [h0] at this
      exact u_snoc (l := []) (fun j => by rw [opAt_out (by simp)]; exact u_nil) this j
  | k + 2, _, hk, hl => by
    have hl : (foS l (k + 1)).1.left = false := hl
    have hl0 : (foS l k).1.left = false := by
      cases e : (foS l k).1.left with
      | false => rfl
      | true => rw [foS_stop e (k + 1) (by omega), e] at hl; exact hl
    have ih := foOk_all h hu (k + 1) (by omega) (by omega) hl0
    rw [foS_go hl]
    exact ih.lay (by omega) (hu _) (right_ok h (by omega))
end Go.Proofs.Ytilhjbhhgpoajaa
