/- What is known: reckon. -/
import Derived.Test.YtilhjbhhgpoajaaDoorUg
namespace Go.Proofs.YtilhjbhhgpoajaaDoor
open Go.RowKit
set_option linter.unusedVariables false
set_option linter.unusedSimpArgs false
set_option maxRecDepth 8000

theorem newAtO {o : Oper} (ho : o.op = .alloc 37) : RelT.NewAt Tryd.prog o := fun a w => by
  unfold execOp
  simp only [ho]
  go_simp
section
variable {G : Fh} {c : Nat} {S : Fo} {u : Value} {w : World}
set_option maxHeartbeats 4000000 in
theorem reckon_c (h : FoAt G c S u w) (o : Opr) (hl : S.laid.length ≤ 100000) (h0 : 0 ≤ o.a) (hA : o.a.toNat < S.laid.length) (h1 : 0 ≤ o.b) (hB : o.b.toNat < S.laid.length) (hU : ∀ k, U64 (opAt S.laid k).imm) : Calls Tryd.prog 37 #[ptr G.p 0, opV o] w fun e w' => e = .returned (vI (S.reckon o).2) ∧ FT G c (S.reckon o).1 u w w' := by
  obtain ⟨q, hq⟩ : ∃ q : Nat, o.a = q := ⟨o.a.toNat, by omega⟩
  obtain ⟨r, hr⟩ : ∃ r : Nat, o.b = r := ⟨o.b.toNat, by omega⟩
  have e0 : Hid (S.reckonO o = if (opAt S.laid q).kind = 1 ∧ (opAt S.laid r).kind = 1 then ⟨1, 0, 0, 0, 0, Alu.reckonV o.r (opAt S.laid q).imm (opAt S.laid r).imm⟩ else o) := by unfold Hid Fo.reckonO; rw [hq, hr, Int.toNat_natCast, Int.toNat_natCast]
  rw [hq, Int.toNat_natCast] at hA
  rw [hr, Int.toNat_natCast] at hB
  have hUq := hU q
  have hUr := hU r
  clear hU
  have hb := below_alloc w (.cells (opA o) 37)
  have L : LocO w.heap.size o (w.alloc (.cells (opA o) 37)) := LocO.new w o
  have apO : Apart G u w.heap.size := h.apart (Nat.le_refl _)
  have R := FM.from hb (h.grow hb).here
  have hsz : w.heap.size < (w.alloc (.cells (opA o) 37)).heap.size := by simp
  clear hb
  go_enter Tryd.func37, Tryd.ntmps37
  go_upto_region 1 with fail
  generalize w.alloc (.cells (opA o) 37) = w1 at *
  have hN : w.heap.size ≤ w1.heap.size := R.goes.size
  have apN : ∀ b, w1.heap.size ≤ b → Apart G u b := fun b hb => h.apart (Nat.le_trans hN hb)
  have hu : Rel.Up Rel.Grows (fun x => FM G c S u w u x ∧ LocO w.heap.size o x ∧ w1.heap.size ≤ x.heap.size) := fun x y hx hb => ⟨hx.1.grow hb, hx.2.1.grow hb, Nat.le_trans hx.2.2 hb.size⟩
  refine RelT.wp_region_two 16 14 15 5 6 Rel.Grows (fun x => FM G c S u w u x ∧ LocO w.heap.size o x ∧ w1.heap.size ≤ x.heap.size) [.inl (ptr G.p 0), .inl (ptr G.p 0), .inl (ptr G.p 2), .inl (.func (.func 27) #[] #[ptr G.v 0]), .inl (ptr w.heap.size 2), .inl (vI q), .inl (opV (opAt S.laid q)), .inl (ptr G.p 0), .inl (ptr G.p 0), .inl (ptr G.p 2), .inl (.func (.func 27) #[] #[ptr G.v 0]), .inl (ptr w.heap.size 3), .inl (vI r), .inl (opV (opAt S.laid r)), .inr (NewO w1.heap.size), .inr (NewO w1.heap.size)] (by kernel_rfl) (by kernel_rfl) hu ⟨R.grow (below_dr w1), L.grow (below_dr w1), Nat.le_refl _⟩ (by decide) (by decide) (by decide) rfl rfl (by simp) (by simp) (fun v w h => by obtain ⟨b, e, _, hb⟩ := (h : NewO w1.heap.size v w); exact ⟨b, e, lt_of_some hb⟩) (fun v w h => by obtain ⟨b, e, _, hb⟩ := (h : NewO w1.heap.size v w); exact ⟨b, e, lt_of_some hb⟩) (fun o ho => newAtO (by injection ho with e; rw [← e]; rfl)) (fun o ho => newAtO (by injection ho with e; rw [← e]; rfl)) (by intro k hk; simp only [List.mem_cons, List.not_mem_nil, or_false] at hk; rcases hk with rfl | rfl | rfl | rfl | rfl | rfl | rfl | rfl | rfl | rfl | rfl | rfl | rfl | rfl | rfl | rfl <;> first | trivial | exact newO_up) ?_
  refine ⟨fun w6 hC hF => by go_simp; exact Below.refl _ _, ?_⟩
  simp only [Act.put, List.setIfInBounds_toArray, List.set_cons_succ, List.set_cons_zero]
  refine ⟨fun w6 hC hF => by go_simp; exact Below.refl _ _, ?_⟩
  simp only [Act.put, List.setIfInBounds_toArray, List.set_cons_succ, List.set_cons_zero]
  refine ⟨fun w6 hC hF => by go_simp; exact Below.refl _ _, ?_⟩
  simp only [Act.put, List.setIfInBounds_toArray, List.set_cons_succ, List.set_cons_zero]
  refine ⟨fun w6 hC hF => by have zz := hC.1.at_.c2; go_simp; exact Below.refl _ _, ?_⟩
  simp only [Act.put, List.setIfInBounds_toArray, List.set_cons_succ, List.set_cons_zero]
  refine ⟨fun w6 hC hF => by go_simp; exact Below.refl _ _, ?_⟩
  simp only [Act.put, List.setIfInBounds_toArray, List.set_cons_succ, List.set_cons_zero]
  refine ⟨fun w6 hC hF => by have zz := (show w6.cell? ⟨w.heap.size, 2, none⟩ = some (vI q) by rw [hC.2.1.c2, hq]); go_simp; exact Below.refl _ _, ?_⟩
  simp only [Act.put, List.setIfInBounds_toArray, List.set_cons_succ, List.set_cons_zero]
  refine ⟨fun w6 hC hF => by (go_simp; refine (at_c hC.1.at_ hA hl).mono ?_; rintro e w7 ⟨rfl, B7⟩; exact ⟨rfl, B7⟩), ?_⟩
  simp only [Act.put, List.setIfInBounds_toArray, List.set_cons_succ, List.set_cons_zero]
  refine ⟨fun w6 hC hF => by go_simp; exact Below.refl _ _, ?_⟩
  simp only [Act.put, List.setIfInBounds_toArray, List.set_cons_succ, List.set_cons_zero]
  refine ⟨fun w6 hC hF => by go_simp; exact Below.refl _ _, ?_⟩
  simp only [Act.put, List.setIfInBounds_toArray, List.set_cons_succ, List.set_cons_zero]
  refine ⟨fun w6 hC hF => by go_simp; exact Below.refl _ _, ?_⟩
  simp only [Act.put, List.setIfInBounds_toArray, List.set_cons_succ, List.set_cons_zero]
  refine ⟨fun w6 hC hF => by have zz := hC.1.at_.c2; go_simp; exact Below.refl _ _, ?_⟩
  simp only [Act.put, List.setIfInBounds_toArray, List.set_cons_succ, List.set_cons_zero]
  refine ⟨fun w6 hC hF => by go_simp; exact Below.refl _ _, ?_⟩
  simp only [Act.put, List.setIfInBounds_toArray, List.set_cons_succ, List.set_cons_zero]
  refine ⟨fun w6 hC hF => by have zz := (show w6.cell? ⟨w.heap.size, 3, none⟩ = some (vI r) by rw [hC.2.1.c3, hr]); go_simp; exact Below.refl _ _, ?_⟩
  simp only [Act.put, List.setIfInBounds_toArray, List.set_cons_succ, List.set_cons_zero]
  refine ⟨fun w6 hC hF => by (go_simp; refine (at_c hC.1.at_ hB hl).mono ?_; rintro e w7 ⟨rfl, B7⟩; exact ⟨rfl, B7⟩), ?_⟩
  simp only [Act.put, List.setIfInBounds_toArray, List.set_cons_succ, List.set_cons_zero]
  refine ⟨fun w6 hC hF => by (go_simp; exact ⟨below_alloc _ _, w6.heap.size, rfl, hC.2.2, heap_alloc_new _ _⟩), fun v14 => ?_⟩
  simp only [Act.put, List.setIfInBounds_toArray, List.set_cons_succ, List.set_cons_zero]
  refine ⟨fun w6 hC hF => by (go_simp; exact ⟨below_alloc _ _, w6.heap.size, rfl, hC.2.2, heap_alloc_new _ _⟩), fun v15 => ?_⟩
  simp only [Act.put, List.setIfInBounds_toArray, List.set_cons_succ, List.set_cons_zero]
  intro w2 hC hF hne
  obtain ⟨b, rfl, hbN, hb⟩ := (hF 14).2.1 rfl
  obtain ⟨d, rfl, hdN, hd⟩ := (hF 15).1 rfl
  have hbd : b ≠ d := fun e => hne (by rw [e]; rfl)
  obtain ⟨R2, L2, hs2⟩ := hC
  have hwb : w.heap.size ≤ b := Nat.le_trans hN hbN
  have hwd : w.heap.size ≤ d := Nat.le_trans hN hdN
  have hlt := lt_of_some (show w1.heap[w.heap.size]? = _ from L)
  have hbo : w.heap.size ≠ b := fun e => by omega
  have hdo : w.heap.size ≠ d := fun e => by omega
  have L3 : LocO w.heap.size o ((w2.setRow b (opA (opAt S.laid q))).setRow d (opA (opAt S.laid r))) := by unfold LocO; rw [setRow_other _ _ _ _ hdo, setRow_other _ _ _ _ hbo]; exact L2
  have R3 := (R2.row hwb (apN b hbN) (opA (opAt S.laid q))).row hwd (apN d hdN) (opA (opAt S.laid r))
  have A3 : LocO b (opAt S.laid q) ((w2.setRow b (opA (opAt S.laid q))).setRow d (opA (opAt S.laid r))) := by unfold LocO; rw [setRow_other _ _ _ _ hbd]; exact setRow_heap _ _ _ _ _ _ hb
  have hd' : (w2.setRow b (opA (opAt S.laid q))).heap[d]? = some (.cells #[vI 0, vI 0, vI 0, vI 0, vI 0, vU 0] 37) := by rw [setRow_other _ _ _ _ (Ne.symm hbd)]; exact hd
  have B3 : LocO d (opAt S.laid r) ((w2.setRow b (opA (opAt S.laid q))).setRow d (opA (opAt S.laid r))) := setRow_heap _ _ _ _ _ _ hd'
  simp only [List.drop_succ_cons, List.drop_zero]
  clear R L hF hu h hne hs2 hlt L2 R2
  generalize opAt S.laid q = x at *
  generalize opAt S.laid r = y at *
  (with_reducible refine wpList_store_row rfl 37 _ _ rfl b (opA x) rfl rfl 37 _ hb (op_inf _) rfl (op_one _) ?_)
  simp only [Act.put, List.setIfInBounds_toArray, List.set_cons_succ, List.set_cons_zero]
  (with_reducible refine wpList_store_row rfl 37 _ _ rfl d (opA y) rfl rfl 37 _ hd' (op_inf _) rfl (op_one _) ?_)
  simp only [Act.put, List.setIfInBounds_toArray, List.set_cons_succ, List.set_cons_zero]
  generalize (w2.setRow b (opA x)).setRow d (opA y) = w3 at *
  clear hb hd hd' hbN hdN hbo hdo hN apN hsz hwb hwd hbd
  have y0 := A3.c0
  have y5 := A3.c5
  have x0 := B3.c0
  have x5 := B3.c5
  generalize w.heap.size = t1 at *
  have L : LocO t1 o w3 := L3
  have R := R3
  clear L3 R3
  by_cases hk : x.kind = 1 ∧ y.kind = 1
  · have e1 : Hid (S.reckonO o = ⟨1, 0, 0, 0, 0, Alu.reckonV o.r x.imm y.imm⟩) := by unfold Hid; rw [e0.out, if_pos hk]
    rw [hk.1] at y0
    rw [hk.2] at x0
    have yr := L.c1
    have kk := fun w => Alu.Reckon_c o.r x.imm y.imm hUq hUr w
    generalize Alu.reckonV o.r x.imm y.imm = V at *
    generalize Alu.kindE o.r = E at *
    clear e0 hk
    go_upto_region 5 with (go_at_call 43; (with_reducible refine (kk _).mono ?_); clear kk; rintro e w4 ⟨rfl, B4⟩; dsimp only)
    replace R := R.grow B4
    have z1 := R.at_.c1
    have kp := put_c R.at_ ⟨1, 0, 0, 0, 0, V⟩ hl
    clear B4 y0 y5 x0 x5 yr A3 B3 L
    go_wp2_with (first | ((with_reducible refine wpList_built rfl 37 _ rfl (opA ⟨1, 0, 0, 0, 0, V⟩) (by kernel_rfl) ?_); simp only [Act.put, List.setIfInBounds_toArray, List.set_cons_succ, List.set_cons_zero]) | (go_at_call 26; (with_reducible refine kp.mono ?_); clear kp; rintro e w9 ⟨rfl, u9, R9⟩; dsimp only))
    go_ret
    unfold Fo.reckon
    rw [e1.out]
    exact ⟨rfl, _, R.then R9⟩
  · have e1 : Hid (S.reckonO o = o) := by unfold Hid; rw [e0.out, if_neg hk]
    clear e0
    rcases (by by_cases hx : x.kind = 1; exact .inr ⟨hx, fun hy => hk ⟨hx, hy⟩⟩; exact .inl hx : x.kind ≠ 1 ∨ (x.kind = 1 ∧ y.kind ≠ 1)) with hx | ⟨hx, hy⟩
    · have b0 : (x.kind != 1) = true := by simp [hx]
      clear hk
      go_upto_region 3 with fail
      refine wp_region_still_tail 5 (by kernel_rfl) (by kernel_rfl) ?_
      replace R := R.grow (below_dr w3)
      replace L := L.grow (below_dr w3)
      generalize ({ w3 with drawn := w3.drawn + 1 } : World) = w4 at *
      have z1 := R.at_.c1
      have A4 := run_load42 L.at_
      simp only [List.take_succ_cons, List.take_zero, List.drop_succ_cons, List.drop_zero]
      repeat (first | still_step | ((with_reducible refine still_row rfl _ _ rfl rfl A4 ?_); simp only [Act.put, List.setIfInBounds_toArray, List.set_cons_succ, List.set_cons_zero]))
      refine wpStill_nil ?_
      have kp := put_c R.at_ (o) hl
      clear z1 A4
      clear y0 y5 x0 x5 A3 B3
      go_wp2_with (go_at_call 26; (with_reducible refine kp.mono ?_); clear kp; rintro e w9 ⟨rfl, u9, R9⟩; dsimp only)
      go_ret
      unfold Fo.reckon
      rw [e1.out]
      exact ⟨rfl, _, R.then R9⟩
    · have b0 : (y.kind != 1) = true := by simp [hy]
      clear hk
      rw [hx] at y0
      go_upto_region 3 with fail
      refine wp_region_still_tail 5 (by kernel_rfl) (by kernel_rfl) ?_
      replace R := R.grow (below_dr w3)
      replace L := L.grow (below_dr w3)
      generalize ({ w3 with drawn := w3.drawn + 1 } : World) = w4 at *
      have z1 := R.at_.c1
      have A4 := run_load42 L.at_
      simp only [List.take_succ_cons, List.take_zero, List.drop_succ_cons, List.drop_zero]
      repeat (first | still_step | ((with_reducible refine still_row rfl _ _ rfl rfl A4 ?_); simp only [Act.put, List.setIfInBounds_toArray, List.set_cons_succ, List.set_cons_zero]))
      refine wpStill_nil ?_
      have kp := put_c R.at_ (o) hl
      clear z1 A4
      clear y0 y5 x0 x5 A3 B3
      go_wp2_with (go_at_call 26; (with_reducible refine kp.mono ?_); clear kp; rintro e w9 ⟨rfl, u9, R9⟩; dsimp only)
      go_ret
      unfold Fo.reckon
      rw [e1.out]
      exact ⟨rfl, _, R.then R9⟩
end
end Go.Proofs.YtilhjbhhgpoajaaDoor
