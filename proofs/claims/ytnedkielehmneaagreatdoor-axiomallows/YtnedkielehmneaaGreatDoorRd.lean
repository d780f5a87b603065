/- New, Has, Add. -/
import Derived.Test.YtnedkielehmneaaGreatDoorRc
namespace Go.Proofs.YtnedkielehmneaaGreatDoor
open Go.RowKit
set_option linter.unusedVariables false
set_option linter.unusedSimpArgs false
set_option maxRecDepth 8000

theorem chn_store {o : Oper} {a : Act} {w w2 : World} {C : World → Prop} (ty : TypeId) (x y : Operand) (ho : o.op = .store ty x y) (b k : Nat) (hx : a.eval x = .pointer (some ⟨b, k, none⟩)) (v : Value) (hy : a.eval y = v) (hrun : (storeVar ty ⟨b, k, none⟩ v).run Tryz.prog w = .ok () w2) (hC : C w2) :
    Chn.upon Tryz.prog (fun v w' => v = undef ∧ C w') w ((execOp a.eval o).run Tryz.prog w) := by
  unfold execOp
  simp only [ho, hx, hy, Instr.storeAt, Instr.sureAddr, Sem.run_bind, Sem.run_pure, Result.andThen_ok, hrun]
  exact ⟨rfl, hC⟩
theorem run_cell (w : World) (ty : TypeId) (b k : Nat) (v old : Value) (hi : (Tryz.prog.info? ty).map (·.size) = some 1) (hv : v.oneCell' = true) (hv2 : v.cells = #[v]) (hc : w.cell? ⟨b, k, none⟩ = some old) (hf : w.frozen? ⟨b, k, none⟩ = false) : (storeVar ty ⟨b, k, none⟩ v).run Tryz.prog w = .ok () (w.setCell ⟨b, k, none⟩ v) := by
  have hst : (store ⟨b, k, none⟩ v .plain).run Tryz.prog w = .ok () (w.setCell ⟨b, k, none⟩ v) := by
    rw [run_store Tryz.prog w _ _ _ hv, hc, hf]; rfl
  cases hq : Tryz.prog.info? ty with
  | none => simp [hq] at hi
  | some i =>
    have hs : i.size = 1 := by simpa [hq] using hi
    have hadd : (⟨b, k, none⟩ : Addr).add 0 = ⟨b, k, none⟩ := by unfold Addr.add; split <;> simp_all
    simp [storeVar, sizeOf, typeInfo, hq, hs, hv2, storeCells, hadd, hst]
theorem inf67 : (Tryz.prog.info? 94).map (·.size) = some 1 := by kernel_rfl
theorem RowAt.run67 {r n : Nat} {f : Nat → Nat} {w : World} (H : RowAt r n f w) {j : Nat} (hj : j < 64) (x : Nat) : (storeVar 94 ⟨r, 1 + j, none⟩ (vU x)).run Tryz.prog w = .ok () (w.setCell ⟨r, 1 + j, none⟩ (vU x)) :=
  run_cell w 94 r (1 + j) _ _ inf67 rfl rfl (H.cell hj) (H.frz _)
/-- A thing? -/
def inB (n : Nat) (x : Int) : Bool := decide (0 ≤ x) && decide (x < n)
theorem inB_nat {n : Nat} {x : Int} (h : inB n x = true) : ∃ k : Nat, x = k ∧ k < n := by
  simp only [inB, Bool.and_eq_true, decide_eq_true_eq] at h
  exact ⟨x.toNat, by omega, by omega⟩
def newE (n : Int) : Int := if n < 0 then 1 else if n > 64 then 5 else 0
theorem new_bad {n : Int} (h : newE n ≠ 0) (w : World) : Calls Tryz.prog 142 #[vI n] w fun e w' => e = .returned (.tuple #[.pointer none, vI (newE n)]) ∧ w' = w := by
  unfold newE at *
  by_cases h1 : n < 0
  · rw [if_pos h1]
    clear h
    go_enter Tryz.func142, Tryz.ntmps142
    go_wp2
    go_ret2
    exact ⟨rfl, rfl⟩
  · rw [if_neg h1] at h ⊢
    by_cases h2 : n > 64
    · rw [if_pos h2]
      clear h
      go_enter Tryz.func142, Tryz.ntmps142
      go_wp2
      go_ret2
      exact ⟨rfl, rfl⟩
    · rw [if_neg h2] at h
      exact absurd rfl h
theorem new_nat {n : Int} (h : newE n = 0) : ∃ m : Nat, n = m ∧ m ≤ 64 := by
  unfold newE at h
  by_cases h1 : n < 0
  · rw [if_pos h1] at h; cases h
  · rw [if_neg h1] at h
    by_cases h2 : n > 64
    · rw [if_pos h2] at h; cases h
    · exact ⟨n.toNat, by omega, by omega⟩
theorem new_ok {m : Nat} (h : m ≤ 64) (w : World) : Calls Tryz.prog 142 #[vI m] w fun e w' => ∃ r : Nat, e = .returned (.tuple #[ptr r 0, vI 0]) ∧ RelAt r m (fun _ _ => false) w' ∧ w.heap.size ≤ r ∧ Below w.heap.size w w' := by
  go_enter Tryz.func142, Tryz.ntmps142
  go_wp2_with (first | (with_reducible refine wpList_new70 rfl _ rfl m rfl ?_; simp only [Act.put, List.setIfInBounds_toArray, List.set_cons_succ, List.set_cons_zero]) | (with_reducible refine wpList_box70 rfl _ rfl m (fun _ => 0) rfl ?_; intro w1 hR hB hsz; simp only [Act.put, List.setIfInBounds_toArray, List.set_cons_succ, List.set_cons_zero]))
  go_ret2
  exact ⟨w.heap.size, rfl, ⟨hR.congr fun a _ => (rwd_eq (by decide) (fun b _ => by simp)).symm, Rlw.fits_no m, h⟩, Nat.le_refl _, hB⟩
def AddC (r a n : Nat) (f : Nat → Nat) (x : Nat) (w : World) : Nat → World → Prop
  | 0, w' => Below w.heap.size w w'
  | 1, w' => RowAt r n (up f a x) w' ∧ Goes (fun k => k = r) w w'
  | _, _ => False
theorem addC_row {r a n : Nat} {R : Nat → Nat → Bool} {x : Nat} {w w1 : World} (H : RelAt r n R w) {j : Nat} (hj : j ≤ 0) (hC : AddC r a n (rwd R) x w j w1) : RowAt r n (rwd R) w1 := by
  obtain rfl : j = 0 := by omega
  exact H.row.grow hC
theorem rwd_add {R : Nat → Nat → Bool} {a b x : Nat} (hb : b < 64) : up (rwd R) a (rwd R a ||| 2 ^ b) x = rwd (Rlw.addR R a b) x := by
  have hp : 2 ^ b < 2 ^ 64 := Nat.pow_lt_pow_right (by decide) hb
  unfold up
  by_cases e : x = a
  · subst e
    rw [if_pos rfl]
    refine (rwd_eq (Nat.or_lt_two_pow (rwd_lt R x) hp) fun c hc => ?_).symm
    rw [Nat.testBit_or, rwd_test, Nat.testBit_two_pow, decide_eq_true hc]
    simp [Rlw.addR, eq_comm]
  · rw [if_neg e]
    refine rwd_eq (v := rwd R x) (rwd_lt R x) (fun c hc => ?_) |>.symm
    rw [rwd_test, decide_eq_true hc]
    simp [Rlw.addR, e]
/-- What a call does to a relation. -/
def RT (r n : Nat) (R : Nat → Nat → Bool) (w w' : World) : Prop := RelAt r n R w' ∧ Goes (fun k => k = r) w w'
/-- What Add does. -/
def AddP (r n : Nat) (R : Nat → Nat → Bool) (x y : Int) (w : World) (e : Ending) (w' : World) : Prop := (inB n x && inB n y) = false ∧ e = .returned (vI 1) ∧ w' = w ∨ (inB n x && inB n y) = true ∧ e = .returned (vI 0) ∧ RT r n (Rlw.addR R x.toNat y.toNat) w w'
theorem radd_c {r n : Nat} {R : Nat → Nat → Bool} {w : World} (H : RelAt r n R w) (x y : Int) : Calls Tryz.prog 135 #[ptr r 0, vI x, vI y] w fun e w' => AddP r n R x y w e w' := by
  have k1 := hasThing_c H.row x
  have k2 := hasThing_c H.row y
  change Calls Tryz.prog 143 #[ptr r 0, vI x] w fun e w' => e = .returned (.bool (inB n x)) ∧ w' = w at k1
  change Calls Tryz.prog 143 #[ptr r 0, vI y] w fun e w' => e = .returned (.bool (inB n y)) ∧ w' = w at k2
  cases h1 : inB n x with
  | false =>
    rw [h1] at k1
    clear k2
    go_enter Tryz.func135, Tryz.ntmps135
    go_wp2_with (first | (go_at_call 143; refine k1.mono ?_; clear k1; rintro e w ⟨rfl, rfl⟩; dsimp only))
    go_ret
    exact .inl ⟨by rw [h1]; rfl, rfl, rfl⟩
  | true =>
    rw [h1] at k1
    cases h2 : inB n y with
    | false =>
      rw [h2] at k2
      go_enter Tryz.func135, Tryz.ntmps135
      go_wp2_with (first | (go_at_call 143; with_reducible refine k1.mono ?_; clear k1; rintro e w ⟨rfl, rfl⟩; dsimp only) | (go_at_call 143; with_reducible refine k2.mono ?_; clear k2; rintro e w ⟨rfl, rfl⟩; dsimp only))
      go_ret
      exact .inl ⟨by rw [h1, h2]; rfl, rfl, rfl⟩
    | true =>
      rw [h2] at k2
      obtain ⟨a, rfl, ha⟩ := inB_nat h1
      obtain ⟨b, rfl, hb⟩ := inB_nat h2
      have hle := H.le
      have ha2 : (a : Int) < 64 := by omega
      have h12 : (inB n a && inB n b) = true := by rw [h1, h2]; rfl
      clear h1 h2
      go_enter Tryz.func135, Tryz.ntmps135
      go_upto_region 2 with (first | (go_at_call 143; with_reducible refine k1.mono ?_; clear k1; rintro e w ⟨rfl, rfl⟩; dsimp only) | (go_at_call 143; with_reducible refine k2.mono ?_; clear k2; rintro e w ⟨rfl, rfl⟩; dsimp only))
      have hst : (AddC r a n (rwd R) (rwd R a ||| 2 ^ b) w) 0 { w with drawn := w.drawn + 1 } := Rel.below_draws (n := 1) (Below.refl _ _)
      refine Chn.wp_region_chainL (AddC r a n (rwd R) (rwd R a ||| 2 ^ b) w) [13] [1, 1, 1, 1, 1, 1, 1, 0, 1, 1, 1, 1, 1, 1] [ptr r 0, vI a, ptr r 0, vI a, ptr r 0, ptr r 1, ptr r (1 + a), vU (rwd R a), vI b, vU ((rwd R a ||| 2 ^ b : Nat) : Int), ptr r 0, ptr r 1, ptr r (1 + a), undef] (by kernel_rfl) (by kernel_rfl) (by kernel_rfl) (by kernel_rfl) (by kernel_rfl) hst ?_
      clear hst
      refine ⟨fun j w1 hj hC => by exact Chn.upon_pure hC (fun F hF => by (go_simp <;> exact hF)), ?_⟩
      simp only [Act.put, List.setIfInBounds_toArray, List.set_cons_succ, List.set_cons_zero]
      refine ⟨fun j w1 hj hC => by exact Chn.upon_pure hC (fun F hF => by (go_simp <;> exact hF)), ?_⟩
      simp only [Act.put, List.setIfInBounds_toArray, List.set_cons_succ, List.set_cons_zero]
      refine ⟨fun j w1 hj hC => by exact Chn.upon_pure hC (fun F hF => by (go_simp <;> exact hF)), ?_⟩
      simp only [Act.put, List.setIfInBounds_toArray, List.set_cons_succ, List.set_cons_zero]
      refine ⟨fun j w1 hj hC => by exact Chn.upon_pure hC (fun F hF => by (go_simp <;> exact hF)), ?_⟩
      simp only [Act.put, List.setIfInBounds_toArray, List.set_cons_succ, List.set_cons_zero]
      refine ⟨fun j w1 hj hC => by exact Chn.upon_pure hC (fun F hF => by (go_simp <;> exact hF)), ?_⟩
      simp only [Act.put, List.setIfInBounds_toArray, List.set_cons_succ, List.set_cons_zero]
      refine ⟨fun j w1 hj hC => by exact Chn.upon_pure hC (fun F hF => by (go_simp <;> exact hF)), ?_⟩
      simp only [Act.put, List.setIfInBounds_toArray, List.set_cons_succ, List.set_cons_zero]
      refine ⟨fun j w1 hj hC => by exact Chn.upon_pure hC (fun F hF => by (go_simp <;> exact hF)), ?_⟩
      simp only [Act.put, List.setIfInBounds_toArray, List.set_cons_succ, List.set_cons_zero]
      refine ⟨fun j w1 hj hC => by
        have z := (addC_row H hj hC).cell (a := a) (by omega)
        exact Chn.upon_pure hC (fun F hF => by (go_simp <;> exact hF)), ?_⟩
      simp only [Act.put, List.setIfInBounds_toArray, List.set_cons_succ, List.set_cons_zero]
      refine ⟨fun j w1 hj hC => by exact Chn.upon_pure hC (fun F hF => by (go_simp <;> exact hF)), ?_⟩
      simp only [Act.put, List.setIfInBounds_toArray, List.set_cons_succ, List.set_cons_zero]
      refine ⟨fun j w1 hj hC => by
        exact Chn.upon_call (C := (AddC r a n (rwd R) (rwd R a ||| 2 ^ b) w) j) (with_c (rwd R a) b (rwd_lt R a) (by omega) w1) (fun e2 w2 hh => ⟨hh.1, by rw [hh.2]; exact hC⟩) (fun F hF => by (go_simp <;> exact hF)), ?_⟩
      simp only [Act.put, List.setIfInBounds_toArray, List.set_cons_succ, List.set_cons_zero]
      refine ⟨fun j w1 hj hC => by exact Chn.upon_pure hC (fun F hF => by (go_simp <;> exact hF)), ?_⟩
      simp only [Act.put, List.setIfInBounds_toArray, List.set_cons_succ, List.set_cons_zero]
      refine ⟨fun j w1 hj hC => by exact Chn.upon_pure hC (fun F hF => by (go_simp <;> exact hF)), ?_⟩
      simp only [Act.put, List.setIfInBounds_toArray, List.set_cons_succ, List.set_cons_zero]
      refine ⟨fun j w1 hj hC => by exact Chn.upon_pure hC (fun F hF => by (go_simp <;> exact hF)), ?_⟩
      simp only [Act.put, List.setIfInBounds_toArray, List.set_cons_succ, List.set_cons_zero]
      refine ⟨fun w1 hC => by
        exact chn_store (C := (AddC r a n (rwd R) (rwd R a ||| 2 ^ b) w) 1) 94 _ _ rfl r (1 + a) rfl (vU ((rwd R a ||| 2 ^ b : Nat) : Int)) rfl ((H.row.grow hC).run67 (j := a) (by omega) _) (⟨(H.row.grow hC).put (j := a) (by omega) _, (goes_of_below hC).trans (goes_setCell w1 (F := fun k => k = r) rfl _ _) (fun _ _ h => h)⟩), ?_⟩
      simp only [Act.put, List.setIfInBounds_toArray, List.set_cons_succ, List.set_cons_zero]
      intro w5 hC
  
      obtain ⟨hR, hG⟩ := (show _ ∧ _ from hC)
      go_wp2
      go_ret
      exact .inr ⟨h12, rfl, ⟨hR.congr fun c _ => rwd_add (by omega), H.fit.add ha hb, hle⟩, hG⟩
end Go.Proofs.YtnedkielehmneaaGreatDoor
