/- Closed, Loop. -/
import Derived.Test.YtnedkielehmneaaGreatDoorRh
namespace Go.Proofs.YtnedkielehmneaaGreatDoor
open Go.RowKit
set_option linter.unusedVariables false
set_option linter.unusedSimpArgs false
set_option maxRecDepth 8000

theorem wpList_alloc {P : Program} {ops : Array Oper} {rest : List Oper} {o : Oper} {a : Act} {w : World} {Q : Exit → Act → World → Prop} (hg : o.guard = none) (t : TypeId) (ho : o.op = .alloc t) (cs : Array Value) (hz : (P.info? t).map (·.zero) = some (some (.agg cs)))
    (h : wpList P ops Q rest (a.put o.dst (ptr w.heap.size 0)) (w.alloc (.cells cs t))) : wpList P ops Q (o :: rest) a w :=
  wpList_plain hg fun _ hK => by
    unfold Oper.wp execOp
    cases hq : P.info? t with
    | none => rw [hq] at hz; cases hz
    | some i =>
      rw [hq] at hz
      have h1 : i.zero = some (.agg cs) := by simpa using hz
      have hr : (Instr.alloc t true (.tuple #[])).run P w = .ok (ptr w.heap.size 0) (w.alloc (.cells cs t)) := by
        simp [Instr.alloc, zeroValue, typeInfo, hq, h1, newVar, newRow, run_newObj_alloc, Value.cells]
      simp only [ho, Sem.run_bind, hr, Result.andThen_ok]
      exact hK _ _ h
theorem one70 (n : Nat) (f : Nat → Nat) : (vI n :: rl f).toArray.all (·.oneCell') = true := all_oneCell_toArray fun v hv => by
  rcases List.mem_cons.1 hv with rfl | hv
  · rfl
  · obtain ⟨a, _, rfl⟩ := List.mem_map.1 hv; rfl
theorem one68 (f : Nat → Nat) : (rl f).toArray.all (·.oneCell') = true := all_oneCell_toArray fun v hv => by
  obtain ⟨a, _, rfl⟩ := List.mem_map.1 hv; rfl
theorem wpList_copy70 {ops : Array Oper} {rest : List Oper} {o : Oper} {a : Act} {w : World} {Q : Exit → Act → World → Prop} (hg : o.guard = none) (ho : o.op = .alloc 97)
    (h : ∀ w', RowAt w.heap.size 0 (fun _ => 0) w' → Below w.heap.size w w' → w'.heap.size = w.heap.size + 1 → wpList Tryz.prog ops Q rest (a.put o.dst (ptr w.heap.size 0)) w') : wpList Tryz.prog ops Q (o :: rest) a w :=
  wpList_alloc hg 97 ho (vI 0 :: rl (fun _ => 0)).toArray (by kernel_rfl) (h _ (World.alloc_heap_new w _) (below_alloc _ _) (World.size_alloc _ _))
theorem wpList_store70 {ops : Array Oper} {rest : List Oper} {o : Oper} {a : Act} {w : World} {Q : Exit → Act → World → Prop} (hg : o.guard = none) (x y : Operand) (ho : o.op = .store 97 x y) {q m : Nat} {g : Nat → Nat} (hx : a.eval x = ptr q 0) (H : RowAt q m g w) (n : Nat) (f : Nat → Nat) (hy : a.eval y = .agg (vI n :: rl f).toArray)
    (h : ∀ w', RowAt q n f w' → Goes (fun k => k = q) w w' → w'.heap.size = w.heap.size → wpList Tryz.prog ops Q rest (a.put o.dst undef) w') : wpList Tryz.prog ops Q (o :: rest) a w :=
  wpList_store_row hg 97 x y ho q _ hx hy 97 _ H (by simp only [List.size_toArray, List.length_cons, rl_len]; kernel_rfl) (by simp [rl_len]) (one70 n f) (h _ (setRow_heap _ _ _ _ _ _ H) (goes_setRow w (F := fun k => k = q) rfl _) (by simp))
theorem wpList_load70 {ops : Array Oper} {rest : List Oper} {o : Oper} {a : Act} {w : World} {Q : Exit → Act → World → Prop} (hg : o.guard = none) (x : Operand) (ho : o.op = .load 97 x) {r n : Nat} {f : Nat → Nat} (hx : a.eval x = .pointer (some ⟨r, 0, none⟩)) (H : RowAt r n f w)
    (h : wpList Tryz.prog ops Q rest (a.put o.dst (.agg (vI n :: rl f).toArray)) w) : wpList Tryz.prog ops Q (o :: rest) a w :=
  wpList_load_mid hg 97 x ho r 0 hx (vI n :: rl f) _ (fun j v hv => by
    rw [Nat.zero_add, cell_of_row _ _ _ _ _ _ H]; simpa using hv) Tryz.underlying97 rfl (by rw [List.length_cons, rl_len]; kernel_rfl) h
theorem wpList_new68 {ops : Array Oper} {rest : List Oper} {o : Oper} {a : Act} {w : World} {Q : Exit → Act → World → Prop} (hg : o.guard = none) (ho : o.op = .alloc 95)
    (h : ∀ w', ArrAt w.heap.size (fun _ => 0) w' → Below w.heap.size w w' → w'.heap.size = w.heap.size + 1 → wpList Tryz.prog ops Q rest (a.put o.dst (ptr w.heap.size 0)) w') : wpList Tryz.prog ops Q (o :: rest) a w :=
  wpList_alloc hg 95 ho (rl (fun _ => 0)).toArray (by kernel_rfl) (h _ (World.alloc_heap_new w _) (below_alloc _ _) (World.size_alloc _ _))
theorem wpList_store68 {ops : Array Oper} {rest : List Oper} {o : Oper} {a : Act} {w : World} {Q : Exit → Act → World → Prop} (hg : o.guard = none) (x y : Operand) (ho : o.op = .store 95 x y) {q : Nat} {g : Nat → Nat} (hx : a.eval x = ptr q 0) (H : ArrAt q g w) (f : Nat → Nat) (hy : a.eval y = .agg (rl f).toArray)
    (h : ∀ w', ArrAt q f w' → Goes (fun k => k = q) w w' → w'.heap.size = w.heap.size → wpList Tryz.prog ops Q rest (a.put o.dst undef) w') : wpList Tryz.prog ops Q (o :: rest) a w :=
  wpList_store_row hg 95 x y ho q _ hx hy 95 _ H (by simp only [List.size_toArray, rl_len]; kernel_rfl) (by simp [rl_len]) (one68 f) (h _ (setRow_heap _ _ _ _ _ _ H) (goes_setRow w (F := fun k => k = q) rfl _) (by simp))
/-- Warshall's rows, within a round: those below a have had their turn. -/
def midR (R : Nat → Nat → Bool) (k a : Nat) : Nat → Nat → Bool := fun x y => if x < a then Rlw.war R (k + 1) x y else Rlw.war R k x y
theorem midR_zero (R : Nat → Nat → Bool) (k : Nat) : midR R k 0 = Rlw.war R k := by funext x y; simp [midR]
theorem midR_k (R : Nat → Nat → Bool) (k a y : Nat) : midR R k a k y = Rlw.war R k k y := by
  unfold midR
  split
  · show (Rlw.war R k k y || (Rlw.war R k k k && Rlw.war R k k y)) = _
    cases Rlw.war R k k y <;> simp
  · rfl
theorem midR_a (R : Nat → Nat → Bool) (k a y : Nat) : midR R k a a y = Rlw.war R k a y := by simp [midR]
theorem midR_fits {n : Nat} {R : Nat → Nat → Bool} (h : Rlw.Fits n R) (k a : Nat) : Rlw.Fits n (midR R k a) := fun x y e => by
  unfold midR at e
  split at e
  · exact h.wa (k + 1) x y e
  · exact h.wa k x y e
theorem midR_end {n : Nat} {R : Nat → Nat → Bool} (h : Rlw.Fits n R) (k : Nat) : midR R k n = Rlw.war R (k + 1) := by
  funext x y
  unfold midR
  split
  · rfl
  · rename_i hx
    cases e : Rlw.war R (k + 1) x y with
    | true => exact absurd (h.wa (k + 1) x y e).1 hx
    | false =>
      cases e2 : Rlw.war R k x y with
      | false => rfl
      | true => exact absurd (h.wa k x y e2).1 hx
theorem midR_no {R : Nat → Nat → Bool} {k a : Nat} (h : Rlw.war R k a k = false) : midR R k (a + 1) = midR R k a := by
  funext x y
  unfold midR
  by_cases e : x = a
  · subst e
    rw [if_pos (by omega), if_neg (by omega)]
    show (Rlw.war R k x y || (Rlw.war R k x k && Rlw.war R k k y)) = _
    rw [h]; simp
  · by_cases h1 : x < a
    · rw [if_pos (by omega), if_pos h1]
    · rw [if_neg (by omega), if_neg h1]
theorem midR_yes {R : Nat → Nat → Bool} {k a : Nat} (h : Rlw.war R k a k = true) (x : Nat) : up (rwd (midR R k a)) a (rwd (midR R k a) a ||| rwd (midR R k a) k) x = rwd (midR R k (a + 1)) x := by
  unfold up
  by_cases e : x = a
  · subst e
    rw [if_pos rfl]
    refine (rwd_eq (Nat.or_lt_two_pow (rwd_lt _ _) (rwd_lt _ _)) fun b hb => ?_).symm
    rw [Nat.testBit_or, rwd_test, rwd_test, decide_eq_true hb, midR_a, midR_k]
    have e1 : midR R k (x + 1) x b = Rlw.war R (k + 1) x b := by simp [midR]
    rw [e1]
    show (Rlw.war R k x b || (Rlw.war R k x k && Rlw.war R k k b)) = _
    rw [h]; simp
  · rw [if_neg e]
    unfold rwd
    congr 1
    funext y
    unfold midR
    by_cases h1 : x < a
    · rw [if_pos h1, if_pos (by omega)]
    · rw [if_neg h1, if_neg (by omega)]
set_option maxHeartbeats 2000000 in
theorem closed_c {r n : Nat} {R : Nat → Nat → Bool} {w : World} (H : RelAt r n R w) : Calls Tryz.prog 100 #[ptr r 0] w fun e w' => ∃ q, e = .returned (ptr q 0) ∧ RelAt q n (Rlw.war R n) w' ∧ w.heap.size ≤ q ∧ Below w.heap.size w w' := by
  have H4 := H.row
  have hle := H.le
  have hrl := H.lt
  go_enter Tryz.func100, Tryz.ntmps100
  go_upto_region 2 with (first | (with_reducible refine wpList_load70 rfl _ rfl rfl H4 ?_; simp only [Act.put, List.setIfInBounds_toArray, List.set_cons_succ, List.set_cons_zero]) | (with_reducible refine wpList_copy70 rfl rfl ?_; intro w1 hR1 hB1 hsz1; simp only [Act.put, List.setIfInBounds_toArray, List.set_cons_succ, List.set_cons_zero]) | (with_reducible refine wpList_store70 rfl _ _ rfl rfl hR1 n (rwd R) rfl ?_; intro w2 hR2 hG2 hsz2; simp only [Act.put, List.setIfInBounds_toArray, List.set_cons_succ, List.set_cons_zero]))
  have hB2 : Below w.heap.size w w2 := hB1.trans (hG2.below (by omega) (fun k hk => by omega))
  have hQ : RowAt w.heap.size n (rwd (midR R 0 0)) w2 := by rw [midR_zero]; exact hR2
  have c0 := (H4.grow hB2).c0
  clear hR1 hR2 hG2 hB1
  go_wp2
  clear c0
  go_loopw [13] (fun s13 wr => ∃ k : Nat, k ≤ n ∧ s13 = vI k ∧ Hid (RowAt w.heap.size n (rwd (midR R k 0)) wr ∧ Below w.heap.size w wr)) (fun s13 _ => 64 - (intOf s13).toNat)
  case atStart => exact ⟨0, Nat.zero_le _, rfl, hQ, hB2⟩
  case round =>
    obtain ⟨k, hk, rfl, hH⟩ := hrel
    obtain ⟨hRk, hBk⟩ := hH.out
    clear hH
    by_cases hlt : (k : Int) < n
    · have c0 := (H4.grow hBk).c0
      go_wp2
      clear c0
      go_loopw [20] (fun s20 wr => ∃ a : Nat, a ≤ n ∧ s20 = vI a ∧ Hid (RowAt w.heap.size n (rwd (midR R k a)) wr ∧ Below w.heap.size w wr)) (fun s20 _ => 64 - (intOf s20).toNat)
      case atStart => exact ⟨0, Nat.zero_le _, rfl, hRk, hBk⟩
      case round =>
        clear hRk hBk
        obtain ⟨a, ha, rfl, hH⟩ := hrel
        obtain ⟨hRa, hBa⟩ := hH.out
        clear hH
        by_cases hla : (a : Int) < n
        · have ca := hRa.cell (a := a) (by omega)
          have ha64 : (a : Int) < 64 := by omega
          have hh := has_c (rwd (midR R k a) a) k (rwd_lt _ _) (by omega) wr
          have e1 : (rwd (midR R k a) a).testBit k = Rlw.war R k a k := by rw [rwd_test, decide_eq_true (by omega : k < 64), Bool.true_and, midR_a]
          rw [e1] at hh
          cases hw : Rlw.war R k a k with
          | false =>
            rw [hw] at hh
            go_wp2_with (first | (go_at_call 101; with_reducible refine hh.mono ?_; rintro e wr ⟨rfl, rfl⟩; dsimp only))
            go_roundw
            case rel => exact ⟨a + 1, by omega, by go_num, by rw [midR_no hw]; exact ⟨hRa, hBa⟩⟩
            case measure => simp [intOf]; omega
          | true =>
            rw [hw] at hh
            go_upto_region 9 with (first | (go_at_call 101; with_reducible refine hh.mono ?_; rintro e wr ⟨rfl, rfl⟩; dsimp only))
            clear ca hh
            have hk64 : (k : Int) < 64 := by omega
            have hst : (StC wr (fun w1 => RowAt w.heap.size n (rwd (midR R k (a + 1))) w1 ∧ Below w.heap.size w w1)) 0 { wr with drawn := wr.drawn + 1 } := Rel.below_draws (n := 1) (Below.refl _ _)
            refine Chn.wp_region_chainL (StC wr (fun w1 => RowAt w.heap.size n (rwd (midR R k (a + 1))) w1 ∧ Below w.heap.size w w1)) [11] [1, 1, 1, 0, 1, 1, 1, 0, 1, 1, 1, 1] [vI a, ptr w.heap.size 1, ptr w.heap.size (1 + a), vU (rwd (midR R k a) a), vI k, ptr w.heap.size 1, ptr w.heap.size (1 + k), vU (rwd (midR R k a) k), vU ((rwd (midR R k a) a ||| rwd (midR R k a) k : Nat) : Int), ptr w.heap.size 1, ptr w.heap.size (1 + a), undef] (by kernel_rfl) (by kernel_rfl) (by kernel_rfl) (by kernel_rfl) (by kernel_rfl) hst ?_
            clear hst
            refine ⟨fun j w1 hj hC => by exact Chn.upon_pure hC (fun F hF => by (go_simp <;> exact hF)), ?_⟩
            simp only [Act.put, List.setIfInBounds_toArray, List.set_cons_succ, List.set_cons_zero]
            refine ⟨fun j w1 hj hC => by exact Chn.upon_pure hC (fun F hF => by (go_simp <;> exact hF)), ?_⟩
            simp only [Act.put, List.setIfInBounds_toArray, List.set_cons_succ, List.set_cons_zero]
            refine ⟨fun j w1 hj hC => by exact Chn.upon_pure hC (fun F hF => by (go_simp <;> exact hF)), ?_⟩
            simp only [Act.put, List.setIfInBounds_toArray, List.set_cons_succ, List.set_cons_zero]
            refine ⟨fun j w1 hj hC => by
              have z := (hRa.grow (stC_low hj hC)).cell (a := a) (by omega)
              exact Chn.upon_pure hC (fun F hF => by (go_simp <;> exact hF)), ?_⟩
            simp only [Act.put, List.setIfInBounds_toArray, List.set_cons_succ, List.set_cons_zero]
            refine ⟨fun j w1 hj hC => by exact Chn.upon_pure hC (fun F hF => by (go_simp <;> exact hF)), ?_⟩
            simp only [Act.put, List.setIfInBounds_toArray, List.set_cons_succ, List.set_cons_zero]
            refine ⟨fun j w1 hj hC => by exact Chn.upon_pure hC (fun F hF => by (go_simp <;> exact hF)), ?_⟩
            simp only [Act.put, List.setIfInBounds_toArray, List.set_cons_succ, List.set_cons_zero]
            refine ⟨fun j w1 hj hC => by exact Chn.upon_pure hC (fun F hF => by (go_simp <;> exact hF)), ?_⟩
            simp only [Act.put, List.setIfInBounds_toArray, List.set_cons_succ, List.set_cons_zero]
            refine ⟨fun j w1 hj hC => by
              have z := (hRa.grow (stC_low hj hC)).cell (a := k) (by omega)
              exact Chn.upon_pure hC (fun F hF => by (go_simp <;> exact hF)), ?_⟩
            simp only [Act.put, List.setIfInBounds_toArray, List.set_cons_succ, List.set_cons_zero]
            refine ⟨fun j w1 hj hC => by exact Chn.upon_int hC _ (Bit.or_bit (rwd_lt _ _) (rwd_lt _ _)) (fun F hF => by (go_simp <;> exact hF)), ?_⟩
            simp only [Act.put, List.setIfInBounds_toArray, List.set_cons_succ, List.set_cons_zero]
            refine ⟨fun j w1 hj hC => by exact Chn.upon_pure hC (fun F hF => by (go_simp <;> exact hF)), ?_⟩
            simp only [Act.put, List.setIfInBounds_toArray, List.set_cons_succ, List.set_cons_zero]
            refine ⟨fun j w1 hj hC => by exact Chn.upon_pure hC (fun F hF => by (go_simp <;> exact hF)), ?_⟩
            simp only [Act.put, List.setIfInBounds_toArray, List.set_cons_succ, List.set_cons_zero]
            refine ⟨fun w1 hC => by
              exact chn_store (C := (StC wr (fun w1 => RowAt w.heap.size n (rwd (midR R k (a + 1))) w1 ∧ Below w.heap.size w w1)) 1) 94 _ _ rfl w.heap.size (1 + a) rfl (vU ((rwd (midR R k a) a ||| rwd (midR R k a) k : Nat) : Int)) rfl ((hRa.grow hC).run67 (j := a) (by omega) _) (⟨((hRa.grow hC).put (j := a) (by omega) _).congr fun x _ => midR_yes hw x, (hBa.trans (hC.mono hBa.size)).setCell (p := ⟨w.heap.size, 1 + a, none⟩) (Nat.le_refl _) _⟩), ?_⟩
            simp only [Act.put, List.setIfInBounds_toArray, List.set_cons_succ, List.set_cons_zero]
            intro w5 hC

            obtain ⟨hR5, hB5⟩ := (show _ ∧ _ from hC)
            clear hC
            go_wp2
            go_roundw
            case rel => exact ⟨a + 1, by omega, by go_num, hR5, hB5⟩
            case measure => simp [intOf]; omega
        · obtain rfl : a = n := by omega
          rw [midR_end H.fit, ← midR_zero] at hRa
          go_wp2
          go_roundw
          case rel => exact ⟨k + 1, by omega, by go_num, hRa, hBa⟩
          case measure => simp [intOf]; omega
    · obtain rfl : k = n := by omega
      rw [midR_zero] at hRk
      go_wp2
      go_ret
      exact ⟨w.heap.size, rfl, ⟨hRk, H.fit.wa _, hle⟩, Nat.le_refl _, hBk⟩
end Go.Proofs.YtnedkielehmneaaGreatDoor
