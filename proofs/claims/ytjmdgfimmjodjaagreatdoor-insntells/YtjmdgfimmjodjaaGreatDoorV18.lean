/- Whether an instruction reads or writes flags, and whether a block ends behind it, as package insn and the document's own answer tell: contracts, for every instruction. -/
import Derived.Test.YtjmdgfimmjodjaaGreatDoorV07
import Derived.Test.YtjmdgfimmjodjaaGreatDoorV15
import Derived.Test.YtjmdgfimmjodjaaGreatDoorV17
import Derived.Deep.RegionWith
import Derived.Deep.CutRange
import Derived.BigQuiet
namespace Go.Proofs.YtjmdgfimmjodjaaGreatDoor
open Go.RowKit Go.Rel

/-- One cell read. -/
theorem wpList_load_cell {ops : Array Oper} {rest : List Oper} {o : Oper} {a : Act} {w : World} {Q : Exit → Act → World → Prop} (hw : Region.wanted o (yielded ops a.tmps) = true) (ty : TypeId) (x : Operand) (ho : o.op = .load ty x)
    (g j : Nat) (hx : a.eval x = .pointer (some ⟨g, j, none⟩)) (v : Value) (hc : w.cell? ⟨g, j, none⟩ = some v) (ha : (isAgg ty).run Tryz.prog w = .ok false w)
    (h : wpList Tryz.prog ops Q rest (a.put o.dst v) w) : wpList Tryz.prog ops Q (o :: rest) a w := by
  refine BigFrame.wpList_want hw fun K hK => ?_
  unfold Oper.wp execOp
  have hl : (loadVar ty ⟨g, j, none⟩).run Tryz.prog w = .ok v w := by
    go_simp
  simp only [ho, hx, Instr.loadAt, Instr.sureAddr, Sem.run_bind, Sem.run_pure, Result.andThen_ok, hl]
  exact hK _ _ h
theorem agg4 (w : World) : (isAgg 4).run Tryz.prog w = .ok false w := by simp [isAgg, run_underlying Tryz.underlying4]
theorem agg3 (w : World) : (isAgg 3).run Tryz.prog w = .ok false w := by simp [isAgg, run_underlying Tryz.underlying3]
def flag1 (i : Ins) : Bool := i.op == 10 || i.op == 13 || (i.op == 31 && i.sys == 23056)
def flag2 (i : Ins) : Bool := i.flags || (i.op == 32 && i.sys == 23056)
theorem no_flags {i : Ins} (R : rightB i = true) (h : flagsR i.op i.sub = false) : i.flags = false := by
  simp only [rightB, signsB, Bool.and_eq_true] at R
  obtain ⟨-, ⟨⟨-, ⟨⟨⟨hf, -⟩, -⟩, -⟩⟩, -⟩, -⟩ := R
  rw [h] at hf
  simpa using hf
theorem ret_bb {a b c d : Bool} (h : a = b) (h' : c = d) : Ending.returned (.tuple #[.bool a, .bool c]) = .returned (.tuple #[.bool b, .bool d]) := by rw [h, h']
set_option maxRecDepth 8000 in
set_option maxHeartbeats 4000000 in
theorem rFlags_c (i : Ins) (w : World) : Calls Tryz.prog 7 #[i.val] w fun e w' => e = .returned (.tuple #[.bool (rightB i && flag1 i), .bool (rightB i && flag2 i)]) ∧ Below w.heap.size w w' := by
  have H1 := one_start i w
  cases hR : rightB i
  · go_enter Tryz.func7, Tryz.ntmps7
    repeat' (first | with_reducible refine then_exit ?_ | with_reducible refine then_normal ?_ | with_reducible refine inBlock_eq ?_ | with_reducible refine inBlock_ne rfl ?_ | with_reducible refine inBlock_normal ?_ | (refine wpList_load_if rfl 23 _ rfl w.heap.size rfl 23 _ (0, 0) _ H1.box Tryz.underlying23 rfl (by kernel_rfl) ?_; simp only [Act.put, List.setIfInBounds_toArray, List.set_cons_succ, List.set_cons_zero]) | (go_at_call 5; refine (rright_c i _).mono ?_; rw [hR]; rintro e w2 ⟨rfl, hb2⟩; replace H1 := H1.grow hb2; clear hb2; dsimp only) | go_step)
    go_ret2
    exact ⟨rfl, H1.below⟩
  · go_enter Tryz.func7, Tryz.ntmps7
    go_upto_region 4 with (first | (refine wpList_load_if rfl 23 _ rfl w.heap.size rfl 23 _ (0, 0) _ H1.box Tryz.underlying23 rfl (by kernel_rfl) ?_; simp only [Act.put, List.setIfInBounds_toArray, List.set_cons_succ, List.set_cons_zero]) | (go_at_call 5; refine (rright_c i _).mono ?_; rw [hR]; rintro e w2 ⟨rfl, hb2⟩; replace H1 := H1.grow hb2; clear hb2; dsimp only))
    by_cases c10 : i.op = 10
    · have n10 : (i.op == 10) = true := by simpa using c10
      have nf : i.flags = false := no_flags hR (by rw [c10]; rfl)
      have n13 : (i.op == 13) = false := by rw [c10]; rfl
      have n31 : (i.op == 31) = false := by rw [c10]; rfl
      have n32 : (i.op == 32) = false := by rw [c10]; rfl
      have hE : Hid (true = (true && flag1 i) ∧ false = (true && flag2 i)) := by show _ ∧ _; simp [flag1, flag2, *]
      clear c10
      repeat' (first | with_reducible refine then_exit ?_ | with_reducible refine then_normal ?_ | with_reducible refine inBlock_eq ?_ | with_reducible refine inBlock_ne rfl ?_ | with_reducible refine inBlock_normal ?_ | ((with_reducible refine wpList_load_cell rfl 3 _ rfl _ _ rfl _ (H1.at _ _ rfl) (agg3 _) ?_); simp only [Act.put, List.setIfInBounds_toArray, List.set_cons_succ, List.set_cons_zero]) | ((with_reducible refine wpList_load_cell rfl 4 _ rfl _ _ rfl _ (H1.at _ _ rfl) (agg4 _) ?_); simp only [Act.put, List.setIfInBounds_toArray, List.set_cons_succ, List.set_cons_zero]) | go_step)
      all_goals (go_ret2; exact ⟨ret_bb hE.out.1 hE.out.2, H1.below⟩)
    by_cases c13 : i.op = 13
    · have n10 : (i.op == 10) = false := by rw [c13]; rfl
      have nf : i.flags = false := no_flags hR (by rw [c13]; rfl)
      have n13 : (i.op == 13) = true := by simpa using c13
      have n31 : (i.op == 31) = false := by rw [c13]; rfl
      have n32 : (i.op == 32) = false := by rw [c13]; rfl
      have hE : Hid (true = (true && flag1 i) ∧ false = (true && flag2 i)) := by show _ ∧ _; simp [flag1, flag2, *]
      clear c13 c10
      repeat' (first | with_reducible refine then_exit ?_ | with_reducible refine then_normal ?_ | with_reducible refine inBlock_eq ?_ | with_reducible refine inBlock_ne rfl ?_ | with_reducible refine inBlock_normal ?_ | ((with_reducible refine wpList_load_cell rfl 3 _ rfl _ _ rfl _ (H1.at _ _ rfl) (agg3 _) ?_); simp only [Act.put, List.setIfInBounds_toArray, List.set_cons_succ, List.set_cons_zero]) | ((with_reducible refine wpList_load_cell rfl 4 _ rfl _ _ rfl _ (H1.at _ _ rfl) (agg4 _) ?_); simp only [Act.put, List.setIfInBounds_toArray, List.set_cons_succ, List.set_cons_zero]) | go_step)
      all_goals (go_ret2; exact ⟨ret_bb hE.out.1 hE.out.2, H1.below⟩)
    have n10 : (i.op == 10) = false := by simpa using c10
    have n13 : (i.op == 13) = false := by simpa using c13
    clear c10 c13
    by_cases c31 : i.op = 31
    · have n31 : (i.op == 31) = true := by simpa using c31
      have nf : i.flags = false := no_flags hR (by rw [c31]; rfl)
      have n32 : (i.op == 32) = false := by rw [c31]; rfl
      clear c31
      cases hs : i.sys == 23056
      · have hE : Hid (false = (true && flag1 i) ∧ false = (true && flag2 i)) := by show _ ∧ _; simp [flag1, flag2, *]
        repeat' (first | with_reducible refine then_exit ?_ | with_reducible refine then_normal ?_ | with_reducible refine inBlock_eq ?_ | with_reducible refine inBlock_ne rfl ?_ | with_reducible refine inBlock_normal ?_ | ((with_reducible refine wpList_load_cell rfl 3 _ rfl _ _ rfl _ (H1.at _ _ rfl) (agg3 _) ?_); simp only [Act.put, List.setIfInBounds_toArray, List.set_cons_succ, List.set_cons_zero]) | ((with_reducible refine wpList_load_cell rfl 4 _ rfl _ _ rfl _ (H1.at _ _ rfl) (agg4 _) ?_); simp only [Act.put, List.setIfInBounds_toArray, List.set_cons_succ, List.set_cons_zero]) | go_step)
        all_goals (go_ret2; exact ⟨ret_bb hE.out.1 hE.out.2, H1.below⟩)
      · have hE : Hid (true = (true && flag1 i) ∧ false = (true && flag2 i)) := by show _ ∧ _; simp [flag1, flag2, *]
        repeat' (first | with_reducible refine then_exit ?_ | with_reducible refine then_normal ?_ | with_reducible refine inBlock_eq ?_ | with_reducible refine inBlock_ne rfl ?_ | with_reducible refine inBlock_normal ?_ | ((with_reducible refine wpList_load_cell rfl 3 _ rfl _ _ rfl _ (H1.at _ _ rfl) (agg3 _) ?_); simp only [Act.put, List.setIfInBounds_toArray, List.set_cons_succ, List.set_cons_zero]) | ((with_reducible refine wpList_load_cell rfl 4 _ rfl _ _ rfl _ (H1.at _ _ rfl) (agg4 _) ?_); simp only [Act.put, List.setIfInBounds_toArray, List.set_cons_succ, List.set_cons_zero]) | go_step)
        all_goals (go_ret2; exact ⟨ret_bb hE.out.1 hE.out.2, H1.below⟩)
    by_cases c32 : i.op = 32
    · have n31 : (i.op == 31) = false := by rw [c32]; rfl
      have nf : i.flags = false := no_flags hR (by rw [c32]; rfl)
      have n32 : (i.op == 32) = true := by simpa using c32
      clear c32 c31
      cases hs : i.sys == 23056
      · have hE : Hid (false = (true && flag1 i) ∧ false = (true && flag2 i)) := by show _ ∧ _; simp [flag1, flag2, *]
        repeat' (first | with_reducible refine then_exit ?_ | with_reducible refine then_normal ?_ | with_reducible refine inBlock_eq ?_ | with_reducible refine inBlock_ne rfl ?_ | with_reducible refine inBlock_normal ?_ | ((with_reducible refine wpList_load_cell rfl 3 _ rfl _ _ rfl _ (H1.at _ _ rfl) (agg3 _) ?_); simp only [Act.put, List.setIfInBounds_toArray, List.set_cons_succ, List.set_cons_zero]) | ((with_reducible refine wpList_load_cell rfl 4 _ rfl _ _ rfl _ (H1.at _ _ rfl) (agg4 _) ?_); simp only [Act.put, List.setIfInBounds_toArray, List.set_cons_succ, List.set_cons_zero]) | go_step)
        all_goals (go_ret2; exact ⟨ret_bb hE.out.1 hE.out.2, H1.below⟩)
      · have hE : Hid (false = (true && flag1 i) ∧ true = (true && flag2 i)) := by show _ ∧ _; simp [flag1, flag2, *]
        repeat' (first | with_reducible refine then_exit ?_ | with_reducible refine then_normal ?_ | with_reducible refine inBlock_eq ?_ | with_reducible refine inBlock_ne rfl ?_ | with_reducible refine inBlock_normal ?_ | ((with_reducible refine wpList_load_cell rfl 3 _ rfl _ _ rfl _ (H1.at _ _ rfl) (agg3 _) ?_); simp only [Act.put, List.setIfInBounds_toArray, List.set_cons_succ, List.set_cons_zero]) | ((with_reducible refine wpList_load_cell rfl 4 _ rfl _ _ rfl _ (H1.at _ _ rfl) (agg4 _) ?_); simp only [Act.put, List.setIfInBounds_toArray, List.set_cons_succ, List.set_cons_zero]) | go_step)
        all_goals (go_ret2; exact ⟨ret_bb hE.out.1 hE.out.2, H1.below⟩)
    have n31 : (i.op == 31) = false := by simpa using c31
    have n32 : (i.op == 32) = false := by simpa using c32
    clear c31 c32
    cases hfl : i.flags
    · have hE : Hid (false = (true && flag1 i) ∧ false = (true && flag2 i)) := by show _ ∧ _; simp [flag1, flag2, *]
      repeat' (first | with_reducible refine then_exit ?_ | with_reducible refine then_normal ?_ | with_reducible refine inBlock_eq ?_ | with_reducible refine inBlock_ne rfl ?_ | with_reducible refine inBlock_normal ?_ | ((with_reducible refine wpList_load_cell rfl 3 _ rfl _ _ rfl _ (H1.at _ _ rfl) (agg3 _) ?_); simp only [Act.put, List.setIfInBounds_toArray, List.set_cons_succ, List.set_cons_zero]) | ((with_reducible refine wpList_load_cell rfl 4 _ rfl _ _ rfl _ (H1.at _ _ rfl) (agg4 _) ?_); simp only [Act.put, List.setIfInBounds_toArray, List.set_cons_succ, List.set_cons_zero]) | go_step)
      all_goals (go_ret2; exact ⟨ret_bb hE.out.1 hE.out.2, H1.below⟩)
    · have hE : Hid (false = (true && flag1 i) ∧ true = (true && flag2 i)) := by show _ ∧ _; simp [flag1, flag2, *]
      repeat' (first | with_reducible refine then_exit ?_ | with_reducible refine then_normal ?_ | with_reducible refine inBlock_eq ?_ | with_reducible refine inBlock_ne rfl ?_ | with_reducible refine inBlock_normal ?_ | ((with_reducible refine wpList_load_cell rfl 3 _ rfl _ _ rfl _ (H1.at _ _ rfl) (agg3 _) ?_); simp only [Act.put, List.setIfInBounds_toArray, List.set_cons_succ, List.set_cons_zero]) | ((with_reducible refine wpList_load_cell rfl 4 _ rfl _ _ rfl _ (H1.at _ _ rfl) (agg4 _) ?_); simp only [Act.put, List.setIfInBounds_toArray, List.set_cons_succ, List.set_cons_zero]) | go_step)
      all_goals (go_ret2; exact ⟨ret_bb hE.out.1 hE.out.2, H1.below⟩)
end Go.Proofs.YtjmdgfimmjodjaaGreatDoor
/- Whether a block ends behind an instruction, as the document's own answer tells: a contract, for every instruction. -/
namespace Go.Proofs.YtjmdgfimmjodjaaGreatDoor
open Go.RowKit Go.Rel

theorem op_in {i : Ins} (h : rightB i = true) : 1 ≤ i.op ∧ i.op ≤ 37 := by
  simp only [rightB, Bool.and_eq_true, decide_eq_true_eq] at h
  exact h.1
theorem ends_no {i : Ins} (h : (1 ≤ i.op ∧ i.op < 12) ∨ (16 < i.op ∧ i.op < 25)) : endsB i = false := by
  have : i.op = 1 ∨ i.op = 2 ∨ i.op = 3 ∨ i.op = 4 ∨ i.op = 5 ∨ i.op = 6 ∨ i.op = 7 ∨ i.op = 8 ∨ i.op = 9 ∨ i.op = 10 ∨ i.op = 11 ∨ i.op = 17 ∨ i.op = 18 ∨ i.op = 19 ∨ i.op = 20 ∨ i.op = 21 ∨ i.op = 22 ∨ i.op = 23 ∨ i.op = 24 := by omega
  unfold endsB
  rcases this with h | h | h | h | h | h | h | h | h | h | h | h | h | h | h | h | h | h | h <;> rw [h] <;> rfl
theorem ends_yes {i : Ins} (h : (12 ≤ i.op ∧ i.op ≤ 16) ∨ (25 ≤ i.op ∧ i.op < 37 ∧ ¬ i.op = 26)) : endsB i = true := by
  have : i.op = 12 ∨ i.op = 13 ∨ i.op = 14 ∨ i.op = 15 ∨ i.op = 16 ∨ i.op = 25 ∨ i.op = 27 ∨ i.op = 28 ∨ i.op = 29 ∨ i.op = 30 ∨ i.op = 31 ∨ i.op = 32 ∨ i.op = 33 ∨ i.op = 34 ∨ i.op = 35 ∨ i.op = 36 := by omega
  unfold endsB
  rcases this with h | h | h | h | h | h | h | h | h | h | h | h | h | h | h | h <;> rw [h] <;> rfl
set_option maxRecDepth 8000 in
set_option maxHeartbeats 4000000 in
theorem rEnds_c (i : Ins) (w : World) : Calls Tryz.prog 8 #[i.val] w fun e w' => e = .returned (.bool (rightB i && endsB i)) ∧ Below w.heap.size w w' := by
  have H1 := one_start i w
  cases hR : rightB i
  · go_enter Tryz.func8, Tryz.ntmps8
    go_upto_region 2 with (first | (refine wpList_load_if rfl 23 _ rfl w.heap.size rfl 23 _ (0, 0) _ H1.box Tryz.underlying23 rfl (by kernel_rfl) ?_; simp only [Act.put, List.setIfInBounds_toArray, List.set_cons_succ, List.set_cons_zero]) | (go_at_call 5; refine (rright_c i _).mono ?_; rw [hR]; rintro e w2 ⟨rfl, hb2⟩; replace H1 := H1.grow hb2; clear hb2; dsimp only))
    go_wp2
    go_ret
    exact ⟨rfl, H1.below⟩
  · obtain ⟨o1, o2⟩ := op_in hR
    rw [Bool.true_and]
    go_enter Tryz.func8, Tryz.ntmps8
    go_upto_region 2 with (first | (refine wpList_load_if rfl 23 _ rfl w.heap.size rfl 23 _ (0, 0) _ H1.box Tryz.underlying23 rfl (by kernel_rfl) ?_; simp only [Act.put, List.setIfInBounds_toArray, List.set_cons_succ, List.set_cons_zero]) | (go_at_call 5; refine (rright_c i _).mono ?_; rw [hR]; rintro e w2 ⟨rfl, hb2⟩; replace H1 := H1.grow hb2; clear hb2; dsimp only))
    have z0 := H1.at 0 (vI i.op) rfl
    have z1 := H1.at 1 (vI i.sub) rfl
    have z6 := H1.at 6 (vI i.imm) rfl
    by_cases hn : (1 ≤ i.op ∧ i.op < 12) ∨ (16 < i.op ∧ i.op < 25)
    · have e := ends_no hn
      rcases hn with ⟨h1, h2⟩ | ⟨h1, h2⟩
      all_goals
        replace e := show Hid _ from e
        go_wp2
        go_ret
        exact ⟨by rw [e.out]; first | rfl | (show Ending.returned (.bool (decide (i.op ≤ 16))) = _; rw [decide_eq_false (by omega)]), H1.below⟩
    · by_cases hy : (12 ≤ i.op ∧ i.op ≤ 16) ∨ (25 ≤ i.op ∧ i.op < 37 ∧ ¬ i.op = 26)
      · have e := ends_yes hy
        clear hn
        rcases hy with ⟨h1, h2⟩ | ⟨h1, h2, h3⟩
        · replace e := show Hid _ from e
          go_wp2
          go_ret
          exact ⟨by rw [e.out]; first | rfl | (show Ending.returned (.bool (decide (i.op ≤ 16))) = _; rw [decide_eq_false (by omega)]), H1.below⟩
        · have b1 : (i.op != 26) = true := by simpa using h3
          have b2 : (i.op != 37) = true := by simp; omega
          replace e := show Hid _ from e
          go_wp2
          go_ret
          exact ⟨by rw [e.out]; first | rfl | (show Ending.returned (.bool (decide (i.op ≤ 16))) = _; rw [decide_eq_false (by omega)]), H1.below⟩
      · by_cases h26 : i.op = 26
        · have e : endsB i = (i.sub == 1) := by unfold endsB; rw [h26]; rfl
          rw [h26] at z0
          have b2 : ((26 : Int) != 37) = true := by decide
          cases hs : (i.sub == 1)
          all_goals
            rw [hs] at e
            replace e := show Hid _ from e
            clear hn hy h26 o1 o2
            go_wp2
            go_ret
            exact ⟨by rw [e.out]; first | rfl | (show Ending.returned (.bool (decide (i.op ≤ 16))) = _; rw [decide_eq_false (by omega)]), H1.below⟩
        · have h37 : i.op = 37 := by omega
          have e : endsB i = decide (1 < i.imm) := by unfold endsB; rw [h37]; rfl
          rw [h37] at z0
          by_cases hs : 1 < i.imm
          · rw [decide_eq_true hs] at e
            replace e := show Hid _ from e
            clear hn hy h26 h37 o1 o2
            go_wp2
            go_ret
            exact ⟨by rw [e.out]; first | rfl | (show Ending.returned (.bool (decide (i.op ≤ 16))) = _; rw [decide_eq_false (by omega)]), H1.below⟩
          · rw [decide_eq_false hs] at e
            replace e := show Hid _ from e
            clear hn hy h26 h37 o1 o2
            go_wp2
            go_ret
            exact ⟨by rw [e.out]; first | rfl | (show Ending.returned (.bool (decide (i.op ≤ 16))) = _; rw [decide_eq_false (by omega)]), H1.below⟩
end Go.Proofs.YtjmdgfimmjodjaaGreatDoor
/- What an instruction's address is reckoned of, as the document's own answer tells: a contract, for every instruction. -/
namespace Go.Proofs.YtjmdgfimmjodjaaGreatDoor
open Go.RowKit Go.Rel

theorem cell_first (w : World) (cs : Array Value) (t : TypeId) (o : Obj) (j : Nat) : ((w.alloc (.cells cs t)).alloc o).cell? ⟨w.heap.size, j, none⟩ = cs[j]? := by
  rw [cell_of_row _ _ _ cs t (0, 0)]
  rw [Below.heap_alloc _ _ _ (by simp)]
  exact heap_alloc_new _ _
theorem cell_second (w : World) (cs : Array Value) (t : TypeId) (o : Obj) (j : Nat) : ((w.alloc o).alloc (.cells cs t)).cell? ⟨(w.alloc o).heap.size, j, none⟩ = cs[j]? :=
  cell_of_row _ _ _ cs t (0, 0) (heap_alloc_new _ _)
theorem alloc_size (w : World) (o : Obj) : (w.alloc o).heap.size = w.heap.size + 1 := by simp
theorem rlist1_c (x0 : Int) (b0 : Bool) (w : World) :
    Calls Tryz.prog 48 #[.slice (some ⟨w.heap.size, 0, none⟩) 1 1, .slice (some ⟨w.heap.size + 1, 0, none⟩) 1 1] ((w.alloc (.cells #[vI x0] 3)).alloc (.cells #[.bool b0] 4)) fun e w' => ∃ v, e = .returned v ∧ w'.ownsRow w.heap.size 3 1 v (listL (setAt [x0] [b0]) 32).length (listV (setAt [x0] [b0]) 32) ∧ Below w.heap.size w w' := by
  refine (rlist_c w.heap.size 1 (w.heap.size + 1) 1 [x0] [b0] rfl (by simp) _ (by simp; omega) (by simp) ?_ ?_).mono ?_
  · intro j hj
    have hj : j < 1 := hj
    rw [cell_first]
    rcases (by omega : j = 0) with rfl <;> rfl
  · intro j hj
    have hj : j < 1 := hj
    have := cell_second w #[.bool b0] 4 (.cells #[vI x0] 3) j
    rw [alloc_size] at this
    rw [this]
    rcases (by omega : j = 0) with rfl <;> rfl
  · rintro e w' ⟨v, rfl, hown, hb⟩
    exact ⟨v, rfl, own_mono hown (by simp; omega), below_then (below_alloc2 w _ _) hb⟩
theorem rlist2_c (x0 x1 : Int) (b0 b1 : Bool) (w : World) :
    Calls Tryz.prog 48 #[.slice (some ⟨w.heap.size, 0, none⟩) 2 2, .slice (some ⟨w.heap.size + 1, 0, none⟩) 2 2] ((w.alloc (.cells #[vI x0, vI x1] 3)).alloc (.cells #[.bool b0, .bool b1] 4)) fun e w' => ∃ v, e = .returned v ∧ w'.ownsRow w.heap.size 3 1 v (listL (setAt [x0, x1] [b0, b1]) 32).length (listV (setAt [x0, x1] [b0, b1]) 32) ∧ Below w.heap.size w w' := by
  refine (rlist_c w.heap.size 2 (w.heap.size + 1) 2 [x0, x1] [b0, b1] rfl (by simp) _ (by simp; omega) (by simp) ?_ ?_).mono ?_
  · intro j hj
    have hj : j < 2 := hj
    rw [cell_first]
    rcases (by omega : j = 0 ∨ j = 1) with rfl | rfl <;> rfl
  · intro j hj
    have hj : j < 2 := hj
    have := cell_second w #[.bool b0, .bool b1] 4 (.cells #[vI x0, vI x1] 3) j
    rw [alloc_size] at this
    rw [this]
    rcases (by omega : j = 0 ∨ j = 1) with rfl | rfl <;> rfl
  · rintro e w' ⟨v, rfl, hown, hb⟩
    exact ⟨v, rfl, own_mono hown (by simp; omega), below_then (below_alloc2 w _ _) hb⟩
set_option maxRecDepth 8000 in
set_option maxHeartbeats 1000000 in
theorem rAddress_c (i : Ins) (w : World) :
    Calls Tryz.prog 18 #[i.val] w fun e w' => ∃ v, e = .returned v ∧ w'.ownsRow w.heap.size 3 1 v (listL (setOf i (addressV i)) 32).length (listV (setOf i (addressV i)) 32) ∧ Below w.heap.size w w' := by
  have H1 := one_start i w
  cases hR : rightB i
  · have hS : Hid (setOf i (addressV i) = 0) := by show _ = _; simp only [setOf, hR, cond_false]
    go_enter Tryz.func18, Tryz.ntmps18
    go_upto_region 2 with (first | (refine wpList_load_if rfl 23 _ rfl w.heap.size rfl 23 _ (0, 0) _ H1.box Tryz.underlying23 rfl (by kernel_rfl) ?_; simp only [Act.put, List.setIfInBounds_toArray, List.set_cons_succ, List.set_cons_zero]) | (go_at_call 5; refine (rright_c i _).mono ?_; rw [hR]; rintro e w2 ⟨rfl, hb2⟩; replace H1 := H1.grow hb2; clear hb2; dsimp only))
    go_wp2
    go_ret
    refine ⟨_, rfl, ?_, H1.below⟩
    rw [hS.out]
    exact World.ownsRow_nil _ _ _ _
  · have hr := inR_of hR
    have ho := op_in hR
    go_enter Tryz.func18, Tryz.ntmps18
    go_upto_region 4 with (first | (refine wpList_load_if rfl 23 _ rfl w.heap.size rfl 23 _ (0, 0) _ H1.box Tryz.underlying23 rfl (by kernel_rfl) ?_; simp only [Act.put, List.setIfInBounds_toArray, List.set_cons_succ, List.set_cons_zero]) | (go_at_call 5; refine (rright_c i _).mono ?_; rw [hR]; rintro e w2 ⟨rfl, hb2⟩; replace H1 := H1.grow hb2; clear hb2; dsimp only))
    have g0 := H1.at 0 (vI i.op) rfl
    have g2 := H1.at 2 (vI i.rd) rfl
    have g3 := H1.at 3 (vI i.rn) rfl
    have g4 := H1.at 4 (vI i.rm) rfl
    by_cases c28 : i.op = 28 ∨ i.op = 30
    · have hS : Hid (setOf i (addressV i) = setAt [i.rd] [false]) := by
        show _ = _
        rw [set_zero hr.d0 hr.d1]
        simp only [setOf, hR, cond_true]
        rw [← orS_zero (r32_zf hr.d0 hr.d1)]
        rcases c28 with h | h <;> simp [addressV, h]
      clear ho hr hR
      cases n28 : i.op == 28
      · have n30 : (i.op == 30) = true := by
          rcases c28 with h | h
          · rw [h] at n28; cases n28
          · rw [h]; rfl
        clear c28
        go_wp2_with (go_at_call 48; refine (rlist1_c i.rd false _).mono ?_; rintro e w3 ⟨v, rfl, hown, hb3⟩; dsimp only)
        go_ret
        refine ⟨_, rfl, ?_, below_then H1.below hb3⟩
        rw [hS.out]
        exact own_mono hown H1.below.size
      · clear c28
        go_wp2_with (go_at_call 48; refine (rlist1_c i.rd false _).mono ?_; rintro e w3 ⟨v, rfl, hown, hb3⟩; dsimp only)
        go_ret
        refine ⟨_, rfl, ?_, below_then H1.below hb3⟩
        rw [hS.out]
        exact own_mono hown H1.below.size
    have n28 : (i.op == 28) = false := by simp; omega
    have n30 : (i.op == 30) = false := by simp; omega
    by_cases c19 : i.op = 19 ∨ i.op = 20
    · have hN : setNV i = stackF i.rn := by
        unfold setNV spN accB
        rcases c19 with h | h <;> rw [h] <;> rfl
      have hS : Hid (setOf i (addressV i) = setAt [i.rn, i.rm] [true, false]) := by
        show _ = _
        rw [set_two, set_zero hr.m0 hr.m1, set_stack hr.n0 hr.n1, Nat.or_comm]
        simp only [setOf, hR, cond_true]
        have e : addressV i = orS (orS 0 (zeroF i.rm)) (setNV i) := by rcases c19 with h | h <;> simp [addressV, h]
        rw [e, hN, orS_nat (r32_or r32_zero (r32_zf hr.m0 hr.m1)) (r32_sf hr.n0 hr.n1), orS_zero (r32_zf hr.m0 hr.m1)]
      clear ho hr hR c28 hN
      cases n19 : i.op == 19
      · have n20 : (i.op == 20) = true := by
          rcases c19 with h | h
          · rw [h] at n19; cases n19
          · rw [h]; rfl
        clear c19
        go_wp2_with (go_at_call 48; refine (rlist2_c i.rn i.rm true false _).mono ?_; rintro e w3 ⟨v, rfl, hown, hb3⟩; dsimp only)
        go_ret
        refine ⟨_, rfl, ?_, below_then H1.below hb3⟩
        rw [hS.out]
        exact own_mono hown H1.below.size
      · clear c19
        go_wp2_with (go_at_call 48; refine (rlist2_c i.rn i.rm true false _).mono ?_; rintro e w3 ⟨v, rfl, hown, hb3⟩; dsimp only)
        go_ret
        refine ⟨_, rfl, ?_, below_then H1.below hb3⟩
        rw [hS.out]
        exact own_mono hown H1.below.size
    have n19 : (i.op == 19) = false := by simp; omega
    have n20 : (i.op == 20) = false := by simp; omega
    by_cases c17 : 17 ≤ i.op ∧ i.op ≤ 24
    · obtain ⟨p1, p2⟩ := c17
      have hN : setNV i = stackF i.rn := by
        unfold setNV spN accB
        rw [decide_eq_true p1, decide_eq_true p2]
        simp
      have hS : Hid (setOf i (addressV i) = setAt [i.rn] [true]) := by
        show _ = _
        rw [set_stack hr.n0 hr.n1]
        simp only [setOf, hR, cond_true]
        have e : addressV i = orS 0 (setNV i) := by
          rcases (by omega : i.op = 17 ∨ i.op = 18 ∨ i.op = 21 ∨ i.op = 22 ∨ i.op = 23 ∨ i.op = 24) with h | h | h | h | h | h <;> simp [addressV, h]
        rw [e, hN, orS_zero (r32_sf hr.n0 hr.n1)]
      clear ho hr hR c28 c19 hN
      go_wp2_with (go_at_call 48; refine (rlist1_c i.rn true _).mono ?_; rintro e w3 ⟨v, rfl, hown, hb3⟩; dsimp only)
      go_ret
      refine ⟨_, rfl, ?_, below_then H1.below hb3⟩
      rw [hS.out]
      exact own_mono hown H1.below.size
    have hS : Hid (setOf i (addressV i) = 0) := by
      show _ = _
      simp only [setOf, hR, cond_true]
      have e : addressV i = 0 := by
        unfold addressV
        simp only [n19, n20, n28, n30, show (i.op == 17) = false by simp; omega, show (i.op == 18) = false by simp; omega, show (i.op == 21) = false by simp; omega, show (i.op == 22) = false by simp; omega, show (i.op == 23) = false by simp; omega, show (i.op == 24) = false by simp; omega]
        rfl
      rw [e]; rfl
    have c' : i.op < 17 ∨ 24 < i.op := by omega
    clear hr hR c28 c19 c17 ho
    rcases c' with c' | c'
    · go_wp2
      go_ret
      refine ⟨_, rfl, ?_, H1.below⟩
      rw [hS.out]
      exact World.ownsRow_nil _ _ _ _
    · have c'' : 17 ≤ i.op := by omega
      go_wp2
      go_ret
      refine ⟨_, rfl, ?_, H1.below⟩
      rw [hS.out]
      exact World.ownsRow_nil _ _ _ _
end Go.Proofs.YtjmdgfimmjodjaaGreatDoor
