/- Two wants held against each other; Fetch; the chapter's examples: contracts. -/
import Derived.Test.YtbjcdpmhmebjnaaGreatB13
import Derived.Test.YtbjcdpmhmebjnaaGreatB08
namespace Go.Proofs.YtbjcdpmhmebjnaaGreat
open Go.RowKit
set_option linter.unusedVariables false

def eqW (a b : Wnt) : Bool := (a.kind == b.kind && (a.addr == b.addr && (a.value == b.value && (a.acq == b.acq && (a.rel == b.rel && (a.fence == b.fence && (a.dsb == b.dsb && (a.sys == b.sys && (a.cls == b.cls && (a.iss == b.iss && true))))))))))
theorem eqW_refl (a : Wnt) : eqW a a = true := by simp [eqW]
theorem fields30 : Tryz.prog.underlying 30 = some (.struct (Tryz.prog.fieldsOf 30)) := by rw [Program.fieldsOf, Tryz.underlying30]
theorem guard30 : Tryz.prog.eqGuardType Tryz.prog.depth 30 = false := by kernel_rfl
theorem stood30 : Tryz.prog.stoodInHeld 30 = false := by kernel_rfl
theorem w_eq (a b : Wnt) (w : World) : (Op.equalIn 10000 30 a.val b.val).run Tryz.prog w = .ok (eqW a b) w := by
  rw [run_equalIn_agg w 9999 30 _ _ fields30 stood30]
  rw [show (Tryz.prog.fieldsOf 30).toList = [⟨"Kind", 3, 0, false, "", "", 0⟩, ⟨"Addr", 22, 1, false, "", "", 8⟩, ⟨"Value", 22, 2, false, "", "", 16⟩, ⟨"Acq", 3, 3, false, "", "", 24⟩, ⟨"Rel", 4, 4, false, "", "", 32⟩, ⟨"Fence", 3, 5, false, "", "", 40⟩, ⟨"Dsb", 4, 6, false, "", "", 48⟩, ⟨"Sys", 3, 7, false, "", "", 56⟩, ⟨"Class", 3, 8, false, "", "", 64⟩, ⟨"Iss", 3, 9, false, "", "", 72⟩] by kernel_rfl]
  have e : eqW a b = (a.kind == b.kind && (a.addr == b.addr && (a.value == b.value && (a.acq == b.acq && (a.rel == b.rel && (a.fence == b.fence && (a.dsb == b.dsb && (a.sys == b.sys && (a.cls == b.cls && (a.iss == b.iss && true)))))))))) := by simp [eqW]
  rw [e]
  refine eqField (r := a.kind == b.kind) w (by decide) ?_ (eqField (r := a.addr == b.addr) w (by decide) ?_ (eqField (r := a.value == b.value) w (by decide) ?_ (eqField (r := a.acq == b.acq) w (by decide) ?_ (eqField (r := a.rel == b.rel) w (by decide) ?_ (eqField (r := a.fence == b.fence) w (by decide) ?_ (eqField (r := a.dsb == b.dsb) w (by decide) ?_ (eqField (r := a.sys == b.sys) w (by decide) ?_ (eqField (r := a.cls == b.cls) w (by decide) ?_ (eqField (r := a.iss == b.iss) w (by decide) ?_ ?_)))))))))
  · simp only [r_part_c 3 (by decide) _ _ _ _ a.a0, r_part_c 3 (by decide) _ _ _ _ b.a0, Result.andThen_ok, run_equalIn_int w 9998 3 .i64 .i64 _ _ Tryz.underlying3]
  · simp only [r_part_c 22 (by decide) _ _ _ _ a.a1, r_part_c 22 (by decide) _ _ _ _ b.a1, Result.andThen_ok, run_equalIn_int w 9998 22 .u64 .u64 _ _ Tryz.underlying22]
  · simp only [r_part_c 22 (by decide) _ _ _ _ a.a2, r_part_c 22 (by decide) _ _ _ _ b.a2, Result.andThen_ok, run_equalIn_int w 9998 22 .u64 .u64 _ _ Tryz.underlying22]
  · simp only [r_part_c 3 (by decide) _ _ _ _ a.a3, r_part_c 3 (by decide) _ _ _ _ b.a3, Result.andThen_ok, run_equalIn_int w 9998 3 .i64 .i64 _ _ Tryz.underlying3]
  · simp only [part_b _ _ _ _ a.a4, part_b _ _ _ _ b.a4, Result.andThen_ok, run_equalIn_bool' w 9998 4 _ _ Tryz.underlying4]
  · simp only [r_part_c 3 (by decide) _ _ _ _ a.a5, r_part_c 3 (by decide) _ _ _ _ b.a5, Result.andThen_ok, run_equalIn_int w 9998 3 .i64 .i64 _ _ Tryz.underlying3]
  · simp only [part_b _ _ _ _ a.a6, part_b _ _ _ _ b.a6, Result.andThen_ok, run_equalIn_bool' w 9998 4 _ _ Tryz.underlying4]
  · simp only [r_part_c 3 (by decide) _ _ _ _ a.a7, r_part_c 3 (by decide) _ _ _ _ b.a7, Result.andThen_ok, run_equalIn_int w 9998 3 .i64 .i64 _ _ Tryz.underlying3]
  · simp only [r_part_c 3 (by decide) _ _ _ _ a.a8, r_part_c 3 (by decide) _ _ _ _ b.a8, Result.andThen_ok, run_equalIn_int w 9998 3 .i64 .i64 _ _ Tryz.underlying3]
  · simp only [r_part_c 3 (by decide) _ _ _ _ a.a9, r_part_c 3 (by decide) _ _ _ _ b.a9, Result.andThen_ok, run_equalIn_int w 9998 3 .i64 .i64 _ _ Tryz.underlying3]
  · simp [Op.eqFields]
theorem wpList_eql_w {ops : Array Oper} {rest : List Oper} {o : Oper} {a : Act} {w : World} {Q : Exit → Act → World → Prop} (hw : Region.wanted o (yielded ops a.tmps) = true) (x y : Operand) (ho : o.op = .binOp .eql 30 x y 30)
    (c d : Wnt) (hx : a.eval x = .agg c.cells) (hy : a.eval y = .agg d.cells) (b : Bool) (hb : eqW c d = b) (h : wpList Tryz.prog ops Q rest (a.put o.dst (.bool b)) w) : wpList Tryz.prog ops Q (o :: rest) a w := by
  refine BigFrame.wpList_want hw fun K hK => ?_
  have he := w_eq c d w
  rw [hb] at he
  unfold Oper.wp execOp
  simp only [ho, hx, hy, Sem.run_bind, run_eqGuard_agg w _ _ _ _ _ _ guard30, Result.andThen_ok, run_eql_struct, he]
  exact hK _ _ h
def fetchV (c : Cor) : Wnt := if rightC c = true then (if c.pc % 4 = 0 then { nilW with kind := 1, addr := c.pc } else { nilW with kind := 15, cls := 34, addr := c.pc }) else nilW
set_option maxRecDepth 4000 in
set_option maxHeartbeats 4000000 in
theorem fetch_c (c : Cor) (hpc : 0 ≤ c.pc) (w : World) :
    Calls Tryz.prog 11 #[c.val] w fun e w' => e = .returned (.tuple #[(fetchV c).val, .int .i64 (errC c)]) ∧ Below w.heap.size w w' := by
  have hm : ∀ n : Int, 0 ≤ n → n.tmod 4 = n % 4 := fun n h => Int.tmod_eq_emod_of_nonneg h
  cases hr : rightC c
  · have ev : fetchV c = nilW := by simp [fetchV, hr]
    have ee : errC c = 1 := by simp [errC, hr]
    rw [ev, ee]
    go_enter Tryz.func11, Tryz.ntmps11
    go_upto_region 1 with fail
    have H := stwo_start w c.cells #[.int .i64 0, .int .u64 0, .int .u64 0, .int .i64 0, .bool false, .int .i64 0, .bool false, .int .i64 0, .int .i64 0, .int .i64 0] 26 30
    generalize hb : w.heap.size = b at H ⊢
    generalize (w.alloc _).alloc _ = w1 at H ⊢
    obtain ⟨Z, hZ, H⟩ : ∃ Z, Z.size = 10 ∧ Has w [(b + 1, Z, 30), (b, c.cells, 26)] w1 := ⟨_, rfl, H⟩
    have hne : ∀ p ∈ [(b, c.cells, (26 : TypeId))], p.1 ≠ b + 1 := one_other (by omega)
    go_wp2_with (first | ((with_reducible refine wpList_load_ifA rfl 26 _ rfl b rfl 26 _ (0, 0) _ (H.get (List.mem_cons_of_mem _ List.mem_cons_self)) Tryz.underlying26 rfl (Cor.info _) ?_); simp only [Act.put, List.setIfInBounds_toArray, List.set_cons_succ, List.set_cons_zero]) | (go_at_call 21; refine (Right_c c _).mono ?_; rw [hr]; rintro e w2 ⟨rfl, hB⟩; dsimp only; replace H := H.grow hB) | ((with_reducible refine wpList_built_w rfl _ rfl nilW (by kernel_rfl) ?_); simp only [Act.put, List.setIfInBounds_toArray, List.set_cons_succ, List.set_cons_zero]) | ((with_reducible refine wpList_store_w rfl _ _ rfl H hne hZ _ rfl rfl ?_); intro w9 H; simp only [Act.put]))
    exact bodyPost_ret (back_wt rfl _ _ _ _ _ _ rfl (H.get List.mem_cons_self)) rfl ⟨rfl, by first | exact H.below | (rw [← hb]; exact H.below)⟩
  · have ee : errC c = 0 := by simp [errC, hr]
    rw [ee]
    by_cases h4 : c.pc % 4 = 0
    · have ev : fetchV c = { nilW with kind := 1, addr := c.pc } := by simp [fetchV, hr, h4]
      have e4 : (c.pc.tmod 4 != 0) = false := by rw [hm _ hpc]; simp [h4]
      rw [ev]
      go_enter Tryz.func11, Tryz.ntmps11
      go_upto_region 1 with fail
      have H := stwo_start w c.cells #[.int .i64 0, .int .u64 0, .int .u64 0, .int .i64 0, .bool false, .int .i64 0, .bool false, .int .i64 0, .int .i64 0, .int .i64 0] 26 30
      generalize hb : w.heap.size = b at H ⊢
      generalize (w.alloc _).alloc _ = w1 at H ⊢
      obtain ⟨Z, hZ, H⟩ : ∃ Z, Z.size = 10 ∧ Has w [(b + 1, Z, 30), (b, c.cells, 26)] w1 := ⟨_, rfl, H⟩
      have hne : ∀ p ∈ [(b, c.cells, (26 : TypeId))], p.1 ≠ b + 1 := one_other (by omega)
      go_upto_region 3 with (first | ((with_reducible refine wpList_load_ifA rfl 26 _ rfl b rfl 26 _ (0, 0) _ (H.get (List.mem_cons_of_mem _ List.mem_cons_self)) Tryz.underlying26 rfl (Cor.info _) ?_); simp only [Act.put, List.setIfInBounds_toArray, List.set_cons_succ, List.set_cons_zero]) | (go_at_call 21; refine (Right_c c _).mono ?_; rw [hr]; rintro e w2 ⟨rfl, hB⟩; dsimp only; replace H := H.grow hB))
      have c33 := H.at (List.mem_cons_of_mem _ List.mem_cons_self) 33 (.int .u64 c.pc) c.a33
      go_wp2_with (first | ((with_reducible refine wpList_built_w rfl _ rfl { nilW with kind := 1, addr := c.pc } (by kernel_rfl) ?_); simp only [Act.put, List.setIfInBounds_toArray, List.set_cons_succ, List.set_cons_zero]) | ((with_reducible refine wpList_store_w rfl _ _ rfl H hne hZ _ rfl rfl ?_); intro w9 H; simp only [Act.put]))
      exact bodyPost_ret (back_wt rfl _ _ _ _ _ _ rfl (H.get List.mem_cons_self)) rfl ⟨rfl, by first | exact H.below | (rw [← hb]; exact H.below)⟩
    · have ev : fetchV c = { nilW with kind := 15, cls := 34, addr := c.pc } := by simp [fetchV, hr, h4]
      have e4 : (c.pc.tmod 4 != 0) = true := by rw [hm _ hpc]; simp [h4]
      rw [ev]
      go_enter Tryz.func11, Tryz.ntmps11
      go_upto_region 1 with fail
      have H := stwo_start w c.cells #[.int .i64 0, .int .u64 0, .int .u64 0, .int .i64 0, .bool false, .int .i64 0, .bool false, .int .i64 0, .int .i64 0, .int .i64 0] 26 30
      generalize hb : w.heap.size = b at H ⊢
      generalize (w.alloc _).alloc _ = w1 at H ⊢
      obtain ⟨Z, hZ, H⟩ : ∃ Z, Z.size = 10 ∧ Has w [(b + 1, Z, 30), (b, c.cells, 26)] w1 := ⟨_, rfl, H⟩
      have hne : ∀ p ∈ [(b, c.cells, (26 : TypeId))], p.1 ≠ b + 1 := one_other (by omega)
      go_upto_region 3 with (first | ((with_reducible refine wpList_load_ifA rfl 26 _ rfl b rfl 26 _ (0, 0) _ (H.get (List.mem_cons_of_mem _ List.mem_cons_self)) Tryz.underlying26 rfl (Cor.info _) ?_); simp only [Act.put, List.setIfInBounds_toArray, List.set_cons_succ, List.set_cons_zero]) | (go_at_call 21; refine (Right_c c _).mono ?_; rw [hr]; rintro e w2 ⟨rfl, hB⟩; dsimp only; replace H := H.grow hB))
      have c33 := H.at (List.mem_cons_of_mem _ List.mem_cons_self) 33 (.int .u64 c.pc) c.a33
      go_wp2_with (first | ((with_reducible refine wpList_built_w rfl _ rfl { nilW with kind := 15, cls := 34, addr := c.pc } (by kernel_rfl) ?_); simp only [Act.put, List.setIfInBounds_toArray, List.set_cons_succ, List.set_cons_zero]) | ((with_reducible refine wpList_store_w rfl _ _ rfl H hne hZ _ rfl rfl ?_); intro w9 H; simp only [Act.put]))
      exact bodyPost_ret (back_wt rfl _ _ _ _ _ _ rfl (H.get List.mem_cons_self)) rfl ⟨rfl, by first | exact H.below | (rw [← hb]; exact H.below)⟩
/-! The examples. -/
def beg0 : Cor := { nilC with pc := 4096, el := 1, mask := true }
def begC : Cor := { beg0 with x := beg0.x.set 1 5 }
theorem beg_set : beg0.cells.setIfInBounds 1 (.int .u64 5) = begC.cells := beg0.setX 1 5 (by decide)
set_option maxRecDepth 4000 in
set_option maxHeartbeats 4000000 in
theorem beg_c (w : World) : Calls Tryz.prog 20 #[] w fun e w' => e = .returned begC.val ∧ Below w.heap.size w w' := by
  go_enter Tryz.func20, Tryz.ntmps20
  go_upto_region 1 with fail
  generalize hw1 : w.alloc _ = w1
  obtain ⟨Z, hZ, H⟩ : ∃ Z : Array Value, Z.size = 49 ∧ Has w [(w.heap.size, Z, 26)] w1 := by
    refine ⟨_, ?_, by rw [← hw1]; exact (has_none w).new 26 _⟩
    rfl
  clear hw1
  generalize hb : w.heap.size = b at H ⊢
  have hlt : b < w1.heap.size := (Array.getElem?_eq_some_iff.1 (H.get List.mem_cons_self)).1
  go_upto_region 2 with (first | ((with_reducible refine wpList_builtG rfl 26 _ rfl beg0.cells (by kernel_rfl) ?_); simp only [Act.put, List.setIfInBounds_toArray, List.set_cons_succ, List.set_cons_zero]) | ((with_reducible refine wpList_store_new H rfl 26 _ _ rfl beg0.cells rfl rfl beg0.info ?_ beg0.one ?_); (focus (rw [Cor.size]; rfl)); intro w2 H; simp only [Act.put]))
  generalize w1.heap.size = z at H hlt ⊢
  have hnz : ∀ p ∈ [(b, Z, (26 : TypeId))], p.1 ≠ z := one_other (by omega)
  have hnb : ∀ p ∈ [(z, begC.cells, (26 : TypeId))], p.1 ≠ b := one_other (by omega)
  have cz := H.at List.mem_cons_self 1 (.int .u64 0) (by kernel_rfl)
  have fz := frozen_of_row _ z 1 _ _ (H.get List.mem_cons_self)
  go_upto_region 3 with ((with_reducible refine wpList_store_int rfl 22 _ _ rfl z 1 .u64 5 rfl rfl (.int .u64 0) cz fz size22 ?_); generalize hw3 : World.setCell _ _ _ = w3; simp only [Act.put])
  have H3 : Has w [(z, begC.cells, 26), (b, Z, 26)] w3 := by
    have := H.setAt hnz 1 (.int .u64 5)
    rw [beg_set, hw3] at this
    exact this
  replace H := H3.swap
  clear H3 hw3 cz fz
  go_wp2_with (first | ((with_reducible refine wpList_load_ifA rfl 26 _ rfl z rfl 26 _ (0, 0) _ (H.get (List.mem_cons_of_mem _ List.mem_cons_self)) Tryz.underlying26 rfl begC.info ?_); simp only [Act.put, List.setIfInBounds_toArray, List.set_cons_succ, List.set_cons_zero]) | ((with_reducible refine wpList_store_over rfl 26 H hnb _ _ rfl begC.cells rfl rfl begC.info ?_ begC.one ?_); (focus (rw [hZ, Cor.size])); intro w9 H; simp only [Act.put]))
  exact bodyPost_ret (back_one rfl _ _ _ _ _ _ rfl (H.get List.mem_cons_self)) rfl ⟨rfl, by first | exact H.below | (rw [← hb]; exact H.below)⟩
end Go.Proofs.YtbjcdpmhmebjnaaGreat
/- The document's own x, at, address, store, device and barred: contracts. -/
namespace Go.Proofs.YtbjcdpmhmebjnaaGreat
open Go.RowKit
set_option linter.unusedVariables false

set_option maxHeartbeats 1000000 in
theorem qx_c (c : Cor) (r : Int) (w : World) : Calls Tryz.prog 27 #[c.val, .int .i64 r] w fun e w' => e = .returned (.int .u64 (xV c r)) ∧ Below w.heap.size w w' := by
  go_enter Tryz.func27, Tryz.ntmps27
  go_upto_region 1 with fail
  have H := (has_none w).new 26 c.cells
  generalize hb : w.heap.size = b at H ⊢
  generalize w.alloc _ = w1 at H ⊢
  go_wp2_with (first | ((with_reducible refine wpList_load_ifA rfl 26 _ rfl b rfl 26 _ (0, 0) _ (H.get List.mem_cons_self) Tryz.underlying26 rfl (Cor.info _) ?_); simp only [Act.put, List.setIfInBounds_toArray, List.set_cons_succ, List.set_cons_zero]) | (go_at_call 50; refine (refX_c c _ _).mono ?_; rintro e w2 ⟨rfl, hB⟩; dsimp only; replace H := H.grow hB))
  go_ret
  exact ⟨rfl, by first | exact H.below | (rw [← hb]; exact H.below)⟩
set_option maxHeartbeats 1000000 in
theorem qat_c (c : Cor) (r : Int) (hel : 0 ≤ c.el ∧ c.el ≤ 1) (w : World) : Calls Tryz.prog 123 #[c.val, .int .i64 r] w fun e w' => e = .returned (.int .u64 (spX c r)) ∧ Below w.heap.size w w' := by
  by_cases h31 : r = 31
  · subst h31
    rcases (by omega : c.el = 0 ∨ c.el = 1) with e | e
    · have ev : spX c 31 = c.sp0 := by simp [spX, spV, e]
      rw [ev]
      go_enter Tryz.func123, Tryz.ntmps123
      go_upto_region 1 with fail
      have H := (has_none w).new 26 c.cells
      generalize hb : w.heap.size = b at H ⊢
      generalize w.alloc _ = w1 at H ⊢
      have c38 := H.at List.mem_cons_self 38 (.int .i64 c.el) c.a38
      have c31 := H.at List.mem_cons_self 31 (.int .u64 c.sp0) c.a31
      rw [e] at c38
      go_wp2
      go_ret
      exact ⟨rfl, by first | exact H.below | (rw [← hb]; exact H.below)⟩
    · have ev : spX c 31 = c.sp1 := by simp [spX, spV, e]
      rw [ev]
      go_enter Tryz.func123, Tryz.ntmps123
      go_upto_region 1 with fail
      have H := (has_none w).new 26 c.cells
      generalize hb : w.heap.size = b at H ⊢
      generalize w.alloc _ = w1 at H ⊢
      have c38 := H.at List.mem_cons_self 38 (.int .i64 c.el) c.a38
      have c32 := H.at List.mem_cons_self 32 (.int .u64 c.sp1) c.a32
      rw [e] at c38
      go_wp2
      go_ret
      exact ⟨rfl, by first | exact H.below | (rw [← hb]; exact H.below)⟩
  · have e : (r == 31) = false := by simp [h31]
    have ev : spX c r = xV c r := by simp [spX, h31]
    rw [ev]
    go_enter Tryz.func123, Tryz.ntmps123
    go_upto_region 1 with fail
    have H := (has_none w).new 26 c.cells
    generalize hb : w.heap.size = b at H ⊢
    generalize w.alloc _ = w1 at H ⊢
    go_wp2_with (first | ((with_reducible refine wpList_load_ifA rfl 26 _ rfl b rfl 26 _ (0, 0) _ (H.get List.mem_cons_self) Tryz.underlying26 rfl (Cor.info _) ?_); simp only [Act.put, List.setIfInBounds_toArray, List.set_cons_succ, List.set_cons_zero]) | (go_at_call 27; refine (qx_c c _ _).mono ?_; rintro e w2 ⟨rfl, hB⟩; dsimp only; replace H := H.grow hB))
    go_ret
    exact ⟨rfl, by first | exact H.below | (rw [← hb]; exact H.below)⟩
set_option maxHeartbeats 1000000 in
theorem qdev_c (n : Int) (w : World) : Calls Tryz.prog 28 #[.int .i64 n] w fun e w' => e = .returned (.bool (outB n)) ∧ w' = w := by
  go_enter Tryz.func28, Tryz.ntmps28
  go_wp2
  all_goals (go_ret; refine ⟨r_ret_bool ?_, rfl⟩; unfold outB; simp_all)
def stB (n : Int) : Bool := n == 18 || n == 20 || n == 22 || n == 24
set_option maxHeartbeats 1000000 in
theorem qstore_c (n : Int) (w : World) : Calls Tryz.prog 49 #[.int .i64 n] w fun e w' => e = .returned (.bool (stB n)) ∧ w' = w := by
  go_enter Tryz.func49, Tryz.ntmps49
  go_wp2
  all_goals (go_ret; refine ⟨r_ret_bool ?_, rfl⟩; unfold stB; simp_all)
def barR (c : Cor) (i : Ins) : Bool :=
  bif c.el == 0 then (i.op == 36 || i.op == 33 || i.op == 29 || (i.op == 31 && !(i.sys == 23056 || i.sys == 24194 || i.sys == 24322)) || (i.op == 32 && !(i.sys == 23056 || i.sys == 24194)))
  else (i.op == 32 && (i.sys == 16389 || i.sys == 16914 || i.sys == 24322 || i.sys == 18016)) || (i.op == 31 && (i.sys == 18017 || i.sys == 18013))
theorem barR_eq (c : Cor) (i : Ins) : barR c i = barB c i := by
  unfold barR barB allB roB
  cases c.el == 0
  · by_cases h : i.op = 31
    · simp [h]
    · exact Bool.or_comm _ _
  · by_cases h : i.sys = 23056
    · simp [h]
    · by_cases h2 : i.sys = 24194
      · simp [h2]
      · by_cases h3 : i.sys = 24322
        · simp [h3]
        · have e1 : (i.sys == 23056) = false := by simp [h]
          have e2 : (i.sys == 24194) = false := by simp [h2]
          have e3 : (i.sys == 24322) = false := by simp [h3]
          rw [e1, e2, e3]
          simp
set_option maxRecDepth 4000 in
set_option maxHeartbeats 8000000 in
theorem qbar_c (c : Cor) (i : Ins) (w : World) : Calls Tryz.prog 25 #[c.val, i.val] w fun e w' => e = .returned (.bool (barB c i)) ∧ Below w.heap.size w w' := by
  rw [← barR_eq]
  have hel : c.el = 0 ∨ (c.el == 0) = false := by
    by_cases e : c.el = 0
    · exact .inl e
    · exact .inr (by simp [e])
  go_enter Tryz.func25, Tryz.ntmps25
  go_upto_region 1 with fail
  have H := stwo_start w c.cells i.cells 26 47
  generalize hb : w.heap.size = b at H ⊢
  generalize (w.alloc _).alloc _ = w1 at H ⊢
  have c38 := H.at (List.mem_cons_of_mem _ List.mem_cons_self) 38 (.int .i64 c.el) c.a38
  have c0 := H.at List.mem_cons_self 0 (.int .i64 i.op) rfl
  have c11 := H.at List.mem_cons_self 11 (.int .i64 i.sys) rfl
  rcases hel with hel | hel
  · have ev : barR c i = (i.op == 36 || i.op == 33 || i.op == 29 || (i.op == 31 && !(i.sys == 23056 || i.sys == 24194 || i.sys == 24322)) || (i.op == 32 && !(i.sys == 23056 || i.sys == 24194))) := by unfold barR; rw [hel]; rfl
    have hB := H.below
    clear H
    rw [hel] at c38
    go_wp2
    all_goals (go_ret; refine ⟨r_ret_bool ?_, by first | exact hB | (rw [← hb]; exact hB)⟩; rw [ev]; clear ev; first | (simp_all; done) | (simp_all; rfl))
  · have ev : barR c i = ((i.op == 32 && (i.sys == 16389 || i.sys == 16914 || i.sys == 24322 || i.sys == 18016)) || (i.op == 31 && (i.sys == 18017 || i.sys == 18013))) := by unfold barR; rw [hel]; rfl
    have hB := H.below
    clear H
    go_wp2
    all_goals (go_ret; refine ⟨r_ret_bool ?_, by first | exact hB | (rw [← hb]; exact hB)⟩; rw [ev]; clear ev; first | (simp_all; done) | (simp_all; rfl))
set_option maxRecDepth 4000 in
set_option maxHeartbeats 4000000 in
theorem qaddr_n (c : Cor) (i : Ins) (hel : 0 ≤ c.el ∧ c.el ≤ 1) (A M S : Int) (hA : spX c i.rn = A) (hM : i.imm % 18446744073709551616 = M) (hS : (A + M) % 18446744073709551616 = S) (h1 : (i.op == 19) = false) (h2 : (i.op == 20) = false) (w : World) :
    Calls Tryz.prog 48 #[c.val, i.val] w fun e w' => e = .returned (.int .u64 S) ∧ Below w.heap.size w w' := by
  go_enter Tryz.func48, Tryz.ntmps48
  go_upto_region 1 with fail
  have H := stwo_start w c.cells i.cells 26 47
  generalize hb : w.heap.size = b at H ⊢
  generalize (w.alloc _).alloc _ = w1 at H ⊢
  refine Rel.wp_region_tail 8 Rel.Grows (fun x => Has w [(b + 1, i.cells, 47), (b, c.cells, 26)] x) [.inl c.val, .inl (.pointer (some ⟨(b + 1), 3, none⟩)), .inl (.int .i64 i.rn), .inl (.int .u64 A), .inl (.pointer (some ⟨(b + 1), 6, none⟩)), .inl (.int .i64 i.imm), .inl (.int .u64 M), .inl (.int .u64 S)] (by kernel_rfl) (by kernel_rfl) (fun _ _ hh hb => hh.grow hb) (H.grow ⟨rfl, rfl, rfl, Nat.le_refl _, fun _ _ => rfl⟩) (by simp [Rel.upK]) ?_
  refine ⟨fun w1 hC _ => by exact rel_load_c _ rfl b rfl (hC.get (List.mem_cons_of_mem _ List.mem_cons_self)), ?_⟩
  simp only [Act.put, List.setIfInBounds_toArray, List.set_cons_succ, List.set_cons_zero]
  refine ⟨fun w1 hC _ => by go_simp; first | exact Below.refl _ _ | exact ⟨Below.refl _ _, rfl⟩, ?_⟩
  simp only [Act.put, List.setIfInBounds_toArray, List.set_cons_succ, List.set_cons_zero]
  refine ⟨fun w1 hC _ => by have hq := hC.at List.mem_cons_self 3 (.int .i64 i.rn) rfl; go_simp; first | exact Below.refl _ _ | exact ⟨Below.refl _ _, rfl⟩, ?_⟩
  simp only [Act.put, List.setIfInBounds_toArray, List.set_cons_succ, List.set_cons_zero]
  refine ⟨fun w1 hC _ => by go_simp; refine (qat_c c i.rn hel w1).mono ?_; rintro e w2 ⟨rfl, hb⟩; first | exact ⟨by rw [hA], hb⟩ | exact hb, ?_⟩
  simp only [Act.put, List.setIfInBounds_toArray, List.set_cons_succ, List.set_cons_zero]
  refine ⟨fun w1 hC _ => by go_simp; first | exact Below.refl _ _ | exact ⟨Below.refl _ _, rfl⟩, ?_⟩
  simp only [Act.put, List.setIfInBounds_toArray, List.set_cons_succ, List.set_cons_zero]
  refine ⟨fun w1 hC _ => by have hq := hC.at List.mem_cons_self 6 (.int .i64 i.imm) rfl; go_simp; first | exact Below.refl _ _ | exact ⟨Below.refl _ _, rfl⟩, ?_⟩
  simp only [Act.put, List.setIfInBounds_toArray, List.set_cons_succ, List.set_cons_zero]
  refine ⟨fun w1 hC _ => by go_simp; exact ⟨Below.refl _ _, by rw [wrapU]; exact hM⟩, ?_⟩
  simp only [Act.put, List.setIfInBounds_toArray, List.set_cons_succ, List.set_cons_zero]
  refine ⟨fun w1 hC _ => by go_simp; exact ⟨Below.refl _ _, by rw [wrapU]; exact hS⟩, ?_⟩
  simp only [Act.put, List.setIfInBounds_toArray, List.set_cons_succ, List.set_cons_zero]
  clear H
  intro w2 H _
  simp only [List.drop_succ_cons, List.drop_zero]
  have c0 := H.at List.mem_cons_self 0 (.int .i64 i.op) rfl
  have hB := H.below
  clear H
  go_wp2
  go_ret
  exact ⟨rfl, by first | exact hB | (rw [← hb]; exact hB)⟩
set_option maxRecDepth 4000 in
set_option maxHeartbeats 4000000 in
theorem qaddr_a (c : Cor) (i : Ins) (hel : 0 ≤ c.el ∧ c.el ≤ 1) (A M S X T R : Int) (hA : spX c i.rn = A) (hM : i.imm % 18446744073709551616 = M) (hS : (A + M) % 18446744073709551616 = S) (hX : xV c i.rm = X) (hT : X % 18446744073709551616 = T) (hR : (S + T) % 18446744073709551616 = R) (ho : i.op = 19 ∨ i.op = 20) (ha : Hid (i.amount = 0)) (w : World) :
    Calls Tryz.prog 48 #[c.val, i.val] w fun e w' => e = .returned (.int .u64 R) ∧ Below w.heap.size w w' := by
  go_enter Tryz.func48, Tryz.ntmps48
  go_upto_region 1 with fail
  have H := stwo_start w c.cells i.cells 26 47
  generalize hb : w.heap.size = b at H ⊢
  generalize (w.alloc _).alloc _ = w1 at H ⊢
  refine Rel.wp_region_tail 8 Rel.Grows (fun x => Has w [(b + 1, i.cells, 47), (b, c.cells, 26)] x) [.inl c.val, .inl (.pointer (some ⟨(b + 1), 3, none⟩)), .inl (.int .i64 i.rn), .inl (.int .u64 A), .inl (.pointer (some ⟨(b + 1), 6, none⟩)), .inl (.int .i64 i.imm), .inl (.int .u64 M), .inl (.int .u64 S)] (by kernel_rfl) (by kernel_rfl) (fun _ _ hh hb => hh.grow hb) (H.grow ⟨rfl, rfl, rfl, Nat.le_refl _, fun _ _ => rfl⟩) (by simp [Rel.upK]) ?_
  refine ⟨fun w1 hC _ => by exact rel_load_c _ rfl b rfl (hC.get (List.mem_cons_of_mem _ List.mem_cons_self)), ?_⟩
  simp only [Act.put, List.setIfInBounds_toArray, List.set_cons_succ, List.set_cons_zero]
  refine ⟨fun w1 hC _ => by go_simp; first | exact Below.refl _ _ | exact ⟨Below.refl _ _, rfl⟩, ?_⟩
  simp only [Act.put, List.setIfInBounds_toArray, List.set_cons_succ, List.set_cons_zero]
  refine ⟨fun w1 hC _ => by have hq := hC.at List.mem_cons_self 3 (.int .i64 i.rn) rfl; go_simp; first | exact Below.refl _ _ | exact ⟨Below.refl _ _, rfl⟩, ?_⟩
  simp only [Act.put, List.setIfInBounds_toArray, List.set_cons_succ, List.set_cons_zero]
  refine ⟨fun w1 hC _ => by go_simp; refine (qat_c c i.rn hel w1).mono ?_; rintro e w2 ⟨rfl, hb⟩; first | exact ⟨by rw [hA], hb⟩ | exact hb, ?_⟩
  simp only [Act.put, List.setIfInBounds_toArray, List.set_cons_succ, List.set_cons_zero]
  refine ⟨fun w1 hC _ => by go_simp; first | exact Below.refl _ _ | exact ⟨Below.refl _ _, rfl⟩, ?_⟩
  simp only [Act.put, List.setIfInBounds_toArray, List.set_cons_succ, List.set_cons_zero]
  refine ⟨fun w1 hC _ => by have hq := hC.at List.mem_cons_self 6 (.int .i64 i.imm) rfl; go_simp; first | exact Below.refl _ _ | exact ⟨Below.refl _ _, rfl⟩, ?_⟩
  simp only [Act.put, List.setIfInBounds_toArray, List.set_cons_succ, List.set_cons_zero]
  refine ⟨fun w1 hC _ => by go_simp; exact ⟨Below.refl _ _, by rw [wrapU]; exact hM⟩, ?_⟩
  simp only [Act.put, List.setIfInBounds_toArray, List.set_cons_succ, List.set_cons_zero]
  refine ⟨fun w1 hC _ => by go_simp; exact ⟨Below.refl _ _, by rw [wrapU]; exact hS⟩, ?_⟩
  simp only [Act.put, List.setIfInBounds_toArray, List.set_cons_succ, List.set_cons_zero]
  clear H
  intro w2 H _
  simp only [List.drop_succ_cons, List.drop_zero]
  have c0 := H.at List.mem_cons_self 0 (.int .i64 i.op) rfl
  rcases ho with ho | ho
  all_goals
    rw [ho] at c0
    go_upto_region 3 with fail
    refine Rel.wp_region_tail 9 Rel.Grows (fun x => Has w [(b + 1, i.cells, 47), (b, c.cells, 26)] x) [.inl (.int .u64 S), .inl c.val, .inl (.pointer (some ⟨(b + 1), 4, none⟩)), .inl (.int .i64 i.rm), .inl (.int .u64 X), .inl (.pointer (some ⟨(b + 1), 8, none⟩)), .inl (.int .i64 0), .inl (.int .u64 T), .inl (.int .u64 R)] (by kernel_rfl) (by kernel_rfl) (fun _ _ hh hb => hh.grow hb) (H.grow ⟨rfl, rfl, rfl, Nat.le_refl _, fun _ _ => rfl⟩) (by simp [Rel.upK]) ?_
    refine ⟨fun w1 hC _ => by go_simp; first | exact Below.refl _ _ | exact ⟨Below.refl _ _, rfl⟩, ?_⟩
    simp only [Act.put, List.setIfInBounds_toArray, List.set_cons_succ, List.set_cons_zero]
    refine ⟨fun w1 hC _ => by exact rel_load_c _ rfl b rfl (hC.get (List.mem_cons_of_mem _ List.mem_cons_self)), ?_⟩
    simp only [Act.put, List.setIfInBounds_toArray, List.set_cons_succ, List.set_cons_zero]
    refine ⟨fun w1 hC _ => by go_simp; first | exact Below.refl _ _ | exact ⟨Below.refl _ _, rfl⟩, ?_⟩
    simp only [Act.put, List.setIfInBounds_toArray, List.set_cons_succ, List.set_cons_zero]
    refine ⟨fun w1 hC _ => by have hq := hC.at List.mem_cons_self 4 (.int .i64 i.rm) rfl; go_simp; first | exact Below.refl _ _ | exact ⟨Below.refl _ _, rfl⟩, ?_⟩
    simp only [Act.put, List.setIfInBounds_toArray, List.set_cons_succ, List.set_cons_zero]
    refine ⟨fun w1 hC _ => by go_simp; refine (qx_c c i.rm w1).mono ?_; rintro e w2 ⟨rfl, hb⟩; first | exact ⟨by rw [hX], hb⟩ | exact hb, ?_⟩
    simp only [Act.put, List.setIfInBounds_toArray, List.set_cons_succ, List.set_cons_zero]
    refine ⟨fun w1 hC _ => by go_simp; first | exact Below.refl _ _ | exact ⟨Below.refl _ _, rfl⟩, ?_⟩
    simp only [Act.put, List.setIfInBounds_toArray, List.set_cons_succ, List.set_cons_zero]
    refine ⟨fun w1 hC _ => by have hq := (by have hq := hC.at List.mem_cons_self 8 (.int .i64 i.amount) rfl; rw [ha.out] at hq; exact hq : w1.cell? ⟨b + 1, 8, none⟩ = some (.int .i64 0)); go_simp; first | exact Below.refl _ _ | exact ⟨Below.refl _ _, rfl⟩, ?_⟩
    simp only [Act.put, List.setIfInBounds_toArray, List.set_cons_succ, List.set_cons_zero]
    refine ⟨fun w1 hC _ => by go_simp; exact ⟨Below.refl _ _, by rw [wrapU]; exact hT⟩, ?_⟩
    simp only [Act.put, List.setIfInBounds_toArray, List.set_cons_succ, List.set_cons_zero]
    refine ⟨fun w1 hC _ => by go_simp; exact ⟨Below.refl _ _, by rw [wrapU]; exact hR⟩, ?_⟩
    simp only [Act.put, List.setIfInBounds_toArray, List.set_cons_succ, List.set_cons_zero]
    clear H
    intro w3 H _
    simp only [List.drop_succ_cons, List.drop_zero]
    have hB := H.below
    clear H
    go_wp2
    go_ret
    exact ⟨rfl, by first | exact hB | (rw [← hb]; exact hB)⟩
set_option maxRecDepth 4000 in
set_option maxHeartbeats 4000000 in
theorem qaddr_b (c : Cor) (i : Ins) (hel : 0 ≤ c.el ∧ c.el ≤ 1) (A M S X T R : Int) (hA : spX c i.rn = A) (hM : i.imm % 18446744073709551616 = M) (hS : (A + M) % 18446744073709551616 = S) (hX : xV c i.rm = X) (hT : X * 8 % 18446744073709551616 = T) (hR : (S + T) % 18446744073709551616 = R) (ho : i.op = 19 ∨ i.op = 20) (ha : Hid (i.amount = 3)) (w : World) :
    Calls Tryz.prog 48 #[c.val, i.val] w fun e w' => e = .returned (.int .u64 R) ∧ Below w.heap.size w w' := by
  go_enter Tryz.func48, Tryz.ntmps48
  go_upto_region 1 with fail
  have H := stwo_start w c.cells i.cells 26 47
  generalize hb : w.heap.size = b at H ⊢
  generalize (w.alloc _).alloc _ = w1 at H ⊢
  refine Rel.wp_region_tail 8 Rel.Grows (fun x => Has w [(b + 1, i.cells, 47), (b, c.cells, 26)] x) [.inl c.val, .inl (.pointer (some ⟨(b + 1), 3, none⟩)), .inl (.int .i64 i.rn), .inl (.int .u64 A), .inl (.pointer (some ⟨(b + 1), 6, none⟩)), .inl (.int .i64 i.imm), .inl (.int .u64 M), .inl (.int .u64 S)] (by kernel_rfl) (by kernel_rfl) (fun _ _ hh hb => hh.grow hb) (H.grow ⟨rfl, rfl, rfl, Nat.le_refl _, fun _ _ => rfl⟩) (by simp [Rel.upK]) ?_
  refine ⟨fun w1 hC _ => by exact rel_load_c _ rfl b rfl (hC.get (List.mem_cons_of_mem _ List.mem_cons_self)), ?_⟩
  simp only [Act.put, List.setIfInBounds_toArray, List.set_cons_succ, List.set_cons_zero]
  refine ⟨fun w1 hC _ => by go_simp; first | exact Below.refl _ _ | exact ⟨Below.refl _ _, rfl⟩, ?_⟩
  simp only [Act.put, List.setIfInBounds_toArray, List.set_cons_succ, List.set_cons_zero]
  refine ⟨fun w1 hC _ => by have hq := hC.at List.mem_cons_self 3 (.int .i64 i.rn) rfl; go_simp; first | exact Below.refl _ _ | exact ⟨Below.refl _ _, rfl⟩, ?_⟩
  simp only [Act.put, List.setIfInBounds_toArray, List.set_cons_succ, List.set_cons_zero]
  refine ⟨fun w1 hC _ => by go_simp; refine (qat_c c i.rn hel w1).mono ?_; rintro e w2 ⟨rfl, hb⟩; first | exact ⟨by rw [hA], hb⟩ | exact hb, ?_⟩
  simp only [Act.put, List.setIfInBounds_toArray, List.set_cons_succ, List.set_cons_zero]
  refine ⟨fun w1 hC _ => by go_simp; first | exact Below.refl _ _ | exact ⟨Below.refl _ _, rfl⟩, ?_⟩
  simp only [Act.put, List.setIfInBounds_toArray, List.set_cons_succ, List.set_cons_zero]
  refine ⟨fun w1 hC _ => by have hq := hC.at List.mem_cons_self 6 (.int .i64 i.imm) rfl; go_simp; first | exact Below.refl _ _ | exact ⟨Below.refl _ _, rfl⟩, ?_⟩
  simp only [Act.put, List.setIfInBounds_toArray, List.set_cons_succ, List.set_cons_zero]
  refine ⟨fun w1 hC _ => by go_simp; exact ⟨Below.refl _ _, by rw [wrapU]; exact hM⟩, ?_⟩
  simp only [Act.put, List.setIfInBounds_toArray, List.set_cons_succ, List.set_cons_zero]
  refine ⟨fun w1 hC _ => by go_simp; exact ⟨Below.refl _ _, by rw [wrapU]; exact hS⟩, ?_⟩
  simp only [Act.put, List.setIfInBounds_toArray, List.set_cons_succ, List.set_cons_zero]
  clear H
  intro w2 H _
  simp only [List.drop_succ_cons, List.drop_zero]
  have c0 := H.at List.mem_cons_self 0 (.int .i64 i.op) rfl
  rcases ho with ho | ho
  all_goals
    rw [ho] at c0
    go_upto_region 3 with fail
    refine Rel.wp_region_tail 9 Rel.Grows (fun x => Has w [(b + 1, i.cells, 47), (b, c.cells, 26)] x) [.inl (.int .u64 S), .inl c.val, .inl (.pointer (some ⟨(b + 1), 4, none⟩)), .inl (.int .i64 i.rm), .inl (.int .u64 X), .inl (.pointer (some ⟨(b + 1), 8, none⟩)), .inl (.int .i64 3), .inl (.int .u64 T), .inl (.int .u64 R)] (by kernel_rfl) (by kernel_rfl) (fun _ _ hh hb => hh.grow hb) (H.grow ⟨rfl, rfl, rfl, Nat.le_refl _, fun _ _ => rfl⟩) (by simp [Rel.upK]) ?_
    refine ⟨fun w1 hC _ => by go_simp; first | exact Below.refl _ _ | exact ⟨Below.refl _ _, rfl⟩, ?_⟩
    simp only [Act.put, List.setIfInBounds_toArray, List.set_cons_succ, List.set_cons_zero]
    refine ⟨fun w1 hC _ => by exact rel_load_c _ rfl b rfl (hC.get (List.mem_cons_of_mem _ List.mem_cons_self)), ?_⟩
    simp only [Act.put, List.setIfInBounds_toArray, List.set_cons_succ, List.set_cons_zero]
    refine ⟨fun w1 hC _ => by go_simp; first | exact Below.refl _ _ | exact ⟨Below.refl _ _, rfl⟩, ?_⟩
    simp only [Act.put, List.setIfInBounds_toArray, List.set_cons_succ, List.set_cons_zero]
    refine ⟨fun w1 hC _ => by have hq := hC.at List.mem_cons_self 4 (.int .i64 i.rm) rfl; go_simp; first | exact Below.refl _ _ | exact ⟨Below.refl _ _, rfl⟩, ?_⟩
    simp only [Act.put, List.setIfInBounds_toArray, List.set_cons_succ, List.set_cons_zero]
    refine ⟨fun w1 hC _ => by go_simp; refine (qx_c c i.rm w1).mono ?_; rintro e w2 ⟨rfl, hb⟩; first | exact ⟨by rw [hX], hb⟩ | exact hb, ?_⟩
    simp only [Act.put, List.setIfInBounds_toArray, List.set_cons_succ, List.set_cons_zero]
    refine ⟨fun w1 hC _ => by go_simp; first | exact Below.refl _ _ | exact ⟨Below.refl _ _, rfl⟩, ?_⟩
    simp only [Act.put, List.setIfInBounds_toArray, List.set_cons_succ, List.set_cons_zero]
    refine ⟨fun w1 hC _ => by have hq := (by have hq := hC.at List.mem_cons_self 8 (.int .i64 i.amount) rfl; rw [ha.out] at hq; exact hq : w1.cell? ⟨b + 1, 8, none⟩ = some (.int .i64 3)); go_simp; first | exact Below.refl _ _ | exact ⟨Below.refl _ _, rfl⟩, ?_⟩
    simp only [Act.put, List.setIfInBounds_toArray, List.set_cons_succ, List.set_cons_zero]
    refine ⟨fun w1 hC _ => by go_simp; exact ⟨Below.refl _ _, by rw [wrapU]; exact hT⟩, ?_⟩
    simp only [Act.put, List.setIfInBounds_toArray, List.set_cons_succ, List.set_cons_zero]
    refine ⟨fun w1 hC _ => by go_simp; exact ⟨Below.refl _ _, by rw [wrapU]; exact hR⟩, ?_⟩
    simp only [Act.put, List.setIfInBounds_toArray, List.set_cons_succ, List.set_cons_zero]
    clear H
    intro w3 H _
    simp only [List.drop_succ_cons, List.drop_zero]
    have hB := H.below
    clear H
    go_wp2
    go_ret
    exact ⟨rfl, by first | exact hB | (rw [← hb]; exact hB)⟩
theorem qaddr_c (c : Cor) (i : Ins) (hel : 0 ≤ c.el ∧ c.el ≤ 1) (ha : i.op = 19 ∨ i.op = 20 → i.amount = 0 ∨ i.amount = 3) (hz : i.op = 19 ∨ i.op = 20 → i.imm = 0) (w : World) :
    Calls Tryz.prog 48 #[c.val, i.val] w fun e w' => e = .returned (.int .u64 (adrV c i)) ∧ Below w.heap.size w w' := by
  by_cases ho : i.op = 19 ∨ i.op = 20
  · have hi := hz ho
    rcases ha ho with e | e
    · have := qaddr_a c i hel _ _ _ _ _ _ rfl rfl rfl rfl rfl rfl ho e w
      have ev : adrV c i = ((spX c i.rn + i.imm % 18446744073709551616) % 18446744073709551616 + xV c i.rm % 18446744073709551616) % 18446744073709551616 := by
        unfold adrV u64
        rw [if_pos ho, e, hi]
        show (spX c i.rn + xV c i.rm * 1 % 18446744073709551616) % 18446744073709551616 = _
        omega
      rw [ev]; exact this
    · have := qaddr_b c i hel _ _ _ _ _ _ rfl rfl rfl rfl rfl rfl ho e w
      have ev : adrV c i = ((spX c i.rn + i.imm % 18446744073709551616) % 18446744073709551616 + xV c i.rm * 8 % 18446744073709551616) % 18446744073709551616 := by
        unfold adrV u64
        rw [if_pos ho, e, hi]
        show (spX c i.rn + xV c i.rm * 8 % 18446744073709551616) % 18446744073709551616 = _
        omega
      rw [ev]; exact this
  · unfold adrV u64
    rw [if_neg ho]
    exact qaddr_n c i hel _ _ _ rfl rfl rfl (by simp; omega) (by simp; omega) w
end Go.Proofs.YtbjcdpmhmebjnaaGreat
/- The document's own access: contracts. -/
namespace Go.Proofs.YtbjcdpmhmebjnaaGreat
open Go.RowKit
set_option linter.unusedVariables false

theorem Has.pick {w0 w : World} {L : List (Nat × Array Value × TypeId)} {p q : Nat × Array Value × TypeId} (h : Has w0 (p :: q :: L) w) : Has w0 [q, p] w :=
  ⟨h.below, fun r hr => h.box r (by simp at hr ⊢; rcases hr with rfl | rfl <;> simp)⟩
set_option maxRecDepth 8000 in
set_option maxHeartbeats 16000000 in
theorem qtrap (c : Cor) (i : Ins) (hel : 0 ≤ c.el ∧ c.el ≤ 1) (hF : i.op = 19 ∨ i.op = 20 → i.amount = 0 ∨ i.amount = 3) (hz : i.op = 19 ∨ i.op = 20 → i.imm = 0) (A : Int) (hA : adrV c i = A) (st : Bool) (hs : stB i.op = st) (h8 : (A.tmod 8 != 0) = true) (w : World) :
    Calls Tryz.prog 26 #[c.val, i.val] w fun e w' => e = .returned (Wnt.val { nilW with kind := 15, cls := 36 + c.el, iss := bif st then 97 else 33, addr := A }) ∧ Below w.heap.size w w' := by
  cases st
  all_goals
    go_enter Tryz.func26, Tryz.ntmps26
    go_upto_region 1 with fail
    have H := three_start w c.cells i.cells #[.int .i64 0, .int .u64 0, .int .u64 0, .int .i64 0, .bool false, .int .i64 0, .bool false, .int .i64 0, .int .i64 0, .int .i64 0] 26 47 30
    generalize hb : w.heap.size = b at H ⊢
    generalize ((w.alloc _).alloc _).alloc _ = w1 at H ⊢
    obtain ⟨Z, hZ, H⟩ : ∃ Z, Z.size = 10 ∧ Has w [(b + 2, Z, 30), (b + 1, i.cells, 47), (b, c.cells, 26)] w1 := ⟨_, rfl, H⟩
    go_upto_region 2 with (first | ((with_reducible refine wpList_load_ifA rfl 26 _ rfl b rfl 26 _ (0, 0) _ (H.get (List.mem_cons_of_mem _ (List.mem_cons_of_mem _ List.mem_cons_self))) Tryz.underlying26 rfl (Cor.info _) ?_); simp only [Act.put, List.setIfInBounds_toArray, List.set_cons_succ, List.set_cons_zero]) | ((with_reducible refine wpList_load_ifA rfl 47 _ rfl (b + 1) rfl 47 _ (0, 0) _ (H.get (List.mem_cons_of_mem _ List.mem_cons_self)) Tryz.underlying47 rfl (Ins.infoC i) ?_); simp only [Act.put, List.setIfInBounds_toArray, List.set_cons_succ, List.set_cons_zero]) | (go_at_call 48; refine (qaddr_c c i hel hF hz _).mono ?_; rw [hA]; rintro e wa ⟨rfl, hB⟩; dsimp only; replace H := H.grow hB))
    have hl : ∀ p ∈ [(b + 2, Z, (30 : TypeId)), (b + 1, i.cells, (47 : TypeId)), (b, c.cells, (26 : TypeId))], p.1 ≠ wa.heap.size := fun p hp => by
      have := (Array.getElem?_eq_some_iff.1 (H.box p hp).2).1
      omega
    have c0 := H.at (b := b + 1) (t := 47) (c := i.cells) (List.mem_cons_of_mem _ List.mem_cons_self) 0 (.int .i64 i.op) rfl
    have c38 := H.at (b := b) (t := 26) (c := c.cells) (List.mem_cons_of_mem _ (List.mem_cons_of_mem _ List.mem_cons_self)) 38 (.int .i64 c.el) c.a38
    go_upto_region 5 with (first | (go_at_call 49; refine (qstore_c _ _).mono ?_; rw [hs]; rintro e wx ⟨rfl, rfl⟩; dsimp only) | ((with_reducible refine wpList_built_w rfl _ rfl { nilW with kind := 15, cls := 36 + c.el, iss := 33, addr := A } (by kernel_rfl) ?_); simp only [Act.put, List.setIfInBounds_toArray, List.set_cons_succ, List.set_cons_zero]) | ((with_reducible refine wpList_store_new H rfl 30 _ _ rfl (Wnt.cells { nilW with kind := 15, cls := 36 + c.el, iss := 33, addr := A }) rfl rfl (Wnt.info _) ?_ (Wnt.one _) ?_); (focus rfl); intro wb H; simp only [Act.put]))
    generalize wx.heap.size = z at H hl ⊢
    have hne := hl
    go_upto_region 7 with (first | ((with_reducible refine wpList_put_w rfl 3 _ _ rfl H hne 9 .i64 _ rfl rfl _ (Wnt.a9 _) size3 _ (Wnt.s9 _ _) ?_); intro wp H _; simp only [Act.put]))
    have hzb := (hl (b + 2, Z, 30) List.mem_cons_self).symm
    replace H := Has.pick H
    go_wp2_with (first | ((with_reducible refine wpList_load_ifA rfl 30 _ rfl z rfl 30 _ (0, 0) _ (H.get (List.mem_cons_of_mem _ List.mem_cons_self)) Tryz.underlying30 rfl (Wnt.info _) ?_); simp only [Act.put, List.setIfInBounds_toArray, List.set_cons_succ, List.set_cons_zero]) | ((with_reducible refine wpList_store_w rfl _ _ rfl H (one_other hzb) hZ _ rfl rfl ?_); intro wq H; simp only [Act.put]))
    exact bodyPost_ret (back_w rfl _ _ _ _ _ _ rfl (H.get List.mem_cons_self)) rfl ⟨rfl, by first | exact H.below | (rw [← hb]; exact H.below)⟩
set_option maxRecDepth 8000 in
set_option maxHeartbeats 16000000 in
theorem qacc_v (c : Cor) (i : Ins) (hel : 0 ≤ c.el ∧ c.el ≤ 1) (hF : i.op = 19 ∨ i.op = 20 → i.amount = 0 ∨ i.amount = 3) (hz : i.op = 19 ∨ i.op = 20 → i.imm = 0) (A : Int) (hA : adrV c i = A) (V : Wnt) (hk : Hid ((i.op = 17 ∧ V = { nilW with kind := 1, addr := A }) ∨ (i.op = 18 ∧ V = { nilW with kind := 2, value := xV c i.rd, rel := false, addr := A }) ∨ (i.op = 19 ∧ V = { nilW with kind := 1, addr := A }) ∨ (i.op = 20 ∧ V = { nilW with kind := 2, value := xV c i.rd, rel := false, addr := A }) ∨ (i.op = 22 ∧ V = { nilW with kind := 2, value := xV c i.rd, rel := true, addr := A }) ∨ (i.op = 24 ∧ V = { nilW with kind := 4, value := xV c i.rd, rel := i.sub == 1, addr := A }))) (h8 : (A.tmod 8 != 0) = false) (w : World) :
    Calls Tryz.prog 26 #[c.val, i.val] w fun e w' => e = .returned V.val ∧ Below w.heap.size w w' := by
  rcases hk.out with ⟨e, rfl⟩ | ⟨e, rfl⟩ | ⟨e, rfl⟩ | ⟨e, rfl⟩ | ⟨e, rfl⟩ | ⟨e, rfl⟩
  all_goals
    replace e := (show Hid _ from e)
    go_enter Tryz.func26, Tryz.ntmps26
    go_upto_region 1 with fail
    have H := three_start w c.cells i.cells #[.int .i64 0, .int .u64 0, .int .u64 0, .int .i64 0, .bool false, .int .i64 0, .bool false, .int .i64 0, .int .i64 0, .int .i64 0] 26 47 30
    generalize hb : w.heap.size = b at H ⊢
    generalize ((w.alloc _).alloc _).alloc _ = w1 at H ⊢
    obtain ⟨Z, hZ, H⟩ : ∃ Z, Z.size = 10 ∧ Has w [(b + 2, Z, 30), (b + 1, i.cells, 47), (b, c.cells, 26)] w1 := ⟨_, rfl, H⟩
    go_upto_region 2 with (first | ((with_reducible refine wpList_load_ifA rfl 26 _ rfl b rfl 26 _ (0, 0) _ (H.get (List.mem_cons_of_mem _ (List.mem_cons_of_mem _ List.mem_cons_self))) Tryz.underlying26 rfl (Cor.info _) ?_); simp only [Act.put, List.setIfInBounds_toArray, List.set_cons_succ, List.set_cons_zero]) | ((with_reducible refine wpList_load_ifA rfl 47 _ rfl (b + 1) rfl 47 _ (0, 0) _ (H.get (List.mem_cons_of_mem _ List.mem_cons_self)) Tryz.underlying47 rfl (Ins.infoC i) ?_); simp only [Act.put, List.setIfInBounds_toArray, List.set_cons_succ, List.set_cons_zero]) | (go_at_call 48; refine (qaddr_c c i hel hF hz _).mono ?_; rw [hA]; rintro e wa ⟨rfl, hB⟩; dsimp only; replace H := H.grow hB))
    have hl : ∀ p ∈ [(b + 2, Z, (30 : TypeId)), (b + 1, i.cells, (47 : TypeId)), (b, c.cells, (26 : TypeId))], p.1 ≠ wa.heap.size := fun p hp => by
      have := (Array.getElem?_eq_some_iff.1 (H.box p hp).2).1
      omega
    have c0 := H.at (b := b + 1) (t := 47) (c := i.cells) (List.mem_cons_of_mem _ List.mem_cons_self) 0 (.int .i64 i.op) rfl
    rw [e.out] at c0
    go_upto_region 9 with (first | (go_at_call 49; refine (qstore_c _ _).mono ?_; rintro e2 wx ⟨rfl, rfl⟩; simp only [show stB 17 = false from rfl, show stB 18 = true from rfl, show stB 19 = false from rfl, show stB 20 = true from rfl, show stB 22 = true from rfl, show stB 24 = true from rfl]) | ((with_reducible refine wpList_built_w rfl _ rfl { nilW with kind := 1, addr := A } (by kernel_rfl) ?_); simp only [Act.put, List.setIfInBounds_toArray, List.set_cons_succ, List.set_cons_zero]) | ((with_reducible refine wpList_store_new H rfl 30 _ _ rfl (Wnt.cells { nilW with kind := 1, addr := A }) rfl rfl (Wnt.info _) ?_ (Wnt.one _) ?_); (focus rfl); intro wb H; simp only [Act.put]))
    generalize wx.heap.size = z at H hl ⊢
    have hne := hl
    have c0 := H.at (b := b + 1) (t := 47) (c := i.cells) (List.mem_cons_of_mem _ (List.mem_cons_of_mem _ List.mem_cons_self)) 0 (.int .i64 i.op) rfl; have c1 := H.at (b := b + 1) (t := 47) (c := i.cells) (List.mem_cons_of_mem _ (List.mem_cons_of_mem _ List.mem_cons_self)) 1 (.int .i64 i.sub) rfl; have c2 := H.at (b := b + 1) (t := 47) (c := i.cells) (List.mem_cons_of_mem _ (List.mem_cons_of_mem _ List.mem_cons_self)) 2 (.int .i64 i.rd) rfl; rw [e.out] at c0
    go_upto_region 22 with (first | ((with_reducible refine wpList_load_ifA rfl 26 _ rfl b rfl 26 _ (0, 0) _ (H.get (List.mem_cons_of_mem _ (List.mem_cons_of_mem _ (List.mem_cons_of_mem _ List.mem_cons_self)))) Tryz.underlying26 rfl (Cor.info _) ?_); simp only [Act.put, List.setIfInBounds_toArray, List.set_cons_succ, List.set_cons_zero]) | (go_at_call 27; refine (qx_c c _ _).mono ?_; rintro e wx ⟨rfl, hBx⟩; dsimp only; replace H := H.grow hBx; have c0 := H.at (b := b + 1) (t := 47) (c := i.cells) (List.mem_cons_of_mem _ (List.mem_cons_of_mem _ List.mem_cons_self)) 0 (.int .i64 i.op) rfl; have c1 := H.at (b := b + 1) (t := 47) (c := i.cells) (List.mem_cons_of_mem _ (List.mem_cons_of_mem _ List.mem_cons_self)) 1 (.int .i64 i.sub) rfl; have c2 := H.at (b := b + 1) (t := 47) (c := i.cells) (List.mem_cons_of_mem _ (List.mem_cons_of_mem _ List.mem_cons_self)) 2 (.int .i64 i.rd) rfl; rw [e.out] at c0) | ((with_reducible refine wpList_put_w rfl 3 _ _ rfl H hne 0 .i64 _ rfl rfl _ (Wnt.a0 _) size3 _ (Wnt.s0 _ _) ?_); intro wp H _; have c0 := H.at (b := b + 1) (t := 47) (c := i.cells) (List.mem_cons_of_mem _ (List.mem_cons_of_mem _ List.mem_cons_self)) 0 (.int .i64 i.op) rfl; have c1 := H.at (b := b + 1) (t := 47) (c := i.cells) (List.mem_cons_of_mem _ (List.mem_cons_of_mem _ List.mem_cons_self)) 1 (.int .i64 i.sub) rfl; have c2 := H.at (b := b + 1) (t := 47) (c := i.cells) (List.mem_cons_of_mem _ (List.mem_cons_of_mem _ List.mem_cons_self)) 2 (.int .i64 i.rd) rfl; rw [e.out] at c0; simp only [Act.put]) | ((with_reducible refine wpList_put_w rfl 3 _ _ rfl H hne 3 .i64 _ rfl rfl _ (Wnt.a3 _) size3 _ (Wnt.s3 _ _) ?_); intro wp H _; have c0 := H.at (b := b + 1) (t := 47) (c := i.cells) (List.mem_cons_of_mem _ (List.mem_cons_of_mem _ List.mem_cons_self)) 0 (.int .i64 i.op) rfl; have c1 := H.at (b := b + 1) (t := 47) (c := i.cells) (List.mem_cons_of_mem _ (List.mem_cons_of_mem _ List.mem_cons_self)) 1 (.int .i64 i.sub) rfl; have c2 := H.at (b := b + 1) (t := 47) (c := i.cells) (List.mem_cons_of_mem _ (List.mem_cons_of_mem _ List.mem_cons_self)) 2 (.int .i64 i.rd) rfl; rw [e.out] at c0; simp only [Act.put]) | ((with_reducible refine wpList_put_w rfl 3 _ _ rfl H hne 9 .i64 _ rfl rfl _ (Wnt.a9 _) size3 _ (Wnt.s9 _ _) ?_); intro wp H _; have c0 := H.at (b := b + 1) (t := 47) (c := i.cells) (List.mem_cons_of_mem _ (List.mem_cons_of_mem _ List.mem_cons_self)) 0 (.int .i64 i.op) rfl; have c1 := H.at (b := b + 1) (t := 47) (c := i.cells) (List.mem_cons_of_mem _ (List.mem_cons_of_mem _ List.mem_cons_self)) 1 (.int .i64 i.sub) rfl; have c2 := H.at (b := b + 1) (t := 47) (c := i.cells) (List.mem_cons_of_mem _ (List.mem_cons_of_mem _ List.mem_cons_self)) 2 (.int .i64 i.rd) rfl; rw [e.out] at c0; simp only [Act.put]) | ((with_reducible refine wpList_put_w rfl 22 _ _ rfl H hne 2 .u64 _ rfl rfl _ (Wnt.a2 _) size22 _ (Wnt.s2 _ _) ?_); intro wp H _; have c0 := H.at (b := b + 1) (t := 47) (c := i.cells) (List.mem_cons_of_mem _ (List.mem_cons_of_mem _ List.mem_cons_self)) 0 (.int .i64 i.op) rfl; have c1 := H.at (b := b + 1) (t := 47) (c := i.cells) (List.mem_cons_of_mem _ (List.mem_cons_of_mem _ List.mem_cons_self)) 1 (.int .i64 i.sub) rfl; have c2 := H.at (b := b + 1) (t := 47) (c := i.cells) (List.mem_cons_of_mem _ (List.mem_cons_of_mem _ List.mem_cons_self)) 2 (.int .i64 i.rd) rfl; rw [e.out] at c0; simp only [Act.put]) | ((with_reducible refine wpList_putB_w rfl 4 _ _ rfl H hne 4 _ rfl rfl _ (Wnt.a4 _) size4 _ (Wnt.s4 _ _) ?_); intro wp H _; have c0 := H.at (b := b + 1) (t := 47) (c := i.cells) (List.mem_cons_of_mem _ (List.mem_cons_of_mem _ List.mem_cons_self)) 0 (.int .i64 i.op) rfl; have c1 := H.at (b := b + 1) (t := 47) (c := i.cells) (List.mem_cons_of_mem _ (List.mem_cons_of_mem _ List.mem_cons_self)) 1 (.int .i64 i.sub) rfl; have c2 := H.at (b := b + 1) (t := 47) (c := i.cells) (List.mem_cons_of_mem _ (List.mem_cons_of_mem _ List.mem_cons_self)) 2 (.int .i64 i.rd) rfl; rw [e.out] at c0; simp only [Act.put]))
    have hzb := (hl (b + 2, Z, 30) List.mem_cons_self).symm
    replace H := Has.pick H
    go_wp2_with (first | ((with_reducible refine wpList_load_ifA rfl 30 _ rfl z rfl 30 _ (0, 0) _ (H.get (List.mem_cons_of_mem _ List.mem_cons_self)) Tryz.underlying30 rfl (Wnt.info _) ?_); simp only [Act.put, List.setIfInBounds_toArray, List.set_cons_succ, List.set_cons_zero]) | ((with_reducible refine wpList_store_w rfl _ _ rfl H (one_other hzb) hZ _ rfl rfl ?_); intro wq H; simp only [Act.put]))
    exact bodyPost_ret (back_w rfl _ _ _ _ _ _ rfl (H.get List.mem_cons_self)) rfl ⟨rfl, by first | exact H.below | (rw [← hb]; exact H.below)⟩
set_option maxRecDepth 8000 in
set_option maxHeartbeats 16000000 in
theorem qacc_s (c : Cor) (i : Ins) (hel : 0 ≤ c.el ∧ c.el ≤ 1) (hF : i.op = 19 ∨ i.op = 20 → i.amount = 0 ∨ i.amount = 3) (hz : i.op = 19 ∨ i.op = 20 → i.imm = 0) (A : Int) (hA : adrV c i = A) (V : Wnt) (hk : Hid ((i.op = 21 ∧ i.sub = 0 ∧ V = { nilW with kind := 1, acq := 2, addr := A }) ∨ (i.op = 21 ∧ i.sub = 1 ∧ V = { nilW with kind := 1, acq := 1, addr := A }) ∨ (i.op = 23 ∧ i.sub = 0 ∧ V = { nilW with kind := 3, acq := 0, addr := A }) ∨ (i.op = 23 ∧ i.sub = 1 ∧ V = { nilW with kind := 3, acq := 2, addr := A }))) (h8 : (A.tmod 8 != 0) = false) (w : World) :
    Calls Tryz.prog 26 #[c.val, i.val] w fun e w' => e = .returned V.val ∧ Below w.heap.size w w' := by
  rcases hk.out with ⟨e, s, rfl⟩ | ⟨e, s, rfl⟩ | ⟨e, s, rfl⟩ | ⟨e, s, rfl⟩
  all_goals
    replace e := (show Hid _ from e)
    replace s := (show Hid _ from s)
    go_enter Tryz.func26, Tryz.ntmps26
    go_upto_region 1 with fail
    have H := three_start w c.cells i.cells #[.int .i64 0, .int .u64 0, .int .u64 0, .int .i64 0, .bool false, .int .i64 0, .bool false, .int .i64 0, .int .i64 0, .int .i64 0] 26 47 30
    generalize hb : w.heap.size = b at H ⊢
    generalize ((w.alloc _).alloc _).alloc _ = w1 at H ⊢
    obtain ⟨Z, hZ, H⟩ : ∃ Z, Z.size = 10 ∧ Has w [(b + 2, Z, 30), (b + 1, i.cells, 47), (b, c.cells, 26)] w1 := ⟨_, rfl, H⟩
    go_upto_region 2 with (first | ((with_reducible refine wpList_load_ifA rfl 26 _ rfl b rfl 26 _ (0, 0) _ (H.get (List.mem_cons_of_mem _ (List.mem_cons_of_mem _ List.mem_cons_self))) Tryz.underlying26 rfl (Cor.info _) ?_); simp only [Act.put, List.setIfInBounds_toArray, List.set_cons_succ, List.set_cons_zero]) | ((with_reducible refine wpList_load_ifA rfl 47 _ rfl (b + 1) rfl 47 _ (0, 0) _ (H.get (List.mem_cons_of_mem _ List.mem_cons_self)) Tryz.underlying47 rfl (Ins.infoC i) ?_); simp only [Act.put, List.setIfInBounds_toArray, List.set_cons_succ, List.set_cons_zero]) | (go_at_call 48; refine (qaddr_c c i hel hF hz _).mono ?_; rw [hA]; rintro e wa ⟨rfl, hB⟩; dsimp only; replace H := H.grow hB))
    have hl : ∀ p ∈ [(b + 2, Z, (30 : TypeId)), (b + 1, i.cells, (47 : TypeId)), (b, c.cells, (26 : TypeId))], p.1 ≠ wa.heap.size := fun p hp => by
      have := (Array.getElem?_eq_some_iff.1 (H.box p hp).2).1
      omega
    have c0 := H.at (b := b + 1) (t := 47) (c := i.cells) (List.mem_cons_of_mem _ List.mem_cons_self) 0 (.int .i64 i.op) rfl
    rw [e.out] at c0
    go_upto_region 9 with (first | (go_at_call 49; refine (qstore_c _ _).mono ?_; rintro e2 wx ⟨rfl, rfl⟩; simp only [show stB 21 = false from rfl, show stB 23 = false from rfl]) | ((with_reducible refine wpList_built_w rfl _ rfl { nilW with kind := 1, addr := A } (by kernel_rfl) ?_); simp only [Act.put, List.setIfInBounds_toArray, List.set_cons_succ, List.set_cons_zero]) | ((with_reducible refine wpList_store_new H rfl 30 _ _ rfl (Wnt.cells { nilW with kind := 1, addr := A }) rfl rfl (Wnt.info _) ?_ (Wnt.one _) ?_); (focus rfl); intro wb H; simp only [Act.put]))
    generalize wx.heap.size = z at H hl ⊢
    have hne := hl
    have c0 := H.at (b := b + 1) (t := 47) (c := i.cells) (List.mem_cons_of_mem _ (List.mem_cons_of_mem _ List.mem_cons_self)) 0 (.int .i64 i.op) rfl; have c1 := H.at (b := b + 1) (t := 47) (c := i.cells) (List.mem_cons_of_mem _ (List.mem_cons_of_mem _ List.mem_cons_self)) 1 (.int .i64 i.sub) rfl; have c2 := H.at (b := b + 1) (t := 47) (c := i.cells) (List.mem_cons_of_mem _ (List.mem_cons_of_mem _ List.mem_cons_self)) 2 (.int .i64 i.rd) rfl; rw [e.out] at c0; rw [s.out] at c1
    go_upto_region 22 with (first | ((with_reducible refine wpList_load_ifA rfl 26 _ rfl b rfl 26 _ (0, 0) _ (H.get (List.mem_cons_of_mem _ (List.mem_cons_of_mem _ (List.mem_cons_of_mem _ List.mem_cons_self)))) Tryz.underlying26 rfl (Cor.info _) ?_); simp only [Act.put, List.setIfInBounds_toArray, List.set_cons_succ, List.set_cons_zero]) | (go_at_call 27; refine (qx_c c _ _).mono ?_; rintro e wx ⟨rfl, hBx⟩; dsimp only; replace H := H.grow hBx; have c0 := H.at (b := b + 1) (t := 47) (c := i.cells) (List.mem_cons_of_mem _ (List.mem_cons_of_mem _ List.mem_cons_self)) 0 (.int .i64 i.op) rfl; have c1 := H.at (b := b + 1) (t := 47) (c := i.cells) (List.mem_cons_of_mem _ (List.mem_cons_of_mem _ List.mem_cons_self)) 1 (.int .i64 i.sub) rfl; have c2 := H.at (b := b + 1) (t := 47) (c := i.cells) (List.mem_cons_of_mem _ (List.mem_cons_of_mem _ List.mem_cons_self)) 2 (.int .i64 i.rd) rfl; rw [e.out] at c0; rw [s.out] at c1) | ((with_reducible refine wpList_put_w rfl 3 _ _ rfl H hne 0 .i64 _ rfl rfl _ (Wnt.a0 _) size3 _ (Wnt.s0 _ _) ?_); intro wp H _; have c0 := H.at (b := b + 1) (t := 47) (c := i.cells) (List.mem_cons_of_mem _ (List.mem_cons_of_mem _ List.mem_cons_self)) 0 (.int .i64 i.op) rfl; have c1 := H.at (b := b + 1) (t := 47) (c := i.cells) (List.mem_cons_of_mem _ (List.mem_cons_of_mem _ List.mem_cons_self)) 1 (.int .i64 i.sub) rfl; have c2 := H.at (b := b + 1) (t := 47) (c := i.cells) (List.mem_cons_of_mem _ (List.mem_cons_of_mem _ List.mem_cons_self)) 2 (.int .i64 i.rd) rfl; rw [e.out] at c0; rw [s.out] at c1; simp only [Act.put]) | ((with_reducible refine wpList_put_w rfl 3 _ _ rfl H hne 3 .i64 _ rfl rfl _ (Wnt.a3 _) size3 _ (Wnt.s3 _ _) ?_); intro wp H _; have c0 := H.at (b := b + 1) (t := 47) (c := i.cells) (List.mem_cons_of_mem _ (List.mem_cons_of_mem _ List.mem_cons_self)) 0 (.int .i64 i.op) rfl; have c1 := H.at (b := b + 1) (t := 47) (c := i.cells) (List.mem_cons_of_mem _ (List.mem_cons_of_mem _ List.mem_cons_self)) 1 (.int .i64 i.sub) rfl; have c2 := H.at (b := b + 1) (t := 47) (c := i.cells) (List.mem_cons_of_mem _ (List.mem_cons_of_mem _ List.mem_cons_self)) 2 (.int .i64 i.rd) rfl; rw [e.out] at c0; rw [s.out] at c1; simp only [Act.put]) | ((with_reducible refine wpList_put_w rfl 3 _ _ rfl H hne 9 .i64 _ rfl rfl _ (Wnt.a9 _) size3 _ (Wnt.s9 _ _) ?_); intro wp H _; have c0 := H.at (b := b + 1) (t := 47) (c := i.cells) (List.mem_cons_of_mem _ (List.mem_cons_of_mem _ List.mem_cons_self)) 0 (.int .i64 i.op) rfl; have c1 := H.at (b := b + 1) (t := 47) (c := i.cells) (List.mem_cons_of_mem _ (List.mem_cons_of_mem _ List.mem_cons_self)) 1 (.int .i64 i.sub) rfl; have c2 := H.at (b := b + 1) (t := 47) (c := i.cells) (List.mem_cons_of_mem _ (List.mem_cons_of_mem _ List.mem_cons_self)) 2 (.int .i64 i.rd) rfl; rw [e.out] at c0; rw [s.out] at c1; simp only [Act.put]) | ((with_reducible refine wpList_put_w rfl 22 _ _ rfl H hne 2 .u64 _ rfl rfl _ (Wnt.a2 _) size22 _ (Wnt.s2 _ _) ?_); intro wp H _; have c0 := H.at (b := b + 1) (t := 47) (c := i.cells) (List.mem_cons_of_mem _ (List.mem_cons_of_mem _ List.mem_cons_self)) 0 (.int .i64 i.op) rfl; have c1 := H.at (b := b + 1) (t := 47) (c := i.cells) (List.mem_cons_of_mem _ (List.mem_cons_of_mem _ List.mem_cons_self)) 1 (.int .i64 i.sub) rfl; have c2 := H.at (b := b + 1) (t := 47) (c := i.cells) (List.mem_cons_of_mem _ (List.mem_cons_of_mem _ List.mem_cons_self)) 2 (.int .i64 i.rd) rfl; rw [e.out] at c0; rw [s.out] at c1; simp only [Act.put]) | ((with_reducible refine wpList_putB_w rfl 4 _ _ rfl H hne 4 _ rfl rfl _ (Wnt.a4 _) size4 _ (Wnt.s4 _ _) ?_); intro wp H _; have c0 := H.at (b := b + 1) (t := 47) (c := i.cells) (List.mem_cons_of_mem _ (List.mem_cons_of_mem _ List.mem_cons_self)) 0 (.int .i64 i.op) rfl; have c1 := H.at (b := b + 1) (t := 47) (c := i.cells) (List.mem_cons_of_mem _ (List.mem_cons_of_mem _ List.mem_cons_self)) 1 (.int .i64 i.sub) rfl; have c2 := H.at (b := b + 1) (t := 47) (c := i.cells) (List.mem_cons_of_mem _ (List.mem_cons_of_mem _ List.mem_cons_self)) 2 (.int .i64 i.rd) rfl; rw [e.out] at c0; rw [s.out] at c1; simp only [Act.put]))
    have hzb := (hl (b + 2, Z, 30) List.mem_cons_self).symm
    replace H := Has.pick H
    go_wp2_with (first | ((with_reducible refine wpList_load_ifA rfl 30 _ rfl z rfl 30 _ (0, 0) _ (H.get (List.mem_cons_of_mem _ List.mem_cons_self)) Tryz.underlying30 rfl (Wnt.info _) ?_); simp only [Act.put, List.setIfInBounds_toArray, List.set_cons_succ, List.set_cons_zero]) | ((with_reducible refine wpList_store_w rfl _ _ rfl H (one_other hzb) hZ _ rfl rfl ?_); intro wq H; simp only [Act.put]))
    exact bodyPost_ret (back_w rfl _ _ _ _ _ _ rfl (H.get List.mem_cons_self)) rfl ⟨rfl, by first | exact H.below | (rw [← hb]; exact H.below)⟩
end Go.Proofs.YtbjcdpmhmebjnaaGreat
