/- Mark, Marked, Take. -/
import Derived.Test.YtgloemlbkkjcaaaMd
import Derived.Test.YtgloemlbkkjcaaaRelD
namespace Go.Proofs.Ytgloemlbkkjcaaa
open Go.RowKit
set_option linter.unusedVariables false
set_option linter.unusedSimpArgs false

theorem rel_loadMs {G : World → World → Prop} (hG : ∀ w, G w w) {w : World} {o : Oper} {a : Act} (x : Operand) (ho : o.op = .load 57 x) (b k : Nat) (hx : a.eval x = ptr b k) (ms : List Mk) (hr : w.rangeAt b k (flatM ms)) (hl : ms.length = 8) : Rel.relUpon Try.prog G (fun v _ => v = .agg (flatM ms).toArray) w ((execOp a.eval o).run Try.prog w) := by
  unfold execOp
  simp only [ho, hx, Instr.loadAt, Instr.sureAddr, Sem.run_bind, Sem.run_pure, Result.andThen_ok, run_loadVar_mid w b k 57 (flatM ms) _ hr Try.underlying57 rfl (size57 hl)]
  exact ⟨hG w, rfl⟩
theorem rel_loadMk {G : World → World → Prop} (hG : ∀ w, G w w) {w : World} {o : Oper} {a : Act} (x : Operand) (ho : o.op = .load 55 x) (b k : Nat) (hx : a.eval x = ptr b k) (s : Mk) (hr : w.rangeAt b k s.row) : Rel.relUpon Try.prog G (fun v _ => v = s.val) w ((execOp a.eval o).run Try.prog w) := by
  unfold execOp
  simp only [ho, hx, Instr.loadAt, Instr.sureAddr, Sem.run_bind, Sem.run_pure, Result.andThen_ok, run_loadVar_mid w b k 55 s.row _ hr Try.underlying55 rfl inf55]
  exact ⟨hG w, rfl⟩
theorem rel_eqlM {G : World → World → Prop} (hG : ∀ w, G w w) {w : World} {o : Oper} {a : Act} (x y : Operand) (ho : o.op = .binOp .eql 55 x y 55) (s t : Mk) (hx : a.eval x = s.val) (hy : a.eval y = t.val) : Rel.relUpon Try.prog G (fun v _ => v = .bool (eqM s t)) w ((execOp a.eval o).run Try.prog w) := by
  have he := mk_eq s t w
  unfold execOp
  simp only [ho, hx, hy, Sem.run_bind, run_eqGuard_agg w _ _ _ _ _ _ guard55, Result.andThen_ok, run_eql_struct, he]
  exact ⟨hG w, rfl⟩
theorem rel_storeMs {G : World → World → Prop} {F : Value → World → Prop} {w : World} {o : Oper} {a : Act} (x y : Operand) (ho : o.op = .store 57 x y) (b k : Nat) (hx : a.eval x = ptr b k) (ms : List Mk) (hy : a.eval y = .agg (flatM ms).toArray) (hl : ms.length = 8) (C : List Value) (t : TypeId) (hb : w.heap[b]? = some (.cells C.toArray t)) (hk : k + 16 ≤ C.length)
    (hG : G w (w.setRow b (seg C k (flatM ms)).toArray)) (hF : F undef (w.setRow b (seg C k (flatM ms)).toArray)) : Rel.relUpon Try.prog G F w ((execOp a.eval o).run Try.prog w) := by
  have e : (flatM ms).toArray.size = 16 := by rw [List.size_toArray, len_flatM, hl]
  have hs := run_storeVar_mid (P := Try.prog) w b k 57 (flatM ms).toArray (there_of hb (by rw [e]; exact hk)) (by rw [e]; exact inf57) (all_oneCell_toArray (one_flatM ms))
  rw [List.toList_toArray, setCells_row (flatM ms) k C w hb] at hs
  unfold execOp
  simp only [ho, hx, hy, Instr.storeAt, Instr.sureAddr, Sem.run_bind, Sem.run_pure, Result.andThen_ok, hs]
  exact ⟨hG, hF⟩
theorem grows_refl (w : World) : Rel.Grows w w := Below.refl _ _
set_option maxRecDepth 8000 in
theorem mark_c (g : Nat) (n : Int) (ms : List Mk) (core addr : Int) (w : World) (H : MonAt g n ms w) (hn : n ≤ 8) (hA : U64 addr) : Calls Try.prog 10 #[ptr g 0, vI core, vU addr] w fun e w' => e = .returned (vI (if hasB n core then 0 else 1)) ∧ MTurn g n (if hasB n core then ms.set core.toNat (ofV addr) else ms) w w' := by
  cases hB : hasB n core
  · go_enter Try.func10, Try.ntmps10
    go_wp2_with (go_at_call 19; refine (hasCore_c g n ms core _ H).mono ?_; rintro e w' ⟨rfl, rfl⟩; dsimp only; rw [show (decide (0 ≤ core) && decide (core < n)) = false from hB])
    go_ret
    exact ⟨rfl, mturn_refl H⟩
  · obtain ⟨k, rfl⟩ : ∃ k : Nat, core = k := ⟨core.toNat, by have := (hasB_iff.1 hB).1; omega⟩
    have hk := (hasB_iff.1 hB).2
    have hk8 : k < 8 := by omega
    have hl2 : (ms.set k (ofV addr)).length = 8 := by rw [List.length_set]; exact H.len
    simp only [if_true, Int.toNat_natCast]
    go_enter Try.func10, Try.ntmps10
    go_upto_region 3 with (go_at_call 19; refine (hasCore_c g n ms k _ H).mono ?_; rintro e w' ⟨rfl, rfl⟩; dsimp only; rw [show (decide (0 ≤ (k : Int)) && decide ((k : Int) < n)) = true from hB])
    refine Rel.wp_region_tail 9 Rel.Grows (fun x => Below w'.heap.size w' x) [.inl (ptr g 0), .inl (ptr g 0), .inl (ptr g 0), .inl (ptr g 1), .inl (.agg (flatM ms).toArray), .inl (vI k), .inl (vU addr), .inl (ofV addr).val, .inl (.agg (flatM (ms.set k (ofV addr))).toArray)] (by kernel_rfl) (by kernel_rfl) (fun a b h1 h2 => below_then h1 (Nat.le_refl _) h2) ⟨rfl, rfl, rfl, Nat.le_refl _, fun _ _ => rfl⟩ ?_ ?_
    · intro k hk
      simp only [List.mem_cons, List.not_mem_nil, or_false] at hk
      rcases hk with rfl | rfl | rfl | rfl | rfl | rfl | rfl | rfl | rfl <;> trivial
    iterate 4
      refine ⟨fun w1 hC hF => by (go_simp <;> exact Below.refl _ _), ?_⟩
      simp only [Act.put, List.setIfInBounds_toArray, List.set_cons_succ, List.set_cons_zero]
    refine ⟨fun w1 hC hF => rel_loadMs grows_refl _ rfl g 1 rfl ms (H.grow hC).all H.len, ?_⟩
    simp only [Act.put, List.setIfInBounds_toArray, List.set_cons_succ, List.set_cons_zero]
    iterate 2
      refine ⟨fun w1 hC hF => by (go_simp <;> exact Below.refl _ _), ?_⟩
      simp only [Act.put, List.setIfInBounds_toArray, List.set_cons_succ, List.set_cons_zero]
    refine ⟨fun w1 hC hF => by
      go_simp
      refine (of_c addr w1 hA).mono ?_
      rintro e w'' ⟨rfl, hb⟩
      exact ⟨rfl, hb⟩, ?_⟩
    simp only [Act.put, List.setIfInBounds_toArray, List.set_cons_succ, List.set_cons_zero]
    refine ⟨fun w1 hC hF => by
      go_simp
      refine (with_c ms k (ofV addr) w1 H.len hk8).mono ?_
      rintro e w'' ⟨rfl, hb⟩
      exact ⟨rfl, hb⟩, ?_⟩
    simp only [Act.put, List.setIfInBounds_toArray, List.set_cons_succ, List.set_cons_zero]
    intro y hb hF
    simp only [List.drop_succ_cons, List.drop_zero]
    go_wp2_with (first | ((with_reducible refine wpList_storeMs rfl _ _ rfl g 1 rfl (ms.set k (ofV addr)) rfl hl2 (monC n ms) 59 (H.grow hb).row (by rw [monC, List.length_cons, len_flatM, H.len]; decide) ?_); simp only [Act.put, List.setIfInBounds_toArray, List.set_cons_succ, List.set_cons_zero]))
    go_ret
    exact ⟨rfl, H.put hb hl2⟩
def mkAt (ms : List Mk) (core : Int) : Mk := ms.getD core.toNat (false, 0)
theorem mkAt_get {ms : List Mk} {k : Nat} (h : k < ms.length) : ms[k]? = some (mkAt ms k) := by
  rw [mkAt, Int.toNat_natCast, List.getD_eq_getElem?_getD, List.getElem?_eq_getElem h]; rfl
set_option maxRecDepth 8000 in
theorem marked_c (g : Nat) (n : Int) (ms : List Mk) (core : Int) (w : World) (H : MonAt g n ms w) (hn : n ≤ 8) (hA : ∀ s ∈ ms, 0 ≤ s.2 ∧ s.2 * 64 < 18446744073709551616) : Calls Try.prog 17 #[ptr g 0, vI core] w fun e w' => e = .returned (if hasB n core then .tuple #[vU ((mkAt ms core).2 * 64), .bool (mkAt ms core).1, vI 0] else .tuple #[vU 0, .bool false, vI 1]) ∧ Below w.heap.size w w' := by
  cases hB : hasB n core
  · go_enter Try.func17, Try.ntmps17
    go_wp2_with (go_at_call 19; refine (hasCore_c g n ms core _ H).mono ?_; rintro e w' ⟨rfl, rfl⟩; dsimp only; rw [show (decide (0 ≤ core) && decide (core < n)) = false from hB])
    refine bodyPost_ret (v := .tuple #[vU 0, .bool false, vI 1]) (by simp [results, Try.f17, go_sem]) rfl ⟨rfl, Below.refl _ _⟩
  · obtain ⟨k, rfl⟩ : ∃ k : Nat, core = k := ⟨core.toNat, by have := (hasB_iff.1 hB).1; omega⟩
    have hk := (hasB_iff.1 hB).2
    have hk8 : k < 8 := by omega
    have hk1 : (k : Int) < 8 := by omega
    have hk0 : (0 : Int) ≤ k := by omega
    have hs := mkAt_get (ms := ms) (k := k) (by rw [H.len]; exact hk8)
    have hs2 := hA _ (List.mem_of_getElem? hs)
    simp only [if_true]
    generalize mkAt ms k = s at hs hs2 ⊢
    have hr := H.one hs
    go_enter Try.func17, Try.ntmps17
    go_upto_region 4 with (first | (go_at_call 19; refine (hasCore_c g n ms k _ H).mono ?_; rintro e w' ⟨rfl, rfl⟩; dsimp only; rw [show (decide (0 ≤ (k : Int)) && decide ((k : Int) < n)) = true from hB]) | ((with_reducible refine wpList_loadMk rfl _ rfl g (1 + k * 2) rfl s hr ?_); simp only [Act.put, List.setIfInBounds_toArray, List.set_cons_succ, List.set_cons_zero]))
    have hq : (w'.alloc (.cells #[.bool s.1, .int .u64 s.2] 55)).heap[w'.heap.size]? = some (.cells s.row.toArray 55) := heap_alloc_new _ _
    have hB1 := below_alloc w' (.cells #[.bool s.1, .int .u64 s.2] 55)
    generalize hy : World.alloc w' _ = y at hq hB1 ⊢
    generalize hq0 : w'.heap.size = q at hq ⊢
    have rg : ∀ x, Below y.heap.size y x → x.rangeAt q 0 s.row := fun x hx => range_of (by rw [hx.block q (lt_of_some hq)]; exact hq) (fun j v h => by simpa using h)
    refine Rel.wp_region_rel Rel.Grows (fun x => Below y.heap.size y x) [.inl s.val, .inl (vU (s.2 * 64)), .inl (ptr q 0), .inl (.bool s.1), .inl (vU (s.2 * 64)), .inl (.bool s.1), .inl (vI 0)] (by kernel_rfl) (by kernel_rfl) (fun a b h1 h2 => below_then h1 (Nat.le_refl _) h2) ⟨rfl, rfl, rfl, Nat.le_refl _, fun _ _ => rfl⟩ ?_ ?_
    · intro k hk
      simp only [List.mem_cons, List.not_mem_nil, or_false] at hk
      rcases hk with rfl | rfl | rfl | rfl | rfl | rfl | rfl <;> trivial
    refine ⟨fun w1 hC hF => rel_loadMk grows_refl _ rfl q 0 rfl s (rg w1 hC), ?_⟩
    simp only [Act.put, List.setIfInBounds_toArray, List.set_cons_succ, List.set_cons_zero]
    refine ⟨fun w1 hC hF => by
      go_simp
      refine (begins_c s w1 hs2.1 hs2.2).mono ?_
      rintro e w'' ⟨rfl, hb⟩
      exact ⟨rfl, hb⟩, ?_⟩
    simp only [Act.put, List.setIfInBounds_toArray, List.set_cons_succ, List.set_cons_zero]
    refine ⟨fun w1 hC hF => by (go_simp <;> exact Below.refl _ _), ?_⟩
    simp only [Act.put, List.setIfInBounds_toArray, List.set_cons_succ, List.set_cons_zero]
    refine ⟨fun w1 hC hF => by
      have c0 : w1.cell? ⟨q, 0, none⟩ = some (.bool s.1) := rg w1 hC 0 _ rfl
      go_simp <;> exact Below.refl _ _, ?_⟩
    simp only [Act.put, List.setIfInBounds_toArray, List.set_cons_succ, List.set_cons_zero]
    iterate 3
      refine ⟨fun w1 hC hF => by (go_simp <;> exact Below.refl _ _), ?_⟩
      simp only [Act.put, List.setIfInBounds_toArray, List.set_cons_succ, List.set_cons_zero]
    intro x hb hF
    go_wp2
    refine bodyPost_ret (v := .tuple #[vU (s.2 * 64), .bool s.1, vI 0]) (by simp [results, Try.f17, go_sem]) rfl ⟨rfl, ?_⟩
    rw [← hq0]
    exact below_then hB1 (Nat.le_refl _) hb
set_option maxRecDepth 8000 in
theorem take_c (g : Nat) (n : Int) (ms : List Mk) (core addr : Int) (w : World) (H : MonAt g n ms w) (hn : n ≤ 8) (hA : U64 addr) : Calls Try.prog 15 #[ptr g 0, vI core, vU addr] w fun e w' => e = .returned (.tuple #[.bool (hasB n core && eqM (mkAt ms core) (ofV addr)), vI (if hasB n core then 0 else 1)]) ∧ MTurn g n (if hasB n core then ms.set core.toNat (false, 0) else ms) w w' := by
  cases hB : hasB n core
  · go_enter Try.func15, Try.ntmps15
    go_wp2_with (go_at_call 19; refine (hasCore_c g n ms core _ H).mono ?_; rintro e w' ⟨rfl, rfl⟩; dsimp only; rw [show (decide (0 ≤ core) && decide (core < n)) = false from hB])
    go_ret2
    exact ⟨rfl, mturn_refl H⟩
  · obtain ⟨k, rfl⟩ : ∃ k : Nat, core = k := ⟨core.toNat, by have := (hasB_iff.1 hB).1; omega⟩
    have hk := (hasB_iff.1 hB).2
    have hk8 : k < 8 := by omega
    have hk1 : (k : Int) < 8 := by omega
    have hk0 : (0 : Int) ≤ k := by omega
    have hs := mkAt_get (ms := ms) (k := k) (by rw [H.len]; exact hk8)
    have hl2 : (ms.set k (false, 0)).length = 8 := by rw [List.length_set]; exact H.len
    simp only [if_true, Int.toNat_natCast, Bool.true_and]
    generalize mkAt ms k = s at hs ⊢
    have hr := H.one hs
    go_enter Try.func15, Try.ntmps15
    go_upto_region 4 with (first | (go_at_call 19; refine (hasCore_c g n ms k _ H).mono ?_; rintro e w' ⟨rfl, rfl⟩; dsimp only; rw [show (decide (0 ≤ (k : Int)) && decide ((k : Int) < n)) = true from hB]) | ((with_reducible refine wpList_loadMk rfl _ rfl g (1 + k * 2) rfl s hr ?_); simp only [Act.put, List.setIfInBounds_toArray, List.set_cons_succ, List.set_cons_zero]))
    have hq : (w'.alloc (.cells #[.bool s.1, .int .u64 s.2] 55)).heap[w'.heap.size]? = some (.cells s.row.toArray 55) := heap_alloc_new _ _
    have hB1 := below_alloc w' (.cells #[.bool s.1, .int .u64 s.2] 55)
    generalize hy : World.alloc w' _ = y at hq hB1 ⊢
    generalize hq0 : w'.heap.size = q at hq ⊢
    have H1 : MonAt g n ms y := H.grow hB1
    have hr1 := H1.all
    have hgq : q ≠ g := by have := H.lt; omega
    clear hr
    go_upto_region 5 with (first | ((with_reducible refine wpList_loadMs rfl _ rfl g 1 rfl ms hr1 H.len ?_); simp only [Act.put, List.setIfInBounds_toArray, List.set_cons_succ, List.set_cons_zero]) | (go_at_call 20; refine (with_c ms k (false, 0) _ H.len hk8).mono ?_; rintro e y2 ⟨rfl, hb⟩; dsimp only) | ((with_reducible refine wpList_storeMs rfl _ _ rfl g 1 rfl (ms.set k (false, 0)) rfl hl2 (monC n ms) 59 (H1.grow hb).row (by rw [monC, List.length_cons, len_flatM, H.len]; decide) ?_); simp only [Act.put, List.setIfInBounds_toArray, List.set_cons_succ, List.set_cons_zero]))
    have T := H1.put hb hl2
    have hq2 := hq
    rw [← T.2.block q (lt_of_some hq) hgq] at hq2
    generalize World.setRow y2 g _ = y3 at T hq2 ⊢
    have rg : ∀ x, Below y3.heap.size y3 x → x.rangeAt q 0 s.row := fun x hx => range_of (by rw [hx.block q (lt_of_some hq2)]; exact hq2) (fun j v h => by simpa using h)
    refine Rel.wp_region_rel Rel.Grows (fun x => Below y3.heap.size y3 x) [.inl s.val, .inl (vU addr), .inl (ofV addr).val, .inl (.bool (eqM s (ofV addr))), .inl (.bool (eqM s (ofV addr))), .inl (vI 0)] (by kernel_rfl) (by kernel_rfl) (fun a b h1 h2 => below_then h1 (Nat.le_refl _) h2) ⟨rfl, rfl, rfl, Nat.le_refl _, fun _ _ => rfl⟩ ?_ ?_
    · intro k hk
      simp only [List.mem_cons, List.not_mem_nil, or_false] at hk
      rcases hk with rfl | rfl | rfl | rfl | rfl | rfl <;> trivial
    refine ⟨fun w1 hC hF => rel_loadMk grows_refl _ rfl q 0 rfl s (rg w1 hC), ?_⟩
    simp only [Act.put, List.setIfInBounds_toArray, List.set_cons_succ, List.set_cons_zero]
    refine ⟨fun w1 hC hF => by (go_simp <;> exact Below.refl _ _), ?_⟩
    simp only [Act.put, List.setIfInBounds_toArray, List.set_cons_succ, List.set_cons_zero]
    refine ⟨fun w1 hC hF => by
      go_simp
      refine (of_c addr w1 hA).mono ?_
      rintro e w'' ⟨rfl, hb⟩
      exact ⟨rfl, hb⟩, ?_⟩
    simp only [Act.put, List.setIfInBounds_toArray, List.set_cons_succ, List.set_cons_zero]
    refine ⟨fun w1 hC hF => rel_eqlM grows_refl _ _ rfl s (ofV addr) rfl rfl, ?_⟩
    simp only [Act.put, List.setIfInBounds_toArray, List.set_cons_succ, List.set_cons_zero]
    iterate 2
      refine ⟨fun w1 hC hF => by (go_simp <;> exact Below.refl _ _), ?_⟩
      simp only [Act.put, List.setIfInBounds_toArray, List.set_cons_succ, List.set_cons_zero]
    intro x hb3 hF
    go_wp2
    go_ret2
    refine ⟨rfl, T.1.grow hb3, ((goes_of_below hB1).trans T.2 fun _ _ e => e).grow hb3⟩
end Go.Proofs.Ytgloemlbkkjcaaa
