/- The state of a run; operations copied. -/
import Derived.Test.YtioeiogcejikbaaDoorJi
import Derived.Maps.AppendAt
import Derived.Laws.MakeOwn
namespace Go.Proofs.YtioeiogcejikbaaDoor
open Go.RowKit
set_option linter.unusedVariables false
set_option linter.unusedSimpArgs false
set_option maxRecDepth 8000

section
variable {l : List Opr} {g vb : Nat} {so : Value} {S : Rn} {w w' : World}
theorem core_range (H : RunAt l g vb so S w) : w.rangeAt g 3 S.c.cells.toList := by
  intro j v hv
  have hv' : S.c.cells[j]? = some v := by simpa using hv
  have hj : j < 49 := by have := (Array.getElem?_eq_some_iff.1 hv').1; rwa [Cor.size] at this
  rw [H.cc j hj, hv']
theorem info29l (c : Cor) : (Tryd.prog.info? 29).map (·.size) = some c.cells.toList.length := by rw [Array.length_toList]; exact c.info
theorem run_load_core (H : RunAt l g vb so S w) : (loadVar 29 ⟨g, 3, none⟩).run Tryd.prog w = .ok S.c.val w := by
  have := run_loadVar_mid w g 3 29 S.c.cells.toList _ (core_range H) Tryd.underlying29 rfl (info29l S.c)
  rwa [Array.toArray_toList] at this
theorem wpList_load_core {ops : Array Oper} {rest : List Oper} {o : Oper} {a : Act} {w : World} {Q : Exit → Act → World → Prop} (hw : Region.wanted o (yielded ops a.tmps) = true) (x : Operand) (ho : o.op = .load 29 x)
    (hx : a.eval x = ptr g 3) (H : RunAt l g vb so S w)
    (h : wpList Tryd.prog ops Q rest (a.put o.dst S.c.val) w) : wpList Tryd.prog ops Q (o :: rest) a w := by
  refine BigFrame.wpList_want hw fun K hK => ?_
  unfold Oper.wp execOp
  simp only [ho, hx, Instr.loadAt, Instr.sureAddr, Sem.run_bind, Sem.run_pure, Result.andThen_ok, run_load_core H]
  exact hK _ _ h
theorem nilC_size (c : Cor) : nilC.cells.size = c.cells.size := by rw [Cor.size, Cor.size]
set_option maxHeartbeats 2000000 in
theorem core_c (H : RunAt l g vb so S w) : Calls Tryd.prog 10 #[ptr g 0] w fun e w' => e = .returned S.c.val ∧ Below w.heap.size w w' := by
  have hz : Tryd.prog.info? 29 = Tryd.prog.info? 29 := rfl
  go_enter Tryd.func10, Tryd.ntmps10
  go_upto_region 1 with fail
  have hB := fun C => below_alloc w (.cells C 29)
  have hrow := fun C => heap_alloc_new w (.cells C 29)
  generalize hw1 : World.alloc _ _ = w1
  replace hrow : ∃ C : Array Value, C.size = S.c.cells.size ∧ w1.heap[w.heap.size]? = some (.cells C 29) := by
    refine ⟨_, ?_, (by rw [← hw1]; exact hrow _)⟩
    rw [Cor.size]; kernel_rfl
  replace hB : Below w.heap.size w w1 := by rw [← hw1]; exact hB _
  obtain ⟨C, hC, hrow⟩ := hrow
  clear hw1
  have H1 := H.grow hB
  go_wp2_with (first | ((with_reducible refine wpList_load_core rfl _ rfl rfl H1 ?_); simp only [Act.put, List.setIfInBounds_toArray, List.set_cons_succ, List.set_cons_zero]) | ((with_reducible refine wpList_store_row rfl 29 _ _ rfl w.heap.size S.c.cells rfl rfl 29 _ hrow (Cor.info _) hC (Cor.one _) ?_); try simp only [Act.put]))
  refine bodyPost_ret (back_one rfl _ _ w.heap.size S.c (0, 0) 29 rfl (setRow_heap _ _ _ _ _ _ hrow)) rfl ?_
  exact ⟨rfl, below_setRow hB (Nat.le_refl _)⟩
end
/-- The operations copied. -/
theorem info42 : (Tryd.prog.info? 42).map (fun i => (i.zero, i.size, i.bytes)) = some (some (opV nilO), 6, 48) := by kernel_rfl
def opF (l : List Opr) : List Value := l.flatMap fun o => (opA o).toList
theorem opF_len (l : List Opr) : (opF l).length = l.length * 6 := by
  induction l with
  | nil => rfl
  | cons a l ih => simp only [opF, List.flatMap_cons, List.length_append, List.length_cons] at ih ⊢; rw [ih]; simp; omega
theorem opF_get {l : List Opr} : ∀ {k : Nat} {o : Opr}, l[k]? = some o → ∀ j, j < 6 → (opF l)[k * 6 + j]? = (opA o)[j]? := by
  induction l with
  | nil => intro k o h; simp at h
  | cons a l ih =>
    intro k o h j hj
    have e : opF (a :: l) = (opA a).toList ++ opF l := rfl
    rw [e]
    cases k with
    | zero =>
      simp at h; subst h
      rw [List.getElem?_append_left (by simp; omega)]
      simp
    | succ k =>
      rw [List.getElem?_append_right (by simp; omega), ← ih (by simpa using h) j hj]
      congr 1
      simp
      omega
theorem one_opF (l : List Opr) : ∀ u ∈ opF l, u.oneCell' = true := by
  intro u hu
  simp only [opF, List.mem_flatMap] at hu
  obtain ⟨o, _, h⟩ := hu
  exact Array.all_eq_true_iff_forall_mem.1 (op_one o) u (by simpa using h)
theorem Ops.flat {w : World} {ra : Addr} {n cap : Nat} {l : List Opr} (h : Ops w (.slice (some ra) n cap) l) (h0 : 0 < l.length) (j : Nat) (u : Value) (hu : (opF l)[j]? = some u) : w.cell? (ra.add j) = some u := by
  obtain ⟨rb, c2, e, hc⟩ := h.cell h0
  cases e
  have hj : j < l.length * 6 := by have := (List.getElem?_eq_some_iff.1 hu).1; rwa [opF_len] at this
  have hk : j / 6 < l.length := by omega
  have A := hc (j / 6) _ (opAt_some hk)
  have e1 : j = j / 6 * 6 + j % 6 := by omega
  have hg := opF_get (opAt_some hk) (j % 6) (Nat.mod_lt _ (by decide))
  rw [← e1, hu] at hg
  have e2 : ra.add j = if j % 6 = 0 then ra.add (j / 6 * 6) else ⟨(ra.add (j / 6 * 6)).block, (ra.add (j / 6 * 6)).off + j % 6, none⟩ := by
    split
    · rename_i hz; congr 1; omega
    · rename_i hz
      unfold Addr.add
      rw [if_neg (by omega)]
      split
      · rename_i h6; have : j / 6 = 0 := by omega
        simp only [Addr.mk.injEq, true_and, and_true]; omega
      · simp only [Addr.mk.injEq, true_and, and_true]; omega
  rw [e2]
  have hm : j % 6 < 6 := Nat.mod_lt _ (by decide)
  generalize j % 6 = m at hg hm ⊢
  match m, hm with
  | 0, _ => rw [if_pos rfl, A.c0]; exact hg.symm
  | 1, _ => rw [if_neg (by decide), A.c1]; exact hg.symm
  | 2, _ => rw [if_neg (by decide), A.c2]; exact hg.symm
  | 3, _ => rw [if_neg (by decide), A.c3]; exact hg.symm
  | 4, _ => rw [if_neg (by decide), A.c4]; exact hg.symm
  | 5, _ => rw [if_neg (by decide), A.c5]; exact hg.symm
  | m + 6, h => exact absurd h (by omega)
theorem run_copyO {w : World} {v : Value} {l : List Opr} (hv : Ops w v l) (hl : l.length * 48 ≤ 140737488351232) (ty : TypeId) : ∃ v' w', (Builtin.append_ #[23, 23] ty #[.slice none 0 0, v]).run Tryd.prog w = .ok v' w' ∧ w'.ownsRow w.heap.size 42 6 v' l.length (opF l) ∧ Below w.heap.size w w' := by
  obtain ⟨i, h1, h2, h3, h4⟩ := info_parts info42
  have hown : w.ownsRow w.heap.size 42 6 (.slice none 0 0) 0 [] := ⟨rfl, .inl ⟨rfl, rfl⟩⟩
  obtain ⟨ao, cap, ev⟩ := hv.len
  have hmx := hv.max
  subst ev
  cases ao with
  | none =>
    obtain rfl : l = [] := by
      cases l with
      | nil => rfl
      | cons p l =>
        obtain ⟨ra, c2, e2, _⟩ := hv.cell (by simp)
        cases e2
    have hr : (Builtin.append_ #[23, 23] ty #[.slice none 0 0, .slice none 0 cap]).run Tryd.prog w = .ok (.slice none 0 0) w := by
      simp [Builtin.append_, run_underlying Tryd.underlying23, sizeOf, typeInfo, h1, Builtin.lenOf, Builtin.firstCells]
    exact ⟨_, w, hr, hown, Below.refl _ _⟩
  | some ra =>
    have hc : ∀ j u, (opF l)[j]? = some u → w.cell? (ra.add j) = some u := fun j u hu => by
      have h0 : 0 < l.length := by
        cases l with
        | nil => simp [opF] at hu
        | cons _ _ => simp
      exact hv.flat h0 j u hu
    obtain ⟨v', w', hr, q1, q2, _, _⟩ := run_append_own_at (P := Tryd.prog) w w.heap.size 23 ty 42 i (opV nilO) 6 48 Tryd.underlying23 h1 h2 h3 h4 rfl (by decide) (.slice none 0 0) 0 [] hown ra l.length cap (opF l) (opF_len l) hc (one_opF l) (by simp only [maxLen]; omega) (by omega) (Nat.le_refl _)
    rw [Nat.zero_add, List.nil_append] at q1
    exact ⟨v', w', hr, q1, (goes_grown (F := fun _ => False) q2 (fun k hk => by cases hk)).below (Nat.le_refl _) (fun _ h => h.elim)⟩
/-- The same onto a row of nothing. -/
theorem run_cloneO {w : World} {b : Nat} {v : Value} {l : List Opr} (hv : Ops w v l) (h0 : 0 < l.length) (hl : l.length ≤ 512) (hb : w.heap[b]? = some (.cells #[] 42)) (base : Nat) (hbase : base ≤ b) (ty : TypeId) : ∃ v' w', (Builtin.append_ #[23, 23] ty #[.slice (some ⟨b, 0, none⟩) 0 0, v]).run Tryd.prog w = .ok v' w' ∧ w'.ownsRow base 42 6 v' l.length (opF l) ∧ Goes (fun k => k = b) w w' := by
  obtain ⟨i, h1, h2, h3, h4⟩ := info_parts info42
  have hown : w.ownsRow base 42 6 (.slice (some ⟨b, 0, none⟩) 0 0) 0 [] := ⟨rfl, .inr ⟨b, 0, #[], rfl, hbase, hb, Nat.le_refl _, Nat.zero_le _, rfl, rfl⟩⟩
  obtain ⟨ra, cap, ev, _⟩ := hv.cell h0
  subst ev
  obtain ⟨v', w', hr, q1, q2, _, _⟩ := run_append_own_at (P := Tryd.prog) w base 23 ty 42 i (opV nilO) 6 48 Tryd.underlying23 h1 h2 h3 h4 rfl (by decide) (.slice (some ⟨b, 0, none⟩) 0 0) 0 [] hown ra l.length cap (opF l) (opF_len l) (fun j u hu => hv.flat h0 j u hu) (one_opF l) (by simp only [maxLen]; omega) (by omega) (by have := lt_of_some hb; omega)
  rw [Nat.zero_add, List.nil_append] at q1
  exact ⟨v', w', hr, q1, goes_grown q2 (fun k hk => by simpa [Value.ownBlock] using hk.symm)⟩
theorem run_none23 (w : World) : (Instr.buildSlice 23 0 #[]).run Tryd.prog w = .ok (.slice (some ⟨w.heap.size, 0, none⟩) 0 0) (w.alloc (.cells #[] 42)) := by
  obtain ⟨i, hi, hz, hs, hby⟩ := info_parts info42
  simp [Instr.buildSlice, run_underlying Tryd.underlying23, sizeOf, typeInfo, hi, hs, Instr.fill, newRow]
  congr 2
  apply Array.ext <;> simp
theorem wpList_none23 {ops : Array Oper} {rest : List Oper} {o : Oper} {a : Act} {w : World} {Q : Exit → Act → World → Prop} (hg : o.guard = none) (ho : o.op = .buildSlice 23 0 #[])
    (h : wpList Tryd.prog ops Q rest (a.put o.dst (.slice (some ⟨w.heap.size, 0, none⟩) 0 0)) (w.alloc (.cells #[] 42))) : wpList Tryd.prog ops Q (o :: rest) a w :=
  wpList_plain hg fun _ hK => by
    unfold Oper.wp execOp
    simp only [ho, Sem.run_bind, List.map_toArray, List.map_nil, run_none23, Result.andThen_ok]
    exact hK _ _ h
theorem wpList_clone {ops : Array Oper} {rest : List Oper} {o : Oper} {a : Act} {w : World} {Q : Exit → Act → World → Prop} (hgd : o.guard = none) (s x : Operand) (ho : o.op = .call { callee := .builtin .append, args := #[s, x], argTypes := #[23, 23] }) {v : Value} {b base : Nat} {l : List Opr} (hs : a.eval s = .slice (some ⟨b, 0, none⟩) 0 0) (hx : a.eval x = v) (O : Ops w v l) (h0 : 0 < l.length) (hl : l.length ≤ 512) (hb : w.heap[b]? = some (.cells #[] 42)) (hbase : base ≤ b)
    (h : ∀ v' w', w'.ownsRow base 42 6 v' l.length (opF l) → Goes (fun k => k = b) w w' → wpList Tryd.prog ops Q rest (a.put o.dst v') w') : wpList Tryd.prog ops Q (o :: rest) a w :=
  wpList_plain hgd fun _ hK => by
    obtain ⟨v', w', hr, q1, q2⟩ := run_cloneO O h0 hl hb base hbase o.type
    unfold Oper.wp execOp
    simp only [ho, resolve, invoke, builtin, Sem.run_bind, Sem.run_pure, Result.andThen_ok, List.map_toArray, List.map_cons, List.map_nil, hs, hx, hr]
    exact hK _ _ (h v' w' q1 q2)
set_option maxHeartbeats 2000000 in
theorem clone_c {w : World} {v : Value} {l : List Opr} (O : Ops w v l) (h0 : 0 < l.length) (hl : l.length ≤ 512) : Calls Tryd.prog 18 #[v] w fun e w' => ∃ v', e = .returned v' ∧ w'.ownsRow w.heap.size 42 6 v' l.length (opF l) ∧ Below w.heap.size w w' := by
  obtain ⟨ra, cap, ev, _⟩ := O.cell h0
  subst ev
  have O1 := O.grow (below_alloc w (.cells #[] 42))
  have hrow : (w.alloc (.cells #[] 42)).heap[w.heap.size]? = some (.cells #[] 42) := heap_alloc_new _ _
  have hB := below_alloc w (.cells #[] 42)
  have hrun : ∀ w, Sem.run Tryd.prog (binOp BinOp.eql 23 (Value.slice (some ra) l.length cap) (Value.slice none 0 0)) w = .ok (.bool false) w := fun _ => by kernel_rfl
  go_enter Tryd.func18, Tryd.ntmps18
  go_upto_region 3 with fail
  refine wp_region_lit ?_
  with_reducible refine wpList_none23 rfl rfl ?_
  simp only [Act.put, List.setIfInBounds_toArray, List.set_cons_succ, List.set_cons_zero];
  generalize w.alloc (.cells #[] 42) = w1 at *
  go_wp2_with (first | (at_builtin; (refine wpList_clone rfl _ _ rfl rfl rfl O1 h0 hl hrow (Nat.le_refl w.heap.size) ?_); intro v' w2 q1 q2; simp only [Act.put, List.setIfInBounds_toArray, List.set_cons_succ, List.set_cons_zero]))
  go_ret
  exact ⟨_, rfl, q1, hB.trans (q2.below hB.size (fun k hk => by omega))⟩
theorem made_zero (n : Nat) : madeCells #[vU 0] n = ((List.replicate n (0 : Int)).map vU).toArray := by
  apply Array.ext
  · simp [madeCells]
  · intro i h1 h2
    simp [madeCells]
    rw [Nat.mod_one]
    rfl
theorem info22p : (Tryd.prog.info? 22).map (fun i => (i.zero, i.size, i.bytes)) = some (some (vU 0), 1, 8) := by kernel_rfl
theorem run_mk (w : World) (n : Nat) (hn : n ≤ 512) : (Instr.makeSlice 58 (vI n) (vI n)).run Tryd.prog w = .ok (.slice (some ⟨w.heap.size, 0, none⟩) n n) (w.alloc (.cells ((List.replicate n (0 : Int)).map vU).toArray 22)) := by
  obtain ⟨i, h1, h2, h3, h4⟩ := info_parts info22p
  have hr := run_makeSlice (P := Tryd.prog) w 58 22 i (vU 0) Tryd.underlying58 h1 h2 .i64 .i64 n n (by omega) (by omega) (by rw [h3, Int.toNat_natCast]; omega) (by rw [h4]; omega) (by omega)
  rw [Int.toNat_natCast, h3, Nat.mul_one] at hr
  rw [← made_zero]
  exact hr
end Go.Proofs.YtioeiogcejikbaaDoor
