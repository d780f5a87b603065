/- Rows of operations: copied, laid, stored. -/
import Derived.Test.YtilbnjldfgofmaaFr
import Derived.Deep.AppendSrc
import Derived.Laws.AppendOwnNone
import Derived.Deep.AppendLies
namespace Go.Proofs.Ytilbnjldfgofmaa
open Go.RowKit
set_option linter.unusedVariables false
set_option linter.unusedSimpArgs false
set_option maxRecDepth 8000

theorem info42 : (Try.prog.info? 40).map (fun i => (i.zero, i.size, i.bytes)) = some (some (opV nilO), 6, 48) := by kernel_rfl
def opF (l : List Opr) : List Value := l.flatMap fun o => (opA o).toList
theorem opF_len (l : List Opr) : (opF l).length = l.length * 6 := by
  induction l with
  | nil => rfl
  | cons a l ih => simp only [opF, List.flatMap_cons, List.length_append, List.length_cons] at ih ⊢; rw [ih]; simp; omega
theorem opF_get {l : List Opr} : ∀ {k : Nat} {o : Opr}, l[k]? = some o → ∀ j, j < 6 → (opF l)[k * 6 + j]? = (opA o)[j]? := by
  induction l with
  | nil => intro k o h; simp at h
  | cons a l ih =>
    intro k o h j hj
    have e : opF (a :: l) = (opA a).toList ++ opF l := rfl
    rw [e]
    cases k with
    | zero =>
      simp at h; subst h
      rw [List.getElem?_append_left (by simp; omega)]
      simp
    | succ k =>
      rw [List.getElem?_append_right (by simp; omega), ← ih (by simpa using h) j hj]
      congr 1
      simp
      omega
theorem one_opF (l : List Opr) : ∀ u ∈ opF l, u.oneCell' = true := by
  intro u hu
  simp only [opF, List.mem_flatMap] at hu
  obtain ⟨o, _, h⟩ := hu
  exact Array.all_eq_true_iff_forall_mem.1 (op_one o) u (by simpa using h)
theorem Ops.flat {w : World} {ra : Addr} {n cap : Nat} {l : List Opr} (h : Ops w (.slice (some ra) n cap) l) (h0 : 0 < l.length) (j : Nat) (u : Value) (hu : (opF l)[j]? = some u) : w.cell? (ra.add j) = some u := by
  obtain ⟨rb, c2, e, hc⟩ := h.cell h0
  cases e
  have hj : j < l.length * 6 := by have := (List.getElem?_eq_some_iff.1 hu).1; rwa [opF_len] at this
  have hk : j / 6 < l.length := by omega
  have A := hc (j / 6) _ (opAt_some hk)
  have e1 : j = j / 6 * 6 + j % 6 := by omega
  have hg := opF_get (opAt_some hk) (j % 6) (Nat.mod_lt _ (by decide))
  rw [← e1, hu] at hg
  have e2 : ra.add j = if j % 6 = 0 then ra.add (j / 6 * 6) else ⟨(ra.add (j / 6 * 6)).block, (ra.add (j / 6 * 6)).off + j % 6, none⟩ := by
    split
    · rename_i hz; congr 1; omega
    · rename_i hz
      unfold Addr.add
      rw [if_neg (by omega)]
      split
      · rename_i h6; have : j / 6 = 0 := by omega
        simp only [Addr.mk.injEq, true_and, and_true]; omega
      · simp only [Addr.mk.injEq, true_and, and_true]; omega
  rw [e2]
  have hm : j % 6 < 6 := Nat.mod_lt _ (by decide)
  generalize j % 6 = m at hg hm ⊢
  match m, hm with
  | 0, _ => rw [if_pos rfl, A.c0]; exact hg.symm
  | 1, _ => rw [if_neg (by decide), A.c1]; exact hg.symm
  | 2, _ => rw [if_neg (by decide), A.c2]; exact hg.symm
  | 3, _ => rw [if_neg (by decide), A.c3]; exact hg.symm
  | 4, _ => rw [if_neg (by decide), A.c4]; exact hg.symm
  | 5, _ => rw [if_neg (by decide), A.c5]; exact hg.symm
  | m + 6, h => exact absurd h (by omega)
theorem run_copyO {w : World} {v : Value} {l : List Opr} (hv : Ops w v l) (hl : l.length * 48 ≤ 140737488351232) (ty : TypeId) : ∃ v' w', (Builtin.append_ #[23, 23] ty #[.slice none 0 0, v]).run Try.prog w = .ok v' w' ∧ w'.ownsRow w.heap.size 40 6 v' l.length (opF l) ∧ Below w.heap.size w w' := by
  obtain ⟨i, h1, h2, h3, h4⟩ := info_parts info42
  have hown : w.ownsRow w.heap.size 40 6 (.slice none 0 0) 0 [] := ⟨rfl, .inl ⟨rfl, rfl⟩⟩
  obtain ⟨ao, cap, ev⟩ := hv.len
  have hmx := hv.max
  subst ev
  cases ao with
  | none =>
    obtain rfl : l = [] := by
      cases l with
      | nil => rfl
      | cons p l =>
        obtain ⟨ra, c2, e2, _⟩ := hv.cell (by simp)
        cases e2
    have hr : (Builtin.append_ #[23, 23] ty #[.slice none 0 0, .slice none 0 cap]).run Try.prog w = .ok (.slice none 0 0) w := by
      simp [Builtin.append_, run_underlying Try.underlying23, sizeOf, typeInfo, h1, Builtin.lenOf, Builtin.firstCells]
    exact ⟨_, w, hr, hown, Below.refl _ _⟩
  | some ra =>
    have hc : ∀ j u, (opF l)[j]? = some u → w.cell? (ra.add j) = some u := fun j u hu => by
      have h0 : 0 < l.length := by
        cases l with
        | nil => simp [opF] at hu
        | cons _ _ => simp
      exact hv.flat h0 j u hu
    obtain ⟨v', w', hr, q1, q2, _, _⟩ := run_append_own_at (P := Try.prog) w w.heap.size 23 ty 40 i (opV nilO) 6 48 Try.underlying23 h1 h2 h3 h4 rfl (by decide) (.slice none 0 0) 0 [] hown ra l.length cap (opF l) (opF_len l) hc (one_opF l) (by simp only [maxLen]; omega) (by omega) (Nat.le_refl _)
    rw [Nat.zero_add, List.nil_append] at q1
    exact ⟨v', w', hr, q1, (goes_grown (F := fun _ => False) q2 (fun k hk => by cases hk)).below (Nat.le_refl _) (fun _ h => h.elim)⟩
theorem own_of {w w' : World} {base n size : Nat} {e : TypeId} {v : Value} {xs : List Value} (h : w.ownsRow base e size v n xs) (hk : ∀ g, base ≤ g → w'.heap[g]? = w.heap[g]?) : w'.ownsRow base e size v n xs :=
  ⟨h.1, h.2.imp id fun ⟨g, cap, cur, e, hb, hg, r⟩ => ⟨g, cap, cur, e, hb, by rw [hk g hb]; exact hg, r⟩⟩
structure OpsC (w : World) (v : Value) (l : List Opr) : Prop where
  ops : Ops w v l
  cap : ∀ ao n c, v = .slice ao n c → n ≤ c
  one : v.oneCell' = true
theorem OpsC.grow {w w' : World} {v : Value} {l : List Opr} (h : OpsC w v l) (hb : Below w.heap.size w w') : OpsC w' v l := ⟨h.ops.grow hb, h.cap, h.one⟩
theorem opsC_of {w : World} {base : Nat} {v : Value} {l : List Opr} (h : w.ownsRow base 40 6 v l.length (opF l)) (hm : l.length ≤ maxLen) : OpsC w v l := by
  rcases h.2 with ⟨rfl, h0⟩ | ⟨g, cap, cur, rfl, _, hg, h1, h2, h3, h4⟩
  · obtain rfl : l = [] := List.length_eq_zero_iff.1 h0
    exact ⟨⟨⟨none, 0, rfl⟩, Nat.zero_le _, fun h => absurd h (by simp)⟩, fun ao n c e => (by cases e; exact Nat.le_refl _), rfl⟩
  · refine ⟨⟨⟨_, _, rfl⟩, hm, fun _ => ⟨_, _, rfl, fun k o ho => ?_⟩⟩, fun ao n c e => (by cases e; exact h1), rfl⟩
    have hk : k < l.length := (List.getElem?_eq_some_iff.1 ho).1
    have g1 : ∀ j, j < 6 → w.cell? ⟨g, k * 6 + j, none⟩ = (opA o)[j]? := fun j hj => by
      rw [h.cellAt _ (by omega)]; exact opF_get ho j hj
    have e : (⟨g, 0, none⟩ : Addr).add (k * 6) = ⟨g, k * 6, none⟩ := by unfold Addr.add; simp; intro h; exact h.symm
    rw [e]
    exact ⟨lt_of_some hg, g1 0 (by decide), g1 1 (by decide), g1 2 (by decide), g1 3 (by decide), g1 4 (by decide), g1 5 (by decide)⟩
theorem wpList_copy {ops : Array Oper} {rest : List Oper} {o : Oper} {a : Act} {w : World} {Q : Exit → Act → World → Prop} (hgd : o.guard = none) (s x : Operand) (ho : o.op = .call { callee := .builtin .append, args := #[s, x], argTypes := #[23, 23] }) {v : Value} {l : List Opr} (hs : a.eval s = .slice none 0 0) (hx : a.eval x = v) (O : Ops w v l) (hl : l.length * 48 ≤ 140737488351232)
    (h : ∀ v' w', w'.ownsRow w.heap.size 40 6 v' l.length (opF l) → Below w.heap.size w w' → wpList Try.prog ops Q rest (a.put o.dst v') w') : wpList Try.prog ops Q (o :: rest) a w :=
  wpList_plain hgd fun _ hK => by
    obtain ⟨v', w', hr, q1, q2⟩ := run_copyO O hl o.type
    unfold Oper.wp execOp
    simp only [ho, resolve, invoke, builtin, Sem.run_bind, Sem.run_pure, Result.andThen_ok, List.map_toArray, List.map_cons, List.map_nil, hs, hx, hr]
    exact hK _ _ (h v' w' q1 q2)
theorem bl_set3 (pc words el : Int) (v u : Value) : (blA pc words el v).setIfInBounds 3 u = blA pc words el u := rfl
theorem opF_snoc (l : List Opr) (o : Opr) : opF (l ++ [o]) = opF l ++ (opA o).toList := by simp [opF]
def layC (C : Array Value) (n : Nat) (o : Opr) : Array Value := (C.toList.take (n * 6) ++ (opA o).toList ++ C.toList.drop (n * 6 + 6)).toArray
theorem op_row {w : World} {g : Nat} {C : Array Value} {l : List Opr} {k : Nat} (hg : w.heap[g]? = some (.cells C 40)) (hk : k < l.length) (hC : ∀ j, k * 6 ≤ j → j < l.length * 6 → C[j]? = (opF l)[j]?) : OpAt w ⟨g, k * 6, none⟩ (opAt l k) := by
  have c : ∀ j, j < 6 → w.cell? ⟨g, k * 6 + j, none⟩ = (opA (opAt l k))[j]? := fun j hj => by
    rw [cell_of_row _ _ _ _ _ _ hg, hC _ (by omega) (by omega)]
    exact opF_get (opAt_some hk) j hj
  exact ⟨lt_of_some hg, c 0 (by decide), c 1 (by decide), c 2 (by decide), c 3 (by decide), c 4 (by decide), c 5 (by decide)⟩
theorem run_stO {w : World} {g k : Nat} {C : Array Value} (o : Opr) (hg : w.heap[g]? = some (.cells C 40)) (hs : k * 6 + 6 ≤ C.size) : (storeVar 40 ⟨g, k * 6, none⟩ (opV o)).run Try.prog w = .ok () (w.setRow g (layC C k o)) := by
  have := run_storeCells_at (P := Try.prog) g (k * 6) 40 (opA o).toList 0 _ w hg (by simpa using hs) (fun v hv => by
    have := Array.all_eq_true_iff_forall_mem.1 (op_one o) v (by simpa using hv); exact this)
  have e6 : (opA o).toList.length = 6 := rfl
  rw [e6] at this
  simp only [Nat.add_zero] at this
  have hin := op_inf o
  unfold layC
  cases hq : Try.prog.info? 40 with
  | none => simp [hq] at hin
  | some inf =>
    have hs : inf.size = 6 := by simpa [hq] using hin
    simp [storeVar, sizeOf, typeInfo, hq, Value.cells, hs, this]
theorem wpList_stO {ops : Array Oper} {rest : List Oper} {p : Oper} {a : Act} {w : World} {Q : Exit → Act → World → Prop} (hgd : p.guard = none) (x y : Operand) (ho : p.op = .store 40 x y) {g k : Nat} {C : Array Value} (o : Opr) (hx : a.eval x = ptr g (k * 6)) (hy : a.eval y = opV o) (hg : w.heap[g]? = some (.cells C 40)) (hs : k * 6 + 6 ≤ C.size)
    (h : wpList Try.prog ops Q rest (a.put p.dst undef) (w.setRow g (layC C k o))) : wpList Try.prog ops Q (p :: rest) a w :=
  wpList_plain hgd fun K hK => by
    unfold Oper.wp execOp
    simp only [ho, hx, hy, Instr.storeAt, Instr.sureAddr, asAddr, Sem.run_bind, Sem.run_pure, Result.andThen_ok, run_stO o hg hs]
    exact hK _ _ h
end Go.Proofs.Ytilbnjldfgofmaa
