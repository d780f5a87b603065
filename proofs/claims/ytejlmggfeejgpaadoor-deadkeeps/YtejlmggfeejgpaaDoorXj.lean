/- Jj, Jk, Jl of the seat, joined. -/
import Derived.Test.YtejlmggfeejgpaaDoorIg
import Derived.Test.YtejlmggfeejgpaaDoorJb
import Derived.Maps.AppendAt
import Derived.Laws.MakeOwn
/- The state of a run; operations copied. -/
namespace Go.Proofs.YtejlmggfeejgpaaDoor
open Go.RowKit
set_option linter.unusedVariables false
set_option linter.unusedSimpArgs false
set_option maxRecDepth 8000

/-- The operations copied. -/
theorem info42 : (Tryd.prog.info? 33).map (fun i => (i.zero, i.size, i.bytes)) = some (some (opV nilO), 6, 48) := by kernel_rfl
def opF (l : List Opr) : List Value := l.flatMap fun o => (opA o).toList
theorem opF_len (l : List Opr) : (opF l).length = l.length * 6 := by
  induction l with
  | nil => rfl
  | cons a l ih => simp only [opF, List.flatMap_cons, List.length_append, List.length_cons] at ih ⊢; rw [ih]; simp; omega
theorem opF_get {l : List Opr} : ∀ {k : Nat} {o : Opr}, l[k]? = some o → ∀ j, j < 6 → (opF l)[k * 6 + j]? = (opA o)[j]? := by
  induction l with
  | nil => intro k o h; simp at h
  | cons a l ih =>
    intro k o h j hj
    have e : opF (a :: l) = (opA a).toList ++ opF l := rfl
    rw [e]
    cases k with
    | zero =>
      simp at h; subst h
      rw [List.getElem?_append_left (by simp; omega)]
      simp
    | succ k =>
      rw [List.getElem?_append_right (by simp; omega), ← ih (by simpa using h) j hj]
      congr 1
      simp
      omega
theorem one_opF (l : List Opr) : ∀ u ∈ opF l, u.oneCell' = true := by
  intro u hu
  simp only [opF, List.mem_flatMap] at hu
  obtain ⟨o, _, h⟩ := hu
  exact Array.all_eq_true_iff_forall_mem.1 (op_one o) u (by simpa using h)
theorem Ops.flat {w : World} {ra : Addr} {n cap : Nat} {l : List Opr} (h : Ops w (.slice (some ra) n cap) l) (h0 : 0 < l.length) (j : Nat) (u : Value) (hu : (opF l)[j]? = some u) : w.cell? (ra.add j) = some u := by
  obtain ⟨rb, c2, e, hc⟩ := h.cell h0
  cases e
  have hj : j < l.length * 6 := by have := (List.getElem?_eq_some_iff.1 hu).1; rwa [opF_len] at this
  have hk : j / 6 < l.length := by omega
  have A := hc (j / 6) _ (opAt_some hk)
  have e1 : j = j / 6 * 6 + j % 6 := by omega
  have hg := opF_get (opAt_some hk) (j % 6) (Nat.mod_lt _ (by decide))
  rw [← e1, hu] at hg
  have e2 : ra.add j = if j % 6 = 0 then ra.add (j / 6 * 6) else ⟨(ra.add (j / 6 * 6)).block, (ra.add (j / 6 * 6)).off + j % 6, none⟩ := by
    split
    · rename_i hz; congr 1; omega
    · rename_i hz
      unfold Addr.add
      rw [if_neg (by omega)]
      split
      · rename_i h6; have : j / 6 = 0 := by omega
        simp only [Addr.mk.injEq, true_and, and_true]; omega
      · simp only [Addr.mk.injEq, true_and, and_true]; omega
  rw [e2]
  have hm : j % 6 < 6 := Nat.mod_lt _ (by decide)
  generalize j % 6 = m at hg hm ⊢
  match m, hm with
  | 0, _ => rw [if_pos rfl, A.c0]; exact hg.symm
  | 1, _ => rw [if_neg (by decide), A.c1]; exact hg.symm
  | 2, _ => rw [if_neg (by decide), A.c2]; exact hg.symm
  | 3, _ => rw [if_neg (by decide), A.c3]; exact hg.symm
  | 4, _ => rw [if_neg (by decide), A.c4]; exact hg.symm
  | 5, _ => rw [if_neg (by decide), A.c5]; exact hg.symm
  | m + 6, h => exact absurd h (by omega)
theorem run_copyO {w : World} {v : Value} {l : List Opr} (hv : Ops w v l) (hl : l.length * 48 ≤ 140737488351232) (ty : TypeId) : ∃ v' w', (Builtin.append_ #[23, 23] ty #[.slice none 0 0, v]).run Tryd.prog w = .ok v' w' ∧ w'.ownsRow w.heap.size 33 6 v' l.length (opF l) ∧ Below w.heap.size w w' := by
  obtain ⟨i, h1, h2, h3, h4⟩ := info_parts info42
  have hown : w.ownsRow w.heap.size 33 6 (.slice none 0 0) 0 [] := ⟨rfl, .inl ⟨rfl, rfl⟩⟩
  obtain ⟨ao, cap, ev⟩ := hv.len
  have hmx := hv.max
  subst ev
  cases ao with
  | none =>
    obtain rfl : l = [] := by
      cases l with
      | nil => rfl
      | cons p l =>
        obtain ⟨ra, c2, e2, _⟩ := hv.cell (by simp)
        cases e2
    have hr : (Builtin.append_ #[23, 23] ty #[.slice none 0 0, .slice none 0 cap]).run Tryd.prog w = .ok (.slice none 0 0) w := by
      simp [Builtin.append_, run_underlying Tryd.underlying23, sizeOf, typeInfo, h1, Builtin.lenOf, Builtin.firstCells]
    exact ⟨_, w, hr, hown, Below.refl _ _⟩
  | some ra =>
    have hc : ∀ j u, (opF l)[j]? = some u → w.cell? (ra.add j) = some u := fun j u hu => by
      have h0 : 0 < l.length := by
        cases l with
        | nil => simp [opF] at hu
        | cons _ _ => simp
      exact hv.flat h0 j u hu
    obtain ⟨v', w', hr, q1, q2, _, _⟩ := run_append_own_at (P := Tryd.prog) w w.heap.size 23 ty 33 i (opV nilO) 6 48 Tryd.underlying23 h1 h2 h3 h4 rfl (by decide) (.slice none 0 0) 0 [] hown ra l.length cap (opF l) (opF_len l) hc (one_opF l) (by simp only [maxLen]; omega) (by omega) (Nat.le_refl _)
    rw [Nat.zero_add, List.nil_append] at q1
    exact ⟨v', w', hr, q1, (goes_grown (F := fun _ => False) q2 (fun k hk => by cases hk)).below (Nat.le_refl _) (fun _ h => h.elim)⟩
/-- The same onto a row of nothing. -/
theorem run_cloneO {w : World} {b : Nat} {v : Value} {l : List Opr} (hv : Ops w v l) (h0 : 0 < l.length) (hl : l.length ≤ 512) (hb : w.heap[b]? = some (.cells #[] 33)) (base : Nat) (hbase : base ≤ b) (ty : TypeId) : ∃ v' w', (Builtin.append_ #[23, 23] ty #[.slice (some ⟨b, 0, none⟩) 0 0, v]).run Tryd.prog w = .ok v' w' ∧ w'.ownsRow base 33 6 v' l.length (opF l) ∧ Goes (fun k => k = b) w w' := by
  obtain ⟨i, h1, h2, h3, h4⟩ := info_parts info42
  have hown : w.ownsRow base 33 6 (.slice (some ⟨b, 0, none⟩) 0 0) 0 [] := ⟨rfl, .inr ⟨b, 0, #[], rfl, hbase, hb, Nat.le_refl _, Nat.zero_le _, rfl, rfl⟩⟩
  obtain ⟨ra, cap, ev, _⟩ := hv.cell h0
  subst ev
  obtain ⟨v', w', hr, q1, q2, _, _⟩ := run_append_own_at (P := Tryd.prog) w base 23 ty 33 i (opV nilO) 6 48 Tryd.underlying23 h1 h2 h3 h4 rfl (by decide) (.slice (some ⟨b, 0, none⟩) 0 0) 0 [] hown ra l.length cap (opF l) (opF_len l) (fun j u hu => hv.flat h0 j u hu) (one_opF l) (by simp only [maxLen]; omega) (by omega) (by have := lt_of_some hb; omega)
  rw [Nat.zero_add, List.nil_append] at q1
  exact ⟨v', w', hr, q1, goes_grown q2 (fun k hk => by simpa [Value.ownBlock] using hk.symm)⟩
theorem run_none23 (w : World) : (Instr.buildSlice 23 0 #[]).run Tryd.prog w = .ok (.slice (some ⟨w.heap.size, 0, none⟩) 0 0) (w.alloc (.cells #[] 33)) := by
  obtain ⟨i, hi, hz, hs, hby⟩ := info_parts info42
  simp [Instr.buildSlice, run_underlying Tryd.underlying23, sizeOf, typeInfo, hi, hs, Instr.fill, newRow]
  congr 2
  apply Array.ext <;> simp
theorem wpList_none23 {ops : Array Oper} {rest : List Oper} {o : Oper} {a : Act} {w : World} {Q : Exit → Act → World → Prop} (hg : o.guard = none) (ho : o.op = .buildSlice 23 0 #[])
    (h : wpList Tryd.prog ops Q rest (a.put o.dst (.slice (some ⟨w.heap.size, 0, none⟩) 0 0)) (w.alloc (.cells #[] 33))) : wpList Tryd.prog ops Q (o :: rest) a w :=
  wpList_plain hg fun _ hK => by
    unfold Oper.wp execOp
    simp only [ho, Sem.run_bind, List.map_toArray, List.map_nil, run_none23, Result.andThen_ok]
    exact hK _ _ h
theorem wpList_clone {ops : Array Oper} {rest : List Oper} {o : Oper} {a : Act} {w : World} {Q : Exit → Act → World → Prop} (hgd : o.guard = none) (s x : Operand) (ho : o.op = .call { callee := .builtin .append, args := #[s, x], argTypes := #[23, 23] }) {v : Value} {b base : Nat} {l : List Opr} (hs : a.eval s = .slice (some ⟨b, 0, none⟩) 0 0) (hx : a.eval x = v) (O : Ops w v l) (h0 : 0 < l.length) (hl : l.length ≤ 512) (hb : w.heap[b]? = some (.cells #[] 33)) (hbase : base ≤ b)
    (h : ∀ v' w', w'.ownsRow base 33 6 v' l.length (opF l) → Goes (fun k => k = b) w w' → wpList Tryd.prog ops Q rest (a.put o.dst v') w') : wpList Tryd.prog ops Q (o :: rest) a w :=
  wpList_plain hgd fun _ hK => by
    obtain ⟨v', w', hr, q1, q2⟩ := run_cloneO O h0 hl hb base hbase o.type
    unfold Oper.wp execOp
    simp only [ho, resolve, invoke, builtin, Sem.run_bind, Sem.run_pure, Result.andThen_ok, List.map_toArray, List.map_cons, List.map_nil, hs, hx, hr]
    exact hK _ _ (h v' w' q1 q2)
set_option maxHeartbeats 2000000 in
theorem made_zero (n : Nat) : madeCells #[vU 0] n = ((List.replicate n (0 : Int)).map vU).toArray := by
  apply Array.ext
  · simp [madeCells]
  · intro i h1 h2
    simp [madeCells]
    rw [Nat.mod_one]
    rfl
theorem info22p : (Tryd.prog.info? 22).map (fun i => (i.zero, i.size, i.bytes)) = some (some (vU 0), 1, 8) := by kernel_rfl
end Go.Proofs.YtejlmggfeejgpaaDoor
/- A block's cells. -/
namespace Go.Proofs.YtejlmggfeejgpaaDoor
open Go.RowKit
set_option linter.unusedVariables false
set_option linter.unusedSimpArgs false
set_option maxRecDepth 8000

theorem blk_one (pc words el : Int) (v : Value) (hv : v.oneCell' = true) : (blA pc words el v).all (·.oneCell') = true := by
  have hi : ∀ k n, (Value.int k n).oneCell' = true := fun _ _ => rfl
  simp [hv, hi]
end Go.Proofs.YtejlmggfeejgpaaDoor
/- A row of operations of one's own, while memory grows. -/
namespace Go.Proofs.YtejlmggfeejgpaaDoor
open Go.RowKit
set_option linter.unusedVariables false
set_option linter.unusedSimpArgs false
set_option maxRecDepth 8000

theorem own_grow6 {w w' : World} {base : Nat} {v : Value} {n : Nat} {xs : List Value} (h : w.ownsRow base 33 6 v n xs) (hb : Below w.heap.size w w') : w'.ownsRow base 33 6 v n xs :=
  own_of_block h (fun k hk => hb.block k (h.lt k hk).2)
end Go.Proofs.YtejlmggfeejgpaaDoor
