/- A copy of a block. -/


import Derived.Test.YtilhjbhhgpoajaaDoorFr
namespace Go.Proofs.YtilhjbhhgpoajaaDoor
open Go.RowKit
set_option linter.unusedVariables false
set_option linter.unusedSimpArgs false
set_option maxRecDepth 8000

theorem gt_one (t : Gt) : (gtA t).all (·.oneCell') = true := by simp [Value.oneCell']
theorem own_of {w w' : World} {base n size : Nat} {e : TypeId} {v : Value} {xs : List Value} (h : w.ownsRow base e size v n xs) (hk : ∀ g, base ≤ g → w'.heap[g]? = w.heap[g]?) : w'.ownsRow base e size v n xs :=
  ⟨h.1, h.2.imp id fun ⟨g, cap, cur, e, hb, hg, r⟩ => ⟨g, cap, cur, e, hb, by rw [hk g hb]; exact hg, r⟩⟩
/-- A copy of a block's operations. -/
structure OpsC (w : World) (v : Value) (l : List Opr) : Prop where
  ops : Ops w v l
  cap : ∀ ao n c, v = .slice ao n c → n ≤ c
  one : v.oneCell' = true
theorem OpsC.grow {w w' : World} {v : Value} {l : List Opr} (h : OpsC w v l) (hb : Below w.heap.size w w') : OpsC w' v l := ⟨h.ops.grow hb, h.cap, h.one⟩
theorem opsC_of {w : World} {base : Nat} {v : Value} {l : List Opr} (h : w.ownsRow base 37 6 v l.length (opF l)) (hm : l.length ≤ maxLen) : OpsC w v l := by
  rcases h.2 with ⟨rfl, h0⟩ | ⟨g, cap, cur, rfl, _, hg, h1, h2, h3, h4⟩
  · obtain rfl : l = [] := List.length_eq_zero_iff.1 h0
    exact ⟨⟨⟨none, 0, rfl⟩, Nat.zero_le _, fun h => absurd h (by simp)⟩, fun ao n c e => (by cases e; exact Nat.le_refl _), rfl⟩
  · refine ⟨⟨⟨_, _, rfl⟩, hm, fun _ => ⟨_, _, rfl, fun k o ho => ?_⟩⟩, fun ao n c e => (by cases e; exact h1), rfl⟩
    have hk : k < l.length := (List.getElem?_eq_some_iff.1 ho).1
    have g1 : ∀ j, j < 6 → w.cell? ⟨g, k * 6 + j, none⟩ = (opA o)[j]? := fun j hj => by
      rw [h.cellAt _ (by omega)]; exact opF_get ho j hj
    have e : (⟨g, 0, none⟩ : Addr).add (k * 6) = ⟨g, k * 6, none⟩ := by unfold Addr.add; simp; intro h; exact h.symm
    rw [e]
    exact ⟨lt_of_some hg, g1 0 (by decide), g1 1 (by decide), g1 2 (by decide), g1 3 (by decide), g1 4 (by decide), g1 5 (by decide)⟩
theorem wpList_copy {ops : Array Oper} {rest : List Oper} {o : Oper} {a : Act} {w : World} {Q : Exit → Act → World → Prop} (hgd : o.guard = none) (s x : Operand) (ho : o.op = .call { callee := .builtin .append, args := #[s, x], argTypes := #[23, 23] }) {v : Value} {l : List Opr} (hs : a.eval s = .slice none 0 0) (hx : a.eval x = v) (O : Ops w v l) (hl : l.length * 48 ≤ 140737488351232)
    (h : ∀ v' w', w'.ownsRow w.heap.size 37 6 v' l.length (opF l) → Below w.heap.size w w' → wpList Tryd.prog ops Q rest (a.put o.dst v') w') : wpList Tryd.prog ops Q (o :: rest) a w :=
  wpList_plain hgd fun _ hK => by
    obtain ⟨v', w', hr, q1, q2⟩ := run_copyO O hl o.type
    unfold Oper.wp execOp
    simp only [ho, resolve, invoke, builtin, Sem.run_bind, Sem.run_pure, Result.andThen_ok, List.map_toArray, List.map_cons, List.map_nil, hs, hx, hr]
    exact hK _ _ (h v' w' q1 q2)
theorem bl_set3 (pc words el : Int) (v u : Value) : (blA pc words el v).setIfInBounds 3 u = blA pc words el u := rfl
end Go.Proofs.YtilhjbhhgpoajaaDoor
