/- Appending to the rows of the document's own controller. -/
import Derived.Test.YtpmlehfnlodmbaaGj
import Derived.Deep.AppendLies
namespace Go.Proofs.Ytpmlehfnlodmbaa.Doc
open Go.RowKit
set_option linter.unusedVariables false
set_option linter.unusedSimpArgs false

theorem infI : ∃ i, Try.prog.info? 75 = some i ∧ i.zero = some (.agg #[.bool false, .bool false, .bool false, .bool false, vI 0, vI 0, vI 0, vI 0]) ∧ i.size = 8 ∧ i.bytes = 40 := by
  have h : (Try.prog.info? 75).map (fun i => (i.zero, i.size, i.bytes)) = some (some (.agg #[.bool false, .bool false, .bool false, .bool false, vI 0, vI 0, vI 0, vI 0]), 8, 40) := by kernel_rfl
  cases hq : Try.prog.info? 75 with
  | none => rw [hq] at h; cases h
  | some i =>
    rw [hq] at h
    simp only [Option.map_some, Option.some.injEq, Prod.mk.injEq] at h
    exact ⟨i, rfl, h.1, h.2.1, h.2.2⟩
theorem infR : ∃ i, Try.prog.info? 71 = some i ∧ i.zero = some (.slice none 0 0) ∧ i.size = 1 ∧ i.bytes = 24 := by
  have h : (Try.prog.info? 71).map (fun i => (i.zero, i.size, i.bytes)) = some (some (.slice none 0 0), 1, 24) := by kernel_rfl
  cases hq : Try.prog.info? 71 with
  | none => rw [hq] at h; cases h
  | some i =>
    rw [hq] at h
    simp only [Option.map_some, Option.some.injEq, Prod.mk.injEq] at h
    exact ⟨i, rfl, h.1, h.2.1, h.2.2⟩
theorem infN : ∃ i, Try.prog.info? 3 = some i ∧ i.zero = some (vI 0) ∧ i.size = 1 ∧ i.bytes = 8 := by
  have h : (Try.prog.info? 3).map (fun i => (i.zero, i.size, i.bytes)) = some (some (vI 0), 1, 8) := by kernel_rfl
  cases hq : Try.prog.info? 3 with
  | none => rw [hq] at h; cases h
  | some i =>
    rw [hq] at h
    simp only [Option.map_some, Option.some.injEq, Prod.mk.injEq] at h
    exact ⟨i, rfl, h.1, h.2.1, h.2.2⟩
theorem one_flatI (l : List In8) : ∀ u ∈ flatI l, u.oneCell' = true := by
  intro u hu
  simp only [flatI, In8.row, List.mem_flatMap, List.mem_cons, List.not_mem_nil, or_false] at hu
  obtain ⟨s, _, h | h | h | h | h | h | h | h⟩ := hu <;> subst h <;> rfl
theorem addr0 (b k : Nat) (j : Nat) : (⟨b, k, none⟩ : Addr).add j = ⟨b, k + j, none⟩ := by unfold Addr.add; split <;> simp_all
/-- An interrupt appended to a row. -/
theorem wpList_app_in {ops : Array Oper} {rest : List Oper} {o : Oper} {a : Act} {w : World} {Q : Exit → Act → World → Prop} (hgd : o.guard = none) (s x : Operand)
    (ho : o.op = .call { callee := .builtin .append, args := #[s, x], argTypes := #[71, 71] }) (base : Nat) (v : Value) (l : List In8) (hs : a.eval s = v) (hown : w.ownsRow base 75 8 v l.length (flatI l)) (hbase : base ≤ w.heap.size)
    (b k c : Nat) (z : In8) (hx : a.eval x = .slice (some ⟨b, k, none⟩) 1 c) (hc : ∀ (j : Nat) u, z.row[j]? = some u → w.cell? ⟨b, k + j, none⟩ = some u) (hl : l.length < 1000000000)
    (h : ∀ g cap w', w'.ownsRow base 75 8 (.slice (some ⟨g, 0, none⟩) (l.length + 1) cap) (l ++ [z]).length (flatI (l ++ [z])) → w.grownBy w' v.ownBlock → (v.ownBlock = some g ∨ g = w.heap.size) → g < w'.heap.size →
      wpList Try.prog ops Q rest (a.put o.dst (.slice (some ⟨g, 0, none⟩) (l.length + 1) cap)) w') : wpList Try.prog ops Q (o :: rest) a w := by
  obtain ⟨i, h1, h2, h3, h4⟩ := infI
  refine wpList_append_lies w hgd s x 71 ho base 75 i _ 8 40 Try.underlying71 h1 h2 h3 h4 rfl (by decide) v l.length (flatI l) hs hown ⟨b, k, none⟩ 1 c (flatI [z]) hx rfl ?_ (one_flatI _) (by decide) (by simp only [maxLen]; omega) (by omega) hbase w.heap.size rfl ?_
  · intro j u hj
    rw [addr0]
    exact hc j u (by simpa [flatI] using hj)
  · intro g cap w' q1 q2 q3 q4
    refine h g cap w' ?_ q2 q3 q4
    have e : flatI (l ++ [z]) = flatI l ++ flatI [z] := by simp [flatI]
    rw [List.length_append, e]
    exact q1
/-- A row appended to the rows. -/
theorem wpList_app_row {ops : Array Oper} {rest : List Oper} {o : Oper} {a : Act} {w : World} {Q : Exit → Act → World → Prop} (hgd : o.guard = none) (s x : Operand)
    (ho : o.op = .call { callee := .builtin .append, args := #[s, x], argTypes := #[70, 70] }) (base : Nat) (v : Value) (l : List Value) (hs : a.eval s = v) (hown : w.ownsRow base 71 1 v l.length l) (hbase : base ≤ w.heap.size)
    (b k c : Nat) (q : Option Addr) (m d : Nat) (hx : a.eval x = .slice (some ⟨b, k, none⟩) 1 c) (hc : w.cell? ⟨b, k, none⟩ = some (.slice q m d)) (hl : l.length < 1000000000)
    (h : ∀ g cap w', w'.ownsRow base 71 1 (.slice (some ⟨g, 0, none⟩) (l.length + 1) cap) (l ++ [Value.slice q m d]).length (l ++ [Value.slice q m d]) → w.grownBy w' v.ownBlock → (v.ownBlock = some g ∨ g = w.heap.size) → g < w'.heap.size →
      wpList Try.prog ops Q rest (a.put o.dst (.slice (some ⟨g, 0, none⟩) (l.length + 1) cap)) w') : wpList Try.prog ops Q (o :: rest) a w := by
  obtain ⟨i, h1, h2, h3, h4⟩ := infR
  refine wpList_append_lies w hgd s x 70 ho base 71 i _ 1 24 Try.underlying70 h1 h2 h3 h4 rfl (by decide) v l.length l hs hown ⟨b, k, none⟩ 1 c [.slice q m d] hx rfl ?_ ?_ (by decide) (by simp only [maxLen]; omega) (by omega) hbase w.heap.size rfl ?_
  · intro j u hj
    match j with
    | 0 => simp at hj; subst hj; rw [addr0]; exact hc
    | j + 1 => simp at hj
  · intro u hu; simp at hu; subst hu; rfl
  · intro g cap w' q1 q2 q3 q4
    refine h g cap w' ?_ q2 q3 q4
    rw [List.length_append]
    exact q1
/-- A number appended to the limits. -/
theorem wpList_app_lim {ops : Array Oper} {rest : List Oper} {o : Oper} {a : Act} {w : World} {Q : Exit → Act → World → Prop} (hgd : o.guard = none) (s x : Operand)
    (ho : o.op = .call { callee := .builtin .append, args := #[s, x], argTypes := #[45, 45] }) (base : Nat) (v : Value) (l : List Int) (hs : a.eval s = v) (hown : w.ownsRow base 3 1 v l.length (l.map vI)) (hbase : base ≤ w.heap.size)
    (b k c : Nat) (n : Int) (hx : a.eval x = .slice (some ⟨b, k, none⟩) 1 c) (hc : w.cell? ⟨b, k, none⟩ = some (vI n)) (hl : l.length < 1000000000)
    (h : ∀ g cap w', w'.ownsRow base 3 1 (.slice (some ⟨g, 0, none⟩) (l.length + 1) cap) (l ++ [n]).length ((l ++ [n]).map vI) → w.grownBy w' v.ownBlock → (v.ownBlock = some g ∨ g = w.heap.size) → g < w'.heap.size →
      wpList Try.prog ops Q rest (a.put o.dst (.slice (some ⟨g, 0, none⟩) (l.length + 1) cap)) w') : wpList Try.prog ops Q (o :: rest) a w := by
  obtain ⟨i, h1, h2, h3, h4⟩ := infN
  refine wpList_append_lies w hgd s x 45 ho base 3 i (vI 0) 1 8 Try.underlying45 h1 h2 h3 h4 rfl (by decide) v l.length (l.map vI) hs hown ⟨b, k, none⟩ 1 c [vI n] hx rfl ?_ ?_ (by decide) (by simp only [maxLen]; omega) (by omega) hbase w.heap.size rfl ?_
  · intro j u hj
    match j with
    | 0 => simp at hj; subst hj; rw [addr0]; exact hc
    | j + 1 => simp at hj
  · intro u hu; simp at hu; subst hu; rfl
  · intro g cap w' q1 q2 q3 q4
    refine h g cap w' ?_ q2 q3 q4
    rw [List.length_append, List.map_append]
    exact q1
end Go.Proofs.Ytpmlehfnlodmbaa.Doc
