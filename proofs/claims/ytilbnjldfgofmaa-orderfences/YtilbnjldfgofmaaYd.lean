/- Stretches between what leaves, and their fences. -/
import Derived.Test.YtilbnjldfgofmaaYc
namespace Go.Proofs.Ytilbnjldfgofmaa
open Go.RowKit
set_option linter.unusedVariables false
set_option linter.unusedSimpArgs false
set_option maxRecDepth 8000

def leavK (k : Int) : Bool := decide (9 ≤ k ∧ k ≤ 12) || decide (15 ≤ k)
def fR (a b : Int) : Int := if a = 0 then b else if b = 0 then a else if a = b then a else 15
/-- A list as stretches: what the fences of a stretch order, and what leaves at its end. -/
def sp : Int → List Opr → List (Int × Int × Int × Int)
  | _, [] => []
  | a, o :: t => if o.kind = 13 then sp (fR a o.r) t else if leavK o.kind = true then (a, o.kind, o.order, o.imm) :: sp 0 t else sp a t
def acc : Int → List Opr → Int
  | a, [] => a
  | a, o :: t => if o.kind = 13 then acc (fR a o.r) t else if leavK o.kind = true then acc 0 t else acc a t
theorem sp_cons (a : Int) (o : Opr) (t : List Opr) : sp a (o :: t) = if o.kind = 13 then sp (fR a o.r) t else if leavK o.kind = true then (a, o.kind, o.order, o.imm) :: sp 0 t else sp a t := rfl
theorem acc_cons (a : Int) (o : Opr) (t : List Opr) : acc a (o :: t) = if o.kind = 13 then acc (fR a o.r) t else if leavK o.kind = true then acc 0 t else acc a t := rfl
theorem sp_app : ∀ (A B : List Opr) (a : Int), sp a (A ++ B) = sp a A ++ sp (acc a A) B
  | [], B, a => rfl
  | o :: t, B, a => by
    rw [List.cons_append, sp_cons, sp_cons, acc_cons]
    by_cases h : o.kind = 13
    · rw [if_pos h, if_pos h, if_pos h]; exact sp_app t B _
    · rw [if_neg h, if_neg h, if_neg h]
      by_cases g : leavK o.kind = true
      · rw [if_pos g, if_pos g, if_pos g, sp_app t B 0]; rfl
      · rw [if_neg g, if_neg g, if_neg g]; exact sp_app t B a
/-- Only the kind, the number of the fence, the order and the number count. -/
def same4 (o u : Opr) : Prop := o.kind = u.kind ∧ o.r = u.r ∧ o.order = u.order ∧ o.imm = u.imm
theorem sp_same : ∀ {A B : List Opr} (a : Int), A.length = B.length → (∀ i, i < A.length → same4 (opAt A i) (opAt B i)) → sp a A = sp a B
  | [], [], a, _, _ => rfl
  | [], _ :: _, a, h, _ => by cases h
  | _ :: _, [], a, h, _ => by cases h
  | o :: s, u :: t, a, h, k => by
    have h0 : same4 o u := k 0 (by simp)
    have hl : s.length = t.length := by simpa using h
    have hk : ∀ i, i < s.length → same4 (opAt s i) (opAt t i) := fun i hi => by have := k (i + 1) (by simp; omega); exact this
    rw [sp_cons, sp_cons, h0.1, h0.2.1, h0.2.2.1, h0.2.2.2, sp_same _ hl hk, sp_same 0 hl hk, sp_same a hl hk]
theorem sp_quiet : ∀ {M : List Opr} (a : Int) (B : List Opr), (∀ o ∈ M, o.kind ≠ 13 ∧ leavK o.kind = false) → sp a (M ++ B) = sp a B
  | [], a, B, _ => rfl
  | o :: t, a, B, h => by
    have h0 := h o List.mem_cons_self
    rw [List.cons_append, sp_cons, if_neg h0.1, if_neg (by rw [h0.2]; decide)]
    exact sp_quiet a B (fun u hu => h u (List.mem_cons_of_mem _ hu))
def okR (r : Int) : Prop := r = 10 ∨ r = 13 ∨ r = 15
theorem fR_orR {a r s : Int} (ha : a = 0 ∨ okR a) (hr : okR r) (hs : okR s) : fR a (orR s r) = fR (fR a r) s := by
  rcases ha with rfl | rfl | rfl | rfl <;> rcases hr with rfl | rfl | rfl <;> rcases hs with rfl | rfl | rfl <;> decide
theorem fR_ok {a r : Int} (ha : a = 0 ∨ okR a) (hr : okR r) : okR (fR a r) := by
  rcases ha with rfl | rfl | rfl | rfl <;> rcases hr with rfl | rfl | rfl <;> (unfold okR; decide)
theorem acc_ok : ∀ {A : List Opr} {a : Int}, (a = 0 ∨ okR a) → (∀ o ∈ A, o.kind = 13 → okR o.r) → (acc a A = 0 ∨ okR (acc a A))
  | [], a, ha, _ => ha
  | o :: t, a, ha, h => by
    rw [acc_cons]
    by_cases g : o.kind = 13
    · rw [if_pos g]; exact acc_ok (.inr (fR_ok ha (h o List.mem_cons_self g))) (fun u hu => h u (List.mem_cons_of_mem _ hu))
    · rw [if_neg g]
      by_cases q : leavK o.kind = true
      · rw [if_pos q]; exact acc_ok (.inl rfl) (fun u hu => h u (List.mem_cons_of_mem _ hu))
      · rw [if_neg q]; exact acc_ok ha (fun u hu => h u (List.mem_cons_of_mem _ hu))
theorem drop_at {l : List Opr} {i : Nat} (h : i < l.length) : l.drop i = opAt l i :: l.drop (i + 1) := by
  rw [List.drop_eq_getElem_cons h]
  congr 1
  have := opAt_some h
  rw [List.getElem?_eq_getElem h] at this
  exact Option.some.inj this
theorem drop_map {α : Type} (f : Nat → α) {n k : Nat} (h : k < n) : (dropP n k).map f = ((List.range n).take k).map f ++ ((List.range n).drop (k + 1)).map f := by
  have e : List.range n = (List.range n).take k ++ (k :: (List.range n).drop (k + 1)) := by
    conv => lhs; rw [← List.take_append_drop k (List.range n), List.drop_eq_getElem_cons (by simpa using h)]
    simp
  have h1 : ∀ i ∈ (List.range n).take k, i ≠ k := fun i hi => by
    rw [List.take_range] at hi
    have := List.mem_range.1 hi
    omega
  have h2 : ∀ i ∈ (List.range n).drop (k + 1), i ≠ k := fun i hi => by
    obtain ⟨q, hq⟩ := List.getElem?_of_mem hi
    rw [List.getElem?_drop] at hq
    have hl := (List.getElem?_eq_some_iff.1 hq).1
    rw [List.getElem?_range (by simpa using hl)] at hq
    cases hq
    omega
  unfold dropP
  conv => lhs; rw [e]
  rw [List.filter_append, List.filter_cons_of_neg (by simp), List.filter_eq_self.2 (fun i hi => by simpa using h1 i hi), List.filter_eq_self.2 (fun i hi => by simpa using h2 i hi), List.map_append]
theorem map_opAt (l : List Opr) : (List.range l.length).map (opAt l) = l := by
  apply List.ext_getElem
  · simp
  · intro i h1 h2
    rw [List.getElem_map, List.getElem_range]
    have := opAt_some h2
    rw [List.getElem?_eq_getElem h2] at this
    exact (Option.some.inj this).symm
theorem drop_opAt {l : List Opr} {k : Nat} (h : k < l.length) : (dropP l.length k).map (opAt l) = l.take k ++ l.drop (k + 1) := by
  rw [drop_map _ h, List.map_take, List.map_drop, map_opAt]
theorem sp_pick (a : Int) (l : List Opr) (p : List Nat) : sp a (pickL l p) = sp a (p.map (opAt l)) := by
  apply sp_same
  · rw [pick_len, List.length_map]
  · intro i hi
    rw [pick_len] at hi
    have e2 : opAt (p.map (opAt l)) i = opAt l p[i] := opAt_of (by rw [List.getElem?_map, List.getElem?_eq_getElem hi]; rfl)
    rw [pick_at (List.getElem?_eq_getElem hi), e2]
    exact ⟨rfl, rfl, rfl, rfl⟩
section
variable {pc words el : Int} {l m : List Opr}
theorem stop_leav {k : Int} (h : isK k = true) : stopK k = (decide (k = 13) || leavK k) := by
  rcases isK_cases h with rfl | rfl | rfl | rfl | rfl | rfl | rfl | rfl | rfl | rfl | rfl | rfl | rfl | rfl | rfl | rfl | rfl | rfl <;> decide +kernel
theorem fence_okR (h : rightB pc words el l = true) {i : Nat} (hi : i < l.length) (g : (opAt l i).kind = 13) : okR (opAt l i).r := by
  have ok := right_at h hi
  have hr : rangeB (opAt l i) = true := by have := ok; unfold okAt opB at this; simp only [Bool.and_eq_true] at this; exact this.1.2.2
  unfold rangeB at hr
  rw [g] at hr
  simp only [beq_iff_eq, Bool.or_eq_true] at hr
  unfold okR
  simp at hr
  omega
theorem merge_sp (h : rightB pc words el l = true) {k : Nat} (hk : k < l.length) (e : mergeR l k = some m) : sp 0 m = sp 0 l := by
  unfold mergeR at e
  rw [Option.map_eq_some_iff] at e
  obtain ⟨j, ej, rfl⟩ := e
  unfold mergeAt at ej
  by_cases c : (opAt l k).kind = 13 ∧ (opAt l (nextK stopK l k)).kind = 13
  · rw [if_pos c] at ej
    cases ej
    obtain ⟨c1, c2⟩ := c
    have hin := inner_k h hk (.inr (.inr c1))
    obtain ⟨n1, n2, n3, n4⟩ := next_stop h hin.2
    generalize nextK stopK l k = j at *
    have rk := fence_okR h hk c1
    have rj := fence_okR h n2 c2
    have quiet : ∀ o ∈ (l.drop (k + 1)).take (j - (k + 1)), o.kind ≠ 13 ∧ leavK o.kind = false := fun o ho => by
      obtain ⟨i, hi⟩ := List.getElem?_of_mem ho
      have hil : i < j - (k + 1) := by
        have := (List.getElem?_eq_some_iff.1 hi).1
        rw [List.length_take] at this
        omega
      rw [List.getElem?_take_of_lt hil, List.getElem?_drop] at hi
      have q := n4 (k + 1 + i) (by omega) (by omega)
      rw [opAt_of hi] at q
      have hK : isK o.kind = true := by have := kind_at (right_at h (k := k + 1 + i) (by omega)); rwa [opAt_of hi] at this
      rw [stop_leav hK] at q
      simp only [Bool.or_eq_false_iff, decide_eq_false_iff_not] at q
      exact q
    have hl : l = l.take k ++ (opAt l k :: ((l.drop (k + 1)).take (j - (k + 1)) ++ opAt l j :: l.drop (j + 1))) := by
      conv => lhs; rw [← List.take_append_drop k l, drop_at hk]
      congr 2
      conv => lhs; rw [← List.take_append_drop (j - (k + 1)) (l.drop (k + 1))]
      rw [List.drop_drop, show k + 1 + (j - (k + 1)) = j by omega, drop_at n2]
    have hm : sp 0 (mergeDo l k j) = sp 0 (l.take k ++ ((l.drop (k + 1)).take (j - (k + 1)) ++ { opAt l j with r := orR (opAt l j).r (opAt l k).r } :: l.drop (j + 1))) := by
      unfold mergeDo
      rw [sp_pick]
      have e : l.length = (orL l j (opAt l k).r).length := by unfold orL; rw [List.length_set]
      rw [e, drop_opAt (by rw [← e]; exact hk)]
      unfold orL
      have e3 : l.drop (k + 1) = (l.drop (k + 1)).take (j - (k + 1)) ++ opAt l j :: l.drop (j + 1) := by
        conv => lhs; rw [← List.take_append_drop (j - (k + 1)) (l.drop (k + 1))]
        rw [List.drop_drop, show k + 1 + (j - (k + 1)) = j by omega, drop_at n2]
      have e4 : ((l.drop (k + 1)).take (j - (k + 1))).length = j - (k + 1) := by rw [List.length_take, List.length_drop]; omega
      rw [List.take_set_of_le (by omega), List.drop_set, if_neg (by omega)]
      congr 2
      conv => lhs; rw [e3]
      rw [List.set_append_right _ _ (by omega), e4, Nat.sub_self, List.set_cons_zero]
    rw [hm]
    conv => rhs; rw [hl]
    rw [sp_app (l.take k), sp_app (l.take k)]
    congr 1
    have ha : acc 0 (l.take k) = 0 ∨ okR (acc 0 (l.take k)) := acc_ok (.inl rfl) (fun o ho g => by
      obtain ⟨i, hi⟩ := List.getElem?_of_mem (List.mem_of_mem_take ho)
      have hil : i < l.length := (List.getElem?_eq_some_iff.1 hi).1
      have := fence_okR h hil (by rw [opAt_of hi]; exact g)
      rwa [opAt_of hi] at this)
    generalize acc 0 (l.take k) = a at *
    rw [sp_quiet a _ quiet]
    rw [sp_cons a (opAt l k), if_pos c1, sp_quiet _ _ quiet, sp_cons _ (opAt l j), if_pos c2, sp_cons]
    show (if (opAt l j).kind = 13 then sp (fR a (orR (opAt l j).r (opAt l k).r)) (l.drop (j + 1)) else _) = _
    rw [if_pos c2, fR_orR ha rk rj]
  · rw [if_neg c] at ej; cases ej
end
end Go.Proofs.Ytilbnjldfgofmaa
