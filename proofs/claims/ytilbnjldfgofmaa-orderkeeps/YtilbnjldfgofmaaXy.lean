/- Yc, Yd, Ye, Yf of the seat, joined. -/
import Derived.Test.YtilbnjldfgofmaaYb
/- What is left is right and rests. -/
namespace Go.Proofs.Ytilbnjldfgofmaa
open Go.RowKit
set_option linter.unusedVariables false
set_option linter.unusedSimpArgs false
set_option maxRecDepth 8000

def ImmOk (l : List Opr) : Prop := ∀ k, 0 ≤ (opAt l k).imm
theorem imm_mem {l : List Opr} : ImmOk l ↔ ∀ o ∈ l, 0 ≤ o.imm := by
  constructor
  · intro h o ho
    obtain ⟨i, hi⟩ := List.getElem?_of_mem ho
    have := h i
    rwa [opAt_of hi] at this
  · intro h k
    unfold opAt
    cases e : l[k]? with
    | none => decide
    | some o => exact h o (List.mem_of_getElem? e)
theorem imm_pick {l : List Opr} (h : ImmOk l) (p : List Nat) : ImmOk (pickL l p) := by
  rw [imm_mem]
  intro o ho
  unfold pickL at ho
  obtain ⟨i, -, rfl⟩ := List.mem_map.1 ho
  exact h i
theorem imm_orL {l : List Opr} (h : ImmOk l) (j : Nat) (r : Int) : ImmOk (orL l j r) := by
  rw [imm_mem]
  intro o ho
  unfold orL at ho
  rcases List.mem_or_eq_of_mem_set ho with q | rfl
  · exact imm_mem.1 h o q
  · exact h j
theorem imm_subst {l : List Opr} (h : ImmOk l) (k v : Nat) : ImmOk (substL l k v) := by
  rw [imm_mem]
  intro o ho
  unfold substL at ho
  obtain ⟨q, hq, rfl⟩ := List.mem_map.1 ho
  exact imm_mem.1 h q hq
section
variable {pc words el : Int} {l m : List Opr}
theorem imm_merge {k : Nat} (h : ImmOk l) (e : mergeR l k = some m) : ImmOk m := by
  unfold mergeR at e
  rw [Option.map_eq_some_iff] at e
  obtain ⟨j, -, rfl⟩ := e
  exact imm_pick (imm_orL h _ _) _
theorem imm_loads {k : Nat} (h : ImmOk l) (e : loadsR l k = some m) : ImmOk m := by
  unfold loadsR at e
  rw [Option.or_eq_some_iff] at e
  rcases e with e | ⟨-, e⟩
  · unfold againR at e
    rw [Option.map_eq_some_iff] at e
    obtain ⟨j, -, rfl⟩ := e
    exact imm_pick (imm_subst h _ _) _
  · unfold overR at e
    rw [Option.map_eq_some_iff] at e
    obtain ⟨j, -, rfl⟩ := e
    exact imm_pick h _
theorem imm_move {k : Nat} (h : ImmOk l) (e : aheadR l k = some m) : ImmOk m := by
  unfold aheadR at e
  rw [Option.map_eq_some_iff] at e
  obtain ⟨j, -, rfl⟩ := e
  exact imm_pick h _
theorem merge_rests (h : rightB pc words el l = true) (hi : ImmOk l) : rightB pc words el (mergeL l) = true ∧ ImmOk (mergeL l) ∧ mergeL (mergeL l) = mergeL l := by
  obtain ⟨a, b, c⟩ := run_all (T := fun a b => ImmOk a → ImmOk b) (good_merge (pc := pc) (words := words) (el := el)) (fun _ q => q) (fun _ _ _ p q r => q (p r)) (fun _ _ _ _ _ e q => imm_merge q e) l.length l h (Nat.le_refl _)
  exact ⟨a, c hi, run_none b _⟩
theorem loads_rests (h : rightB pc words el l = true) (hi : ImmOk l) : rightB pc words el (loadsL l) = true ∧ ImmOk (loadsL l) ∧ loadsL (loadsL l) = loadsL l := by
  obtain ⟨a, b, c⟩ := run_all (T := fun a b => ImmOk a → ImmOk b) (good_loads (pc := pc) (words := words) (el := el)) (fun _ q => q) (fun _ _ _ p q r => q (p r)) (fun _ _ _ _ _ e q => imm_loads q e) l.length l h (Nat.le_refl _)
  exact ⟨a, c hi, run_none b _⟩
theorem move_rests (h : rightB pc words el l = true) (hi : ImmOk l) : rightB pc words el (moveL l) = true ∧ ImmOk (moveL l) ∧ moveL (moveL l) = moveL l := by
  obtain ⟨a, b, c⟩ := run_all (T := fun a b => ImmOk a → ImmOk b) (good_ahead (pc := pc) (words := words) (el := el)) (fun _ q => q) (fun _ _ _ p q r => q (p r)) (fun _ _ _ _ _ e q => imm_move q e) (muL l) l h (Nat.le_refl _)
  exact ⟨a, c hi, run_none b _⟩
end
end Go.Proofs.Ytilbnjldfgofmaa
/- Stretches between what leaves, and their fences. -/
namespace Go.Proofs.Ytilbnjldfgofmaa
open Go.RowKit
set_option linter.unusedVariables false
set_option linter.unusedSimpArgs false
set_option maxRecDepth 8000

def leavK (k : Int) : Bool := decide (9 ≤ k ∧ k ≤ 12) || decide (15 ≤ k)
def fR (a b : Int) : Int := if a = 0 then b else if b = 0 then a else if a = b then a else 15
/-- A list as stretches: what the fences of a stretch order, and what leaves at its end. -/
def sp : Int → List Opr → List (Int × Int × Int × Int)
  | _, [] => []
  | a, o :: t => if o.kind = 13 then sp (fR a o.r) t else if leavK o.kind = true then (a, o.kind, o.order, o.imm) :: sp 0 t else sp a t
def acc : Int → List Opr → Int
  | a, [] => a
  | a, o :: t => if o.kind = 13 then acc (fR a o.r) t else if leavK o.kind = true then acc 0 t else acc a t
theorem sp_cons (a : Int) (o : Opr) (t : List Opr) : sp a (o :: t) = if o.kind = 13 then sp (fR a o.r) t else if leavK o.kind = true then (a, o.kind, o.order, o.imm) :: sp 0 t else sp a t := rfl
theorem acc_cons (a : Int) (o : Opr) (t : List Opr) : acc a (o :: t) = if o.kind = 13 then acc (fR a o.r) t else if leavK o.kind = true then acc 0 t else acc a t := rfl
theorem sp_app : ∀ (A B : List Opr) (a : Int), sp a (A ++ B) = sp a A ++ sp (acc a A) B
  | [], B, a => rfl
  | o :: t, B, a => by
    rw [List.cons_append, sp_cons, sp_cons, acc_cons]
    by_cases h : o.kind = 13
    · rw [if_pos h, if_pos h, if_pos h]; exact sp_app t B _
    · rw [if_neg h, if_neg h, if_neg h]
      by_cases g : leavK o.kind = true
      · rw [if_pos g, if_pos g, if_pos g, sp_app t B 0]; rfl
      · rw [if_neg g, if_neg g, if_neg g]; exact sp_app t B a
/-- Only the kind, the number of the fence, the order and the number count. -/
def same4 (o u : Opr) : Prop := o.kind = u.kind ∧ o.r = u.r ∧ o.order = u.order ∧ o.imm = u.imm
theorem sp_same : ∀ {A B : List Opr} (a : Int), A.length = B.length → (∀ i, i < A.length → same4 (opAt A i) (opAt B i)) → sp a A = sp a B
  | [], [], a, _, _ => rfl
  | [], _ :: _, a, h, _ => by cases h
  | _ :: _, [], a, h, _ => by cases h
  | o :: s, u :: t, a, h, k => by
    have h0 : same4 o u := k 0 (by simp)
    have hl : s.length = t.length := by simpa using h
    have hk : ∀ i, i < s.length → same4 (opAt s i) (opAt t i) := fun i hi => by have := k (i + 1) (by simp; omega); exact this
    rw [sp_cons, sp_cons, h0.1, h0.2.1, h0.2.2.1, h0.2.2.2, sp_same _ hl hk, sp_same 0 hl hk, sp_same a hl hk]
theorem sp_quiet : ∀ {M : List Opr} (a : Int) (B : List Opr), (∀ o ∈ M, o.kind ≠ 13 ∧ leavK o.kind = false) → sp a (M ++ B) = sp a B
  | [], a, B, _ => rfl
  | o :: t, a, B, h => by
    have h0 := h o List.mem_cons_self
    rw [List.cons_append, sp_cons, if_neg h0.1, if_neg (by rw [h0.2]; decide)]
    exact sp_quiet a B (fun u hu => h u (List.mem_cons_of_mem _ hu))
def okR (r : Int) : Prop := r = 10 ∨ r = 13 ∨ r = 15
theorem fR_orR {a r s : Int} (ha : a = 0 ∨ okR a) (hr : okR r) (hs : okR s) : fR a (orR s r) = fR (fR a r) s := by
  rcases ha with rfl | rfl | rfl | rfl <;> rcases hr with rfl | rfl | rfl <;> rcases hs with rfl | rfl | rfl <;> decide
theorem fR_ok {a r : Int} (ha : a = 0 ∨ okR a) (hr : okR r) : okR (fR a r) := by
  rcases ha with rfl | rfl | rfl | rfl <;> rcases hr with rfl | rfl | rfl <;> (unfold okR; decide)
theorem acc_ok : ∀ {A : List Opr} {a : Int}, (a = 0 ∨ okR a) → (∀ o ∈ A, o.kind = 13 → okR o.r) → (acc a A = 0 ∨ okR (acc a A))
  | [], a, ha, _ => ha
  | o :: t, a, ha, h => by
    rw [acc_cons]
    by_cases g : o.kind = 13
    · rw [if_pos g]; exact acc_ok (.inr (fR_ok ha (h o List.mem_cons_self g))) (fun u hu => h u (List.mem_cons_of_mem _ hu))
    · rw [if_neg g]
      by_cases q : leavK o.kind = true
      · rw [if_pos q]; exact acc_ok (.inl rfl) (fun u hu => h u (List.mem_cons_of_mem _ hu))
      · rw [if_neg q]; exact acc_ok ha (fun u hu => h u (List.mem_cons_of_mem _ hu))
theorem drop_at {l : List Opr} {i : Nat} (h : i < l.length) : l.drop i = opAt l i :: l.drop (i + 1) := by
  rw [List.drop_eq_getElem_cons h]
  congr 1
  have := opAt_some h
  rw [List.getElem?_eq_getElem h] at this
  exact Option.some.inj this
theorem drop_map {α : Type} (f : Nat → α) {n k : Nat} (h : k < n) : (dropP n k).map f = ((List.range n).take k).map f ++ ((List.range n).drop (k + 1)).map f := by
  have e : List.range n = (List.range n).take k ++ (k :: (List.range n).drop (k + 1)) := by
    conv => lhs; rw [← List.take_append_drop k (List.range n), List.drop_eq_getElem_cons (by simpa using h)]
    simp
  have h1 : ∀ i ∈ (List.range n).take k, i ≠ k := fun i hi => by
    rw [List.take_range] at hi
    have := List.mem_range.1 hi
    omega
  have h2 : ∀ i ∈ (List.range n).drop (k + 1), i ≠ k := fun i hi => by
    obtain ⟨q, hq⟩ := List.getElem?_of_mem hi
    rw [List.getElem?_drop] at hq
    have hl := (List.getElem?_eq_some_iff.1 hq).1
    rw [List.getElem?_range (by simpa using hl)] at hq
    cases hq
    omega
  unfold dropP
  conv => lhs; rw [e]
  rw [List.filter_append, List.filter_cons_of_neg (by simp), List.filter_eq_self.2 (fun i hi => by simpa using h1 i hi), List.filter_eq_self.2 (fun i hi => by simpa using h2 i hi), List.map_append]
theorem map_opAt (l : List Opr) : (List.range l.length).map (opAt l) = l := by
  apply List.ext_getElem
  · simp
  · intro i h1 h2
    rw [List.getElem_map, List.getElem_range]
    have := opAt_some h2
    rw [List.getElem?_eq_getElem h2] at this
    exact (Option.some.inj this).symm
theorem drop_opAt {l : List Opr} {k : Nat} (h : k < l.length) : (dropP l.length k).map (opAt l) = l.take k ++ l.drop (k + 1) := by
  rw [drop_map _ h, List.map_take, List.map_drop, map_opAt]
theorem sp_pick (a : Int) (l : List Opr) (p : List Nat) : sp a (pickL l p) = sp a (p.map (opAt l)) := by
  apply sp_same
  · rw [pick_len, List.length_map]
  · intro i hi
    rw [pick_len] at hi
    have e2 : opAt (p.map (opAt l)) i = opAt l p[i] := opAt_of (by rw [List.getElem?_map, List.getElem?_eq_getElem hi]; rfl)
    rw [pick_at (List.getElem?_eq_getElem hi), e2]
    exact ⟨rfl, rfl, rfl, rfl⟩
section
variable {pc words el : Int} {l m : List Opr}
theorem stop_leav {k : Int} (h : isK k = true) : stopK k = (decide (k = 13) || leavK k) := by
  rcases isK_cases h with rfl | rfl | rfl | rfl | rfl | rfl | rfl | rfl | rfl | rfl | rfl | rfl | rfl | rfl | rfl | rfl | rfl | rfl <;> decide +kernel
theorem fence_okR (h : rightB pc words el l = true) {i : Nat} (hi : i < l.length) (g : (opAt l i).kind = 13) : okR (opAt l i).r := by
  have ok := right_at h hi
  have hr : rangeB (opAt l i) = true := by have := ok; unfold okAt opB at this; simp only [Bool.and_eq_true] at this; exact this.1.2.2
  unfold rangeB at hr
  rw [g] at hr
  simp only [beq_iff_eq, Bool.or_eq_true] at hr
  unfold okR
  simp at hr
  omega
theorem merge_sp (h : rightB pc words el l = true) {k : Nat} (hk : k < l.length) (e : mergeR l k = some m) : sp 0 m = sp 0 l := by
  unfold mergeR at e
  rw [Option.map_eq_some_iff] at e
  obtain ⟨j, ej, rfl⟩ := e
  unfold mergeAt at ej
  by_cases c : (opAt l k).kind = 13 ∧ (opAt l (nextK stopK l k)).kind = 13
  · rw [if_pos c] at ej
    cases ej
    obtain ⟨c1, c2⟩ := c
    have hin := inner_k h hk (.inr (.inr c1))
    obtain ⟨n1, n2, n3, n4⟩ := next_stop h hin.2
    generalize nextK stopK l k = j at *
    have rk := fence_okR h hk c1
    have rj := fence_okR h n2 c2
    have quiet : ∀ o ∈ (l.drop (k + 1)).take (j - (k + 1)), o.kind ≠ 13 ∧ leavK o.kind = false := fun o ho => by
      obtain ⟨i, hi⟩ := List.getElem?_of_mem ho
      have hil : i < j - (k + 1) := by
        have := (List.getElem?_eq_some_iff.1 hi).1
        rw [List.length_take] at this
        omega
      rw [List.getElem?_take_of_lt hil, List.getElem?_drop] at hi
      have q := n4 (k + 1 + i) (by omega) (by omega)
      rw [opAt_of hi] at q
      have hK : isK o.kind = true := by have := kind_at (right_at h (k := k + 1 + i) (by omega)); rwa [opAt_of hi] at this
      rw [stop_leav hK] at q
      simp only [Bool.or_eq_false_iff, decide_eq_false_iff_not] at q
      exact q
    have hl : l = l.take k ++ (opAt l k :: ((l.drop (k + 1)).take (j - (k + 1)) ++ opAt l j :: l.drop (j + 1))) := by
      conv => lhs; rw [← List.take_append_drop k l, drop_at hk]
      congr 2
      conv => lhs; rw [← List.take_append_drop (j - (k + 1)) (l.drop (k + 1))]
      rw [List.drop_drop, show k + 1 + (j - (k + 1)) = j by omega, drop_at n2]
    have hm : sp 0 (mergeDo l k j) = sp 0 (l.take k ++ ((l.drop (k + 1)).take (j - (k + 1)) ++ { opAt l j with r := orR (opAt l j).r (opAt l k).r } :: l.drop (j + 1))) := by
      unfold mergeDo
      rw [sp_pick]
      have e : l.length = (orL l j (opAt l k).r).length := by unfold orL; rw [List.length_set]
      rw [e, drop_opAt (by rw [← e]; exact hk)]
      unfold orL
      have e3 : l.drop (k + 1) = (l.drop (k + 1)).take (j - (k + 1)) ++ opAt l j :: l.drop (j + 1) := by
        conv => lhs; rw [← List.take_append_drop (j - (k + 1)) (l.drop (k + 1))]
        rw [List.drop_drop, show k + 1 + (j - (k + 1)) = j by omega, drop_at n2]
      have e4 : ((l.drop (k + 1)).take (j - (k + 1))).length = j - (k + 1) := by rw [List.length_take, List.length_drop]; omega
      rw [List.take_set_of_le (by omega), List.drop_set, if_neg (by omega)]
      congr 2
      conv => lhs; rw [e3]
      rw [List.set_append_right _ _ (by omega), e4, Nat.sub_self, List.set_cons_zero]
    rw [hm]
    conv => rhs; rw [hl]
    rw [sp_app (l.take k), sp_app (l.take k)]
    congr 1
    have ha : acc 0 (l.take k) = 0 ∨ okR (acc 0 (l.take k)) := acc_ok (.inl rfl) (fun o ho g => by
      obtain ⟨i, hi⟩ := List.getElem?_of_mem (List.mem_of_mem_take ho)
      have hil : i < l.length := (List.getElem?_eq_some_iff.1 hi).1
      have := fence_okR h hil (by rw [opAt_of hi]; exact g)
      rwa [opAt_of hi] at this)
    generalize acc 0 (l.take k) = a at *
    rw [sp_quiet a _ quiet]
    rw [sp_cons a (opAt l k), if_pos c1, sp_quiet _ _ quiet, sp_cons _ (opAt l j), if_pos c2, sp_cons]
    show (if (opAt l j).kind = 13 then sp (fR a (orR (opAt l j).r (opAt l k).r)) (l.drop (j + 1)) else _) = _
    rw [if_pos c2, fR_orR ha rk rj]
  · rw [if_neg c] at ej; cases ej
end
end Go.Proofs.Ytilbnjldfgofmaa
/- Barriers and plain accesses. -/
namespace Go.Proofs.Ytilbnjldfgofmaa
open Go.RowKit
set_option linter.unusedVariables false
set_option linter.unusedSimpArgs false
set_option maxRecDepth 8000

def barB (o : Opr) : Bool := o.kind == 11 || o.kind == 12 || o.kind == 13 || o.kind == 15 || ((o.kind == 9 || o.kind == 10) && o.order != 0)
def bare (o : Opr) : Opr := { o with a := 0, b := 0 }
/-- A barrier, a plain load, a plain store, or nothing. -/
def cl (o : Opr) : Option (Sum Opr Bool) := if barB o = true then some (.inl (bare o)) else if o.kind = 9 then some (.inr true) else if o.kind = 10 then some (.inr false) else none
def trc (l : List Opr) : List (Sum Opr Bool) := l.filterMap cl
def trp (l : List Opr) (p : List Nat) : List (Sum Opr Bool) := p.filterMap fun i => cl (opAt l i)
theorem cl_tell (p : List Nat) (o : Opr) : cl (tellP p o) = cl o := rfl
theorem cl_subst (k v : Nat) (o : Opr) : cl (substO k v o) = cl o := rfl
theorem trc_pick (l : List Opr) (p : List Nat) : trc (pickL l p) = trp l p := by
  unfold trc trp pickL
  rw [List.filterMap_map]
  rfl
theorem trc_map {l : List Opr} {f : Opr → Opr} (h : ∀ o, cl (f o) = cl o) : trc (l.map f) = trc l := by
  unfold trc
  rw [List.filterMap_map]
  congr 1
  funext o
  exact h o
theorem trp_app (l : List Opr) (p q : List Nat) : trp l (p ++ q) = trp l p ++ trp l q := List.filterMap_append
theorem trc_all (l : List Opr) : trc l = trp l (List.range l.length) := by
  conv => lhs; rw [← map_opAt l]
  unfold trc trp
  rw [List.filterMap_map]
  rfl
theorem trp_none {l : List Opr} {p : List Nat} (h : ∀ i ∈ p, cl (opAt l i) = none) : trp l p = [] := by
  unfold trp
  rw [List.filterMap_eq_nil_iff]
  exact h
theorem trp_cons (l : List Opr) (i : Nat) (p : List Nat) : trp l (i :: p) = (cl (opAt l i)).toList ++ trp l p := by
  unfold trp
  cases h : cl (opAt l i) <;> simp [h]
theorem cl_at {l : List Opr} {i : Nat} (h : isAt l i = true) : cl (opAt l i) = none := by
  unfold isAt at h
  rw [beq_iff_eq] at h
  unfold cl barB
  rw [h]
  simp
theorem trp_filter {l : List Opr} {p : List Nat} {f : Nat → Bool} (h : ∀ i ∈ p, f i = false → cl (opAt l i) = none) : trp l (p.filter f) = trp l p := by
  induction p with
  | nil => rfl
  | cons i p ih =>
    have ih := ih (fun j hj => h j (List.mem_cons_of_mem _ hj))
    by_cases hf : f i = true
    · rw [List.filter_cons_of_pos hf, trp_cons, trp_cons, ih]
    · rw [List.filter_cons_of_neg hf, trp_cons, ih, h i List.mem_cons_self (by simpa using hf)]
      rfl
theorem cl_quiet {o : Opr} (hK : isK o.kind = true) (h : loudK o.kind = false) : cl o = none := by
  obtain ⟨k, r, a, b, order, imm⟩ := o
  dsimp only at hK h
  rcases isK_cases hK with rfl | rfl | rfl | rfl | rfl | rfl | rfl | rfl | rfl | rfl | rfl | rfl | rfl | rfl | rfl | rfl | rfl | rfl <;> first | (exact absurd h (by decide)) | rfl
theorem cl_load {o : Opr} (h : plainB o 9 = true) : cl o = some (.inr true) := by
  unfold plainB at h
  simp only [Bool.and_eq_true, beq_iff_eq] at h
  unfold cl barB
  rw [h.1, h.2]
  rfl
theorem cl_store {o : Opr} (h : plainB o 10 = true) : cl o = some (.inr false) := by
  unfold plainB at h
  simp only [Bool.and_eq_true, beq_iff_eq] at h
  unfold cl barB
  rw [h.1, h.2]
  rfl
theorem range_cut {n k j : Nat} (hk : k ≤ j) (hj : j < n) : List.range n = List.range k ++ (k :: seg k j) ++ List.range' (j + 1) (n - (j + 1)) := by
  have e1 : (k :: seg k j) = List.range' k (j + 1 - k) := by
    unfold seg
    rw [show j + 1 - k = (j - k) + 1 by omega, List.range'_succ]
  rw [e1, List.range_eq_range', List.range_eq_range']
  have := List.range'_append_1 (s := 0) (m := k) (n := j + 1 - k)
  rw [Nat.zero_add] at this
  rw [this]
  have := List.range'_append_1 (s := 0) (m := k + (j + 1 - k)) (n := n - (j + 1))
  rw [show 0 + (k + (j + 1 - k)) = j + 1 by omega, show k + (j + 1 - k) + (n - (j + 1)) = n by omega] at this
  exact this.symm
theorem seg_last {k j : Nat} (h : k < j) : seg k j = List.range' (k + 1) (j - (k + 1)) ++ [j] := by
  unfold seg
  rw [show j - k = (j - (k + 1)) + 1 by omega, List.range'_concat]
  congr 2
  omega
section
variable {pc words el : Int} {l m : List Opr}
theorem trp_seg (h : rightB pc words el l = true) {k j : Nat} (hk : k < j) (hj : j < l.length) (hq : ∀ i, k < i → i < j → loudK (opAt l i).kind = false) : trp l (seg k j) = (cl (opAt l j)).toList := by
  rw [seg_last hk, trp_app, trp_none, trp_cons]
  · show (cl (opAt l j)).toList ++ [] = _
    rw [List.append_nil]
  · intro i hi
    rw [List.mem_range'_1] at hi
    exact cl_quiet (kind_at (right_at h (by omega))) (hq i (by omega) (by omega))
theorem again_trc (h : rightB pc words el l = true) {k : Nat} (hk : k < l.length) (e : againR l k = some m) : ∃ A B, trc l = A ++ .inr true :: B ∧ trc m = A ++ B := by
  unfold againR at e
  rw [Option.map_eq_some_iff] at e
  obtain ⟨v, ev, rfl⟩ := e
  have hp : plainB (opAt l k) 9 = true := by
    unfold againAt at ev
    by_cases q : plainB (opAt l k) 9 = true
    · exact q
    · rw [if_neg q] at ev; cases ev
  refine ⟨trc (l.take k), trc (l.drop (k + 1)), ?_, ?_⟩
  · conv => lhs; rw [← List.take_append_drop k l, drop_at hk]
    unfold trc
    rw [List.filterMap_append, List.filterMap_cons, cl_load hp]
  · unfold againDo
    rw [trc_pick]
    have e : l.length = (substL l k v).length := by unfold substL; rw [List.length_map]
    have e2 : trp (substL l k v) (dropP l.length k) = trc ((substL l k v).take k ++ (substL l k v).drop (k + 1)) := by
      rw [← drop_opAt (by rw [← e]; exact hk), ← e]
      unfold trp trc
      rw [List.filterMap_map]
      rfl
    rw [e2]
    unfold substL
    rw [← List.map_take, ← List.map_drop, ← List.map_append, trc_map (cl_subst k v)]
    unfold trc
    rw [List.filterMap_append]
theorem move_trc (h : rightB pc words el l = true) {k j : Nat} (hk : k < j) (hj : j < l.length) (hq : ∀ i, k < i → i < j → loudK (opAt l i).kind = false) (hs : plainB (opAt l k) 10 = true) {x : Bool} (hc : cl (opAt l j) = some (.inr x)) :
    trc l = trp l (List.range k) ++ .inr false :: .inr x :: trp l (List.range' (j + 1) (l.length - (j + 1))) ∧
    trc (pickL l (moveP l k j)) = trp l (List.range k) ++ .inr x :: .inr false :: trp l (List.range' (j + 1) (l.length - (j + 1))) ∧
    trc (pickL l (overP l k j)) = trp l (List.range k) ++ .inr x :: trp l (List.range' (j + 1) (l.length - (j + 1))) := by
  have hseg := trp_seg h hk hj hq
  rw [hc] at hseg
  have hats : trp l (ats l k j) = [] := trp_none (fun i hi => cl_at (mem_ats.1 hi).2.2)
  have hnon : trp l (nonAts l k j) = [.inr x] := by
    unfold nonAts
    rw [trp_filter (fun i _ hf => cl_at (by simpa using hf)), hseg]
    rfl
  refine ⟨?_, ?_, ?_⟩
  · rw [trc_all, range_cut (Nat.le_of_lt hk) hj, trp_app, trp_app, trp_cons, cl_store hs, hseg, List.append_assoc]
    rfl
  · rw [trc_pick]
    unfold moveP
    rw [trp_app, trp_app, trp_app, trp_cons, cl_store hs, hats, hnon, List.append_assoc, List.append_assoc]
    rfl
  · rw [trc_pick]
    unfold overP moveP
    rw [List.filter_append, List.filter_append, List.filter_append, List.filter_cons_of_neg (by simp), List.filter_eq_self.2 (fun i hi => by have := List.mem_range.1 hi; simp; omega), List.filter_eq_self.2 (fun i hi => by have := (mem_non.1 hi).1; simp; omega), List.filter_eq_self.2 (fun i hi => by have := (mem_ats.1 hi).1; simp; omega), List.filter_eq_self.2 (fun i hi => by have := List.mem_range'_1.1 hi; simp; omega)]
    rw [trp_app, trp_app, trp_app, hats, hnon, List.append_nil, List.append_assoc]
    rfl
theorem over_trc (h : rightB pc words el l = true) {k : Nat} (hk : k < l.length) (e : overR l k = some m) : ∃ A B, trc l = A ++ .inr false :: B ∧ trc m = A ++ B := by
  unfold overR at e
  rw [Option.map_eq_some_iff] at e
  obtain ⟨j, ev, rfl⟩ := e
  unfold overAt at ev
  by_cases q : plainB (opAt l k) 10 = true ∧ plainB (opAt l (nextK loudK l k)) 10 = true ∧ (opAt l (nextK loudK l k)).a = (opAt l k).a
  · rw [if_pos q] at ev
    cases ev
    have k10 : (opAt l k).kind = 10 := by have := q.1; unfold plainB at this; simp only [Bool.and_eq_true, beq_iff_eq] at this; exact this.1
    obtain ⟨n1, n2, n3, n4⟩ := next_loud h (inner_k h hk (.inr (.inl k10))).2
    obtain ⟨a, b, c⟩ := move_trc h n1 n2 n4 q.1 (cl_store q.2.1)
    exact ⟨_, _, a, c⟩
  · rw [if_neg q] at ev; cases ev
theorem ahead_trc (h : rightB pc words el l = true) {k : Nat} (hk : k < l.length) (e : aheadR l k = some m) : ∃ A B, trc l = A ++ .inr false :: .inr true :: B ∧ trc m = A ++ .inr true :: .inr false :: B := by
  unfold aheadR at e
  rw [Option.map_eq_some_iff] at e
  obtain ⟨j, ev, rfl⟩ := e
  unfold aheadAt at ev
  by_cases q : plainB (opAt l k) 10 = true ∧ plainB (opAt l (nextK loudK l k)) 9 = true ∧ differB l (opAt l k).a (opAt l (nextK loudK l k)).a = true
  · rw [if_pos q] at ev
    cases ev
    have k10 : (opAt l k).kind = 10 := by have := q.1; unfold plainB at this; simp only [Bool.and_eq_true, beq_iff_eq] at this; exact this.1
    obtain ⟨n1, n2, n3, n4⟩ := next_loud h (inner_k h hk (.inr (.inl k10))).2
    obtain ⟨a, b, c⟩ := move_trc h n1 n2 n4 q.1 (cl_load q.2.1)
    exact ⟨_, _, a, b⟩
  · rw [if_neg q] at ev; cases ev
end
end Go.Proofs.Ytilbnjldfgofmaa
/- What Loads and Move leave of stretches and barriers. -/
namespace Go.Proofs.Ytilbnjldfgofmaa
open Go.RowKit
set_option linter.unusedVariables false
set_option linter.unusedSimpArgs false
set_option maxRecDepth 8000

def bars : List (Sum Opr Bool) → List Opr
  | [] => []
  | .inl o :: t => o :: bars t
  | .inr _ :: t => bars t
def pts : Nat → Nat → List (Sum Opr Bool) → List (Nat × Nat)
  | x, y, [] => [(x, y)]
  | x, y, .inl _ :: t => (x, y) :: pts 0 0 t
  | x, y, .inr true :: t => pts (x + 1) y t
  | x, y, .inr false :: t => pts x (y + 1) t
theorem pts_len : ∀ (t : List (Sum Opr Bool)) (x y : Nat), (pts x y t).length = (bars t).length + 1
  | [], _, _ => rfl
  | .inl _ :: t, _, _ => by show (pts 0 0 t).length + 1 = (bars t).length + 1 + 1; rw [pts_len t]
  | .inr true :: t, x, y => pts_len t (x + 1) y
  | .inr false :: t, x, y => pts_len t x (y + 1)
/-- No more of each. -/
def LeP (p q : List (Nat × Nat)) : Prop := p.length = q.length ∧ ∀ (i : Nat) (a b : Nat × Nat), p[i]? = some a → q[i]? = some b → a.1 ≤ b.1 ∧ a.2 ≤ b.2
theorem LeP.refl (p : List (Nat × Nat)) : LeP p p := ⟨rfl, fun i a b h k => by rw [h] at k; cases k; exact ⟨Nat.le_refl _, Nat.le_refl _⟩⟩
theorem LeP.trans {p q r : List (Nat × Nat)} (h : LeP p q) (k : LeP q r) : LeP p r := ⟨h.1.trans k.1, fun i a c ha hc => by
  obtain ⟨b, hb⟩ : ∃ b, q[i]? = some b := by
    have := (List.getElem?_eq_some_iff.1 ha).1
    exact ⟨_, List.getElem?_eq_getElem (by rw [← h.1]; exact this)⟩
  have h1 := h.2 i a b ha hb
  have h2 := k.2 i b c hb hc
  omega⟩
theorem LeP.cons {p q : List (Nat × Nat)} {a b : Nat × Nat} (h : LeP p q) (k : a.1 ≤ b.1 ∧ a.2 ≤ b.2) : LeP (a :: p) (b :: q) := ⟨by simp [h.1], fun i c d hc hd => by
  cases i with
  | zero => cases hc; cases hd; exact k
  | succ i => exact h.2 i c d hc hd⟩
theorem pts_mono : ∀ (t : List (Sum Opr Bool)) (x y u v : Nat), x ≤ u → y ≤ v → LeP (pts x y t) (pts u v t)
  | [], x, y, u, v, h, k => LeP.cons (LeP.refl []) ⟨h, k⟩
  | .inl _ :: t, x, y, u, v, h, k => LeP.cons (LeP.refl _) ⟨h, k⟩
  | .inr true :: t, x, y, u, v, h, k => pts_mono t (x + 1) y (u + 1) v (by omega) k
  | .inr false :: t, x, y, u, v, h, k => pts_mono t x (y + 1) u (v + 1) h (by omega)
theorem bars_app : ∀ (A B : List (Sum Opr Bool)), bars (A ++ B) = bars A ++ bars B
  | [], _ => rfl
  | .inl o :: t, B => by show o :: bars (t ++ B) = o :: (bars t ++ bars B); rw [bars_app t B]
  | .inr _ :: t, B => bars_app t B
theorem pts_less : ∀ (A B : List (Sum Opr Bool)) (b : Bool) (x y : Nat), LeP (pts x y (A ++ B)) (pts x y (A ++ .inr b :: B))
  | [], B, true, x, y => pts_mono B x y (x + 1) y (by omega) (by omega)
  | [], B, false, x, y => pts_mono B x y x (y + 1) (by omega) (by omega)
  | .inl _ :: t, B, b, x, y => LeP.cons (pts_less t B b 0 0) ⟨Nat.le_refl _, Nat.le_refl _⟩
  | .inr true :: t, B, b, x, y => pts_less t B b (x + 1) y
  | .inr false :: t, B, b, x, y => pts_less t B b x (y + 1)
theorem pts_swap : ∀ (A B : List (Sum Opr Bool)) (x y : Nat), pts x y (A ++ .inr true :: .inr false :: B) = pts x y (A ++ .inr false :: .inr true :: B)
  | [], B, x, y => rfl
  | .inl _ :: t, B, x, y => by show (x, y) :: pts 0 0 (t ++ _) = (x, y) :: pts 0 0 (t ++ _); rw [pts_swap t B 0 0]
  | .inr true :: t, B, x, y => pts_swap t B (x + 1) y
  | .inr false :: t, B, x, y => pts_swap t B x (y + 1)
section
variable {pc words el : Int} {l : List Opr}
theorem loads_keeps (h : rightB pc words el l = true) : bars (trc (loadsL l)) = bars (trc l) ∧ LeP (pts 0 0 (trc (loadsL l))) (pts 0 0 (trc l)) := by
  obtain ⟨-, -, c⟩ := run_all (T := fun a b => bars (trc b) = bars (trc a) ∧ LeP (pts 0 0 (trc b)) (pts 0 0 (trc a))) (good_loads (pc := pc) (words := words) (el := el)) (fun _ => ⟨rfl, LeP.refl _⟩) (fun _ _ _ p q => ⟨q.1.trans p.1, q.2.trans p.2⟩) (fun l k m hr hk e => by
    have : ∃ A B b, trc l = A ++ .inr b :: B ∧ trc m = A ++ B := by
      unfold loadsR at e
      rw [Option.or_eq_some_iff] at e
      rcases e with e | ⟨-, e⟩
      · obtain ⟨A, B, h1, h2⟩ := again_trc hr hk e
        exact ⟨A, B, true, h1, h2⟩
      · obtain ⟨A, B, h1, h2⟩ := over_trc hr hk e
        exact ⟨A, B, false, h1, h2⟩
    obtain ⟨A, B, b, h1, h2⟩ := this
    rw [h1, h2]
    exact ⟨by rw [bars_app, bars_app]; rfl, pts_less A B b 0 0⟩) l.length l h (Nat.le_refl _)
  exact c
theorem move_keeps (h : rightB pc words el l = true) : bars (trc (moveL l)) = bars (trc l) ∧ pts 0 0 (trc (moveL l)) = pts 0 0 (trc l) := by
  obtain ⟨-, -, c⟩ := run_all (T := fun a b => bars (trc b) = bars (trc a) ∧ pts 0 0 (trc b) = pts 0 0 (trc a)) (good_ahead (pc := pc) (words := words) (el := el)) (fun _ => ⟨rfl, rfl⟩) (fun _ _ _ p q => ⟨q.1.trans p.1, q.2.trans p.2⟩) (fun l k m hr hk e => by
    obtain ⟨A, B, h1, h2⟩ := ahead_trc hr hk e
    rw [h1, h2]
    exact ⟨by rw [bars_app, bars_app]; rfl, pts_swap A B 0 0⟩) (muL l) l h (Nat.le_refl _)
  exact c
end
end Go.Proofs.Ytilbnjldfgofmaa
