/- The program's timer, as the machine's blocks hold it. -/
import Derived.Test.YteklkololojamaaGreatHg
import Derived.Test.YteklkololojamaaGreatTa
import Derived.Test.YteklkololojamaaGreatRel
namespace Go.Proofs.YteklkololojamaaGreat.Tmr
open Go.RowKit
open Tim
set_option linter.unusedVariables false
set_option linter.unusedSimpArgs false

/-- A moment that waits in the queue: when, and whose. -/
structure Trn where
  rank : Int
  id : Int
def Trn.row (t : Trn) : List Value := [vU t.rank, vI t.id]
abbrev Trn.val (t : Trn) : Value := .agg #[vU t.rank, vI t.id]
def nilT : Trn := ⟨0, 0⟩
def flatT (l : List Trn) : List Value := l.flatMap Trn.row
theorem len_flatT (l : List Trn) : (flatT l).length = l.length * 2 := by
  induction l with
  | nil => rfl
  | cons a l ih => simp only [flatT, List.flatMap_cons, List.length_append, List.length_cons, Trn.row] at ih ⊢; simp only [List.length_nil]; omega
theorem flatT_get {l : List Trn} {k : Nat} {s : Trn} (h : l[k]? = some s) (j : Nat) (hj : j < 2) : (flatT l)[k * 2 + j]? = s.row[j]? := by
  induction l generalizing k with
  | nil => simp at h
  | cons a l ih =>
    have e : flatT (a :: l) = a.row ++ flatT l := rfl
    cases k with
    | zero =>
      simp at h; subst h
      rw [e, Nat.zero_mul, Nat.zero_add, List.getElem?_append_left (by simpa [Trn.row] using hj)]
    | succ k =>
      have := ih (k := k) (by simpa using h)
      rw [e, List.getElem?_append_right (by simp [Trn.row]; omega), ← this]
      simp only [Trn.row, List.length_cons, List.length_nil]
      congr 1; omega
theorem one_flatT (l : List Trn) : ∀ u ∈ flatT l, u.oneCell' = true := by
  intro u hu
  simp only [flatT, Trn.row, List.mem_flatMap, List.mem_cons, List.not_mem_nil, or_false] at hu
  obtain ⟨s, _, h | h⟩ := hu <;> subst h <;> rfl
/-- An alarm, and an alarm at a count. -/
structure Al where
  cval : Int
  ctl : Int
def Al.row (s : Al) : List Value := [vU s.cval, vU s.ctl]
abbrev Al.val (s : Al) : Value := .agg #[vU s.cval, vU s.ctl]
structure Sg where
  cval : Int
  ctl : Int
  cnt : Int
def Sg.row (s : Sg) : List Value := [vU s.cval, vU s.ctl, vU s.cnt]
abbrev Sg.val (s : Sg) : Value := .agg #[vU s.cval, vU s.ctl, vU s.cnt]
def nilG : Sg := ⟨0, 0, 0⟩
/-- The timer's blocks. -/
structure TimAt (g cb n : Nat) (T : Tm) (w : World) : Prop where
  pos : 0 < n
  le8 : n ≤ 8
  ok : T.Ok
  top : w.heap[g]? = some (.cells #[vU T.cnt, .slice (some ⟨cb, 0, none⟩) n n] 126)
  cor : ∃ C, w.heap[cb]? = some (.cells C 110) ∧ C.size = n * 2 ∧ ∀ c, c < n → C[c * 2]? = some (vU (T.cval c)) ∧ C[c * 2 + 1]? = some (vU (T.ctl c))
def TFoot (g cb : Nat) (k : Nat) : Prop := k = g ∨ k = cb
section
variable {g cb n : Nat} {T : Tm} {w w' : World}
theorem TimAt.keep (H : TimAt g cb n T w) (hb : ∀ k, TFoot g cb k → w'.heap[k]? = w.heap[k]?) : TimAt g cb n T w' :=
  ⟨H.pos, H.le8, H.ok, by rw [hb _ (.inl rfl)]; exact H.top, by rw [hb _ (.inr rfl)]; exact H.cor⟩
theorem TimAt.lt (H : TimAt g cb n T w) {k : Nat} (hk : TFoot g cb k) : k < w.heap.size := by
  rcases hk with rfl | rfl
  · exact lt_of_some H.top
  · obtain ⟨C, h, _⟩ := H.cor; exact lt_of_some h
theorem TimAt.grow (H : TimAt g cb n T w) (hb : Below w.heap.size w w') : TimAt g cb n T w' := H.keep fun k hk => hb.block k (H.lt hk)
theorem TimAt.c0 (H : TimAt g cb n T w) : w.cell? ⟨g, 0, none⟩ = some (vU T.cnt) := by rw [cell_of_row _ _ _ _ _ _ H.top]; rfl
theorem TimAt.c1 (H : TimAt g cb n T w) : w.cell? ⟨g, 1, none⟩ = some (.slice (some ⟨cb, 0, none⟩) n n) := by rw [cell_of_row _ _ _ _ _ _ H.top]; rfl
theorem TimAt.f0 (H : TimAt g cb n T w) (j : Nat) : w.frozen? ⟨g, j, none⟩ = false := frozen_of_row _ _ _ _ _ H.top
theorem TimAt.fc (H : TimAt g cb n T w) (j : Nat) : w.frozen? ⟨cb, j, none⟩ = false := by
  obtain ⟨C, h, _⟩ := H.cor
  exact frozen_of_row _ _ _ _ _ h
theorem TimAt.cv (H : TimAt g cb n T w) {c : Nat} (hc : c < n) : w.cell? ⟨cb, c * 2, none⟩ = some (vU (T.cval c)) := by
  obtain ⟨C, h, _, t⟩ := H.cor
  rw [cell_of_row _ _ _ _ _ _ h]; exact (t c hc).1
theorem TimAt.cc (H : TimAt g cb n T w) {c : Nat} (hc : c < n) : w.cell? ⟨cb, c * 2 + 1, none⟩ = some (vU (T.ctl c)) := by
  obtain ⟨C, h, _, t⟩ := H.cor
  rw [cell_of_row _ _ _ _ _ _ h]; exact (t c hc).2
theorem TimAt.ne (H : TimAt g cb n T w) : g ≠ cb := by
  obtain ⟨D, k, _⟩ := H.cor
  exact ne_of_type H.top k (by decide)
/-- What a call does. -/
def TT (g cb n : Nat) (T : Tm) (w w' : World) : Prop := TimAt g cb n T w' ∧ Goes (TFoot g cb) w w'
theorem TT.grow (h : TT g cb n T w w') {w2 : World} (hb : Below w'.heap.size w' w2) : TT g cb n T w w2 := ⟨h.1.grow hb, h.2.grow hb⟩
theorem TimAt.ticked (H : TimAt g cb n T w) (k : Int) : TT g cb n (T.tick k) w (w.setCell ⟨g, 0, none⟩ (vU ((T.cnt + k) % 18446744073709551616))) := by
  refine ⟨⟨H.pos, H.le8, tick_ok H.ok k, ?_, ?_⟩, goes_setCell w (F := TFoot g cb) (.inl rfl) _ _⟩
  · exact heap_setCell_same w g 0 _ 126 _ H.top
  · rw [Below.heap_setCell _ _ _ _ (Ne.symm H.ne)]; exact H.cor
theorem TimAt.putV (H : TimAt g cb n T w) {c : Nat} (hc : c < n) {v : Int} (hv : U64 v) : TT g cb n (T.setV c v) w (w.setCell ⟨cb, c * 2, none⟩ (vU v)) := by
  refine ⟨⟨H.pos, H.le8, setV_ok H.ok c hv.1 hv.2, ?_, ?_⟩, goes_setCell w (F := TFoot g cb) (.inr rfl) _ _⟩
  · rw [Below.heap_setCell _ _ _ _ H.ne]; exact H.top
  · obtain ⟨C, h, hs, t⟩ := H.cor
    refine ⟨_, heap_setCell_same w cb (c * 2) _ 110 _ h, by simp [hs], fun d hd => ?_⟩
    simp only [Tm.setV, Array.getElem?_setIfInBounds]
    constructor
    · by_cases e : d = c
      · subst e; rw [if_pos rfl, if_pos (by omega), if_pos rfl]
      · rw [if_neg (by omega), if_neg e]; exact (t d hd).1
    · rw [if_neg (by omega)]; exact (t d hd).2
theorem TimAt.putC (H : TimAt g cb n T w) {c : Nat} (hc : c < n) (v : Int) : TT g cb n (T.setC c v) w (w.setCell ⟨cb, c * 2 + 1, none⟩ (vU (v % 4))) := by
  refine ⟨⟨H.pos, H.le8, setC_ok H.ok c v, ?_, ?_⟩, goes_setCell w (F := TFoot g cb) (.inr rfl) _ _⟩
  · rw [Below.heap_setCell _ _ _ _ H.ne]; exact H.top
  · obtain ⟨C, h, hs, t⟩ := H.cor
    refine ⟨_, heap_setCell_same w cb (c * 2 + 1) _ 110 _ h, by simp [hs], fun d hd => ?_⟩
    simp only [Tm.setC, Array.getElem?_setIfInBounds]
    constructor
    · rw [if_neg (by omega)]; exact (t d hd).1
    · by_cases e : d = c
      · subst e; rw [if_pos rfl, if_pos (by omega), if_pos rfl]
      · rw [if_neg (by omega), if_neg e]; exact (t d hd).2
end
theorem inf57 : (Tryz.prog.info? 110).map (·.size) = some 2 := by kernel_rfl
theorem inf59 : (Tryz.prog.info? 112).map (·.size) = some 3 := by kernel_rfl
theorem wpList_ldS {ops : Array Oper} {rest : List Oper} {o : Oper} {a : Act} {w : World} {Q : Exit → Act → World → Prop} (hgd : o.guard = none) (x : Operand) (ho : o.op = .load 112 x) (b k : Nat) (hx : a.eval x = ptr b k) (s : Sg) (hr : ∀ (j : Nat), j < 3 → w.cell? ⟨b, k + j, none⟩ = s.row[j]?)
    (h : wpList Tryz.prog ops Q rest (a.put o.dst s.val) w) : wpList Tryz.prog ops Q (o :: rest) a w :=
  wpList_load_mid hgd 112 x ho b k hx s.row _ (fun j y hy => by rw [hr j (List.getElem?_eq_some_iff.1 hy).1]; exact hy) Tryz.underlying112 rfl inf59 h
theorem wpList_stS {ops : Array Oper} {rest : List Oper} {o : Oper} {a : Act} {w : World} {Q : Exit → Act → World → Prop} (hgd : o.guard = none) (x y : Operand) (ho : o.op = .store 112 x y) (b : Nat) (hx : a.eval x = ptr b 0) (s s0 : Sg) (hy : a.eval y = s.val) (hg : w.heap[b]? = some (.cells s0.row.toArray 112))
    (h : wpList Tryz.prog ops Q rest (a.put o.dst undef) (w.setRow b s.row.toArray)) : wpList Tryz.prog ops Q (o :: rest) a w :=
  wpList_store_row hgd 112 x y ho b s.row.toArray hx hy 112 _ hg inf59 rfl (by simp [Value.oneCell', Sg.row]) h
theorem load59 (w : World) (g : Nat) (s : Sg) (hg : w.heap[g]? = some (.cells s.row.toArray 112)) : (loadVar 112 ⟨g, 0, none⟩).run Tryz.prog w = .ok s.val w :=
  run_loadVar_row w g 112 112 s.row.toArray (0, 0) _ hg Tryz.underlying112 rfl inf59
theorem back_s {fn : Func} {p : Tmp} (h : fn.results = #[.cell p 112]) (tmps : Array Value) (w : World) (g : Nat) (s : Sg) (hp : tmps.getD p undef = ptr g 0) (hg : w.heap[g]? = some (.cells s.row.toArray 112)) : (results fn tmps).run Tryz.prog w = .ok s.val w := by
  have hp' : tmps[p]?.getD undef = .pointer (some ⟨g, 0, none⟩) := by simpa using hp
  simp [results, h, hp', asAddr, load59 w g s hg]
theorem below_setRow {w0 w : World} {b : Nat} {cs : Array Value} (B : Below w0.heap.size w0 w) (hb : w0.heap.size ≤ b) : Below w0.heap.size w0 (w.setRow b cs) :=
  B.trans ((goes_setRow w (F := fun k => k = b) rfl cs).below B.size fun k hk => by subst hk; exact hb)
def hasB (n : Nat) (core : Int) : Bool := decide (0 ≤ core) && decide (core < (n : Int))
theorem has_of {n : Nat} {core : Int} (h : hasB n core = true) : 0 ≤ core ∧ core < n := by
  simp only [hasB, Bool.and_eq_true, decide_eq_true_eq] at h
  exact h
section
variable {g cb n : Nat} {T : Tm} {w : World}
theorem has_c (H : TimAt g cb n T w) (core : Int) : Calls Tryz.prog 64 #[ptr g 0, vI core] w fun e w' => e = .returned (.bool (hasB n core)) ∧ w' = w := by
  have c1 := H.c1
  clear H
  unfold hasB
  by_cases h1 : 0 ≤ core
  · rw [decide_eq_true h1]
    go_enter Tryz.func64, Tryz.ntmps64
    go_wp2
    go_ret
    exact ⟨rfl, rfl⟩
  · rw [decide_eq_false h1]
    go_enter Tryz.func64, Tryz.ntmps64
    go_wp2
    go_ret
    exact ⟨rfl, rfl⟩
theorem count_c (H : TimAt g cb n T w) : Calls Tryz.prog 34 #[ptr g 0] w fun e w' => e = .returned (vU T.cnt) ∧ w' = w := by
  have c0 := H.c0
  clear H
  go_enter Tryz.func34, Tryz.ntmps34
  go_wp2
  go_ret
  exact ⟨rfl, rfl⟩
theorem tick_c (H : TimAt g cb n T w) (k : Int) : Calls Tryz.prog 57 #[ptr g 0, vU k] w fun e w' => e = .returned (.tuple #[]) ∧ TT g cb n (T.tick k) w w' := by
  have c0 := H.c0
  have f0 := H.f0 0
  have hT := H.ticked k
  have e1 : IntKind.u64.wrap (T.cnt + k) = (T.cnt + k) % 18446744073709551616 := by rw [IntKind.wrap_u64]
  rw [← e1] at hT
  clear e1
  go_enter Tryz.func57, Tryz.ntmps57
  go_wp2
  exact bodyPost_end (results_none rfl _ _ _) rfl ⟨rfl, hT⟩
end
end Go.Proofs.YteklkololojamaaGreat.Tmr
