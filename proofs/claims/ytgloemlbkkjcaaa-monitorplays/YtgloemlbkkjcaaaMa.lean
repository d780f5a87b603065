/- A monitor, as the machine's block holds it; its small functions. -/
import Derived.Test.YtgloemlbkkjcaaaRows
import Derived.Test.YtgloemlbkkjcaaaTail
import Derived.WalkKit
import Derived.WalkSpells
import Derived.WalkLawsBesides
import Derived.Below
import Derived.Laws.Rows
import Derived.Laws.Tables
import Derived.Laws.AppendOwn
import Derived.Laws.OwnMore
import Derived.Laws.ResultCell
import Derived.BigQuiet
import Derived.Deep.QuietTactic
import Derived.Deep.RegionWith
import Derived.Deep.MidRow
import Derived.Deep.Cut
import Derived.Deep.CutRange
import Derived.LoopTactic
namespace Go.Proofs.Ytgloemlbkkjcaaa
open Go.RowKit
set_option linter.unusedVariables false
set_option linter.unusedSimpArgs false

abbrev vU (n : Int) : Value := .int .u64 n
abbrev vI (n : Int) : Value := .int .i64 n
abbrev ptr (g k : Nat) : Value := .pointer (some ⟨g, k, none⟩)
def U64 (n : Int) : Prop := 0 ≤ n ∧ n < 18446744073709551616
def I64 (n : Int) : Prop := -9223372036854775808 ≤ n ∧ n ≤ 9223372036854775807
/-- All blocks but those of F are as they were. -/
structure Goes (F : Nat → Prop) (w w' : World) : Prop where
  os : w'.os = w.os
  tape : w'.tape = w.tape
  output : w'.output = w.output
  size : w.heap.size ≤ w'.heap.size
  block : ∀ k, k < w.heap.size → ¬ F k → w'.heap[k]? = w.heap[k]?
theorem Goes.refl (F : Nat → Prop) (w : World) : Goes F w w := ⟨rfl, rfl, rfl, Nat.le_refl _, fun _ _ _ => rfl⟩
theorem Goes.trans {F G : Nat → Prop} {a b c : World} (h : Goes F a b) (k : Goes G b c) (hF : ∀ k, k < a.heap.size → G k → F k) : Goes F a c :=
  ⟨k.os.trans h.os, k.tape.trans h.tape, k.output.trans h.output, Nat.le_trans h.size k.size, fun i hi hn => (k.block i (Nat.lt_of_lt_of_le hi h.size) (fun g => hn (hF i hi g))).trans (h.block i hi hn)⟩
theorem Goes.grow {F : Nat → Prop} {a b c : World} (h : Goes F a b) (k : Below b.heap.size b c) : Goes F a c :=
  ⟨k.os.trans h.os, k.tape.trans h.tape, k.output.trans h.output, Nat.le_trans h.size k.size, fun i hi hn => (k.block i (Nat.lt_of_lt_of_le hi h.size)).trans (h.block i hi hn)⟩
theorem goes_of_below {F : Nat → Prop} {a b : World} (k : Below a.heap.size a b) : Goes F a b := (Goes.refl F a).grow k
theorem Goes.below {F : Nat → Prop} {a b : World} {B : Nat} (h : Goes F a b) (hB : B ≤ a.heap.size) (hF : ∀ k, F k → B ≤ k) : Below B a b :=
  ⟨h.os, h.tape, h.output, h.size, fun k hk => h.block k (by omega) fun hf => by have := hF k hf; omega⟩
theorem goes_setRow {F : Nat → Prop} (w : World) {b : Nat} (hb : F b) (cs : Array Value) : Goes F w (w.setRow b cs) :=
  ⟨rfl, rfl, rfl, by simp, fun k _ hn => setRow_other w b k cs (fun e => hn (e ▸ hb))⟩
theorem below_alloc (w : World) (o : Obj) : Below w.heap.size w (w.alloc o) := (Below.refl _ _).alloc (Nat.le_refl _) o
theorem below_then {B : Nat} {a b c : World} (h : Below B a b) (hB : B ≤ a.heap.size) (k : Below b.heap.size b c) : Below B a c := h.trans (k.mono (Nat.le_trans hB h.size))
theorem lt_of_some {w : World} {b : Nat} {o : Obj} (h : w.heap[b]? = some o) : b < w.heap.size := (Array.getElem?_eq_some_iff.1 h).1

/-- Marks. -/
abbrev Mk := Bool × Int
def Mk.row (s : Mk) : List Value := [.bool s.1, vU s.2]
abbrev Mk.val (s : Mk) : Value := .agg #[.bool s.1, vU s.2]
def flatM (l : List Mk) : List Value := l.flatMap Mk.row
theorem len_flatM (l : List Mk) : (flatM l).length = l.length * 2 := by
  induction l with
  | nil => rfl
  | cons a l ih => simp only [flatM, Mk.row, List.flatMap_cons, List.length_append, List.length_cons, List.length_nil] at ih ⊢; omega
theorem flatM_get {l : List Mk} {k : Nat} {s : Mk} (h : l[k]? = some s) : (flatM l)[k * 2]? = some (.bool s.1) ∧ (flatM l)[k * 2 + 1]? = some (vU s.2) := by
  induction l generalizing k with
  | nil => simp at h
  | cons a l ih =>
    cases k with
    | zero => simp at h; subst h; exact ⟨rfl, rfl⟩
    | succ k =>
      have := ih (k := k) (by simpa using h)
      rw [show (k + 1) * 2 = k * 2 + 2 by omega]
      exact this
theorem flatM_set (l : List Mk) (k : Nat) (s : Mk) : ((flatM l).set (k * 2) (.bool s.1)).set (k * 2 + 1) (vU s.2) = flatM (l.set k s) := by
  induction l generalizing k with
  | nil => rfl
  | cons a l ih =>
    cases k with
    | zero => rfl
    | succ k =>
      rw [show (k + 1) * 2 = k * 2 + 2 by omega]
      show Value.bool a.1 :: vU a.2 :: ((flatM l).set (k * 2) (.bool s.1)).set (k * 2 + 1) (vU s.2) = _
      rw [ih]; rfl
theorem one_flatM (l : List Mk) : ∀ u ∈ flatM l, u.oneCell' = true := by
  intro u hu
  simp only [flatM, Mk.row, List.mem_flatMap, List.mem_cons, List.not_mem_nil, or_false] at hu
  obtain ⟨s, _, h | h⟩ := hu <;> subst h <;> rfl
/-- A stretch of a row laid down. -/
def seg (C : List Value) (o : Nat) : List Value → List Value
  | [] => C
  | v :: r => seg (C.set o v) (o + 1) r
theorem setCells_row {b : Nat} {t : TypeId} : ∀ (vs : List Value) (o : Nat) (C : List Value) (w : World), w.heap[b]? = some (.cells C.toArray t) → w.setCells b o vs = w.setRow b (seg C o vs).toArray
  | [], o, C, w, h => by rw [World.setCells, seg, setRow_self w b _ t _ h]
  | v :: r, o, C, w, h => by
    rw [World.setCells, setCell_eq_setRow w b o _ t _ v h, List.setIfInBounds_toArray, setCells_row r (o + 1) (C.set o v) _ (setRow_heap _ _ _ _ _ _ h), setRow_setRow, seg]
theorem seg_app (post : List Value) : ∀ (new old pre : List Value), new.length = old.length → seg (pre ++ (old ++ post)) pre.length new = pre ++ (new ++ post)
  | [], [], pre, _ => rfl
  | v :: r, u :: o, pre, h => by
    rw [seg, List.set_append_right _ _ (Nat.le_refl _), Nat.sub_self]
    have := seg_app post r o (pre ++ [v]) (by simpa using h)
    simp only [List.length_append, List.length_singleton, List.append_assoc, List.singleton_append, List.cons_append] at this
    simpa using this
def monC (n : Int) (ms : List Mk) : List Value := vI n :: flatM ms
theorem seg_mon (n : Int) {ms ns : List Mk} (h : ns.length = ms.length) : seg (monC n ms) 1 (flatM ns) = monC n ns := by
  have := seg_app [] (flatM ns) (flatM ms) [vI n] (by rw [len_flatM, len_flatM, h])
  simpa [monC] using this
theorem seg_marks {ms ns : List Mk} (h : ns.length = ms.length) : seg (flatM ms) 0 (flatM ns) = flatM ns := by
  have := seg_app [] (flatM ns) (flatM ms) [] (by rw [len_flatM, len_flatM, h])
  simpa using this
theorem seg_mark (ms : List Mk) (k : Nat) (s : Mk) : seg (flatM ms) (k * 2) s.row = flatM (ms.set k s) := flatM_set ms k s
structure MonAt (g : Nat) (n : Int) (ms : List Mk) (w : World) : Prop where
  row : w.heap[g]? = some (.cells (monC n ms).toArray 59)
  len : ms.length = 8
theorem MonAt.keep {g : Nat} {n : Int} {ms : List Mk} {w w' : World} (h : MonAt g n ms w) (hb : w'.heap[g]? = w.heap[g]?) : MonAt g n ms w' := ⟨by rw [hb]; exact h.row, h.len⟩
theorem MonAt.lt {g : Nat} {n : Int} {ms : List Mk} {w : World} (h : MonAt g n ms w) : g < w.heap.size := lt_of_some h.row
theorem MonAt.grow {g : Nat} {n : Int} {ms : List Mk} {w w' : World} (h : MonAt g n ms w) (hb : Below w.heap.size w w') : MonAt g n ms w' := h.keep (hb.block g h.lt)
theorem MonAt.c0 {g : Nat} {n : Int} {ms : List Mk} {w : World} (h : MonAt g n ms w) : w.cell? ⟨g, 0, none⟩ = some (vI n) := by rw [cell_of_row _ _ _ _ _ _ h.row]; rfl
theorem range_of {w : World} {b o : Nat} {C vs : List Value} {t : TypeId} (h : w.heap[b]? = some (.cells C.toArray t)) (hv : ∀ (j : Nat) v, vs[j]? = some v → C[o + j]? = some v) : w.rangeAt b o vs := fun j v hj => by
  rw [cell_of_row _ _ _ _ _ _ h]
  simpa using hv j v hj
theorem there_of {w : World} {b o n : Nat} {C : List Value} {t : TypeId} (h : w.heap[b]? = some (.cells C.toArray t)) (hn : o + n ≤ C.length) : w.there b o n := fun j hj => by
  rw [cell_of_row _ _ _ _ _ _ h]
  refine ⟨?_, frozen_of_row _ _ _ _ _ h⟩
  have : o + j < C.length := by omega
  simp [this]
theorem MonAt.all {g : Nat} {n : Int} {ms : List Mk} {w : World} (h : MonAt g n ms w) : w.rangeAt g 1 (flatM ms) := range_of h.row fun j v hj => by rw [monC, Nat.add_comm]; simpa using hj
theorem row_two {C : List Value} {o : Nat} {s : Mk} (h0 : C[o]? = some (.bool s.1)) (h1 : C[o + 1]? = some (vU s.2)) : ∀ (j : Nat) v, s.row[j]? = some v → C[o + j]? = some v := by
  intro j v hj
  match j with
  | 0 => rw [Nat.add_zero, h0]; exact hj
  | 1 => rw [h1]; exact hj
  | j + 2 => simp [Mk.row] at hj
theorem MonAt.one {g : Nat} {n : Int} {ms : List Mk} {w : World} (h : MonAt g n ms w) {k : Nat} {s : Mk} (hs : ms[k]? = some s) : w.rangeAt g (1 + k * 2) s.row :=
  range_of h.row (row_two (by rw [monC, Nat.add_comm]; simpa using (flatM_get hs).1) (by rw [monC, show 1 + k * 2 + 1 = (k * 2 + 1) + 1 by omega]; simpa using (flatM_get hs).2))
theorem inf57 : (Try.prog.info? 57).map (·.size) = some 16 := by kernel_rfl
theorem inf55 : (Try.prog.info? 55).map (·.size) = some 2 := by kernel_rfl
theorem size57 {ms : List Mk} (h : ms.length = 8) : (Try.prog.info? 57).map (·.size) = some (flatM ms).length := by rw [len_flatM, h]; exact inf57
theorem hasCore_c (g : Nat) (n : Int) (ms : List Mk) (core : Int) (w : World) (H : MonAt g n ms w) : Calls Try.prog 19 #[ptr g 0, vI core] w fun e w' => e = .returned (.bool (decide (0 ≤ core) && decide (core < n))) ∧ w' = w := by
  have c := H.c0
  clear H
  by_cases h : 0 ≤ core
  · rw [decide_eq_true h, Bool.true_and]
    go_enter Try.func19, Try.ntmps19
    go_wp2
    go_ret
    exact ⟨rfl, rfl⟩
  · rw [decide_eq_false h, Bool.false_and]
    go_enter Try.func19, Try.ntmps19
    go_wp2
    go_ret
    exact ⟨rfl, rfl⟩
def ofV (addr : Int) : Mk := (true, addr / 64)
theorem back_mk {fn : Func} {p : Tmp} (h : fn.results = #[.cell p 55]) (tmps : Array Value) (w : World) (g : Nat) (x y : Value) (hp : tmps.getD p undef = ptr g 0) (hg : w.heap[g]? = some (.cells #[x, y] 55)) :
    (results fn tmps).run Try.prog w = .ok (.agg #[x, y]) w := results_cell_row h tmps w g 55 #[x, y] (0, 0) _ hp hg Try.underlying55 rfl (by exact inf55)
theorem of_c (addr : Int) (w : World) (hA : U64 addr) : Calls Try.prog 21 #[vU addr] w fun e w' => e = .returned (ofV addr).val ∧ Below w.heap.size w w' := by
  have hd : addr.tdiv 64 = addr / 64 := Int.tdiv_eq_ediv_of_nonneg hA.1
  have h1 := hA.1
  have h2 := hA.2
  clear hA
  have e1 : IntKind.u64.wrap (addr / 64) = addr / 64 := by rw [IntKind.wrap_u64]; omega
  go_enter Try.func21, Try.ntmps21
  go_wp2
  exact bodyPost_ret (back_mk rfl _ _ w.heap.size _ _ rfl (heap_alloc_new _ _)) rfl ⟨rfl, below_alloc _ _⟩
end Go.Proofs.Ytgloemlbkkjcaaa
