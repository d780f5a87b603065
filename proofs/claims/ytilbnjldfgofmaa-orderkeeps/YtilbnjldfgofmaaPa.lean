/- Operations, what their kinds have, and what is right of them: plain. -/
import Derived.Test.YtilbnjldfgofmaaCa
import Derived.Test.YtilbnjldfgofmaaChm
namespace Go.Proofs.Ytilbnjldfgofmaa
open Go.RowKit
set_option linter.unusedVariables false
set_option linter.unusedSimpArgs false
set_option maxRecDepth 8000

structure Opr where
  kind : Int
  r : Int
  a : Int
  b : Int
  order : Int
  imm : Int
deriving DecidableEq
abbrev opA (o : Opr) : Array Value := #[vI o.kind, vI o.r, vI o.a, vI o.b, vI o.order, vU o.imm]
abbrev opV (o : Opr) : Value := .agg (opA o)
def nilO : Opr := ⟨0, 0, 0, 0, 0, 0⟩
def prt (k : Nat) : Int := match k with
  | 1 => 48 | 2 => 33 | 3 => 3 | 4 => 32 | 5 => 2 | 6 => 33 | 7 => 3 | 8 => 39 | 9 => 106 | 10 => 78 | 11 => 106 | 12 => 110 | 13 => 1 | 14 => 16 | 15 => 82 | 16 => 208 | 17 => 194 | 18 => 208 | _ => 0
def partsV (k : Int) : Int := prt k.toNat
def nam (k : Nat) : List Nat := match k with
  | 1 => [99, 111, 110, 115, 116] | 2 => [103, 101, 116, 120] | 3 => [115, 101, 116, 120] | 4 => [103, 101, 116, 115, 112] | 5 => [115, 101, 116, 115, 112] | 6 => [103, 101, 116, 102] | 7 => [115, 101, 116, 102] | 8 => [97, 108, 117]
  | 9 => [108, 111, 97, 100] | 10 => [115, 116, 111, 114, 101] | 11 => [108, 111, 97, 100, 101, 120] | 12 => [115, 116, 111, 114, 101, 101, 120] | 13 => [102, 101, 110, 99, 101] | 14 => [97, 116] | 15 => [101, 120, 105, 116, 105, 102]
  | 16 => [101, 120, 105, 116] | 17 => [101, 120, 105, 116, 116, 111] | 18 => [103, 117, 101, 115, 116] | _ => []
def nameV (k : Int) : ByteArray := ⟨((nam k.toNat).map UInt8.ofNat).toArray⟩
/-- Has a kind this part? -/
def hasP (k m : Int) : Bool := bits .and .i64 (partsV k) m != 0
def isK (k : Int) : Bool := decide (1 ≤ k) && decide (k ≤ 18)
theorem isK_cases {k : Int} (h : isK k = true) : k = 1 ∨ k = 2 ∨ k = 3 ∨ k = 4 ∨ k = 5 ∨ k = 6 ∨ k = 7 ∨ k = 8 ∨ k = 9 ∨ k = 10 ∨ k = 11 ∨ k = 12 ∨ k = 13 ∨ k = 14 ∨ k = 15 ∨ k = 16 ∨ k = 17 ∨ k = 18 := by
  simp only [isK, Bool.and_eq_true, decide_eq_true_eq] at h
  omega
def rangeB (o : Opr) : Bool :=
  if o.kind = 2 ∨ o.kind = 3 then decide (0 ≤ o.r) && decide (o.r ≤ 30)
  else if o.kind = 6 ∨ o.kind = 7 then decide (0 ≤ o.r) && decide (o.r ≤ 3)
  else if o.kind = 8 then decide (1 ≤ o.r) && decide (o.r ≤ 15)
  else if o.kind = 13 then o.r == 13 || o.r == 10 || o.r == 15
  else if o.kind = 9 then o.order == 0 || o.order == 1 || o.order == 2
  else if o.kind = 11 then o.order == 0 || o.order == 2
  else if o.kind = 10 ∨ o.kind = 12 then o.order == 0 || o.order == 4
  else if o.kind = 14 then o.imm % 4 == 0
  else if o.kind = 18 then decide (o.imm < 4294967296)
  else true
def opB (o : Opr) : Bool := (hasP o.kind 1 || o.r == 0) && (hasP o.kind 2 || o.a == 0) && (hasP o.kind 4 || o.b == 0) && (hasP o.kind 8 || o.order == 0) && (hasP o.kind 16 || o.imm == 0) && rangeB o
def usesL (o : Opr) : List Int := (if hasP o.kind 2 = true then [o.a] else []) ++ (if hasP o.kind 4 = true then [o.b] else [])
def opAt (l : List Opr) (k : Nat) : Opr := (l[k]?).getD nilO
theorem opAt_of {l : List Opr} {k : Nat} {o : Opr} (h : l[k]? = some o) : opAt l k = o := by unfold opAt; rw [h]; rfl
theorem opAt_some {l : List Opr} {k : Nat} (h : k < l.length) : l[k]? = some (opAt l k) := by unfold opAt; rw [List.getElem?_eq_getElem h]; rfl
/-- Is the value at this place one that an operation ahead of k defines? -/
def defB (l : List Opr) (k : Nat) (p : Int) : Bool := decide (0 ≤ p) && decide (p < k) && hasP (opAt l p.toNat).kind 32
def okAt (l : List Opr) (k : Nat) : Bool := isK (opAt l k).kind && (hasP (opAt l k).kind 128 == decide (k + 1 = l.length)) && opB (opAt l k) && (usesL (opAt l k)).all (defB l k)
def opsB (l : List Opr) : Bool := (List.range l.length).all (okAt l)
def headB (pc words el : Int) (l : List Opr) : Bool := pc % 4 == 0 && decide (1 ≤ words) && decide (words ≤ 16) && (el == 0 || el == 1) && decide (1 ≤ l.length) && decide (l.length ≤ 512) && decide (opAt l 0 = ⟨14, 0, 0, 0, 0, pc⟩)
def rightB (pc words el : Int) (l : List Opr) : Bool := headB pc words el l && opsB l
theorem ops_at {l : List Opr} (h : opsB l = true) {k : Nat} (hk : k < l.length) : okAt l k = true := List.all_eq_true.1 h k (List.mem_range.2 hk)
/-- An operation in a block of its own. -/
def LocO (t : Nat) (o : Opr) (w : World) : Prop := w.heap[t]? = some (.cells (opA o) 40)
theorem LocO.lt {t : Nat} {o : Opr} {w : World} (h : LocO t o w) : t < w.heap.size := lt_of_some h
theorem LocO.grow {t : Nat} {o : Opr} {w w' : World} (h : LocO t o w) (hb : Below w.heap.size w w') : LocO t o w' := by unfold LocO; rw [hb.block _ h.lt]; exact h
theorem LocO.cell {t : Nat} {o : Opr} {w : World} (h : LocO t o w) (j : Nat) : w.cell? ⟨t, j, none⟩ = (opA o)[j]? := by rw [cell_of_row _ _ _ _ _ _ h]
theorem LocO.c0 {t : Nat} {o : Opr} {w : World} (h : LocO t o w) : w.cell? ⟨t, 0, none⟩ = some (vI o.kind) := h.cell 0
theorem LocO.c1 {t : Nat} {o : Opr} {w : World} (h : LocO t o w) : w.cell? ⟨t, 1, none⟩ = some (vI o.r) := h.cell 1
theorem LocO.c2 {t : Nat} {o : Opr} {w : World} (h : LocO t o w) : w.cell? ⟨t, 2, none⟩ = some (vI o.a) := h.cell 2
theorem LocO.c3 {t : Nat} {o : Opr} {w : World} (h : LocO t o w) : w.cell? ⟨t, 3, none⟩ = some (vI o.b) := h.cell 3
theorem LocO.c4 {t : Nat} {o : Opr} {w : World} (h : LocO t o w) : w.cell? ⟨t, 4, none⟩ = some (vI o.order) := h.cell 4
theorem LocO.c5 {t : Nat} {o : Opr} {w : World} (h : LocO t o w) : w.cell? ⟨t, 5, none⟩ = some (vU o.imm) := h.cell 5
theorem LocO.new (w : World) (o : Opr) : LocO w.heap.size o (w.alloc (.cells (opA o) 40)) := by unfold LocO World.alloc; exact Array.getElem?_push_size
/-- Operations as they lie one behind the other from an address on. -/
structure OpAt (w : World) (a : Addr) (o : Opr) : Prop where
  lt : a.block < w.heap.size
  c0 : w.cell? a = some (vI o.kind)
  c1 : w.cell? ⟨a.block, a.off + 1, none⟩ = some (vI o.r)
  c2 : w.cell? ⟨a.block, a.off + 2, none⟩ = some (vI o.a)
  c3 : w.cell? ⟨a.block, a.off + 3, none⟩ = some (vI o.b)
  c4 : w.cell? ⟨a.block, a.off + 4, none⟩ = some (vI o.order)
  c5 : w.cell? ⟨a.block, a.off + 5, none⟩ = some (vU o.imm)
theorem OpAt.keep {w w' : World} {a : Addr} {o : Opr} (h : OpAt w a o) (hs : a.block < w'.heap.size) (hb : w'.heap[a.block]? = w.heap[a.block]?) : OpAt w' a o := by
  have e : ∀ q : Addr, q.block = a.block → w'.cell? q = w.cell? q := fun q hq => by unfold World.cell?; rw [hq, hb]
  exact ⟨hs, (e _ rfl).trans h.c0, (e ⟨a.block, a.off + 1, none⟩ rfl).trans h.c1, (e ⟨a.block, a.off + 2, none⟩ rfl).trans h.c2, (e ⟨a.block, a.off + 3, none⟩ rfl).trans h.c3, (e ⟨a.block, a.off + 4, none⟩ rfl).trans h.c4, (e ⟨a.block, a.off + 5, none⟩ rfl).trans h.c5⟩
structure Ops (w : World) (v : Value) (l : List Opr) : Prop where
  len : ∃ ao cap, v = .slice ao l.length cap
  max : l.length ≤ maxLen
  cell : 0 < l.length → ∃ (ra : Addr) (cap : Nat), v = .slice (some ra) l.length cap ∧ ∀ i o, l[i]? = some o → OpAt w (ra.add (i * 6)) o
theorem OpAt.grow {w w' : World} {a : Addr} {o : Opr} (h : OpAt w a o) (hb : Below w.heap.size w w') : OpAt w' a o := h.keep (Nat.lt_of_lt_of_le h.lt hb.size) (hb.block _ h.lt)
theorem Ops.grow {w w' : World} {v : Value} {l : List Opr} (h : Ops w v l) (hb : Below w.heap.size w w') : Ops w' v l :=
  ⟨h.len, h.max, fun h0 => by obtain ⟨ra, cap, e, hc⟩ := h.cell h0; exact ⟨ra, cap, e, fun i o ho => (hc i o ho).grow hb⟩⟩
theorem LocO.at_ {t : Nat} {o : Opr} {w : World} (h : LocO t o w) : OpAt w ⟨t, 0, none⟩ o := ⟨h.lt, h.c0, h.c1, h.c2, h.c3, h.c4, h.c5⟩
theorem run_load42 {w : World} {p : Addr} {o : Opr} (A : OpAt w p o) : (loadVar 40 p).run Try.prog w = .ok (opV o) w := by
  have h1 := run_loadCells_list (P := Try.prog) w p (opA o).toList (fun j v hv => by
    match j, hv with
    | 0, hv => cases hv; exact A.c0
    | 1, hv => cases hv; exact A.c1
    | 2, hv => cases hv; exact A.c2
    | 3, hv => cases hv; exact A.c3
    | 4, hv => cases hv; exact A.c4
    | 5, hv => cases hv; exact A.c5
    | j + 6, hv => simp [opA] at hv)
  have hi : (Try.prog.info? 40).map (·.size) = some 6 := by kernel_rfl
  have hagg : (isAgg 40).run Try.prog w = .ok true w := by
    unfold isAgg
    rw [Sem.run_bind, run_underlying Try.underlying40 w]
    rfl
  cases hq : Try.prog.info? 40 with
  | none => simp [hq] at hi
  | some i =>
    have hs : i.size = 6 := by simpa [hq] using hi
    have h1 : (loadCells p 6).run Try.prog w = _ := h1
    simp [loadVar, Sem.run_bind, hagg, sizeOf, typeInfo, hq, hs, h1]
theorem wpList_load42 {ops : Array Oper} {rest : List Oper} {o : Oper} {a : Act} {w : World} {Q : Exit → Act → World → Prop} (hw : Region.wanted o (yielded ops a.tmps) = true) (x : Operand) (ho : o.op = .load 40 x)
    (p : Addr) (hx : a.eval x = .pointer (some p)) (O : Opr) (A : OpAt w p O)
    (h : wpList Try.prog ops Q rest (a.put o.dst (opV O)) w) : wpList Try.prog ops Q (o :: rest) a w := by
  refine BigFrame.wpList_want hw fun K hK => ?_
  unfold Oper.wp execOp
  simp only [ho, hx, Instr.loadAt, Instr.sureAddr, Sem.run_bind, Sem.run_pure, Result.andThen_ok, run_load42 A]
  exact hK _ _ h
theorem below_dr (w : World) : Below w.heap.size w { w with drawn := w.drawn + 1 } := ⟨rfl, rfl, rfl, Nat.le_refl _, fun _ _ => rfl⟩
theorem upon_load42 {C : World → Prop} {w : World} {p : Addr} {O : Opr} {o : Oper} {a : Act} {x : Operand} (A : OpAt w p O) (hC : C w) (ho : o.op = .load 40 x := by rfl) (hx : a.eval x = .pointer (some p) := by rfl) : Chn.upon Try.prog (fun v w' => v = opV O ∧ C w') w ((execOp a.eval o).run Try.prog w) := by
  unfold execOp
  simp only [ho, hx, Instr.loadAt, Instr.sureAddr, Sem.run_bind, Sem.run_pure, Result.andThen_ok, run_load42 A]
  exact ⟨rfl, hC⟩
def pan : List PanicEntry := [{ v := .iface 29 (vI 4), recovered := false }]
end Go.Proofs.Ytilbnjldfgofmaa
