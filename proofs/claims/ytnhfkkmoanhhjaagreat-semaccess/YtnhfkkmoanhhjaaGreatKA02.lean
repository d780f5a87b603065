/- What an instruction wants of the world, as a record; one instruction on its way (a step), as the machine's cells: plain definitions. -/
import Derived.Test.YtnhfkkmoanhhjaaGreatKA01
import Derived.Deep.MidRow
import Derived.Laws.Externs
import Derived.Laws.StructEq
import Derived.Deep.RegionWith
import Derived.Deep.CutRange
import Derived.ChangeKeysEq
namespace Go.Proofs.YtnhfkkmoanhhjaaGreat
open Go.RowKit

structure Wnt where
  kind : Int
  addr : Int
  value : Int
  acq : Int
  rel : Bool
  fence : Int
  dsb : Bool
  sys : Int
  cls : Int
  iss : Int
def Wnt.cells (k : Wnt) : Array Value := #[vI k.kind, vU k.addr, vU k.value, vI k.acq, .bool k.rel, vI k.fence, .bool k.dsb, vI k.sys, vI k.cls, vI k.iss]
abbrev Wnt.val (k : Wnt) : Value := .agg k.cells
def nilW : Wnt := ⟨0, 0, 0, 0, false, 0, false, 0, 0, 0⟩
theorem Wnt.size (k : Wnt) : k.cells.size = 10 := rfl
theorem Wnt.one (k : Wnt) : k.cells.all (·.oneCell') = true := by simp [Wnt.cells, Value.oneCell']
@[go_sem] theorem Wnt.a0 (k : Wnt) : k.cells[0]? = some (vI k.kind) := rfl
@[go_sem] theorem Wnt.a1 (k : Wnt) : k.cells[1]? = some (vU k.addr) := rfl
@[go_sem] theorem Wnt.a2 (k : Wnt) : k.cells[2]? = some (vU k.value) := rfl
@[go_sem] theorem Wnt.a3 (k : Wnt) : k.cells[3]? = some (vI k.acq) := rfl
@[go_sem] theorem Wnt.a4 (k : Wnt) : k.cells[4]? = some (.bool k.rel) := rfl
@[go_sem] theorem Wnt.a5 (k : Wnt) : k.cells[5]? = some (vI k.fence) := rfl
@[go_sem] theorem Wnt.a6 (k : Wnt) : k.cells[6]? = some (.bool k.dsb) := rfl
@[go_sem] theorem Wnt.a7 (k : Wnt) : k.cells[7]? = some (vI k.sys) := rfl
@[go_sem] theorem Wnt.a8 (k : Wnt) : k.cells[8]? = some (vI k.cls) := rfl
@[go_sem] theorem Wnt.a9 (k : Wnt) : k.cells[9]? = some (vI k.iss) := rfl
@[go_sem] theorem Wnt.s0 (k : Wnt) (n : Int) : k.cells.setIfInBounds 0 (vI n) = ({ k with kind := n } : Wnt).cells := rfl
@[go_sem] theorem Wnt.s1 (k : Wnt) (n : Int) : k.cells.setIfInBounds 1 (vU n) = ({ k with addr := n } : Wnt).cells := rfl
@[go_sem] theorem Wnt.s2 (k : Wnt) (n : Int) : k.cells.setIfInBounds 2 (vU n) = ({ k with value := n } : Wnt).cells := rfl
@[go_sem] theorem Wnt.s3 (k : Wnt) (n : Int) : k.cells.setIfInBounds 3 (vI n) = ({ k with acq := n } : Wnt).cells := rfl
@[go_sem] theorem Wnt.s4 (k : Wnt) (n : Bool) : k.cells.setIfInBounds 4 (.bool n) = ({ k with rel := n } : Wnt).cells := rfl
@[go_sem] theorem Wnt.s9 (k : Wnt) (n : Int) : k.cells.setIfInBounds 9 (vI n) = ({ k with iss := n } : Wnt).cells := rfl

structure Gt where
  value : Int
  ok : Bool
  fault : Int
def Gt.cells (k : Gt) : Array Value := #[vU k.value, .bool k.ok, vI k.fault]
abbrev Gt.val (k : Gt) : Value := .agg k.cells
def nilG : Gt := ⟨0, false, 0⟩

/-- One instruction on its way. -/
structure Stp where
  i : Ins
  c : Cor
  g : Gt
  err : Int
def Stp.cells (s : Stp) : Array Value := s.i.cells ++ (s.c.cells ++ (s.g.cells ++ #[vI s.err]))
theorem Stp.size (s : Stp) : s.cells.size = 69 := by simp [Stp.cells, Cor.size, Gt.cells]
theorem Stp.atI (s : Stp) (k : Nat) (h : k < 16) : s.cells[k]? = s.i.cells[k]? := by
  unfold Stp.cells
  rw [Array.getElem?_append_left (by simpa using h)]
theorem Stp.atC (s : Stp) (k : Nat) (h : k < 49) : s.cells[16 + k]? = s.c.cells[k]? := by
  unfold Stp.cells
  rw [Array.getElem?_append_right (by simp), Array.getElem?_append_left (by simp [Cor.size]; omega)]
  simp
theorem Stp.atG (s : Stp) (k : Nat) (h : k < 3) : s.cells[65 + k]? = s.g.cells[k]? := by
  unfold Stp.cells
  rw [Array.getElem?_append_right (by simp; omega), Array.getElem?_append_right (by simp [Cor.size]; omega), Array.getElem?_append_left (by simp [Cor.size, Gt.cells]; omega)]
  simp only [Cor.size]
  congr 1
  simp
  omega
theorem Stp.atE (s : Stp) : s.cells[68]? = some (vI s.err) := by
  unfold Stp.cells
  rw [Array.getElem?_append_right (by simp), Array.getElem?_append_right (by simp [Cor.size]), Array.getElem?_append_right (by simp [Cor.size, Gt.cells])]
  simp [Cor.size, Gt.cells]
theorem Stp.one (s : Stp) : s.cells.all (·.oneCell') = true := by
  unfold Stp.cells
  rw [Array.all_append, Array.all_append, Array.all_append, Cor.one]
  simp [Value.oneCell', Gt.cells]
/-- The state laid anew into the step. -/
theorem Stp.setC (s : Stp) (d : Cor) : (s.cells.toList.take 16 ++ d.cells.toList ++ s.cells.toList.drop 65).toArray = ({ s with c := d } : Stp).cells := by
  have h1 : s.cells.toList.take 16 = s.i.cells.toList := by
    unfold Stp.cells
    simp
  have h2 : s.cells.toList.drop 65 = (s.g.cells ++ #[vI s.err]).toList := by
    unfold Stp.cells
    rw [Array.toList_append, List.drop_append, Array.toList_append, List.drop_append]
    have e1 : s.i.cells.toList.length = 16 := rfl
    have e2 : s.c.cells.toList.length = 49 := by rw [Array.length_toList, Cor.size]
    rw [List.drop_of_length_le (by omega), e1, List.drop_of_length_le (by omega), e2]
    simp
  rw [h1, h2]
  unfold Stp.cells
  simp

/-! What an instruction wants. -/
def spX (c : Cor) (r : Int) : Int := if r = 31 then spV c else xV c r
def u64 (n : Int) : Int := n % 18446744073709551616
def adrV (c : Cor) (i : Ins) : Int := if i.op = 19 ∨ i.op = 20 then u64 (spX c i.rn + u64 (xV c i.rm * 2 ^ i.amount.toNat)) else u64 (spX c i.rn + u64 i.imm)
def storeK (k : Int) : Bool := k == 2 || k == 4
def accV (c : Cor) (i : Ins) (k : Wnt) : Wnt :=
  if adrV c i % 8 = 0 then { k with addr := adrV c i } else { nilW with kind := 15, cls := 36 + c.el, iss := bif storeK k.kind then 97 else 33, addr := adrV c i }
def unkV : Wnt := { nilW with kind := 15 }
def lineV (c : Cor) (i : Ins) : Int := bits .andNot .u64 (xV c i.rd) 63
def outB (n : Int) : Bool := n == 18016 || n == 18017 || n == 16944 || n == 18013 || n == 24322 || n == 24345 || n == 24346
def allB (n : Int) : Bool := n == 23056 || n == 24194 || n == 24322
def roB (n : Int) : Bool := n == 16389 || n == 16914 || n == 24322 || n == 18016
def barB (c : Cor) (i : Ins) : Bool :=
  bif c.el == 0 then (i.op == 36 || i.op == 33 || i.op == 29 || (i.op == 31 && !allB i.sys) || (i.op == 32 && (!allB i.sys || roB i.sys)))
  else (i.op == 31 && (i.sys == 18017 || i.sys == 18013)) || (i.op == 32 && roB i.sys)
def hintV (c : Cor) (i : Ins) : Wnt :=
  if i.imm = 2 ∧ c.event = false then { nilW with kind := 13, value := 2 } else if i.imm = 3 then { nilW with kind := 13, value := 1 } else if i.imm = 4 then { nilW with kind := 14 } else nilW
def fenceV (n : Int) : Int := if n = 1 then 13 else if n = 2 then 10 else if n = 3 then 15 else 0
def wishV (c : Cor) (i : Ins) : Wnt :=
  if i.op = 0 then unkV
  else if i.op = 17 ∨ i.op = 19 then accV c i { nilW with kind := 1 }
  else if i.op = 21 then accV c i { nilW with kind := 1, acq := 2 - i.sub }
  else if i.op = 23 then accV c i { nilW with kind := 3, acq := 2 * i.sub }
  else if i.op = 18 ∨ i.op = 20 then accV c i { nilW with kind := 2, value := xV c i.rd }
  else if i.op = 22 then accV c i { nilW with kind := 2, value := xV c i.rd, rel := true }
  else if i.op = 24 then accV c i { nilW with kind := 4, value := xV c i.rd, rel := i.sub == 1 }
  else if i.op = 25 then { nilW with kind := 5 }
  else if i.op = 26 then { nilW with kind := 6, fence := fenceV i.imm, dsb := i.sub == 1 }
  else if i.op = 27 then { nilW with kind := 7 }
  else if i.op = 28 then { nilW with kind := 8, addr := lineV c i }
  else if i.op = 29 then { nilW with kind := 9 }
  else if i.op = 30 then { nilW with kind := 10, addr := lineV c i }
  else if i.op = 31 then (if outB i.sys = true then { nilW with kind := 11, sys := i.sys } else nilW)
  else if i.op = 32 then (if outB i.sys = true then { nilW with kind := 12, sys := i.sys, value := xV c i.rd } else nilW)
  else if i.op = 34 then { nilW with kind := 15, cls := 21, iss := i.imm }
  else if i.op = 35 then { nilW with kind := 15, cls := 60, iss := i.imm }
  else if i.op = 37 then hintV c i
  else nilW
def wantV (c : Cor) (i : Ins) : Wnt := if barB c i = true then unkV else wishV c i
def beginV (c : Cor) (word : Ins) : Wnt := if rightC c = true then wantV c word else nilW
end Go.Proofs.YtnhfkkmoanhhjaaGreat
/- Two small functions of package alu: contracts. -/
namespace Go.Proofs.YtnhfkkmoanhhjaaGreat
open Go.RowKit

theorem wrapU (x : Int) : IntKind.u64.wrap x = x % 18446744073709551616 := by rw [IntKind.wrap_u64]
def oneI (b : Bool) : Int := bif b then 1 else 0
theorem oneIf_c (a : Bool) (w : World) :
    Calls Tryz.prog 212 #[.bool a] w fun e w' => e = .returned (.int .u64 (oneI a)) ∧ w' = w := by
  cases a
  · go_enter Tryz.func212, Tryz.ntmps212
    go_wp2
    go_ret
    exact ⟨rfl, rfl⟩
  · go_enter Tryz.func212, Tryz.ntmps212
    go_wp2
    go_ret
    exact ⟨rfl, rfl⟩
theorem isBelow0_c (a : Int) (w : World) :
    Calls Tryz.prog 213 #[.int .u64 a] w fun e w' => e = .returned (.bool (decide (wrap64 a < 0))) ∧ w' = w := by
  go_enter Tryz.func213, Tryz.ntmps213
  go_wp2
  go_ret
  exact ⟨rfl, rfl⟩
end Go.Proofs.YtnhfkkmoanhhjaaGreat
/- Worlds that hold some blocks of a call's own; four flags in a block, read, laid and held against each other. -/
namespace Go.Proofs.YtnhfkkmoanhhjaaGreat
open Go.RowKit

structure Has (w0 : World) (L : List (Nat × Array Value × TypeId)) (w : World) : Prop where
  below : Below w0.heap.size w0 w
  box : ∀ p ∈ L, w0.heap.size ≤ p.1 ∧ w.heap[p.1]? = some (.cells p.2.1 p.2.2)
theorem has_none (w : World) : Has w [] w := ⟨Below.refl _ _, fun _ h => by cases h⟩
theorem Has.grow {w0 w w' : World} {L : List (Nat × Array Value × TypeId)} (h : Has w0 L w) (hb : Below w.heap.size w w') : Has w0 L w' := by
  refine ⟨r_below_then h.below hb, fun p hp => ?_⟩
  obtain ⟨h1, h2⟩ := h.box p hp
  exact ⟨h1, by rw [hb.block _ (Array.getElem?_eq_some_iff.1 h2).1]; exact h2⟩
theorem Has.new {w0 w : World} {L : List (Nat × Array Value × TypeId)} (h : Has w0 L w) (t : TypeId) (Z : Array Value) : Has w0 ((w.heap.size, Z, t) :: L) (w.alloc (.cells Z t)) := by
  refine ⟨r_below_then h.below (r_below_alloc _ _), fun p hp => ?_⟩
  rcases List.mem_cons.1 hp with rfl | hp
  · exact ⟨h.below.size, heap_alloc_new _ _⟩
  · obtain ⟨h1, h2⟩ := h.box p hp
    have := (Array.getElem?_eq_some_iff.1 h2).1
    exact ⟨h1, by rw [Below.heap_alloc _ _ _ this]; exact h2⟩
theorem Has.add {w0 w : World} {L : List (Nat × Array Value × TypeId)} (h : Has w0 L w) (t : TypeId) (d Z : Array Value) : Has w0 ((w.heap.size, d, t) :: L) ((w.alloc (.cells Z t)).setRow w.heap.size d) := by
  refine ⟨r_below_setRow (r_below_then h.below (r_below_alloc _ _)) h.below.size, fun p hp => ?_⟩
  rcases List.mem_cons.1 hp with rfl | hp
  · exact ⟨h.below.size, setRow_heap _ _ _ _ _ _ (heap_alloc_new _ _)⟩
  · obtain ⟨h1, h2⟩ := h.box p hp
    have := (Array.getElem?_eq_some_iff.1 h2).1
    exact ⟨h1, by rw [setRow_other _ _ _ _ (by omega), Below.heap_alloc _ _ _ this]; exact h2⟩
/-- The block that was laid last, laid anew. -/
theorem Has.over {w0 w : World} {L : List (Nat × Array Value × TypeId)} {b : Nat} {t : TypeId} {d Z : Array Value} (h : Has w0 ((b, Z, t) :: L) w) (hL : ∀ p ∈ L, p.1 ≠ b) : Has w0 ((b, d, t) :: L) (w.setRow b d) := by
  obtain ⟨h1, h2⟩ := h.box (b, Z, t) List.mem_cons_self
  refine ⟨r_below_setRow h.below h1, fun p hp => ?_⟩
  rcases List.mem_cons.1 hp with rfl | hp
  · exact ⟨h1, setRow_heap _ _ _ _ _ _ h2⟩
  · obtain ⟨h3, h4⟩ := h.box p (List.mem_cons_of_mem _ hp)
    exact ⟨h3, by rw [setRow_other _ _ _ _ (hL p hp)]; exact h4⟩
theorem Has.get {w0 w : World} {L : List (Nat × Array Value × TypeId)} (h : Has w0 L w) {b : Nat} {t : TypeId} {c : Array Value} (hp : (b, c, t) ∈ L) : w.heap[b]? = some (.cells c t) := (h.box _ hp).2
theorem Has.at {w0 w : World} {L : List (Nat × Array Value × TypeId)} (h : Has w0 L w) {b : Nat} {t : TypeId} {c : Array Value} (hp : (b, c, t) ∈ L) (k : Nat) (v : Value) (hv : c[k]? = some v) : w.cell? ⟨b, k, none⟩ = some v := by
  rw [cell_of_row _ _ _ _ _ _ (h.get hp), hv]
theorem wpList_load_ifA {P : Program} {ops : Array Oper} {rest : List Oper} {o : Oper} {a : Act} {w : World} {Q : Exit → Act → World → Prop} (hw : Region.wanted o (yielded ops a.tmps) = true) (ty : TypeId) (x : Operand) (ho : o.op = .load ty x)
    (g : Nat) (hx : a.eval x = .pointer (some ⟨g, 0, none⟩)) (t : TypeId) (cs : Array Value) (fr : Nat × Nat) (d : TypeDesc) (hg : w.heap[g]? = some (.cells cs t fr))
    (hu : P.underlying ty = some d) (hd : (match d with | .struct _ | .array _ _ => true | _ => false) = true) (hi : (P.info? ty).map (·.size) = some cs.size)
    (h : wpList P ops Q rest (a.put o.dst (.agg cs)) w) : wpList P ops Q (o :: rest) a w :=
  BigFrame.wpList_want hw fun _ hK => wp_load_row ty x ho g hx t cs fr d hg hu hd hi (hK _ _ h)
/-- One cell read. -/
theorem wpList_load_cell {ops : Array Oper} {rest : List Oper} {o : Oper} {a : Act} {w : World} {Q : Exit → Act → World → Prop} (hw : Region.wanted o (yielded ops a.tmps) = true) (ty : TypeId) (x : Operand) (ho : o.op = .load ty x)
    (g j : Nat) (hx : a.eval x = .pointer (some ⟨g, j, none⟩)) (v : Value) (hc : w.cell? ⟨g, j, none⟩ = some v) (ha : (isAgg ty).run Tryz.prog w = .ok false w)
    (h : wpList Tryz.prog ops Q rest (a.put o.dst v) w) : wpList Tryz.prog ops Q (o :: rest) a w := by
  refine BigFrame.wpList_want hw fun K hK => ?_
  unfold Oper.wp execOp
  have hl : (loadVar ty ⟨g, j, none⟩).run Tryz.prog w = .ok v w := by
    go_simp
  simp only [ho, hx, Instr.loadAt, Instr.sureAddr, Sem.run_bind, Sem.run_pure, Result.andThen_ok, hl]
  exact hK _ _ h
theorem agg4 (w : World) : (isAgg 4).run Tryz.prog w = .ok false w := by simp [isAgg, run_underlying Tryz.underlying4]
theorem agg3 (w : World) : (isAgg 3).run Tryz.prog w = .ok false w := by simp [isAgg, run_underlying Tryz.underlying3]
theorem agg47 (w : World) : (isAgg 170).run Tryz.prog w = .ok false w := by simp [isAgg, run_underlying Tryz.underlying170]
/-- A new variable of the call's own, behind the store of a whole row into it. -/
theorem wpList_store_new {w0 : World} {L : List (Nat × Array Value × TypeId)} {ops : Array Oper} {rest : List Oper} {o : Oper} {a : Act} {w : World} {Z : Array Value} {Q : Exit → Act → World → Prop} (H : Has w0 L w) (hgd : o.guard = none) (t : TypeId) (x y : Operand) (ho : o.op = .store t x y)
    (d : Array Value) (hx : a.eval x = .pointer (some ⟨w.heap.size, 0, none⟩)) (hy : a.eval y = .agg d) (hi : (Tryz.prog.info? t).map (·.size) = some d.size) (hZ : Z.size = d.size) (h1 : d.all (·.oneCell') = true)
    (h : ∀ w2, Has w0 ((w.heap.size, d, t) :: L) w2 → wpList Tryz.prog ops Q rest (a.put o.dst undef) w2) : wpList Tryz.prog ops Q (o :: rest) a (w.alloc (.cells Z t)) :=
  wpList_store_row hgd t x y ho _ _ hx hy t _ (heap_alloc_new _ _) hi hZ h1 (h _ (H.add t d Z))
/-- A variable that was laid last, behind the store of a whole row into it. -/
theorem wpList_store_over {w0 : World} {L : List (Nat × Array Value × TypeId)} {ops : Array Oper} {rest : List Oper} {o : Oper} {a : Act} {w : World} {b : Nat} {Z : Array Value} {Q : Exit → Act → World → Prop} (hgd : o.guard = none) (t : TypeId) (H : Has w0 ((b, Z, t) :: L) w) (hL : ∀ p ∈ L, p.1 ≠ b) (x y : Operand) (ho : o.op = .store t x y)
    (d : Array Value) (hx : a.eval x = .pointer (some ⟨b, 0, none⟩)) (hy : a.eval y = .agg d) (hi : (Tryz.prog.info? t).map (·.size) = some d.size) (hZ : Z.size = d.size) (h1 : d.all (·.oneCell') = true)
    (h : ∀ w2, Has w0 ((b, d, t) :: L) w2 → wpList Tryz.prog ops Q rest (a.put o.dst undef) w2) : wpList Tryz.prog ops Q (o :: rest) a w :=
  wpList_store_row hgd t x y ho _ _ hx hy t _ (H.get List.mem_cons_self) hi hZ h1 (h _ (H.over hL))

structure Flg where
  n : Bool
  z : Bool
  c : Bool
  v : Bool
abbrev Flg.cells (f : Flg) : Array Value := #[.bool f.n, .bool f.z, .bool f.c, .bool f.v]
abbrev Flg.val (f : Flg) : Value := .agg f.cells
@[go_sem] theorem Flg.a0 (f : Flg) : f.cells[0]? = some (.bool f.n) := rfl
@[go_sem] theorem Flg.a1 (f : Flg) : f.cells[1]? = some (.bool f.z) := rfl
@[go_sem] theorem Flg.a2 (f : Flg) : f.cells[2]? = some (.bool f.c) := rfl
@[go_sem] theorem Flg.a3 (f : Flg) : f.cells[3]? = some (.bool f.v) := rfl
theorem Flg.one (f : Flg) : f.cells.all (·.oneCell') = true := by simp [Flg.cells, Value.oneCell']
theorem Flg.info (f : Flg) : (Tryz.prog.info? 148).map (·.size) = some f.cells.size := by
  show (Tryz.prog.info? 148).map (·.size) = some 4
  kernel_rfl
theorem Flg.infoA (f : Flg) : (Tryz.prog.info? 148).map (·.size) = some f.cells.size := by
  show (Tryz.prog.info? 148).map (·.size) = some 4
  kernel_rfl
theorem four31 (a b c d : Value) : (Tryz.prog.info? 148).map (·.size) = some (#[a, b, c, d] : Array Value).size := by
  show (Tryz.prog.info? 148).map (·.size) = some 4
  kernel_rfl
theorem four34 (a b c d : Value) : (Tryz.prog.info? 148).map (·.size) = some (#[a, b, c, d] : Array Value).size := by
  show (Tryz.prog.info? 148).map (·.size) = some 4
  kernel_rfl
theorem wpList_over31 {w0 : World} {L : List (Nat × Array Value × TypeId)} {ops : Array Oper} {rest : List Oper} {o : Oper} {a : Act} {w : World} {b : Nat} {z1 z2 z3 z4 : Value} {Q : Exit → Act → World → Prop} (hgd : o.guard = none) (H : Has w0 ((b, #[z1, z2, z3, z4], 148) :: L) w) (hL : ∀ p ∈ L, p.1 ≠ b) (x y : Operand) (ho : o.op = .store 148 x y)
    (f1 f2 f3 f4 : Bool) (hx : a.eval x = .pointer (some ⟨b, 0, none⟩)) (hy : a.eval y = .agg #[.bool f1, .bool f2, .bool f3, .bool f4])
    (h : ∀ w2, Has w0 ((b, #[.bool f1, .bool f2, .bool f3, .bool f4], 148) :: L) w2 → wpList Tryz.prog ops Q rest (a.put o.dst undef) w2) : wpList Tryz.prog ops Q (o :: rest) a w :=
  wpList_store_over hgd 148 H hL x y ho _ hx hy (four31 _ _ _ _) rfl (Flg.one ⟨f1, f2, f3, f4⟩) h
theorem wpList_over34 {w0 : World} {L : List (Nat × Array Value × TypeId)} {ops : Array Oper} {rest : List Oper} {o : Oper} {a : Act} {w : World} {b : Nat} {z1 z2 z3 z4 : Value} {Q : Exit → Act → World → Prop} (hgd : o.guard = none) (H : Has w0 ((b, #[z1, z2, z3, z4], 148) :: L) w) (hL : ∀ p ∈ L, p.1 ≠ b) (x y : Operand) (ho : o.op = .store 148 x y)
    (f1 f2 f3 f4 : Bool) (hx : a.eval x = .pointer (some ⟨b, 0, none⟩)) (hy : a.eval y = .agg #[.bool f1, .bool f2, .bool f3, .bool f4])
    (h : ∀ w2, Has w0 ((b, #[.bool f1, .bool f2, .bool f3, .bool f4], 148) :: L) w2 → wpList Tryz.prog ops Q rest (a.put o.dst undef) w2) : wpList Tryz.prog ops Q (o :: rest) a w :=
  wpList_store_over hgd 148 H hL x y ho _ hx hy (four34 _ _ _ _) rfl (Flg.one ⟨f1, f2, f3, f4⟩) h
theorem wpList_new31 {w0 : World} {L : List (Nat × Array Value × TypeId)} {ops : Array Oper} {rest : List Oper} {o : Oper} {a : Act} {w : World} {z1 z2 z3 z4 : Value} {Q : Exit → Act → World → Prop} (H : Has w0 L w) (hgd : o.guard = none) (x y : Operand) (ho : o.op = .store 148 x y)
    (f : Flg) (hx : a.eval x = .pointer (some ⟨w.heap.size, 0, none⟩)) (hy : a.eval y = f.val)
    (h : ∀ w2, Has w0 ((w.heap.size, f.cells, 148) :: L) w2 → wpList Tryz.prog ops Q rest (a.put o.dst undef) w2) : wpList Tryz.prog ops Q (o :: rest) a (w.alloc (.cells #[z1, z2, z3, z4] 148)) :=
  wpList_store_new H hgd 148 x y ho _ hx hy (four31 _ _ _ _) rfl (Flg.one f) h
theorem wpList_new34 {w0 : World} {L : List (Nat × Array Value × TypeId)} {ops : Array Oper} {rest : List Oper} {o : Oper} {a : Act} {w : World} {z1 z2 z3 z4 : Value} {Q : Exit → Act → World → Prop} (H : Has w0 L w) (hgd : o.guard = none) (x y : Operand) (ho : o.op = .store 148 x y)
    (f : Flg) (hx : a.eval x = .pointer (some ⟨w.heap.size, 0, none⟩)) (hy : a.eval y = f.val)
    (h : ∀ w2, Has w0 ((w.heap.size, f.cells, 148) :: L) w2 → wpList Tryz.prog ops Q rest (a.put o.dst undef) w2) : wpList Tryz.prog ops Q (o :: rest) a (w.alloc (.cells #[z1, z2, z3, z4] 148)) :=
  wpList_store_new H hgd 148 x y ho _ hx hy (four34 _ _ _ _) rfl (Flg.one f) h
/-- What a function gives back whose first result is a slot and whose second is four flags, laid in a variable. -/
theorem back_flg {fn : Func} {p u : Tmp} {ty : TypeId} (ht : ty = 148 ∨ ty = 148) (h : fn.results = #[.tmp u, .cell p ty]) (tmps : Array Value) (w : World) (g : Nat) (f : Flg)
    (hp : tmps.getD p undef = .pointer (some ⟨g, 0, none⟩)) (hg : w.heap[g]? = some (.cells f.cells ty)) :
    (results fn tmps).run Tryz.prog w = .ok (.tuple #[tmps.getD u undef, f.val]) w := by
  have hl : (loadVar ty ⟨g, 0, none⟩).run Tryz.prog w = .ok f.val w := by
    rcases ht with rfl | rfl
    · exact run_loadVar_row w g 148 148 f.cells (0, 0) _ hg Tryz.underlying148 rfl (four31 _ _ _ _)
    · exact run_loadVar_row w g 148 148 f.cells (0, 0) _ hg Tryz.underlying148 rfl (four34 _ _ _ _)
  have hp' : tmps[p]?.getD undef = .pointer (some ⟨g, 0, none⟩) := by simpa using hp
  simp [results, h, hp', asAddr, hl]
def eqF (f g : Flg) : Bool := f.n == g.n && (f.z == g.z && (f.c == g.c && f.v == g.v))
theorem eqF_refl (f : Flg) : eqF f f = true := by simp [eqF]
theorem fields31 : Tryz.prog.underlying 148 = some (.struct (Tryz.prog.fieldsOf 148)) := by rw [Program.fieldsOf, Tryz.underlying148]
theorem guard31 : Tryz.prog.eqGuardType Tryz.prog.depth 148 = false := by kernel_rfl
theorem stood31 : Tryz.prog.stoodInHeld 148 = false := by kernel_rfl
theorem part_b (xs : Array Value) (k : Nat) (v : Value) (w : World) (h : xs[k]? = some v) : (part 4 xs k).run Tryz.prog w = .ok v w := by
  simp [part, isAgg, run_underlying Tryz.underlying4, h]
theorem flg_eq (f g : Flg) (w : World) : (Op.equalIn 10000 148 f.val g.val).run Tryz.prog w = .ok (eqF f g) w := by
  rw [run_equalIn_agg w 9999 148 _ _ fields31 stood31]
  rw [show (Tryz.prog.fieldsOf 148).toList = [⟨"N", 4, 0, false, "", "", 0⟩, ⟨"Z", 4, 1, false, "", "", 1⟩, ⟨"C", 4, 2, false, "", "", 2⟩, ⟨"V", 4, 3, false, "", "", 3⟩] by kernel_rfl]
  have e : eqF f g = (f.n == g.n && (f.z == g.z && (f.c == g.c && (f.v == g.v && true)))) := by simp [eqF]
  rw [e]
  refine eqField (r := f.n == g.n) w (by decide) ?_ (eqField (r := f.z == g.z) w (by decide) ?_ (eqField (r := f.c == g.c) w (by decide) ?_ (eqField (r := f.v == g.v) w (by decide) ?_ ?_)))
  · simp only [part_b _ _ _ _ f.a0, part_b _ _ _ _ g.a0, Result.andThen_ok, run_equalIn_bool' w 9998 4 _ _ Tryz.underlying4]
  · simp only [part_b _ _ _ _ f.a1, part_b _ _ _ _ g.a1, Result.andThen_ok, run_equalIn_bool' w 9998 4 _ _ Tryz.underlying4]
  · simp only [part_b _ _ _ _ f.a2, part_b _ _ _ _ g.a2, Result.andThen_ok, run_equalIn_bool' w 9998 4 _ _ Tryz.underlying4]
  · simp only [part_b _ _ _ _ f.a3, part_b _ _ _ _ g.a3, Result.andThen_ok, run_equalIn_bool' w 9998 4 _ _ Tryz.underlying4]
  · simp [Op.eqFields]
theorem wpList_eql_flg {ops : Array Oper} {rest : List Oper} {o : Oper} {a : Act} {w : World} {Q : Exit → Act → World → Prop} (hw : Region.wanted o (yielded ops a.tmps) = true) (x y : Operand) (ho : o.op = .binOp .eql 148 x y 148)
    (c d : Flg) (hx : a.eval x = .agg c.cells) (hy : a.eval y = .agg d.cells) (b : Bool) (hb : eqF c d = b) (h : wpList Tryz.prog ops Q rest (a.put o.dst (.bool b)) w) : wpList Tryz.prog ops Q (o :: rest) a w := by
  refine BigFrame.wpList_want hw fun K hK => ?_
  have he := flg_eq c d w
  rw [hb] at he
  unfold Oper.wp execOp
  simp only [ho, hx, hy, Sem.run_bind, run_eqGuard_agg w _ _ _ _ _ _ guard31, Result.andThen_ok, run_eql_struct, he]
  exact hK _ _ h
theorem wpList_neq_flg {ops : Array Oper} {rest : List Oper} {o : Oper} {a : Act} {w : World} {Q : Exit → Act → World → Prop} (hw : Region.wanted o (yielded ops a.tmps) = true) (x y : Operand) (ho : o.op = .binOp .neq 148 x y 148)
    (c d : Flg) (hx : a.eval x = .agg c.cells) (hy : a.eval y = .agg d.cells) (b : Bool) (hb : eqF c d = b) (h : wpList Tryz.prog ops Q rest (a.put o.dst (.bool (!b))) w) : wpList Tryz.prog ops Q (o :: rest) a w := by
  refine BigFrame.wpList_want hw fun K hK => ?_
  have he := flg_eq c d w
  rw [hb] at he
  unfold Oper.wp execOp
  simp only [ho, hx, hy, Sem.run_bind, run_eqGuard_agg w _ _ _ _ _ _ guard31, Result.andThen_ok, run_neq_struct, he]
  exact hK _ _ h
theorem wpList_builtG {P : Program} {ops : Array Oper} {rest : List Oper} {o : Oper} {a : Act} {w : World} {Q : Exit → Act → World → Prop} (hw : Region.wanted o (yielded ops a.tmps) = true) (t : TypeId) (parts : Array (Nat × Operand)) (ho : o.op = .build t parts)
    (cs : Array Value) (hf : P.built t (parts.map fun (i, x) => (i, a.eval x)).toList = some cs)
    (h : wpList P ops Q rest (a.put o.dst (.agg cs)) w) : wpList P ops Q (o :: rest) a w :=
  BigFrame.wpList_want hw fun _ hK => wp_build t parts ho (by rw [hf]; rfl) (by rw [hf]; exact hK _ _ h)
theorem built31 (n z c v : Bool) : Tryz.prog.built 148 [(0, .bool n), (1, .bool z), (2, .bool c), (3, .bool v)] = some (Flg.cells ⟨n, z, c, v⟩) := by kernel_rfl
end Go.Proofs.YtnhfkkmoanhhjaaGreat
