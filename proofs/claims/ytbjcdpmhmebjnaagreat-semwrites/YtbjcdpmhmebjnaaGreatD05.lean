/- Worlds that hold some blocks of a call's own; four flags in a block, read, laid and held against each other. -/
import Derived.Test.YtbjcdpmhmebjnaaGreatD04
import Derived.Laws.StructEq
import Derived.Deep.RegionWith
import Derived.Deep.CutRange
import Derived.ChangeKeysEq
import Derived.Test.YtbjcdpmhmebjnaaGreatD02
namespace Go.Proofs.YtbjcdpmhmebjnaaGreat
open Go.RowKit

structure Has (w0 : World) (L : List (Nat × Array Value × TypeId)) (w : World) : Prop where
  below : Below w0.heap.size w0 w
  box : ∀ p ∈ L, w0.heap.size ≤ p.1 ∧ w.heap[p.1]? = some (.cells p.2.1 p.2.2)
theorem has_none (w : World) : Has w [] w := ⟨Below.refl _ _, fun _ h => by cases h⟩
theorem Has.grow {w0 w w' : World} {L : List (Nat × Array Value × TypeId)} (h : Has w0 L w) (hb : Below w.heap.size w w') : Has w0 L w' := by
  refine ⟨r_below_then h.below hb, fun p hp => ?_⟩
  obtain ⟨h1, h2⟩ := h.box p hp
  exact ⟨h1, by rw [hb.block _ (Array.getElem?_eq_some_iff.1 h2).1]; exact h2⟩
theorem Has.new {w0 w : World} {L : List (Nat × Array Value × TypeId)} (h : Has w0 L w) (t : TypeId) (Z : Array Value) : Has w0 ((w.heap.size, Z, t) :: L) (w.alloc (.cells Z t)) := by
  refine ⟨r_below_then h.below (r_below_alloc _ _), fun p hp => ?_⟩
  rcases List.mem_cons.1 hp with rfl | hp
  · exact ⟨h.below.size, heap_alloc_new _ _⟩
  · obtain ⟨h1, h2⟩ := h.box p hp
    have := (Array.getElem?_eq_some_iff.1 h2).1
    exact ⟨h1, by rw [Below.heap_alloc _ _ _ this]; exact h2⟩
theorem Has.add {w0 w : World} {L : List (Nat × Array Value × TypeId)} (h : Has w0 L w) (t : TypeId) (d Z : Array Value) : Has w0 ((w.heap.size, d, t) :: L) ((w.alloc (.cells Z t)).setRow w.heap.size d) := by
  refine ⟨r_below_setRow (r_below_then h.below (r_below_alloc _ _)) h.below.size, fun p hp => ?_⟩
  rcases List.mem_cons.1 hp with rfl | hp
  · exact ⟨h.below.size, setRow_heap _ _ _ _ _ _ (heap_alloc_new _ _)⟩
  · obtain ⟨h1, h2⟩ := h.box p hp
    have := (Array.getElem?_eq_some_iff.1 h2).1
    exact ⟨h1, by rw [setRow_other _ _ _ _ (by omega), Below.heap_alloc _ _ _ this]; exact h2⟩
/-- The block that was laid last, laid anew. -/
theorem Has.over {w0 w : World} {L : List (Nat × Array Value × TypeId)} {b : Nat} {t : TypeId} {d Z : Array Value} (h : Has w0 ((b, Z, t) :: L) w) (hL : ∀ p ∈ L, p.1 ≠ b) : Has w0 ((b, d, t) :: L) (w.setRow b d) := by
  obtain ⟨h1, h2⟩ := h.box (b, Z, t) List.mem_cons_self
  refine ⟨r_below_setRow h.below h1, fun p hp => ?_⟩
  rcases List.mem_cons.1 hp with rfl | hp
  · exact ⟨h1, setRow_heap _ _ _ _ _ _ h2⟩
  · obtain ⟨h3, h4⟩ := h.box p (List.mem_cons_of_mem _ hp)
    exact ⟨h3, by rw [setRow_other _ _ _ _ (hL p hp)]; exact h4⟩
theorem Has.get {w0 w : World} {L : List (Nat × Array Value × TypeId)} (h : Has w0 L w) {b : Nat} {t : TypeId} {c : Array Value} (hp : (b, c, t) ∈ L) : w.heap[b]? = some (.cells c t) := (h.box _ hp).2
theorem Has.at {w0 w : World} {L : List (Nat × Array Value × TypeId)} (h : Has w0 L w) {b : Nat} {t : TypeId} {c : Array Value} (hp : (b, c, t) ∈ L) (k : Nat) (v : Value) (hv : c[k]? = some v) : w.cell? ⟨b, k, none⟩ = some v := by
  rw [cell_of_row _ _ _ _ _ _ (h.get hp), hv]
theorem wpList_load_ifA {P : Program} {ops : Array Oper} {rest : List Oper} {o : Oper} {a : Act} {w : World} {Q : Exit → Act → World → Prop} (hw : Region.wanted o (yielded ops a.tmps) = true) (ty : TypeId) (x : Operand) (ho : o.op = .load ty x)
    (g : Nat) (hx : a.eval x = .pointer (some ⟨g, 0, none⟩)) (t : TypeId) (cs : Array Value) (fr : Nat × Nat) (d : TypeDesc) (hg : w.heap[g]? = some (.cells cs t fr))
    (hu : P.underlying ty = some d) (hd : (match d with | .struct _ | .array _ _ => true | _ => false) = true) (hi : (P.info? ty).map (·.size) = some cs.size)
    (h : wpList P ops Q rest (a.put o.dst (.agg cs)) w) : wpList P ops Q (o :: rest) a w :=
  BigFrame.wpList_want hw fun _ hK => wp_load_row ty x ho g hx t cs fr d hg hu hd hi (hK _ _ h)
/-- One cell read. -/
theorem wpList_load_cell {ops : Array Oper} {rest : List Oper} {o : Oper} {a : Act} {w : World} {Q : Exit → Act → World → Prop} (hw : Region.wanted o (yielded ops a.tmps) = true) (ty : TypeId) (x : Operand) (ho : o.op = .load ty x)
    (g j : Nat) (hx : a.eval x = .pointer (some ⟨g, j, none⟩)) (v : Value) (hc : w.cell? ⟨g, j, none⟩ = some v) (ha : (isAgg ty).run Tryz.prog w = .ok false w)
    (h : wpList Tryz.prog ops Q rest (a.put o.dst v) w) : wpList Tryz.prog ops Q (o :: rest) a w := by
  refine BigFrame.wpList_want hw fun K hK => ?_
  unfold Oper.wp execOp
  have hl : (loadVar ty ⟨g, j, none⟩).run Tryz.prog w = .ok v w := by
    go_simp
  simp only [ho, hx, Instr.loadAt, Instr.sureAddr, Sem.run_bind, Sem.run_pure, Result.andThen_ok, hl]
  exact hK _ _ h
theorem agg4 (w : World) : (isAgg 4).run Tryz.prog w = .ok false w := by simp [isAgg, run_underlying Tryz.underlying4]
theorem agg3 (w : World) : (isAgg 3).run Tryz.prog w = .ok false w := by simp [isAgg, run_underlying Tryz.underlying3]
theorem agg47 (w : World) : (isAgg 193).run Tryz.prog w = .ok false w := by simp [isAgg, run_underlying Tryz.underlying193]
/-- A new variable of the call's own, behind the store of a whole row into it. -/
theorem wpList_store_new {w0 : World} {L : List (Nat × Array Value × TypeId)} {ops : Array Oper} {rest : List Oper} {o : Oper} {a : Act} {w : World} {Z : Array Value} {Q : Exit → Act → World → Prop} (H : Has w0 L w) (hgd : o.guard = none) (t : TypeId) (x y : Operand) (ho : o.op = .store t x y)
    (d : Array Value) (hx : a.eval x = .pointer (some ⟨w.heap.size, 0, none⟩)) (hy : a.eval y = .agg d) (hi : (Tryz.prog.info? t).map (·.size) = some d.size) (hZ : Z.size = d.size) (h1 : d.all (·.oneCell') = true)
    (h : ∀ w2, Has w0 ((w.heap.size, d, t) :: L) w2 → wpList Tryz.prog ops Q rest (a.put o.dst undef) w2) : wpList Tryz.prog ops Q (o :: rest) a (w.alloc (.cells Z t)) :=
  wpList_store_row hgd t x y ho _ _ hx hy t _ (heap_alloc_new _ _) hi hZ h1 (h _ (H.add t d Z))
/-- A variable that was laid last, behind the store of a whole row into it. -/
theorem wpList_store_over {w0 : World} {L : List (Nat × Array Value × TypeId)} {ops : Array Oper} {rest : List Oper} {o : Oper} {a : Act} {w : World} {b : Nat} {Z : Array Value} {Q : Exit → Act → World → Prop} (hgd : o.guard = none) (t : TypeId) (H : Has w0 ((b, Z, t) :: L) w) (hL : ∀ p ∈ L, p.1 ≠ b) (x y : Operand) (ho : o.op = .store t x y)
    (d : Array Value) (hx : a.eval x = .pointer (some ⟨b, 0, none⟩)) (hy : a.eval y = .agg d) (hi : (Tryz.prog.info? t).map (·.size) = some d.size) (hZ : Z.size = d.size) (h1 : d.all (·.oneCell') = true)
    (h : ∀ w2, Has w0 ((b, d, t) :: L) w2 → wpList Tryz.prog ops Q rest (a.put o.dst undef) w2) : wpList Tryz.prog ops Q (o :: rest) a w :=
  wpList_store_row hgd t x y ho _ _ hx hy t _ (H.get List.mem_cons_self) hi hZ h1 (h _ (H.over hL))

structure Flg where
  n : Bool
  z : Bool
  c : Bool
  v : Bool
abbrev Flg.cells (f : Flg) : Array Value := #[.bool f.n, .bool f.z, .bool f.c, .bool f.v]
abbrev Flg.val (f : Flg) : Value := .agg f.cells
@[go_sem] theorem Flg.a0 (f : Flg) : f.cells[0]? = some (.bool f.n) := rfl
@[go_sem] theorem Flg.a1 (f : Flg) : f.cells[1]? = some (.bool f.z) := rfl
@[go_sem] theorem Flg.a2 (f : Flg) : f.cells[2]? = some (.bool f.c) := rfl
@[go_sem] theorem Flg.a3 (f : Flg) : f.cells[3]? = some (.bool f.v) := rfl
theorem Flg.one (f : Flg) : f.cells.all (·.oneCell') = true := by simp [Flg.cells, Value.oneCell']
theorem Flg.info (f : Flg) : (Tryz.prog.info? 173).map (·.size) = some f.cells.size := by
  show (Tryz.prog.info? 173).map (·.size) = some 4
  kernel_rfl
theorem Flg.infoA (f : Flg) : (Tryz.prog.info? 173).map (·.size) = some f.cells.size := by
  show (Tryz.prog.info? 173).map (·.size) = some 4
  kernel_rfl
theorem four31 (a b c d : Value) : (Tryz.prog.info? 173).map (·.size) = some (#[a, b, c, d] : Array Value).size := by
  show (Tryz.prog.info? 173).map (·.size) = some 4
  kernel_rfl
theorem four34 (a b c d : Value) : (Tryz.prog.info? 173).map (·.size) = some (#[a, b, c, d] : Array Value).size := by
  show (Tryz.prog.info? 173).map (·.size) = some 4
  kernel_rfl
theorem wpList_over31 {w0 : World} {L : List (Nat × Array Value × TypeId)} {ops : Array Oper} {rest : List Oper} {o : Oper} {a : Act} {w : World} {b : Nat} {z1 z2 z3 z4 : Value} {Q : Exit → Act → World → Prop} (hgd : o.guard = none) (H : Has w0 ((b, #[z1, z2, z3, z4], 173) :: L) w) (hL : ∀ p ∈ L, p.1 ≠ b) (x y : Operand) (ho : o.op = .store 173 x y)
    (f1 f2 f3 f4 : Bool) (hx : a.eval x = .pointer (some ⟨b, 0, none⟩)) (hy : a.eval y = .agg #[.bool f1, .bool f2, .bool f3, .bool f4])
    (h : ∀ w2, Has w0 ((b, #[.bool f1, .bool f2, .bool f3, .bool f4], 173) :: L) w2 → wpList Tryz.prog ops Q rest (a.put o.dst undef) w2) : wpList Tryz.prog ops Q (o :: rest) a w :=
  wpList_store_over hgd 173 H hL x y ho _ hx hy (four31 _ _ _ _) rfl (Flg.one ⟨f1, f2, f3, f4⟩) h
theorem wpList_over34 {w0 : World} {L : List (Nat × Array Value × TypeId)} {ops : Array Oper} {rest : List Oper} {o : Oper} {a : Act} {w : World} {b : Nat} {z1 z2 z3 z4 : Value} {Q : Exit → Act → World → Prop} (hgd : o.guard = none) (H : Has w0 ((b, #[z1, z2, z3, z4], 173) :: L) w) (hL : ∀ p ∈ L, p.1 ≠ b) (x y : Operand) (ho : o.op = .store 173 x y)
    (f1 f2 f3 f4 : Bool) (hx : a.eval x = .pointer (some ⟨b, 0, none⟩)) (hy : a.eval y = .agg #[.bool f1, .bool f2, .bool f3, .bool f4])
    (h : ∀ w2, Has w0 ((b, #[.bool f1, .bool f2, .bool f3, .bool f4], 173) :: L) w2 → wpList Tryz.prog ops Q rest (a.put o.dst undef) w2) : wpList Tryz.prog ops Q (o :: rest) a w :=
  wpList_store_over hgd 173 H hL x y ho _ hx hy (four34 _ _ _ _) rfl (Flg.one ⟨f1, f2, f3, f4⟩) h
theorem wpList_new31 {w0 : World} {L : List (Nat × Array Value × TypeId)} {ops : Array Oper} {rest : List Oper} {o : Oper} {a : Act} {w : World} {z1 z2 z3 z4 : Value} {Q : Exit → Act → World → Prop} (H : Has w0 L w) (hgd : o.guard = none) (x y : Operand) (ho : o.op = .store 173 x y)
    (f : Flg) (hx : a.eval x = .pointer (some ⟨w.heap.size, 0, none⟩)) (hy : a.eval y = f.val)
    (h : ∀ w2, Has w0 ((w.heap.size, f.cells, 173) :: L) w2 → wpList Tryz.prog ops Q rest (a.put o.dst undef) w2) : wpList Tryz.prog ops Q (o :: rest) a (w.alloc (.cells #[z1, z2, z3, z4] 173)) :=
  wpList_store_new H hgd 173 x y ho _ hx hy (four31 _ _ _ _) rfl (Flg.one f) h
theorem wpList_new34 {w0 : World} {L : List (Nat × Array Value × TypeId)} {ops : Array Oper} {rest : List Oper} {o : Oper} {a : Act} {w : World} {z1 z2 z3 z4 : Value} {Q : Exit → Act → World → Prop} (H : Has w0 L w) (hgd : o.guard = none) (x y : Operand) (ho : o.op = .store 173 x y)
    (f : Flg) (hx : a.eval x = .pointer (some ⟨w.heap.size, 0, none⟩)) (hy : a.eval y = f.val)
    (h : ∀ w2, Has w0 ((w.heap.size, f.cells, 173) :: L) w2 → wpList Tryz.prog ops Q rest (a.put o.dst undef) w2) : wpList Tryz.prog ops Q (o :: rest) a (w.alloc (.cells #[z1, z2, z3, z4] 173)) :=
  wpList_store_new H hgd 173 x y ho _ hx hy (four34 _ _ _ _) rfl (Flg.one f) h
/-- What a function gives back whose first result is a slot and whose second is four flags, laid in a variable. -/
theorem back_flg {fn : Func} {p u : Tmp} {ty : TypeId} (ht : ty = 173 ∨ ty = 173) (h : fn.results = #[.tmp u, .cell p ty]) (tmps : Array Value) (w : World) (g : Nat) (f : Flg)
    (hp : tmps.getD p undef = .pointer (some ⟨g, 0, none⟩)) (hg : w.heap[g]? = some (.cells f.cells ty)) :
    (results fn tmps).run Tryz.prog w = .ok (.tuple #[tmps.getD u undef, f.val]) w := by
  have hl : (loadVar ty ⟨g, 0, none⟩).run Tryz.prog w = .ok f.val w := by
    rcases ht with rfl | rfl
    · exact run_loadVar_row w g 173 173 f.cells (0, 0) _ hg Tryz.underlying173 rfl (four31 _ _ _ _)
    · exact run_loadVar_row w g 173 173 f.cells (0, 0) _ hg Tryz.underlying173 rfl (four34 _ _ _ _)
  have hp' : tmps[p]?.getD undef = .pointer (some ⟨g, 0, none⟩) := by simpa using hp
  simp [results, h, hp', asAddr, hl]
def eqF (f g : Flg) : Bool := f.n == g.n && (f.z == g.z && (f.c == g.c && f.v == g.v))
theorem eqF_refl (f : Flg) : eqF f f = true := by simp [eqF]
theorem fields31 : Tryz.prog.underlying 173 = some (.struct (Tryz.prog.fieldsOf 173)) := by rw [Program.fieldsOf, Tryz.underlying173]
theorem guard31 : Tryz.prog.eqGuardType Tryz.prog.depth 173 = false := by kernel_rfl
theorem stood31 : Tryz.prog.stoodInHeld 173 = false := by kernel_rfl
theorem part_b (xs : Array Value) (k : Nat) (v : Value) (w : World) (h : xs[k]? = some v) : (part 4 xs k).run Tryz.prog w = .ok v w := by
  simp [part, isAgg, run_underlying Tryz.underlying4, h]
theorem flg_eq (f g : Flg) (w : World) : (Op.equalIn 10000 173 f.val g.val).run Tryz.prog w = .ok (eqF f g) w := by
  rw [run_equalIn_agg w 9999 173 _ _ fields31 stood31]
  rw [show (Tryz.prog.fieldsOf 173).toList = [⟨"N", 4, 0, false, "", "", 0⟩, ⟨"Z", 4, 1, false, "", "", 1⟩, ⟨"C", 4, 2, false, "", "", 2⟩, ⟨"V", 4, 3, false, "", "", 3⟩] by kernel_rfl]
  have e : eqF f g = (f.n == g.n && (f.z == g.z && (f.c == g.c && (f.v == g.v && true)))) := by simp [eqF]
  rw [e]
  refine eqField (r := f.n == g.n) w (by decide) ?_ (eqField (r := f.z == g.z) w (by decide) ?_ (eqField (r := f.c == g.c) w (by decide) ?_ (eqField (r := f.v == g.v) w (by decide) ?_ ?_)))
  · simp only [part_b _ _ _ _ f.a0, part_b _ _ _ _ g.a0, Result.andThen_ok, run_equalIn_bool' w 9998 4 _ _ Tryz.underlying4]
  · simp only [part_b _ _ _ _ f.a1, part_b _ _ _ _ g.a1, Result.andThen_ok, run_equalIn_bool' w 9998 4 _ _ Tryz.underlying4]
  · simp only [part_b _ _ _ _ f.a2, part_b _ _ _ _ g.a2, Result.andThen_ok, run_equalIn_bool' w 9998 4 _ _ Tryz.underlying4]
  · simp only [part_b _ _ _ _ f.a3, part_b _ _ _ _ g.a3, Result.andThen_ok, run_equalIn_bool' w 9998 4 _ _ Tryz.underlying4]
  · simp [Op.eqFields]
theorem wpList_eql_flg {ops : Array Oper} {rest : List Oper} {o : Oper} {a : Act} {w : World} {Q : Exit → Act → World → Prop} (hw : Region.wanted o (yielded ops a.tmps) = true) (x y : Operand) (ho : o.op = .binOp .eql 173 x y 173)
    (c d : Flg) (hx : a.eval x = .agg c.cells) (hy : a.eval y = .agg d.cells) (b : Bool) (hb : eqF c d = b) (h : wpList Tryz.prog ops Q rest (a.put o.dst (.bool b)) w) : wpList Tryz.prog ops Q (o :: rest) a w := by
  refine BigFrame.wpList_want hw fun K hK => ?_
  have he := flg_eq c d w
  rw [hb] at he
  unfold Oper.wp execOp
  simp only [ho, hx, hy, Sem.run_bind, run_eqGuard_agg w _ _ _ _ _ _ guard31, Result.andThen_ok, run_eql_struct, he]
  exact hK _ _ h
theorem wpList_neq_flg {ops : Array Oper} {rest : List Oper} {o : Oper} {a : Act} {w : World} {Q : Exit → Act → World → Prop} (hw : Region.wanted o (yielded ops a.tmps) = true) (x y : Operand) (ho : o.op = .binOp .neq 173 x y 173)
    (c d : Flg) (hx : a.eval x = .agg c.cells) (hy : a.eval y = .agg d.cells) (b : Bool) (hb : eqF c d = b) (h : wpList Tryz.prog ops Q rest (a.put o.dst (.bool (!b))) w) : wpList Tryz.prog ops Q (o :: rest) a w := by
  refine BigFrame.wpList_want hw fun K hK => ?_
  have he := flg_eq c d w
  rw [hb] at he
  unfold Oper.wp execOp
  simp only [ho, hx, hy, Sem.run_bind, run_eqGuard_agg w _ _ _ _ _ _ guard31, Result.andThen_ok, run_neq_struct, he]
  exact hK _ _ h
theorem wpList_builtG {P : Program} {ops : Array Oper} {rest : List Oper} {o : Oper} {a : Act} {w : World} {Q : Exit → Act → World → Prop} (hw : Region.wanted o (yielded ops a.tmps) = true) (t : TypeId) (parts : Array (Nat × Operand)) (ho : o.op = .build t parts)
    (cs : Array Value) (hf : P.built t (parts.map fun (i, x) => (i, a.eval x)).toList = some cs)
    (h : wpList P ops Q rest (a.put o.dst (.agg cs)) w) : wpList P ops Q (o :: rest) a w :=
  BigFrame.wpList_want hw fun _ hK => wp_build t parts ho (by rw [hf]; rfl) (by rw [hf]; exact hK _ _ h)
theorem built31 (n z c v : Bool) : Tryz.prog.built 173 [(0, .bool n), (1, .bool z), (2, .bool c), (3, .bool v)] = some (Flg.cells ⟨n, z, c, v⟩) := by kernel_rfl
end Go.Proofs.YtbjcdpmhmebjnaaGreat
/- A step's fields and state read; package sem's small functions: contracts, for all numbers. -/
namespace Go.Proofs.YtbjcdpmhmebjnaaGreat
open Go.RowKit

theorem at_i {w : World} {g : Nat} {s : Stp} (h : w.heap[g]? = some (.cells s.cells 58)) (k : Nat) (v : Value) (hk : k < 16) (hv : s.i.cells[k]? = some v) : w.cell? ⟨g, k, none⟩ = some v := by
  rw [cell_of_row _ _ _ _ _ _ h, s.atI k hk, hv]
theorem at_c {w : World} {g : Nat} {s : Stp} (h : w.heap[g]? = some (.cells s.cells 58)) (k : Nat) (v : Value) (hk : k < 49) (hv : s.c.cells[k]? = some v) : w.cell? ⟨g, 16 + k, none⟩ = some v := by
  rw [cell_of_row _ _ _ _ _ _ h, s.atC k hk, hv]
theorem at_g {w : World} {g : Nat} {s : Stp} (h : w.heap[g]? = some (.cells s.cells 58)) (k : Nat) (v : Value) (hk : k < 3) (hv : s.g.cells[k]? = some v) : w.cell? ⟨g, 65 + k, none⟩ = some v := by
  rw [cell_of_row _ _ _ _ _ _ h, s.atG k hk, hv]
theorem at_e {w : World} {g : Nat} {s : Stp} (h : w.heap[g]? = some (.cells s.cells 58)) : w.cell? ⟨g, 68, none⟩ = some (vI s.err) := by
  rw [cell_of_row _ _ _ _ _ _ h, s.atE]
theorem core_range {w : World} {g : Nat} {s : Stp} (h : w.heap[g]? = some (.cells s.cells 58)) : w.rangeAt g 16 s.c.cells.toList := by
  intro j v hv
  have hv' : s.c.cells[j]? = some v := by simpa using hv
  have hj : j < 49 := by have := (Array.getElem?_eq_some_iff.1 hv').1; rwa [Cor.size] at this
  exact at_c h j v hj hv'
theorem info26l (c : Cor) : (Tryz.prog.info? 26).map (·.size) = some c.cells.toList.length := by rw [Array.length_toList]; exact c.info
theorem run_load_core {w : World} {g : Nat} {s : Stp} (h : w.heap[g]? = some (.cells s.cells 58)) : (loadVar 26 ⟨g, 16, none⟩).run Tryz.prog w = .ok s.c.val w := by
  have := run_loadVar_mid w g 16 26 s.c.cells.toList _ (core_range h) Tryz.underlying26 rfl (info26l s.c)
  rwa [Array.toArray_toList] at this
/-- The state read out of the step. -/
theorem wpList_load_core {ops : Array Oper} {rest : List Oper} {o : Oper} {a : Act} {w : World} {Q : Exit → Act → World → Prop} (hw : Region.wanted o (yielded ops a.tmps) = true) (x : Operand) (ho : o.op = .load 26 x)
    (g : Nat) (hx : a.eval x = .pointer (some ⟨g, 16, none⟩)) (s : Stp) (hg : w.heap[g]? = some (.cells s.cells 58))
    (h : wpList Tryz.prog ops Q rest (a.put o.dst s.c.val) w) : wpList Tryz.prog ops Q (o :: rest) a w := by
  refine BigFrame.wpList_want hw fun K hK => ?_
  unfold Oper.wp execOp
  simp only [ho, hx, Instr.loadAt, Instr.sureAddr, Sem.run_bind, Sem.run_pure, Result.andThen_ok, run_load_core hg]
  exact hK _ _ h
theorem rel_load_core {o : Oper} {a : Act} {w : World} {s : Stp} (x : Operand) (ho : o.op = .load 26 x) (g : Nat) (hx : a.eval x = .pointer (some ⟨g, 16, none⟩)) (hg : w.heap[g]? = some (.cells s.cells 58)) :
    Rel.relUpon Tryz.prog Rel.Grows (fun v _ => v = s.c.val) w ((execOp a.eval o).run Tryz.prog w) := by
  unfold execOp
  simp only [ho, hx, Instr.loadAt, Instr.sureAddr, Sem.run_bind, Sem.run_pure, Result.andThen_ok, run_load_core hg]
  exact ⟨Below.refl _ _, rfl⟩
theorem keep_row {w w' : World} {g : Nat} {o : Obj} (h : w.heap[g]? = some o) (hb : Below w.heap.size w w') : w'.heap[g]? = some o := by
  rw [hb.block _ (Array.getElem?_eq_some_iff.1 h).1]; exact h

set_option maxHeartbeats 400000 in
theorem isForAll_c (n : Int) (w : World) : Calls Tryz.prog 182 #[vI n] w fun e w' => e = .returned (.bool (allB n)) ∧ w' = w := by
  go_enter Tryz.func182, Tryz.ntmps182
  go_wp2
  all_goals (go_ret; refine ⟨r_ret_bool ?_, rfl⟩; unfold allB; simp_all)
set_option maxHeartbeats 400000 in
theorem isReadOnly_c (n : Int) (w : World) : Calls Tryz.prog 101 #[vI n] w fun e w' => e = .returned (.bool (roB n)) ∧ w' = w := by
  go_enter Tryz.func101, Tryz.ntmps101
  go_wp2
  all_goals (go_ret; refine ⟨r_ret_bool ?_, rfl⟩; unfold roB; simp_all)
set_option maxHeartbeats 1000000 in
theorem isOutside_c (n : Int) (w : World) : Calls Tryz.prog 186 #[vI n] w fun e w' => e = .returned (.bool (outB n)) ∧ w' = w := by
  go_enter Tryz.func186, Tryz.ntmps186
  go_wp2
  all_goals (go_ret; refine ⟨r_ret_bool ?_, rfl⟩; unfold outB; simp_all)
set_option maxHeartbeats 400000 in
theorem issOf33_c (k : Int) (w : World) : Calls Tryz.prog 51 #[vI k, vI 33] w fun e w' => e = .returned (vI (bif storeK k then 97 else 33)) ∧ w' = w := by
  go_enter Tryz.func51, Tryz.ntmps51
  go_wp2
  all_goals (go_ret; refine ⟨r_ret_int ?_, rfl⟩; unfold storeK; first | (simp_all; done) | (simp_all; rfl) | (rw [show (k == 2) = false by simp_all, show (k == 4) = false by simp_all]; rfl))
set_option maxHeartbeats 400000 in
theorem issOf16_c (k : Int) (w : World) : Calls Tryz.prog 51 #[vI k, vI 16] w fun e w' => e = .returned (vI (bif storeK k then 80 else 16)) ∧ w' = w := by
  go_enter Tryz.func51, Tryz.ntmps51
  go_wp2
  all_goals (go_ret; refine ⟨r_ret_int ?_, rfl⟩; unfold storeK; first | (simp_all; done) | (simp_all; rfl) | (rw [show (k == 2) = false by simp_all, show (k == 4) = false by simp_all]; rfl))
set_option maxHeartbeats 400000 in
theorem sx_c (g : Nat) (s : Stp) (r : Int) (w : World) (h : w.heap[g]? = some (.cells s.cells 58)) : Calls Tryz.prog 184 #[.pointer (some ⟨g, 0, none⟩), vI r] w fun e w' => e = .returned (vU (xV s.c r)) ∧ Below w.heap.size w w' := by
  go_enter Tryz.func184, Tryz.ntmps184
  go_wp2_with (first | ((with_reducible refine wpList_load_core rfl _ rfl g rfl s h ?_); simp only [Act.put, List.setIfInBounds_toArray, List.set_cons_succ, List.set_cons_zero]) | (go_at_call 220; refine (X_c s.c _ _).mono ?_; rintro e w1 ⟨rfl, hB⟩; dsimp only))
  go_ret
  exact ⟨rfl, hB⟩
set_option maxHeartbeats 400000 in
theorem xOrSP_c (g : Nat) (s : Stp) (r : Int) (w : World) (h : w.heap[g]? = some (.cells s.cells 58)) : Calls Tryz.prog 195 #[.pointer (some ⟨g, 0, none⟩), vI r] w fun e w' => e = .returned (vU (spX s.c r)) ∧ Below w.heap.size w w' := by
  by_cases h31 : r = 31
  · subst h31
    go_enter Tryz.func195, Tryz.ntmps195
    go_wp2_with (first | ((with_reducible refine wpList_load_core rfl _ rfl g rfl s h ?_); simp only [Act.put, List.setIfInBounds_toArray, List.set_cons_succ, List.set_cons_zero]) | (go_at_call 229; refine (SP_c s.c _).mono ?_; rintro e w1 ⟨rfl, hB⟩; dsimp only))
    go_ret
    exact ⟨by simp [spX], hB⟩
  · have e : (r != 31) = true := by simp [h31]
    go_enter Tryz.func195, Tryz.ntmps195
    go_wp2_with (go_at_call 184; refine (sx_c g s _ _ h).mono ?_; rintro e w1 ⟨rfl, hB⟩; dsimp only)
    go_ret
    exact ⟨by simp [spX, h31], hB⟩
end Go.Proofs.YtbjcdpmhmebjnaaGreat
/- The address of an access, as a step reckons it: a contract. -/
namespace Go.Proofs.YtbjcdpmhmebjnaaGreat
open Go.RowKit

/-- The step lies in its block still. -/
structure Sg (g : Nat) (s : Stp) (w0 w : World) : Prop where
  below : Below w0.heap.size w0 w
  row : w.heap[g]? = some (.cells s.cells 58)
theorem Sg.grow {g : Nat} {s : Stp} {w0 w w' : World} (h : Sg g s w0 w) (hb : Below w.heap.size w w') : Sg g s w0 w' := ⟨r_below_then h.below hb, keep_row h.row hb⟩
theorem sg_up (g : Nat) (s : Stp) (w0 : World) : Rel.Up Rel.Grows (fun w => Sg g s w0 w) := fun _ _ h hb => h.grow hb
set_option maxRecDepth 4000 in
set_option maxHeartbeats 2000000 in
theorem address_a (g : Nat) (s : Stp) (w : World) (h : w.heap[g]? = some (.cells s.cells 58)) (ho : s.i.op = 19 ∨ s.i.op = 20) (ha : s.i.amount = 0) : Calls Tryz.prog 219 #[.pointer (some ⟨g, 0, none⟩)] w fun e w' => e = .returned (.int .u64 (u64 (spX s.c s.i.rn + u64 (xV s.c s.i.rm * 2 ^ (0 : Nat))))) ∧ Below w.heap.size w w' := by
  go_enter Tryz.func219, Tryz.ntmps219
  have c3 := at_i h 3 (.int .i64 s.i.rn) (by decide) rfl
  go_upto_region 2 with (go_at_call 195; refine (xOrSP_c g s _ _ h).mono ?_; rintro e w1 ⟨rfl, hB1⟩; dsimp only)
  have hs1 := keep_row h hB1
  have c0 := at_i hs1 0 (.int .i64 s.i.op) (by decide) rfl
  rcases ho with ho | ho
  all_goals
    rw [ho] at c0
    go_upto_region 3 with fail
    refine Rel.wp_region_tail 15 Rel.Grows (fun x => Sg g s w x) [.inl (.int .u64 (spX s.c s.i.rn)), .inl (.pointer (some ⟨g, 0, none⟩)), .inl (.pointer (some ⟨g, 0, none⟩)), .inl (.pointer (some ⟨g, 0, none⟩)), .inl (.pointer (some ⟨g, 0, none⟩)), .inl (.pointer (some ⟨g, 4, none⟩)), .inl (.int .i64 s.i.rm), .inl (.int .u64 (xV s.c s.i.rm)), .inl (.pointer (some ⟨g, 0, none⟩)), .inl (.pointer (some ⟨g, 0, none⟩)), .inl (.pointer (some ⟨g, 0, none⟩)), .inl (.pointer (some ⟨g, 8, none⟩)), .inl (.int .i64 0), .inl (.int .u64 (u64 (xV s.c s.i.rm * 1))), .inl (.int .u64 (u64 (spX s.c s.i.rn + (u64 (xV s.c s.i.rm * 1)))))] (by kernel_rfl) (by kernel_rfl) (sg_up g s w) (Sg.grow ⟨r_below_then (Below.refl _ _) hB1, hs1⟩ ⟨rfl, rfl, rfl, Nat.le_refl _, fun _ _ => rfl⟩) (by simp [Rel.upK]) ?_
    refine ⟨fun w1 hC _ => by go_simp; first | exact Below.refl _ _ | exact ⟨Below.refl _ _, rfl⟩, ?_⟩
    simp only [Act.put, List.setIfInBounds_toArray, List.set_cons_succ, List.set_cons_zero]
    refine ⟨fun w1 hC _ => by go_simp; first | exact Below.refl _ _ | exact ⟨Below.refl _ _, rfl⟩, ?_⟩
    simp only [Act.put, List.setIfInBounds_toArray, List.set_cons_succ, List.set_cons_zero]
    refine ⟨fun w1 hC _ => by go_simp; first | exact Below.refl _ _ | exact ⟨Below.refl _ _, rfl⟩, ?_⟩
    simp only [Act.put, List.setIfInBounds_toArray, List.set_cons_succ, List.set_cons_zero]
    refine ⟨fun w1 hC _ => by go_simp; first | exact Below.refl _ _ | exact ⟨Below.refl _ _, rfl⟩, ?_⟩
    simp only [Act.put, List.setIfInBounds_toArray, List.set_cons_succ, List.set_cons_zero]
    refine ⟨fun w1 hC _ => by go_simp; first | exact Below.refl _ _ | exact ⟨Below.refl _ _, rfl⟩, ?_⟩
    simp only [Act.put, List.setIfInBounds_toArray, List.set_cons_succ, List.set_cons_zero]
    refine ⟨fun w1 hC _ => by go_simp; first | exact Below.refl _ _ | exact ⟨Below.refl _ _, rfl⟩, ?_⟩
    simp only [Act.put, List.setIfInBounds_toArray, List.set_cons_succ, List.set_cons_zero]
    refine ⟨fun w1 hC _ => by have hq := at_i hC.row 4 (.int .i64 s.i.rm) (by decide) rfl; go_simp; first | exact Below.refl _ _ | exact ⟨Below.refl _ _, rfl⟩, ?_⟩
    simp only [Act.put, List.setIfInBounds_toArray, List.set_cons_succ, List.set_cons_zero]
    refine ⟨fun w1 hC _ => by go_simp; refine (sx_c g s _ w1 hC.row).mono ?_; rintro e w2 ⟨rfl, hb⟩; exact ⟨rfl, hb⟩, ?_⟩
    simp only [Act.put, List.setIfInBounds_toArray, List.set_cons_succ, List.set_cons_zero]
    refine ⟨fun w1 hC _ => by go_simp; first | exact Below.refl _ _ | exact ⟨Below.refl _ _, rfl⟩, ?_⟩
    simp only [Act.put, List.setIfInBounds_toArray, List.set_cons_succ, List.set_cons_zero]
    refine ⟨fun w1 hC _ => by go_simp; first | exact Below.refl _ _ | exact ⟨Below.refl _ _, rfl⟩, ?_⟩
    simp only [Act.put, List.setIfInBounds_toArray, List.set_cons_succ, List.set_cons_zero]
    refine ⟨fun w1 hC _ => by go_simp; first | exact Below.refl _ _ | exact ⟨Below.refl _ _, rfl⟩, ?_⟩
    simp only [Act.put, List.setIfInBounds_toArray, List.set_cons_succ, List.set_cons_zero]
    refine ⟨fun w1 hC _ => by go_simp; first | exact Below.refl _ _ | exact ⟨Below.refl _ _, rfl⟩, ?_⟩
    simp only [Act.put, List.setIfInBounds_toArray, List.set_cons_succ, List.set_cons_zero]
    refine ⟨fun w1 hC _ => by have hq := (by have hq := at_i hC.row 8 (.int .i64 s.i.amount) (by decide) rfl; rw [ha] at hq; exact hq : w1.cell? ⟨g, 8, none⟩ = some (.int .i64 0)); go_simp; first | exact Below.refl _ _ | exact ⟨Below.refl _ _, rfl⟩, ?_⟩
    simp only [Act.put, List.setIfInBounds_toArray, List.set_cons_succ, List.set_cons_zero]
    refine ⟨fun w1 hC _ => by go_simp; first | exact Below.refl _ _ | exact ⟨Below.refl _ _, rfl⟩ | (refine ⟨Below.refl _ _, ?_⟩; simp only [u64, wrapU]) | (refine ⟨Below.refl _ _, ?_⟩; trace_state; simp [u64, wrapU]), ?_⟩
    simp only [Act.put, List.setIfInBounds_toArray, List.set_cons_succ, List.set_cons_zero]
    refine ⟨fun w1 hC _ => by go_simp; first | exact Below.refl _ _ | exact ⟨Below.refl _ _, rfl⟩ | (refine ⟨Below.refl _ _, ?_⟩; simp only [u64, wrapU]) | (refine ⟨Below.refl _ _, ?_⟩; trace_state; simp [u64, wrapU]), ?_⟩
    simp only [Act.put, List.setIfInBounds_toArray, List.set_cons_succ, List.set_cons_zero]
    intro w2 hC _
    clear c0 c3 hs1
    simp only [List.drop_succ_cons, List.drop_zero]
    go_wp2
    go_ret
    exact ⟨by rfl, hC.below⟩
set_option maxRecDepth 4000 in
set_option maxHeartbeats 2000000 in
theorem address_b (g : Nat) (s : Stp) (w : World) (h : w.heap[g]? = some (.cells s.cells 58)) (ho : s.i.op = 19 ∨ s.i.op = 20) (ha : s.i.amount = 3) : Calls Tryz.prog 219 #[.pointer (some ⟨g, 0, none⟩)] w fun e w' => e = .returned (.int .u64 (u64 (spX s.c s.i.rn + u64 (xV s.c s.i.rm * 2 ^ (3 : Nat))))) ∧ Below w.heap.size w w' := by
  go_enter Tryz.func219, Tryz.ntmps219
  have c3 := at_i h 3 (.int .i64 s.i.rn) (by decide) rfl
  go_upto_region 2 with (go_at_call 195; refine (xOrSP_c g s _ _ h).mono ?_; rintro e w1 ⟨rfl, hB1⟩; dsimp only)
  have hs1 := keep_row h hB1
  have c0 := at_i hs1 0 (.int .i64 s.i.op) (by decide) rfl
  rcases ho with ho | ho
  all_goals
    rw [ho] at c0
    go_upto_region 3 with fail
    refine Rel.wp_region_tail 15 Rel.Grows (fun x => Sg g s w x) [.inl (.int .u64 (spX s.c s.i.rn)), .inl (.pointer (some ⟨g, 0, none⟩)), .inl (.pointer (some ⟨g, 0, none⟩)), .inl (.pointer (some ⟨g, 0, none⟩)), .inl (.pointer (some ⟨g, 0, none⟩)), .inl (.pointer (some ⟨g, 4, none⟩)), .inl (.int .i64 s.i.rm), .inl (.int .u64 (xV s.c s.i.rm)), .inl (.pointer (some ⟨g, 0, none⟩)), .inl (.pointer (some ⟨g, 0, none⟩)), .inl (.pointer (some ⟨g, 0, none⟩)), .inl (.pointer (some ⟨g, 8, none⟩)), .inl (.int .i64 3), .inl (.int .u64 (u64 (xV s.c s.i.rm * 8))), .inl (.int .u64 (u64 (spX s.c s.i.rn + (u64 (xV s.c s.i.rm * 8)))))] (by kernel_rfl) (by kernel_rfl) (sg_up g s w) (Sg.grow ⟨r_below_then (Below.refl _ _) hB1, hs1⟩ ⟨rfl, rfl, rfl, Nat.le_refl _, fun _ _ => rfl⟩) (by simp [Rel.upK]) ?_
    refine ⟨fun w1 hC _ => by go_simp; first | exact Below.refl _ _ | exact ⟨Below.refl _ _, rfl⟩, ?_⟩
    simp only [Act.put, List.setIfInBounds_toArray, List.set_cons_succ, List.set_cons_zero]
    refine ⟨fun w1 hC _ => by go_simp; first | exact Below.refl _ _ | exact ⟨Below.refl _ _, rfl⟩, ?_⟩
    simp only [Act.put, List.setIfInBounds_toArray, List.set_cons_succ, List.set_cons_zero]
    refine ⟨fun w1 hC _ => by go_simp; first | exact Below.refl _ _ | exact ⟨Below.refl _ _, rfl⟩, ?_⟩
    simp only [Act.put, List.setIfInBounds_toArray, List.set_cons_succ, List.set_cons_zero]
    refine ⟨fun w1 hC _ => by go_simp; first | exact Below.refl _ _ | exact ⟨Below.refl _ _, rfl⟩, ?_⟩
    simp only [Act.put, List.setIfInBounds_toArray, List.set_cons_succ, List.set_cons_zero]
    refine ⟨fun w1 hC _ => by go_simp; first | exact Below.refl _ _ | exact ⟨Below.refl _ _, rfl⟩, ?_⟩
    simp only [Act.put, List.setIfInBounds_toArray, List.set_cons_succ, List.set_cons_zero]
    refine ⟨fun w1 hC _ => by go_simp; first | exact Below.refl _ _ | exact ⟨Below.refl _ _, rfl⟩, ?_⟩
    simp only [Act.put, List.setIfInBounds_toArray, List.set_cons_succ, List.set_cons_zero]
    refine ⟨fun w1 hC _ => by have hq := at_i hC.row 4 (.int .i64 s.i.rm) (by decide) rfl; go_simp; first | exact Below.refl _ _ | exact ⟨Below.refl _ _, rfl⟩, ?_⟩
    simp only [Act.put, List.setIfInBounds_toArray, List.set_cons_succ, List.set_cons_zero]
    refine ⟨fun w1 hC _ => by go_simp; refine (sx_c g s _ w1 hC.row).mono ?_; rintro e w2 ⟨rfl, hb⟩; exact ⟨rfl, hb⟩, ?_⟩
    simp only [Act.put, List.setIfInBounds_toArray, List.set_cons_succ, List.set_cons_zero]
    refine ⟨fun w1 hC _ => by go_simp; first | exact Below.refl _ _ | exact ⟨Below.refl _ _, rfl⟩, ?_⟩
    simp only [Act.put, List.setIfInBounds_toArray, List.set_cons_succ, List.set_cons_zero]
    refine ⟨fun w1 hC _ => by go_simp; first | exact Below.refl _ _ | exact ⟨Below.refl _ _, rfl⟩, ?_⟩
    simp only [Act.put, List.setIfInBounds_toArray, List.set_cons_succ, List.set_cons_zero]
    refine ⟨fun w1 hC _ => by go_simp; first | exact Below.refl _ _ | exact ⟨Below.refl _ _, rfl⟩, ?_⟩
    simp only [Act.put, List.setIfInBounds_toArray, List.set_cons_succ, List.set_cons_zero]
    refine ⟨fun w1 hC _ => by go_simp; first | exact Below.refl _ _ | exact ⟨Below.refl _ _, rfl⟩, ?_⟩
    simp only [Act.put, List.setIfInBounds_toArray, List.set_cons_succ, List.set_cons_zero]
    refine ⟨fun w1 hC _ => by have hq := (by have hq := at_i hC.row 8 (.int .i64 s.i.amount) (by decide) rfl; rw [ha] at hq; exact hq : w1.cell? ⟨g, 8, none⟩ = some (.int .i64 3)); go_simp; first | exact Below.refl _ _ | exact ⟨Below.refl _ _, rfl⟩, ?_⟩
    simp only [Act.put, List.setIfInBounds_toArray, List.set_cons_succ, List.set_cons_zero]
    refine ⟨fun w1 hC _ => by go_simp; first | exact Below.refl _ _ | exact ⟨Below.refl _ _, rfl⟩ | (refine ⟨Below.refl _ _, ?_⟩; simp only [u64, wrapU]) | (refine ⟨Below.refl _ _, ?_⟩; trace_state; simp [u64, wrapU]), ?_⟩
    simp only [Act.put, List.setIfInBounds_toArray, List.set_cons_succ, List.set_cons_zero]
    refine ⟨fun w1 hC _ => by go_simp; first | exact Below.refl _ _ | exact ⟨Below.refl _ _, rfl⟩ | (refine ⟨Below.refl _ _, ?_⟩; simp only [u64, wrapU]) | (refine ⟨Below.refl _ _, ?_⟩; trace_state; simp [u64, wrapU]), ?_⟩
    simp only [Act.put, List.setIfInBounds_toArray, List.set_cons_succ, List.set_cons_zero]
    intro w2 hC _
    clear c0 c3 hs1
    simp only [List.drop_succ_cons, List.drop_zero]
    go_wp2
    go_ret
    exact ⟨by rfl, hC.below⟩
set_option maxHeartbeats 1000000 in
theorem address_n (g : Nat) (s : Stp) (w : World) (h : w.heap[g]? = some (.cells s.cells 58)) (h1 : (s.i.op == 19) = false) (h2 : (s.i.op == 20) = false) : Calls Tryz.prog 219 #[.pointer (some ⟨g, 0, none⟩)] w fun e w' => e = .returned (.int .u64 (u64 (spX s.c s.i.rn + u64 s.i.imm))) ∧ Below w.heap.size w w' := by
  go_enter Tryz.func219, Tryz.ntmps219
  have c3 := at_i h 3 (.int .i64 s.i.rn) (by decide) rfl
  go_upto_region 2 with (go_at_call 195; refine (xOrSP_c g s _ _ h).mono ?_; rintro e w1 ⟨rfl, hB1⟩; dsimp only)
  have hs1 := keep_row h hB1
  have c0 := at_i hs1 0 (.int .i64 s.i.op) (by decide) rfl
  have c6 := at_i hs1 6 (.int .i64 s.i.imm) (by decide) rfl
  go_wp2
  go_ret
  exact ⟨r_ret_int (by simp only [u64, wrapU]), hB1⟩
theorem address_c (g : Nat) (s : Stp) (w : World) (h : w.heap[g]? = some (.cells s.cells 58)) (ha : s.i.op = 19 ∨ s.i.op = 20 → s.i.amount = 0 ∨ s.i.amount = 3) : Calls Tryz.prog 219 #[.pointer (some ⟨g, 0, none⟩)] w fun e w' => e = .returned (.int .u64 (adrV s.c s.i)) ∧ Below w.heap.size w w' := by
  by_cases ho : s.i.op = 19 ∨ s.i.op = 20
  · unfold adrV
    rw [if_pos ho]
    rcases ha ho with e | e
    · have := address_a g s w h ho e
      rw [e]
      exact this
    · have := address_b g s w h ho e
      rw [e]
      exact this
  · unfold adrV
    rw [if_neg ho]
    exact address_n g s w h (by simp; omega) (by simp; omega)
end Go.Proofs.YtbjcdpmhmebjnaaGreat
/- What the functions of package regs, and the document's own, make of a state: contracts, for every state. -/
namespace Go.Proofs.YtbjcdpmhmebjnaaGreat
open Go.RowKit

theorem tm_bit {v : Int} (h : U64 v) (m : Int) (k : Nat) (hm : m = 2 ^ k) : ((v / m).tmod 2 == 1) = bitB v k := by
  subst hm
  unfold bitB
  rw [Int.tmod_eq_emod_of_nonneg (Int.ediv_nonneg h.1 (Int.le_of_lt (Int.pow_pos (by decide))))]
theorem tm_31 {v : Int} (h : U64 v) : ((v / 2147483648).tmod 2 == 1) = bitB v 31 := tm_bit h _ 31 rfl
theorem tm_30 {v : Int} (h : U64 v) : ((v / 1073741824).tmod 2 == 1) = bitB v 30 := tm_bit h _ 30 rfl
theorem tm_29 {v : Int} (h : U64 v) : ((v / 536870912).tmod 2 == 1) = bitB v 29 := tm_bit h _ 29 rfl
theorem tm_28 {v : Int} (h : U64 v) : ((v / 268435456).tmod 2 == 1) = bitB v 28 := tm_bit h _ 28 rfl
theorem tm_7 {v : Int} (h : U64 v) : ((v / 128).tmod 2 == 1) = bitB v 7 := tm_bit h _ 7 rfl
/-- A number laid into a cell that is there. -/
theorem wpList_store_int {P : Program} {ops : Array Oper} {rest : List Oper} {o : Oper} {a : Act} {w : World} {Q : Exit → Act → World → Prop} (hgd : o.guard = none) (ty : TypeId) (x y : Operand) (ho : o.op = .store ty x y)
    (g j : Nat) (k : IntKind) (n : Int) (hx : a.eval x = .pointer (some ⟨g, j, none⟩)) (hy : a.eval y = .int k n) (old : Value) (hc : w.cell? ⟨g, j, none⟩ = some old) (hf : w.frozen? ⟨g, j, none⟩ = false) (hi : (P.info? ty).map (·.size) = some 1)
    (h : wpList P ops Q rest (a.put o.dst undef) (w.setCell ⟨g, j, none⟩ (.int k n))) : wpList P ops Q (o :: rest) a w := by
  refine wpList_plain hgd fun K hK => ?_
  unfold Oper.wp execOp
  have hs : (storeVar ty ⟨g, j, none⟩ (.int k n)).run P w = .ok () (w.setCell ⟨g, j, none⟩ (.int k n)) := by
    cases hq : P.info? ty with
    | none => simp [hq] at hi
    | some i =>
      have hs : i.size = 1 := by simpa [hq] using hi
      have hadd : (⟨g, j, none⟩ : Addr).add 0 = ⟨g, j, none⟩ := by unfold Addr.add; split <;> simp_all
      have hst : (store ⟨g, j, none⟩ (.int k n) .plain).run P w = .ok () (w.setCell ⟨g, j, none⟩ (.int k n)) := by
        rw [run_store P w _ _ _ rfl, hc, hf]; rfl
      simp [storeVar, sizeOf, typeInfo, hq, hs, Value.cells, storeCells, hadd, hst]
  simp only [ho, hx, hy, Instr.storeAt, Instr.sureAddr, Sem.run_bind, Sem.run_pure, Result.andThen_ok, hs]
  exact hK _ _ h
theorem put_x (c : Cor) (k : Nat) (v : Int) (h : k < 31) (Z : Obj) (w : World) : ((w.alloc (.cells c.cells 26)).alloc Z).setCell ⟨w.heap.size, k, none⟩ (vU v) = (w.alloc (.cells ({ c with x := c.x.set k v } : Cor).cells 26)).alloc Z := by
  rw [World.setCell_alloc_past Z _ _ _ (by simp), World.setCell_alloc_new, c.setX k v h]
theorem built_some : (Tryz.prog.built 26 []).isSome = true := by kernel_rfl
theorem built_nil : (Tryz.prog.built 26 []).getD #[] = nilC.cells := by kernel_rfl
theorem wpList_build_nil {ops : Array Oper} {rest : List Oper} {o : Oper} {a : Act} {w : World} {Q : Exit → Act → World → Prop} (hw : Region.wanted o (yielded ops a.tmps) = true) (ho : o.op = .build 26 #[])
    (h : wpList Tryz.prog ops Q rest (a.put o.dst nilC.val) w) : wpList Tryz.prog ops Q (o :: rest) a w := by
  have e : (Array.map (fun x : Nat × Operand => match x with | (i, x) => (i, a.eval x)) #[]).toList = [] := by simp
  refine BigFrame.wpList_want hw fun K hK => wp_build 26 #[] ho (by rw [e]; exact built_some) ?_
  refine hK _ _ ?_
  rw [e, built_nil]
  exact h
def setXV (c : Cor) (r v : Int) : Cor := bif regB r then (if h : 0 ≤ r ∧ r < 31 then { c with x := c.x.set r.toNat v (by omega) } else c) else nilC
def setSPV (c : Cor) (v : Int) : Cor := if c.el = 0 then { c with sp0 := v } else if c.el = 1 then { c with sp1 := v } else nilC
def setNzcvV (c : Cor) (u : Int) : Cor := { c with n := bitB u 31, z := bitB u 30, c := bitB u 29, v := bitB u 28 }
def newV (id pc : Int) : Cor := { nilC with id := id, pc := pc, el := 1, mask := true }
set_option maxHeartbeats 1000000 in
theorem SetX_c (c : Cor) (r v : Int) (w : World) : Calls Tryz.prog 230 #[c.val, r_vI r, vU v] w fun e w' => e = .returned (.tuple #[(setXV c r v).val, r_vI (regE r)]) ∧ Below w.heap.size w w' := by
  by_cases h0 : 0 ≤ r
  · by_cases h1 : r < 31
    · have hb : regB r = true := by simp [regB, h0]; omega
      have hne : r ≠ 31 := by omega
      have hv : setXV c r v = { c with x := c.x.set r.toNat v (by omega) } := by simp [setXV, hb, h0, h1]
      rw [hv]
      clear hv
      go_enter Tryz.func230, Tryz.ntmps230
      go_upto_region 4 with (go_at_call 247; refine (isRegister_c _ _).mono ?_; rintro e w1 ⟨rfl, rfl⟩)
      iterate 13 go_step
      refine wpList_store_int rfl 22 _ _ rfl w.heap.size r.toNat .u64 v rfl rfl (vU (xV c r)) ?_ (frozen_of_row _ _ _ _ _ (heap_alloc2_old _ _ _)) (by kernel_rfl) ?_
      focus
        rw [cell_of_row _ _ _ _ _ _ (heap_alloc2_old _ _ _), c.atX r.toNat (by omega)]
        simp [xV, h0, show r.toNat < 31 by omega]
      rw [put_x c r.toNat v (by omega)]
      go_upto_region 5 with fail
      go_step
      with_reducible refine wpList_load_row rfl 26 _ rfl _ rfl 26 _ (0, 0) _ (heap_alloc2_old _ _ _) Tryz.underlying26 rfl (Cor.info _) ?_
      simp only [Act.put, List.setIfInBounds_toArray, List.set_cons_succ, List.set_cons_zero]
      with_reducible refine wpList_store_row rfl 26 _ _ rfl _ _ rfl rfl 26 _ (heap_alloc2_new _ _ _) (Cor.info _) ?_ (Cor.one _) ?_
      focus (rw [Cor.size]; rfl)
      go_wp2
      refine bodyPost_ret (back_two rfl _ _ _ _ _ _ rfl (setRow_heap _ _ _ _ _ _ (heap_alloc2_new _ _ _))) rfl ?_
      exact ⟨by first | rfl | (rw [show regE r = 0 by simp [regE, hb]]; rfl), by repeat (first | exact Below.refl _ _ | apply r_below_more | apply below_drew | apply r_below_drewN | (refine r_below_setRow ?_ (by simp)))⟩
    · by_cases h2 : r = 31
      · subst h2
        have hv : setXV c 31 v = c := by simp [setXV, show regB 31 = true by decide]
        rw [hv]
        go_enter Tryz.func230, Tryz.ntmps230
        go_upto_region 5 with (go_at_call 247; refine (isRegister_c _ _).mono ?_; rintro e w1 ⟨rfl, rfl⟩)
        go_step
        with_reducible refine wpList_load_row rfl 26 _ rfl _ rfl 26 _ (0, 0) _ (heap_alloc2_old _ _ _) Tryz.underlying26 rfl (Cor.info _) ?_
        simp only [Act.put, List.setIfInBounds_toArray, List.set_cons_succ, List.set_cons_zero]
        with_reducible refine wpList_store_row rfl 26 _ _ rfl _ _ rfl rfl 26 _ (heap_alloc2_new _ _ _) (Cor.info _) ?_ (Cor.one _) ?_
        focus (rw [Cor.size]; rfl)
        go_wp2
        refine bodyPost_ret (back_two rfl _ _ _ _ _ _ rfl (setRow_heap _ _ _ _ _ _ (heap_alloc2_new _ _ _))) rfl ?_
        exact ⟨rfl, by repeat (first | exact Below.refl _ _ | apply r_below_more | apply below_drew | apply r_below_drewN | (refine r_below_setRow ?_ (by simp)))⟩
      · have hb : regB r = false := by simp [regB]; omega
        have hv : setXV c r v = nilC := by simp [setXV, hb]
        rw [hv]
        have h3 : 31 < r := by omega
        go_enter Tryz.func230, Tryz.ntmps230
        go_upto_region 2 with (go_at_call 247; refine (isRegister_c _ _).mono ?_; rintro e w1 ⟨rfl, rfl⟩)
        go_step
        with_reducible refine wpList_build_nil rfl rfl ?_
        simp only [Act.put, List.setIfInBounds_toArray, List.set_cons_succ, List.set_cons_zero]
        with_reducible refine wpList_store_row rfl 26 _ _ rfl _ _ rfl rfl 26 _ (heap_alloc2_new _ _ _) (Cor.info _) ?_ (Cor.one _) ?_
        focus (rw [Cor.size]; rfl)
        go_wp2
        refine bodyPost_ret (back_two rfl _ _ _ _ _ _ rfl (setRow_heap _ _ _ _ _ _ (heap_alloc2_new _ _ _))) rfl ?_
        exact ⟨by first | rfl | (rw [show regE r = 1 by simp only [regE, hb, cond_false]]; rfl), by repeat (first | exact Below.refl _ _ | apply r_below_more | apply below_drew | apply r_below_drewN | (refine r_below_setRow ?_ (by simp)))⟩
  · have hb : regB r = false := by simp [regB]; omega
    have hv : setXV c r v = nilC := by simp [setXV, hb]
    rw [hv]
    have h3 : r < 0 := by omega
    go_enter Tryz.func230, Tryz.ntmps230
    go_upto_region 2 with (go_at_call 247; refine (isRegister_c _ _).mono ?_; rintro e w1 ⟨rfl, rfl⟩)
    go_step
    with_reducible refine wpList_build_nil rfl rfl ?_
    simp only [Act.put, List.setIfInBounds_toArray, List.set_cons_succ, List.set_cons_zero]
    with_reducible refine wpList_store_row rfl 26 _ _ rfl _ _ rfl rfl 26 _ (heap_alloc2_new _ _ _) (Cor.info _) ?_ (Cor.one _) ?_
    focus (rw [Cor.size]; rfl)
    go_wp2
    refine bodyPost_ret (back_two rfl _ _ _ _ _ _ rfl (setRow_heap _ _ _ _ _ _ (heap_alloc2_new _ _ _))) rfl ?_
    exact ⟨by first | rfl | (rw [show regE r = 1 by simp only [regE, hb, cond_false]]; rfl), by repeat (first | exact Below.refl _ _ | apply r_below_more | apply below_drew | apply r_below_drewN | (refine r_below_setRow ?_ (by simp)))⟩
set_option maxHeartbeats 1000000 in
theorem SetSP_c (c : Cor) (v : Int) (w : World) : Calls Tryz.prog 248 #[c.val, vU v] w fun e w' => e = .returned (.tuple #[(setSPV c v).val, r_vI (spE c)]) ∧ Below w.heap.size w w' := by
  rcases (by omega : c.el = 0 ∨ c.el = 1 ∨ (c.el ≠ 0 ∧ c.el ≠ 1)) with h | h | ⟨h, h'⟩
  · have hv : setSPV c v = { c with sp0 := v } := by simp [setSPV, h]
    have he : spE c = 0 := by simp [spE, h]
    rw [hv, he]
    go_enter Tryz.func248, Tryz.ntmps248
    go_upto_region 4 with (go_at_call 41; refine (isLevel_c _ _).mono ?_; rintro e w1 ⟨rfl, rfl⟩)
    go_step
    with_reducible refine wpList_load_row rfl 26 _ rfl _ rfl 26 _ (0, 0) _ (heap_alloc2_old _ _ _) Tryz.underlying26 rfl (Cor.info _) ?_
    simp only [Act.put, List.setIfInBounds_toArray, List.set_cons_succ, List.set_cons_zero]
    with_reducible refine wpList_store_row rfl 26 _ _ rfl _ _ rfl rfl 26 _ (heap_alloc2_new _ _ _) (Cor.info _) ?_ (Cor.one _) ?_
    focus (rw [Cor.size]; rfl)
    go_wp2
    refine bodyPost_ret (back_two rfl _ _ _ _ _ _ rfl (setRow_heap _ _ _ _ _ _ (heap_alloc2_new _ _ _))) rfl ?_
    exact ⟨by simp [h], by repeat (first | exact Below.refl _ _ | apply r_below_more | apply below_drew | apply r_below_drewN | (refine r_below_setRow ?_ (by simp)))⟩
  · have hv : setSPV c v = { c with sp1 := v } := by simp [setSPV, h]
    have he : spE c = 0 := by simp [spE, h]
    rw [hv, he]
    go_enter Tryz.func248, Tryz.ntmps248
    go_upto_region 4 with (go_at_call 41; refine (isLevel_c _ _).mono ?_; rintro e w1 ⟨rfl, rfl⟩)
    go_step
    with_reducible refine wpList_load_row rfl 26 _ rfl _ rfl 26 _ (0, 0) _ (heap_alloc2_old _ _ _) Tryz.underlying26 rfl (Cor.info _) ?_
    simp only [Act.put, List.setIfInBounds_toArray, List.set_cons_succ, List.set_cons_zero]
    with_reducible refine wpList_store_row rfl 26 _ _ rfl _ _ rfl rfl 26 _ (heap_alloc2_new _ _ _) (Cor.info _) ?_ (Cor.one _) ?_
    focus (rw [Cor.size]; rfl)
    go_wp2
    refine bodyPost_ret (back_two rfl _ _ _ _ _ _ rfl (setRow_heap _ _ _ _ _ _ (heap_alloc2_new _ _ _))) rfl ?_
    exact ⟨by simp [h], by repeat (first | exact Below.refl _ _ | apply r_below_more | apply below_drew | apply r_below_drewN | (refine r_below_setRow ?_ (by simp)))⟩
  · have hv : setSPV c v = nilC := by simp [setSPV, h, h']
    have he : spE c = 1 := by simp [spE, h, h']
    have hb : (c.el == 0 || c.el == 1) = false := by simp [h, h']
    rw [hv, he]
    go_enter Tryz.func248, Tryz.ntmps248
    go_upto_region 2 with (go_at_call 41; refine (isLevel_c _ _).mono ?_; rw [hb]; rintro e w1 ⟨rfl, rfl⟩)
    go_step
    with_reducible refine wpList_build_nil rfl rfl ?_
    simp only [Act.put, List.setIfInBounds_toArray, List.set_cons_succ, List.set_cons_zero]
    with_reducible refine wpList_store_row rfl 26 _ _ rfl _ _ rfl rfl 26 _ (heap_alloc2_new _ _ _) (Cor.info _) ?_ (Cor.one _) ?_
    focus (rw [Cor.size]; rfl)
    go_wp2
    refine bodyPost_ret (back_two rfl _ _ _ _ _ _ rfl (setRow_heap _ _ _ _ _ _ (heap_alloc2_new _ _ _))) rfl ?_
    exact ⟨rfl, by repeat (first | exact Below.refl _ _ | apply r_below_more | apply below_drew | apply r_below_drewN | (refine r_below_setRow ?_ (by simp)))⟩
set_option maxHeartbeats 1000000 in
theorem SetNzcv_c (c : Cor) (v : Int) (hv : Hid (U64 v)) (w : World) : Calls Tryz.prog 241 #[c.val, vU v] w fun e w' => e = .returned (setNzcvV c v).val ∧ Below w.heap.size w w' := by
  have e31 := and_31 hv.out
  have e30 := and_30 hv.out
  have e29 := and_29 hv.out
  have e28 := and_28 hv.out
  go_enter Tryz.func241, Tryz.ntmps241
  go_upto_region 3 with fail
  go_step
  with_reducible refine wpList_load_row rfl 26 _ rfl _ rfl 26 _ (0, 0) _ (heap_alloc2_old _ _ _) Tryz.underlying26 rfl (Cor.info _) ?_
  simp only [Act.put, List.setIfInBounds_toArray, List.set_cons_succ, List.set_cons_zero]
  with_reducible refine wpList_store_row rfl 26 _ _ rfl _ _ rfl rfl 26 _ (heap_alloc2_new _ _ _) (Cor.info _) ?_ (Cor.one _) ?_
  focus (rw [Cor.size]; rfl)
  go_wp2
  refine bodyPost_ret (back_one rfl _ _ _ _ _ _ rfl (setRow_heap _ _ _ _ _ _ (heap_alloc2_new _ _ _))) rfl ?_
  exact ⟨rfl, by repeat (first | exact Below.refl _ _ | apply r_below_more | apply below_drew | apply r_below_drewN | (refine r_below_setRow ?_ (by simp)))⟩
theorem built_new (id pc : Int) : Tryz.prog.built 26 [(15, r_vI id), (2, vU pc), (7, r_vI 1), (8, .bool true)] = some (newV id pc).cells := by kernel_rfl
end Go.Proofs.YtbjcdpmhmebjnaaGreat
/- What is wanted, laid into variables of a call's own and read out of them: laws. -/
namespace Go.Proofs.YtbjcdpmhmebjnaaGreat
open Go.RowKit

theorem info30 : (Tryz.prog.info? 30).map (·.size) = some 10 := by kernel_rfl
theorem Wnt.info (k : Wnt) : (Tryz.prog.info? 30).map (·.size) = some k.cells.size := info30
theorem back_w {fn : Func} {p : Tmp} (h : fn.results = #[.cell p 30]) (tmps : Array Value) (w : World) (g : Nat) (k : Wnt) (fr : Nat × Nat) (t : TypeId)
    (hp : tmps.getD p undef = .pointer (some ⟨g, 0, none⟩)) (hg : w.heap[g]? = some (.cells k.cells t fr)) :
    (results fn tmps).run Tryz.prog w = .ok k.val w :=
  results_cell_row h tmps w g t k.cells fr _ hp hg Tryz.underlying30 rfl k.info
theorem back_wt {fn : Func} {p u : Tmp} (h : fn.results = #[.cell p 30, .tmp u]) (tmps : Array Value) (w : World) (g : Nat) (k : Wnt) (fr : Nat × Nat) (t : TypeId)
    (hp : tmps.getD p undef = .pointer (some ⟨g, 0, none⟩)) (hg : w.heap[g]? = some (.cells k.cells t fr)) :
    (results fn tmps).run Tryz.prog w = .ok (.tuple #[k.val, tmps.getD u undef]) w := by
  rw [results_cell_tmp h]
  simp [hp, asAddr, run_loadVar_row w g t 30 k.cells fr _ hg Tryz.underlying30 rfl k.info]
/-- The result's variable laid. -/
theorem wpList_store_w {w0 : World} {b : Nat} {Z : Array Value} {L : List (Nat × Array Value × TypeId)} {ops : Array Oper} {rest : List Oper} {o : Oper} {a : Act} {w : World} {Q : Exit → Act → World → Prop} (hgd : o.guard = none) (x y : Operand) (ho : o.op = .store 30 x y)
    (H : Has w0 ((b, Z, 30) :: L) w) (hL : ∀ p ∈ L, p.1 ≠ b) (hZ : Z.size = 10) (k : Wnt) (hx : a.eval x = .pointer (some ⟨b, 0, none⟩)) (hy : a.eval y = .agg k.cells)
    (h : ∀ w2, Has w0 ((b, k.cells, 30) :: L) w2 → wpList Tryz.prog ops Q rest (a.put o.dst undef) w2) : wpList Tryz.prog ops Q (o :: rest) a w :=
  wpList_store_over hgd 30 H hL x y ho k.cells hx hy k.info hZ k.one h
theorem no_other {b : Nat} : ∀ p ∈ ([] : List (Nat × Array Value × TypeId)), p.1 ≠ b := fun _ h => absurd h List.not_mem_nil
theorem one_other {b c : Nat} {Z : Array Value} {t : TypeId} (h : c ≠ b) : ∀ p ∈ [(c, Z, t)], p.1 ≠ b := fun p hp => by
  obtain rfl := List.mem_singleton.1 hp
  exact h
theorem wpList_built_w {ops : Array Oper} {rest : List Oper} {o : Oper} {a : Act} {w : World} {Q : Exit → Act → World → Prop} (hw : Region.wanted o (yielded ops a.tmps) = true) (parts : Array (Nat × Operand)) (ho : o.op = .build 30 parts)
    (k : Wnt) (hf : Tryz.prog.built 30 (parts.map fun (i, x) => (i, a.eval x)).toList = some k.cells)
    (h : wpList Tryz.prog ops Q rest (a.put o.dst k.val) w) : wpList Tryz.prog ops Q (o :: rest) a w :=
  wpList_builtG hw 30 parts ho k.cells hf h
theorem rel_built_w {o : Oper} {a : Act} {w : World} (parts : Array (Nat × Operand)) (ho : o.op = .build 30 parts) (k : Wnt) (hf : Tryz.prog.built 30 (parts.map fun (i, x) => (i, a.eval x)).toList = some k.cells) :
    Rel.relUpon Tryz.prog Rel.Grows (fun v _ => v = k.val) w ((execOp a.eval o).run Tryz.prog w) := by
  unfold execOp
  simp only [ho, Sem.run_bind, run_build w 30 _ k.cells hf, Result.andThen_ok]
  exact ⟨Below.refl _ _, rfl⟩
theorem Has.swap {w0 w : World} {p q : Nat × Array Value × TypeId} (h : Has w0 [p, q] w) : Has w0 [q, p] w := ⟨h.below, fun r hr => h.box r (by simp at hr ⊢; exact hr.symm)⟩
/-- One number laid into a variable. -/
theorem Has.setAt {w0 w : World} {L : List (Nat × Array Value × TypeId)} {b : Nat} {t : TypeId} {cs : Array Value} (h : Has w0 ((b, cs, t) :: L) w) (hL : ∀ p ∈ L, p.1 ≠ b) (j : Nat) (v : Value) : Has w0 ((b, cs.setIfInBounds j v, t) :: L) (w.setCell ⟨b, j, none⟩ v) := by
  obtain ⟨h1, h2⟩ := h.box (b, cs, t) List.mem_cons_self
  refine ⟨h.below.setCell h1 v, fun p hp => ?_⟩
  rcases List.mem_cons.1 hp with rfl | hp
  · exact ⟨h1, heap_setCell_same _ _ _ _ _ _ h2⟩
  · obtain ⟨h3, h4⟩ := h.box p (List.mem_cons_of_mem _ hp)
    exact ⟨h3, by rw [heap_setCell_other _ _ _ _ (hL p hp)]; exact h4⟩
/-- A truth laid into a cell that is there. -/
theorem wpList_store_bool {P : Program} {ops : Array Oper} {rest : List Oper} {o : Oper} {a : Act} {w : World} {Q : Exit → Act → World → Prop} (hgd : o.guard = none) (ty : TypeId) (x y : Operand) (ho : o.op = .store ty x y)
    (g j : Nat) (n : Bool) (hx : a.eval x = .pointer (some ⟨g, j, none⟩)) (hy : a.eval y = .bool n) (old : Value) (hc : w.cell? ⟨g, j, none⟩ = some old) (hf : w.frozen? ⟨g, j, none⟩ = false) (hi : (P.info? ty).map (·.size) = some 1)
    (h : wpList P ops Q rest (a.put o.dst undef) (w.setCell ⟨g, j, none⟩ (.bool n))) : wpList P ops Q (o :: rest) a w := by
  refine wpList_plain hgd fun K hK => ?_
  unfold Oper.wp execOp
  have hs : (storeVar ty ⟨g, j, none⟩ (.bool n)).run P w = .ok () (w.setCell ⟨g, j, none⟩ (.bool n)) := by
    cases hq : P.info? ty with
    | none => simp [hq] at hi
    | some i =>
      have hs : i.size = 1 := by simpa [hq] using hi
      have hadd : (⟨g, j, none⟩ : Addr).add 0 = ⟨g, j, none⟩ := by unfold Addr.add; split <;> simp_all
      have hst : (store ⟨g, j, none⟩ (.bool n) .plain).run P w = .ok () (w.setCell ⟨g, j, none⟩ (.bool n)) := by
        rw [run_store P w _ _ _ rfl, hc, hf]; rfl
      simp [storeVar, sizeOf, typeInfo, hq, hs, Value.cells, storeCells, hadd, hst]
  simp only [ho, hx, hy, Instr.storeAt, Instr.sureAddr, Sem.run_bind, Sem.run_pure, Result.andThen_ok, hs]
  exact hK _ _ h
/-- A field of what is wanted laid anew. -/
theorem wpList_put_w {w0 : World} {b : Nat} {k : Wnt} {L : List (Nat × Array Value × TypeId)} {ops : Array Oper} {rest : List Oper} {o : Oper} {a : Act} {w : World} {Q : Exit → Act → World → Prop} (hgd : o.guard = none) (ty : TypeId) (x y : Operand) (ho : o.op = .store ty x y)
    (H : Has w0 ((b, k.cells, 30) :: L) w) (hL : ∀ p ∈ L, p.1 ≠ b) (j : Nat) (K : IntKind) (n : Int) (hx : a.eval x = .pointer (some ⟨b, j, none⟩)) (hy : a.eval y = .int K n) (old : Value) (hold : k.cells[j]? = some old) (hi : (Tryz.prog.info? ty).map (·.size) = some 1)
    (k' : Wnt) (hk : k.cells.setIfInBounds j (.int K n) = k'.cells)
    (h : ∀ w2, Has w0 ((b, k'.cells, 30) :: L) w2 → (∀ g q, g ≠ b → w.heap[g]? = some q → w2.heap[g]? = some q) → wpList Tryz.prog ops Q rest (a.put o.dst undef) w2) : wpList Tryz.prog ops Q (o :: rest) a w := by
  refine wpList_store_int hgd ty x y ho b j K n hx hy old (H.at List.mem_cons_self j old hold) (frozen_of_row _ _ _ _ _ (H.get List.mem_cons_self)) hi (h _ ?_ ?_)
  · have := H.setAt hL j (.int K n)
    rwa [hk] at this
  · intro g q hg hq
    rw [heap_setCell_other _ _ _ _ hg]
    exact hq
theorem wpList_putB_w {w0 : World} {b : Nat} {k : Wnt} {L : List (Nat × Array Value × TypeId)} {ops : Array Oper} {rest : List Oper} {o : Oper} {a : Act} {w : World} {Q : Exit → Act → World → Prop} (hgd : o.guard = none) (ty : TypeId) (x y : Operand) (ho : o.op = .store ty x y)
    (H : Has w0 ((b, k.cells, 30) :: L) w) (hL : ∀ p ∈ L, p.1 ≠ b) (j : Nat) (n : Bool) (hx : a.eval x = .pointer (some ⟨b, j, none⟩)) (hy : a.eval y = .bool n) (old : Value) (hold : k.cells[j]? = some old) (hi : (Tryz.prog.info? ty).map (·.size) = some 1)
    (k' : Wnt) (hk : k.cells.setIfInBounds j (.bool n) = k'.cells)
    (h : ∀ w2, Has w0 ((b, k'.cells, 30) :: L) w2 → (∀ g q, g ≠ b → w.heap[g]? = some q → w2.heap[g]? = some q) → wpList Tryz.prog ops Q rest (a.put o.dst undef) w2) : wpList Tryz.prog ops Q (o :: rest) a w := by
  refine wpList_store_bool hgd ty x y ho b j n hx hy old (H.at List.mem_cons_self j old hold) (frozen_of_row _ _ _ _ _ (H.get List.mem_cons_self)) hi (h _ ?_ ?_)
  · have := H.setAt hL j (.bool n)
    rwa [hk] at this
  · intro g q hg hq
    rw [heap_setCell_other _ _ _ _ hg]
    exact hq
theorem size22 : (Tryz.prog.info? 22).map (·.size) = some 1 := by kernel_rfl
theorem size3 : (Tryz.prog.info? 3).map (·.size) = some 1 := by kernel_rfl
theorem size4 : (Tryz.prog.info? 4).map (·.size) = some 1 := by kernel_rfl
theorem stwo_start (w : World) (A B : Array Value) (t u : TypeId) : Has w [(w.heap.size + 1, B, u), (w.heap.size, A, t)] ((w.alloc (.cells A t)).alloc (.cells B u)) := by
  have H := ((has_none w).new t A).new u B
  rwa [show (w.alloc (.cells A t)).heap.size = w.heap.size + 1 from Array.size_push ..] at H
end Go.Proofs.YtbjcdpmhmebjnaaGreat
