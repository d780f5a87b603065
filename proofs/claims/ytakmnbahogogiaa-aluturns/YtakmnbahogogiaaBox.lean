/- Worlds that hold some blocks of a call's own; four flags in a block, read, laid and held against each other. -/
import Derived.Test.YtakmnbahogogiaaAlu
import Derived.Laws.StructEq
import Derived.Deep.RegionWith
import Derived.Deep.CutRange
import Derived.ChangeKeysEq
namespace Go.Proofs.Ytakmnbahogogiaa
open Go.RowKit

structure Has (w0 : World) (L : List (Nat × Array Value × TypeId)) (w : World) : Prop where
  below : Below w0.heap.size w0 w
  box : ∀ p ∈ L, w0.heap.size ≤ p.1 ∧ w.heap[p.1]? = some (.cells p.2.1 p.2.2)
theorem has_none (w : World) : Has w [] w := ⟨Below.refl _ _, fun _ h => by cases h⟩
theorem Has.grow {w0 w w' : World} {L : List (Nat × Array Value × TypeId)} (h : Has w0 L w) (hb : Below w.heap.size w w') : Has w0 L w' := by
  refine ⟨below_then h.below hb, fun p hp => ?_⟩
  obtain ⟨h1, h2⟩ := h.box p hp
  exact ⟨h1, by rw [hb.block _ (Array.getElem?_eq_some_iff.1 h2).1]; exact h2⟩
theorem Has.new {w0 w : World} {L : List (Nat × Array Value × TypeId)} (h : Has w0 L w) (t : TypeId) (Z : Array Value) : Has w0 ((w.heap.size, Z, t) :: L) (w.alloc (.cells Z t)) := by
  refine ⟨below_then h.below (below_alloc _ _), fun p hp => ?_⟩
  rcases List.mem_cons.1 hp with rfl | hp
  · exact ⟨h.below.size, heap_alloc_new _ _⟩
  · obtain ⟨h1, h2⟩ := h.box p hp
    have := (Array.getElem?_eq_some_iff.1 h2).1
    exact ⟨h1, by rw [Below.heap_alloc _ _ _ this]; exact h2⟩
theorem Has.add {w0 w : World} {L : List (Nat × Array Value × TypeId)} (h : Has w0 L w) (t : TypeId) (d Z : Array Value) : Has w0 ((w.heap.size, d, t) :: L) ((w.alloc (.cells Z t)).setRow w.heap.size d) := by
  refine ⟨below_setRow (below_then h.below (below_alloc _ _)) h.below.size, fun p hp => ?_⟩
  rcases List.mem_cons.1 hp with rfl | hp
  · exact ⟨h.below.size, setRow_heap _ _ _ _ _ _ (heap_alloc_new _ _)⟩
  · obtain ⟨h1, h2⟩ := h.box p hp
    have := (Array.getElem?_eq_some_iff.1 h2).1
    exact ⟨h1, by rw [setRow_other _ _ _ _ (by omega), Below.heap_alloc _ _ _ this]; exact h2⟩
/-- The block that was laid last, laid anew. -/
theorem Has.over {w0 w : World} {L : List (Nat × Array Value × TypeId)} {b : Nat} {t : TypeId} {d Z : Array Value} (h : Has w0 ((b, Z, t) :: L) w) (hL : ∀ p ∈ L, p.1 ≠ b) : Has w0 ((b, d, t) :: L) (w.setRow b d) := by
  obtain ⟨h1, h2⟩ := h.box (b, Z, t) List.mem_cons_self
  refine ⟨below_setRow h.below h1, fun p hp => ?_⟩
  rcases List.mem_cons.1 hp with rfl | hp
  · exact ⟨h1, setRow_heap _ _ _ _ _ _ h2⟩
  · obtain ⟨h3, h4⟩ := h.box p (List.mem_cons_of_mem _ hp)
    exact ⟨h3, by rw [setRow_other _ _ _ _ (hL p hp)]; exact h4⟩
theorem Has.get {w0 w : World} {L : List (Nat × Array Value × TypeId)} (h : Has w0 L w) {b : Nat} {t : TypeId} {c : Array Value} (hp : (b, c, t) ∈ L) : w.heap[b]? = some (.cells c t) := (h.box _ hp).2
theorem Has.at {w0 w : World} {L : List (Nat × Array Value × TypeId)} (h : Has w0 L w) {b : Nat} {t : TypeId} {c : Array Value} (hp : (b, c, t) ∈ L) (k : Nat) (v : Value) (hv : c[k]? = some v) : w.cell? ⟨b, k, none⟩ = some v := by
  rw [cell_of_row _ _ _ _ _ _ (h.get hp), hv]
theorem wpList_load_if {P : Program} {ops : Array Oper} {rest : List Oper} {o : Oper} {a : Act} {w : World} {Q : Exit → Act → World → Prop} (hw : Region.wanted o (yielded ops a.tmps) = true) (ty : TypeId) (x : Operand) (ho : o.op = .load ty x)
    (g : Nat) (hx : a.eval x = .pointer (some ⟨g, 0, none⟩)) (t : TypeId) (cs : Array Value) (fr : Nat × Nat) (d : TypeDesc) (hg : w.heap[g]? = some (.cells cs t fr))
    (hu : P.underlying ty = some d) (hd : (match d with | .struct _ | .array _ _ => true | _ => false) = true) (hi : (P.info? ty).map (·.size) = some cs.size)
    (h : wpList P ops Q rest (a.put o.dst (.agg cs)) w) : wpList P ops Q (o :: rest) a w :=
  BigFrame.wpList_want hw fun _ hK => wp_load_row ty x ho g hx t cs fr d hg hu hd hi (hK _ _ h)
/-- One cell read. -/
theorem wpList_load_cell {ops : Array Oper} {rest : List Oper} {o : Oper} {a : Act} {w : World} {Q : Exit → Act → World → Prop} (hw : Region.wanted o (yielded ops a.tmps) = true) (ty : TypeId) (x : Operand) (ho : o.op = .load ty x)
    (g j : Nat) (hx : a.eval x = .pointer (some ⟨g, j, none⟩)) (v : Value) (hc : w.cell? ⟨g, j, none⟩ = some v) (ha : (isAgg ty).run Try.prog w = .ok false w)
    (h : wpList Try.prog ops Q rest (a.put o.dst v) w) : wpList Try.prog ops Q (o :: rest) a w := by
  refine BigFrame.wpList_want hw fun K hK => ?_
  unfold Oper.wp execOp
  have hl : (loadVar ty ⟨g, j, none⟩).run Try.prog w = .ok v w := by
    go_simp
  simp only [ho, hx, Instr.loadAt, Instr.sureAddr, Sem.run_bind, Sem.run_pure, Result.andThen_ok, hl]
  exact hK _ _ h
theorem agg4 (w : World) : (isAgg 4).run Try.prog w = .ok false w := by simp [isAgg, run_underlying Try.underlying4]
theorem agg3 (w : World) : (isAgg 3).run Try.prog w = .ok false w := by simp [isAgg, run_underlying Try.underlying3]
theorem agg47 (w : World) : (isAgg 47).run Try.prog w = .ok false w := by simp [isAgg, run_underlying Try.underlying47]
/-- A new variable of the call's own, behind the store of a whole row into it. -/
theorem wpList_store_new {w0 : World} {L : List (Nat × Array Value × TypeId)} {ops : Array Oper} {rest : List Oper} {o : Oper} {a : Act} {w : World} {Z : Array Value} {Q : Exit → Act → World → Prop} (H : Has w0 L w) (hgd : o.guard = none) (t : TypeId) (x y : Operand) (ho : o.op = .store t x y)
    (d : Array Value) (hx : a.eval x = .pointer (some ⟨w.heap.size, 0, none⟩)) (hy : a.eval y = .agg d) (hi : (Try.prog.info? t).map (·.size) = some d.size) (hZ : Z.size = d.size) (h1 : d.all (·.oneCell') = true)
    (h : ∀ w2, Has w0 ((w.heap.size, d, t) :: L) w2 → wpList Try.prog ops Q rest (a.put o.dst undef) w2) : wpList Try.prog ops Q (o :: rest) a (w.alloc (.cells Z t)) :=
  wpList_store_row hgd t x y ho _ _ hx hy t _ (heap_alloc_new _ _) hi hZ h1 (h _ (H.add t d Z))
/-- A variable that was laid last, behind the store of a whole row into it. -/
theorem wpList_store_over {w0 : World} {L : List (Nat × Array Value × TypeId)} {ops : Array Oper} {rest : List Oper} {o : Oper} {a : Act} {w : World} {b : Nat} {Z : Array Value} {Q : Exit → Act → World → Prop} (hgd : o.guard = none) (t : TypeId) (H : Has w0 ((b, Z, t) :: L) w) (hL : ∀ p ∈ L, p.1 ≠ b) (x y : Operand) (ho : o.op = .store t x y)
    (d : Array Value) (hx : a.eval x = .pointer (some ⟨b, 0, none⟩)) (hy : a.eval y = .agg d) (hi : (Try.prog.info? t).map (·.size) = some d.size) (hZ : Z.size = d.size) (h1 : d.all (·.oneCell') = true)
    (h : ∀ w2, Has w0 ((b, d, t) :: L) w2 → wpList Try.prog ops Q rest (a.put o.dst undef) w2) : wpList Try.prog ops Q (o :: rest) a w :=
  wpList_store_row hgd t x y ho _ _ hx hy t _ (H.get List.mem_cons_self) hi hZ h1 (h _ (H.over hL))

structure Flg where
  n : Bool
  z : Bool
  c : Bool
  v : Bool
abbrev Flg.cells (f : Flg) : Array Value := #[.bool f.n, .bool f.z, .bool f.c, .bool f.v]
abbrev Flg.val (f : Flg) : Value := .agg f.cells
@[go_sem] theorem Flg.a0 (f : Flg) : f.cells[0]? = some (.bool f.n) := rfl
@[go_sem] theorem Flg.a1 (f : Flg) : f.cells[1]? = some (.bool f.z) := rfl
@[go_sem] theorem Flg.a2 (f : Flg) : f.cells[2]? = some (.bool f.c) := rfl
@[go_sem] theorem Flg.a3 (f : Flg) : f.cells[3]? = some (.bool f.v) := rfl
theorem Flg.one (f : Flg) : f.cells.all (·.oneCell') = true := by simp [Flg.cells, Value.oneCell']
theorem Flg.info (f : Flg) : (Try.prog.info? 31).map (·.size) = some f.cells.size := by
  show (Try.prog.info? 31).map (·.size) = some 4
  kernel_rfl
theorem Flg.infoA (f : Flg) : (Try.prog.info? 34).map (·.size) = some f.cells.size := by
  show (Try.prog.info? 34).map (·.size) = some 4
  kernel_rfl
theorem four31 (a b c d : Value) : (Try.prog.info? 31).map (·.size) = some (#[a, b, c, d] : Array Value).size := by
  show (Try.prog.info? 31).map (·.size) = some 4
  kernel_rfl
theorem four34 (a b c d : Value) : (Try.prog.info? 34).map (·.size) = some (#[a, b, c, d] : Array Value).size := by
  show (Try.prog.info? 34).map (·.size) = some 4
  kernel_rfl
theorem wpList_over31 {w0 : World} {L : List (Nat × Array Value × TypeId)} {ops : Array Oper} {rest : List Oper} {o : Oper} {a : Act} {w : World} {b : Nat} {z1 z2 z3 z4 : Value} {Q : Exit → Act → World → Prop} (hgd : o.guard = none) (H : Has w0 ((b, #[z1, z2, z3, z4], 31) :: L) w) (hL : ∀ p ∈ L, p.1 ≠ b) (x y : Operand) (ho : o.op = .store 31 x y)
    (f1 f2 f3 f4 : Bool) (hx : a.eval x = .pointer (some ⟨b, 0, none⟩)) (hy : a.eval y = .agg #[.bool f1, .bool f2, .bool f3, .bool f4])
    (h : ∀ w2, Has w0 ((b, #[.bool f1, .bool f2, .bool f3, .bool f4], 31) :: L) w2 → wpList Try.prog ops Q rest (a.put o.dst undef) w2) : wpList Try.prog ops Q (o :: rest) a w :=
  wpList_store_over hgd 31 H hL x y ho _ hx hy (four31 _ _ _ _) rfl (Flg.one ⟨f1, f2, f3, f4⟩) h
theorem wpList_over34 {w0 : World} {L : List (Nat × Array Value × TypeId)} {ops : Array Oper} {rest : List Oper} {o : Oper} {a : Act} {w : World} {b : Nat} {z1 z2 z3 z4 : Value} {Q : Exit → Act → World → Prop} (hgd : o.guard = none) (H : Has w0 ((b, #[z1, z2, z3, z4], 34) :: L) w) (hL : ∀ p ∈ L, p.1 ≠ b) (x y : Operand) (ho : o.op = .store 34 x y)
    (f1 f2 f3 f4 : Bool) (hx : a.eval x = .pointer (some ⟨b, 0, none⟩)) (hy : a.eval y = .agg #[.bool f1, .bool f2, .bool f3, .bool f4])
    (h : ∀ w2, Has w0 ((b, #[.bool f1, .bool f2, .bool f3, .bool f4], 34) :: L) w2 → wpList Try.prog ops Q rest (a.put o.dst undef) w2) : wpList Try.prog ops Q (o :: rest) a w :=
  wpList_store_over hgd 34 H hL x y ho _ hx hy (four34 _ _ _ _) rfl (Flg.one ⟨f1, f2, f3, f4⟩) h
theorem wpList_new31 {w0 : World} {L : List (Nat × Array Value × TypeId)} {ops : Array Oper} {rest : List Oper} {o : Oper} {a : Act} {w : World} {z1 z2 z3 z4 : Value} {Q : Exit → Act → World → Prop} (H : Has w0 L w) (hgd : o.guard = none) (x y : Operand) (ho : o.op = .store 31 x y)
    (f : Flg) (hx : a.eval x = .pointer (some ⟨w.heap.size, 0, none⟩)) (hy : a.eval y = f.val)
    (h : ∀ w2, Has w0 ((w.heap.size, f.cells, 31) :: L) w2 → wpList Try.prog ops Q rest (a.put o.dst undef) w2) : wpList Try.prog ops Q (o :: rest) a (w.alloc (.cells #[z1, z2, z3, z4] 31)) :=
  wpList_store_new H hgd 31 x y ho _ hx hy (four31 _ _ _ _) rfl (Flg.one f) h
theorem wpList_new34 {w0 : World} {L : List (Nat × Array Value × TypeId)} {ops : Array Oper} {rest : List Oper} {o : Oper} {a : Act} {w : World} {z1 z2 z3 z4 : Value} {Q : Exit → Act → World → Prop} (H : Has w0 L w) (hgd : o.guard = none) (x y : Operand) (ho : o.op = .store 34 x y)
    (f : Flg) (hx : a.eval x = .pointer (some ⟨w.heap.size, 0, none⟩)) (hy : a.eval y = f.val)
    (h : ∀ w2, Has w0 ((w.heap.size, f.cells, 34) :: L) w2 → wpList Try.prog ops Q rest (a.put o.dst undef) w2) : wpList Try.prog ops Q (o :: rest) a (w.alloc (.cells #[z1, z2, z3, z4] 34)) :=
  wpList_store_new H hgd 34 x y ho _ hx hy (four34 _ _ _ _) rfl (Flg.one f) h
/-- What a function gives back whose first result is a slot and whose second is four flags, laid in a variable. -/
theorem back_flg {fn : Func} {p u : Tmp} {ty : TypeId} (ht : ty = 31 ∨ ty = 34) (h : fn.results = #[.tmp u, .cell p ty]) (tmps : Array Value) (w : World) (g : Nat) (f : Flg)
    (hp : tmps.getD p undef = .pointer (some ⟨g, 0, none⟩)) (hg : w.heap[g]? = some (.cells f.cells ty)) :
    (results fn tmps).run Try.prog w = .ok (.tuple #[tmps.getD u undef, f.val]) w := by
  have hl : (loadVar ty ⟨g, 0, none⟩).run Try.prog w = .ok f.val w := by
    rcases ht with rfl | rfl
    · exact run_loadVar_row w g 31 31 f.cells (0, 0) _ hg Try.underlying31 rfl (four31 _ _ _ _)
    · exact run_loadVar_row w g 34 34 f.cells (0, 0) _ hg Try.underlying34 rfl (four34 _ _ _ _)
  have hp' : tmps[p]?.getD undef = .pointer (some ⟨g, 0, none⟩) := by simpa using hp
  simp [results, h, hp', asAddr, hl]
def eqF (f g : Flg) : Bool := f.n == g.n && (f.z == g.z && (f.c == g.c && f.v == g.v))
theorem eqF_refl (f : Flg) : eqF f f = true := by simp [eqF]
theorem fields31 : Try.prog.underlying 31 = some (.struct (Try.prog.fieldsOf 31)) := by rw [Program.fieldsOf, Try.underlying31]
theorem guard31 : Try.prog.eqGuardType Try.prog.depth 31 = false := by kernel_rfl
theorem stood31 : Try.prog.stoodInHeld 31 = false := by kernel_rfl
theorem eqField {d : Nat} {xs ys : Array Value} {f : Field} {fs : List Field} {r s : Bool} (w : World) (hn : f.name ≠ "_")
    (h : ((part f.type xs f.offset).run Try.prog w).andThen (fun a w1 => ((part f.type ys f.offset).run Try.prog w1).andThen fun b w2 => (Op.equalIn d f.type a b).run Try.prog w2) = .ok r w)
    (hs : (Op.eqFields d xs ys fs).run Try.prog w = .ok s w) : (Op.eqFields d xs ys (f :: fs)).run Try.prog w = .ok (r && s) w := by
  simp only [Op.eqFields, if_pos hn, Sem.run_bind]
  generalize (part f.type xs f.offset).run Try.prog w = r1 at h ⊢
  cases r1 with
  | ok a w1 =>
    simp only [Result.andThen_ok] at h ⊢
    generalize (part f.type ys f.offset).run Try.prog w1 = r2 at h ⊢
    cases r2 with
    | ok b w2 =>
      simp only [Result.andThen_ok] at h ⊢
      rw [h]
      cases r
      · simp
      · simpa using hs
    | halt x w2 => simp [Result.andThen] at h
  | halt x w1 => simp [Result.andThen] at h
theorem part_b (xs : Array Value) (k : Nat) (v : Value) (w : World) (h : xs[k]? = some v) : (part 4 xs k).run Try.prog w = .ok v w := by
  simp [part, isAgg, run_underlying Try.underlying4, h]
theorem flg_eq (f g : Flg) (w : World) : (Op.equalIn 10000 31 f.val g.val).run Try.prog w = .ok (eqF f g) w := by
  rw [run_equalIn_agg w 9999 31 _ _ fields31 stood31]
  rw [show (Try.prog.fieldsOf 31).toList = [⟨"N", 4, 0, false, "", "", 0⟩, ⟨"Z", 4, 1, false, "", "", 1⟩, ⟨"C", 4, 2, false, "", "", 2⟩, ⟨"V", 4, 3, false, "", "", 3⟩] by kernel_rfl]
  have e : eqF f g = (f.n == g.n && (f.z == g.z && (f.c == g.c && (f.v == g.v && true)))) := by simp [eqF]
  rw [e]
  refine eqField (r := f.n == g.n) w (by decide) ?_ (eqField (r := f.z == g.z) w (by decide) ?_ (eqField (r := f.c == g.c) w (by decide) ?_ (eqField (r := f.v == g.v) w (by decide) ?_ ?_)))
  · simp only [part_b _ _ _ _ f.a0, part_b _ _ _ _ g.a0, Result.andThen_ok, run_equalIn_bool' w 9998 4 _ _ Try.underlying4]
  · simp only [part_b _ _ _ _ f.a1, part_b _ _ _ _ g.a1, Result.andThen_ok, run_equalIn_bool' w 9998 4 _ _ Try.underlying4]
  · simp only [part_b _ _ _ _ f.a2, part_b _ _ _ _ g.a2, Result.andThen_ok, run_equalIn_bool' w 9998 4 _ _ Try.underlying4]
  · simp only [part_b _ _ _ _ f.a3, part_b _ _ _ _ g.a3, Result.andThen_ok, run_equalIn_bool' w 9998 4 _ _ Try.underlying4]
  · simp [Op.eqFields]
theorem wpList_eql_flg {ops : Array Oper} {rest : List Oper} {o : Oper} {a : Act} {w : World} {Q : Exit → Act → World → Prop} (hw : Region.wanted o (yielded ops a.tmps) = true) (x y : Operand) (ho : o.op = .binOp .eql 31 x y 31)
    (c d : Flg) (hx : a.eval x = .agg c.cells) (hy : a.eval y = .agg d.cells) (b : Bool) (hb : eqF c d = b) (h : wpList Try.prog ops Q rest (a.put o.dst (.bool b)) w) : wpList Try.prog ops Q (o :: rest) a w := by
  refine BigFrame.wpList_want hw fun K hK => ?_
  have he := flg_eq c d w
  rw [hb] at he
  unfold Oper.wp execOp
  simp only [ho, hx, hy, Sem.run_bind, run_eqGuard_agg w _ _ _ _ _ _ guard31, Result.andThen_ok, run_eql_struct, he]
  exact hK _ _ h
theorem wpList_neq_flg {ops : Array Oper} {rest : List Oper} {o : Oper} {a : Act} {w : World} {Q : Exit → Act → World → Prop} (hw : Region.wanted o (yielded ops a.tmps) = true) (x y : Operand) (ho : o.op = .binOp .neq 31 x y 31)
    (c d : Flg) (hx : a.eval x = .agg c.cells) (hy : a.eval y = .agg d.cells) (b : Bool) (hb : eqF c d = b) (h : wpList Try.prog ops Q rest (a.put o.dst (.bool (!b))) w) : wpList Try.prog ops Q (o :: rest) a w := by
  refine BigFrame.wpList_want hw fun K hK => ?_
  have he := flg_eq c d w
  rw [hb] at he
  unfold Oper.wp execOp
  simp only [ho, hx, hy, Sem.run_bind, run_eqGuard_agg w _ _ _ _ _ _ guard31, Result.andThen_ok, run_neq_struct, he]
  exact hK _ _ h
theorem wpList_builtG {P : Program} {ops : Array Oper} {rest : List Oper} {o : Oper} {a : Act} {w : World} {Q : Exit → Act → World → Prop} (hw : Region.wanted o (yielded ops a.tmps) = true) (t : TypeId) (parts : Array (Nat × Operand)) (ho : o.op = .build t parts)
    (cs : Array Value) (hf : P.built t (parts.map fun (i, x) => (i, a.eval x)).toList = some cs)
    (h : wpList P ops Q rest (a.put o.dst (.agg cs)) w) : wpList P ops Q (o :: rest) a w :=
  BigFrame.wpList_want hw fun _ hK => wp_build t parts ho (by rw [hf]; rfl) (by rw [hf]; exact hK _ _ h)
theorem built31 (n z c v : Bool) : Try.prog.built 31 [(0, .bool n), (1, .bool z), (2, .bool c), (3, .bool v)] = some (Flg.cells ⟨n, z, c, v⟩) := by kernel_rfl
theorem built34 (n z c v : Bool) : Try.prog.built 34 [(0, .bool n), (1, .bool z), (2, .bool c), (3, .bool v)] = some (Flg.cells ⟨n, z, c, v⟩) := by kernel_rfl
end Go.Proofs.Ytakmnbahogogiaa
