/- Eb, Ec of the seat, joined. -/
import Derived.Test.YtccmncecpmemaaaGreatDoorXj
/- What the example asks, plainly and call by call. -/
namespace Go.Proofs.YtccmncecpmemaaaGreatDoor
open Go.RowKit
set_option linter.unusedVariables false
set_option linter.unusedSimpArgs false
set_option maxRecDepth 8000

def exC0 : Cor := { nilC with el := 1 }
def exC : Cor := { nilC with el := 1, x := nilC.x.set 1 8 }
def exS1 : Rn := nextV exL (newS 7 exC)
def exS2 : Rn := takeV 7 exS1 ⟨5, false, 0⟩
def exS3 : Rn := nextV exL exS2
def exT2 : Rn := takeV 7 exS1 ⟨0, false, 1⟩
def exT3 : Rn := nextV exL exT2
theorem e1w : exS1.w = ⟨1, 8, 0, 0, false, 0, false, 0, 0, 0⟩ := by kernel_rfl
theorem e1g : exS1.go = 1 := by kernel_rfl
theorem e1n : exS1.next = 5 := by kernel_rfl
theorem e2n : exS2.next = 5 := by kernel_rfl
theorem t2n : exT2.next = 7 := by kernel_rfl
theorem e3w : exS3.w = nilW := by kernel_rfl
theorem e3g : exS3.go = 0 := by kernel_rfl
theorem t3w : exT3.w = nilW := by kernel_rfl
theorem t3g : exT3.go = 0 := by kernel_rfl
theorem e3f : exS3.flt = false := by kernel_rfl
theorem t3f : exT3.flt = true := by kernel_rfl
theorem e3p : exS3.c.pc = 68 := by kernel_rfl
theorem t3p : exT3.c.pc = 64 := by kernel_rfl
theorem e3x : exS3.c.x[0] = 5 := by kernel_rfl
theorem ex_right : rightB 64 1 1 exL = true := by kernel_rfl
theorem ex_newE : newE 64 1 1 exL exC = 0 := by kernel_rfl
theorem ex_len : exL.length = 7 := rfl
theorem ex_immu (k : Nat) : U64 (opAt exL k).imm := by
  match k with
  | 0 => exact ⟨by decide, by decide⟩
  | 1 => exact ⟨by decide, by decide⟩
  | 2 => exact ⟨by decide, by decide⟩
  | 3 => exact ⟨by decide, by decide⟩
  | 4 => exact ⟨by decide, by decide⟩
  | 5 => exact ⟨by decide, by decide⟩
  | 6 => exact ⟨by decide, by decide⟩
  | k + 7 => exact ⟨by show (0 : Int) ≤ 0; decide, by show (0 : Int) < _; decide⟩
theorem ex_imm (k : Nat) : 0 ≤ (opAt exL k).imm := (ex_immu k).1
theorem ex_fit : ∀ k, k < exL.length → OpFit exL (opAt exL k) := fit_of (by have := ex_right; unfold rightB at this; rw [Bool.and_eq_true] at this; exact this.2) ex_immu
theorem ex_ok : CorOk exC := ⟨fun i hi => by
  show U64 ((nilC.x.set 1 8)[i])
  rw [Vector.getElem_set]
  split
  · exact ⟨by decide, by decide⟩
  · show U64 ((Vector.replicate 31 (0 : Int))[i])
    rw [Vector.getElem_replicate]; exact ⟨by decide, by decide⟩, ⟨by decide, by decide⟩, ⟨by decide, by decide⟩⟩
theorem sl_cap (b : Nat) : ∀ ao n cap, Value.slice (some ⟨b, 0, none⟩) 7 7 = .slice ao n cap → n ≤ cap := fun _ _ _ e => by cases e; exact Nat.le_refl _
/-- New of the example. -/
theorem exNew_c {w : World} {b : Nat} (hb : w.heap[b]? = some (.cells exA 27)) : Calls Tryz.prog 18 #[blV 64 1 1 (.slice (some ⟨b, 0, none⟩) 7 7), exC.val] w fun e w' => ∃ p, e = .returned (.tuple #[p, vI 0]) ∧ Fresh exL (newS 7 exC) w.heap.size p w' ∧ Below w.heap.size w w' := by
  refine (new_c (words := 1) (el := 1) (by decide) (ex_ops hb) ex_imm (sl_cap b) ex_ok).mono ?_
  rintro e w' ⟨hB, ⟨hn, _⟩ | ⟨_, u, rfl, F⟩⟩
  · exact absurd ex_newE hn
  · exact ⟨u, rfl, F, hB⟩
theorem nil_ops (w : World) : Ops w (.slice none 0 0) [] := ⟨⟨none, 0, rfl⟩, Nat.zero_le _, fun h => by simp at h⟩
theorem exNone_c (w : World) : Calls Tryz.prog 18 #[blV 0 0 0 (.slice none 0 0), exC.val] w fun e w' => e = .returned (.tuple #[.pointer none, vI 4]) ∧ Below w.heap.size w w' := by
  refine (new_c (words := 0) (el := 0) (by decide) (nil_ops w) (fun k => by unfold opAt; simp [nilO]) (fun _ _ _ e => by cases e; exact Nat.le_refl _) ex_ok).mono ?_
  have e4 : newE 0 0 0 [] exC = 4 := by kernel_rfl
  rintro e w' ⟨hB, ⟨_, h⟩ | ⟨h, _⟩⟩
  · rw [e4] at h; exact ⟨h, hB⟩
  · rw [e4] at h; exact absurd h (by decide)
/-- Two runs of one block, apart. -/
structure Two (l : List Opr) (g1 vb1 : Nat) (so1 : Value) (g2 vb2 : Nat) (so2 : Value) (S T : Rn) (x : World) : Prop where
  r1 : RunAt l g1 vb1 so1 S x
  r2 : RunAt l g2 vb2 so2 T x
  gg : g1 ≠ g2
  vv : vb1 ≠ vb2
  o1 : ∀ k, so1.ownBlock = some k → k ≠ g2 ∧ k ≠ vb2
  o2 : ∀ k, so2.ownBlock = some k → k ≠ g1 ∧ k ≠ vb1
section
variable {l : List Opr} {g1 vb1 : Nat} {so1 : Value} {g2 vb2 : Nat} {so2 : Value} {S T : Rn} {x y : World}
theorem RunAt.apart {l m : List Opr} (h1 : RunAt l g1 vb1 so1 S x) (h2 : RunAt m g2 vb2 so2 T x) : g1 ≠ vb2 := ne_of_type h1.top h2.vals (by decide)
theorem Two.grow (h : Two l g1 vb1 so1 g2 vb2 so2 S T x) (hb : Below x.heap.size x y) : Two l g1 vb1 so1 g2 vb2 so2 S T y := ⟨h.r1.grow hb, h.r2.grow hb, h.gg, h.vv, h.o1, h.o2⟩
theorem Two.one {S' : Rn} (h : Two l g1 vb1 so1 g2 vb2 so2 S T x) (R : RT l g1 vb1 so1 S' x y) : Two l g1 vb1 so1 g2 vb2 so2 S' T y :=
  ⟨R.1, h.r2.keep (R.2.block _ h.r2.lt (fun e => e.elim (Ne.symm h.gg) (h.r2.apart h.r1))) (R.2.block _ h.r2.ltv (fun e => e.elim (Ne.symm (h.r1.apart h.r2)) (Ne.symm h.vv))) (fun k hk => R.2.block _ (h.r2.ob hk).1 (fun e => e.elim (h.o2 k hk).1 (h.o2 k hk).2)), h.gg, h.vv, h.o1, h.o2⟩
theorem Two.two {T' : Rn} (h : Two l g1 vb1 so1 g2 vb2 so2 S T x) (R : RT l g2 vb2 so2 T' x y) : Two l g1 vb1 so1 g2 vb2 so2 S T' y :=
  ⟨h.r1.keep (R.2.block _ h.r1.lt (fun e => e.elim h.gg (h.r1.apart h.r2))) (R.2.block _ h.r1.ltv (fun e => e.elim (Ne.symm (h.r2.apart h.r1)) h.vv)) (fun k hk => R.2.block _ (h.r1.ob hk).1 (fun e => e.elim (h.o1 k hk).1 (h.o1 k hk).2)), R.1, h.gg, h.vv, h.o1, h.o2⟩
end
/-- Calls that turn a run turn nothing that was there before it. -/
theorem RT.low {l : List Opr} {g vb : Nat} {so : Value} {S : Rn} {x y w : World} (R : RT l g vb so S x y) (hb : Below w.heap.size w x) (h1 : w.heap.size ≤ g) (h2 : w.heap.size ≤ vb) : Below w.heap.size w y :=
  hb.trans (R.2.below hb.size (fun k hk => by rcases hk with rfl | rfl <;> assumption))
/-- The digits of the example's numbers. -/
def exI (n : Int) : ByteArray := if n = 0 then ⟨#[48]⟩ else if n = 1 then ⟨#[49]⟩ else if n = 2 then ⟨#[50]⟩ else if n = 3 then ⟨#[51]⟩ else if n = 4 then ⟨#[52]⟩ else if n = 5 then ⟨#[53]⟩ else ⟨#[54]⟩
def exU (n : Int) : ByteArray := if n = 64 then ⟨#[54, 52]⟩ else if n = 68 then ⟨#[54, 56]⟩ else ⟨#[48]⟩
theorem exI_size (n : Int) : (exI n).size ≤ 32 := by unfold exI; repeat (first | decide | (split; decide))
theorem exU_size (n : Int) : (exU n).size ≤ 32 := by unfold exU; repeat (first | decide | (split; decide))
theorem exI_c (n : Int) (h0 : 0 ≤ n) (h1 : n ≤ 6) (w : World) : Calls Tryz.prog 30 #[vI n] w fun e w' => e = .returned (.string (exI n)) ∧ Below w.heap.size w w' := by
  have m : ∀ {s : ByteArray}, (Calls Tryz.prog 30 #[vI n] w fun e w' => e = .returned (.string s) ∧ w' = w) → exI n = s → Calls Tryz.prog 30 #[vI n] w fun e w' => e = .returned (.string (exI n)) ∧ Below w.heap.size w w' := fun h e => h.mono (fun e w' hh => by obtain ⟨h1, h2⟩ := hh; subst h2; exact ⟨by rw [h1, ‹exI n = _›], Below.refl _ _⟩)
  rcases (by omega : n = 0 ∨ n = 1 ∨ n = 2 ∨ n = 3 ∨ n = 4 ∨ n = 5 ∨ n = 6) with rfl | rfl | rfl | rfl | rfl | rfl | rfl
  · exact m (itoa_0 w) rfl
  · exact m (itoa_1 w) rfl
  · exact m (itoa_2 w) rfl
  · exact m (itoa_3 w) rfl
  · exact m (itoa_4 w) rfl
  · exact m (itoa_5 w) rfl
  · exact m (itoa_6 w) rfl
theorem exU_c (n : Int) (h : n = 0 ∨ n = 64 ∨ n = 68) (w : World) : Calls Tryz.prog 55 #[vU n, vI 10] w fun e w' => e = .returned (.string (exU n)) ∧ Below w.heap.size w w' := by
  rcases h with rfl | rfl | rfl
  · exact (uint_0 w).mono fun e w' hh => by obtain ⟨h1, h2⟩ := hh; subst h2; exact ⟨h1, Below.refl _ _⟩
  · exact (uint_64 w).mono fun e w' hh => by obtain ⟨h1, h2⟩ := hh; subst h2; exact ⟨h1, Below.refl _ _⟩
  · exact (uint_68 w).mono fun e w' hh => by obtain ⟨h1, h2⟩ := hh; subst h2; exact ⟨h1, Below.refl _ _⟩
theorem ex_tells : ∀ k, k < 7 → ∀ w, Tells w (opAt exL k) exI exU := by
  have key : ∀ o : Opr, (0 ≤ o.r ∧ o.r ≤ 6) → (0 ≤ o.a ∧ o.a ≤ 6) → (0 ≤ o.b ∧ o.b ≤ 6) → (0 ≤ o.order ∧ o.order ≤ 6) → (o.imm = 0 ∨ o.imm = 64 ∨ o.imm = 68) → ∀ w, Tells w o exI exU := fun o h1 h2 h3 h4 h5 w =>
    ⟨exI_size, exU_size, fun k hk _ w1 _ => by
      match k, hk with
      | 0, _ => exact exI_c _ h1.1 h1.2 w1
      | 1, _ => exact exI_c _ h2.1 h2.2 w1
      | 2, _ => exact exI_c _ h3.1 h3.2 w1
      | 3, _ => exact exI_c _ h4.1 h4.2 w1
      | k + 4, h => exact absurd h (by omega), fun _ w1 _ => exU_c _ h5 w1⟩
  intro k hk
  match k, hk with
  | 0, _ => exact key _ (by decide) (by decide) (by decide) (by decide) (by decide)
  | 1, _ => exact key _ (by decide) (by decide) (by decide) (by decide) (by decide)
  | 2, _ => exact key _ (by decide) (by decide) (by decide) (by decide) (by decide)
  | 3, _ => exact key _ (by decide) (by decide) (by decide) (by decide) (by decide)
  | 4, _ => exact key _ (by decide) (by decide) (by decide) (by decide) (by decide)
  | 5, _ => exact key _ (by decide) (by decide) (by decide) (by decide) (by decide)
  | 6, _ => exact key _ (by decide) (by decide) (by decide) (by decide) (by decide)
  | k + 7, h => exact absurd h (by omega)
def exT : ByteArray := ⟨#[48, 32, 97, 116, 32, 54, 52, 10, 49, 32, 103, 101, 116, 120, 32, 49, 10, 50, 32, 99, 111, 110, 115, 116, 32, 48, 10, 51, 32, 97, 108, 117, 32, 49, 32, 49, 32, 50, 10, 52, 32, 108, 111, 97, 100, 32, 51, 32, 48, 10, 53, 32, 115, 101, 116, 120, 32, 48, 32, 52, 10, 54, 32, 101, 120, 105, 116, 32, 54, 56, 10]⟩
theorem ex_lines : linesS exI exU exL 7 = exT := by kernel_rfl
theorem exText_c {w : World} {b : Nat} (hb : w.heap[b]? = some (.cells exA 27)) : Calls Tryz.prog 7 #[blV 64 1 1 (.slice (some ⟨b, 0, none⟩) 7 7)] w fun e w' => e = .returned (.tuple #[.string exT, vI 0]) ∧ Below w.heap.size w w' := by
  have h := text_c (words := 1) (el := 1) (dI := exI) (dU := exU) (by decide) (ex_ops hb) ex_imm (sl_cap b) ex_right (fun k hk w1 _ => ⟨ex_tells k hk w1, exI_c k (by omega) (by have : k < 7 := hk; omega) w1⟩)
  rw [ex_len, ex_lines] at h
  exact h
end Go.Proofs.YtccmncecpmemaaaGreatDoor
/- The examples. -/
namespace Go.Proofs.YtccmncecpmemaaaGreatDoor
open Go.RowKit
set_option linter.unusedVariables false
set_option linter.unusedSimpArgs false
set_option maxRecDepth 8000

theorem Fresh.low {l : List Opr} {S : Rn} {B B' : Nat} {u : Value} {x : World} (h : Fresh l S B u x) (hb : B' ≤ B) : Fresh l S B' u x := by
  obtain ⟨g, vb, so, e, H, h1, h2, h3⟩ := h.ex
  exact ⟨g, vb, so, e, H, Nat.le_trans hb h1, Nat.le_trans hb h2, fun k hk => Nat.le_trans hb (h3 k hk)⟩
theorem rel_move {E : List PanicEntry → World → Prop} {F : Value → World → Prop} {w : World} {v : Value} {o : Oper} {a : Act} {x : Operand} (hF : F v w) (ho : o.op = .move x := by rfl) (hx : a.eval x = v := by rfl) : RelQ.relUpon Tryz.prog RelQ.Grows E F w ((execOp a.eval o).run Tryz.prog w) := by
  unfold execOp
  simp only [ho, hx, Sem.run_bind, Sem.run_pure, Result.andThen_ok]
  exact ⟨RelQ.grows_refl _, hF⟩
theorem rel_assign {E : List PanicEntry → World → Prop} {F : Value → World → Prop} {w : World} {v : Value} {o : Oper} {a : Act} {x : Operand} (hF : F v w) (ho : o.op = .assign x := by rfl) (hx : a.eval x = v := by rfl) : RelQ.relUpon Tryz.prog RelQ.Grows E F w ((execOp a.eval o).run Tryz.prog w) := by
  unfold execOp
  simp only [ho, hx, Sem.run_bind, Sem.run_pure, Result.andThen_ok]
  exact ⟨RelQ.grows_refl _, hF⟩
theorem keepRow {x y : World} {b : Nat} {o : Obj} (h : x.heap[b]? = some o) (hb : Below x.heap.size x y) : y.heap[b]? = some o := by rw [hb.block _ (lt_of_some h)]; exact h
theorem fld29_0 (c : Cor) (w : World) : Sem.run Tryz.prog (Instr.field 42 (.agg c.cells) 0) w = .ok (.agg (c.cells.extract 0 (0 + 31))) w := by
  simp [Instr.field, run_underlying Tryz.underlying42, asAgg, part_arr 31 39 Tryz.underlying39 31 info26]
theorem fld29_2 (c : Cor) (w : World) : Sem.run Tryz.prog (Instr.field 42 (.agg c.cells) 2) w = .ok (vU c.pc) w := by
  simp [Instr.field, run_underlying Tryz.underlying42, asAgg, part_c 22 (by decide) _ _ _ _ c.a33]
theorem idx26_0 (c : Cor) (w : World) : Sem.run Tryz.prog (Instr.index 39 (.agg (c.cells.extract 0 (0 + 31))) (vI 0)) w = .ok (vU c.x[0]) w := by
  have h := ext_x c 0 (by simp)
  obtain ⟨i, h1, h2, h3, h4⟩ := info_parts info22p
  have e : (c.x.toArray.getD 0 0) = c.x[0] := by simp
  rw [e] at h
  simp only [Instr.index, asIntOf, run_underlying Tryz.underlying39, Sem.run_bind, Sem.run_pure, Result.andThen_ok]
  simp [sizeOf, typeInfo, h1, h3, part_c 22 (by decide) _ _ _ _ h]
theorem run_eqS (p q : ByteArray) (w : World) : (binOp .eql 9 (.string p) (.string q)).run Tryz.prog w = .ok (.bool (p.toList == q.toList)) w := by
  go_simp
theorem wpList_eqS {ops : Array Oper} {rest : List Oper} {o : Oper} {a : Act} {w : World} {Q : Exit → Act → World → Prop} (hw : Region.wanted o (yielded ops a.tmps) = true) (x y : Operand) (ho : o.op = .binOp .eql 9 x y 9) (p q : ByteArray) (hx : a.eval x = .string p) (hy : a.eval y = .string q) (b : Bool) (hb : (p.toList == q.toList) = b)
    (h : wpList Tryz.prog ops Q rest (a.put o.dst (.bool b)) w) : wpList Tryz.prog ops Q (o :: rest) a w := by
  refine BigFrame.wpList_want hw fun K hK => ?_
  have hgd : (eqGuard .eql 9 x y (.string p) (.string q)).run Tryz.prog w = .ok () w := by kernel_rfl
  unfold Oper.wp execOp
  simp only [ho, hx, hy, Sem.run_bind, hgd, run_eqS, Result.andThen_ok, hb]
  exact hK _ _ h
/-- While the two runs of the example are made. -/
structure ExI (w : World) (cb n0 : Nat) (x : World) : Prop where
  core : x.heap[cb]? = some (.cells exC.cells 42)
  below : Below w.heap.size w x
  size : n0 ≤ x.heap.size
theorem ExI.grow {w x y : World} {cb n0 : Nat} (h : ExI w cb n0 x) (hb : Below x.heap.size x y) : ExI w cb n0 y := ⟨by rw [hb.block _ (lt_of_some h.core)]; exact h.core, below_then h.below (Nat.le_refl _) hb, Nat.le_trans h.size hb.size⟩
structure ExJ (w : World) (cb n0 g1 vb1 : Nat) (so1 : Value) (x : World) : Prop extends ExI w cb n0 x where
  r1 : RunAt exL g1 vb1 so1 (newS 7 exC) x
theorem ExJ.grow {w x y : World} {cb n0 g1 vb1 : Nat} {so1 : Value} (h : ExJ w cb n0 g1 vb1 so1 x) (hb : Below x.heap.size x y) : ExJ w cb n0 g1 vb1 so1 y := ⟨h.toExI.grow hb, h.r1.grow hb⟩
theorem exC_set : exC0.cells.setIfInBounds 1 (vU 8) = exC.cells := by rw [Cor.setX _ 1 8 (by decide)]; rfl
theorem exC0_built : Tryz.prog.built 42 [(7, vI 1)] = some exC0.cells := by kernel_rfl
theorem nil_size29 (Z : Array Value) (h : Z.size = 49) : Z.size = exC0.cells.size := by rw [h, Cor.size]
set_option maxHeartbeats 8000000 in
theorem examples_c (w : World) : Calls Tryz.prog 5 #[] w fun e w' => e = .returned (.bool true) ∧ Below w.heap.size w w' := by
  have H0 := has_none w
  go_enter Tryz.func5, Tryz.ntmps5
  go_upto_region 1 with fail
  refine wp_region_lit ?_
  with_reducible refine wpList_built rfl 42 _ rfl exC0.cells (by kernel_rfl) ?_
  simp only [Act.put, List.setIfInBounds_toArray, List.set_cons_succ, List.set_cons_zero]
  go_upto_region 2 with (first | ((with_reducible refine wpList_store_new H0 rfl 42 _ _ rfl exC0.cells rfl rfl (Cor.info _) (by rw [Cor.size]; kernel_rfl) (Cor.one _) ?_); intro w2 H2; try simp only [Act.put]))
  have hc2 := H2.get List.mem_cons_self
  have z1 : w2.cell? ⟨w.heap.size, 1, none⟩ = some (vU 0) := H2.at List.mem_cons_self 1 _ (by kernel_rfl)
  have f1 : w2.frozen? ⟨w.heap.size, 1, none⟩ = false := frozen_of_row _ _ _ _ _ hc2
  go_upto_region 3 with fail
  have hc3 := heap_setCell_same w2 w.heap.size 1 _ 42 (vU 8) hc2
  rw [exC_set] at hc3
  have hb3 : Below w.heap.size w (w2.setCell ⟨w.heap.size, 1, none⟩ (vU 8)) := below_cell H2.below (Nat.le_refl _)
  generalize w2.setCell ⟨w.heap.size, 1, none⟩ (vU 8) = W3 at *
  clear z1 f1 hc2 H2 H0
  have X0 : ExI w w.heap.size W3.heap.size W3 := ⟨hc3, hb3, Nat.le_refl _⟩
  have hWle : w.heap.size ≤ W3.heap.size := hb3.size
  clear hc3 hb3
  generalize hn0 : W3.heap.size = n0 at X0
  refine RelQ.wp_region_rel RelQ.Grows (fun _ _ => False) (fun _ _ _ h _ => h.elim) (ExI w w.heap.size n0) [.inr (fun u x => LoadR w u x), .inl (exC.val), .inr (fun u x => ∃ p, u = .tuple #[p, vI 0] ∧ Fresh exL (newS 7 exC) n0 p x), .inr (fun u x => ∃ p, u = .tuple #[p, vI 0] ∧ Fresh exL (newS 7 exC) n0 p x), .inr (fun u x => Fresh exL (newS 7 exC) n0 u x), .inl (vI 0), .inr (fun u x => Fresh exL (newS 7 exC) n0 u x), .inl (vI 0)] (by kernel_rfl) (by kernel_rfl) RelQ.grows_refl (fun _ _ h hb => h.grow hb) (X0.grow (below_dr _)) (by intro k hk; simp only [List.mem_cons, List.not_mem_nil, or_false] at hk; rcases hk with rfl | rfl | rfl | rfl | rfl | rfl | rfl | rfl <;> first | exact trivial | exact (fun v x y h hb => Fresh.grow h hb) | exact (fun v x y h hb => by obtain ⟨b0, e0, h1, h2⟩ := h; exact ⟨b0, e0, by rw [hb.block _ (lt_of_some h1)]; exact h1, h2⟩) | exact (fun v x y h hb => by obtain ⟨p, e0, F⟩ := h; exact ⟨p, e0, F.grow hb⟩)) ?_
  refine ⟨fun w3 hC hf => RelQ.uponG_yes rfl ((by go_simp; refine (load_c w3).mono ?_; rintro e w4 ⟨u, rfl, ⟨b0, e0, h1, h2⟩, hb⟩; first | exact ⟨_, rfl, hb, b0, e0, h1, Nat.le_trans hC.below.size h2⟩ | exact .inl ⟨_, rfl, hb, b0, e0, h1, Nat.le_trans hC.below.size h2⟩)), ?_⟩
  intro u0
  simp only [Act.put, List.setIfInBounds_toArray, List.set_cons_succ, List.set_cons_zero]
  refine ⟨fun w3 hC hf => RelQ.uponG_yes rfl (by exact rel_load29 hC.core), ?_⟩
  simp only [Act.put, List.setIfInBounds_toArray, List.set_cons_succ, List.set_cons_zero]
  refine ⟨fun w3 hC hf => RelQ.uponG_yes rfl ((by obtain ⟨b0, e0, h1, h2⟩ := (hf 0 (by kernel_rfl)).1 rfl; subst e0; go_simp; refine (exNew_c h1).mono ?_; rintro e w4 ⟨p, rfl, F, hb⟩; first | exact ⟨_, rfl, hb, p, rfl, F.low hC.size⟩ | exact .inl ⟨_, rfl, hb, p, rfl, F.low hC.size⟩)), ?_⟩
  intro u2
  simp only [Act.put, List.setIfInBounds_toArray, List.set_cons_succ, List.set_cons_zero]
  refine ⟨fun w3 hC hf => RelQ.uponG_yes rfl ((by have q := (hf 2 (by kernel_rfl)).1 rfl; exact rel_move q)), ?_⟩
  intro u3
  simp only [Act.put, List.setIfInBounds_toArray, List.set_cons_succ, List.set_cons_zero]
  refine ⟨fun w3 hC hf => RelQ.uponG_yes rfl ((by obtain ⟨p, e0, F⟩ := (hf 3 (by kernel_rfl)).1 rfl; subst e0; go_simp; first | exact RelQ.grows_refl _ | exact ⟨RelQ.grows_refl _, F⟩)), ?_⟩
  intro u4
  simp only [Act.put, List.setIfInBounds_toArray, List.set_cons_succ, List.set_cons_zero]
  refine ⟨fun w3 hC hf => RelQ.uponG_yes rfl (by obtain ⟨p, e0, F⟩ := (hf 3 (by kernel_rfl)).2.1 rfl; subst e0; go_simp; first | exact RelQ.grows_refl _ | exact ⟨RelQ.grows_refl _, rfl⟩), ?_⟩
  simp only [Act.put, List.setIfInBounds_toArray, List.set_cons_succ, List.set_cons_zero]
  refine ⟨fun w3 hC hf => RelQ.uponG_yes rfl ((by have q := (hf 4 (by kernel_rfl)).1 rfl; exact rel_assign q)), ?_⟩
  intro u6
  simp only [Act.put, List.setIfInBounds_toArray, List.set_cons_succ, List.set_cons_zero]
  refine ⟨fun w3 hC _ => RelQ.uponG_yes rfl ((by go_simp; first | exact RelQ.grows_refl _ | exact ⟨RelQ.grows_refl _, rfl⟩)), ?_⟩
  simp only [Act.put, List.setIfInBounds_toArray, List.set_cons_succ, List.set_cons_zero]
  intro w9 hN hf
  obtain ⟨g1, vb1, so1, e1, H1, hg1, hv1, ho1⟩ := ((hf 6).1 rfl).ex
  clear hf
  subst e1
  have hw1 : w.heap.size ≤ g1 := by omega
  have hw2 : w.heap.size ≤ vb1 := by omega
  have Y0 : ExJ w w.heap.size w9.heap.size g1 vb1 so1 w9 := ⟨⟨hN.core, hN.below, Nat.le_refl _⟩, H1⟩
  have q1 := H1.lt
  have q2 := H1.ltv
  have q3 : ∀ k, so1.ownBlock = some k → k < w9.heap.size := fun k hk => (H1.ob hk).1
  have hWle2 : w.heap.size ≤ w9.heap.size := hN.below.size
  clear hN X0 hn0 hWle hg1 hv1 ho1 H1
  generalize hn1 : w9.heap.size = n1 at Y0 q1 q2 q3 hWle2
  clear hn1
  go_upto_region 4 with fail
  refine RelQ.wp_region_rel RelQ.Grows (fun _ _ => False) (fun _ _ _ h _ => h.elim) (ExJ w w.heap.size n1 g1 vb1 so1) [.inr (fun u x => LoadR w u x), .inl (exC.val), .inr (fun u x => ∃ p, u = .tuple #[p, vI 0] ∧ Fresh exL (newS 7 exC) n1 p x), .inr (fun u x => ∃ p, u = .tuple #[p, vI 0] ∧ Fresh exL (newS 7 exC) n1 p x), .inr (fun u x => Fresh exL (newS 7 exC) n1 u x), .inl (vI 0), .inr (fun u x => Fresh exL (newS 7 exC) n1 u x), .inl (vI 0)] (by kernel_rfl) (by kernel_rfl) RelQ.grows_refl (fun _ _ h hb => h.grow hb) (Y0.grow (below_dr _)) (by intro k hk; simp only [List.mem_cons, List.not_mem_nil, or_false] at hk; rcases hk with rfl | rfl | rfl | rfl | rfl | rfl | rfl | rfl <;> first | exact trivial | exact (fun v x y h hb => Fresh.grow h hb) | exact (fun v x y h hb => by obtain ⟨b0, e0, h1, h2⟩ := h; exact ⟨b0, e0, by rw [hb.block _ (lt_of_some h1)]; exact h1, h2⟩) | exact (fun v x y h hb => by obtain ⟨p, e0, F⟩ := h; exact ⟨p, e0, F.grow hb⟩)) ?_
  refine ⟨fun w3 hC hf => RelQ.uponG_yes rfl ((by go_simp; refine (load_c w3).mono ?_; rintro e w4 ⟨u, rfl, ⟨b0, e0, h1, h2⟩, hb⟩; first | exact ⟨_, rfl, hb, b0, e0, h1, Nat.le_trans hC.below.size h2⟩ | exact .inl ⟨_, rfl, hb, b0, e0, h1, Nat.le_trans hC.below.size h2⟩)), ?_⟩
  intro u0
  simp only [Act.put, List.setIfInBounds_toArray, List.set_cons_succ, List.set_cons_zero]
  refine ⟨fun w3 hC hf => RelQ.uponG_yes rfl (by exact rel_load29 hC.core), ?_⟩
  simp only [Act.put, List.setIfInBounds_toArray, List.set_cons_succ, List.set_cons_zero]
  refine ⟨fun w3 hC hf => RelQ.uponG_yes rfl ((by obtain ⟨b0, e0, h1, h2⟩ := (hf 0 (by kernel_rfl)).1 rfl; subst e0; go_simp; refine (exNew_c h1).mono ?_; rintro e w4 ⟨p, rfl, F, hb⟩; first | exact ⟨_, rfl, hb, p, rfl, F.low hC.size⟩ | exact .inl ⟨_, rfl, hb, p, rfl, F.low hC.size⟩)), ?_⟩
  intro u2
  simp only [Act.put, List.setIfInBounds_toArray, List.set_cons_succ, List.set_cons_zero]
  refine ⟨fun w3 hC hf => RelQ.uponG_yes rfl ((by have q := (hf 2 (by kernel_rfl)).1 rfl; exact rel_move q)), ?_⟩
  intro u3
  simp only [Act.put, List.setIfInBounds_toArray, List.set_cons_succ, List.set_cons_zero]
  refine ⟨fun w3 hC hf => RelQ.uponG_yes rfl ((by obtain ⟨p, e0, F⟩ := (hf 3 (by kernel_rfl)).1 rfl; subst e0; go_simp; first | exact RelQ.grows_refl _ | exact ⟨RelQ.grows_refl _, F⟩)), ?_⟩
  intro u4
  simp only [Act.put, List.setIfInBounds_toArray, List.set_cons_succ, List.set_cons_zero]
  refine ⟨fun w3 hC hf => RelQ.uponG_yes rfl (by obtain ⟨p, e0, F⟩ := (hf 3 (by kernel_rfl)).2.1 rfl; subst e0; go_simp; first | exact RelQ.grows_refl _ | exact ⟨RelQ.grows_refl _, rfl⟩), ?_⟩
  simp only [Act.put, List.setIfInBounds_toArray, List.set_cons_succ, List.set_cons_zero]
  refine ⟨fun w3 hC hf => RelQ.uponG_yes rfl ((by have q := (hf 4 (by kernel_rfl)).1 rfl; exact rel_assign q)), ?_⟩
  intro u6
  simp only [Act.put, List.setIfInBounds_toArray, List.set_cons_succ, List.set_cons_zero]
  refine ⟨fun w3 hC _ => RelQ.uponG_yes rfl ((by go_simp; first | exact RelQ.grows_refl _ | exact ⟨RelQ.grows_refl _, rfl⟩)), ?_⟩
  simp only [Act.put, List.setIfInBounds_toArray, List.set_cons_succ, List.set_cons_zero]
  intro w10 hN hf
  obtain ⟨g2, vb2, so2, e2, H2, hg2, hv2, ho2⟩ := ((hf 6).1 rfl).ex
  clear hf
  subst e2
  have P : Two exL g1 vb1 so1 g2 vb2 so2 (newS 7 exC) (newS 7 exC) w10 := ⟨hN.r1, H2, by omega, by omega, fun k hk => ⟨by have := q3 k hk; omega, by have := q3 k hk; omega⟩, fun k hk => ⟨by have := ho2 k hk; omega, by have := ho2 k hk; omega⟩⟩
  have hw3 : w.heap.size ≤ g2 := by omega
  have hw4 : w.heap.size ≤ vb2 := by omega
  have hcore := hN.core
  have hB := hN.below
  clear hN Y0 H2 hg2 hv2 ho2 q1 q2 q3 hWle2
  have k5 := exNone_c w10
  go_upto_region 6 with (first | ((with_reducible refine wpList_load_if rfl 42 _ rfl _ rfl 42 _ (0, 0) _ hcore Tryz.underlying42 rfl (Cor.info _) ?_); simp only [Act.put, List.setIfInBounds_toArray, List.set_cons_succ, List.set_cons_zero]) | (go_at_call 18; (with_reducible refine k5.mono ?_); clear k5; rintro e w11 ⟨rfl, B11⟩; dsimp only))
  replace P := P.grow B11
  replace hB := below_then hB (Nat.le_refl _) B11
  clear B11 hcore
  go_upto_region 8 with fail
  have k8 : Calls Tryz.prog 21 #[ptr g1 0] w11 fun e w' => e = .returned (.tuple #[wnV ⟨1, 8, 0, 0, false, 0, false, 0, 0, 0⟩, .bool true]) ∧ RT exL g1 vb1 so1 exS1 w11 w' := by
    have h := next_c P.r1 ex_fit (show (newS 7 exC).next ≤ 7 by decide)
    rw [show nextV exL (newS 7 exC) = exS1 from rfl, e1w, e1g] at h; exact h
  go_upto_region 9 with (first | (go_at_call 21; (with_reducible refine k8.mono ?_); clear k8; rintro e w12 ⟨rfl, R⟩; dsimp only; have H := has_none w12) | ((with_reducible refine wpList_store_new H rfl 56 _ _ rfl (wnA ⟨1, 8, 0, 0, false, 0, false, 0, 0, 0⟩) rfl rfl (wn_inf _) (by kernel_rfl) (wn_one _) ?_); clear H; intro w13 H; try simp only [Act.put]))
  replace hB := (R.low hB hw1 hw2)
  replace P := (P.one R).grow H.below
  replace hB := below_then hB (Nat.le_refl _) H.below
  have r8 := H.get List.mem_cons_self
  generalize w12.heap.size = t8 at r8 ⊢
  clear H R
  have k9 : Calls Tryz.prog 20 #[ptr g1 0, gtV ⟨5, false, 0⟩] w13 fun e w' => e = .returned (vI 0) ∧ RT exL g1 vb1 so1 exS2 w13 w' := by
    have h := take_c P.r1 ⟨5, false, 0⟩ ⟨by decide, by decide⟩ (by rw [e1g]; decide) (fun _ => by rw [e1n]; decide) (by rw [e1n]; decide)
    rw [show takeV exL.length exS1 ⟨5, false, 0⟩ = exS2 from rfl, show takeE exS1 = 0 by kernel_rfl] at h; exact h
  go_upto_region 10 with (first | (go_at_call 20; (with_reducible refine k9.mono ?_); clear k9; rintro e w14 ⟨rfl, R⟩; dsimp only))
  replace hB := (R.low hB hw1 hw2)
  replace r8 := R.kept r8 (ne_of_type r8 P.r1.top (by decide)) (ne_of_type r8 P.r1.vals (by decide))
  replace P := P.one R
  clear R
  have k10 : Calls Tryz.prog 21 #[ptr g1 0] w14 fun e w' => e = .returned (.tuple #[wnV ⟨0, 0, 0, 0, false, 0, false, 0, 0, 0⟩, .bool false]) ∧ RT exL g1 vb1 so1 exS3 w14 w' := by
    have h := next_c P.r1 ex_fit (show (exS2).next ≤ 7 by have h9 := e2n; omega)
    rw [show nextV exL (exS2) = exS3 from rfl, e3w, e3g] at h; exact h
  go_upto_region 11 with (first | (go_at_call 21; (with_reducible refine k10.mono ?_); clear k10; rintro e w15 ⟨rfl, R⟩; dsimp only; have H := has_none w15) | ((with_reducible refine wpList_store_new H rfl 56 _ _ rfl (wnA ⟨0, 0, 0, 0, false, 0, false, 0, 0, 0⟩) rfl rfl (wn_inf _) (by kernel_rfl) (wn_one _) ?_); clear H; intro w16 H; try simp only [Act.put]))
  replace hB := (R.low hB hw1 hw2)
  replace r8 := R.kept r8 (ne_of_type r8 P.r1.top (by decide)) (ne_of_type r8 P.r1.vals (by decide))
  replace r8 := keepRow r8 H.below
  replace P := (P.one R).grow H.below
  replace hB := below_then hB (Nat.le_refl _) H.below
  clear H R
  have k11 : Calls Tryz.prog 21 #[ptr g2 0] w16 fun e w' => e = .returned (.tuple #[wnV ⟨1, 8, 0, 0, false, 0, false, 0, 0, 0⟩, .bool true]) ∧ RT exL g2 vb2 so2 exS1 w16 w' := by
    have h := next_c P.r2 ex_fit (show (newS 7 exC).next ≤ 7 by decide)
    rw [show nextV exL (newS 7 exC) = exS1 from rfl, e1w, e1g] at h; exact h
  go_upto_region 12 with (first | (go_at_call 21; (with_reducible refine k11.mono ?_); clear k11; rintro e w17 ⟨rfl, R⟩; dsimp only))
  replace hB := (R.low hB hw3 hw4)
  replace r8 := R.kept r8 (ne_of_type r8 P.r2.top (by decide)) (ne_of_type r8 P.r2.vals (by decide))
  replace P := P.two R
  clear R
  have k12 : Calls Tryz.prog 20 #[ptr g2 0, gtV ⟨0, false, 1⟩] w17 fun e w' => e = .returned (vI 0) ∧ RT exL g2 vb2 so2 exT2 w17 w' := by
    have h := take_c P.r2 ⟨0, false, 1⟩ ⟨by decide, by decide⟩ (by rw [e1g]; decide) (fun _ => by rw [e1n]; decide) (by rw [e1n]; decide)
    rw [show takeV exL.length exS1 ⟨0, false, 1⟩ = exT2 from rfl, show takeE exS1 = 0 by kernel_rfl] at h; exact h
  go_upto_region 13 with (first | (go_at_call 20; (with_reducible refine k12.mono ?_); clear k12; rintro e w18 ⟨rfl, R⟩; dsimp only))
  replace hB := (R.low hB hw3 hw4)
  replace r8 := R.kept r8 (ne_of_type r8 P.r2.top (by decide)) (ne_of_type r8 P.r2.vals (by decide))
  replace P := P.two R
  clear R
  have k13 : Calls Tryz.prog 21 #[ptr g2 0] w18 fun e w' => e = .returned (.tuple #[wnV ⟨0, 0, 0, 0, false, 0, false, 0, 0, 0⟩, .bool false]) ∧ RT exL g2 vb2 so2 exT3 w18 w' := by
    have h := next_c P.r2 ex_fit (show (exT2).next ≤ 7 by have h9 := t2n; omega)
    rw [show nextV exL (exT2) = exT3 from rfl, t3w, t3g] at h; exact h
  go_upto_region 14 with (first | (go_at_call 21; (with_reducible refine k13.mono ?_); clear k13; rintro e w19 ⟨rfl, R⟩; dsimp only; have H := has_none w19) | ((with_reducible refine wpList_store_new H rfl 56 _ _ rfl (wnA ⟨0, 0, 0, 0, false, 0, false, 0, 0, 0⟩) rfl rfl (wn_inf _) (by kernel_rfl) (wn_one _) ?_); clear H; intro w20 H; try simp only [Act.put]))
  replace hB := (R.low hB hw3 hw4)
  replace r8 := R.kept r8 (ne_of_type r8 P.r2.top (by decide)) (ne_of_type r8 P.r2.vals (by decide))
  replace r8 := keepRow r8 H.below
  replace P := (P.two R).grow H.below
  replace hB := below_then hB (Nat.le_refl _) H.below
  clear H R
  go_upto_region 15 with (first | (go_at_call 26; (with_reducible refine (load_c _).mono ?_); rintro e w21 ⟨u, rfl, ⟨b9, e9, h9, _⟩, B21⟩; subst e9; dsimp only; have k15 := exText_c h9) | (go_at_call 7; (with_reducible refine k15.mono ?_); clear k15; rintro e w22 ⟨rfl, B22⟩; dsimp only))
  replace r8 := keepRow r8 B21
  replace r8 := keepRow r8 B22
  replace P := (P.grow B21).grow B22
  replace hB := below_then (below_then hB (Nat.le_refl _) B21) (Nat.le_refl _) B22
  clear B21 B22 h9
  have j1 := fun x => fld29_0 exS3.c x
  have j2 := fun x => fld29_2 exS3.c x
  have j3 := fun x => idx26_0 exS3.c x
  have j4 := fun x => fld29_2 exT3.c x
  rw [e3x] at j3
  rw [e3p] at j2
  rw [t3p] at j4
  simp only [List.append_eq, List.cons_append, List.nil_append]
  go_wp2_with (first | ((with_reducible refine wpList_load_if rfl 56 _ rfl _ rfl 56 _ (0, 0) _ r8 Tryz.underlying56 rfl (wn_inf _) ?_); simp only [Act.put, List.setIfInBounds_toArray, List.set_cons_succ, List.set_cons_zero]) | ((with_reducible refine wpList_eql38 rfl _ _ rfl ⟨1, 8, 0, 0, false, 0, false, 0, 0, 0⟩ ⟨1, 8, 0, 0, false, 0, false, 0, 0, 0⟩ rfl rfl true (by decide) ?_); simp only [Act.put, List.setIfInBounds_toArray, List.set_cons_succ, List.set_cons_zero]) | (go_at_call 19; (with_reducible refine (core_c P.r1).mono ?_); rintro e w23 ⟨rfl, B⟩; dsimp only; replace P := P.grow B; replace hB := below_then hB (Nat.le_refl _) B; clear B) | (go_at_call 19; (with_reducible refine (core_c P.r2).mono ?_); rintro e w23 ⟨rfl, B⟩; dsimp only; replace P := P.grow B; replace hB := below_then hB (Nat.le_refl _) B; clear B) | (go_at_call 24; (with_reducible refine (faulted_c P.r1).mono ?_); rintro e w23 ⟨rfl, rfl⟩; rw [e3f]; dsimp only) | (go_at_call 24; (with_reducible refine (faulted_c P.r2).mono ?_); rintro e w23 ⟨rfl, rfl⟩; rw [t3f]; dsimp only) | ((with_reducible refine wpList_eqS rfl _ _ rfl _ _ rfl rfl true (by kernel_rfl) ?_); simp only [Act.put, List.setIfInBounds_toArray, List.set_cons_succ, List.set_cons_zero]))
  go_ret
  exact ⟨rfl, hB⟩
end Go.Proofs.YtccmncecpmemaaaGreatDoor
