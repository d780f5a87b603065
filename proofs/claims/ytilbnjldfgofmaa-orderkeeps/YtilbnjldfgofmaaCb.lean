/- Two cores' states held against each other. -/
import Derived.Test.YtilbnjldfgofmaaCa
import Derived.Laws.StructEq
import Derived.ChangeKeysEq
namespace Go.Proofs.Ytilbnjldfgofmaa
open Go.RowKit
set_option linter.unusedVariables false
set_option linter.unusedSimpArgs false
set_option maxRecDepth 8000

def xEq (a b : Vector Int 31) : Bool := (List.range 31).all fun i => a.toArray.getD i 0 == b.toArray.getD i 0
def eqC (c d : Cor) : Bool := xEq c.x d.x && (((c.sp0 == d.sp0) && (c.sp1 == d.sp1)) && (c.pc == d.pc && (c.n == d.n && (c.z == d.z && (c.c == d.c && (c.v == d.v && (c.el == d.el && (c.mask == d.mask && (c.spsr == d.spsr && (c.elr == d.elr && (c.esr == d.esr && (c.far == d.far && (c.vbar == d.vbar && (c.tpidr == d.tpidr && (c.id == d.id && (c.wait == d.wait && (c.event == d.event)))))))))))))))))
theorem xEq_iff (a b : Vector Int 31) : xEq a b = true ↔ a = b := by
  constructor
  · intro h
    apply Vector.ext
    intro i hi
    have := List.all_eq_true.1 h i (List.mem_range.2 hi)
    simpa [hi] using this
  · rintro rfl
    simp [xEq]
theorem eqC_iff (c d : Cor) : eqC c d = true ↔ c = d := by
  obtain ⟨x, sp0, sp1, pc, n, z, cc, v, el, mask, spsr, elr, esr, far, vbar, tpidr, id, wait, event⟩ := c
  obtain ⟨x', sp0', sp1', pc', n', z', cc', v', el', mask', spsr', elr', esr', far', vbar', tpidr', id', wait', event'⟩ := d
  simp only [eqC, Bool.and_eq_true, beq_iff_eq, Cor.mk.injEq, xEq_iff, and_assoc]
theorem eqC_refl (c : Cor) : eqC c c = true := (eqC_iff c c).2 rfl
theorem eqC_ne {c d : Cor} (h : c ≠ d) : eqC c d = false := by
  cases e : eqC c d
  · rfl
  · exact absurd ((eqC_iff c d).1 e) h

theorem eqField {d : Nat} {xs ys : Array Value} {f : Field} {fs : List Field} {r s : Bool} (w : World) (hn : f.name ≠ "_")
    (h : ((part f.type xs f.offset).run Try.prog w).andThen (fun a w1 => ((part f.type ys f.offset).run Try.prog w1).andThen fun b w2 => (Op.equalIn d f.type a b).run Try.prog w2) = .ok r w)
    (hs : (Op.eqFields d xs ys fs).run Try.prog w = .ok s w) : (Op.eqFields d xs ys (f :: fs)).run Try.prog w = .ok (r && s) w := by
  simp only [Op.eqFields, if_pos hn, Sem.run_bind]
  generalize (part f.type xs f.offset).run Try.prog w = r1 at h ⊢
  cases r1 with
  | ok a w1 =>
    simp only [Result.andThen_ok] at h ⊢
    generalize (part f.type ys f.offset).run Try.prog w1 = r2 at h ⊢
    cases r2 with
    | ok b w2 =>
      simp only [Result.andThen_ok] at h ⊢
      rw [h]
      cases r
      · simp
      · simpa using hs
    | halt x w2 => simp [Result.andThen] at h
  | halt x w1 => simp [Result.andThen] at h
theorem part_u (xs : Array Value) (k : Nat) (v : Value) (w : World) (h : xs[k]? = some v) : (part 22 xs k).run Try.prog w = .ok v w := by
  simp [part, isAgg, run_underlying Try.underlying22, h]
theorem items (d : Nat) (xs ys : Array Value) (f g : Nat → Int) (w : World) : ∀ is : List Nat, (∀ i ∈ is, xs[i]? = some (vU (f i)) ∧ ys[i]? = some (vU (g i))) →
    (Op.eqItems (d + 1) 22 1 xs ys is).run Try.prog w = .ok (is.all fun i => f i == g i) w
  | [], _ => by simp [Op.eqItems]
  | i :: is, h => by
    obtain ⟨h1, h2⟩ := h i (by simp)
    have ih := items d xs ys f g w is (fun j hj => h j (by simp [hj]))
    simp only [Op.eqItems, Sem.run_bind, Nat.mul_one, part_u xs i _ w h1, part_u ys i _ w h2, Result.andThen_ok, run_equalIn_int w d 22 .u64 .u64 _ _ Try.underlying22]
    cases hh : f i == g i
    · simp [hh]
    · simpa [hh] using ih
theorem info22 : ∃ i, Try.prog.info? 22 = some i := ⟨_, rfl⟩
theorem cells22 : Try.prog.cellsOf 22 = 1 := by kernel_rfl
theorem arr_eq (n d : Nat) (t : TypeId) (ht : Try.prog.underlying t = some (.array n 22)) (xs ys : Array Value) (f g : Nat → Int) (w : World) (h : ∀ i ∈ List.range n, xs[i]? = some (vU (f i)) ∧ ys[i]? = some (vU (g i))) :
    (Op.equalIn (d + 2) t (.agg xs) (.agg ys)).run Try.prog w = .ok ((List.range n).all fun i => f i == g i) w := by
  obtain ⟨i, hi⟩ := info22
  rw [run_equalIn_array w (d + 1) xs ys ht hi, cells22]
  exact items d xs ys f g w _ h
theorem part_arr (n : Nat) (t : TypeId) (ht : Try.prog.underlying t = some (.array n 22)) (k : Nat) (hi : (Try.prog.info? t).map (·.size) = some k) (cs : Array Value) (off : Nat) (w : World) : (part t cs off).run Try.prog w = .ok (.agg (cs.extract off (off + k))) w := by
  cases hq : Try.prog.info? t with
  | none => simp [hq] at hi
  | some i =>
    have hs : i.size = k := by simpa [hq] using hi
    simp [part, isAgg, run_underlying ht, sizeOf, typeInfo, hq, hs]
theorem part_c (t : TypeId) (ht : t = 22 ∨ t = 3 ∨ t = 4) (xs : Array Value) (k : Nat) (v : Value) (w : World) (h : xs[k]? = some v) : (part t xs k).run Try.prog w = .ok v w := by
  rcases ht with rfl | rfl | rfl
  · simp [part, isAgg, run_underlying Try.underlying22, h]
  · simp [part, isAgg, run_underlying Try.underlying3, h]
  · simp [part, isAgg, run_underlying Try.underlying4, h]
theorem ext_x (c : Cor) : ∀ i ∈ List.range 31, (c.cells.extract 0 (0 + 31))[i]? = some (vU (c.x.toArray.getD i 0)) := by
  intro i hi
  have hi := List.mem_range.1 hi
  rw [Array.getElem?_extract, Cor.size, if_pos (by omega), Nat.zero_add, c.atX i hi]
  simp [hi]
theorem ext_sp (c : Cor) : ∀ i ∈ List.range 2, (c.cells.extract 31 (31 + 2))[i]? = some (vU ((#[c.sp0, c.sp1] : Array Int).getD i 0)) := by
  intro i hi
  have hi := List.mem_range.1 hi
  rw [Array.getElem?_extract, Cor.size, if_pos (by omega)]
  rcases (by omega : i = 0 ∨ i = 1) with rfl | rfl
  · rw [c.a31]; rfl
  · rw [c.a32]; rfl
set_option maxRecDepth 4000 in
set_option maxHeartbeats 1000000 in
theorem wpList_load_if {P : Program} {ops : Array Oper} {rest : List Oper} {o : Oper} {a : Act} {w : World} {Q : Exit → Act → World → Prop} (hw : Region.wanted o (yielded ops a.tmps) = true) (ty : TypeId) (x : Operand) (ho : o.op = .load ty x)
    (g : Nat) (hx : a.eval x = .pointer (some ⟨g, 0, none⟩)) (t : TypeId) (cs : Array Value) (fr : Nat × Nat) (d : TypeDesc) (hg : w.heap[g]? = some (.cells cs t fr))
    (hu : P.underlying ty = some d) (hd : (match d with | .struct _ | .array _ _ => true | _ => false) = true) (hi : (P.info? ty).map (·.size) = some cs.size)
    (h : wpList P ops Q rest (a.put o.dst (.agg cs)) w) : wpList P ops Q (o :: rest) a w :=
  BigFrame.wpList_want hw fun _ hK => wp_load_row ty x ho g hx t cs fr d hg hu hd hi (hK _ _ h)
end Go.Proofs.Ytilbnjldfgofmaa
