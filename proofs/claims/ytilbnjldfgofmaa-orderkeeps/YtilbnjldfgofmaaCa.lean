/- A core's state as a record, and as the machine's cells. -/
import Derived.Test.YtilbnjldfgofmaaHg
namespace Go.Proofs.Ytilbnjldfgofmaa
open Go.RowKit
set_option linter.unusedVariables false
set_option linter.unusedSimpArgs false
set_option maxRecDepth 8000

structure Cor where
  x : Vector Int 31
  sp0 : Int
  sp1 : Int
  pc : Int
  n : Bool
  z : Bool
  c : Bool
  v : Bool
  el : Int
  mask : Bool
  spsr : Int
  elr : Int
  esr : Int
  far : Int
  vbar : Int
  tpidr : Int
  id : Int
  wait : Int
  event : Bool

def Cor.tail (c : Cor) : Array Value := #[vU c.sp0, vU c.sp1, vU c.pc, .bool c.n, .bool c.z, .bool c.c, .bool c.v, vI c.el, .bool c.mask, vU c.spsr, vU c.elr, vU c.esr, vU c.far, vU c.vbar, vU c.tpidr, vI c.id, vI c.wait, .bool c.event]
def Cor.cells (c : Cor) : Array Value := c.x.toArray.map vU ++ c.tail
abbrev Cor.val (c : Cor) : Value := .agg c.cells

theorem Cor.size (c : Cor) : c.cells.size = 49 := by simp [Cor.cells, Cor.tail]
theorem Cor.at (c : Cor) (k : Nat) (h : 31 ≤ k) : c.cells[k]? = c.tail[k - 31]? := by
  unfold Cor.cells
  rw [Array.getElem?_append_right (by simpa using h)]
  simp
theorem Cor.atX (c : Cor) (k : Nat) (h : k < 31) : c.cells[k]? = some (vU c.x[k]) := by
  unfold Cor.cells
  rw [Array.getElem?_append_left (by simpa using h)]
  simp [h]
@[go_sem] theorem Cor.a31 (c : Cor) : c.cells[31]? = some (vU c.sp0) := by rw [c.at _ (by decide)]; rfl
@[go_sem] theorem Cor.a32 (c : Cor) : c.cells[32]? = some (vU c.sp1) := by rw [c.at _ (by decide)]; rfl
@[go_sem] theorem Cor.a33 (c : Cor) : c.cells[33]? = some (vU c.pc) := by rw [c.at _ (by decide)]; rfl
@[go_sem] theorem Cor.a34 (c : Cor) : c.cells[34]? = some (.bool c.n) := by rw [c.at _ (by decide)]; rfl
@[go_sem] theorem Cor.a35 (c : Cor) : c.cells[35]? = some (.bool c.z) := by rw [c.at _ (by decide)]; rfl
@[go_sem] theorem Cor.a36 (c : Cor) : c.cells[36]? = some (.bool c.c) := by rw [c.at _ (by decide)]; rfl
@[go_sem] theorem Cor.a37 (c : Cor) : c.cells[37]? = some (.bool c.v) := by rw [c.at _ (by decide)]; rfl
@[go_sem] theorem Cor.a38 (c : Cor) : c.cells[38]? = some (vI c.el) := by rw [c.at _ (by decide)]; rfl
@[go_sem] theorem Cor.a39 (c : Cor) : c.cells[39]? = some (.bool c.mask) := by rw [c.at _ (by decide)]; rfl
@[go_sem] theorem Cor.a40 (c : Cor) : c.cells[40]? = some (vU c.spsr) := by rw [c.at _ (by decide)]; rfl
@[go_sem] theorem Cor.a41 (c : Cor) : c.cells[41]? = some (vU c.elr) := by rw [c.at _ (by decide)]; rfl
@[go_sem] theorem Cor.a42 (c : Cor) : c.cells[42]? = some (vU c.esr) := by rw [c.at _ (by decide)]; rfl
@[go_sem] theorem Cor.a43 (c : Cor) : c.cells[43]? = some (vU c.far) := by rw [c.at _ (by decide)]; rfl
@[go_sem] theorem Cor.a44 (c : Cor) : c.cells[44]? = some (vU c.vbar) := by rw [c.at _ (by decide)]; rfl
@[go_sem] theorem Cor.a45 (c : Cor) : c.cells[45]? = some (vU c.tpidr) := by rw [c.at _ (by decide)]; rfl
@[go_sem] theorem Cor.a46 (c : Cor) : c.cells[46]? = some (vI c.id) := by rw [c.at _ (by decide)]; rfl
@[go_sem] theorem Cor.a47 (c : Cor) : c.cells[47]? = some (vI c.wait) := by rw [c.at _ (by decide)]; rfl
@[go_sem] theorem Cor.a48 (c : Cor) : c.cells[48]? = some (.bool c.event) := by rw [c.at _ (by decide)]; rfl

theorem Cor.set (c : Cor) (k : Nat) (u : Value) (h : 31 ≤ k) : c.cells.setIfInBounds k u = c.x.toArray.map vU ++ c.tail.setIfInBounds (k - 31) u := by
  unfold Cor.cells
  rw [Array.setIfInBounds_append_right (by simpa using h)]
  simp
theorem Cor.setX (c : Cor) (k : Nat) (u : Int) (h : k < 31) : c.cells.setIfInBounds k (vU u) = ({ c with x := c.x.set k u } : Cor).cells := by
  unfold Cor.cells
  rw [Array.setIfInBounds_append_left (by simpa using h)]
  congr 1
  apply Array.ext
  · simp
  · intro i h1 h2
    simp [Array.setIfInBounds, h]
@[go_sem] theorem Cor.s31 (c : Cor) (u : Int) : c.cells.setIfInBounds 31 (vU u) = ({ c with sp0 := u } : Cor).cells := by rw [c.set _ _ (by decide)]; rfl
@[go_sem] theorem Cor.s32 (c : Cor) (u : Int) : c.cells.setIfInBounds 32 (vU u) = ({ c with sp1 := u } : Cor).cells := by rw [c.set _ _ (by decide)]; rfl
@[go_sem] theorem Cor.s33 (c : Cor) (u : Int) : c.cells.setIfInBounds 33 (vU u) = ({ c with pc := u } : Cor).cells := by rw [c.set _ _ (by decide)]; rfl
@[go_sem] theorem Cor.s34 (c : Cor) (u : Bool) : c.cells.setIfInBounds 34 (.bool u) = ({ c with n := u } : Cor).cells := by rw [c.set _ _ (by decide)]; rfl
@[go_sem] theorem Cor.s35 (c : Cor) (u : Bool) : c.cells.setIfInBounds 35 (.bool u) = ({ c with z := u } : Cor).cells := by rw [c.set _ _ (by decide)]; rfl
@[go_sem] theorem Cor.s36 (c : Cor) (u : Bool) : c.cells.setIfInBounds 36 (.bool u) = ({ c with c := u } : Cor).cells := by rw [c.set _ _ (by decide)]; rfl
@[go_sem] theorem Cor.s37 (c : Cor) (u : Bool) : c.cells.setIfInBounds 37 (.bool u) = ({ c with v := u } : Cor).cells := by rw [c.set _ _ (by decide)]; rfl
@[go_sem] theorem Cor.s38 (c : Cor) (u : Int) : c.cells.setIfInBounds 38 (vI u) = ({ c with el := u } : Cor).cells := by rw [c.set _ _ (by decide)]; rfl
@[go_sem] theorem Cor.s39 (c : Cor) (u : Bool) : c.cells.setIfInBounds 39 (.bool u) = ({ c with mask := u } : Cor).cells := by rw [c.set _ _ (by decide)]; rfl
@[go_sem] theorem Cor.s40 (c : Cor) (u : Int) : c.cells.setIfInBounds 40 (vU u) = ({ c with spsr := u } : Cor).cells := by rw [c.set _ _ (by decide)]; rfl
@[go_sem] theorem Cor.s41 (c : Cor) (u : Int) : c.cells.setIfInBounds 41 (vU u) = ({ c with elr := u } : Cor).cells := by rw [c.set _ _ (by decide)]; rfl
@[go_sem] theorem Cor.s42 (c : Cor) (u : Int) : c.cells.setIfInBounds 42 (vU u) = ({ c with esr := u } : Cor).cells := by rw [c.set _ _ (by decide)]; rfl
@[go_sem] theorem Cor.s43 (c : Cor) (u : Int) : c.cells.setIfInBounds 43 (vU u) = ({ c with far := u } : Cor).cells := by rw [c.set _ _ (by decide)]; rfl
@[go_sem] theorem Cor.s44 (c : Cor) (u : Int) : c.cells.setIfInBounds 44 (vU u) = ({ c with vbar := u } : Cor).cells := by rw [c.set _ _ (by decide)]; rfl
@[go_sem] theorem Cor.s45 (c : Cor) (u : Int) : c.cells.setIfInBounds 45 (vU u) = ({ c with tpidr := u } : Cor).cells := by rw [c.set _ _ (by decide)]; rfl
@[go_sem] theorem Cor.s46 (c : Cor) (u : Int) : c.cells.setIfInBounds 46 (vI u) = ({ c with id := u } : Cor).cells := by rw [c.set _ _ (by decide)]; rfl
@[go_sem] theorem Cor.s47 (c : Cor) (u : Int) : c.cells.setIfInBounds 47 (vI u) = ({ c with wait := u } : Cor).cells := by rw [c.set _ _ (by decide)]; rfl
@[go_sem] theorem Cor.s48 (c : Cor) (u : Bool) : c.cells.setIfInBounds 48 (.bool u) = ({ c with event := u } : Cor).cells := by rw [c.set _ _ (by decide)]; rfl

def nilC : Cor := ⟨Vector.replicate 31 0, 0, 0, 0, false, false, false, false, 0, false, 0, 0, 0, 0, 0, 0, 0, 0, false⟩
def nilA : Array Value := nilC.cells
theorem Cor.one (c : Cor) : c.cells.all (·.oneCell') = true := by
  rw [Cor.cells, Array.all_append, Bool.and_eq_true]
  refine ⟨?_, by simp [Cor.tail, Value.oneCell']⟩
  rw [Array.all_eq_true_iff_forall_mem]
  intro v hv
  obtain ⟨n, -, rfl⟩ := Array.mem_map.1 hv
  rfl
theorem ret_bool {a b : Bool} (h : a = b) : Ending.returned (.bool a) = .returned (.bool b) := by rw [h]
theorem ret_int {k : IntKind} {a b : Int} (h : a = b) : Ending.returned (.int k a) = .returned (.int k b) := by rw [h]
theorem ret_two {k l : IntKind} {a b c d : Int} (h : a = b) (h' : c = d) : Ending.returned (.tuple #[.int k a, .int l c]) = .returned (.tuple #[.int k b, .int l d]) := by rw [h, h']
theorem below_more {w x : World} {o : Obj} (h : Below w.heap.size w x) : Below w.heap.size w (x.alloc o) := h.alloc h.size o
theorem below_drew {w x : World} (h : Below w.heap.size w x) : Below w.heap.size w x.drew := h.drew
theorem below_drewN {w x : World} {n : Nat} (h : Below w.heap.size w x) : Below w.heap.size w (x.drewN n) := ⟨h.os, h.tape, h.output, h.size, h.block⟩
theorem below_setRow {w x : World} {g : Nat} {cs : Array Value} (h : Below w.heap.size w x) (hg : w.heap.size ≤ g) : Below w.heap.size w (x.setRow g cs) :=
  h.trans ⟨rfl, rfl, rfl, by rw [size_setRow]; exact Nat.le_refl _, fun k hk => setRow_other _ _ _ _ (by omega)⟩

end Go.Proofs.Ytilbnjldfgofmaa
