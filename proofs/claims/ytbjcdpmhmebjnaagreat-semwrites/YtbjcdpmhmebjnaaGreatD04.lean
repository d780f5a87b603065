/- A core's state as a record, and as the machine's cells. -/
import Derived.Test.YtbjcdpmhmebjnaaGreatRows
import Derived.WalkKit
import Derived.WalkSpells
import Derived.WalkLawsBesides
import Derived.Below
import Derived.Laws.Rows
import Derived.Laws.ResultCell
import Derived.BigQuiet
import Derived.Deep.QuietTactic
import Derived.Deep.RegionWith
import Derived.Deep.CutRange
import Derived.Laws.StructEq
import Derived.ChangeKeysEq
import Derived.Test.YtbjcdpmhmebjnaaGreatD01
import Derived.Deep.MidRow
import Derived.Laws.Externs
namespace Go.Proofs.YtbjcdpmhmebjnaaGreat
open Go.RowKit

abbrev vU (n : Int) : Value := .int .u64 n
abbrev r_vI (n : Int) : Value := .int .i64 n

structure Cor where
  x : Vector Int 31
  sp0 : Int
  sp1 : Int
  pc : Int
  n : Bool
  z : Bool
  c : Bool
  v : Bool
  el : Int
  mask : Bool
  spsr : Int
  elr : Int
  esr : Int
  far : Int
  vbar : Int
  tpidr : Int
  id : Int
  wait : Int
  event : Bool

def Cor.tail (c : Cor) : Array Value := #[vU c.sp0, vU c.sp1, vU c.pc, .bool c.n, .bool c.z, .bool c.c, .bool c.v, r_vI c.el, .bool c.mask, vU c.spsr, vU c.elr, vU c.esr, vU c.far, vU c.vbar, vU c.tpidr, r_vI c.id, r_vI c.wait, .bool c.event]
def Cor.cells (c : Cor) : Array Value := c.x.toArray.map vU ++ c.tail
abbrev Cor.val (c : Cor) : Value := .agg c.cells

theorem Cor.size (c : Cor) : c.cells.size = 49 := by simp [Cor.cells, Cor.tail]
theorem Cor.at (c : Cor) (k : Nat) (h : 31 ≤ k) : c.cells[k]? = c.tail[k - 31]? := by
  unfold Cor.cells
  rw [Array.getElem?_append_right (by simpa using h)]
  simp
theorem Cor.atX (c : Cor) (k : Nat) (h : k < 31) : c.cells[k]? = some (vU c.x[k]) := by
  unfold Cor.cells
  rw [Array.getElem?_append_left (by simpa using h)]
  simp [h]
@[go_sem] theorem Cor.a31 (c : Cor) : c.cells[31]? = some (vU c.sp0) := by rw [c.at _ (by decide)]; rfl
@[go_sem] theorem Cor.a32 (c : Cor) : c.cells[32]? = some (vU c.sp1) := by rw [c.at _ (by decide)]; rfl
@[go_sem] theorem Cor.a33 (c : Cor) : c.cells[33]? = some (vU c.pc) := by rw [c.at _ (by decide)]; rfl
@[go_sem] theorem Cor.a34 (c : Cor) : c.cells[34]? = some (.bool c.n) := by rw [c.at _ (by decide)]; rfl
@[go_sem] theorem Cor.a35 (c : Cor) : c.cells[35]? = some (.bool c.z) := by rw [c.at _ (by decide)]; rfl
@[go_sem] theorem Cor.a36 (c : Cor) : c.cells[36]? = some (.bool c.c) := by rw [c.at _ (by decide)]; rfl
@[go_sem] theorem Cor.a37 (c : Cor) : c.cells[37]? = some (.bool c.v) := by rw [c.at _ (by decide)]; rfl
@[go_sem] theorem Cor.a38 (c : Cor) : c.cells[38]? = some (r_vI c.el) := by rw [c.at _ (by decide)]; rfl
@[go_sem] theorem Cor.a39 (c : Cor) : c.cells[39]? = some (.bool c.mask) := by rw [c.at _ (by decide)]; rfl
@[go_sem] theorem Cor.a40 (c : Cor) : c.cells[40]? = some (vU c.spsr) := by rw [c.at _ (by decide)]; rfl
@[go_sem] theorem Cor.a41 (c : Cor) : c.cells[41]? = some (vU c.elr) := by rw [c.at _ (by decide)]; rfl
@[go_sem] theorem Cor.a42 (c : Cor) : c.cells[42]? = some (vU c.esr) := by rw [c.at _ (by decide)]; rfl
@[go_sem] theorem Cor.a43 (c : Cor) : c.cells[43]? = some (vU c.far) := by rw [c.at _ (by decide)]; rfl
@[go_sem] theorem Cor.a44 (c : Cor) : c.cells[44]? = some (vU c.vbar) := by rw [c.at _ (by decide)]; rfl
@[go_sem] theorem Cor.a45 (c : Cor) : c.cells[45]? = some (vU c.tpidr) := by rw [c.at _ (by decide)]; rfl
@[go_sem] theorem Cor.a46 (c : Cor) : c.cells[46]? = some (r_vI c.id) := by rw [c.at _ (by decide)]; rfl
@[go_sem] theorem Cor.a47 (c : Cor) : c.cells[47]? = some (r_vI c.wait) := by rw [c.at _ (by decide)]; rfl
@[go_sem] theorem Cor.a48 (c : Cor) : c.cells[48]? = some (.bool c.event) := by rw [c.at _ (by decide)]; rfl

theorem Cor.set (c : Cor) (k : Nat) (u : Value) (h : 31 ≤ k) : c.cells.setIfInBounds k u = c.x.toArray.map vU ++ c.tail.setIfInBounds (k - 31) u := by
  unfold Cor.cells
  rw [Array.setIfInBounds_append_right (by simpa using h)]
  simp
theorem Cor.setX (c : Cor) (k : Nat) (u : Int) (h : k < 31) : c.cells.setIfInBounds k (vU u) = ({ c with x := c.x.set k u } : Cor).cells := by
  unfold Cor.cells
  rw [Array.setIfInBounds_append_left (by simpa using h)]
  congr 1
  apply Array.ext
  · simp
  · intro i h1 h2
    simp [Array.setIfInBounds, h]
@[go_sem] theorem Cor.s31 (c : Cor) (u : Int) : c.cells.setIfInBounds 31 (vU u) = ({ c with sp0 := u } : Cor).cells := by rw [c.set _ _ (by decide)]; rfl
@[go_sem] theorem Cor.s32 (c : Cor) (u : Int) : c.cells.setIfInBounds 32 (vU u) = ({ c with sp1 := u } : Cor).cells := by rw [c.set _ _ (by decide)]; rfl
@[go_sem] theorem Cor.s33 (c : Cor) (u : Int) : c.cells.setIfInBounds 33 (vU u) = ({ c with pc := u } : Cor).cells := by rw [c.set _ _ (by decide)]; rfl
@[go_sem] theorem Cor.s34 (c : Cor) (u : Bool) : c.cells.setIfInBounds 34 (.bool u) = ({ c with n := u } : Cor).cells := by rw [c.set _ _ (by decide)]; rfl
@[go_sem] theorem Cor.s35 (c : Cor) (u : Bool) : c.cells.setIfInBounds 35 (.bool u) = ({ c with z := u } : Cor).cells := by rw [c.set _ _ (by decide)]; rfl
@[go_sem] theorem Cor.s36 (c : Cor) (u : Bool) : c.cells.setIfInBounds 36 (.bool u) = ({ c with c := u } : Cor).cells := by rw [c.set _ _ (by decide)]; rfl
@[go_sem] theorem Cor.s37 (c : Cor) (u : Bool) : c.cells.setIfInBounds 37 (.bool u) = ({ c with v := u } : Cor).cells := by rw [c.set _ _ (by decide)]; rfl
@[go_sem] theorem Cor.s38 (c : Cor) (u : Int) : c.cells.setIfInBounds 38 (r_vI u) = ({ c with el := u } : Cor).cells := by rw [c.set _ _ (by decide)]; rfl
@[go_sem] theorem Cor.s39 (c : Cor) (u : Bool) : c.cells.setIfInBounds 39 (.bool u) = ({ c with mask := u } : Cor).cells := by rw [c.set _ _ (by decide)]; rfl
@[go_sem] theorem Cor.s40 (c : Cor) (u : Int) : c.cells.setIfInBounds 40 (vU u) = ({ c with spsr := u } : Cor).cells := by rw [c.set _ _ (by decide)]; rfl
@[go_sem] theorem Cor.s41 (c : Cor) (u : Int) : c.cells.setIfInBounds 41 (vU u) = ({ c with elr := u } : Cor).cells := by rw [c.set _ _ (by decide)]; rfl
@[go_sem] theorem Cor.s42 (c : Cor) (u : Int) : c.cells.setIfInBounds 42 (vU u) = ({ c with esr := u } : Cor).cells := by rw [c.set _ _ (by decide)]; rfl
@[go_sem] theorem Cor.s43 (c : Cor) (u : Int) : c.cells.setIfInBounds 43 (vU u) = ({ c with far := u } : Cor).cells := by rw [c.set _ _ (by decide)]; rfl
@[go_sem] theorem Cor.s44 (c : Cor) (u : Int) : c.cells.setIfInBounds 44 (vU u) = ({ c with vbar := u } : Cor).cells := by rw [c.set _ _ (by decide)]; rfl
@[go_sem] theorem Cor.s45 (c : Cor) (u : Int) : c.cells.setIfInBounds 45 (vU u) = ({ c with tpidr := u } : Cor).cells := by rw [c.set _ _ (by decide)]; rfl
@[go_sem] theorem Cor.s46 (c : Cor) (u : Int) : c.cells.setIfInBounds 46 (r_vI u) = ({ c with id := u } : Cor).cells := by rw [c.set _ _ (by decide)]; rfl
@[go_sem] theorem Cor.s47 (c : Cor) (u : Int) : c.cells.setIfInBounds 47 (r_vI u) = ({ c with wait := u } : Cor).cells := by rw [c.set _ _ (by decide)]; rfl
@[go_sem] theorem Cor.s48 (c : Cor) (u : Bool) : c.cells.setIfInBounds 48 (.bool u) = ({ c with event := u } : Cor).cells := by rw [c.set _ _ (by decide)]; rfl

def nilC : Cor := ⟨Vector.replicate 31 0, 0, 0, 0, false, false, false, false, 0, false, 0, 0, 0, 0, 0, 0, 0, 0, false⟩
def nilA : Array Value := nilC.cells
theorem Cor.one (c : Cor) : c.cells.all (·.oneCell') = true := by
  rw [Cor.cells, Array.all_append, Bool.and_eq_true]
  refine ⟨?_, by simp [Cor.tail, Value.oneCell']⟩
  rw [Array.all_eq_true_iff_forall_mem]
  intro v hv
  obtain ⟨n, -, rfl⟩ := Array.mem_map.1 hv
  rfl
theorem info26 : (Tryz.prog.info? 26).map (·.size) = some 49 := by kernel_rfl
theorem Cor.info (c : Cor) : (Tryz.prog.info? 26).map (·.size) = some c.cells.size := by rw [Cor.size]; exact info26
theorem r_ret_bool {a b : Bool} (h : a = b) : Ending.returned (.bool a) = .returned (.bool b) := by rw [h]
theorem r_ret_int {k : IntKind} {a b : Int} (h : a = b) : Ending.returned (.int k a) = .returned (.int k b) := by rw [h]
theorem r_ret_two {k l : IntKind} {a b c d : Int} (h : a = b) (h' : c = d) : Ending.returned (.tuple #[.int k a, .int l c]) = .returned (.tuple #[.int k b, .int l d]) := by rw [h, h']
theorem r_below_alloc (w : World) (o : Obj) : Below w.heap.size w (w.alloc o) := (Below.refl _ w).alloc (Nat.le_refl _) o
theorem r_below_more {w x : World} {o : Obj} (h : Below w.heap.size w x) : Below w.heap.size w (x.alloc o) := h.alloc h.size o
theorem r_below_then {w x y : World} (h : Below w.heap.size w x) (k : Below x.heap.size x y) : Below w.heap.size w y := h.trans (k.mono h.size)
theorem below_drew {w x : World} (h : Below w.heap.size w x) : Below w.heap.size w x.drew := h.drew
theorem r_below_drewN {w x : World} {n : Nat} (h : Below w.heap.size w x) : Below w.heap.size w (x.drewN n) := ⟨h.os, h.tape, h.output, h.size, h.block⟩
theorem r_below_setRow {w x : World} {g : Nat} {cs : Array Value} (h : Below w.heap.size w x) (hg : w.heap.size ≤ g) : Below w.heap.size w (x.setRow g cs) :=
  h.trans ⟨rfl, rfl, rfl, by rw [size_setRow]; exact Nat.le_refl _, fun k hk => setRow_other _ _ _ _ (by omega)⟩

/-- What a function gives back whose first result is a core's state, laid in a variable, and whose second is a slot. -/
theorem back_two {fn : Func} {p u : Tmp} (h : fn.results = #[.cell p 26, .tmp u]) (tmps : Array Value) (w : World) (g : Nat) (c : Cor) (fr : Nat × Nat) (t : TypeId)
    (hp : tmps.getD p undef = .pointer (some ⟨g, 0, none⟩)) (hg : w.heap[g]? = some (.cells c.cells t fr)) :
    (results fn tmps).run Tryz.prog w = .ok (.tuple #[c.val, tmps.getD u undef]) w := by
  rw [results_cell_tmp h]
  simp [hp, asAddr, run_loadVar_row w g t 26 c.cells fr _ hg Tryz.underlying26 rfl c.info]
theorem back_one {fn : Func} {p : Tmp} (h : fn.results = #[.cell p 26]) (tmps : Array Value) (w : World) (g : Nat) (c : Cor) (fr : Nat × Nat) (t : TypeId)
    (hp : tmps.getD p undef = .pointer (some ⟨g, 0, none⟩)) (hg : w.heap[g]? = some (.cells c.cells t fr)) :
    (results fn tmps).run Tryz.prog w = .ok c.val w :=
  results_cell_row h tmps w g t c.cells fr _ hp hg Tryz.underlying26 rfl c.info

set_option maxHeartbeats 400000 in
theorem isLevel_c (a : Int) (w : World) :
    Calls Tryz.prog 41 #[r_vI a] w fun e w' => e = .returned (.bool (a == 0 || a == 1)) ∧ w' = w := by
  go_enter Tryz.func41, Tryz.ntmps41
  go_wp2
  all_goals (go_ret; refine ⟨r_ret_bool ?_, rfl⟩; simp_all)
end Go.Proofs.YtbjcdpmhmebjnaaGreat
/- Numbers: single bits, and what is masked off. -/
namespace Go.Proofs.YtbjcdpmhmebjnaaGreat
open Go.RowKit

def bitB (v : Int) (k : Nat) : Bool := v / 2 ^ k % 2 == 1
def U64 (v : Int) : Prop := 0 ≤ v ∧ v < 18446744073709551616

theorem bv64 (a : Nat) (ha : a < 18446744073709551616) : (BitVec.ofInt 64 (a : Int)).toNat = a := by
  rw [BitVec.ofInt_natCast, BitVec.toNat_ofNat]; exact Nat.mod_eq_of_lt (by omega)
theorem and64 (a b : Nat) (ha : a < 18446744073709551616) (hb : b < 18446744073709551616) : bits .and .u64 (a : Int) (b : Int) = ((a &&& b : Nat) : Int) := by
  have hx : a &&& b < 2 ^ 64 := Nat.and_lt_two_pow _ (by omega)
  show IntKind.u64.wrap ((BitVec.ofInt 64 (a : Int) &&& BitVec.ofInt 64 (b : Int)).toNat : Int) = _
  rw [BitVec.toNat_and, bv64 a ha, bv64 b hb, IntKind.wrap_u64]
  omega
theorem andNot64 (a b : Nat) (ha : a < 18446744073709551616) (hb : b < 18446744073709551616) : bits .andNot .u64 (a : Int) (b : Int) = ((a &&& (18446744073709551616 - (b + 1)) : Nat) : Int) := by
  have hx : a &&& (18446744073709551616 - (b + 1)) < 2 ^ 64 := Nat.and_lt_two_pow _ (by omega)
  show IntKind.u64.wrap ((BitVec.ofInt 64 (a : Int) &&& ~~~ BitVec.ofInt 64 (b : Int)).toNat : Int) = _
  rw [BitVec.toNat_and, BitVec.toNat_not, bv64 a ha, bv64 b hb, IntKind.wrap_u64, show (2 : Nat) ^ 64 - 1 - b = 18446744073709551616 - (b + 1) by omega]
  omega
theorem nat_of {v : Int} (h : U64 v) : ∃ V : Nat, v = V ∧ V < 18446744073709551616 := ⟨v.toNat, by have := h.1; omega, by have := h.1; have := h.2; omega⟩
theorem bitB_nat (V k : Nat) : bitB (V : Int) k = V.testBit k := by
  unfold bitB
  rw [Nat.testBit_eq_decide_div_mod_eq]
  have e : ((V : Int) / 2 ^ k % 2) = ((V / 2 ^ k % 2 : Nat) : Int) := by simp
  rw [e]
  apply Bool.eq_iff_iff.2
  simp
  omega
theorem and_bit {v : Int} (h : U64 v) (k : Nat) (hk : k < 64) : (bits .and .u64 v ((2 ^ k : Nat) : Int) != 0) = bitB v k := by
  obtain ⟨V, rfl, hV⟩ := nat_of h
  have hp : 2 ^ k < 2 ^ 64 := Nat.pow_lt_pow_right (by decide) hk
  rw [and64 V _ hV hp, bitB_nat]
  have e : ∀ i, (V &&& 2 ^ k).testBit i = (V.testBit i && decide (k = i)) := fun i => by rw [Nat.testBit_and, Nat.testBit_two_pow]
  cases hb : V.testBit k
  · have : V &&& 2 ^ k = 0 := Nat.eq_of_testBit_eq fun i => by
      rw [e i, Nat.zero_testBit]
      by_cases hi : k = i
      · subst hi; simp [hb]
      · simp [hi]
    rw [this]; rfl
  · have : V &&& 2 ^ k ≠ 0 := fun h0 => by
      have := e k
      rw [h0, Nat.zero_testBit, hb] at this
      simp at this
    simp; omega
theorem and_31 {v : Int} (h : U64 v) : (bits .and .u64 v 2147483648 != 0) = bitB v 31 := and_bit h 31 (by decide)
theorem and_30 {v : Int} (h : U64 v) : (bits .and .u64 v 1073741824 != 0) = bitB v 30 := and_bit h 30 (by decide)
theorem and_29 {v : Int} (h : U64 v) : (bits .and .u64 v 536870912 != 0) = bitB v 29 := and_bit h 29 (by decide)
theorem and_28 {v : Int} (h : U64 v) : (bits .and .u64 v 268435456 != 0) = bitB v 28 := and_bit h 28 (by decide)
theorem and_7 {v : Int} (h : U64 v) : (bits .and .u64 v 128 != 0) = bitB v 7 := and_bit h 7 (by decide)
theorem and_word {v : Int} (h : U64 v) : bits .and .u64 v 4294967295 = v % 4294967296 := by
  obtain ⟨V, rfl, hV⟩ := nat_of h
  have := and64 V 4294967295 hV (by decide)
  rw [show ((4294967295 : Nat) : Int) = 4294967295 from rfl] at this
  rw [this, show (4294967295 : Nat) = 2 ^ 32 - 1 from rfl, Nat.and_two_pow_sub_one_eq_mod]
  omega
theorem andNot_vbar {v : Int} (h : U64 v) : bits .andNot .u64 v 2047 = v - v % 2048 := by
  obtain ⟨V, rfl, hV⟩ := nat_of h
  have := andNot64 V 2047 hV (by decide)
  rw [show ((2047 : Nat) : Int) = 2047 from rfl] at this
  rw [this]
  have e : V &&& (18446744073709551616 - (2047 + 1)) = V / 2048 * 2048 := by
    apply Nat.eq_of_testBit_eq
    intro i
    rw [Nat.testBit_and, show (18446744073709551616 - (2047 + 1) : Nat) = (2 ^ 53 - 1) * 2 ^ 11 by decide, show V / 2048 * 2048 = V / 2 ^ 11 * 2 ^ 11 by rfl, Nat.testBit_mul_two_pow, Nat.testBit_mul_two_pow, Nat.testBit_two_pow_sub_one, Nat.testBit_div_two_pow]
    by_cases hi : 11 ≤ i
    · by_cases h2 : i - 11 < 53
      · simp [hi, h2, show i - 11 + 11 = i by omega]
      · have : V.testBit i = false := Nat.testBit_lt_two_pow (Nat.lt_of_lt_of_le (show V < 2 ^ 64 from hV) (Nat.pow_le_pow_right (Nat.zero_lt_two) (by omega : 64 ≤ i)))
        simp [this, hi, show i - 11 + 11 = i by omega]
    · simp [hi]
  rw [e]
  omega
/-- A number whose bits are all bits of another. -/
theorem and_sub {x v : Int} (hx : U64 x) (hv : U64 v) (h : ∀ i, x.toNat.testBit i = true → v.toNat.testBit i = true) : bits .and .u64 x v = x := by
  obtain ⟨X, rfl, hX⟩ := nat_of hx
  obtain ⟨V, rfl, hV⟩ := nat_of hv
  rw [and64 X V hX hV]
  congr 1
  apply Nat.eq_of_testBit_eq
  intro i
  have := h i
  simp only [Int.toNat_natCast] at this
  rw [Nat.testBit_and]
  cases e : X.testBit i
  · rfl
  · simp [this e]
end Go.Proofs.YtbjcdpmhmebjnaaGreat
/- Two cores' states held against each other, as the machine does it: whole structs, with the arrays in them. -/
namespace Go.Proofs.YtbjcdpmhmebjnaaGreat
open Go.RowKit

def xEq (a b : Vector Int 31) : Bool := (List.range 31).all fun i => a.toArray.getD i 0 == b.toArray.getD i 0
def eqC (c d : Cor) : Bool := xEq c.x d.x && (((c.sp0 == d.sp0) && (c.sp1 == d.sp1)) && (c.pc == d.pc && (c.n == d.n && (c.z == d.z && (c.c == d.c && (c.v == d.v && (c.el == d.el && (c.mask == d.mask && (c.spsr == d.spsr && (c.elr == d.elr && (c.esr == d.esr && (c.far == d.far && (c.vbar == d.vbar && (c.tpidr == d.tpidr && (c.id == d.id && (c.wait == d.wait && (c.event == d.event)))))))))))))))))
theorem xEq_iff (a b : Vector Int 31) : xEq a b = true ↔ a = b := by
  constructor
  · intro h
    apply Vector.ext
    intro i hi
    have := List.all_eq_true.1 h i (List.mem_range.2 hi)
    simpa [hi] using this
  · rintro rfl
    simp [xEq]
theorem eqC_iff (c d : Cor) : eqC c d = true ↔ c = d := by
  obtain ⟨x, sp0, sp1, pc, n, z, cc, v, el, mask, spsr, elr, esr, far, vbar, tpidr, id, wait, event⟩ := c
  obtain ⟨x', sp0', sp1', pc', n', z', cc', v', el', mask', spsr', elr', esr', far', vbar', tpidr', id', wait', event'⟩ := d
  simp only [eqC, Bool.and_eq_true, beq_iff_eq, Cor.mk.injEq, xEq_iff, and_assoc]
theorem eqC_refl (c : Cor) : eqC c c = true := (eqC_iff c c).2 rfl
theorem eqC_ne {c d : Cor} (h : c ≠ d) : eqC c d = false := by
  cases e : eqC c d
  · rfl
  · exact absurd ((eqC_iff c d).1 e) h

theorem stood26 : Tryz.prog.stoodInHeld 26 = false := by kernel_rfl
theorem fields26 : Tryz.prog.underlying 26 = some (.struct (Tryz.prog.fieldsOf 26)) := by rw [Program.fieldsOf, Tryz.underlying26]
theorem eqField {d : Nat} {xs ys : Array Value} {f : Field} {fs : List Field} {r s : Bool} (w : World) (hn : f.name ≠ "_")
    (h : ((part f.type xs f.offset).run Tryz.prog w).andThen (fun a w1 => ((part f.type ys f.offset).run Tryz.prog w1).andThen fun b w2 => (Op.equalIn d f.type a b).run Tryz.prog w2) = .ok r w)
    (hs : (Op.eqFields d xs ys fs).run Tryz.prog w = .ok s w) : (Op.eqFields d xs ys (f :: fs)).run Tryz.prog w = .ok (r && s) w := by
  simp only [Op.eqFields, if_pos hn, Sem.run_bind]
  generalize (part f.type xs f.offset).run Tryz.prog w = r1 at h ⊢
  cases r1 with
  | ok a w1 =>
    simp only [Result.andThen_ok] at h ⊢
    generalize (part f.type ys f.offset).run Tryz.prog w1 = r2 at h ⊢
    cases r2 with
    | ok b w2 =>
      simp only [Result.andThen_ok] at h ⊢
      rw [h]
      cases r
      · simp
      · simpa using hs
    | halt x w2 => simp [Result.andThen] at h
  | halt x w1 => simp [Result.andThen] at h
theorem part_u (xs : Array Value) (k : Nat) (v : Value) (w : World) (h : xs[k]? = some v) : (part 22 xs k).run Tryz.prog w = .ok v w := by
  simp [part, isAgg, run_underlying Tryz.underlying22, h]
theorem items (d : Nat) (xs ys : Array Value) (f g : Nat → Int) (w : World) : ∀ is : List Nat, (∀ i ∈ is, xs[i]? = some (vU (f i)) ∧ ys[i]? = some (vU (g i))) →
    (Op.eqItems (d + 1) 22 1 xs ys is).run Tryz.prog w = .ok (is.all fun i => f i == g i) w
  | [], _ => by simp [Op.eqItems]
  | i :: is, h => by
    obtain ⟨h1, h2⟩ := h i (by simp)
    have ih := items d xs ys f g w is (fun j hj => h j (by simp [hj]))
    simp only [Op.eqItems, Sem.run_bind, Nat.mul_one, part_u xs i _ w h1, part_u ys i _ w h2, Result.andThen_ok, run_equalIn_int w d 22 .u64 .u64 _ _ Tryz.underlying22]
    cases hh : f i == g i
    · simp [hh]
    · simpa [hh] using ih
theorem info22 : ∃ i, Tryz.prog.info? 22 = some i := Option.isSome_iff_exists.1 (show (Tryz.prog.info? 22).isSome = true by kernel_rfl)
theorem cells22 : Tryz.prog.cellsOf 22 = 1 := by kernel_rfl
theorem arr_eq (n d : Nat) (t : TypeId) (ht : Tryz.prog.underlying t = some (.array n 22)) (xs ys : Array Value) (f g : Nat → Int) (w : World) (h : ∀ i ∈ List.range n, xs[i]? = some (vU (f i)) ∧ ys[i]? = some (vU (g i))) :
    (Op.equalIn (d + 2) t (.agg xs) (.agg ys)).run Tryz.prog w = .ok ((List.range n).all fun i => f i == g i) w := by
  obtain ⟨i, hi⟩ := info22
  rw [run_equalIn_array w (d + 1) xs ys ht hi, cells22]
  exact items d xs ys f g w _ h
theorem part_arr (n : Nat) (t : TypeId) (ht : Tryz.prog.underlying t = some (.array n 22)) (k : Nat) (hi : (Tryz.prog.info? t).map (·.size) = some k) (cs : Array Value) (off : Nat) (w : World) : (part t cs off).run Tryz.prog w = .ok (.agg (cs.extract off (off + k))) w := by
  cases hq : Tryz.prog.info? t with
  | none => simp [hq] at hi
  | some i =>
    have hs : i.size = k := by simpa [hq] using hi
    simp [part, isAgg, run_underlying ht, sizeOf, typeInfo, hq, hs]
theorem r_part_c (t : TypeId) (ht : t = 22 ∨ t = 3 ∨ t = 4) (xs : Array Value) (k : Nat) (v : Value) (w : World) (h : xs[k]? = some v) : (part t xs k).run Tryz.prog w = .ok v w := by
  rcases ht with rfl | rfl | rfl
  · simp [part, isAgg, run_underlying Tryz.underlying22, h]
  · simp [part, isAgg, run_underlying Tryz.underlying3, h]
  · simp [part, isAgg, run_underlying Tryz.underlying4, h]
theorem info23 : (Tryz.prog.info? 23).map (·.size) = some 31 := by kernel_rfl
theorem info24 : (Tryz.prog.info? 24).map (·.size) = some 2 := by kernel_rfl
theorem ext_x (c : Cor) : ∀ i ∈ List.range 31, (c.cells.extract 0 (0 + 31))[i]? = some (vU (c.x.toArray.getD i 0)) := by
  intro i hi
  have hi := List.mem_range.1 hi
  rw [Array.getElem?_extract, Cor.size, if_pos (by omega), Nat.zero_add, c.atX i hi]
  simp [hi]
theorem ext_sp (c : Cor) : ∀ i ∈ List.range 2, (c.cells.extract 31 (31 + 2))[i]? = some (vU ((#[c.sp0, c.sp1] : Array Int).getD i 0)) := by
  intro i hi
  have hi := List.mem_range.1 hi
  rw [Array.getElem?_extract, Cor.size, if_pos (by omega)]
  rcases (by omega : i = 0 ∨ i = 1) with rfl | rfl
  · rw [c.a31]; rfl
  · rw [c.a32]; rfl
set_option maxRecDepth 4000 in
set_option maxHeartbeats 1000000 in
theorem core_eq (c d : Cor) (w : World) : (Op.equalIn 10000 26 c.val d.val).run Tryz.prog w = .ok (eqC c d) w := by
  rw [run_equalIn_agg w 9999 26 _ _ fields26 stood26]
  rw [show (Tryz.prog.fieldsOf 26).toList = [⟨"X", 23, 0, false, "", "", 0⟩, ⟨"SP", 24, 31, false, "", "", 248⟩, ⟨"PC", 22, 33, false, "", "", 264⟩, ⟨"N", 4, 34, false, "", "", 272⟩, ⟨"Z", 4, 35, false, "", "", 273⟩, ⟨"C", 4, 36, false, "", "", 274⟩, ⟨"V", 4, 37, false, "", "", 275⟩, ⟨"EL", 3, 38, false, "", "", 280⟩, ⟨"Mask", 4, 39, false, "", "", 288⟩, ⟨"Spsr", 22, 40, false, "", "", 296⟩, ⟨"Elr", 22, 41, false, "", "", 304⟩, ⟨"Esr", 22, 42, false, "", "", 312⟩, ⟨"Far", 22, 43, false, "", "", 320⟩, ⟨"Vbar", 22, 44, false, "", "", 328⟩, ⟨"Tpidr", 22, 45, false, "", "", 336⟩, ⟨"Id", 3, 46, false, "", "", 344⟩, ⟨"Wait", 3, 47, false, "", "", 352⟩, ⟨"Event", 4, 48, false, "", "", 360⟩] by rw [Program.fieldsOf, Tryz.underlying26]]
  refine (eqField (r := xEq c.x d.x) w (by decide) ?_ (eqField (r := ((c.sp0 == d.sp0) && (c.sp1 == d.sp1))) w (by decide) ?_ (eqField (r := c.pc == d.pc) w (by decide) ?_ (eqField (r := c.n == d.n) w (by decide) ?_ (eqField (r := c.z == d.z) w (by decide) ?_ (eqField (r := c.c == d.c) w (by decide) ?_ (eqField (r := c.v == d.v) w (by decide) ?_ (eqField (r := c.el == d.el) w (by decide) ?_ (eqField (r := c.mask == d.mask) w (by decide) ?_ (eqField (r := c.spsr == d.spsr) w (by decide) ?_ (eqField (r := c.elr == d.elr) w (by decide) ?_ (eqField (r := c.esr == d.esr) w (by decide) ?_ (eqField (r := c.far == d.far) w (by decide) ?_ (eqField (r := c.vbar == d.vbar) w (by decide) ?_ (eqField (r := c.tpidr == d.tpidr) w (by decide) ?_ (eqField (r := c.id == d.id) w (by decide) ?_ (eqField (r := c.wait == d.wait) w (by decide) ?_ (eqField (r := c.event == d.event) w (by decide) ?_ (rfl : (Op.eqFields 9999 c.cells d.cells []).run Tryz.prog w = .ok true w))))))))))))))))))).trans ?_
  · simp only [part_arr 31 23 Tryz.underlying23 31 info23, Result.andThen_ok]
    rw [arr_eq 31 9997 23 Tryz.underlying23 _ _ (fun i => c.x.toArray.getD i 0) (fun i => d.x.toArray.getD i 0) w (fun i hi => ⟨ext_x c i hi, ext_x d i hi⟩)]
    rfl
  · simp only [part_arr 2 24 Tryz.underlying24 2 info24, Result.andThen_ok]
    rw [arr_eq 2 9997 24 Tryz.underlying24 _ _ (fun i => (#[c.sp0, c.sp1] : Array Int).getD i 0) (fun i => (#[d.sp0, d.sp1] : Array Int).getD i 0) w (fun i hi => ⟨ext_sp c i hi, ext_sp d i hi⟩)]
    simp [List.range_succ]
  · simp only [r_part_c 22 (by decide) _ _ _ _ c.a33, r_part_c 22 (by decide) _ _ _ _ d.a33, Result.andThen_ok, run_equalIn_int w 9998 22 .u64 .u64 _ _ Tryz.underlying22]
  · simp only [r_part_c 4 (by decide) _ _ _ _ c.a34, r_part_c 4 (by decide) _ _ _ _ d.a34, Result.andThen_ok, run_equalIn_bool' w 9998 4 _ _ Tryz.underlying4]
  · simp only [r_part_c 4 (by decide) _ _ _ _ c.a35, r_part_c 4 (by decide) _ _ _ _ d.a35, Result.andThen_ok, run_equalIn_bool' w 9998 4 _ _ Tryz.underlying4]
  · simp only [r_part_c 4 (by decide) _ _ _ _ c.a36, r_part_c 4 (by decide) _ _ _ _ d.a36, Result.andThen_ok, run_equalIn_bool' w 9998 4 _ _ Tryz.underlying4]
  · simp only [r_part_c 4 (by decide) _ _ _ _ c.a37, r_part_c 4 (by decide) _ _ _ _ d.a37, Result.andThen_ok, run_equalIn_bool' w 9998 4 _ _ Tryz.underlying4]
  · simp only [r_part_c 3 (by decide) _ _ _ _ c.a38, r_part_c 3 (by decide) _ _ _ _ d.a38, Result.andThen_ok, run_equalIn_int w 9998 3 .i64 .i64 _ _ Tryz.underlying3]
  · simp only [r_part_c 4 (by decide) _ _ _ _ c.a39, r_part_c 4 (by decide) _ _ _ _ d.a39, Result.andThen_ok, run_equalIn_bool' w 9998 4 _ _ Tryz.underlying4]
  · simp only [r_part_c 22 (by decide) _ _ _ _ c.a40, r_part_c 22 (by decide) _ _ _ _ d.a40, Result.andThen_ok, run_equalIn_int w 9998 22 .u64 .u64 _ _ Tryz.underlying22]
  · simp only [r_part_c 22 (by decide) _ _ _ _ c.a41, r_part_c 22 (by decide) _ _ _ _ d.a41, Result.andThen_ok, run_equalIn_int w 9998 22 .u64 .u64 _ _ Tryz.underlying22]
  · simp only [r_part_c 22 (by decide) _ _ _ _ c.a42, r_part_c 22 (by decide) _ _ _ _ d.a42, Result.andThen_ok, run_equalIn_int w 9998 22 .u64 .u64 _ _ Tryz.underlying22]
  · simp only [r_part_c 22 (by decide) _ _ _ _ c.a43, r_part_c 22 (by decide) _ _ _ _ d.a43, Result.andThen_ok, run_equalIn_int w 9998 22 .u64 .u64 _ _ Tryz.underlying22]
  · simp only [r_part_c 22 (by decide) _ _ _ _ c.a44, r_part_c 22 (by decide) _ _ _ _ d.a44, Result.andThen_ok, run_equalIn_int w 9998 22 .u64 .u64 _ _ Tryz.underlying22]
  · simp only [r_part_c 22 (by decide) _ _ _ _ c.a45, r_part_c 22 (by decide) _ _ _ _ d.a45, Result.andThen_ok, run_equalIn_int w 9998 22 .u64 .u64 _ _ Tryz.underlying22]
  · simp only [r_part_c 3 (by decide) _ _ _ _ c.a46, r_part_c 3 (by decide) _ _ _ _ d.a46, Result.andThen_ok, run_equalIn_int w 9998 3 .i64 .i64 _ _ Tryz.underlying3]
  · simp only [r_part_c 3 (by decide) _ _ _ _ c.a47, r_part_c 3 (by decide) _ _ _ _ d.a47, Result.andThen_ok, run_equalIn_int w 9998 3 .i64 .i64 _ _ Tryz.underlying3]
  · simp only [r_part_c 4 (by decide) _ _ _ _ c.a48, r_part_c 4 (by decide) _ _ _ _ d.a48, Result.andThen_ok, run_equalIn_bool' w 9998 4 _ _ Tryz.underlying4]
  · simp only [eqC, Bool.and_true]

theorem guard26 : Tryz.prog.eqGuardType Tryz.prog.depth 26 = false := by kernel_rfl
theorem wpList_eql_core {ops : Array Oper} {rest : List Oper} {o : Oper} {a : Act} {w : World} {Q : Exit → Act → World → Prop} (hw : Region.wanted o (yielded ops a.tmps) = true) (x y : Operand) (ho : o.op = .binOp .eql 26 x y 26)
    (c d : Cor) (hx : a.eval x = .agg c.cells) (hy : a.eval y = .agg d.cells) (b : Bool) (hb : eqC c d = b) (h : wpList Tryz.prog ops Q rest (a.put o.dst (.bool b)) w) : wpList Tryz.prog ops Q (o :: rest) a w := by
  refine BigFrame.wpList_want hw fun K hK => ?_
  have he := core_eq c d w
  rw [hb] at he
  unfold Oper.wp execOp
  simp only [ho, hx, hy, Sem.run_bind, run_eqGuard_agg w _ _ _ _ _ _ guard26, Result.andThen_ok, run_eql_struct, he]
  exact hK _ _ h
theorem wpList_neq_core {ops : Array Oper} {rest : List Oper} {o : Oper} {a : Act} {w : World} {Q : Exit → Act → World → Prop} (hw : Region.wanted o (yielded ops a.tmps) = true) (x y : Operand) (ho : o.op = .binOp .neq 26 x y 26)
    (c d : Cor) (hx : a.eval x = .agg c.cells) (hy : a.eval y = .agg d.cells) (b : Bool) (hb : eqC c d = b) (h : wpList Tryz.prog ops Q rest (a.put o.dst (.bool (!b))) w) : wpList Tryz.prog ops Q (o :: rest) a w := by
  refine BigFrame.wpList_want hw fun K hK => ?_
  have he := core_eq c d w
  rw [hb] at he
  unfold Oper.wp execOp
  simp only [ho, hx, hy, Sem.run_bind, run_eqGuard_agg w _ _ _ _ _ _ guard26, Result.andThen_ok, run_neq_struct, he]
  exact hK _ _ h
theorem r_wpList_load_if {P : Program} {ops : Array Oper} {rest : List Oper} {o : Oper} {a : Act} {w : World} {Q : Exit → Act → World → Prop} (hw : Region.wanted o (yielded ops a.tmps) = true) (ty : TypeId) (x : Operand) (ho : o.op = .load ty x)
    (g : Nat) (hx : a.eval x = .pointer (some ⟨g, 0, none⟩)) (t : TypeId) (cs : Array Value) (fr : Nat × Nat) (d : TypeDesc) (hg : w.heap[g]? = some (.cells cs t fr))
    (hu : P.underlying ty = some d) (hd : (match d with | .struct _ | .array _ _ => true | _ => false) = true) (hi : (P.info? ty).map (·.size) = some cs.size)
    (h : wpList P ops Q rest (a.put o.dst (.agg cs)) w) : wpList P ops Q (o :: rest) a w :=
  BigFrame.wpList_want hw fun _ hK => wp_load_row ty x ho g hx t cs fr d hg hu hd hi (hK _ _ h)
end Go.Proofs.YtbjcdpmhmebjnaaGreat
/- What the functions of package regs, and the document's own, tell of a state: contracts, for every state. -/
namespace Go.Proofs.YtbjcdpmhmebjnaaGreat
open Go.RowKit

theorem ret_ub {k : IntKind} {a b : Int} {c d : Bool} (h : a = b) (h' : c = d) : Ending.returned (.tuple #[.int k a, .bool c]) = .returned (.tuple #[.int k b, .bool d]) := by rw [h, h']
theorem ret_bi {k : IntKind} {a b : Int} {c d : Bool} (h : c = d) (h' : a = b) : Ending.returned (.tuple #[.bool c, .int k a]) = .returned (.tuple #[.bool d, .int k b]) := by rw [h, h']
theorem ret_bb {a b c d : Bool} (h : c = d) (h' : a = b) : Ending.returned (.tuple #[.bool c, .bool a]) = .returned (.tuple #[.bool d, .bool b]) := by rw [h, h']
def regB (r : Int) : Bool := decide (0 ≤ r) && decide (r ≤ 31)
def regE (r : Int) : Int := bif regB r then 0 else 1
def xV (c : Cor) (r : Int) : Int := if 0 ≤ r then c.x.toArray.getD r.toNat 0 else 0
def spV (c : Cor) : Int := if c.el = 0 then c.sp0 else if c.el = 1 then c.sp1 else 0
def spE (c : Cor) : Int := if c.el = 0 ∨ c.el = 1 then 0 else 1
def rightC (c : Cor) : Bool := (c.el == 0 || c.el == 1) && decide (0 ≤ c.wait) && decide (c.wait ≤ 2) && decide (0 ≤ c.id) && decide (c.id ≤ 7)
def nzcvV (c : Cor) : Int := (bif c.n then 2147483648 else 0) + (bif c.z then 1073741824 else 0) + (bif c.c then 536870912 else 0) + (bif c.v then 268435456 else 0)
set_option maxHeartbeats 400000 in
theorem isRegister_c (r : Int) (w : World) : Calls Tryz.prog 247 #[r_vI r] w fun e w' => e = .returned (.bool (regB r)) ∧ w' = w := by
  go_enter Tryz.func247, Tryz.ntmps247
  go_wp2
  all_goals (go_ret; refine ⟨r_ret_bool ?_, rfl⟩; unfold regB; first | (rw [eq_comm, decide_eq_false_iff_not]; omega) | (simp_all; try omega))
set_option maxHeartbeats 400000 in
theorem bitIf_c (b : Bool) (k : Int) (w : World) : Calls Tryz.prog 225 #[.bool b, vU k] w fun e w' => e = .returned (vU (bif b then k else 0)) ∧ w' = w := by
  cases b
  all_goals
    go_enter Tryz.func225, Tryz.ntmps225
    go_wp2
    go_ret
    exact ⟨rfl, rfl⟩
def pw (k : Int) : Int := bif k == 31 then 2147483648 else bif k == 30 then 1073741824 else bif k == 29 then 536870912 else bif k == 28 then 268435456 else 128
set_option maxHeartbeats 1000000 in
theorem X_c (c : Cor) (r : Int) (w : World) : Calls Tryz.prog 220 #[c.val, r_vI r] w fun e w' => e = .returned (.tuple #[vU (xV c r), r_vI (regE r)]) ∧ Below w.heap.size w w' := by
  by_cases h0 : 0 ≤ r
  · by_cases h1 : r < 31
    · have hc : (w.alloc (.cells c.cells 26)).cell? ⟨w.heap.size, r.toNat, none⟩ = some (vU (xV c r)) := by
        rw [World.cell?_alloc_new]
        rw [c.atX r.toNat (by omega)]
        simp [xV, h0, show r.toNat < 31 by omega]
      have hB : Hid (regB r = true) := by show _ = _; simp [regB, h0]; omega
      have hb : regB r = true := hB.out
      go_enter Tryz.func220, Tryz.ntmps220
      go_wp2_with (go_at_call 247; refine (isRegister_c _ _).mono ?_; rintro e w1 ⟨rfl, rfl⟩)
      go_ret2
      exact ⟨r_ret_two rfl (by simp [regE, hb]), by repeat (first | exact Below.refl _ _ | apply r_below_more | apply below_drew | apply r_below_drewN)⟩
    · by_cases h2 : r = 31
      · subst h2
        go_enter Tryz.func220, Tryz.ntmps220
        go_wp2_with (go_at_call 247; refine (isRegister_c _ _).mono ?_; rintro e w' ⟨rfl, rfl⟩)
        go_ret2
        exact ⟨r_ret_two (by simp [xV]) (by decide), by repeat (first | exact Below.refl _ _ | apply r_below_more | apply below_drew | apply r_below_drewN)⟩
      · have hb : regB r = false := by simp [regB]; omega
        have hx : Hid (xV c r = 0) := by show _ = _; simp [xV, show ¬ r.toNat < 31 by omega]
        have h3 : 31 < r := by omega
        go_enter Tryz.func220, Tryz.ntmps220
        go_wp2_with (go_at_call 247; refine (isRegister_c _ _).mono ?_; rintro e w' ⟨rfl, rfl⟩)
        go_ret2
        exact ⟨r_ret_two hx.out.symm (by simp [regE, hb]), by repeat (first | exact Below.refl _ _ | apply r_below_more | apply below_drew | apply r_below_drewN)⟩
  · have hb : regB r = false := by simp [regB]; omega
    have hx : Hid (xV c r = 0) := by show _ = _; simp [xV, h0]
    have h3 : r < 0 := by omega
    go_enter Tryz.func220, Tryz.ntmps220
    go_wp2_with (go_at_call 247; refine (isRegister_c _ _).mono ?_; rintro e w' ⟨rfl, rfl⟩)
    go_ret2
    exact ⟨r_ret_two hx.out.symm (by simp [regE, hb]), by repeat (first | exact Below.refl _ _ | apply r_below_more | apply below_drew | apply r_below_drewN)⟩
set_option maxHeartbeats 1000000 in
theorem refX_c (c : Cor) (r : Int) (w : World) : Calls Tryz.prog 50 #[c.val, r_vI r] w fun e w' => e = .returned (.tuple #[vU (xV c r), .bool (regB r)]) ∧ Below w.heap.size w w' := by
  by_cases h0 : 0 ≤ r
  · by_cases h1 : r < 31
    · have hc : (w.alloc (.cells c.cells 26)).cell? ⟨w.heap.size, r.toNat, none⟩ = some (vU (xV c r)) := by
        rw [World.cell?_alloc_new]
        rw [c.atX r.toNat (by omega)]
        simp [xV, h0, show r.toNat < 31 by omega]
      have hb : Hid (regB r = true) := by show _ = _; simp [regB, h0]; omega
      go_enter Tryz.func50, Tryz.ntmps50
      go_wp2
      go_ret2
      exact ⟨ret_ub rfl (by rw [hb.out]), by repeat (first | exact Below.refl _ _ | apply r_below_more | apply below_drew | apply r_below_drewN)⟩
    · by_cases h2 : r = 31
      · subst h2
        go_enter Tryz.func50, Tryz.ntmps50
        go_wp2
        go_ret2
        exact ⟨ret_ub (by simp [xV]) (by decide), by repeat (first | exact Below.refl _ _ | apply r_below_more | apply below_drew | apply r_below_drewN)⟩
      · have hb : Hid (regB r = false) := by show _ = _; simp [regB]; omega
        have hx : Hid (xV c r = 0) := by show _ = _; simp [xV, show ¬ r.toNat < 31 by omega]
        have h3 : 31 < r := by omega
        go_enter Tryz.func50, Tryz.ntmps50
        go_wp2
        go_ret2
        exact ⟨ret_ub hx.out.symm (by rw [hb.out]), by repeat (first | exact Below.refl _ _ | apply r_below_more | apply below_drew | apply r_below_drewN)⟩
  · have hb : Hid (regB r = false) := by show _ = _; simp [regB]; omega
    have hx : Hid (xV c r = 0) := by show _ = _; simp [xV, h0]
    have h3 : r < 0 := by omega
    go_enter Tryz.func50, Tryz.ntmps50
    go_wp2
    go_ret2
    exact ⟨ret_ub hx.out.symm (by rw [hb.out]), by repeat (first | exact Below.refl _ _ | apply r_below_more | apply below_drew | apply r_below_drewN)⟩
set_option maxHeartbeats 400000 in
theorem SP_c (c : Cor) (w : World) :
    Calls Tryz.prog 229 #[c.val] w fun e w' => e = .returned (.tuple #[vU (spV c), r_vI (spE c)]) ∧ Below w.heap.size w w' := by
  rcases (by omega : c.el = 0 ∨ c.el = 1 ∨ (c.el ≠ 0 ∧ c.el ≠ 1)) with h | h | ⟨h, h'⟩
  · go_enter Tryz.func229, Tryz.ntmps229
    go_wp2_with (go_at_call 41; refine (isLevel_c _ _).mono ?_; rintro e w' ⟨rfl, rfl⟩)
    go_ret2
    exact ⟨r_ret_two (by simp [spV, h]) (by simp [spE, h]), by repeat (first | exact Below.refl _ _ | apply r_below_more | apply below_drew | apply r_below_drewN)⟩
  · go_enter Tryz.func229, Tryz.ntmps229
    go_wp2_with (go_at_call 41; refine (isLevel_c _ _).mono ?_; rintro e w' ⟨rfl, rfl⟩)
    go_ret2
    exact ⟨r_ret_two (by simp [spV, h]) (by simp [spE, h]), by repeat (first | exact Below.refl _ _ | apply r_below_more | apply below_drew | apply r_below_drewN)⟩
  · have hb : (c.el == 0 || c.el == 1) = false := by simp [h, h']
    go_enter Tryz.func229, Tryz.ntmps229
    go_wp2_with (go_at_call 41; refine (isLevel_c _ _).mono ?_; rw [hb]; rintro e w' ⟨rfl, rfl⟩)
    go_ret2
    exact ⟨r_ret_two (by simp [spV, h, h']) (by simp [spE, h, h']), by repeat (first | exact Below.refl _ _ | apply r_below_more | apply below_drew | apply r_below_drewN)⟩
set_option maxHeartbeats 1000000 in
theorem Right_c (c : Cor) (w : World) : Calls Tryz.prog 21 #[c.val] w fun e w' => e = .returned (.bool (rightC c)) ∧ Below w.heap.size w w' := by
  go_enter Tryz.func21, Tryz.ntmps21
  go_wp2_with (go_at_call 41; refine (isLevel_c _ _).mono ?_; rintro e w' ⟨rfl, rfl⟩)
  all_goals (go_ret; refine ⟨r_ret_bool ?_, by repeat (first | exact Below.refl _ _ | apply r_below_more | apply below_drew | apply r_below_drewN)⟩; unfold rightC; first | (simp_all; done) | (simp_all; omega) | (simp_all; rw [show decide (c.id < 8) = decide (c.id ≤ 7) from decide_eq_decide.2 (by omega)]))
set_option maxHeartbeats 1000000 in
theorem refRight_c (c : Cor) (w : World) : Calls Tryz.prog 23 #[c.val] w fun e w' => e = .returned (.bool (rightC c)) ∧ Below w.heap.size w w' := by
  go_enter Tryz.func23, Tryz.ntmps23
  go_wp2
  all_goals (go_ret; refine ⟨r_ret_bool ?_, by repeat (first | exact Below.refl _ _ | apply r_below_more | apply below_drew | apply r_below_drewN)⟩; unfold rightC; first | (simp_all; done) | (simp_all; omega) | (simp_all; rw [show decide (c.id < 8) = decide (c.id ≤ 7) from decide_eq_decide.2 (by omega)]))
end Go.Proofs.YtbjcdpmhmebjnaaGreat
/- What an instruction wants of the world, as a record; one instruction on its way (a step), as the machine's cells: plain definitions. -/
namespace Go.Proofs.YtbjcdpmhmebjnaaGreat
open Go.RowKit

structure Wnt where
  kind : Int
  addr : Int
  value : Int
  acq : Int
  rel : Bool
  fence : Int
  dsb : Bool
  sys : Int
  cls : Int
  iss : Int
def Wnt.cells (k : Wnt) : Array Value := #[vI k.kind, vU k.addr, vU k.value, vI k.acq, .bool k.rel, vI k.fence, .bool k.dsb, vI k.sys, vI k.cls, vI k.iss]
abbrev Wnt.val (k : Wnt) : Value := .agg k.cells
def nilW : Wnt := ⟨0, 0, 0, 0, false, 0, false, 0, 0, 0⟩
theorem Wnt.size (k : Wnt) : k.cells.size = 10 := rfl
theorem Wnt.one (k : Wnt) : k.cells.all (·.oneCell') = true := by simp [Wnt.cells, Value.oneCell']
@[go_sem] theorem Wnt.a0 (k : Wnt) : k.cells[0]? = some (vI k.kind) := rfl
@[go_sem] theorem Wnt.a1 (k : Wnt) : k.cells[1]? = some (vU k.addr) := rfl
@[go_sem] theorem Wnt.a2 (k : Wnt) : k.cells[2]? = some (vU k.value) := rfl
@[go_sem] theorem Wnt.a3 (k : Wnt) : k.cells[3]? = some (vI k.acq) := rfl
@[go_sem] theorem Wnt.a4 (k : Wnt) : k.cells[4]? = some (.bool k.rel) := rfl
@[go_sem] theorem Wnt.a5 (k : Wnt) : k.cells[5]? = some (vI k.fence) := rfl
@[go_sem] theorem Wnt.a6 (k : Wnt) : k.cells[6]? = some (.bool k.dsb) := rfl
@[go_sem] theorem Wnt.a7 (k : Wnt) : k.cells[7]? = some (vI k.sys) := rfl
@[go_sem] theorem Wnt.a8 (k : Wnt) : k.cells[8]? = some (vI k.cls) := rfl
@[go_sem] theorem Wnt.a9 (k : Wnt) : k.cells[9]? = some (vI k.iss) := rfl
@[go_sem] theorem Wnt.s0 (k : Wnt) (n : Int) : k.cells.setIfInBounds 0 (vI n) = ({ k with kind := n } : Wnt).cells := rfl
@[go_sem] theorem Wnt.s1 (k : Wnt) (n : Int) : k.cells.setIfInBounds 1 (vU n) = ({ k with addr := n } : Wnt).cells := rfl
@[go_sem] theorem Wnt.s2 (k : Wnt) (n : Int) : k.cells.setIfInBounds 2 (vU n) = ({ k with value := n } : Wnt).cells := rfl
@[go_sem] theorem Wnt.s3 (k : Wnt) (n : Int) : k.cells.setIfInBounds 3 (vI n) = ({ k with acq := n } : Wnt).cells := rfl
@[go_sem] theorem Wnt.s4 (k : Wnt) (n : Bool) : k.cells.setIfInBounds 4 (.bool n) = ({ k with rel := n } : Wnt).cells := rfl
@[go_sem] theorem Wnt.s9 (k : Wnt) (n : Int) : k.cells.setIfInBounds 9 (vI n) = ({ k with iss := n } : Wnt).cells := rfl

structure Gt where
  value : Int
  ok : Bool
  fault : Int
def Gt.cells (k : Gt) : Array Value := #[vU k.value, .bool k.ok, vI k.fault]
abbrev Gt.val (k : Gt) : Value := .agg k.cells
def nilG : Gt := ⟨0, false, 0⟩

/-- One instruction on its way. -/
structure Stp where
  i : Ins
  c : Cor
  g : Gt
  err : Int
def Stp.cells (s : Stp) : Array Value := s.i.cells ++ (s.c.cells ++ (s.g.cells ++ #[vI s.err]))
theorem Stp.size (s : Stp) : s.cells.size = 69 := by simp [Stp.cells, Cor.size, Gt.cells]
theorem Stp.atI (s : Stp) (k : Nat) (h : k < 16) : s.cells[k]? = s.i.cells[k]? := by
  unfold Stp.cells
  rw [Array.getElem?_append_left (by simpa using h)]
theorem Stp.atC (s : Stp) (k : Nat) (h : k < 49) : s.cells[16 + k]? = s.c.cells[k]? := by
  unfold Stp.cells
  rw [Array.getElem?_append_right (by simp), Array.getElem?_append_left (by simp [Cor.size]; omega)]
  simp
theorem Stp.atG (s : Stp) (k : Nat) (h : k < 3) : s.cells[65 + k]? = s.g.cells[k]? := by
  unfold Stp.cells
  rw [Array.getElem?_append_right (by simp; omega), Array.getElem?_append_right (by simp [Cor.size]; omega), Array.getElem?_append_left (by simp [Cor.size, Gt.cells]; omega)]
  simp only [Cor.size]
  congr 1
  simp
  omega
theorem Stp.atE (s : Stp) : s.cells[68]? = some (vI s.err) := by
  unfold Stp.cells
  rw [Array.getElem?_append_right (by simp), Array.getElem?_append_right (by simp [Cor.size]), Array.getElem?_append_right (by simp [Cor.size, Gt.cells])]
  simp [Cor.size, Gt.cells]
theorem Stp.one (s : Stp) : s.cells.all (·.oneCell') = true := by
  unfold Stp.cells
  rw [Array.all_append, Array.all_append, Array.all_append, Cor.one]
  simp [Value.oneCell', Gt.cells]
/-- The state laid anew into the step. -/
theorem Stp.setC (s : Stp) (d : Cor) : (s.cells.toList.take 16 ++ d.cells.toList ++ s.cells.toList.drop 65).toArray = ({ s with c := d } : Stp).cells := by
  have h1 : s.cells.toList.take 16 = s.i.cells.toList := by
    unfold Stp.cells
    simp
  have h2 : s.cells.toList.drop 65 = (s.g.cells ++ #[vI s.err]).toList := by
    unfold Stp.cells
    rw [Array.toList_append, List.drop_append, Array.toList_append, List.drop_append]
    have e1 : s.i.cells.toList.length = 16 := rfl
    have e2 : s.c.cells.toList.length = 49 := by rw [Array.length_toList, Cor.size]
    rw [List.drop_of_length_le (by omega), e1, List.drop_of_length_le (by omega), e2]
    simp
  rw [h1, h2]
  unfold Stp.cells
  simp

/-! What an instruction wants. -/
def spX (c : Cor) (r : Int) : Int := if r = 31 then spV c else xV c r
def u64 (n : Int) : Int := n % 18446744073709551616
def adrV (c : Cor) (i : Ins) : Int := if i.op = 19 ∨ i.op = 20 then u64 (spX c i.rn + u64 (xV c i.rm * 2 ^ i.amount.toNat)) else u64 (spX c i.rn + u64 i.imm)
def storeK (k : Int) : Bool := k == 2 || k == 4
def accV (c : Cor) (i : Ins) (k : Wnt) : Wnt :=
  if adrV c i % 8 = 0 then { k with addr := adrV c i } else { nilW with kind := 15, cls := 36 + c.el, iss := bif storeK k.kind then 97 else 33, addr := adrV c i }
def unkV : Wnt := { nilW with kind := 15 }
def lineV (c : Cor) (i : Ins) : Int := bits .andNot .u64 (xV c i.rd) 63
def outB (n : Int) : Bool := n == 18016 || n == 18017 || n == 16944 || n == 18013 || n == 24322 || n == 24345 || n == 24346
def allB (n : Int) : Bool := n == 23056 || n == 24194 || n == 24322
def roB (n : Int) : Bool := n == 16389 || n == 16914 || n == 24322 || n == 18016
def barB (c : Cor) (i : Ins) : Bool :=
  bif c.el == 0 then (i.op == 36 || i.op == 33 || i.op == 29 || (i.op == 31 && !allB i.sys) || (i.op == 32 && (!allB i.sys || roB i.sys)))
  else (i.op == 31 && (i.sys == 18017 || i.sys == 18013)) || (i.op == 32 && roB i.sys)
def hintV (c : Cor) (i : Ins) : Wnt :=
  if i.imm = 2 ∧ c.event = false then { nilW with kind := 13, value := 2 } else if i.imm = 3 then { nilW with kind := 13, value := 1 } else if i.imm = 4 then { nilW with kind := 14 } else nilW
def fenceV (n : Int) : Int := if n = 1 then 13 else if n = 2 then 10 else if n = 3 then 15 else 0
def wishV (c : Cor) (i : Ins) : Wnt :=
  if i.op = 0 then unkV
  else if i.op = 17 ∨ i.op = 19 then accV c i { nilW with kind := 1 }
  else if i.op = 21 then accV c i { nilW with kind := 1, acq := 2 - i.sub }
  else if i.op = 23 then accV c i { nilW with kind := 3, acq := 2 * i.sub }
  else if i.op = 18 ∨ i.op = 20 then accV c i { nilW with kind := 2, value := xV c i.rd }
  else if i.op = 22 then accV c i { nilW with kind := 2, value := xV c i.rd, rel := true }
  else if i.op = 24 then accV c i { nilW with kind := 4, value := xV c i.rd, rel := i.sub == 1 }
  else if i.op = 25 then { nilW with kind := 5 }
  else if i.op = 26 then { nilW with kind := 6, fence := fenceV i.imm, dsb := i.sub == 1 }
  else if i.op = 27 then { nilW with kind := 7 }
  else if i.op = 28 then { nilW with kind := 8, addr := lineV c i }
  else if i.op = 29 then { nilW with kind := 9 }
  else if i.op = 30 then { nilW with kind := 10, addr := lineV c i }
  else if i.op = 31 then (if outB i.sys = true then { nilW with kind := 11, sys := i.sys } else nilW)
  else if i.op = 32 then (if outB i.sys = true then { nilW with kind := 12, sys := i.sys, value := xV c i.rd } else nilW)
  else if i.op = 34 then { nilW with kind := 15, cls := 21, iss := i.imm }
  else if i.op = 35 then { nilW with kind := 15, cls := 60, iss := i.imm }
  else if i.op = 37 then hintV c i
  else nilW
def wantV (c : Cor) (i : Ins) : Wnt := if barB c i = true then unkV else wishV c i
def beginV (c : Cor) (word : Ins) : Wnt := if rightC c = true then wantV c word else nilW
end Go.Proofs.YtbjcdpmhmebjnaaGreat
/- Two small functions of package alu: contracts. -/
namespace Go.Proofs.YtbjcdpmhmebjnaaGreat
open Go.RowKit

theorem wrapU (x : Int) : IntKind.u64.wrap x = x % 18446744073709551616 := by rw [IntKind.wrap_u64]
def oneI (b : Bool) : Int := bif b then 1 else 0
theorem oneIf_c (a : Bool) (w : World) :
    Calls Tryz.prog 250 #[.bool a] w fun e w' => e = .returned (.int .u64 (oneI a)) ∧ w' = w := by
  cases a
  · go_enter Tryz.func250, Tryz.ntmps250
    go_wp2
    go_ret
    exact ⟨rfl, rfl⟩
  · go_enter Tryz.func250, Tryz.ntmps250
    go_wp2
    go_ret
    exact ⟨rfl, rfl⟩
theorem isBelow0_c (a : Int) (w : World) :
    Calls Tryz.prog 251 #[.int .u64 a] w fun e w' => e = .returned (.bool (decide (wrap64 a < 0))) ∧ w' = w := by
  go_enter Tryz.func251, Tryz.ntmps251
  go_wp2
  go_ret
  exact ⟨rfl, rfl⟩
end Go.Proofs.YtbjcdpmhmebjnaaGreat
