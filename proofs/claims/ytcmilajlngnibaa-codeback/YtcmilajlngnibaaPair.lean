/- A word and its instruction, while fields go from the one to the other: what stands in the pair's block; the contract of 'cross'. -/
import Derived.Test.YtcmilajlngnibaaFields
import Derived.Test.YtcmilajlngnibaaSgn
import Derived.Test.YtcmilajlngnibaaPlainI
import Derived.Laws.Rows
import Derived.BigQuiet
import Derived.Deep.RegionWith
import Derived.Deep.CutRange
namespace Go.Proofs.Ytcmilajlngnibaa
open Go.RowKit

/-- Of what was there nothing but block b has turned. -/
structure Keeps (w0 : World) (b : Nat) (w : World) : Prop where
  os : w.os = w0.os
  tape : w.tape = w0.tape
  output : w.output = w0.output
  size : w0.heap.size ≤ w.heap.size
  block : ∀ k, k ≠ b → k < w0.heap.size → w.heap[k]? = w0.heap[k]?
theorem Keeps.refl (w : World) (b : Nat) : Keeps w b w := ⟨rfl, rfl, rfl, Nat.le_refl _, fun _ _ _ => rfl⟩
theorem Keeps.trans {w0 w1 w2 : World} {b : Nat} (h : Keeps w0 b w1) (k : Keeps w1 b w2) : Keeps w0 b w2 :=
  ⟨k.os.trans h.os, k.tape.trans h.tape, k.output.trans h.output, Nat.le_trans h.size k.size, fun i hi hl => (k.block i hi (Nat.lt_of_lt_of_le hl h.size)).trans (h.block i hi hl)⟩
structure Pr (w0 : World) (b : Nat) (cs : Array Value) (w : World) : Prop where
  keep : Keeps w0 b w
  row : w.heap[b]? = some (.cells cs 52)
theorem pr_start {w : World} {b : Nat} {cs : Array Value} (h : w.heap[b]? = some (.cells cs 52)) : Pr w b cs w := ⟨Keeps.refl w b, h⟩
theorem Pr.then {w0 w w' : World} {b : Nat} {cs cs' : Array Value} (h : Pr w0 b cs w) (k : Pr w b cs' w') : Pr w0 b cs' w' := ⟨h.keep.trans k.keep, k.row⟩
theorem Pr.drew {w0 w : World} {b : Nat} {cs : Array Value} (h : Pr w0 b cs w) (n : Nat) : Pr w0 b cs (w.drewN n) := ⟨⟨h.keep.os, h.keep.tape, h.keep.output, h.keep.size, h.keep.block⟩, h.row⟩
theorem Pr.at {w0 w : World} {b : Nat} {cs : Array Value} (h : Pr w0 b cs w) {k : Nat} {v : Value} (hv : cs[k]? = some v) : w.cell? ⟨b, k, none⟩ = some v := by
  rw [cell_of_row _ _ _ _ _ _ h.row, hv]
theorem Pr.frozen {w0 w : World} {b : Nat} {cs : Array Value} (h : Pr w0 b cs w) (k : Nat) : w.frozen? ⟨b, k, none⟩ = false := frozen_of_row _ _ _ _ _ h.row
theorem Pr.set {w0 w : World} {b : Nat} {cs : Array Value} (h : Pr w0 b cs w) (k : Nat) (v : Value) : Pr w0 b (cs.setIfInBounds k v) (w.setCell ⟨b, k, none⟩ v) := by
  refine ⟨h.keep.trans ⟨rfl, rfl, rfl, by simp [World.setCell], fun j hj _ => heap_setCell_other _ _ _ _ hj⟩, heap_setCell_same _ _ _ _ _ _ h.row⟩

/-- A value read from a cell that is there. -/
theorem wpList_load_at {P : Program} {ops : Array Oper} {rest : List Oper} {o : Oper} {a : Act} {w : World} {Q : Exit → Act → World → Prop} (hw : Region.wanted o (yielded ops a.tmps) = true) (ty : TypeId) (x : Operand) (ho : o.op = .load ty x)
    (g j : Nat) (hx : a.eval x = .pointer (some ⟨g, j, none⟩)) (v : Value) (hc : w.cell? ⟨g, j, none⟩ = some v) (d : TypeDesc) (hu : P.underlying ty = some d) (hd : (match d with | .struct _ | .array _ _ => true | _ => false) = false)
    (h : wpList P ops Q rest (a.put o.dst v) w) : wpList P ops Q (o :: rest) a w := by
  refine BigFrame.wpList_want hw fun K hK => ?_
  unfold Oper.wp execOp
  have hl : (loadVar ty ⟨g, j, none⟩).run P w = .ok v w := by
    have ha : (isAgg ty).run P w = .ok false w := by
      unfold isAgg
      rw [Sem.run_bind, run_underlying hu w]
      cases d <;> simp_all
    go_simp
  simp only [ho, hx, Instr.loadAt, Instr.sureAddr, Sem.run_bind, Sem.run_pure, Result.andThen_ok, hl]
  exact hK _ _ h
/-- A value laid into a cell that is there. -/
theorem wpList_store_at {P : Program} {ops : Array Oper} {rest : List Oper} {o : Oper} {a : Act} {w : World} {Q : Exit → Act → World → Prop} (hgd : o.guard = none) (ty : TypeId) (x y : Operand) (ho : o.op = .store ty x y)
    (g j : Nat) (v : Value) (hx : a.eval x = .pointer (some ⟨g, j, none⟩)) (hy : a.eval y = v) (hv : v.cells = #[v]) (h1 : v.oneCell' = true) (old : Value) (hc : w.cell? ⟨g, j, none⟩ = some old) (hf : w.frozen? ⟨g, j, none⟩ = false) (hi : (P.info? ty).map (·.size) = some 1)
    (h : wpList P ops Q rest (a.put o.dst undef) (w.setCell ⟨g, j, none⟩ v)) : wpList P ops Q (o :: rest) a w := by
  refine wpList_plain hgd fun K hK => ?_
  unfold Oper.wp execOp
  have hs : (storeVar ty ⟨g, j, none⟩ v).run P w = .ok () (w.setCell ⟨g, j, none⟩ v) := by
    cases hq : P.info? ty with
    | none => simp [hq] at hi
    | some i =>
      have hs : i.size = 1 := by simpa [hq] using hi
      have hadd : (⟨g, j, none⟩ : Addr).add 0 = ⟨g, j, none⟩ := by unfold Addr.add; split <;> simp_all
      have hst : (store ⟨g, j, none⟩ v .plain).run P w = .ok () (w.setCell ⟨g, j, none⟩ v) := by
        rw [run_store P w _ _ _ h1, hc, hf]; rfl
      simp [storeVar, sizeOf, typeInfo, hq, hs, hv, storeCells, hadd, hst]
  simp only [ho, hx, hy, Instr.storeAt, Instr.sureAddr, Sem.run_bind, Sem.run_pure, Result.andThen_ok, hs]
  exact hK _ _ h

def lowV (n m : Int) : Int := fieldV (n % 4294967296) 0 m
def crossW (lay : Bool) (W n a m : Int) : Int := bif lay then putV W a m (lowV n m) else W
def crossG (lay : Bool) (W n a m : Int) : Int := fieldV (crossW lay W n a m) a m
def W32 (W : Int) : Prop := 0 ≤ W ∧ W < 4294967296
theorem put_lt (word a m value : Int) : W32 (putV word a m value) := by
  unfold putV W32
  split
  · have := orBits_lt (putBit word a m value) 32
    omega
  · omega
theorem field_lt {word a m : Int} (h : W32 word) : W32 (fieldV word a m) := by
  unfold fieldV W32
  split
  · have h1 := h.1; have h2 := h.2
    have : word.toNat / 2 ^ a.toNat % 2 ^ m.toNat ≤ word.toNat := Nat.le_trans (Nat.mod_le _ _) (Nat.div_le_self _ _)
    omega
  · omega
theorem low_lt (n m : Int) : W32 (lowV n m) := field_lt ⟨Int.emod_nonneg _ (by decide), Int.emod_lt_of_pos _ (by decide)⟩
theorem cross_lt {lay : Bool} {W n a m : Int} (h : W32 W) : W32 (crossW lay W n a m) := by
  cases lay
  · exact h
  · exact put_lt _ _ _ _
theorem got_lt {lay : Bool} {W n a m : Int} (h : W32 W) : W32 (crossG lay W n a m) := field_lt (cross_lt h)
theorem set_same' {cs : Array Value} {k : Nat} {v : Value} (h : cs[k]? = some v) : cs.setIfInBounds k v = cs := by
  apply Array.ext_getElem?
  intro j
  rw [Array.getElem?_setIfInBounds]
  split
  · rename_i e; subst e
    rw [if_pos (Array.getElem?_eq_some_iff.1 h).1, h]
  · rfl
theorem set_at {cs : Array Value} {k : Nat} {u v : Value} (h : cs[k]? = some u) : (cs.setIfInBounds k v)[k]? = some v := by
  rw [Array.getElem?_setIfInBounds_self, if_pos (Array.getElem?_eq_some_iff.1 h).1]
theorem set_ne' {cs : Array Value} {k j : Nat} {v : Value} (h : k ≠ j) : (cs.setIfInBounds k v)[j]? = cs[j]? := Array.getElem?_setIfInBounds_ne h
theorem i64_of_w32 {x : Int} (h : W32 x) : wrap64 x = x := by
  obtain ⟨h0, h1⟩ := h
  unfold wrap64; omega

set_option maxHeartbeats 1000000 in
theorem cross_c (b : Nat) (cs : Array Value) (W : Int) (lay : Bool) (n a m : Int) (h0 : cs[0]? = some (.int .u32 W)) (h17 : cs[17]? = some (.bool lay)) (hW : Hid (W32 W)) (w : World) (hp : w.heap[b]? = some (.cells cs 52)) :
    Calls Try.prog 70 #[.pointer (some ⟨b, 0, none⟩), .int .i64 n, .int .i64 a, .int .i64 m] w fun e w' => e = .returned (.int .i64 (crossG lay W n a m)) ∧ Pr w b (cs.setIfInBounds 0 (.int .u32 (crossW lay W n a m))) w' := by
  have H := pr_start hp
  have hG : Hid (wrap64 (crossG lay W n a m) = crossG lay W n a m) := i64_of_w32 (got_lt hW.out)
  have hL : Hid (W32 (crossW lay W n a m)) := cross_lt hW.out
  cases lay with
  | false =>
    have c17 := H.at h17
    have c0 := H.at h0
    go_enter Try.func70, Try.ntmps70
    go_wp2_with (go_at_call 84; refine (field_c _ _ _ hW _).mono ?_; rintro e w1 ⟨rfl, k1, rfl⟩)
    go_ret
    refine ⟨ret_int ?_, ?_⟩
    · exact hG.out
    show Pr w b (cs.setIfInBounds 0 (.int .u32 W)) _
    rw [set_same' h0]
    exact H.drew _
  | true =>
    have c17 := H.at h17
    have c0 := H.at h0
    have fz := H.frozen 0
    have hN : Hid (W32 (n % 4294967296)) := ⟨Int.emod_nonneg _ (by decide), Int.emod_lt_of_pos _ (by decide)⟩
    have hV : Hid (W32 (lowV n m)) := low_lt n m
    go_enter Try.func70, Try.ntmps70
    go_upto_region 4 with (first | (go_at_call 84; refine (field_c _ _ _ hN _).mono ?_; rintro e w1 ⟨rfl, k1, rfl⟩) | (go_at_call 85; refine (put_c _ _ _ _ hW hV _).mono ?_; rintro e w1 ⟨rfl, k2, rfl⟩))
    replace H := (H.drew (k1 + k2)).set 0 (.int .u32 (putV W a m (lowV n m)))
    generalize (w.drewN (k1 + k2)).setCell _ _ = w3 at H ⊢
    clear c0 c17 fz
    have c0 := H.at (set_at h0)
    have hL2 : Hid (W32 (putV W a m (lowV n m))) := put_lt _ _ _ _
    go_wp2_with (go_at_call 84; refine (field_c _ _ _ hL2 _).mono ?_; rintro e w1 ⟨rfl, k3, rfl⟩)
    go_ret
    refine ⟨ret_int ?_, H.drew _⟩
    exact hG.out
/-- One step of a walk over a pair: its number, laid or taken. -/
def numW (lay : Bool) (W n u a m : Int) : Int := crossW lay W (n.tdiv u) a m
def numG (lay : Bool) (W n u a m : Int) : Int := crossG lay W (n.tdiv u) a m * u
set_option maxHeartbeats 1000000 in
theorem number_c (b : Nat) (cs : Array Value) (W : Int) (lay : Bool) (k : Nat) (n u a m : Int) (hk : 0 ≠ k) (h0 : cs[0]? = some (.int .u32 W)) (h17 : cs[17]? = some (.bool lay)) (hn : cs[k]? = some (.int .i64 n)) (hW : Hid (W32 W))
    (hu : 1 ≤ u) (hu2 : u ≤ 4096) (hd : wrap64 (n.tdiv u) = n.tdiv u) (hq : wrap64 (crossG lay W (n.tdiv u) a m * u) = crossG lay W (n.tdiv u) a m * u) (w : World) (hp : w.heap[b]? = some (.cells cs 52)) :
    Calls Try.prog 63 #[.pointer (some ⟨b, 0, none⟩), .pointer (some ⟨b, k, none⟩), .int .i64 u, .int .i64 a, .int .i64 m] w fun e w' => e = .returned (.tuple #[]) ∧ Pr w b ((cs.setIfInBounds 0 (.int .u32 (numW lay W n u a m))).setIfInBounds k (.int .i64 (numG lay W n u a m))) w' := by
  have H := pr_start hp
  have ck := H.at hn
  go_enter Try.func63, Try.ntmps63
  go_wp2_with (go_at_call 70; refine (cross_c b cs W lay _ _ _ h0 h17 hW _ hp).mono ?_; rintro e w1 ⟨rfl, H1⟩; refine Hid.out ?_)
  unfold Hid
  have c2 := H1.at ((set_ne' hk).trans hn)
  have fz := H1.frozen k
  go_wp2
  go_end0
  exact ⟨rfl, H1.set k _⟩
set_option maxHeartbeats 1000000 in
theorem register_c (b : Nat) (cs : Array Value) (W : Int) (lay : Bool) (k : Nat) (n a : Int) (hk : 0 ≠ k) (h0 : cs[0]? = some (.int .u32 W)) (h17 : cs[17]? = some (.bool lay)) (hn : cs[k]? = some (.int .i64 n)) (hW : Hid (W32 W))
    (hd : wrap64 (n.tdiv 1) = n.tdiv 1) (hq : wrap64 (crossG lay W (n.tdiv 1) a 5 * 1) = crossG lay W (n.tdiv 1) a 5 * 1) (w : World) (hp : w.heap[b]? = some (.cells cs 52)) :
    Calls Try.prog 69 #[.pointer (some ⟨b, 0, none⟩), .pointer (some ⟨b, k, none⟩), .int .i64 a] w fun e w' => e = .returned (.tuple #[]) ∧ Pr w b ((cs.setIfInBounds 0 (.int .u32 (numW lay W n 1 a 5))).setIfInBounds k (.int .i64 (numG lay W n 1 a 5))) w' := by
  go_enter Try.func69, Try.ntmps69
  go_wp2_with (go_at_call 63; refine (number_c b cs W lay k n 1 a 5 hk h0 h17 hn hW (by decide) (by decide) hd hq _ hp).mono ?_; rintro e w1 ⟨rfl, H1⟩)
  go_end0
  exact ⟨rfl, H1⟩
def boolI (x : Bool) : Int := bif x then 1 else 0
set_option maxHeartbeats 1000000 in
theorem sign_c (b : Nat) (cs : Array Value) (W : Int) (lay : Bool) (k : Nat) (x : Bool) (a : Int) (hk : 0 ≠ k) (h0 : cs[0]? = some (.int .u32 W)) (h17 : cs[17]? = some (.bool lay)) (hn : cs[k]? = some (.bool x)) (hW : Hid (W32 W)) (w : World) (hp : w.heap[b]? = some (.cells cs 52)) :
    Calls Try.prog 66 #[.pointer (some ⟨b, 0, none⟩), .pointer (some ⟨b, k, none⟩), .int .i64 a] w fun e w' => e = .returned (.tuple #[]) ∧ Pr w b ((cs.setIfInBounds 0 (.int .u32 (crossW lay W (boolI x) a 1))).setIfInBounds k (.bool (crossG lay W (boolI x) a 1 == 1))) w' := by
  have H := pr_start hp
  have ck := H.at hn
  cases x
  all_goals
    go_enter Try.func66, Try.ntmps66
    go_wp2_with (go_at_call 70; refine (cross_c b cs W lay _ _ _ h0 h17 hW _ hp).mono ?_; rintro e w1 ⟨rfl, H1⟩; refine Hid.out ?_)
    unfold Hid
    have c2 := H1.at ((set_ne' hk).trans hn)
    have fz := H1.frozen k
    go_wp2
    go_end0
    exact ⟨rfl, H1.set k _⟩
end Go.Proofs.Ytcmilajlngnibaa
