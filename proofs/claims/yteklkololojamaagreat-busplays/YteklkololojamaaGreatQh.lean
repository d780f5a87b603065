/- The queue: a row of what waits; Len, Less, Swap. -/
import Derived.Test.YteklkololojamaaGreatQd
import Derived.Test.YteklkololojamaaGreatChm
import Derived.Handy
namespace Go.Proofs.YteklkololojamaaGreat
open Go.RowKit
set_option linter.unusedVariables false
set_option linter.unusedSimpArgs false
set_option maxRecDepth 8000

def ltT (a b : Trn) : Bool := decide (a.rank < b.rank) || (decide (a.rank = b.rank) && decide (a.id < b.id))
theorem flatT_set (l : List Trn) (k : Nat) (t : Trn) : ((flatT l).set (k * 2) (vI t.rank)).set (k * 2 + 1) (vI t.id) = flatT (l.set k t) := by
  induction l generalizing k with
  | nil => simp [flatT]
  | cons a l ih =>
    cases k with
    | zero => simp [flatT, Trn.row]
    | succ k =>
      have e : (k + 1) * 2 = k * 2 + 1 + 1 := by omega
      have := ih k
      simp only [flatT, List.flatMap_cons, Trn.row, List.set_cons_succ, e, List.cons_append, List.nil_append] at this ⊢
      rw [this]
/-- The queue's block, and the row that it names. -/
structure QAt (base q : Nat) (v : Value) (l : List Trn) (w : World) : Prop where
  hd : w.heap[q]? = some (.cells #[v] 145)
  row : w.ownsRow base 106 2 v l.length (flatT l)
  hq : base ≤ q
theorem QAt.c0 {base q : Nat} {v : Value} {l : List Trn} {w : World} (H : QAt base q v l w) : w.cell? ⟨q, 0, none⟩ = some v := by rw [cell_of_row _ _ _ _ _ _ H.hd]; rfl
theorem QAt.grow {base q : Nat} {v : Value} {l : List Trn} {w w' : World} (H : QAt base q v l w) (hb : Below w.heap.size w w') : QAt base q v l w' :=
  ⟨by rw [hb.block _ (lt_of_some H.hd)]; exact H.hd, own_of_block H.row fun k hk => hb.block k (H.row.lt k hk).2, H.hq⟩
theorem getT {l : List Trn} {k : Nat} (h : k < l.length) : l[k]? = some l[k] := List.getElem?_eq_getElem h
theorem own_cells {base n : Nat} {v : Value} {l : List Trn} {w : World} (R : w.ownsRow base 106 2 v n (flatT l)) (hn : n = l.length) {b cap : Nat} (ev : v = .slice (some ⟨b, 0, none⟩) n cap) {k : Nat} {t : Trn} (h : l[k]? = some t) : w.cell? ⟨b, k * 2, none⟩ = some (vI t.rank) ∧ w.cell? ⟨b, k * 2 + 1, none⟩ = some (vI t.id) := by
  have hk := (List.getElem?_eq_some_iff.1 h).1
  subst ev
  have q0 : k * 2 + 0 < n * 2 := by omega
  have q1 : k * 2 + 1 < n * 2 := by omega
  have z0 := R.cellAt _ q0
  have z1 := R.cellAt _ q1
  rw [flatT_get h 0 (by decide)] at z0
  rw [flatT_get h 1 (by decide)] at z1
  exact ⟨z0, z1⟩
theorem len_c (ao : Option Addr) (m cap : Nat) (w : World) : Calls Tryz.prog 76 #[.slice ao m cap] w fun e w' => e = .returned (vI m) ∧ w' = w := by
  go_enter Tryz.func76, Tryz.ntmps76
  go_wp2
  go_ret
  exact ⟨rfl, rfl⟩
theorem less_c {base : Nat} {v : Value} {l : List Trn} {w : World} (R : w.ownsRow base 106 2 v l.length (flatT l)) {i j : Nat} {s t : Trn} (hi : l[i]? = some s) (hj : l[j]? = some t) : Calls Tryz.prog 163 #[v, vI i, vI j] w fun e w' => e = .returned (.bool (ltT s t)) ∧ Below w.heap.size w w' := by
  have hi' := (List.getElem?_eq_some_iff.1 hi).1
  have hj' := (List.getElem?_eq_some_iff.1 hj).1
  obtain ⟨b, cap, ev, h1, h2, _, _, _⟩ := own_addr R (by omega)
  obtain ⟨a0, a1⟩ := own_cells R rfl ev hi
  obtain ⟨b0, b1⟩ := own_cells R rfl ev hj
  subst ev
  have k1 : (i : Int) < l.length := by omega
  have k2 : (j : Int) < l.length := by omega
  clear R hi hj h1 h2 hi' hj'
  obtain ⟨r, x⟩ := s
  obtain ⟨r', x'⟩ := t
  dsimp only at a0 a1 b0 b1
  unfold ltT
  dsimp only
  rcases Int.lt_trichotomy r r' with h | h | h
  · have e1 : decide (r < r') = true := decide_eq_true h
    rw [e1, Bool.true_or]
    go_enter Tryz.func163, Tryz.ntmps163
    go_wp2
    go_quiet (fail)
    go_wp2
    go_ret
    exact ⟨rfl, Rel.below_draws (Below.refl _ _)⟩
  · subst h
    have e1 : decide (r < r) = false := decide_eq_false (by omega)
    rw [e1, decide_eq_true rfl, Bool.false_or, Bool.true_and]
    go_enter Tryz.func163, Tryz.ntmps163
    go_wp2
    go_quiet (fail)
    go_wp2
    go_ret
    exact ⟨rfl, Rel.below_draws (Below.refl _ _)⟩
  · have e1 : decide (r < r') = false := decide_eq_false (by omega)
    have e2 : decide (r = r') = false := decide_eq_false (by omega)
    have e3 : (r == r') = false := by simpa using e2
    rw [e1, e2, Bool.false_or, Bool.false_and]
    go_enter Tryz.func163, Tryz.ntmps163
    go_wp2
    go_quiet (fail)
    go_wp2
    go_ret
    exact ⟨rfl, Rel.below_draws (Below.refl _ _)⟩
theorem own_put {base n b cap : Nat} {l : List Trn} {w : World} (R : w.ownsRow base 106 2 (.slice (some ⟨b, 0, none⟩) n cap) n (flatT l)) (k : Nat) (t : Trn) : (w.setCells b (k * 2) [vI t.rank, vI t.id]).ownsRow base 106 2 (.slice (some ⟨b, 0, none⟩) n cap) n (flatT (l.set k t)) := by
  have h1 := (R.stored (k * 2) (vI t.rank)).1
  have h2 := (h1.stored (k * 2 + 1) (vI t.id)).1
  rw [flatT_set] at h2
  exact h2
theorem goes_setCells {F : Nat → Prop} (w : World) {b : Nat} (hb : F b) (k : Nat) (x y : Value) : Goes F w (w.setCells b k [x, y]) :=
  (goes_setCell w hb k x).trans (goes_setCell _ hb (k + 1) y) fun _ _ e => e
theorem chn_store {o : Oper} {a : Act} {w w2 : World} {C : World → Prop} (ty : TypeId) (x y : Operand) (ho : o.op = .store ty x y) (b k : Nat) (hx : a.eval x = .pointer (some ⟨b, k, none⟩)) (v : Value) (hy : a.eval y = v) (hrun : (storeVar ty ⟨b, k, none⟩ v).run Tryz.prog w = .ok () w2) (hC : C w2) :
    Chn.upon Tryz.prog (fun v w' => v = undef ∧ C w') w ((execOp a.eval o).run Tryz.prog w) := by
  unfold execOp
  simp only [ho, hx, hy, Instr.storeAt, Instr.sureAddr, Sem.run_bind, Sem.run_pure, Result.andThen_ok, hrun]
  exact ⟨rfl, hC⟩
theorem run_putT {base n b cap : Nat} {l : List Trn} {w : World} (R : w.ownsRow base 106 2 (.slice (some ⟨b, 0, none⟩) n cap) n (flatT l)) (hn : n = l.length) {k : Nat} (hk : k < l.length) (t : Trn) : (storeVar 106 ⟨b, k * 2, none⟩ t.val).run Tryz.prog w = .ok () (w.setCells b (k * 2) [vI t.rank, vI t.id]) := by
  refine run_storeVar_mid w b (k * 2) 106 #[vI t.rank, vI t.id] (fun j hj => ⟨?_, R.frozenAt _⟩) inf84 (by simp [Value.oneCell'])
  have hj : j < 2 := hj
  have q : k * 2 + j < n * 2 := by omega
  rw [R.cellAt _ q, flatT_get (getT hk) j hj]
  match j, hj with
  | 0, _ => rfl
  | 1, _ => rfl
theorem chn_ldT {o : Oper} {a : Act} {w : World} {C : World → Prop} (x : Operand) (ho : o.op = .load 106 x) (b k : Nat) (hx : a.eval x = ptr b k) (s : Trn) (h0 : w.cell? ⟨b, k, none⟩ = some (vI s.rank)) (h1 : w.cell? ⟨b, k + 1, none⟩ = some (vI s.id)) (hC : C w) : Chn.upon Tryz.prog (fun v w' => v = s.val ∧ C w') w ((execOp a.eval o).run Tryz.prog w) := by
  have hr : w.rangeAt b k s.row := fun j y hy => by
    match j, hy with
    | 0, hy => cases hy; exact h0
    | 1, hy => cases hy; exact h1
  unfold execOp
  simp only [ho, hx, Instr.loadAt, Instr.sureAddr, Sem.run_bind, Sem.run_pure, Result.andThen_ok, run_loadVar_mid w b k 106 _ _ hr Tryz.underlying106 rfl inf84]
  exact ⟨rfl, hC⟩
def SwC (base : Nat) (v : Value) (l : List Trn) (i j : Nat) (s t : Trn) (w : World) : Nat → World → Prop
  | 0, w' => w'.ownsRow base 106 2 v l.length (flatT l) ∧ Goes (fun k => v.ownBlock = some k) w w'
  | 1, w' => w'.ownsRow base 106 2 v l.length (flatT (l.set i t)) ∧ Goes (fun k => v.ownBlock = some k) w w'
  | 2, w' => w'.ownsRow base 106 2 v l.length (flatT ((l.set i t).set j s)) ∧ Goes (fun k => v.ownBlock = some k) w w'
  | _, _ => False
theorem swap_c {base : Nat} {v : Value} {l : List Trn} {w : World} (R : w.ownsRow base 106 2 v l.length (flatT l)) {i j : Nat} {s t : Trn} (hi : l[i]? = some s) (hj : l[j]? = some t) : Calls Tryz.prog 166 #[v, vI i, vI j] w fun e w' => e = .returned (.tuple #[]) ∧ w'.ownsRow base 106 2 v l.length (flatT ((l.set i t).set j s)) ∧ Goes (fun k => v.ownBlock = some k) w w' := by
  have hi' := (List.getElem?_eq_some_iff.1 hi).1
  have hj' := (List.getElem?_eq_some_iff.1 hj).1
  obtain ⟨b, cap, ev, _, _, _, _, _⟩ := own_addr R (by omega)
  subst ev
  have hst : SwC base (.slice (some ⟨b, 0, none⟩) l.length cap) l i j s t w 0 { w with drawn := w.drawn + 1 } := ⟨own_of_block R fun _ _ => rfl, goes_of_below (Rel.below_draws (n := 1) (Below.refl _ _))⟩
  have k1 : (i : Int) < l.length := by omega
  have k2 : (j : Int) < l.length := by omega
  go_enter Tryz.func166, Tryz.ntmps166
  refine Chn.wp_region_chainL (SwC base (.slice (some ⟨b, 0, none⟩) l.length cap) l i j s t w) [13, 15] [2, 2, 2, 2, 2, 2, 2, 0, 2, 2, 2, 0, 2, 2, 2, 2] [.slice (some ⟨b, 0, none⟩) l.length cap, vI i, .slice (some ⟨b, 0, none⟩) l.length cap, vI j, .slice (some ⟨b, 0, none⟩) l.length cap, vI j, ptr b (j * 2), t.val, .slice (some ⟨b, 0, none⟩) l.length cap, vI i, ptr b (i * 2), s.val, ptr b (i * 2), undef, ptr b (j * 2), undef] (by kernel_rfl) (by kernel_rfl) (by kernel_rfl) (by kernel_rfl) (by kernel_rfl) hst ?_
  clear hst
  iterate 7 (refine ⟨fun j w1 hj hC => by exact Chn.upon_pure hC (fun F hF => by (go_simp <;> exact hF)), ?_⟩; simp only [Act.put, List.setIfInBounds_toArray, List.set_cons_succ, List.set_cons_zero])
  refine ⟨fun q w1 hq hC => by
    obtain rfl : q = 0 := Nat.le_zero.1 hq
    obtain ⟨a0, a1⟩ := own_cells hC.1 rfl rfl hj
    exact chn_ldT (C := SwC base (.slice (some ⟨b, 0, none⟩) l.length cap) l i j s t w 0) _ rfl b (j * 2) rfl t a0 a1 hC, ?_⟩
  simp only [Act.put, List.setIfInBounds_toArray, List.set_cons_succ, List.set_cons_zero]
  iterate 3 (refine ⟨fun j w1 hj hC => by exact Chn.upon_pure hC (fun F hF => by (go_simp <;> exact hF)), ?_⟩; simp only [Act.put, List.setIfInBounds_toArray, List.set_cons_succ, List.set_cons_zero])
  refine ⟨fun q w1 hq hC => by
    obtain rfl : q = 0 := Nat.le_zero.1 hq
    obtain ⟨a0, a1⟩ := own_cells hC.1 rfl rfl hi
    exact chn_ldT (C := SwC base (.slice (some ⟨b, 0, none⟩) l.length cap) l i j s t w 0) _ rfl b (i * 2) rfl s a0 a1 hC, ?_⟩
  simp only [Act.put, List.setIfInBounds_toArray, List.set_cons_succ, List.set_cons_zero]
  refine ⟨fun j w1 hj hC => by exact Chn.upon_pure hC (fun F hF => by (go_simp <;> exact hF)), ?_⟩
  simp only [Act.put, List.setIfInBounds_toArray, List.set_cons_succ, List.set_cons_zero]
  refine ⟨fun w1 hC => by exact chn_store 106 _ _ rfl b (i * 2) rfl _ rfl (run_putT hC.1 rfl hi' t) ⟨own_put hC.1 i t, hC.2.trans (goes_setCells w1 (F := fun k => (Value.slice (some ⟨b, 0, none⟩) l.length cap).ownBlock = some k) rfl _ _ _) fun _ _ e => e⟩, ?_⟩
  simp only [Act.put]
  refine ⟨fun j w1 hj hC => by exact Chn.upon_pure hC (fun F hF => by (go_simp <;> exact hF)), ?_⟩
  simp only [Act.put, List.setIfInBounds_toArray, List.set_cons_succ, List.set_cons_zero]
  refine ⟨fun w1 hC => by exact chn_store 106 _ _ rfl b (j * 2) rfl _ rfl (run_putT hC.1 (by simp) (by simpa using hj') s) ⟨own_put hC.1 j s, hC.2.trans (goes_setCells w1 (F := fun k => (Value.slice (some ⟨b, 0, none⟩) l.length cap).ownBlock = some k) rfl _ _ _) fun _ _ e => e⟩, ?_⟩
  simp only [Act.put]
  intro w5 hC
  refine bodyPost_end (results_none rfl _ _ _) rfl ⟨rfl, hC.1, hC.2⟩
end Go.Proofs.YteklkololojamaaGreat
