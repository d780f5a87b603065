/- Fd, Fe, Fg, Fh of the seat, joined. -/
import Derived.Test.YtilbnjldfgofmaaXe
import Derived.Test.YtilbnjldfgofmaaXy
import Derived.Deep.AppendLies
import Derived.Great.BuildSlice
import Derived.StillTail
import Derived.StillTailTactics
import Derived.ChangeKeysEq
import Derived.Test.YtilbnjldfgofmaaXd
/- Barriers told; rows of pairs. -/
namespace Go.Proofs.Ytilbnjldfgofmaa
open Go.RowKit
set_option linter.unusedVariables false
set_option linter.unusedSimpArgs false
set_option maxRecDepth 8000

theorem run_oneO (o : Opr) (w : World) : (Instr.buildSlice 23 1 #[(0, opV o)]).run Try.prog w = .ok (.slice (some ⟨w.heap.size, 0, none⟩) 1 1) (w.alloc (.cells (opA o) 40)) := by
  obtain ⟨i, hi, hz, hs, hby⟩ := info_parts info42
  exact run_buildSlice (P := Try.prog) w 23 40 1 _ _ i (opV nilO) Try.underlying23 hi hz (by rw [hs]; decide) (by rw [hs]; decide) (by rw [hs]; kernel_rfl)
theorem wpList_oneO {ops : Array Oper} {rest : List Oper} {p : Oper} {a : Act} {w : World} {Q : Exit → Act → World → Prop} (hg : p.guard = none) (y : Operand) (ho : p.op = .buildSlice 23 1 #[(0, y)]) (o : Opr) (hy : a.eval y = opV o)
    (h : wpList Try.prog ops Q rest (a.put p.dst (.slice (some ⟨w.heap.size, 0, none⟩) 1 1)) (w.alloc (.cells (opA o) 40))) : wpList Try.prog ops Q (p :: rest) a w :=
  wpList_plain hg fun _ hK => by
    unfold Oper.wp execOp
    simp only [ho, Sem.run_bind, List.map_toArray, List.map_cons, List.map_nil, hy, run_oneO, Result.andThen_ok]
    exact hK _ _ h
theorem wpList_appO {ops : Array Oper} {rest : List Oper} {p : Oper} {a : Act} {w : World} {Q : Exit → Act → World → Prop} (hg : p.guard = none) (s x : Operand) (ho : p.op = .call { callee := .builtin .append, args := #[s, x], argTypes := #[23, 23] }) {base N n : Nat} {v : Value} {l : List Opr} {o : Opr} (hn : l.length = n) (hs : a.eval s = v) (hx : a.eval x = .slice (some ⟨N, 0, none⟩) 1 1) (hc : w.heap[N]? = some (.cells (opA o) 40)) (O : w.ownsRow base 40 6 v n (opF l)) (hl : n ≤ 100000) (hbase : base ≤ w.heap.size)
    (h : ∀ g cap w', w'.ownsRow base 40 6 (.slice (some ⟨g, 0, none⟩) (n + 1) cap) (n + 1) (opF (l ++ [o])) → Goes (fun k => v.ownBlock = some k) w w' → (v.ownBlock = some g ∨ g = w.heap.size) → wpList Try.prog ops Q rest (a.put p.dst (.slice (some ⟨g, 0, none⟩) (n + 1) cap)) w') : wpList Try.prog ops Q (p :: rest) a w := by
  subst hn
  exact wpList_plain hg fun _ hK => by
    obtain ⟨i, hi, hz, hsz, hby⟩ := info_parts info42
    obtain ⟨g, cap, w', hr, q1, q2, q3, _⟩ := run_append_lies (P := Try.prog) (w := w) 23 p.type base 40 i (opV nilO) 6 48 Try.underlying23 hi hz hsz hby rfl (by decide) v l.length (opF l) O ⟨N, 0, none⟩ 1 1 (opA o).toList rfl (fun j u hj => by
      rw [Addr.add_mid, Nat.zero_add, cell_of_row _ _ _ _ _ _ hc]
      rwa [Array.getElem?_toList] at hj) (by simp [Value.oneCell']) (by decide) (by simp only [maxLen]; omega) (by omega) hbase w.heap.size rfl
    unfold Oper.wp execOp
    simp only [ho, resolve, invoke, builtin, Sem.run_bind, Sem.run_pure, Result.andThen_ok, List.map_toArray, List.map_cons, List.map_nil, hs, hx, hr]
    exact hK _ _ (h g cap w' (by rw [opF_snoc]; exact q1) (goes_grown q2 (fun k hk => hk)) q3)

set_option maxHeartbeats 8000000 in
theorem barrierD_c (o : Opr) (hk : isK o.kind = true) (w : World) : Calls Try.prog 38 #[opV o] w fun e w' => e = .returned (.bool (barB o)) ∧ Below w.heap.size w w' := by
  obtain ⟨k, r, a, b, order, imm⟩ := o
  dsimp only at hk ⊢
  by_cases h0 : order = 0
  · subst h0
    rcases isK_cases hk with rfl | rfl | rfl | rfl | rfl | rfl | rfl | rfl | rfl | rfl | rfl | rfl | rfl | rfl | rfl | rfl | rfl | rfl
    all_goals
      go_enter Try.func38, Try.ntmps38
      go_wp2
      go_ret
      exact ⟨rfl, below_alloc _ _⟩
  · rcases isK_cases hk with rfl | rfl | rfl | rfl | rfl | rfl | rfl | rfl | rfl | rfl | rfl | rfl | rfl | rfl | rfl | rfl | rfl | rfl
    all_goals
      go_enter Try.func38, Try.ntmps38
      go_wp2
      go_ret
      exact ⟨by simp [barB, h0], below_alloc _ _⟩
def prC (p : Nat × Nat) : List Value := [vI p.1, vI p.2]
def ppF (P : List (Nat × Nat)) : List Value := P.flatMap prC
theorem ppF_len (P : List (Nat × Nat)) : (ppF P).length = P.length * 2 := by
  induction P with
  | nil => rfl
  | cons p P ih =>
    show (prC p ++ ppF P).length = _
    rw [List.length_append, ih]
    simp [prC]; omega
theorem ppF_snoc (P : List (Nat × Nat)) (p : Nat × Nat) : ppF (P ++ [p]) = ppF P ++ prC p := by
  unfold ppF
  rw [List.flatMap_append]
  simp
theorem ppF_at0 (P : List (Nat × Nat)) (x y : Nat) : (ppF (P ++ [(x, y)]))[P.length * 2]? = some (vI x) := by
  rw [ppF_snoc, List.getElem?_append_right (by rw [ppF_len]; omega), ppF_len, Nat.sub_self]; rfl
theorem ppF_at1 (P : List (Nat × Nat)) (x y : Nat) : (ppF (P ++ [(x, y)]))[P.length * 2 + 1]? = some (vI y) := by
  rw [ppF_snoc, List.getElem?_append_right (by rw [ppF_len]; omega), ppF_len, show P.length * 2 + 1 - P.length * 2 = 1 by omega]; rfl
theorem ppF_set0 (P : List (Nat × Nat)) (x y z : Nat) : (ppF (P ++ [(x, y)])).set (P.length * 2) (vI z) = ppF (P ++ [(z, y)]) := by
  rw [ppF_snoc, ppF_snoc, List.set_append_right _ _ (by rw [ppF_len]; omega), ppF_len, Nat.sub_self]; rfl
theorem ppF_set1 (P : List (Nat × Nat)) (x y z : Nat) : (ppF (P ++ [(x, y)])).set (P.length * 2 + 1) (vI z) = ppF (P ++ [(x, z)]) := by
  rw [ppF_snoc, ppF_snoc, List.set_append_right _ _ (by rw [ppF_len]; omega), ppF_len, show P.length * 2 + 1 - P.length * 2 = 1 by omega]; rfl
/-- One cell of a row of its own turned. -/
theorem own_setCell {w : World} {base size n g cap j : Nat} {e : TypeId} {xs : List Value} (h : w.ownsRow base e size (.slice (some ⟨g, 0, none⟩) n cap) n xs) (hj : j < n * size) (u : Value) : (w.setCell ⟨g, j, none⟩ u).ownsRow base e size (.slice (some ⟨g, 0, none⟩) n cap) n (xs.set j u) := by
  obtain ⟨h1, h2⟩ := h
  refine ⟨by rw [List.length_set]; exact h1, ?_⟩
  rcases h2 with ⟨e1, -⟩ | ⟨g', cap', cur, e1, hb, hg, hn, hc, hs, ht⟩
  · cases e1
  · cases e1
    refine .inr ⟨g, cap, cur.setIfInBounds j u, rfl, hb, heap_setCell_same w g j _ e u hg, hn, hc, by rw [Array.size_setIfInBounds]; exact hs, ?_⟩
    rw [Array.toList_setIfInBounds, List.take_set, ht]
theorem infoPr : (Try.prog.info? 41).map (fun i => (i.zero, i.size, i.bytes)) = some (some (.agg #[vI 0, vI 0]), 2, 16) := by kernel_rfl
theorem run_onePr (w : World) : (Instr.buildSlice 36 1 #[(0, .agg #[vI 0, vI 0])]).run Try.prog w = .ok (.slice (some ⟨w.heap.size, 0, none⟩) 1 1) (w.alloc (.cells #[vI 0, vI 0] 41)) := by
  obtain ⟨i, hi, hz, hs, hby⟩ := info_parts infoPr
  exact run_buildSlice (P := Try.prog) w 36 41 1 _ _ i (.agg #[vI 0, vI 0]) Try.underlying36 hi hz (by rw [hs]; decide) (by rw [hs]; decide) (by rw [hs]; kernel_rfl)
theorem wpList_onePr {ops : Array Oper} {rest : List Oper} {p : Oper} {a : Act} {w : World} {Q : Exit → Act → World → Prop} (hg : p.guard = none) (y : Operand) (ho : p.op = .buildSlice 36 1 #[(0, y)]) (hy : a.eval y = .agg #[vI 0, vI 0])
    (h : wpList Try.prog ops Q rest (a.put p.dst (.slice (some ⟨w.heap.size, 0, none⟩) 1 1)) (w.alloc (.cells #[vI 0, vI 0] 41))) : wpList Try.prog ops Q (p :: rest) a w :=
  wpList_plain hg fun _ hK => by
    unfold Oper.wp execOp
    simp only [ho, Sem.run_bind, List.map_toArray, List.map_cons, List.map_nil, hy, run_onePr, Result.andThen_ok]
    exact hK _ _ h
theorem wpList_appPr {ops : Array Oper} {rest : List Oper} {p : Oper} {a : Act} {w : World} {Q : Exit → Act → World → Prop} (hg : p.guard = none) (s x : Operand) (ho : p.op = .call { callee := .builtin .append, args := #[s, x], argTypes := #[36, 36] }) {base N n : Nat} {v : Value} {P : List (Nat × Nat)} (hn : P.length = n) (hs : a.eval s = v) (hx : a.eval x = .slice (some ⟨N, 0, none⟩) 1 1) (hc : w.heap[N]? = some (.cells #[vI 0, vI 0] 41)) (O : w.ownsRow base 41 2 v n (ppF P)) (hl : n ≤ 100000) (hbase : base ≤ w.heap.size)
    (h : ∀ g cap w', w'.ownsRow base 41 2 (.slice (some ⟨g, 0, none⟩) (n + 1) cap) (n + 1) (ppF (P ++ [(0, 0)])) → Goes (fun k => v.ownBlock = some k) w w' → (v.ownBlock = some g ∨ g = w.heap.size) → wpList Try.prog ops Q rest (a.put p.dst (.slice (some ⟨g, 0, none⟩) (n + 1) cap)) w') : wpList Try.prog ops Q (p :: rest) a w := by
  subst hn
  exact wpList_plain hg fun _ hK => by
    obtain ⟨i, hi, hz, hsz, hby⟩ := info_parts infoPr
    obtain ⟨g, cap, w', hr, q1, q2, q3, _⟩ := run_append_lies (P := Try.prog) (w := w) 36 p.type base 41 i (.agg #[vI 0, vI 0]) 2 16 Try.underlying36 hi hz hsz hby rfl (by decide) v P.length (ppF P) O ⟨N, 0, none⟩ 1 1 [vI 0, vI 0] rfl (fun j u hj => by
      rw [Addr.add_mid, Nat.zero_add, cell_of_row _ _ _ _ _ _ hc]
      rw [List.getElem?_toArray]; exact hj) (by simp [Value.oneCell']) (by decide) (by simp only [maxLen]; omega) (by omega) hbase w.heap.size rfl
    unfold Oper.wp execOp
    simp only [ho, resolve, invoke, builtin, Sem.run_bind, Sem.run_pure, Result.andThen_ok, List.map_toArray, List.map_cons, List.map_nil, hs, hx, hr]
    exact hK _ _ (h g cap w' (by rw [ppF_snoc]; exact q1) (goes_grown q2 (fun k hk => hk)) q3)
end Go.Proofs.Ytilbnjldfgofmaa
/- parts. -/
namespace Go.Proofs.Ytilbnjldfgofmaa
open Go.RowKit
set_option linter.unusedVariables false
set_option linter.unusedSimpArgs false
set_option maxRecDepth 8000

theorem own_ge {w : World} {base n size k : Nat} {e : TypeId} {v : Value} {xs : List Value} (h : w.ownsRow base e size v n xs) (hk : v.ownBlock = some k) : base ≤ k ∧ ∃ cur, w.heap[k]? = some (.cells cur e) := by
  rcases h.2 with ⟨rfl, -⟩ | ⟨g, cap, cur, rfl, hb, hg, -⟩
  · cases hk
  · cases hk; exact ⟨hb, cur, hg⟩
theorem own_up {w w' : World} {base n size : Nat} {e : TypeId} {v : Value} {xs : List Value} (h : w.ownsRow base e size v n xs) (hb : Below w.heap.size w w') : w'.ownsRow base e size v n xs :=
  own_of_block h (fun k hk => by obtain ⟨-, cur, hc⟩ := own_ge h hk; exact hb.block k (lt_of_some hc))
theorem Ops.keepB {w w' : World} {v : Value} {l : List Opr} (h : Ops w v l) (hs : ∀ k, k < w.heap.size → k < w'.heap.size) (hb : ∀ ra n cap, v = .slice (some ra) n cap → ra.block < w.heap.size → w'.heap[ra.block]? = w.heap[ra.block]?) : Ops w' v l :=
  ⟨h.len, h.max, fun h0 => by
    obtain ⟨ra, cap, e, hc⟩ := h.cell h0
    refine ⟨ra, cap, e, fun i o ho => ?_⟩
    have A := hc i o ho
    have eb : (ra.add (i * 6)).block = ra.block := by unfold Addr.add; split <;> rfl
    have lt := A.lt
    exact A.keep (hs _ lt) (by rw [eb] at lt ⊢; exact hb ra _ cap e lt)⟩
theorem ops_far {w : World} {v : Value} {l : List Opr} (O : Ops w v l) (h0 : 0 < l.length) : ∀ ra n cap, v = .slice (some ra) n cap → ra.block < w.heap.size := by
  intro ra n cap e
  obtain ⟨ra', c', e', hc⟩ := O.cell h0
  cases e.symm.trans e'
  have := (hc 0 _ (opAt_some h0)).lt
  have e6 : (ra.add (0 * 6)).block = ra.block := by unfold Addr.add; split <;> rfl
  rwa [e6] at this
theorem trc_cons (o : Opr) (t : List Opr) : trc (o :: t) = (cl o).toList ++ trc t := by
  unfold trc
  cases h : cl o <;> simp [h]
section
variable {pc words el : Int} {l : List Opr} {v : Value} {w : World}
/-- What parts holds. -/
structure PtW (w : World) (pc words el : Int) (v : Value) (l : List Opr) (b1 : Nat) (P : List (Nat × Nat)) (bs : List Opr) (vl vb : Value) (x : World) : Prop where
  k1 : Bk x b1 pc words el v l
  ol : x.ownsRow w.heap.size 41 2 vl P.length (ppF P)
  ob : x.ownsRow w.heap.size 40 6 vb bs.length (opF bs)
  low : Below w.heap.size w x
  far : ∀ ra n cap, v = .slice (some ra) n cap → ra.block < w.heap.size
  box : w.heap.size ≤ b1
theorem PtW.grow {b1 : Nat} {P : List (Nat × Nat)} {bs : List Opr} {vl vb : Value} {x y : World} (h : PtW w pc words el v l b1 P bs vl vb x) (hb : Below x.heap.size x y) : PtW w pc words el v l b1 P bs vl vb y := ⟨h.k1.grow hb, own_up h.ol hb, own_up h.ob hb, below_then h.low (Nat.le_refl _) hb, h.far, h.box⟩
theorem Bk.goes {b1 : Nat} {F : Nat → Prop} {x y : World} (h : Bk x b1 pc words el v l) (far : ∀ ra n cap, v = .slice (some ra) n cap → ra.block < w.heap.size) (hg : Goes F x y) (hF : ∀ k, F k → w.heap.size ≤ k) (hn : ¬ F b1) : Bk y b1 pc words el v l :=
  ⟨(hg.block b1 (lt_of_some h.r) hn).trans h.r, h.ops.keepB (fun q hq => Nat.lt_of_lt_of_le hq hg.size) (fun ra n cap e hlt => hg.block _ hlt (fun q => by have := hF _ q; have := far ra n cap e; omega))⟩
theorem low_goes {F : Nat → Prop} {x y : World} (h : Below w.heap.size w x) (hg : Goes F x y) (hF : ∀ k, F k → w.heap.size ≤ k) : Below w.heap.size w y :=
  ⟨hg.os.trans h.os, hg.tape.trans h.tape, hg.output.trans h.output, Nat.le_trans h.size hg.size, fun k hk => (hg.block k (Nat.lt_of_lt_of_le hk h.size) (fun q => by have := hF k q; omega)).trans (h.block k hk)⟩
theorem PtW.appB {b1 : Nat} {P : List (Nat × Nat)} {bs : List Opr} {o : Opr} {vl vb vb' : Value} {x y : World} (h : PtW w pc words el v l b1 P bs vl vb x) (q1 : y.ownsRow w.heap.size 40 6 vb' (bs.length + 1) (opF (bs ++ [o]))) (q2 : Goes (fun k => vb.ownBlock = some k) x y) : PtW w pc words el v l b1 P (bs ++ [o]) vl vb' y :=
  ⟨h.k1.goes h.far q2 (fun k hk => (own_ge h.ob hk).1) (fun hk => by obtain ⟨-, cur, hc⟩ := own_ge h.ob hk; exact ne_of_type h.k1.r hc (by decide) rfl),
   own_of_block h.ol (fun k hk => by
    obtain ⟨-, cur, hc⟩ := own_ge h.ol hk
    exact q2.block k (lt_of_some hc) (fun q => by obtain ⟨-, c2, hc2⟩ := own_ge h.ob q; exact ne_of_type hc hc2 (by decide) rfl)),
   by rw [List.length_append]; exact q1, low_goes h.low q2 (fun k hk => (own_ge h.ob hk).1), h.far, h.box⟩
theorem PtW.appL {b1 : Nat} {P : List (Nat × Nat)} {bs : List Opr} {p : Nat × Nat} {vl vl' vb : Value} {x y : World} (h : PtW w pc words el v l b1 P bs vl vb x) (q1 : y.ownsRow w.heap.size 41 2 vl' (P.length + 1) (ppF (P ++ [p]))) (q2 : Goes (fun k => vl.ownBlock = some k) x y) : PtW w pc words el v l b1 (P ++ [p]) bs vl' vb y :=
  ⟨h.k1.goes h.far q2 (fun k hk => (own_ge h.ol hk).1) (fun hk => by obtain ⟨-, cur, hc⟩ := own_ge h.ol hk; exact ne_of_type h.k1.r hc (by decide) rfl),
   by rw [List.length_append]; exact q1,
   own_of_block h.ob (fun k hk => by
    obtain ⟨-, cur, hc⟩ := own_ge h.ob hk
    exact q2.block k (lt_of_some hc) (fun q => by obtain ⟨-, c2, hc2⟩ := own_ge h.ol q; exact ne_of_type hc hc2 (by decide) rfl)), low_goes h.low q2 (fun k hk => (own_ge h.ol hk).1), h.far, h.box⟩
theorem PtW.setL {b1 g cap j : Nat} {P P' : List (Nat × Nat)} {bs : List Opr} {u vb : Value} {x : World} (h : PtW w pc words el v l b1 P bs (.slice (some ⟨g, 0, none⟩) P.length cap) vb x) (hj : j < P.length * 2) (hl : P'.length = P.length) (hs : (ppF P).set j u = ppF P') : PtW w pc words el v l b1 P' bs (.slice (some ⟨g, 0, none⟩) P.length cap) vb (x.setCell ⟨g, j, none⟩ u) := by
  have hg : Goes (fun b => b = g) x (x.setCell ⟨g, j, none⟩ u) := goes_setCell (F := fun b => b = g) x (b := g) rfl _ _
  have hge := (own_ge h.ol (k := g) rfl)
  obtain ⟨hb, cur, hc⟩ := hge
  refine ⟨h.k1.goes h.far hg (fun k hk => by subst hk; exact hb) (fun hk => by subst hk; exact ne_of_type h.k1.r hc (by decide) rfl), ?_, own_of_block h.ob (fun k hk => by
    obtain ⟨-, c2, hc2⟩ := own_ge h.ob hk
    exact hg.block k (lt_of_some hc2) (fun q => by subst q; exact ne_of_type hc2 hc (by decide) rfl)), low_goes h.low hg (fun k hk => by subst hk; exact hb), h.far, h.box⟩
  have := own_setCell h.ol hj u
  rw [hs] at this
  rw [hl]
  exact this
theorem PtW.set7 {b1 t7 j : Nat} {P : List (Nat × Nat)} {bs : List Opr} {vl vb u : Value} {C : Array Value} {x : World} (h : PtW w pc words el v l b1 P bs vl vb x) (h7 : x.heap[t7]? = some (.cells C 40)) (hge : w.heap.size ≤ t7) (hne : vb.ownBlock ≠ some t7) : PtW w pc words el v l b1 P bs vl vb (x.setCell ⟨t7, j, none⟩ u) := by
  have hg : Goes (fun b => b = t7) x (x.setCell ⟨t7, j, none⟩ u) := goes_setCell (F := fun b => b = t7) x (b := t7) rfl _ _
  exact ⟨h.k1.goes h.far hg (fun k hk => by subst hk; exact hge) (fun hk => by subst hk; exact ne_of_type h.k1.r h7 (by decide) rfl),
    own_of_block h.ol (fun k hk => by
      obtain ⟨-, c2, hc2⟩ := own_ge h.ol hk
      exact hg.block k (lt_of_some hc2) (fun q => by subst q; exact ne_of_type hc2 h7 (by decide) rfl)),
    own_of_block h.ob (fun k hk => by
      obtain ⟨-, c2, hc2⟩ := own_ge h.ob hk
      exact hg.block k (lt_of_some hc2) (fun q => by subst q; exact hne hk)), low_goes h.low hg (fun k hk => by subst hk; exact hge), h.far, h.box⟩
set_option maxHeartbeats 8000000 in
theorem parts_c (hR : rightB pc words el l = true) (O : Ops w v l) : Calls Try.prog 19 #[blV pc words el v] w fun e w' => ∃ vl vb, e = .returned (.tuple #[vl, vb]) ∧ w'.ownsRow w.heap.size 41 2 vl (pts 0 0 (trc l)).length (ppF (pts 0 0 (trc l))) ∧ w'.ownsRow w.heap.size 40 6 vb (bars (trc l)).length (opF (bars (trc l))) ∧ Below w.heap.size w w' := by
  have h0 := (right_lens hR).1
  have h512 := (right_lens hR).2.1
  have far : ∀ ra n cap, v = .slice (some ra) n cap → ra.block < w.heap.size := fun ra n cap e => ops_far O h0 ra n cap e
  have hb := below_alloc w (.cells (blA pc words el v) 25)
  have K1 := Bk.new (pc := pc) (words := words) (el := el) O
  obtain ⟨ra, c1, rfl, -⟩ := K1.ops.cell h0
  go_enter Try.func19, Try.ntmps19
  go_upto_region 1 with fail
  clear O
  generalize w.alloc (.cells (blA pc words el (.slice (some ra) l.length c1)) 25) = w1 at *
  have hb2 := below_alloc w1 (.cells #[vI 0, vI 0] 41)
  have hown : (w1.alloc (.cells #[vI 0, vI 0] 41)).ownsRow w.heap.size 41 2 (.slice (some ⟨w1.heap.size, 0, none⟩) 1 1) 1 (ppF [(0, 0)]) := ⟨rfl, .inr ⟨w1.heap.size, 1, _, rfl, hb.size, heap_alloc_new _ _, Nat.le_refl _, by decide, rfl, rfl⟩⟩
  have X : PtW w pc words el (.slice (some ra) l.length c1) l w.heap.size [(0, 0)] [] (.slice (some ⟨w1.heap.size, 0, none⟩) 1 1) (.slice none 0 0) (w1.alloc (.cells #[vI 0, vI 0] 41)) := ⟨K1.grow hb2, hown, ⟨rfl, .inl ⟨rfl, rfl⟩⟩, below_then hb (Nat.le_refl _) hb2, far, Nat.le_refl _⟩
  clear hown hb2 K1 hb
  go_upto_region 4 with (first | ((with_reducible refine wpList_onePr rfl _ rfl rfl ?_); simp only [Act.put, List.setIfInBounds_toArray, List.set_cons_succ, List.set_cons_zero]))
  generalize w1.alloc (.cells #[vI 0, vI 0] 41) = w2 at *
  generalize w1.heap.size = g0 at *
  generalize hb1 : w.heap.size = b1 at X ⊢
  have hb1' : w.heap.size ≤ b1 := by omega
  clear w1 hb1
  go_loopw [4, 5, 6] (fun s4 s5 s6 wr => ∃ (i x y : Nat) (P0 : List (Nat × Nat)) (bs : List Opr), s6 = vI i ∧ i ≤ l.length ∧ P0.length ≤ i ∧ bs.length ≤ i ∧ x ≤ i ∧ y ≤ i ∧ Hid (pts 0 0 (trc l) = P0 ++ pts x y (trc (l.drop i))) ∧ Hid (bars (trc l) = bs ++ bars (trc (l.drop i))) ∧ PtW w pc words el (.slice (some ra) l.length c1) l b1 (P0 ++ [(x, y)]) bs s4 s5 wr) (fun _ _ s6 _ => ((l.length : Int) - intOf s6).toNat)
  case atStart => exact ⟨0, 0, 0, [], [], rfl, Nat.zero_le _, Nat.le_refl _, Nat.le_refl _, Nat.le_refl _, Nat.le_refl _, rfl, rfl, X⟩
  case round =>
    clear X
    obtain ⟨i, x, y, P0, bs, rfl, hi, hP, hB, hx, hy, hS, hT, X⟩ := hrel
    have z1 := X.k1.z
    by_cases hlt : (i : Int) < l.length
    · have hil : Hid (i < l.length) := by show i < l.length; omega
      obtain ⟨ra', c', e', hc⟩ := X.k1.ops.cell h0
      cases e'
      have A := hc i _ (opAt_some hil.out)
      clear hc
      have Hn := has_none wr
      have hK := kind_at (right_at hR hil.out)
      have hne : u5.ownBlock ≠ some wr.heap.size := fun hk => by obtain ⟨-, cur, hc⟩ := own_ge X.ob hk; exact absurd (lt_of_some hc) (Nat.lt_irrefl _)
      have hge : w.heap.size ≤ wr.heap.size := X.low.size
      have kb := fun z => barrierD_c (opAt l i) hK z
      go_upto_region 7 with (first | ((with_reducible refine wpList_load42 rfl _ rfl _ rfl _ A ?_); simp only [Act.put, List.setIfInBounds_toArray, List.set_cons_succ, List.set_cons_zero]) | ((with_reducible refine wpList_store_new Hn rfl 40 _ _ rfl (opA (opAt l i)) rfl rfl (op_inf _) (by kernel_rfl) (op_one _) ?_); clear Hn; intro w5 Hn; simp only [Act.put, List.setIfInBounds_toArray, List.set_cons_succ, List.set_cons_zero]))
      have L : LocO wr.heap.size (opAt l i) w5 := Hn.get List.mem_cons_self
      replace X := X.grow Hn.below
      clear Hn A z1
      generalize wr.heap.size = t7 at *
      clear wr
      have A7 := L.at_
      go_upto_region 8 with (first | ((with_reducible refine wpList_load42 rfl _ rfl _ rfl _ A7 ?_); simp only [Act.put, List.setIfInBounds_toArray, List.set_cons_succ, List.set_cons_zero]) | (go_at_call 38; (with_reducible refine (kb _).mono ?_); clear kb; rintro e w6 ⟨rfl, B⟩; dsimp only))
      replace X := X.grow B
      replace L := L.grow B
      clear A7 B w5
      have c0 := L.c0
      cases hbar : barB (opAt l i) with
      | true =>
        have hcl : cl (opAt l i) = some (.inl (bare (opAt l i))) := by unfold cl; rw [if_pos hbar]
        have hS2 : Hid (pts 0 0 (trc l) = (P0 ++ [(x, y)]) ++ pts 0 0 (trc (l.drop (i + 1)))) := by
          have q := hS.out
          rw [drop_at hil.out, trc_cons, hcl] at q
          rw [List.append_assoc]
          exact q
        have hT2 : Hid (bars (trc l) = (bs ++ [bare (opAt l i)]) ++ bars (trc (l.drop (i + 1)))) := by
          have q := hT.out
          rw [drop_at hil.out, trc_cons, hcl] at q
          rw [List.append_assoc]
          exact q
        clear hS hT hcl
        have c2 := L.c2
        have c3 := L.c3
        have f2 : w6.frozen? ⟨t7, 2, none⟩ = false := frozen_of_row _ _ _ _ _ L
        have f3 : w6.frozen? ⟨t7, 3, none⟩ = false := frozen_of_row _ _ _ _ _ L
        have L2 : (w6.setCell ⟨t7, 2, none⟩ (vI 0)).heap[t7]? = some (.cells (opA { opAt l i with a := 0 }) 40) := (heap_setCell_same w6 t7 2 _ 40 (vI 0) L).trans rfl
        have X2 := X.set7 (j := 2) (u := vI 0) L hge hne
        go_upto_region 10 with fail
        clear X L c0 c2 c3 f2 f3
        generalize w6.setCell ⟨t7, 2, none⟩ (vI 0) = w7 at *
        have c3 : w7.cell? ⟨t7, 3, none⟩ = some (vI (opAt l i).b) := by rw [cell_of_row _ _ _ _ _ _ L2]; rfl
        have f3 : w7.frozen? ⟨t7, 3, none⟩ = false := frozen_of_row _ _ _ _ _ L2
        have L3 : LocO t7 (bare (opAt l i)) (w7.setCell ⟨t7, 3, none⟩ (vI 0)) := (heap_setCell_same w7 t7 3 _ 40 (vI 0) L2).trans rfl
        have X3 := X2.set7 (j := 3) (u := vI 0) L2 hge hne
        go_upto_region 11 with fail
        clear X2 L2 c3 f3
        generalize w7.setCell ⟨t7, 3, none⟩ (vI 0) = w8 at *
        clear w7 w6
        have A8 := L3.at_
        generalize hO2 : bare (opAt l i) = o2 at *
        replace hO2 := show Hid _ from hO2
        have hNb := below_alloc w8 (.cells (opA o2) 40)
        have hN := heap_alloc_new w8 (.cells (opA o2) 40)
        have X4 := X3.grow hNb
        have hown := X4.ob
        have hB0 := X4.low.size
        have hmx : bs.length ≤ 100000 := by have := hil.out; omega
        go_upto_region 12 with (first | ((with_reducible refine wpList_load42 rfl _ rfl _ rfl _ A8 ?_); simp only [Act.put, List.setIfInBounds_toArray, List.set_cons_succ, List.set_cons_zero]) | ((with_reducible refine wpList_oneO rfl _ rfl o2 rfl ?_); simp only [Act.put, List.setIfInBounds_toArray, List.set_cons_succ, List.set_cons_zero]) | ((with_reducible refine wpList_appO rfl _ _ rfl rfl rfl rfl hN hown hmx hB0 ?_); intro g2 cap2 w9 q1 q2 q3; simp only [Act.put, List.setIfInBounds_toArray, List.set_cons_succ, List.set_cons_zero]))
        have X5 := X4.appB q1 q2
        clear X4 X3 L3 A8 hNb hN hown hB0 q1 q2 q3
        have hNb := below_alloc w9 (.cells #[vI 0, vI 0] 41)
        have hN := heap_alloc_new w9 (.cells #[vI 0, vI 0] 41)
        have X6 := X5.grow hNb
        have hown := X6.ol
        have hB0 := X6.low.size
        have hmp : (P0 ++ [(x, y)]).length ≤ 100000 := by rw [List.length_append]; have := hil.out; simp; omega
        generalize hQ : P0 ++ [(x, y)] = Q at *
        replace hQ := show Hid _ from hQ
        go_wp2_with (first | ((with_reducible refine wpList_onePr rfl _ rfl rfl ?_); simp only [Act.put, List.setIfInBounds_toArray, List.set_cons_succ, List.set_cons_zero]) | ((with_reducible refine wpList_appPr rfl _ _ rfl rfl rfl rfl hN hown hmp hB0 ?_); intro g3 cap3 w10 q1 q2 q3; simp only [Act.put, List.setIfInBounds_toArray, List.set_cons_succ, List.set_cons_zero]))
        have X7 := X6.appL q1 q2
        go_roundw
        case rel => exact ⟨i + 1, 0, 0, Q, bs ++ [o2], by go_num, by have := hil.out; omega, by rw [← hQ.out, List.length_append]; simp; omega, by simp; omega, by omega, by omega, hS2, hT2, X7⟩
        case measure => simp [intOf]; omega
      | false =>
        by_cases k9 : (opAt l i).kind = 9
        · have hcl : cl (opAt l i) = some (.inr true) := by unfold cl; rw [hbar, k9]; rfl
          rw [k9] at c0
          have hS2 : Hid (pts 0 0 (trc l) = P0 ++ pts (x + 1) y (trc (l.drop (i + 1)))) := by
            have q := hS.out
            rw [drop_at hil.out, trc_cons, hcl] at q
            exact q
          have hT2 : Hid (bars (trc l) = bs ++ bars (trc (l.drop (i + 1)))) := by
            have q := hT.out
            rw [drop_at hil.out, trc_cons, hcl] at q
            exact q
          obtain ⟨g, cap, rfl⟩ : ∃ g cap, u4 = .slice (some ⟨g, 0, none⟩) (P0 ++ [(x, y)]).length cap := by
            rcases X.ol.2 with ⟨-, h⟩ | ⟨g, cap, cur, e, -⟩
            · simp at h
            · exact ⟨g, cap, e⟩
          clear hS hT hcl
          go_upto_region 14 with fail
          refine wp_region_still_tail 10 (by kernel_rfl) (by kernel_rfl) ?_
          replace X := X.grow (below_dr w6)
          generalize ({ w6 with drawn := w6.drawn + 1 } : World) = w7 at *
          have hlen : (P0 ++ [(x, y)]).length = P0.length + 1 := by simp
          have zc : w7.cell? ⟨g, P0.length * 2, none⟩ = some (vI x) := by
            rw [X.ol.cellAt _ (by rw [hlen]; omega)]
            exact ppF_at0 P0 x y
          have zf : w7.frozen? ⟨g, P0.length * 2, none⟩ = false := X.ol.frozenAt _
          have X2 := X.setL (j := P0.length * 2) (u := vI (x + 1 : Nat)) (P' := P0 ++ [((x + 1), y)]) (by rw [hlen]; omega) (by simp) (ppF_set0 P0 x y (x + 1))
          rw [hlen] at X2 ⊢
          simp only [List.take_succ_cons, List.take_zero, List.drop_succ_cons, List.drop_zero]
          have hPb : P0.length ≤ 512 := by have := hil.out; omega
          have hPx : x ≤ 512 ∧ y ≤ 512 := by have := hil.out; omega
          have hw1 : IntKind.i64.wrap (P0.length : Int) = P0.length := by rw [IntKind.wrap_i64]; omega
          have hw2 : IntKind.i64.wrap ((P0.length : Int) + 1 - 1) = P0.length := by rw [IntKind.wrap_i64]; omega
          have hw3 : IntKind.i64.wrap ((x : Int) + 1) = (x : Int) + 1 := by rw [IntKind.wrap_i64]; omega
          have hw4 : IntKind.i64.wrap ((y : Int) + 1) = (y : Int) + 1 := by rw [IntKind.wrap_i64]; omega
          have hq1 : (((P0.length + 1 : Nat) : Int) - 1) = (P0.length : Int) := by omega
          have hq2 : ((P0.length : Int) + 1 - 1) = (P0.length : Int) := by omega
          have hq3 : (P0.length : Int) < ((P0.length + 1 : Nat) : Int) := by omega
          have hq4 : (P0.length : Int) < (P0.length : Int) + 1 := by omega
          repeat still_step
          refine wpStill_nil ?_
          go_wp2
          go_roundw
          case rel => exact ⟨i + 1, x + 1, y, P0, bs, by go_num, by have := hil.out; omega, by omega, by omega, by omega, by omega, hS2, hT2, X2⟩
          case measure => simp [intOf]; omega
        · by_cases k10 : (opAt l i).kind = 10
          · have hcl : cl (opAt l i) = some (.inr false) := by unfold cl; rw [hbar, if_neg (by decide), if_neg k9, if_pos k10]
            rw [k10] at c0
            have hS2 : Hid (pts 0 0 (trc l) = P0 ++ pts x (y + 1) (trc (l.drop (i + 1)))) := by
              have q := hS.out
              rw [drop_at hil.out, trc_cons, hcl] at q
              exact q
            have hT2 : Hid (bars (trc l) = bs ++ bars (trc (l.drop (i + 1)))) := by
              have q := hT.out
              rw [drop_at hil.out, trc_cons, hcl] at q
              exact q
            obtain ⟨g, cap, rfl⟩ : ∃ g cap, u4 = .slice (some ⟨g, 0, none⟩) (P0 ++ [(x, y)]).length cap := by
              rcases X.ol.2 with ⟨-, h⟩ | ⟨g, cap, cur, e, -⟩
              · simp at h
              · exact ⟨g, cap, e⟩
            clear hS hT hcl
            go_upto_region 16 with fail
            refine wp_region_still_tail 10 (by kernel_rfl) (by kernel_rfl) ?_
            replace X := X.grow (below_dr w6)
            generalize ({ w6 with drawn := w6.drawn + 1 } : World) = w7 at *
            have hlen : (P0 ++ [(x, y)]).length = P0.length + 1 := by simp
            have zc : w7.cell? ⟨g, P0.length * 2 + 1, none⟩ = some (vI y) := by
              rw [X.ol.cellAt _ (by rw [hlen]; omega)]
              exact ppF_at1 P0 x y
            have zf : w7.frozen? ⟨g, P0.length * 2 + 1, none⟩ = false := X.ol.frozenAt _
            have X2 := X.setL (j := P0.length * 2 + 1) (u := vI (y + 1 : Nat)) (P' := P0 ++ [(x, (y + 1))]) (by rw [hlen]; omega) (by simp) (ppF_set1 P0 x y (y + 1))
            rw [hlen] at X2 ⊢
            simp only [List.take_succ_cons, List.take_zero, List.drop_succ_cons, List.drop_zero]
            have hPb : P0.length ≤ 512 := by have := hil.out; omega
            have hPx : x ≤ 512 ∧ y ≤ 512 := by have := hil.out; omega
            have hw1 : IntKind.i64.wrap (P0.length : Int) = P0.length := by rw [IntKind.wrap_i64]; omega
            have hw2 : IntKind.i64.wrap ((P0.length : Int) + 1 - 1) = P0.length := by rw [IntKind.wrap_i64]; omega
            have hw3 : IntKind.i64.wrap ((x : Int) + 1) = (x : Int) + 1 := by rw [IntKind.wrap_i64]; omega
            have hw4 : IntKind.i64.wrap ((y : Int) + 1) = (y : Int) + 1 := by rw [IntKind.wrap_i64]; omega
            have hq1 : (((P0.length + 1 : Nat) : Int) - 1) = (P0.length : Int) := by omega
            have hq2 : ((P0.length : Int) + 1 - 1) = (P0.length : Int) := by omega
            have hq3 : (P0.length : Int) < ((P0.length + 1 : Nat) : Int) := by omega
            have hq4 : (P0.length : Int) < (P0.length : Int) + 1 := by omega
            repeat still_step
            refine wpStill_nil ?_
            go_wp2
            go_roundw
            case rel => exact ⟨i + 1, x, y + 1, P0, bs, by go_num, by have := hil.out; omega, by omega, by omega, by omega, by omega, hS2, hT2, X2⟩
            case measure => simp [intOf]; omega
          · have hcl : cl (opAt l i) = none := by unfold cl; rw [hbar, if_neg (by decide), if_neg k9, if_neg k10]
            have hS2 : Hid (pts 0 0 (trc l) = P0 ++ pts x y (trc (l.drop (i + 1)))) := by
              have q := hS.out
              rw [drop_at hil.out, trc_cons, hcl] at q
              exact q
            have hT2 : Hid (bars (trc l) = bs ++ bars (trc (l.drop (i + 1)))) := by
              have q := hT.out
              rw [drop_at hil.out, trc_cons, hcl] at q
              exact q
            clear hS hT hcl
            go_wp2
            go_roundw
            case rel => exact ⟨i + 1, x, y, P0, bs, by go_num, by have := hil.out; omega, by omega, by omega, by omega, by omega, hS2, hT2, X⟩
            case measure => simp [intOf]; omega
    · have hil : i = l.length := by omega
      have hS2 := hS.out
      have hT2 := hT.out
      rw [hil, List.drop_length] at hS2 hT2
      have e1 : Hid (pts 0 0 (trc l) = P0 ++ [(x, y)]) := hS2
      have e2 : Hid (bars (trc l) = bs) := by show _ = bs; rw [hT2]; exact List.append_nil _
      have h1 := X.ol
      have h2 := X.ob
      have h3 := X.low
      clear X hS hT hS2 hT2
      go_wp2
      refine bodyPost_ret (results_tmp2 rfl _ _ _) rfl ?_
      exact ⟨_, _, rfl, by rw [e1.out]; exact h1, by rw [e2.out]; exact h2, h3⟩
end
end Go.Proofs.Ytilbnjldfgofmaa
/- Pairs and operations compared. -/
namespace Go.Proofs.Ytilbnjldfgofmaa
open Go.RowKit
set_option linter.unusedVariables false
set_option linter.unusedSimpArgs false
set_option maxRecDepth 8000

theorem still_row {ops : Array Oper} {rest : List Oper} {o : Oper} {a : Act} {w : World} {Q : Act → Prop} (hg : Region.wanted o (yielded ops a.tmps) = true) (t : TypeId) (x : Operand) (ho : o.op = .load t x) {p : Addr} (hx : a.eval x = .pointer (some p)) {v : Value} (hr : (loadVar t p).run Try.prog w = .ok v w)
    (h : wpStill Try.prog ops w Q rest (a.put o.dst v)) : wpStill Try.prog ops w Q (o :: rest) a := by
  refine wpStill_step fun K hK => ?_
  rw [if_pos hg]
  unfold Oper.still execOp
  simp only [ho, hx, Instr.loadAt, Instr.sureAddr, Sem.run_bind, Sem.run_pure, Result.andThen_ok, hr, Oper.stillUpon_value]
  exact hK _ h

theorem still_neqO {ops : Array Oper} {rest : List Oper} {o : Oper} {a : Act} {w : World} {Q : Act → Prop} (hg : Region.wanted o (yielded ops a.tmps) = true) (x y : Operand) (ho : o.op = .binOp .neq 40 x y 40) (c : Opr) (hx : a.eval x = opV c) (hy : a.eval y = opV c)
    (h : wpStill Try.prog ops w Q rest (a.put o.dst (.bool false))) : wpStill Try.prog ops w Q (o :: rest) a := by
  refine wpStill_step fun K hK => ?_
  rw [if_pos hg]
  have he := op_eq c c w
  rw [show decide (c = c) = true by simp] at he
  unfold Oper.still execOp
  simp only [ho, hx, hy, Sem.run_bind, run_eqGuard_agg w _ _ _ _ _ _ guard42, Result.andThen_ok, run_neq_struct, he, Sem.run_pure, Oper.stillUpon_value]
  exact hK _ h
theorem guardPr : Try.prog.eqGuardType Try.prog.depth 41 = false := by kernel_rfl
theorem pr_eq (x y : Nat) (w : World) : (Op.equalIn 10000 41 (.agg #[vI x, vI y]) (.agg #[vI x, vI y])).run Try.prog w = .ok true w := by
  obtain ⟨i, hi, hs⟩ : ∃ i, Try.prog.info? 3 = some i ∧ i.size = 1 := ⟨_, rfl, rfl⟩
  have hc : Try.prog.cellsOf 3 = 1 := by kernel_rfl
  rw [run_equalIn_array w 9999 _ _ Try.underlying41 hi, hc]
  have e : List.range 2 = [0, 1] := by decide
  rw [e]
  have hI : ∀ (u : Int), (Op.equalIn 9999 3 (vI u) (vI u)).run Try.prog w = .ok true w := fun u => by rw [run_equalIn_int w 9998 3 .i64 .i64 _ _ Try.underlying3]; simp
  have hp0 := part_c 3 (by decide) #[vI x, vI y] 0 (vI x) w rfl
  have hp1 := part_c 3 (by decide) #[vI x, vI y] 1 (vI y) w rfl
  simp only [Op.eqItems, Sem.run_bind, Nat.zero_mul, Nat.one_mul, hp0, hp1, Result.andThen_ok, hI, Bool.not_true, Bool.false_eq_true, if_false, Sem.run_pure]
theorem still_neqPr {ops : Array Oper} {rest : List Oper} {o : Oper} {a : Act} {w : World} {Q : Act → Prop} (hg : Region.wanted o (yielded ops a.tmps) = true) (x y : Operand) (ho : o.op = .binOp .neq 41 x y 41) (c d : Nat) (hx : a.eval x = .agg #[vI c, vI d]) (hy : a.eval y = .agg #[vI c, vI d])
    (h : wpStill Try.prog ops w Q rest (a.put o.dst (.bool false))) : wpStill Try.prog ops w Q (o :: rest) a := by
  refine wpStill_step fun K hK => ?_
  rw [if_pos hg]
  have he := pr_eq c d w
  unfold Oper.still execOp
  simp only [ho, hx, hy, Sem.run_bind, run_eqGuard_agg w _ _ _ _ _ _ guardPr, Result.andThen_ok, run_neq_struct, he, Sem.run_pure, Oper.stillUpon_value]
  exact hK _ h
theorem run_loadPr {w : World} {g k : Nat} {x y : Nat} (h0 : w.cell? ⟨g, k, none⟩ = some (vI x)) (h1 : w.cell? ⟨g, k + 1, none⟩ = some (vI y)) : (loadVar 41 ⟨g, k, none⟩).run Try.prog w = .ok (.agg #[vI x, vI y]) w := by
  have hl := run_loadCells_list (P := Try.prog) w ⟨g, k, none⟩ [vI x, vI y] (fun j v hv => by
    match j, hv with
    | 0, hv => cases hv; exact h0
    | 1, hv => cases hv; exact h1
    | j + 2, hv => simp at hv)
  have hi : (Try.prog.info? 41).map (·.size) = some 2 := by kernel_rfl
  have hagg : (isAgg 41).run Try.prog w = .ok true w := by
    unfold isAgg
    rw [Sem.run_bind, run_underlying Try.underlying41 w]
    rfl
  cases hq : Try.prog.info? 41 with
  | none => simp [hq] at hi
  | some i =>
    have hs : i.size = 2 := by simpa [hq] using hi
    have h1 : (loadCells ⟨g, k, none⟩ 2).run Try.prog w = _ := hl
    simp [loadVar, Sem.run_bind, hagg, sizeOf, typeInfo, hq, hs, h1]
theorem ppF_get {P : List (Nat × Nat)} {j : Nat} {p : Nat × Nat} (h : P[j]? = some p) : (ppF P)[j * 2]? = some (vI p.1) ∧ (ppF P)[j * 2 + 1]? = some (vI p.2) := by
  have e : P = P.take j ++ p :: P.drop (j + 1) := by
    obtain ⟨hl, hp⟩ := List.getElem?_eq_some_iff.1 h
    conv => lhs; rw [← List.take_append_drop j P, List.drop_eq_getElem_cons hl, hp]
  have hl : (P.take j).length = j := by
    have := (List.getElem?_eq_some_iff.1 h).1
    rw [List.length_take]; omega
  have e2 : ppF P = ppF (P.take j) ++ (prC p ++ ppF (P.drop (j + 1))) := by
    conv => lhs; rw [e]
    unfold ppF
    rw [List.flatMap_append, List.flatMap_cons]
  have hl2 : (ppF (P.take j)).length = j * 2 := by rw [ppF_len, hl]
  rw [e2]
  constructor
  · rw [List.getElem?_append_right (by omega), hl2, Nat.sub_self]; rfl
  · rw [List.getElem?_append_right (by omega), hl2, show j * 2 + 1 - j * 2 = 1 by omega]; rfl
end Go.Proofs.Ytilbnjldfgofmaa
/- OrderKeeps: the walk. -/
namespace Go.Proofs.Ytilbnjldfgofmaa
open Go.RowKit
set_option linter.unusedVariables false
set_option linter.unusedSimpArgs false
set_option maxRecDepth 8000

theorem bars_le : ∀ t : List (Sum Opr Bool), (bars t).length ≤ t.length
  | [] => Nat.le_refl _
  | .inl _ :: t => Nat.succ_le_succ (bars_le t)
  | .inr _ :: t => Nat.le_succ_of_le (bars_le t)
section
variable {pc words el : Int} {l : List Opr} {v : Value} {w : World}
/-- What OrderKeeps holds: three lists of stretches and three of barriers. -/
structure KeW (w : World) (v0 v1 v2 u0 u1 u2 : Value) (n0 n1 n2 m0 m1 m2 : Nat) (P Q : List (Nat × Nat)) (bs : List Opr) (x : World) : Prop where
  a0 : x.ownsRow n0 41 2 v0 P.length (ppF P)
  a1 : x.ownsRow n1 41 2 v1 P.length (ppF Q)
  a2 : x.ownsRow n2 41 2 v2 P.length (ppF P)
  c0 : x.ownsRow m0 40 6 u0 bs.length (opF bs)
  c1 : x.ownsRow m1 40 6 u1 bs.length (opF bs)
  c2 : x.ownsRow m2 40 6 u2 bs.length (opF bs)
  low : Below w.heap.size w x
theorem KeW.grow {v0 v1 v2 u0 u1 u2 : Value} {n0 n1 n2 m0 m1 m2 : Nat} {P Q : List (Nat × Nat)} {bs : List Opr} {x y : World} (h : KeW w v0 v1 v2 u0 u1 u2 n0 n1 n2 m0 m1 m2 P Q bs x) (hb : Below x.heap.size x y) : KeW w v0 v1 v2 u0 u1 u2 n0 n1 n2 m0 m1 m2 P Q bs y :=
  ⟨own_up h.a0 hb, own_up h.a1 hb, own_up h.a2 hb, own_up h.c0 hb, own_up h.c1 hb, own_up h.c2 hb, below_then h.low (Nat.le_refl _) hb⟩
set_option maxHeartbeats 16000000 in
theorem keeps_walk (hpc : 0 ≤ pc) (O : Ops w v l) (himm : ∀ k, 0 ≤ (opAt l k).imm) (hcap : ∀ ao n cap, v = .slice ao n cap → n ≤ cap) : Calls Try.prog 5 #[blV pc words el v] w fun e w' => e = .returned (.bool true) ∧ Below w.heap.size w w' := by
  have hb := below_alloc w (.cells (blA pc words el v) 25)
  have K1 := Bk.new (pc := pc) (words := words) (el := el) O
  go_enter Try.func5, Try.ntmps5
  go_upto_region 1 with fail
  clear O
  generalize w.alloc (.cells (blA pc words el v) 25) = w1 at *
  generalize w.heap.size = b1 at K1 ⊢
  go_upto_region 2 with (first | (go_at_call 7; (with_reducible refine (examples_c _).mono ?_); rintro e w2 ⟨rfl, B⟩; dsimp only))
  replace K1 := K1.grow B
  replace hb := below_then hb (Nat.le_refl _) B
  clear B
  cases hR : rightB pc words el l with
  | false =>
    replace hR := show Hid _ from hR
    have kp := loads_pass (words := words) (el := el) hpc K1.ops himm hcap
    have r1 := K1.r
    go_upto_region 3 with (first | ((with_reducible refine wpList_load_if rfl 25 _ rfl _ rfl 25 _ (0, 0) _ r1 Try.underlying25 rfl (bl_inf _ _ _ _) ?_); simp only [Act.put, List.setIfInBounds_toArray, List.set_cons_succ, List.set_cons_zero]) | (go_at_call 11; (with_reducible refine kp.mono ?_); clear kp; rintro e w5 ⟨B, ⟨hr, rfl⟩ | ⟨hr, _⟩⟩; rotate_left; (exfalso; rw [hR.out] at hr; cases hr); dsimp only; clear hr; have Hn := has_none w5) | ((with_reducible refine wpList_store_new Hn rfl 25 _ _ rfl (blA 0 0 0 (.slice none 0 0)) rfl rfl (bl_inf _ _ _ _) (by kernel_rfl) (blk_one _ _ _ _ rfl) ?_); clear Hn; intro w6 Hn; simp only [Act.put, List.setIfInBounds_toArray, List.set_cons_succ, List.set_cons_zero]))
    replace K1 := (K1.grow B).grow Hn.below
    replace hb := below_then (below_then hb (Nat.le_refl _) B) (Nat.le_refl _) Hn.below
    clear Hn B r1
    have kp := move_pass (words := words) (el := el) hpc K1.ops himm hcap
    have r1 := K1.r
    go_upto_region 4 with (first | ((with_reducible refine wpList_load_if rfl 25 _ rfl _ rfl 25 _ (0, 0) _ r1 Try.underlying25 rfl (bl_inf _ _ _ _) ?_); simp only [Act.put, List.setIfInBounds_toArray, List.set_cons_succ, List.set_cons_zero]) | (go_at_call 12; (with_reducible refine kp.mono ?_); clear kp; rintro e w7 ⟨B, ⟨hr, rfl⟩ | ⟨hr, _⟩⟩; rotate_left; (exfalso; rw [hR.out] at hr; cases hr); dsimp only; clear hr; have Hn := has_none w7) | ((with_reducible refine wpList_store_new Hn rfl 25 _ _ rfl (blA 0 0 0 (.slice none 0 0)) rfl rfl (bl_inf _ _ _ _) (by kernel_rfl) (blk_one _ _ _ _ rfl) ?_); clear Hn; intro w8 Hn; simp only [Act.put, List.setIfInBounds_toArray, List.set_cons_succ, List.set_cons_zero]))
    replace K1 := (K1.grow B).grow Hn.below
    replace hb := below_then (below_then hb (Nat.le_refl _) B) (Nat.le_refl _) Hn.below
    clear Hn B r1
    go_wp2
    go_ret
    exact ⟨rfl, hb⟩
  | true =>
    obtain ⟨q6, -, -⟩ := loads_rests hR himm
    obtain ⟨q8, -, -⟩ := move_rests hR himm
    obtain ⟨kb1, kl1⟩ := loads_keeps hR
    obtain ⟨kb2, kl2⟩ := move_keeps hR
    have l6 : (loadsL l).length ≤ maxLen := by have := (right_lens q6).2.1; simp only [maxLen]; omega
    have l8 : (moveL l).length ≤ maxLen := by have := (right_lens q8).2.1; simp only [maxLen]; omega
    replace hR := show Hid _ from hR
    replace q6 := show Hid _ from q6
    replace q8 := show Hid _ from q8
    replace kb1 := show Hid _ from kb1
    replace kl1 := show Hid _ from kl1
    replace kb2 := show Hid _ from kb2
    replace kl2 := show Hid _ from kl2
    replace l6 := show Hid _ from l6
    replace l8 := show Hid _ from l8
    have kp := loads_pass (words := words) (el := el) hpc K1.ops himm hcap
    have r1 := K1.r
    go_upto_region 3 with (first | ((with_reducible refine wpList_load_if rfl 25 _ rfl _ rfl 25 _ (0, 0) _ r1 Try.underlying25 rfl (bl_inf _ _ _ _) ?_); simp only [Act.put, List.setIfInBounds_toArray, List.set_cons_succ, List.set_cons_zero]) | (go_at_call 11; (with_reducible refine kp.mono ?_); clear kp; rintro e w5 ⟨B, ⟨hr, _⟩ | ⟨hr, u6, rfl, hown⟩⟩; (exfalso; rw [hR.out] at hr; cases hr); dsimp only; clear hr; have Hn := has_none w5; have hone := own_one hown) | ((with_reducible refine wpList_store_new Hn rfl 25 _ _ rfl (blA pc words el u6) rfl rfl (bl_inf _ _ _ _) (by kernel_rfl) (blk_one _ _ _ _ hone) ?_); clear Hn; intro w6 Hn; simp only [Act.put, List.setIfInBounds_toArray, List.set_cons_succ, List.set_cons_zero]))
    have K6 : Bk w6 w5.heap.size pc words el u6 (loadsL l) := ⟨Hn.get List.mem_cons_self, (opsC_of hown l6.out).ops.grow Hn.below⟩
    replace K1 := (K1.grow B).grow Hn.below
    replace hb := below_then (below_then hb (Nat.le_refl _) B) (Nat.le_refl _) Hn.below
    generalize w5.heap.size = b6 at *
    clear Hn B r1 hown hone
    clear w5
    have kp := move_pass (words := words) (el := el) hpc K1.ops himm hcap
    have r1 := K1.r
    go_upto_region 4 with (first | ((with_reducible refine wpList_load_if rfl 25 _ rfl _ rfl 25 _ (0, 0) _ r1 Try.underlying25 rfl (bl_inf _ _ _ _) ?_); simp only [Act.put, List.setIfInBounds_toArray, List.set_cons_succ, List.set_cons_zero]) | (go_at_call 12; (with_reducible refine kp.mono ?_); clear kp; rintro e w7 ⟨B, ⟨hr, _⟩ | ⟨hr, u8, rfl, hown⟩⟩; (exfalso; rw [hR.out] at hr; cases hr); dsimp only; clear hr; have Hn := has_none w7; have hone := own_one hown) | ((with_reducible refine wpList_store_new Hn rfl 25 _ _ rfl (blA pc words el u8) rfl rfl (bl_inf _ _ _ _) (by kernel_rfl) (blk_one _ _ _ _ hone) ?_); clear Hn; intro w8 Hn; simp only [Act.put, List.setIfInBounds_toArray, List.set_cons_succ, List.set_cons_zero]))
    have K8 : Bk w8 w7.heap.size pc words el u8 (moveL l) := ⟨Hn.get List.mem_cons_self, (opsC_of hown l8.out).ops.grow Hn.below⟩
    replace K1 := (K1.grow B).grow Hn.below
    replace K6 := (K6.grow B).grow Hn.below
    replace hb := below_then (below_then hb (Nat.le_refl _) B) (Nat.le_refl _) Hn.below
    generalize w7.heap.size = b8 at *
    clear Hn B r1 hown hone
    clear w7
    go_upto_region 6 with fail
    have r1 := K1.r
    have kp := parts_c (pc := pc) (words := words) (el := el) hR.out K1.ops
    go_upto_region 7 with (first | ((with_reducible refine wpList_load_if rfl 25 _ rfl _ rfl 25 _ (0, 0) _ r1 Try.underlying25 rfl (bl_inf _ _ _ _) ?_); simp only [Act.put, List.setIfInBounds_toArray, List.set_cons_succ, List.set_cons_zero]) | (go_at_call 19; (with_reducible refine kp.mono ?_); clear kp; rintro e w10 ⟨v10, u10, rfl, a10, c10, B⟩; dsimp only))
    clear r1
    replace K6 := K6.grow B
    replace K8 := K8.grow B
    replace hb := below_then hb (Nat.le_refl _) B
    clear B
    have r1 := K6.r
    have kp := parts_c (pc := pc) (words := words) (el := el) q6.out K6.ops
    go_upto_region 8 with (first | ((with_reducible refine wpList_load_if rfl 25 _ rfl _ rfl 25 _ (0, 0) _ r1 Try.underlying25 rfl (bl_inf _ _ _ _) ?_); simp only [Act.put, List.setIfInBounds_toArray, List.set_cons_succ, List.set_cons_zero]) | (go_at_call 19; (with_reducible refine kp.mono ?_); clear kp; rintro e w11 ⟨v11, u11, rfl, a11, c11, B⟩; dsimp only))
    clear r1
    replace K8 := K8.grow B
    replace a10 := own_up a10 B
    replace c10 := own_up c10 B
    replace hb := below_then hb (Nat.le_refl _) B
    clear B
    have r1 := K8.r
    have kp := parts_c (pc := pc) (words := words) (el := el) q8.out K8.ops
    go_upto_region 9 with (first | ((with_reducible refine wpList_load_if rfl 25 _ rfl _ rfl 25 _ (0, 0) _ r1 Try.underlying25 rfl (bl_inf _ _ _ _) ?_); simp only [Act.put, List.setIfInBounds_toArray, List.set_cons_succ, List.set_cons_zero]) | (go_at_call 19; (with_reducible refine kp.mono ?_); clear kp; rintro e w12 ⟨v12, u12, rfl, a12, c12, B⟩; dsimp only))
    clear r1
    replace a10 := own_up a10 B
    replace c10 := own_up c10 B
    replace a11 := own_up a11 B
    replace c11 := own_up c11 B
    replace hb := below_then hb (Nat.le_refl _) B
    clear B
    rw [kb1.out] at c11
    rw [kb2.out] at c12
    rw [kl2.out] at a12
    have hlq := kl1.out.1
    have hle := kl1.out.2
    rw [hlq] at a11
    have hbl : (bars (trc l)).length ≤ 512 := by
      have e1 := bars_le (trc l)
      have e2 : (trc l).length ≤ l.length := by unfold trc; exact List.length_filterMap_le _ _
      have := (right_lens hR.out).2.1
      omega
    have hpl : (pts 0 0 (trc l)).length = (bars (trc l)).length + 1 := pts_len _ _ _
    clear kb1 kb2 kl1 kl2 K8 hR q6 q8 l6 l8
    generalize pts 0 0 (trc (loadsL l)) = Q at *
    generalize pts 0 0 (trc l) = P at *
    generalize bars (trc l) = bs at *
    have X : KeW w v10 v11 v12 u10 u11 u12 _ _ _ _ _ _ P Q bs w12 := ⟨a10, a11, a12, c10, c11, c12, hb⟩
    clear a10 a11 a12 c10 c11 c12 hb
    obtain ⟨x0, y0, rfl⟩ : ∃ g cap, v10 = .slice (some ⟨g, 0, none⟩) P.length cap := by
      rcases X.a0.2 with ⟨-, h⟩ | ⟨g, cap, cur, e, -⟩
      · omega
      · exact ⟨g, cap, e⟩
    obtain ⟨x1, y1, rfl⟩ : ∃ g cap, v11 = .slice (some ⟨g, 0, none⟩) P.length cap := by
      rcases X.a1.2 with ⟨-, h⟩ | ⟨g, cap, cur, e, -⟩
      · omega
      · exact ⟨g, cap, e⟩
    obtain ⟨x2, y2, rfl⟩ : ∃ g cap, v12 = .slice (some ⟨g, 0, none⟩) P.length cap := by
      rcases X.a2.2 with ⟨-, h⟩ | ⟨g, cap, cur, e, -⟩
      · omega
      · exact ⟨g, cap, e⟩
    obtain ⟨s0, t0, rfl, -, -⟩ := own_len X.c0
    obtain ⟨s1, t1, rfl, -, -⟩ := own_len X.c1
    obtain ⟨s2, t2, rfl, -, -⟩ := own_len X.c2
    have hbm : bs.length ≤ maxLen := by simp only [maxLen]; omega
    replace hpl := show Hid _ from hpl
    go_upto_region 12 with fail
    generalize w8.heap.size = n0 at X
    generalize w10.heap.size = n1 at X
    generalize w11.heap.size = n2 at X
    obtain ⟨m0, hm0⟩ : ∃ m0, m0 = n0 := ⟨_, rfl⟩
    obtain ⟨m1, hm1⟩ : ∃ m1, m1 = n1 := ⟨_, rfl⟩
    obtain ⟨m2, hm2⟩ : ∃ m2, m2 = n2 := ⟨_, rfl⟩
    replace X : KeW w (.slice (some ⟨x0, 0, none⟩) P.length y0) (.slice (some ⟨x1, 0, none⟩) P.length y1) (.slice (some ⟨x2, 0, none⟩) P.length y2) (.slice s0 bs.length t0) (.slice s1 bs.length t1) (.slice s2 bs.length t2) n0 n1 n2 m0 m1 m2 P Q bs w12 := by subst hm0 hm1 hm2; exact X
    clear hm0 hm1 hm2 K1 K6 w1 w2 w6 w8 w10 w11
    go_loopw [14] (fun s14 wr => ∃ i : Nat, s14 = vI i ∧ i ≤ bs.length ∧ KeW w (.slice (some ⟨x0, 0, none⟩) P.length y0) (.slice (some ⟨x1, 0, none⟩) P.length y1) (.slice (some ⟨x2, 0, none⟩) P.length y2) (.slice s0 bs.length t0) (.slice s1 bs.length t1) (.slice s2 bs.length t2) n0 n1 n2 m0 m1 m2 P Q bs wr) (fun s14 _ => ((bs.length : Int) - intOf s14).toNat)
    case atStart => exact ⟨0, rfl, Nat.zero_le _, X⟩
    case round =>
      clear X
      obtain ⟨i, rfl, hi, X⟩ := hrel
      by_cases hlt : (i : Int) < bs.length
      · have hil : Hid (i < bs.length) := by show i < bs.length; omega
        go_upto_region 14 with fail
        refine wp_region_still_tail 19 (by kernel_rfl) (by kernel_rfl) ?_
        replace X := X.grow (below_dr wr)
        generalize ({ wr with drawn := wr.drawn + 1 } : World) = w3 at *
        obtain ⟨ra, ca, e1, h1⟩ := (opsC_of X.c0 hbm).ops.cell (by have := hil.out; omega)
        cases e1
        obtain ⟨rb, cb, e2, h2⟩ := (opsC_of X.c1 hbm).ops.cell (by have := hil.out; omega)
        cases e2
        obtain ⟨rc, cc, e3, h3⟩ := (opsC_of X.c2 hbm).ops.cell (by have := hil.out; omega)
        cases e3
        have A0 := run_load42 (h1 i _ (opAt_some hil.out))
        have A1 := run_load42 (h2 i _ (opAt_some hil.out))
        have A2 := run_load42 (h3 i _ (opAt_some hil.out))
        clear h1 h2 h3
        simp only [List.take_succ_cons, List.take_zero, List.drop_succ_cons, List.drop_zero]
        repeat (first | ((with_reducible refine still_neqO rfl _ _ rfl (opAt bs i) rfl rfl ?_); simp only [Act.put, List.setIfInBounds_toArray, List.set_cons_succ, List.set_cons_zero]) | ((with_reducible refine still_row rfl _ _ rfl rfl A0 ?_); simp only [Act.put, List.setIfInBounds_toArray, List.set_cons_succ, List.set_cons_zero]) | ((with_reducible refine still_row rfl _ _ rfl rfl A1 ?_); simp only [Act.put, List.setIfInBounds_toArray, List.set_cons_succ, List.set_cons_zero]) | ((with_reducible refine still_row rfl _ _ rfl rfl A2 ?_); simp only [Act.put, List.setIfInBounds_toArray, List.set_cons_succ, List.set_cons_zero]) | still_step)
        refine wpStill_nil ?_
        clear A0 A1 A2
        go_wp2
        go_roundw
        case rel => exact ⟨i + 1, by go_num, by have := hil.out; omega, X⟩
        case measure => simp [intOf]; omega
      · clear hi
        go_upto_region 17 with fail
        go_loopw [15] (fun s15 wq => ∃ j : Nat, s15 = vI j ∧ j ≤ P.length ∧ KeW w (.slice (some ⟨x0, 0, none⟩) P.length y0) (.slice (some ⟨x1, 0, none⟩) P.length y1) (.slice (some ⟨x2, 0, none⟩) P.length y2) (.slice s0 bs.length t0) (.slice s1 bs.length t1) (.slice s2 bs.length t2) n0 n1 n2 m0 m1 m2 P Q bs wq) (fun s15 _ => ((P.length : Int) - intOf s15).toNat)
        case atStart => exact ⟨0, rfl, Nat.zero_le _, X⟩
        case round =>
          clear X
          obtain ⟨j, rfl, hj, X⟩ := hrel
          by_cases hjl : (j : Int) < P.length
          · have hjl2 : Hid (j < P.length) := by show j < P.length; omega
            obtain ⟨p, hp⟩ : ∃ p, P[j]? = some p := ⟨_, List.getElem?_eq_getElem hjl2.out⟩
            obtain ⟨q, hq⟩ : ∃ q, Q[j]? = some q := ⟨_, List.getElem?_eq_getElem (by rw [hlq]; exact hjl2.out)⟩
            obtain ⟨ha, hb⟩ := hle j q p hq hp
            have hn1 : ¬ (p.1 : Int) < q.1 := by omega
            have hn2 : ¬ (p.2 : Int) < q.2 := by omega
            obtain ⟨fp0, fp1⟩ := ppF_get hp
            obtain ⟨fq0, fq1⟩ := ppF_get hq
            go_upto_region 19 with fail
            refine wp_region_still_tail 34 (by kernel_rfl) (by kernel_rfl) ?_
            replace X := X.grow (below_dr wr)
            generalize ({ wr with drawn := wr.drawn + 1 } : World) = w3 at *
            have z00 : w3.cell? ⟨x0, j * 2, none⟩ = some (vI p.1) := (X.a0.cellAt _ (by have := hjl2.out; omega)).trans fp0
            have z01 : w3.cell? ⟨x0, j * 2 + 1, none⟩ = some (vI p.2) := (X.a0.cellAt _ (by have := hjl2.out; omega)).trans fp1
            have z10 : w3.cell? ⟨x1, j * 2, none⟩ = some (vI q.1) := (X.a1.cellAt _ (by have := hjl2.out; omega)).trans fq0
            have z11 : w3.cell? ⟨x1, j * 2 + 1, none⟩ = some (vI q.2) := (X.a1.cellAt _ (by have := hjl2.out; omega)).trans fq1
            have z20 : w3.cell? ⟨x2, j * 2, none⟩ = some (vI p.1) := (X.a2.cellAt _ (by have := hjl2.out; omega)).trans fp0
            have z21 : w3.cell? ⟨x2, j * 2 + 1, none⟩ = some (vI p.2) := (X.a2.cellAt _ (by have := hjl2.out; omega)).trans fp1
            have A0 := run_loadPr z00 z01
            have A2 := run_loadPr z20 z21
            clear fp0 fp1 fq0 fq1 hp hq ha hb z20 z21
            simp only [List.take_succ_cons, List.take_zero, List.drop_succ_cons, List.drop_zero]
            repeat (first | ((with_reducible refine still_neqPr rfl _ _ rfl p.1 p.2 rfl rfl ?_); simp only [Act.put, List.setIfInBounds_toArray, List.set_cons_succ, List.set_cons_zero]) | ((with_reducible refine still_row rfl _ _ rfl rfl A0 ?_); simp only [Act.put, List.setIfInBounds_toArray, List.set_cons_succ, List.set_cons_zero]) | ((with_reducible refine still_row rfl _ _ rfl rfl A2 ?_); simp only [Act.put, List.setIfInBounds_toArray, List.set_cons_succ, List.set_cons_zero]) | still_step)
            refine wpStill_nil ?_
            clear A0 A2 z00 z01 z10 z11
            have hpb : P.length ≤ 513 := by have := hpl.out; omega
            have hjl3 := hjl2.out
            go_wp2
            go_roundw
            case rel => exact ⟨j + 1, by go_num, by omega, X⟩
            case measure => simp [intOf]; omega
          · have hB := X.low
            clear X
            go_wp2
            go_ret
            exact ⟨rfl, hB⟩
end
end Go.Proofs.Ytilbnjldfgofmaa
