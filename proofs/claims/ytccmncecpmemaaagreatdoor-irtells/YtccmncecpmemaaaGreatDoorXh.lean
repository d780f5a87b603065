/- Jj, Jk, Jl, Fa, Dr of the seat, joined. -/
import Derived.Test.YtccmncecpmemaaaGreatDoorJi
import Derived.Maps.AppendAt
import Derived.Laws.MakeOwn
import Derived.Test.YtccmncecpmemaaaGreatDoorXf
/- The state of a run; operations copied. -/
namespace Go.Proofs.YtccmncecpmemaaaGreatDoor
open Go.RowKit
set_option linter.unusedVariables false
set_option linter.unusedSimpArgs false
set_option maxRecDepth 8000

section
variable {l : List Opr} {g vb : Nat} {so : Value} {S : Rn} {w w' : World}
theorem core_range (H : RunAt l g vb so S w) : w.rangeAt g 3 S.c.cells.toList := by
  intro j v hv
  have hv' : S.c.cells[j]? = some v := by simpa using hv
  have hj : j < 49 := by have := (Array.getElem?_eq_some_iff.1 hv').1; rwa [Cor.size] at this
  rw [H.cc j hj, hv']
theorem info29l (c : Cor) : (Tryz.prog.info? 42).map (·.size) = some c.cells.toList.length := by rw [Array.length_toList]; exact c.info
theorem run_load_core (H : RunAt l g vb so S w) : (loadVar 42 ⟨g, 3, none⟩).run Tryz.prog w = .ok S.c.val w := by
  have := run_loadVar_mid w g 3 42 S.c.cells.toList _ (core_range H) Tryz.underlying42 rfl (info29l S.c)
  rwa [Array.toArray_toList] at this
theorem wpList_load_core {ops : Array Oper} {rest : List Oper} {o : Oper} {a : Act} {w : World} {Q : Exit → Act → World → Prop} (hw : Region.wanted o (yielded ops a.tmps) = true) (x : Operand) (ho : o.op = .load 42 x)
    (hx : a.eval x = ptr g 3) (H : RunAt l g vb so S w)
    (h : wpList Tryz.prog ops Q rest (a.put o.dst S.c.val) w) : wpList Tryz.prog ops Q (o :: rest) a w := by
  refine BigFrame.wpList_want hw fun K hK => ?_
  unfold Oper.wp execOp
  simp only [ho, hx, Instr.loadAt, Instr.sureAddr, Sem.run_bind, Sem.run_pure, Result.andThen_ok, run_load_core H]
  exact hK _ _ h
theorem nilC_size (c : Cor) : nilC.cells.size = c.cells.size := by rw [Cor.size, Cor.size]
set_option maxHeartbeats 2000000 in
theorem core_c (H : RunAt l g vb so S w) : Calls Tryz.prog 19 #[ptr g 0] w fun e w' => e = .returned S.c.val ∧ Below w.heap.size w w' := by
  have hz : Tryz.prog.info? 42 = Tryz.prog.info? 42 := rfl
  go_enter Tryz.func19, Tryz.ntmps19
  go_upto_region 1 with fail
  have hB := fun C => below_alloc w (.cells C 42)
  have hrow := fun C => heap_alloc_new w (.cells C 42)
  generalize hw1 : World.alloc _ _ = w1
  replace hrow : ∃ C : Array Value, C.size = S.c.cells.size ∧ w1.heap[w.heap.size]? = some (.cells C 42) := by
    refine ⟨_, ?_, (by rw [← hw1]; exact hrow _)⟩
    rw [Cor.size]; kernel_rfl
  replace hB : Below w.heap.size w w1 := by rw [← hw1]; exact hB _
  obtain ⟨C, hC, hrow⟩ := hrow
  clear hw1
  have H1 := H.grow hB
  go_wp2_with (first | ((with_reducible refine wpList_load_core rfl _ rfl rfl H1 ?_); simp only [Act.put, List.setIfInBounds_toArray, List.set_cons_succ, List.set_cons_zero]) | ((with_reducible refine wpList_store_row rfl 42 _ _ rfl w.heap.size S.c.cells rfl rfl 42 _ hrow (Cor.info _) hC (Cor.one _) ?_); try simp only [Act.put]))
  refine bodyPost_ret (back_one rfl _ _ w.heap.size S.c (0, 0) 42 rfl (setRow_heap _ _ _ _ _ _ hrow)) rfl ?_
  exact ⟨rfl, below_setRow hB (Nat.le_refl _)⟩
end
/-- The operations copied. -/
theorem info42 : (Tryz.prog.info? 27).map (fun i => (i.zero, i.size, i.bytes)) = some (some (opV nilO), 6, 48) := by kernel_rfl
def opF (l : List Opr) : List Value := l.flatMap fun o => (opA o).toList
theorem opF_len (l : List Opr) : (opF l).length = l.length * 6 := by
  induction l with
  | nil => rfl
  | cons a l ih => simp only [opF, List.flatMap_cons, List.length_append, List.length_cons] at ih ⊢; rw [ih]; simp; omega
theorem opF_get {l : List Opr} : ∀ {k : Nat} {o : Opr}, l[k]? = some o → ∀ j, j < 6 → (opF l)[k * 6 + j]? = (opA o)[j]? := by
  induction l with
  | nil => intro k o h; simp at h
  | cons a l ih =>
    intro k o h j hj
    have e : opF (a :: l) = (opA a).toList ++ opF l := rfl
    rw [e]
    cases k with
    | zero =>
      simp at h; subst h
      rw [List.getElem?_append_left (by simp; omega)]
      simp
    | succ k =>
      rw [List.getElem?_append_right (by simp; omega), ← ih (by simpa using h) j hj]
      congr 1
      simp
      omega
theorem one_opF (l : List Opr) : ∀ u ∈ opF l, u.oneCell' = true := by
  intro u hu
  simp only [opF, List.mem_flatMap] at hu
  obtain ⟨o, _, h⟩ := hu
  exact Array.all_eq_true_iff_forall_mem.1 (op_one o) u (by simpa using h)
theorem Ops.flat {w : World} {ra : Addr} {n cap : Nat} {l : List Opr} (h : Ops w (.slice (some ra) n cap) l) (h0 : 0 < l.length) (j : Nat) (u : Value) (hu : (opF l)[j]? = some u) : w.cell? (ra.add j) = some u := by
  obtain ⟨rb, c2, e, hc⟩ := h.cell h0
  cases e
  have hj : j < l.length * 6 := by have := (List.getElem?_eq_some_iff.1 hu).1; rwa [opF_len] at this
  have hk : j / 6 < l.length := by omega
  have A := hc (j / 6) _ (opAt_some hk)
  have e1 : j = j / 6 * 6 + j % 6 := by omega
  have hg := opF_get (opAt_some hk) (j % 6) (Nat.mod_lt _ (by decide))
  rw [← e1, hu] at hg
  have e2 : ra.add j = if j % 6 = 0 then ra.add (j / 6 * 6) else ⟨(ra.add (j / 6 * 6)).block, (ra.add (j / 6 * 6)).off + j % 6, none⟩ := by
    split
    · rename_i hz; congr 1; omega
    · rename_i hz
      unfold Addr.add
      rw [if_neg (by omega)]
      split
      · rename_i h6; have : j / 6 = 0 := by omega
        simp only [Addr.mk.injEq, true_and, and_true]; omega
      · simp only [Addr.mk.injEq, true_and, and_true]; omega
  rw [e2]
  have hm : j % 6 < 6 := Nat.mod_lt _ (by decide)
  generalize j % 6 = m at hg hm ⊢
  match m, hm with
  | 0, _ => rw [if_pos rfl, A.c0]; exact hg.symm
  | 1, _ => rw [if_neg (by decide), A.c1]; exact hg.symm
  | 2, _ => rw [if_neg (by decide), A.c2]; exact hg.symm
  | 3, _ => rw [if_neg (by decide), A.c3]; exact hg.symm
  | 4, _ => rw [if_neg (by decide), A.c4]; exact hg.symm
  | 5, _ => rw [if_neg (by decide), A.c5]; exact hg.symm
  | m + 6, h => exact absurd h (by omega)
theorem run_copyO {w : World} {v : Value} {l : List Opr} (hv : Ops w v l) (hl : l.length * 48 ≤ 140737488351232) (ty : TypeId) : ∃ v' w', (Builtin.append_ #[23, 23] ty #[.slice none 0 0, v]).run Tryz.prog w = .ok v' w' ∧ w'.ownsRow w.heap.size 27 6 v' l.length (opF l) ∧ Below w.heap.size w w' := by
  obtain ⟨i, h1, h2, h3, h4⟩ := info_parts info42
  have hown : w.ownsRow w.heap.size 27 6 (.slice none 0 0) 0 [] := ⟨rfl, .inl ⟨rfl, rfl⟩⟩
  obtain ⟨ao, cap, ev⟩ := hv.len
  have hmx := hv.max
  subst ev
  cases ao with
  | none =>
    obtain rfl : l = [] := by
      cases l with
      | nil => rfl
      | cons p l =>
        obtain ⟨ra, c2, e2, _⟩ := hv.cell (by simp)
        cases e2
    have hr : (Builtin.append_ #[23, 23] ty #[.slice none 0 0, .slice none 0 cap]).run Tryz.prog w = .ok (.slice none 0 0) w := by
      simp [Builtin.append_, run_underlying Tryz.underlying23, sizeOf, typeInfo, h1, Builtin.lenOf, Builtin.firstCells]
    exact ⟨_, w, hr, hown, Below.refl _ _⟩
  | some ra =>
    have hc : ∀ j u, (opF l)[j]? = some u → w.cell? (ra.add j) = some u := fun j u hu => by
      have h0 : 0 < l.length := by
        cases l with
        | nil => simp [opF] at hu
        | cons _ _ => simp
      exact hv.flat h0 j u hu
    obtain ⟨v', w', hr, q1, q2, _, _⟩ := run_append_own_at (P := Tryz.prog) w w.heap.size 23 ty 27 i (opV nilO) 6 48 Tryz.underlying23 h1 h2 h3 h4 rfl (by decide) (.slice none 0 0) 0 [] hown ra l.length cap (opF l) (opF_len l) hc (one_opF l) (by simp only [maxLen]; omega) (by omega) (Nat.le_refl _)
    rw [Nat.zero_add, List.nil_append] at q1
    exact ⟨v', w', hr, q1, (goes_grown (F := fun _ => False) q2 (fun k hk => by cases hk)).below (Nat.le_refl _) (fun _ h => h.elim)⟩
/-- The same onto a row of nothing. -/
theorem run_cloneO {w : World} {b : Nat} {v : Value} {l : List Opr} (hv : Ops w v l) (h0 : 0 < l.length) (hl : l.length ≤ 512) (hb : w.heap[b]? = some (.cells #[] 27)) (base : Nat) (hbase : base ≤ b) (ty : TypeId) : ∃ v' w', (Builtin.append_ #[23, 23] ty #[.slice (some ⟨b, 0, none⟩) 0 0, v]).run Tryz.prog w = .ok v' w' ∧ w'.ownsRow base 27 6 v' l.length (opF l) ∧ Goes (fun k => k = b) w w' := by
  obtain ⟨i, h1, h2, h3, h4⟩ := info_parts info42
  have hown : w.ownsRow base 27 6 (.slice (some ⟨b, 0, none⟩) 0 0) 0 [] := ⟨rfl, .inr ⟨b, 0, #[], rfl, hbase, hb, Nat.le_refl _, Nat.zero_le _, rfl, rfl⟩⟩
  obtain ⟨ra, cap, ev, _⟩ := hv.cell h0
  subst ev
  obtain ⟨v', w', hr, q1, q2, _, _⟩ := run_append_own_at (P := Tryz.prog) w base 23 ty 27 i (opV nilO) 6 48 Tryz.underlying23 h1 h2 h3 h4 rfl (by decide) (.slice (some ⟨b, 0, none⟩) 0 0) 0 [] hown ra l.length cap (opF l) (opF_len l) (fun j u hu => hv.flat h0 j u hu) (one_opF l) (by simp only [maxLen]; omega) (by omega) (by have := lt_of_some hb; omega)
  rw [Nat.zero_add, List.nil_append] at q1
  exact ⟨v', w', hr, q1, goes_grown q2 (fun k hk => by simpa [Value.ownBlock] using hk.symm)⟩
theorem run_none23 (w : World) : (Instr.buildSlice 23 0 #[]).run Tryz.prog w = .ok (.slice (some ⟨w.heap.size, 0, none⟩) 0 0) (w.alloc (.cells #[] 27)) := by
  obtain ⟨i, hi, hz, hs, hby⟩ := info_parts info42
  simp [Instr.buildSlice, run_underlying Tryz.underlying23, sizeOf, typeInfo, hi, hs, Instr.fill, newRow]
  congr 2
  apply Array.ext <;> simp
theorem wpList_none23 {ops : Array Oper} {rest : List Oper} {o : Oper} {a : Act} {w : World} {Q : Exit → Act → World → Prop} (hg : o.guard = none) (ho : o.op = .buildSlice 23 0 #[])
    (h : wpList Tryz.prog ops Q rest (a.put o.dst (.slice (some ⟨w.heap.size, 0, none⟩) 0 0)) (w.alloc (.cells #[] 27))) : wpList Tryz.prog ops Q (o :: rest) a w :=
  wpList_plain hg fun _ hK => by
    unfold Oper.wp execOp
    simp only [ho, Sem.run_bind, List.map_toArray, List.map_nil, run_none23, Result.andThen_ok]
    exact hK _ _ h
theorem wpList_clone {ops : Array Oper} {rest : List Oper} {o : Oper} {a : Act} {w : World} {Q : Exit → Act → World → Prop} (hgd : o.guard = none) (s x : Operand) (ho : o.op = .call { callee := .builtin .append, args := #[s, x], argTypes := #[23, 23] }) {v : Value} {b base : Nat} {l : List Opr} (hs : a.eval s = .slice (some ⟨b, 0, none⟩) 0 0) (hx : a.eval x = v) (O : Ops w v l) (h0 : 0 < l.length) (hl : l.length ≤ 512) (hb : w.heap[b]? = some (.cells #[] 27)) (hbase : base ≤ b)
    (h : ∀ v' w', w'.ownsRow base 27 6 v' l.length (opF l) → Goes (fun k => k = b) w w' → wpList Tryz.prog ops Q rest (a.put o.dst v') w') : wpList Tryz.prog ops Q (o :: rest) a w :=
  wpList_plain hgd fun _ hK => by
    obtain ⟨v', w', hr, q1, q2⟩ := run_cloneO O h0 hl hb base hbase o.type
    unfold Oper.wp execOp
    simp only [ho, resolve, invoke, builtin, Sem.run_bind, Sem.run_pure, Result.andThen_ok, List.map_toArray, List.map_cons, List.map_nil, hs, hx, hr]
    exact hK _ _ (h v' w' q1 q2)
set_option maxHeartbeats 2000000 in
theorem clone_c {w : World} {v : Value} {l : List Opr} (O : Ops w v l) (h0 : 0 < l.length) (hl : l.length ≤ 512) : Calls Tryz.prog 49 #[v] w fun e w' => ∃ v', e = .returned v' ∧ w'.ownsRow w.heap.size 27 6 v' l.length (opF l) ∧ Below w.heap.size w w' := by
  obtain ⟨ra, cap, ev, _⟩ := O.cell h0
  subst ev
  have O1 := O.grow (below_alloc w (.cells #[] 27))
  have hrow : (w.alloc (.cells #[] 27)).heap[w.heap.size]? = some (.cells #[] 27) := heap_alloc_new _ _
  have hB := below_alloc w (.cells #[] 27)
  have hrun : ∀ w, Sem.run Tryz.prog (binOp BinOp.eql 23 (Value.slice (some ra) l.length cap) (Value.slice none 0 0)) w = .ok (.bool false) w := fun _ => by kernel_rfl
  go_enter Tryz.func49, Tryz.ntmps49
  go_upto_region 3 with fail
  refine wp_region_lit ?_
  with_reducible refine wpList_none23 rfl rfl ?_
  simp only [Act.put, List.setIfInBounds_toArray, List.set_cons_succ, List.set_cons_zero];
  generalize w.alloc (.cells #[] 27) = w1 at *
  go_wp2_with (first | (at_builtin; (refine wpList_clone rfl _ _ rfl rfl rfl O1 h0 hl hrow (Nat.le_refl w.heap.size) ?_); intro v' w2 q1 q2; simp only [Act.put, List.setIfInBounds_toArray, List.set_cons_succ, List.set_cons_zero]))
  go_ret
  exact ⟨_, rfl, q1, hB.trans (q2.below hB.size (fun k hk => by omega))⟩
theorem made_zero (n : Nat) : madeCells #[vU 0] n = ((List.replicate n (0 : Int)).map vU).toArray := by
  apply Array.ext
  · simp [madeCells]
  · intro i h1 h2
    simp [madeCells]
    rw [Nat.mod_one]
    rfl
theorem info22p : (Tryz.prog.info? 22).map (fun i => (i.zero, i.size, i.bytes)) = some (some (vU 0), 1, 8) := by kernel_rfl
theorem run_mk (w : World) (n : Nat) (hn : n ≤ 512) : (Instr.makeSlice 62 (vI n) (vI n)).run Tryz.prog w = .ok (.slice (some ⟨w.heap.size, 0, none⟩) n n) (w.alloc (.cells ((List.replicate n (0 : Int)).map vU).toArray 22)) := by
  obtain ⟨i, h1, h2, h3, h4⟩ := info_parts info22p
  have hr := run_makeSlice (P := Tryz.prog) w 62 22 i (vU 0) Tryz.underlying62 h1 h2 .i64 .i64 n n (by omega) (by omega) (by rw [h3, Int.toNat_natCast]; omega) (by rw [h4]; omega) (by omega)
  rw [Int.toNat_natCast, h3, Nat.mul_one] at hr
  rw [← made_zero]
  exact hr
end Go.Proofs.YtccmncecpmemaaaGreatDoor
/- New: what it answers, plainly. -/
namespace Go.Proofs.YtccmncecpmemaaaGreatDoor
open Go.RowKit
set_option linter.unusedVariables false
set_option linter.unusedSimpArgs false
set_option maxRecDepth 8000

section
variable {l : List Opr} {w w' : World}
/-- A run at its beginning. -/
def newS (n : Nat) (c : Cor) : Rn := ⟨0, c, nilW, 0, 0, false, false, List.replicate n 0⟩
/-- The numbers of a state are of their kinds. -/
structure CorOk (c : Cor) : Prop where
  x : ∀ i (h : i < 31), U64 c.x[i]
  sp0 : U64 c.sp0
  sp1 : U64 c.sp1
/-- A run whose blocks lie from B on. -/
structure Fresh (l : List Opr) (S : Rn) (B : Nat) (u : Value) (x : World) : Prop where
  ex : ∃ g vb so, u = ptr g 0 ∧ RunAt l g vb so S x ∧ B ≤ g ∧ B ≤ vb ∧ ∀ k, so.ownBlock = some k → B ≤ k
theorem Fresh.grow {S : Rn} {B : Nat} {u : Value} {x y : World} (h : Fresh l S B u x) (hb : Below x.heap.size x y) : Fresh l S B u y := by
  obtain ⟨g, vb, so, e, H, r⟩ := h.ex
  exact ⟨g, vb, so, e, H.grow hb, r⟩
structure NwC (w : World) (pc words el : Int) (v : Value) (l : List Opr) (c : Cor) (b1 b2 : Nat) (x : World) : Prop where
  r1 : x.heap[b1]? = some (.cells (blA pc words el v) 25)
  r2 : x.heap[b2]? = some (.cells c.cells 42)
  ops : Ops x v l
  below : Below w.heap.size w x
theorem NwC.grow {pc words el : Int} {v : Value} {c : Cor} {b1 b2 : Nat} {x y : World} (h : NwC w pc words el v l c b1 b2 x) (hb : Below x.heap.size x y) : NwC w pc words el v l c b1 b2 y :=
  ⟨by rw [hb.block _ (lt_of_some h.r1)]; exact h.r1, by rw [hb.block _ (lt_of_some h.r2)]; exact h.r2, h.ops.grow hb, below_then h.below (Nat.le_refl _) hb⟩
theorem NwC.c3 {pc words el : Int} {v : Value} {c : Cor} {b1 b2 : Nat} {x : World} (h : NwC w pc words el v l c b1 b2 x) : x.cell? ⟨b1, 3, none⟩ = some v := by rw [cell_of_row _ _ _ _ _ _ h.r1]; rfl
theorem NwC.c2 {pc words el : Int} {v : Value} {c : Cor} {b1 b2 : Nat} {x : World} (h : NwC w pc words el v l c b1 b2 x) : x.cell? ⟨b1, 2, none⟩ = some (vI el) := by rw [cell_of_row _ _ _ _ _ _ h.r1]; rfl
theorem NwC.ce {pc words el : Int} {v : Value} {c : Cor} {b1 b2 : Nat} {x : World} (h : NwC w pc words el v l c b1 b2 x) : x.cell? ⟨b2, 38, none⟩ = some (vI c.el) := by rw [cell_of_row _ _ _ _ _ _ h.r2, Cor.a38]
def rightC (c : Cor) : Bool := (c.el == 0 || c.el == 1) && decide (0 ≤ c.wait) && decide (c.wait ≤ 2) && decide (0 ≤ c.id) && decide (c.id ≤ 7)
set_option maxHeartbeats 1000000 in
theorem regsRight_c (c : Cor) (w : World) : Calls Tryz.prog 48 #[c.val] w fun e w' => e = .returned (.bool (rightC c)) ∧ Below w.heap.size w w' := by
  go_enter Tryz.func48, Tryz.ntmps48
  go_wp2_with (go_at_call 60; refine (isLevel_c _ _).mono ?_; rintro e w' ⟨rfl, rfl⟩)
  all_goals (go_ret; refine ⟨ret_bool ?_, by repeat (first | exact Below.refl _ _ | apply below_more | apply below_drew | apply below_drewN)⟩; unfold rightC; first | (simp_all; done) | (simp_all; omega) | (simp_all; rw [show decide (c.id < 8) = decide (c.id ≤ 7) from decide_eq_decide.2 (by omega)]))
/-- What New answers: the error. -/
def newE (pc words el : Int) (l : List Opr) (c : Cor) : Int := if rightB pc words el l = true then (if rightC c = true ∧ c.el = el then 0 else 1) else 4
def NewR (w : World) (pc words el : Int) (l : List Opr) (c : Cor) (e : Ending) (w' : World) : Prop :=
  Below w.heap.size w w' ∧ ((newE pc words el l c ≠ 0 ∧ e = .returned (.tuple #[.pointer none, vI (newE pc words el l c)])) ∨ (newE pc words el l c = 0 ∧ ∃ u, e = .returned (.tuple #[u, vI 0]) ∧ Fresh l (newS l.length c) w.heap.size u w'))
theorem blk_one (pc words el : Int) (v : Value) (hv : v.oneCell' = true) : (blA pc words el v).all (·.oneCell') = true := by
  have hi : ∀ k n, (Value.int k n).oneCell' = true := fun _ _ => rfl
  simp [hv, hi]
set_option maxHeartbeats 4000000 in
theorem built61 (ao : Option Addr) (m cap vb n : Nat) (c : Cor) (g : Nat) : Tryz.prog.built 95 [(0, .slice ao m cap), (1, .slice (some ⟨vb, 0, none⟩) n n), (3, c.val)] = some (rnA (.slice ao m cap) (.slice (some ⟨vb, 0, none⟩) n n) g (newS n c)) := by
  obtain ⟨⟨⟨l⟩, hl⟩, c0, c1, c2, c3, c4, c5, c6, c7, c8, c9, c10, c11, c12, c13, c14, c15, c16, c17⟩ := c
  rcases l with _ | ⟨x0, l⟩
  · exact absurd hl (by simp)
  rcases l with _ | ⟨x1, l⟩
  · exact absurd hl (by simp)
  rcases l with _ | ⟨x2, l⟩
  · exact absurd hl (by simp)
  rcases l with _ | ⟨x3, l⟩
  · exact absurd hl (by simp)
  rcases l with _ | ⟨x4, l⟩
  · exact absurd hl (by simp)
  rcases l with _ | ⟨x5, l⟩
  · exact absurd hl (by simp)
  rcases l with _ | ⟨x6, l⟩
  · exact absurd hl (by simp)
  rcases l with _ | ⟨x7, l⟩
  · exact absurd hl (by simp)
  rcases l with _ | ⟨x8, l⟩
  · exact absurd hl (by simp)
  rcases l with _ | ⟨x9, l⟩
  · exact absurd hl (by simp)
  rcases l with _ | ⟨x10, l⟩
  · exact absurd hl (by simp)
  rcases l with _ | ⟨x11, l⟩
  · exact absurd hl (by simp)
  rcases l with _ | ⟨x12, l⟩
  · exact absurd hl (by simp)
  rcases l with _ | ⟨x13, l⟩
  · exact absurd hl (by simp)
  rcases l with _ | ⟨x14, l⟩
  · exact absurd hl (by simp)
  rcases l with _ | ⟨x15, l⟩
  · exact absurd hl (by simp)
  rcases l with _ | ⟨x16, l⟩
  · exact absurd hl (by simp)
  rcases l with _ | ⟨x17, l⟩
  · exact absurd hl (by simp)
  rcases l with _ | ⟨x18, l⟩
  · exact absurd hl (by simp)
  rcases l with _ | ⟨x19, l⟩
  · exact absurd hl (by simp)
  rcases l with _ | ⟨x20, l⟩
  · exact absurd hl (by simp)
  rcases l with _ | ⟨x21, l⟩
  · exact absurd hl (by simp)
  rcases l with _ | ⟨x22, l⟩
  · exact absurd hl (by simp)
  rcases l with _ | ⟨x23, l⟩
  · exact absurd hl (by simp)
  rcases l with _ | ⟨x24, l⟩
  · exact absurd hl (by simp)
  rcases l with _ | ⟨x25, l⟩
  · exact absurd hl (by simp)
  rcases l with _ | ⟨x26, l⟩
  · exact absurd hl (by simp)
  rcases l with _ | ⟨x27, l⟩
  · exact absurd hl (by simp)
  rcases l with _ | ⟨x28, l⟩
  · exact absurd hl (by simp)
  rcases l with _ | ⟨x29, l⟩
  · exact absurd hl (by simp)
  rcases l with _ | ⟨x30, l⟩
  · exact absurd hl (by simp)
  rcases l with _ | ⟨y, l⟩
  · kernel_rfl
  · exact absurd hl (by simp)
end
end Go.Proofs.YtccmncecpmemaaaGreatDoor
/- New. -/
namespace Go.Proofs.YtccmncecpmemaaaGreatDoor
open Go.RowKit
set_option linter.unusedVariables false
set_option linter.unusedSimpArgs false
set_option maxRecDepth 8000

section
variable {l : List Opr} {w w' : World} {pc words el : Int} {v : Value} {c : Cor} {b1 b2 : Nat}
theorem own_grow6 {w w' : World} {base : Nat} {v : Value} {n : Nat} {xs : List Value} (h : w.ownsRow base 27 6 v n xs) (hb : Below w.heap.size w w') : w'.ownsRow base 27 6 v n xs :=
  own_of_block h (fun k hk => hb.block k (h.lt k hk).2)
theorem rel_mk {E : List PanicEntry → World → Prop} {F : Value → World → Prop} {o : Oper} {a : Act} {x : Operand} {n : Nat} (hn : n ≤ 512) (hF : F (.slice (some ⟨w.heap.size, 0, none⟩) n n) (w.alloc (.cells ((List.replicate n (0 : Int)).map vU).toArray 22))) (ho : o.op = .makeSlice 62 x x := by rfl) (hx : a.eval x = vI n := by rfl) : RelQ.relUpon Tryz.prog RelQ.Grows E F w ((execOp a.eval o).run Tryz.prog w) := by
  unfold execOp
  simp only [ho, hx, Sem.run_bind, run_mk w n hn, Result.andThen_ok, Sem.run_pure]
  exact ⟨below_alloc _ _, hF⟩
theorem rel_load29 {E : List PanicEntry → World → Prop} {o : Oper} {a : Act} {x : Operand} {b : Nat} (hr : w.heap[b]? = some (.cells c.cells 42)) (ho : o.op = .load 42 x := by rfl) (hx : a.eval x = ptr b 0 := by rfl) : RelQ.relUpon Tryz.prog RelQ.Grows E (fun v _ => v = c.val) w ((execOp a.eval o).run Tryz.prog w) := by
  have h := run_loadVar_row w b 42 42 c.cells (0, 0) _ hr Tryz.underlying42 rfl c.info
  unfold execOp
  simp only [ho, hx, Instr.loadAt, Instr.sureAddr, Sem.run_bind, Sem.run_pure, Result.andThen_ok, h]
  exact ⟨RelQ.grows_refl _, rfl⟩
theorem rel_new8 {E : List PanicEntry → World → Prop} {o : Oper} {a : Act} {x y z : Operand} {B : Nat} {u2 u6 : Value} (h2 : w.ownsRow B 27 6 u2 l.length (opF l)) (h6 : ∃ vb, u6 = .slice (some ⟨vb, 0, none⟩) l.length l.length ∧ w.heap[vb]? = some (.cells (((List.replicate l.length (0 : Int)).map vU).toArray) 22) ∧ B ≤ vb)
    (ho : o.op = .build 95 #[(0, x), (1, y), (3, z)] := by rfl) (hx : a.eval x = u2 := by rfl) (hy : a.eval y = u6 := by rfl) (hz : a.eval z = c.val := by rfl) : RelQ.relUpon Tryz.prog RelQ.Grows E (fun u x => ∃ vb so, u = .agg (rnA so (.slice (some ⟨vb, 0, none⟩) l.length l.length) 0 (newS l.length c)) ∧ x.ownsRow B 27 6 so l.length (opF l) ∧ x.heap[vb]? = some (.cells (((List.replicate l.length (0 : Int)).map vU).toArray) 22) ∧ B ≤ vb ∧ so.oneCell' = true) w ((execOp a.eval o).run Tryz.prog w) := by
  obtain ⟨vb, rfl, h1, h3⟩ := h6
  obtain ⟨ao, cap, rfl, _⟩ := own_len h2
  have hb := run_build (P := Tryz.prog) w 95 #[(0, .slice ao l.length cap), (1, .slice (some ⟨vb, 0, none⟩) l.length l.length), (3, c.val)] _ (built61 ao l.length cap vb l.length c 0)
  unfold execOp
  simp only [ho, List.map_toArray, List.map_cons, List.map_nil, hx, hy, hz, Sem.run_bind, hb, Result.andThen_ok, Sem.run_pure]
  exact ⟨RelQ.grows_refl _, vb, _, rfl, h2, h1, h3, rfl⟩
theorem newS_ok (hok : CorOk c) (hel : c.el = 0 ∨ c.el = 1) (n : Nat) : (newS n c).Ok := ⟨hok.x, hok.sp0, hok.sp1, hel, fun v hv => by
  have := List.eq_of_mem_replicate (show v ∈ List.replicate n (0 : Int) from hv)
  rw [this]; exact ⟨by decide, by decide⟩⟩
theorem rel_box8 {E : List PanicEntry → World → Prop} {o : Oper} {a : Act} {x : Operand} {B : Nat} {u8 : Value} (hok : (newS l.length c).Ok) (hC : NwC w' pc words el v l c b1 b2 w) (h8 : ∃ vb so, u8 = .agg (rnA so (.slice (some ⟨vb, 0, none⟩) l.length l.length) 0 (newS l.length c)) ∧ w.ownsRow B 27 6 so l.length (opF l) ∧ w.heap[vb]? = some (.cells (((List.replicate l.length (0 : Int)).map vU).toArray) 22) ∧ B ≤ vb ∧ so.oneCell' = true) (h0 : 0 < l.length) (hl : l.length ≤ 512) (hB : B ≤ w.heap.size)
    (ho : o.op = .box 95 x := by rfl) (hx : a.eval x = u8 := by rfl) : RelQ.relUpon Tryz.prog RelQ.Grows E (fun u x => Fresh l (newS l.length c) B u x) w ((execOp a.eval o).run Tryz.prog w) := by
  obtain ⟨vb, so, rfl, h1, h2, h3, h4⟩ := h8
  have hr : ((execOp a.eval o).run Tryz.prog w) = .ok (.value (ptr w.heap.size 0)) (w.alloc (.cells (rnA so (.slice (some ⟨vb, 0, none⟩) l.length l.length) 0 (newS l.length c)) 95)) := by
    unfold execOp
    simp only [ho, hx]
    go_simp
  rw [hr]
  have hb := below_alloc w (.cells (rnA so (.slice (some ⟨vb, 0, none⟩) l.length l.length) 0 (newS l.length c)) 95)
  refine ⟨hb, ⟨w.heap.size, vb, so, rfl, ⟨heap_alloc_new _ _, own_mono (own_grow6 h1 hb) (Nat.zero_le _), ?_, ?_, h0, hl, hok⟩, hB, h3, fun k hk => (h1.lt k hk).1⟩⟩
  · rw [hb.block _ (lt_of_some h2)]; exact h2
  · simp [newS]
set_option maxHeartbeats 8000000 in
theorem new_c (hpc : 0 ≤ pc) (O : Ops w v l) (himm : ∀ k, 0 ≤ (opAt l k).imm) (hcap : ∀ ao n cap, v = .slice ao n cap → n ≤ cap) (hc : CorOk c) : Calls Tryz.prog 18 #[blV pc words el v, c.val] w (NewR w pc words el l c) := by
  have N0 : NwC w pc words el v l c w.heap.size (w.heap.size + 1) ((w.alloc (.cells (blA pc words el v) 25)).alloc (.cells c.cells 42)) := by
    have hb := below_alloc w (.cells (blA pc words el v) 25)
    have hb2 := below_alloc (w.alloc (.cells (blA pc words el v) 25)) (.cells c.cells 42)
    refine ⟨?_, ?_, (O.grow hb).grow hb2, below_then hb (Nat.le_refl _) hb2⟩
    · rw [hb2.block _ (by simp)]; exact heap_alloc_new _ _
    · have := heap_alloc_new (w.alloc (.cells (blA pc words el v) 25)) (.cells c.cells 42)
      rw [World.size_alloc] at this; exact this
  have hnw : NewR w pc words el l c = NewR w pc words el l c := rfl
  go_enter Tryz.func18, Tryz.ntmps18
  go_upto_region 1 with fail
  generalize (w.alloc (.cells (blA pc words el v) 25)).alloc (.cells c.cells 42) = w2 at *
  generalize w.heap.size + 1 = b2 at *
  have hb1 : Hid (w.heap.size = w.heap.size) := rfl
  generalize hbb : w.heap.size = b1 at N0 ⊢
  clear hbb hb1 hnw
  have k1 := right_c (words := words) (el := el) hpc N0.ops himm hcap
  cases hR : rightB pc words el l with
  | false =>
    rw [hR] at k1
    go_wp2_with (first | ((with_reducible refine wpList_load_if rfl 25 _ rfl _ rfl 25 _ (0, 0) _ N0.r1 Tryz.underlying25 rfl (bl_inf _ _ _ _) ?_); simp only [Act.put, List.setIfInBounds_toArray, List.set_cons_succ, List.set_cons_zero]) | (go_at_call 13; (with_reducible refine k1.mono ?_); clear k1; rintro e w3 ⟨rfl, B⟩; dsimp only))
    go_ret2
    have e4 : newE pc words el l c = 4 := by unfold newE; rw [hR]; rfl
    refine ⟨below_then N0.below (Nat.le_refl _) B, .inl ⟨by rw [e4]; decide, by rw [e4]; rfl⟩⟩
  | true =>
    rw [hR] at k1
    have hH : headB pc words el l = true := by unfold rightB at hR; rw [Bool.and_eq_true] at hR; exact hR.1
    obtain ⟨h0, hl⟩ := headB_len hH
    have k2 := fun x => regsRight_c c x
    by_cases hgo : rightC c = true ∧ c.el = el
    · have e0 : newE pc words el l c = 0 := by unfold newE; rw [hR]; simp [hgo]
      obtain ⟨hg1, hg2⟩ := hgo
      go_upto_region 5 with (first | ((with_reducible refine wpList_load_if rfl 25 _ rfl _ rfl 25 _ (0, 0) _ N0.r1 Tryz.underlying25 rfl (bl_inf _ _ _ _) ?_); simp only [Act.put, List.setIfInBounds_toArray, List.set_cons_succ, List.set_cons_zero]) | (go_at_call 13; (with_reducible refine k1.mono ?_); clear k1; rintro e w3 ⟨rfl, B⟩; dsimp only; have N3 := N0.grow B; clear N0) | ((with_reducible refine wpList_load_if rfl 42 _ rfl _ rfl 42 _ (0, 0) _ N3.r2 Tryz.underlying42 rfl (Cor.info _) ?_); simp only [Act.put, List.setIfInBounds_toArray, List.set_cons_succ, List.set_cons_zero]) | (go_at_call 48; (with_reducible refine (k2 _).mono ?_); rintro e w4 ⟨rfl, B4⟩; rw [hg1]; dsimp only; have N4 := N3.grow B4; have z1 := N4.ce; have z2 := N4.c2; rw [hg2] at z1))
      have hok := newS_ok hc (c := c) (by
        have h := hg1
        unfold rightC at h
        simp only [Bool.and_eq_true, Bool.or_eq_true, beq_iff_eq] at h
        exact h.1.1.1.1) l.length
      refine RelQ.wp_region_rel RelQ.Grows (fun _ _ => False) (fun _ _ _ h _ => h.elim) (NwC w pc words el v l c b1 b2) [.inl (ptr b1 3), .inl (v), .inr (fun u x => x.ownsRow w.heap.size 27 6 u l.length (opF l)), .inl (ptr b1 3), .inl (v), .inl (vI (l.length : Int)), .inr (fun u x => ∃ vb, u = .slice (some ⟨vb, 0, none⟩) l.length l.length ∧ x.heap[vb]? = some (.cells (((List.replicate l.length (0 : Int)).map vU).toArray) 22) ∧ w.heap.size ≤ vb), .inl (c.val), .inr (fun u x => ∃ vb so, u = .agg (rnA so (.slice (some ⟨vb, 0, none⟩) l.length l.length) 0 (newS l.length c)) ∧ x.ownsRow w.heap.size 27 6 so l.length (opF l) ∧ x.heap[vb]? = some (.cells (((List.replicate l.length (0 : Int)).map vU).toArray) 22) ∧ w.heap.size ≤ vb ∧ so.oneCell' = true), .inr (fun u x => Fresh l (newS l.length c) w.heap.size u x), .inr (fun u x => Fresh l (newS l.length c) w.heap.size u x), .inl (vI 0)] (by kernel_rfl) (by kernel_rfl) RelQ.grows_refl (fun _ _ h hb => h.grow hb) (N4.grow (below_dr _)) (by intro k hk; simp only [List.mem_cons, List.not_mem_nil, or_false] at hk; rcases hk with rfl | rfl | rfl | rfl | rfl | rfl | rfl | rfl | rfl | rfl | rfl | rfl <;> first | exact trivial | exact (fun v x y h hb => own_grow6 h hb) | exact (fun v x y h hb => Fresh.grow h hb) | exact (fun v x y h hb => by obtain ⟨vb, e, h1, h2⟩ := h; exact ⟨vb, e, by rw [hb.block _ (lt_of_some h1)]; exact h1, h2⟩) | exact (fun v x y h hb => by obtain ⟨vb, so, e, h0, h1, h2⟩ := h; exact ⟨vb, so, e, own_grow6 h0 hb, by rw [hb.block _ (lt_of_some h1)]; exact h1, h2⟩)) ?_
      refine ⟨fun w3 hC _ => RelQ.uponG_yes rfl ((by go_simp; first | exact RelQ.grows_refl _ | exact ⟨RelQ.grows_refl _, rfl⟩)), ?_⟩
      simp only [Act.put, List.setIfInBounds_toArray, List.set_cons_succ, List.set_cons_zero]
      refine ⟨fun w3 hC _ => RelQ.uponG_yes rfl ((by have z := hC.c3; go_simp; first | exact RelQ.grows_refl _ | exact ⟨RelQ.grows_refl _, rfl⟩)), ?_⟩
      simp only [Act.put, List.setIfInBounds_toArray, List.set_cons_succ, List.set_cons_zero]
      refine ⟨fun w3 hC hf => RelQ.uponG_yes rfl ((by go_simp; refine (clone_c hC.ops h0 hl).mono ?_; rintro e w4 ⟨u, rfl, ho, hb⟩; first | exact ⟨_, rfl, hb, own_mono ho hC.below.size⟩ | exact .inl ⟨_, rfl, hb, own_mono ho hC.below.size⟩)), ?_⟩
      intro u2
      simp only [Act.put, List.setIfInBounds_toArray, List.set_cons_succ, List.set_cons_zero]
      refine ⟨fun w3 hC _ => RelQ.uponG_yes rfl ((by go_simp; first | exact RelQ.grows_refl _ | exact ⟨RelQ.grows_refl _, rfl⟩)), ?_⟩
      simp only [Act.put, List.setIfInBounds_toArray, List.set_cons_succ, List.set_cons_zero]
      refine ⟨fun w3 hC _ => RelQ.uponG_yes rfl ((by have z := hC.c3; go_simp; first | exact RelQ.grows_refl _ | exact ⟨RelQ.grows_refl _, rfl⟩)), ?_⟩
      simp only [Act.put, List.setIfInBounds_toArray, List.set_cons_succ, List.set_cons_zero]
      refine ⟨fun w3 hC hf => RelQ.uponG_yes rfl (by obtain ⟨ao, cap, ev⟩ := hC.ops.len; subst ev; go_simp; first | exact RelQ.grows_refl _ | exact ⟨RelQ.grows_refl _, rfl⟩), ?_⟩
      simp only [Act.put, List.setIfInBounds_toArray, List.set_cons_succ, List.set_cons_zero]
      refine ⟨fun w3 hC hf => RelQ.uponG_yes rfl ((by exact rel_mk hl ⟨_, rfl, heap_alloc_new _ _, hC.below.size⟩)), ?_⟩
      intro u6
      simp only [Act.put, List.setIfInBounds_toArray, List.set_cons_succ, List.set_cons_zero]
      refine ⟨fun w3 hC hf => RelQ.uponG_yes rfl (by exact rel_load29 hC.r2), ?_⟩
      simp only [Act.put, List.setIfInBounds_toArray, List.set_cons_succ, List.set_cons_zero]
      refine ⟨fun w3 hC hf => RelQ.uponG_yes rfl ((by exact rel_new8 ((hf 2 (by kernel_rfl)).2.1 rfl) ((hf 6 (by kernel_rfl)).1 rfl))), ?_⟩
      intro u8
      simp only [Act.put, List.setIfInBounds_toArray, List.set_cons_succ, List.set_cons_zero]
      refine ⟨fun w3 hC hf => RelQ.uponG_yes rfl ((by exact rel_box8 hok hC ((hf 8 (by kernel_rfl)).1 rfl) h0 hl hC.below.size)), ?_⟩
      intro u9
      simp only [Act.put, List.setIfInBounds_toArray, List.set_cons_succ, List.set_cons_zero]
      refine ⟨fun w3 hC hf => RelQ.uponG_yes rfl ((by have q := (hf 9 (by kernel_rfl)).1 rfl; go_simp; first | exact RelQ.grows_refl _ | exact ⟨RelQ.grows_refl _, q⟩)), ?_⟩
      intro u10
      simp only [Act.put, List.setIfInBounds_toArray, List.set_cons_succ, List.set_cons_zero]
      refine ⟨fun w3 hC _ => RelQ.uponG_yes rfl ((by go_simp; first | exact RelQ.grows_refl _ | exact ⟨RelQ.grows_refl _, rfl⟩)), ?_⟩
      simp only [Act.put, List.setIfInBounds_toArray, List.set_cons_succ, List.set_cons_zero]
      intro w9 hN hf
      have F := (hf 10).1 rfl
      clear hf
      go_wp2
      go_ret2
      exact ⟨hN.below, .inr ⟨e0, u10, rfl, F⟩⟩
    · have e1 : newE pc words el l c = 1 := by unfold newE; rw [hR]; simp [hgo]
      cases hg1 : rightC c with
      | false =>
        go_wp2_with (first | ((with_reducible refine wpList_load_if rfl 25 _ rfl _ rfl 25 _ (0, 0) _ N0.r1 Tryz.underlying25 rfl (bl_inf _ _ _ _) ?_); simp only [Act.put, List.setIfInBounds_toArray, List.set_cons_succ, List.set_cons_zero]) | (go_at_call 13; (with_reducible refine k1.mono ?_); clear k1; rintro e w3 ⟨rfl, B⟩; dsimp only; have N3 := N0.grow B; clear N0) | ((with_reducible refine wpList_load_if rfl 42 _ rfl _ rfl 42 _ (0, 0) _ N3.r2 Tryz.underlying42 rfl (Cor.info _) ?_); simp only [Act.put, List.setIfInBounds_toArray, List.set_cons_succ, List.set_cons_zero]) | (go_at_call 48; (with_reducible refine (k2 _).mono ?_); rintro e w4 ⟨rfl, B4⟩; rw [hg1]; dsimp only; have N4 := N3.grow B4; have z1 := N4.ce; have z2 := N4.c2))
        go_ret2
        exact ⟨N4.below, .inl ⟨by rw [e1]; decide, by rw [e1]; rfl⟩⟩
      | true =>
        have hg2 : ¬ c.el = el := fun h => hgo ⟨hg1, h⟩
        have hg3 : (c.el != el) = true := by simp [hg2]
        go_wp2_with (first | ((with_reducible refine wpList_load_if rfl 25 _ rfl _ rfl 25 _ (0, 0) _ N0.r1 Tryz.underlying25 rfl (bl_inf _ _ _ _) ?_); simp only [Act.put, List.setIfInBounds_toArray, List.set_cons_succ, List.set_cons_zero]) | (go_at_call 13; (with_reducible refine k1.mono ?_); clear k1; rintro e w3 ⟨rfl, B⟩; dsimp only; have N3 := N0.grow B; clear N0) | ((with_reducible refine wpList_load_if rfl 42 _ rfl _ rfl 42 _ (0, 0) _ N3.r2 Tryz.underlying42 rfl (Cor.info _) ?_); simp only [Act.put, List.setIfInBounds_toArray, List.set_cons_succ, List.set_cons_zero]) | (go_at_call 48; (with_reducible refine (k2 _).mono ?_); rintro e w4 ⟨rfl, B4⟩; rw [hg1]; dsimp only; have N4 := N3.grow B4; have z1 := N4.ce; have z2 := N4.c2))
        go_ret2
        exact ⟨N4.below, .inl ⟨by rw [e1]; decide, by rw [e1]; rfl⟩⟩
end
end Go.Proofs.YtccmncecpmemaaaGreatDoor
/- What holds of a run all the time. -/
namespace Go.Proofs.YtccmncecpmemaaaGreatDoor
open Go.RowKit
set_option linter.unusedVariables false
set_option linter.unusedSimpArgs false
set_option maxRecDepth 8000

/-- What holds of a run all the time. -/
structure Inv (n : Nat) (S : Rn) : Prop where
  le : S.next ≤ n
  g4 : S.go ≤ 4
  g1 : S.go ≠ 0 → 1 ≤ S.next
  gf : ¬ (S.guest = true ∧ S.flt = true)
  fl : S.guest = true ∨ S.flt = true → S.next = n ∧ S.go = 0
theorem new_inv (n : Nat) (c : Cor) : Inv n (newS n c) := ⟨Nat.zero_le _, Nat.zero_le _, fun h => absurd rfl h, fun h => by (cases h.1), fun h => by (rcases h with h | h <;> cases h)⟩
theorem Inv.off {n : Nat} {S : Rn} (h : Inv n S) (hn : S.next < n ∨ S.go ≠ 0) : S.guest = false ∧ S.flt = false := by
  constructor
  · cases e : S.guest with
    | false => rfl
    | true => have := h.fl (.inl e); exact absurd hn (fun hn => hn.elim (fun q => absurd this.1 (by omega)) (fun q => q this.2))
  · cases e : S.flt with
    | false => rfl
    | true => have := h.fl (.inr e); exact absurd hn (fun hn => hn.elim (fun q => absurd this.1 (by omega)) (fun q => q this.2))
theorem step_inv {l : List Opr} {S : Rn} (h : Inv l.length S) (h0 : S.go = 0) (hn : S.next < l.length) : Inv l.length (stepV l S) := by
  obtain ⟨hg, hf⟩ := h.off (.inl hn)
  unfold stepV carryV
  split
  · exact ⟨by show S.next + 1 ≤ _; omega, by show S.go ≤ 4; omega, fun h => absurd h0 h, fun h => by (have := h.1.symm.trans hg; cases this), fun h => by rcases h with h | h; exact absurd (h.symm.trans hg) (by decide); exact absurd (h.symm.trans hf) (by decide)⟩
  · exact ⟨by show S.next + 1 ≤ _; omega, by show S.go ≤ 4; omega, fun h => absurd h0 h, fun h => by (have := h.1.symm.trans hg; cases this), fun h => by rcases h with h | h; exact absurd (h.symm.trans hg) (by decide); exact absurd (h.symm.trans hf) (by decide)⟩
  · exact ⟨by show S.next + 1 ≤ _; omega, by show S.go ≤ 4; omega, fun h => absurd h0 h, fun h => by (have := h.1.symm.trans hg; cases this), fun h => by rcases h with h | h; exact absurd (h.symm.trans hg) (by decide); exact absurd (h.symm.trans hf) (by decide)⟩
  · exact ⟨by show S.next + 1 ≤ _; omega, by show S.go ≤ 4; omega, fun h => absurd h0 h, fun h => by (have := h.1.symm.trans hg; cases this), fun h => by rcases h with h | h; exact absurd (h.symm.trans hg) (by decide); exact absurd (h.symm.trans hf) (by decide)⟩
  · unfold Rn.setSP
    split
    · exact ⟨by show S.next + 1 ≤ _; omega, by show S.go ≤ 4; omega, fun h => absurd h0 h, fun h => by (have := h.1.symm.trans hg; cases this), fun h => by rcases h with h | h; exact absurd (h.symm.trans hg) (by decide); exact absurd (h.symm.trans hf) (by decide)⟩
    · exact ⟨by show S.next + 1 ≤ _; omega, by show S.go ≤ 4; omega, fun h => absurd h0 h, fun h => by (have := h.1.symm.trans hg; cases this), fun h => by rcases h with h | h; exact absurd (h.symm.trans hg) (by decide); exact absurd (h.symm.trans hf) (by decide)⟩
  · exact ⟨by show S.next + 1 ≤ _; omega, by show S.go ≤ 4; omega, fun h => absurd h0 h, fun h => by (have := h.1.symm.trans hg; cases this), fun h => by rcases h with h | h; exact absurd (h.symm.trans hg) (by decide); exact absurd (h.symm.trans hf) (by decide)⟩
  · unfold Rn.setF
    split
    · exact ⟨by show S.next + 1 ≤ _; omega, by show S.go ≤ 4; omega, fun h => absurd h0 h, fun h => by (have := h.1.symm.trans hg; cases this), fun h => by rcases h with h | h; exact absurd (h.symm.trans hg) (by decide); exact absurd (h.symm.trans hf) (by decide)⟩
    · split
      · exact ⟨by show S.next + 1 ≤ _; omega, by show S.go ≤ 4; omega, fun h => absurd h0 h, fun h => by (have := h.1.symm.trans hg; cases this), fun h => by rcases h with h | h; exact absurd (h.symm.trans hg) (by decide); exact absurd (h.symm.trans hf) (by decide)⟩
      · split
        · exact ⟨by show S.next + 1 ≤ _; omega, by show S.go ≤ 4; omega, fun h => absurd h0 h, fun h => by (have := h.1.symm.trans hg; cases this), fun h => by rcases h with h | h; exact absurd (h.symm.trans hg) (by decide); exact absurd (h.symm.trans hf) (by decide)⟩
        · exact ⟨by show S.next + 1 ≤ _; omega, by show S.go ≤ 4; omega, fun h => absurd h0 h, fun h => by (have := h.1.symm.trans hg; cases this), fun h => by rcases h with h | h; exact absurd (h.symm.trans hg) (by decide); exact absurd (h.symm.trans hf) (by decide)⟩
  · exact ⟨by show S.next + 1 ≤ _; omega, by show S.go ≤ 4; omega, fun h => absurd h0 h, fun h => by (have := h.1.symm.trans hg; cases this), fun h => by rcases h with h | h; exact absurd (h.symm.trans hg) (by decide); exact absurd (h.symm.trans hf) (by decide)⟩
  · unfold Rn.acc
    split
    · exact ⟨by show S.next + 1 ≤ _; omega, by show 1 ≤ 4; decide, fun _ => by show 1 ≤ S.next + 1; omega, fun h => by (have := h.1.symm.trans hg; cases this), fun h => by rcases h with h | h; exact absurd (h.symm.trans hg) (by decide); exact absurd (h.symm.trans hf) (by decide)⟩
    · exact ⟨Nat.le_refl _, by show S.go ≤ 4; omega, fun h => absurd h0 h, fun h => by (have := h.1.symm.trans hg; cases this), fun _ => ⟨rfl, h0⟩⟩
  · unfold Rn.acc
    split
    · exact ⟨by show S.next + 1 ≤ _; omega, by show 2 ≤ 4; decide, fun _ => by show 1 ≤ S.next + 1; omega, fun h => by (have := h.1.symm.trans hg; cases this), fun h => by rcases h with h | h; exact absurd (h.symm.trans hg) (by decide); exact absurd (h.symm.trans hf) (by decide)⟩
    · exact ⟨Nat.le_refl _, by show S.go ≤ 4; omega, fun h => absurd h0 h, fun h => by (have := h.1.symm.trans hg; cases this), fun _ => ⟨rfl, h0⟩⟩
  · unfold Rn.acc
    split
    · exact ⟨by show S.next + 1 ≤ _; omega, by show 1 ≤ 4; decide, fun _ => by show 1 ≤ S.next + 1; omega, fun h => by (have := h.1.symm.trans hg; cases this), fun h => by rcases h with h | h; exact absurd (h.symm.trans hg) (by decide); exact absurd (h.symm.trans hf) (by decide)⟩
    · exact ⟨Nat.le_refl _, by show S.go ≤ 4; omega, fun h => absurd h0 h, fun h => by (have := h.1.symm.trans hg; cases this), fun _ => ⟨rfl, h0⟩⟩
  · unfold Rn.acc
    split
    · exact ⟨by show S.next + 1 ≤ _; omega, by show 3 ≤ 4; decide, fun _ => by show 1 ≤ S.next + 1; omega, fun h => by (have := h.1.symm.trans hg; cases this), fun h => by rcases h with h | h; exact absurd (h.symm.trans hg) (by decide); exact absurd (h.symm.trans hf) (by decide)⟩
    · exact ⟨Nat.le_refl _, by show S.go ≤ 4; omega, fun h => absurd h0 h, fun h => by (have := h.1.symm.trans hg; cases this), fun _ => ⟨rfl, h0⟩⟩
  · exact ⟨by show S.next + 1 ≤ _; omega, by show 4 ≤ 4; decide, fun _ => by show 1 ≤ S.next + 1; omega, fun h => by (have := h.1.symm.trans hg; cases this), fun h => by rcases h with h | h; exact absurd (h.symm.trans hg) (by decide); exact absurd (h.symm.trans hf) (by decide)⟩
  · exact ⟨by show S.next + 1 ≤ _; omega, by show S.go ≤ 4; omega, fun h => absurd h0 h, fun h => by (have := h.1.symm.trans hg; cases this), fun h => by rcases h with h | h; exact absurd (h.symm.trans hg) (by decide); exact absurd (h.symm.trans hf) (by decide)⟩
  · split
    · exact ⟨Nat.le_refl _, by show S.go ≤ 4; omega, fun h => absurd h0 h, fun h => by (have := h.1.symm.trans hg; cases this), fun _ => ⟨rfl, h0⟩⟩
    · exact ⟨by show S.next + 1 ≤ _; omega, by show S.go ≤ 4; omega, fun h => absurd h0 h, fun h => by (have := h.1.symm.trans hg; cases this), fun h => by rcases h with h | h; exact absurd (h.symm.trans hg) (by decide); exact absurd (h.symm.trans hf) (by decide)⟩
  · exact ⟨Nat.le_refl _, by show S.go ≤ 4; omega, fun h => absurd h0 h, fun h => by (have := h.1.symm.trans hg; cases this), fun _ => ⟨rfl, h0⟩⟩
  · exact ⟨Nat.le_refl _, by show S.go ≤ 4; omega, fun h => absurd h0 h, fun h => by (have := h.1.symm.trans hg; cases this), fun _ => ⟨rfl, h0⟩⟩
  · exact ⟨Nat.le_refl _, by show S.go ≤ 4; omega, fun h => absurd h0 h, fun h => by (have := h.2.symm.trans hf; cases this), fun _ => ⟨rfl, h0⟩⟩
  · exact ⟨by show S.next + 1 ≤ _; omega, by show S.go ≤ 4; omega, fun h => absurd h0 h, fun h => by (have := h.1.symm.trans hg; cases this), fun h => by rcases h with h | h; exact absurd (h.symm.trans hg) (by decide); exact absurd (h.symm.trans hf) (by decide)⟩

theorem run_inv {l : List Opr} : ∀ (f : Nat) (S : Rn), Inv l.length S → Inv l.length (runN l f S)
  | 0, S, h => h
  | f + 1, S, h => by
    unfold runN
    split
    · rename_i hc
      exact run_inv f _ (step_inv h hc.1 hc.2)
    · exact h
theorem next_inv {l : List Opr} {S : Rn} (h : Inv l.length S) : Inv l.length (nextV l S) := run_inv _ _ h
theorem told_inv {n : Nat} {S : Rn} (t : Gt) (hl : S.next ≤ n) (h0 : S.go = 0) (hg : S.guest = false) (hf : S.flt = false) : Inv n (S.told n t) := by
  unfold Rn.told
  split
  · exact ⟨hl, by omega, fun h => absurd h0 h, fun h => by (have := h.1.symm.trans hg; cases this), fun h => by rcases h with h | h; exact absurd (h.symm.trans hg) (by decide); exact absurd (h.symm.trans hf) (by decide)⟩
  · exact ⟨Nat.le_refl _, by show S.go ≤ 4; omega, fun h => absurd h0 h, fun h => by (have := h.1.symm.trans hg; cases this), fun _ => ⟨rfl, h0⟩⟩
theorem take_inv {n : Nat} {S : Rn} (h : Inv n S) (t : Gt) : Inv n (takeV n S t) := by
  unfold takeV
  split
  · exact h
  · rename_i e
    obtain ⟨hg, hf⟩ := h.off (.inr (by omega))
    exact told_inv t h.le rfl hg hf
  · rename_i e
    obtain ⟨hg, hf⟩ := h.off (.inr (by omega))
    exact told_inv t h.le rfl hg hf
  · rename_i e
    obtain ⟨hg, hf⟩ := h.off (.inr (by omega))
    exact told_inv t h.le rfl hg hf
  · rename_i h1 h2 h3 h4
    obtain ⟨hg, hf⟩ := h.off (.inr (fun e => h1 e))
    exact ⟨h.le, Nat.zero_le _, fun h => absurd rfl h, fun h => by (have := h.1.symm.trans hg; cases this), fun h => by rcases h with h | h; exact absurd (h.symm.trans hg) (by decide); exact absurd (h.symm.trans hf) (by decide)⟩
end Go.Proofs.YtccmncecpmemaaaGreatDoor
/- The program's run and the document's are alike: plain. -/
namespace Go.Proofs.YtccmncecpmemaaaGreatDoor
open Go.RowKit
set_option linter.unusedVariables false
set_option linter.unusedSimpArgs false
set_option maxRecDepth 8000

def newD (n : Nat) (c : Cor) : Dn := ⟨c, 0, false, nilW, false, false, 0, false, List.replicate n 0⟩
/-- A run of the program's and one of the document's, of one block, alike. -/
structure Lk (n : Nat) (S : Rn) (D : Dn) : Prop where
  c : D.c = S.c
  run : D.left = false → D.at_ = S.next ∧ D.vs = S.vs
  inn : D.left = false → S.next ≤ n ∧ (S.go = 0 → S.next < n)
  out : D.left = true → S.next = n ∧ S.go = 0
  waits : D.waits = (S.go != 0)
  w : S.go ≠ 0 → D.w = S.w
  nw : S.go = 0 → S.w = nilW
  flt : D.flt = S.flt
  guest : D.guest = S.guest
  word : D.word = S.word
theorem lk_new {n : Nat} (hn : 0 < n) (c : Cor) : Lk n (newS n c) (newD n c) := ⟨rfl, fun _ => ⟨rfl, rfl⟩, fun _ => ⟨Nat.zero_le _, fun _ => hn⟩, fun h => (by cases h), rfl, fun h => absurd rfl h, fun _ => rfl, rfl, rfl, rfl⟩
theorem acq_id {k o : Int} (hk : k = 9 ∨ k = 11) {r a b imm : Int} (h : rangeB ⟨k, r, a, b, o, imm⟩ = true) : acqV o = o := by
  rcases hk with rfl | rfl
  · simp [rangeB] at h
    rcases h with (rfl | rfl) | rfl <;> rfl
  · simp [rangeB] at h
    rcases h with rfl | rfl <;> rfl
theorem lk_step {l : List Opr} {S : Rn} {D : Dn} (h : Lk l.length S D) (hl : D.left = false) (hg : S.go = 0) (fit : OpFit l (opAt l S.next)) (hlast : hasP (opAt l S.next).kind 128 = true ↔ S.next + 1 = l.length) : Lk l.length (stepV l S) (dStep D.c.el l D) := by
  obtain ⟨q1, q2⟩ := h.run hl
  obtain ⟨q3, q4⟩ := h.inn hl
  have q5 := q4 hg
  obtain ⟨hc, _, _, _, hw, _, hnw0, hf, hgu, hwd⟩ := h
  have hnw := hnw0 hg
  clear hnw0
  unfold stepV dStep
  rw [q1]
  generalize ho : opAt l S.next = o at *
  obtain ⟨next, c, w, go, word, guest, flt, vs⟩ := S
  obtain ⟨c', at', wts, w', left, flt', word', guest', vs'⟩ := D
  dsimp only at hl hg q1 q2 q3 q4 q5 hc hw hnw hf hgu hwd fit hlast ⊢
  subst hl; subst hg; subst q1; subst q2; subst hc; subst hf; subst hgu; subst hwd; subst hnw
  have hw0 : wts = false := hw
  subst hw0
  have hk := fit.k
  have hrg := fit.rng
  clear fit hw ho
  obtain ⟨kind, r, a, b, order, imm⟩ := o
  dsimp only at hk hrg hlast
  rcases isK_cases hk with rfl | rfl | rfl | rfl | rfl | rfl | rfl | rfl | rfl | rfl | rfl | rfl | rfl | rfl | rfl | rfl | rfl | rfl
  · exact ⟨rfl, fun _ => ⟨rfl, rfl⟩, fun _ => ⟨by show at' + 1 ≤ _; omega, fun _ => by show at' + 1 < _; have hz : ¬ at' + 1 = l.length := (fun e => by (have := hlast.2 e; rw [hp1_128] at this; cases this)); omega⟩, fun h => (by cases h), rfl, fun h => absurd rfl h, fun _ => rfl, rfl, rfl, rfl⟩
  · exact ⟨rfl, fun _ => ⟨rfl, rfl⟩, fun _ => ⟨by show at' + 1 ≤ _; omega, fun _ => by show at' + 1 < _; have hz : ¬ at' + 1 = l.length := (fun e => by (have := hlast.2 e; rw [hp2_128] at this; cases this)); omega⟩, fun h => (by cases h), rfl, fun h => absurd rfl h, fun _ => rfl, rfl, rfl, rfl⟩
  · exact ⟨rfl, fun _ => ⟨rfl, rfl⟩, fun _ => ⟨by show at' + 1 ≤ _; omega, fun _ => by show at' + 1 < _; have hz : ¬ at' + 1 = l.length := (fun e => by (have := hlast.2 e; rw [hp3_128] at this; cases this)); omega⟩, fun h => (by cases h), rfl, fun h => absurd rfl h, fun _ => rfl, rfl, rfl, rfl⟩
  · exact ⟨rfl, fun _ => ⟨rfl, rfl⟩, fun _ => ⟨by show at' + 1 ≤ _; omega, fun _ => by show at' + 1 < _; have hz : ¬ at' + 1 = l.length := (fun e => by (have := hlast.2 e; rw [hp4_128] at this; cases this)); omega⟩, fun h => (by cases h), rfl, fun h => absurd rfl h, fun _ => rfl, rfl, rfl, rfl⟩
  · show Lk l.length (Rn.setSP _ _) (Dn.setSP _ _ _)
    unfold Rn.setSP Dn.setSP
    dsimp only
    split
    · exact ⟨rfl, fun _ => ⟨rfl, rfl⟩, fun _ => ⟨by show at' + 1 ≤ _; omega, fun _ => by show at' + 1 < _; have hz : ¬ at' + 1 = l.length := (fun e => by (have := hlast.2 e; rw [hp5_128] at this; cases this)); omega⟩, fun h => (by cases h), rfl, fun h => absurd rfl h, fun _ => rfl, rfl, rfl, rfl⟩
    · exact ⟨rfl, fun _ => ⟨rfl, rfl⟩, fun _ => ⟨by show at' + 1 ≤ _; omega, fun _ => by show at' + 1 < _; have hz : ¬ at' + 1 = l.length := (fun e => by (have := hlast.2 e; rw [hp5_128] at this; cases this)); omega⟩, fun h => (by cases h), rfl, fun h => absurd rfl h, fun _ => rfl, rfl, rfl, rfl⟩
  · exact ⟨rfl, fun _ => ⟨rfl, rfl⟩, fun _ => ⟨by show at' + 1 ≤ _; omega, fun _ => by show at' + 1 < _; have hz : ¬ at' + 1 = l.length := (fun e => by (have := hlast.2 e; rw [hp6_128] at this; cases this)); omega⟩, fun h => (by cases h), rfl, fun h => absurd rfl h, fun _ => rfl, rfl, rfl, rfl⟩
  · show Lk l.length (Rn.setF _ _ _) (Dn.setF _ _ _)
    unfold Rn.setF Dn.setF
    split
    · exact ⟨rfl, fun _ => ⟨rfl, rfl⟩, fun _ => ⟨by show at' + 1 ≤ _; omega, fun _ => by show at' + 1 < _; have hz : ¬ at' + 1 = l.length := (fun e => by (have := hlast.2 e; rw [hp7_128] at this; cases this)); omega⟩, fun h => (by cases h), rfl, fun h => absurd rfl h, fun _ => rfl, rfl, rfl, rfl⟩
    · split
      · exact ⟨rfl, fun _ => ⟨rfl, rfl⟩, fun _ => ⟨by show at' + 1 ≤ _; omega, fun _ => by show at' + 1 < _; have hz : ¬ at' + 1 = l.length := (fun e => by (have := hlast.2 e; rw [hp7_128] at this; cases this)); omega⟩, fun h => (by cases h), rfl, fun h => absurd rfl h, fun _ => rfl, rfl, rfl, rfl⟩
      · split
        · exact ⟨rfl, fun _ => ⟨rfl, rfl⟩, fun _ => ⟨by show at' + 1 ≤ _; omega, fun _ => by show at' + 1 < _; have hz : ¬ at' + 1 = l.length := (fun e => by (have := hlast.2 e; rw [hp7_128] at this; cases this)); omega⟩, fun h => (by cases h), rfl, fun h => absurd rfl h, fun _ => rfl, rfl, rfl, rfl⟩
        · exact ⟨rfl, fun _ => ⟨rfl, rfl⟩, fun _ => ⟨by show at' + 1 ≤ _; omega, fun _ => by show at' + 1 < _; have hz : ¬ at' + 1 = l.length := (fun e => by (have := hlast.2 e; rw [hp7_128] at this; cases this)); omega⟩, fun h => (by cases h), rfl, fun h => absurd rfl h, fun _ => rfl, rfl, rfl, rfl⟩
  · exact ⟨rfl, fun _ => ⟨rfl, rfl⟩, fun _ => ⟨by show at' + 1 ≤ _; omega, fun _ => by show at' + 1 < _; have hz : ¬ at' + 1 = l.length := (fun e => by (have := hlast.2 e; rw [hp8_128] at this; cases this)); omega⟩, fun h => (by cases h), rfl, fun h => absurd rfl h, fun _ => rfl, rfl, rfl, rfl⟩
  · show Lk l.length (Rn.acc _ _ _ _ _) (Dn.acc _ _ _ _)
    unfold Rn.acc Dn.acc
    have hv : (Rn.val ⟨at' + 1, c', nilW, 0, word', guest', flt', vs'⟩ a) = Dn.val ⟨c', at' + 1, false, w', false, flt', word', guest', vs'⟩ a := rfl
    dsimp only
    rw [hv]
    split
    · exact ⟨rfl, fun _ => ⟨rfl, rfl⟩, fun _ => ⟨by show at' + 1 ≤ _; omega, fun h => (by cases h)⟩, fun h => (by cases h), rfl, fun _ => by (have ha := acq_id (k := 9) (by simp) hrg; simp [Dn.wait, Rn.wait, wantD, ha]), fun h => (by cases h), rfl, rfl, rfl⟩
    · exact ⟨rfl, fun h => (by cases h), fun h => (by cases h), fun _ => ⟨rfl, rfl⟩, rfl, fun h => absurd rfl h, fun _ => rfl, rfl, rfl, rfl⟩
  · show Lk l.length (Rn.acc _ _ _ _ _) (Dn.acc _ _ _ _)
    unfold Rn.acc Dn.acc
    have hv : (Rn.val ⟨at' + 1, c', nilW, 0, word', guest', flt', vs'⟩ a) = Dn.val ⟨c', at' + 1, false, w', false, flt', word', guest', vs'⟩ a := rfl
    dsimp only
    rw [hv]
    split
    · exact ⟨rfl, fun _ => ⟨rfl, rfl⟩, fun _ => ⟨by show at' + 1 ≤ _; omega, fun h => (by cases h)⟩, fun h => (by cases h), rfl, fun _ => rfl, fun h => (by cases h), rfl, rfl, rfl⟩
    · exact ⟨rfl, fun h => (by cases h), fun h => (by cases h), fun _ => ⟨rfl, rfl⟩, rfl, fun h => absurd rfl h, fun _ => rfl, rfl, rfl, rfl⟩
  · show Lk l.length (Rn.acc _ _ _ _ _) (Dn.acc _ _ _ _)
    unfold Rn.acc Dn.acc
    have hv : (Rn.val ⟨at' + 1, c', nilW, 0, word', guest', flt', vs'⟩ a) = Dn.val ⟨c', at' + 1, false, w', false, flt', word', guest', vs'⟩ a := rfl
    dsimp only
    rw [hv]
    split
    · exact ⟨rfl, fun _ => ⟨rfl, rfl⟩, fun _ => ⟨by show at' + 1 ≤ _; omega, fun h => (by cases h)⟩, fun h => (by cases h), rfl, fun _ => by (have ha := acq_id (k := 11) (by simp) hrg; simp [Dn.wait, Rn.wait, wantD, ha]), fun h => (by cases h), rfl, rfl, rfl⟩
    · exact ⟨rfl, fun h => (by cases h), fun h => (by cases h), fun _ => ⟨rfl, rfl⟩, rfl, fun h => absurd rfl h, fun _ => rfl, rfl, rfl, rfl⟩
  · show Lk l.length (Rn.acc _ _ _ _ _) (Dn.acc _ _ _ _)
    unfold Rn.acc Dn.acc
    have hv : (Rn.val ⟨at' + 1, c', nilW, 0, word', guest', flt', vs'⟩ a) = Dn.val ⟨c', at' + 1, false, w', false, flt', word', guest', vs'⟩ a := rfl
    dsimp only
    rw [hv]
    split
    · exact ⟨rfl, fun _ => ⟨rfl, rfl⟩, fun _ => ⟨by show at' + 1 ≤ _; omega, fun h => (by cases h)⟩, fun h => (by cases h), rfl, fun _ => rfl, fun h => (by cases h), rfl, rfl, rfl⟩
    · exact ⟨rfl, fun h => (by cases h), fun h => (by cases h), fun _ => ⟨rfl, rfl⟩, rfl, fun h => absurd rfl h, fun _ => rfl, rfl, rfl, rfl⟩
  · exact ⟨rfl, fun _ => ⟨rfl, rfl⟩, fun _ => ⟨by show at' + 1 ≤ _; omega, fun h => (by cases h)⟩, fun h => (by cases h), rfl, fun _ => rfl, fun h => (by cases h), rfl, rfl, rfl⟩
  · exact ⟨rfl, fun _ => ⟨rfl, rfl⟩, fun _ => ⟨by show at' + 1 ≤ _; omega, fun _ => by show at' + 1 < _; have hz : ¬ at' + 1 = l.length := (fun e => by (have := hlast.2 e; rw [hp14_128] at this; cases this)); omega⟩, fun h => (by cases h), rfl, fun h => absurd rfl h, fun _ => rfl, rfl, rfl, rfl⟩
  · show Lk l.length (if (Rn.val _ _ != 0) = true then _ else _) (if (Dn.val _ _ != 0) = true then _ else _)
    have hv : (Rn.val ⟨at' + 1, c', nilW, 0, word', guest', flt', vs'⟩ a) = Dn.val ⟨c', at' + 1, false, w', false, flt', word', guest', vs'⟩ a := rfl
    dsimp only
    rw [hv]
    split
    · exact ⟨rfl, fun h => (by cases h), fun h => (by cases h), fun _ => ⟨rfl, rfl⟩, rfl, fun h => absurd rfl h, fun _ => rfl, rfl, rfl, rfl⟩
    · exact ⟨rfl, fun _ => ⟨rfl, rfl⟩, fun _ => ⟨by show at' + 1 ≤ _; omega, fun _ => by show at' + 1 < _; have hz : ¬ at' + 1 = l.length := (fun e => by (have := hlast.2 e; rw [hp15_128] at this; cases this)); omega⟩, fun h => (by cases h), rfl, fun h => absurd rfl h, fun _ => rfl, rfl, rfl, rfl⟩
  · exact ⟨rfl, fun h => (by cases h), fun h => (by cases h), fun _ => ⟨rfl, rfl⟩, rfl, fun h => absurd rfl h, fun _ => rfl, rfl, rfl, rfl⟩
  · exact ⟨rfl, fun h => (by cases h), fun h => (by cases h), fun _ => ⟨rfl, rfl⟩, rfl, fun h => absurd rfl h, fun _ => rfl, rfl, rfl, rfl⟩
  · exact ⟨rfl, fun h => (by cases h), fun h => (by cases h), fun _ => ⟨rfl, rfl⟩, rfl, fun h => absurd rfl h, fun _ => rfl, rfl, rfl, rfl⟩
theorem dOne_el (el : Int) (E : Dn) (o : Opr) : (dOne el E o).c.el = E.c.el := by
  unfold dOne
  split <;> (try rfl)
  · unfold Dn.setSP; split <;> rfl
  · unfold Dn.setF; split; rfl; split; rfl; split <;> rfl
  · split <;> rfl
  · unfold Dn.acc; split <;> rfl
theorem lk_run {l : List Opr} (el : Int) (fits : ∀ k, k < l.length → OpFit l (opAt l k)) (last : ∀ k, k < l.length → (hasP (opAt l k).kind 128 = true ↔ k + 1 = l.length)) : ∀ (f : Nat) (S : Rn) (D : Dn), Lk l.length S D → D.c.el = el → Lk l.length (runN l f S) (dRun el l f D) ∧ (dRun el l f D).c.el = el
  | 0, S, D, h, he => ⟨h, he⟩
  | f + 1, S, D, h, he => by
    unfold runN dRun
    by_cases hl : D.left = false
    · by_cases hg : S.go = 0
      · have hn := (h.inn hl).2 hg
        have hwt : D.waits = false := by rw [h.waits, hg]; rfl
        rw [if_pos ⟨hg, hn⟩, if_pos ⟨hl, hwt⟩]
        have := lk_step h hl hg (fits _ hn) (last _ hn)
        rw [he] at this
        refine lk_run el fits last f _ _ this ?_
        unfold dStep
        rw [dOne_el]; exact he
      · have hwt : D.waits = true := by rw [h.waits]; simp [hg]
        rw [if_neg (fun h => hg h.1), if_neg (fun h => by rw [hwt] at h; cases h.2)]
        exact ⟨h, he⟩
    · have hl' : D.left = true := by simpa using hl
      obtain ⟨h1, h2⟩ := h.out hl'
      rw [if_neg (fun h => by omega), if_neg (fun h => hl h.1)]
      exact ⟨h, he⟩
theorem lk_next {l : List Opr} (el : Int) (fits : ∀ k, k < l.length → OpFit l (opAt l k)) (last : ∀ k, k < l.length → (hasP (opAt l k).kind 128 = true ↔ k + 1 = l.length)) {S : Rn} {D : Dn} (h : Lk l.length S D) (he : D.c.el = el) : Lk l.length (nextV l S) (dNext el l D) ∧ (dNext el l D).c.el = el := lk_run el fits last _ _ _ h he
theorem lk_outW {n : Nat} {S : Rn} {D : Dn} (h : Lk n S D) : outW D = S.w := by
  unfold outW
  by_cases hg : S.go = 0
  · have : D.waits = false := by rw [h.waits, hg]; rfl
    rw [if_neg (by rw [this]; decide), h.nw hg]
  · have : D.waits = true := by rw [h.waits]; simp [hg]
    rw [if_pos this, h.w hg]
/-- What a run waits for is the operation that it has passed. -/
structure WOf (l : List Opr) (S : Rn) : Prop where
  pos : S.go ≠ 0 → 1 ≤ S.next ∧ S.next ≤ l.length ∧ (hasP (opAt l (S.next - 1)).kind 128 = false)
  g1 : S.go = 1 → (opAt l (S.next - 1)).kind = 9 ∨ (opAt l (S.next - 1)).kind = 11
  g2 : S.go = 2 → (opAt l (S.next - 1)).kind = 10
  g3 : S.go = 3 → (opAt l (S.next - 1)).kind = 12
  g4 : S.go ≠ 0 → S.go ≠ 1 → S.go ≠ 2 → S.go ≠ 3 → (opAt l (S.next - 1)).kind = 13
  le : S.go ≤ 4
theorem lk_take {l : List Opr} {S : Rn} {D : Dn} (h : Lk l.length S D) (W : WOf l S) (last : ∀ k, k < l.length → (hasP (opAt l k).kind 128 = true ↔ k + 1 = l.length)) (hg : S.go ≠ 0) (t : Gt) : Lk l.length (takeV l.length S t) (dTake l D t) := by
  have hl : D.left = false := by
    cases hh : D.left with
    | false => rfl
    | true => exact absurd (h.out hh).2 hg
  obtain ⟨q1, q2⟩ := h.run hl
  obtain ⟨p1, p2, p3⟩ := W.pos hg
  have p4 : S.next < l.length := by
    have := mt (last (S.next - 1) (by omega)).2 (by rw [p3]; decide)
    omega
  have hw : D.waits = true := by rw [h.waits]; simp [hg]
  obtain ⟨hc, _, _, _, _, _, _, hf, hgu, hwd⟩ := h
  unfold dTake
  rw [if_neg (by rw [hw]; decide), q1]
  have c1 := W.g1; have c2 := W.g2; have c3 := W.g3; have c4 := W.g4; have c5 := W.le
  clear W
  generalize (opAt l (S.next - 1)).kind = kd at *
  obtain ⟨next, c, w, go, word, guest, flt, vs⟩ := S
  obtain ⟨c', at', wts, w', left, flt', word', guest', vs'⟩ := D
  dsimp only at hl hg q1 q2 p1 p2 p4 hc hw hf hgu hwd c1 c2 c3 c4 c5 ⊢
  subst hl; subst q1; subst q2; subst hc; subst hf; subst hgu; subst hwd; subst hw
  have go4 : go = 1 ∨ go = 2 ∨ go = 3 ∨ go = 4 := by omega
  rcases go4 with rfl | rfl | rfl | rfl
  · have hk := c1 rfl
    have ha : accB kd = true := by rcases hk with rfl | rfl <;> rfl
    rw [if_neg (by rw [ha]; decide)]
    show Lk l.length (Rn.told _ _ t) _
    unfold Rn.told
    by_cases h0 : t.fault = 0
    · rw [if_pos h0, if_neg (by simp [h0]), if_neg (by omega), if_neg (by omega)]
      exact ⟨rfl, fun _ => ⟨rfl, rfl⟩, fun _ => ⟨p2, fun _ => p4⟩, fun h => (by cases h), rfl, fun h => absurd rfl h, fun _ => rfl, rfl, rfl, rfl⟩
    · rw [if_neg h0, if_pos h0]
      exact ⟨rfl, fun h => (by cases h), fun h => (by cases h), fun _ => ⟨rfl, rfl⟩, rfl, fun h => absurd rfl h, fun _ => rfl, rfl, rfl, rfl⟩
  · have hk := c2 rfl
    subst hk
    rw [if_neg (by decide)]
    show Lk l.length (Rn.told _ _ t) _
    unfold Rn.told
    by_cases h0 : t.fault = 0
    · rw [if_pos h0, if_neg (by simp [h0]), if_neg (by decide), if_pos rfl]
      exact ⟨rfl, fun _ => ⟨rfl, rfl⟩, fun _ => ⟨p2, fun _ => p4⟩, fun h => (by cases h), rfl, fun h => absurd rfl h, fun _ => rfl, rfl, rfl, rfl⟩
    · rw [if_neg h0, if_pos h0]
      exact ⟨rfl, fun h => (by cases h), fun h => (by cases h), fun _ => ⟨rfl, rfl⟩, rfl, fun h => absurd rfl h, fun _ => rfl, rfl, rfl, rfl⟩
  · have hk := c3 rfl
    subst hk
    rw [if_neg (by decide)]
    show Lk l.length (Rn.told _ _ t) _
    unfold Rn.told
    by_cases h0 : t.fault = 0
    · rw [if_pos h0, if_neg (by simp [h0]), if_pos rfl]
      exact ⟨rfl, fun _ => ⟨rfl, rfl⟩, fun _ => ⟨p2, fun _ => p4⟩, fun h => (by cases h), rfl, fun h => absurd rfl h, fun _ => rfl, rfl, rfl, rfl⟩
    · rw [if_neg h0, if_pos h0]
      exact ⟨rfl, fun h => (by cases h), fun h => (by cases h), fun _ => ⟨rfl, rfl⟩, rfl, fun h => absurd rfl h, fun _ => rfl, rfl, rfl, rfl⟩
  · have hk := c4 (by decide) (by decide) (by decide) (by decide)
    subst hk
    rw [if_pos (by decide)]
    exact ⟨rfl, fun _ => ⟨rfl, rfl⟩, fun _ => ⟨p2, fun _ => p4⟩, fun h => (by cases h), rfl, fun h => absurd rfl h, fun _ => rfl, rfl, rfl, rfl⟩
end Go.Proofs.YtccmncecpmemaaaGreatDoor
