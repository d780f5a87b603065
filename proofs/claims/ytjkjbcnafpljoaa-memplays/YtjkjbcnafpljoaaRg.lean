/- The oldest store let go of a buffer. -/
import Derived.Test.YtjkjbcnafpljoaaRf
namespace Go.Proofs.Ytjkjbcnafpljoaa
open Go.RowKit
set_option linter.unusedVariables false
set_option linter.unusedSimpArgs false

/-- copy, of elements of whatever size. -/
theorem run_copy_wide (w : World) (dT sT ty elem : TypeId) (size m g o dLen dCap : Nat) (a : Addr) (sLen sCap : Nat) (cur : Array Value) (t : TypeId) (cs : List Value)
    (hu : Try.prog.underlying dT = some (.slice elem)) (hs : (Try.prog.info? elem).map (·.size) = some size)
    (hg : w.heap[g]? = some (.cells cur t (0, 0))) (hm : Nat.min sLen dLen = m) (hn : cs.length = m * size)
    (hsrc : ∀ j v, cs[j]? = some v → w.cell? (a.add j) = some v) (hfit : o + cs.length ≤ cur.size) (h1 : ∀ v ∈ cs, v.oneCell' = true) :
    (Builtin.copy_ #[dT, sT] ty #[.slice (some ⟨g, o, none⟩) dLen dCap, .slice (some a) sLen sCap]).run Try.prog w =
      .ok (goInt m) (w.setRow g (cur.toList.take o ++ cs ++ cur.toList.drop (o + cs.length)).toArray) := by
  have hl := run_loadCells_list (P := Try.prog) w a cs hsrc
  have hst := run_storeCells_at Try.prog g o t cs 0 cur w hg (by simpa using hfit) h1
  cases hq : Try.prog.info? elem with
  | none => simp [hq] at hs
  | some i =>
    have hi : i.size = size := by simpa [hq] using hs
    rw [hn] at hl
    simp only [Nat.add_zero] at hst
    simp [Builtin.copy_, run_underlying hu, Builtin.lenOf, Builtin.firstCells, sizeOf, typeInfo, hq, hi, hm, hl, hst]
theorem release_none (g : Nat) (S : Sta) (L : Lay) (k : Nat) (u : Value) (s : Lt) (w : World) (H : MemAt g S L w) (hu : L.hv[k]? = some u) (hl : S.bufs[k]? = some []) : Calls Try.prog 52 #[ptr L.gb (k * 2), s.val] w fun e w' => e = .returned (.tuple #[nilL.val, vI 31]) ∧ Turn g L S w w' := by
  obtain ⟨ao, cap, e, _, _⟩ := own_len (H.held k u [] hu hl)
  have hf : ∀ k, Foot g L k → k < w.heap.size := fun k hk => H.lt hk
  go_enter Try.func52, Try.ntmps52
  go_upto_region 1 with fail
  generalize h1 : World.alloc (World.alloc w _) _ = w1
  have B : BP g S L w.heap.size (w.heap.size + 1) s nilL w w1 := by rw [← h1]; exact bp_start H s
  clear h1
  generalize w.heap.size = b at B ⊢
  obtain ⟨c1, c2⟩ := B.mem.cb hu
  rw [e, List.length_nil] at c2
  clear e H
  go_wp2_with ((with_reducible refine wpList_lay B hf rfl _ _ rfl rfl _ _ _ rfl ?_); intro w9 B; simp only [Act.put])
  exact bodyPost_ret (back_le rfl _ _ _ _ _ _ rfl B.res) rfl ⟨rfl, B.turn⟩
theorem chn_copy {o : Oper} {a : Act} {w w2 : World} {C : World → Prop} {v : Value} (d x : Operand) (ho : o.op = .call { callee := .builtin .copy, args := #[d, x], argTypes := #[52, 52] }) (dv xv : Value) (hd : a.eval d = dv) (hx : a.eval x = xv) (hr : (Builtin.copy_ #[52, 52] o.type #[dv, xv]).run Try.prog w = .ok v w2) (hC : C w2) :
    Chn.upon Try.prog (fun u w' => u = v ∧ C w') w ((execOp a.eval o).run Try.prog w) := by
  unfold execOp
  simp only [ho, resolve, invoke, builtin, Sem.run_bind, Sem.run_pure, Result.andThen_ok, List.map_toArray, List.map_cons, List.map_nil, hd, hx, hr]
  exact ⟨rfl, hC⟩
theorem size59 : (Try.prog.info? 59).map (·.size) = some 3 := by kernel_rfl
theorem run_tail (w : World) (q n cap : Nat) (hc : n + 1 ≤ cap) : (Instr.slice 52 (.slice (some ⟨q, 0, none⟩) (n + 1) cap) (some (vI 1)) none none).run Try.prog w = .ok (.slice (some ⟨q, (if cap = 1 then 0 else 3), none⟩) n (cap - 1)) w := by
  obtain ⟨i, h1, h2, h3, h4⟩ := inf59
  by_cases h : cap = 1
  · obtain rfl : n = 0 := by omega
    subst h
    simp [Instr.slice, run_underlying Try.underlying52, Instr.sliceBounds, Instr.sliceBound, asIntOf, sizeOf, typeInfo, h1, h3]
  · have h5 : (1 : Int) ≤ (n : Int) + 1 := by omega
    simp [Instr.slice, run_underlying Try.underlying52, Instr.sliceBounds, Instr.sliceBound, asIntOf, sizeOf, typeInfo, h1, h3, h, h5, add_zero_addr]
theorem run_head (w : World) (q n cap : Nat) (hc : n + 1 ≤ cap) : (Instr.slice 52 (.slice (some ⟨q, 0, none⟩) (n + 1) cap) none (some (vI n)) none).run Try.prog w = .ok (.slice (some ⟨q, 0, none⟩) n cap) w := by
  obtain ⟨i, h1, h2, h3, h4⟩ := inf59
  have h : ¬ cap = 0 := by omega
  have h5 : ¬ cap < n := by omega
  simp [Instr.slice, run_underlying Try.underlying52, Instr.sliceBounds, Instr.sliceBound, asIntOf, sizeOf, typeInfo, h1, h3, h, h5, add_zero_addr]
theorem run_move (w : World) (ty : TypeId) (q cap : Nat) (cur : Array Value) (s0 : Lt) (rest : List Lt) (hq : w.heap[q]? = some (.cells cur 59 (0, 0))) (hc : rest.length + 1 ≤ cap) (hcs : cur.size = cap * 3) (htk : cur.toList.take ((rest.length + 1) * 3) = flatL (s0 :: rest)) :
    (Builtin.copy_ #[52, 52] ty #[.slice (some ⟨q, 0, none⟩) (rest.length + 1) cap, .slice (some ⟨q, (if cap = 1 then 0 else 3), none⟩) rest.length (cap - 1)]).run Try.prog w = .ok (vI rest.length) (w.setRow q (flatL rest ++ cur.toList.drop (rest.length * 3)).toArray) := by
  have h := run_copy_wide w 52 52 ty 59 3 rest.length q 0 (rest.length + 1) cap ⟨q, (if cap = 1 then 0 else 3), none⟩ rest.length (cap - 1) cur 59 (flatL rest) Try.underlying52 size59 hq (Nat.min_eq_left (by omega)) (len_flatL rest) (by
    intro j v hv
    have hj : j < rest.length * 3 := by rw [← len_flatL]; exact (List.getElem?_eq_some_iff.1 hv).1
    rw [if_neg (by omega), add_zero_addr, cell_of_row _ _ _ _ _ _ hq]
    have e : (flatL (s0 :: rest))[3 + j]? = some v := by
      show ([vU s0.a, vU s0.v, vI s0.t] ++ flatL rest)[3 + j]? = _
      rw [List.getElem?_append_right (by simp)]
      simpa using hv
    rw [← htk, List.getElem?_take, if_pos (by omega)] at e
    simpa using e) (by rw [len_flatL]; omega) (one_flatL _)
  rw [h]
  simp only [List.take_zero, List.nil_append, Nat.zero_add, len_flatL]
  rfl
theorem own_moved (w : World) (q cap : Nat) (cur : Array Value) (rest : List Lt) (hq : w.heap[q]? = some (.cells cur 59 (0, 0))) (hc : rest.length + 1 ≤ cap) (hc2 : cap ≤ maxLen) (hcs : cur.size = cap * 3) :
    (w.setRow q (flatL rest ++ cur.toList.drop (rest.length * 3)).toArray).ownsRow 0 59 3 (.slice (some ⟨q, 0, none⟩) rest.length cap) rest.length (flatL rest) := by
  refine ⟨len_flatL rest, .inr ⟨q, cap, _, rfl, Nat.zero_le _, setRow_heap _ _ _ _ _ _ hq, by omega, hc2, ?_, ?_⟩⟩
  · simp only [List.size_toArray, List.length_append, List.length_drop, Array.length_toList, len_flatL, hcs]
    omega
  · simp only
    rw [← len_flatL rest]
    exact List.take_left
/-- The phases of letting the oldest one go. -/
def RC (g : Nat) (S : Sta) (L : Lay) (b d o : Nat) (s s0 : Lt) (rest : List Lt) (k q : Nat) (cur : Array Value) (w : World) : Nat → World → Prop
  | 0, w' => BP g S L b d s nilL w w' ∧ w'.heap[o]? = some (.cells s0.cells 59) ∧ w'.heap[q]? = some (.cells cur 59)
  | 1, w' => ∃ w1, BP g S L b d s nilL w w1 ∧ w1.heap[o]? = some (.cells s0.cells 59) ∧ w1.heap[q]? = some (.cells cur 59) ∧ w' = w1.setRow q (flatL rest ++ cur.toList.drop (rest.length * 3)).toArray
  | 2, w' => ∃ w1, BP g S L b d s nilL w w1 ∧ w1.heap[o]? = some (.cells s0.cells 59) ∧ Turn g L { S with bufs := S.bufs.set k rest } w1 w'
  | _, _ => False
theorem rc_reads {g : Nat} {S : Sta} {L : Lay} {b d o : Nat} {s s0 : Lt} {rest : List Lt} {k q : Nat} {cur : Array Value} {w w' : World} {u : Value} (hu : L.hv[k]? = some u) {j : Nat} (hj : j ≤ 1) (h : RC g S L b d o s s0 rest k q cur w j w') : w'.cell? ⟨L.gb, k * 2 + 1, none⟩ = some u := by
  match j, hj, h with
  | 0, _, h => exact (h.1.mem.cb hu).2
  | 1, _, ⟨w1, B, _, hq, e⟩ =>
    have hne : L.gb ≠ q := ne_of_type B.mem.bufs hq (by decide)
    rw [e, cell_setRow_other _ _ _ _ hne]
    exact (B.mem.cb hu).2
set_option maxRecDepth 4000 in
theorem release_ok (g : Nat) (S : Sta) (L : Lay) (k : Nat) (u : Value) (s s0 : Lt) (rest : List Lt) (w : World) (H : MemAt g S L w) (hu : L.hv[k]? = some u) (hl : S.bufs[k]? = some (s0 :: rest)) : Calls Try.prog 52 #[ptr L.gb (k * 2), s.val] w fun e w' => e = .returned (.tuple #[s0.val, vI 0]) ∧ Turn g L { S with bufs := S.bufs.set k rest } w w' := by
  have hown := H.held k u _ hu hl
  obtain ⟨q, cap, cur, e, hq, hc1, hc2, hcs, htk⟩ : ∃ q cap cur, u = .slice (some ⟨q, 0, none⟩) (rest.length + 1) cap ∧ w.heap[q]? = some (.cells cur 59 (0, 0)) ∧ rest.length + 1 ≤ cap ∧ cap ≤ maxLen ∧ cur.size = cap * 3 ∧ cur.toList.take ((rest.length + 1) * 3) = flatL (s0 :: rest) := by
    rcases hown.2 with ⟨_, h0⟩ | ⟨q, cap, cur, h0, _, h2, h3, h4, h5, h6⟩
    · simp at h0
    · exact ⟨q, cap, cur, h0, h2, h3, h4, h5, h6⟩
  have hf : ∀ k, Foot g L k → k < w.heap.size := fun k hk => H.lt hk
  have hqw : q < w.heap.size := lt_of_some hq
  go_enter Try.func52, Try.ntmps52
  go_upto_region 1 with fail
  generalize h1 : World.alloc (World.alloc w _) _ = w1
  have B : BP g S L w.heap.size (w.heap.size + 1) s nilL w w1 := by rw [← h1]; exact bp_start H s
  have hsz : w1.heap.size = w.heap.size + 2 := by rw [← h1]; simp
  have hq1 : w1.heap[q]? = some (.cells cur 59) := by
    rw [← h1, Below.heap_alloc _ _ _ (by simp; omega), Below.heap_alloc _ _ _ hqw]; exact hq
  clear h1
  generalize hb : w.heap.size = b at B hsz ⊢
  obtain ⟨c1, c2⟩ := B.mem.cb hu
  rw [e] at c2
  have hcell : ∀ j, j < 3 → w1.cell? ⟨q, j, none⟩ = (flatL (s0 :: rest))[j]? := by
    intro j hj
    rw [cell_of_row _ _ _ _ _ _ hq1, ← htk, List.getElem?_take, if_pos (by omega)]
    simp
  have z0 : w1.cell? ⟨q, 0, none⟩ = some (vU s0.a) := hcell 0 (by decide)
  have z1 : w1.cell? ⟨q, 1, none⟩ = some (vU s0.v) := hcell 1 (by decide)
  have z2 : w1.cell? ⟨q, 2, none⟩ = some (vI s0.t) := hcell 2 (by decide)
  have hn0 : ¬ ((rest.length : Int) + 1 = 0) := by omega
  have hn1 : (0 : Int) < (rest.length : Int) + 1 := by omega
  clear H hcell
  go_upto_region 4 with fail
  have hC0 : RC g S L b (b + 1) (b + 2) s s0 rest k q cur w 0 { (w1.alloc (.cells s0.cells 59)) with drawn := (w1.alloc (.cells s0.cells 59)).drawn + 1 } := by
    refine ⟨(B.new _).drewN 1, ?_, ?_⟩
    · show (w1.alloc _).heap[b + 2]? = _
      rw [← hsz]; exact heap_alloc_new _ _
    · show (w1.alloc _).heap[q]? = _
      rw [Below.heap_alloc _ _ _ (by omega)]; exact hq1
  have hrd := fun (j : Nat) (hj : j ≤ 1) (w' : World) (h : RC g S L b (b + 1) (b + 2) s s0 rest k q cur w j w') => rc_reads hu hj h
  rw [e] at hrd
  have hst := fun (w' : World) => run_tail w' q rest.length cap hc1
  have hsh := fun (w' : World) => run_head w' q rest.length cap hc1
  refine Chn.wp_region_chainL (RC g S L b (b + 1) (b + 2) s s0 rest k q cur w) [14, 18] [2, 2, 2, 2, 1, 2, 2, 2, 1, 2, 2, 2, 1, 2, 2, 2, 2, 2, 2] [ptr L.gb (k * 2), ptr L.gb (k * 2), ptr L.gb (k * 2), ptr L.gb (k * 2 + 1), .slice (some ⟨q, 0, none⟩) (rest.length + 1) cap, ptr L.gb (k * 2), ptr L.gb (k * 2), ptr L.gb (k * 2 + 1), .slice (some ⟨q, 0, none⟩) (rest.length + 1) cap, ptr L.gb (k * 2), ptr L.gb (k * 2), ptr L.gb (k * 2 + 1), .slice (some ⟨q, 0, none⟩) (rest.length + 1) cap, .slice (some ⟨q, (if cap = 1 then 0 else 3), none⟩) rest.length (cap - 1), vI rest.length, .slice (some ⟨q, 0, none⟩) rest.length cap, ptr L.gb (k * 2), ptr L.gb (k * 2 + 1), undef] (by kernel_rfl) (by kernel_rfl) (by kernel_rfl) (by kernel_rfl) (by kernel_rfl) hC0 ?_
  clear hC0 c1 c2 z0 z1 z2
  iterate 4 (refine ⟨fun j w1 hj hC => by exact Chn.upon_pure hC (fun F hF => by (go_simp <;> exact hF)), ?_⟩; simp only [Act.put, List.setIfInBounds_toArray, List.set_cons_succ, List.set_cons_zero])
  refine ⟨fun j w1 hj hC => by have z := hrd j hj w1 hC; exact Chn.upon_pure hC (fun F hF => by (go_simp <;> exact hF)), ?_⟩
  simp only [Act.put, List.setIfInBounds_toArray, List.set_cons_succ, List.set_cons_zero]
  iterate 3 (refine ⟨fun j w1 hj hC => by exact Chn.upon_pure hC (fun F hF => by (go_simp <;> exact hF)), ?_⟩; simp only [Act.put, List.setIfInBounds_toArray, List.set_cons_succ, List.set_cons_zero])
  refine ⟨fun j w1 hj hC => by have z := hrd j hj w1 hC; exact Chn.upon_pure hC (fun F hF => by (go_simp <;> exact hF)), ?_⟩
  simp only [Act.put, List.setIfInBounds_toArray, List.set_cons_succ, List.set_cons_zero]
  iterate 3 (refine ⟨fun j w1 hj hC => by exact Chn.upon_pure hC (fun F hF => by (go_simp <;> exact hF)), ?_⟩; simp only [Act.put, List.setIfInBounds_toArray, List.set_cons_succ, List.set_cons_zero])
  refine ⟨fun j w1 hj hC => by have z := hrd j hj w1 hC; exact Chn.upon_pure hC (fun F hF => by (go_simp <;> exact hF)), ?_⟩
  simp only [Act.put, List.setIfInBounds_toArray, List.set_cons_succ, List.set_cons_zero]
  refine ⟨fun j w1 hj hC => by exact Chn.upon_pure hC (fun F hF => by (go_simp <;> exact hF)), ?_⟩
  simp only [Act.put, List.setIfInBounds_toArray, List.set_cons_succ, List.set_cons_zero]
  refine ⟨fun w1 hC => by
    obtain ⟨B0, ho, hq0⟩ := hC
    exact chn_copy _ _ rfl _ _ rfl rfl (run_move w1 _ q cap cur s0 rest hq0 hc1 hcs htk) ⟨w1, B0, ho, hq0, rfl⟩, ?_⟩
  simp only [Act.put, List.setIfInBounds_toArray, List.set_cons_succ, List.set_cons_zero]
  iterate 3 (refine ⟨fun j w1 hj hC => by exact Chn.upon_pure hC (fun F hF => by (go_simp <;> exact hF)), ?_⟩; simp only [Act.put, List.setIfInBounds_toArray, List.set_cons_succ, List.set_cons_zero])
  refine ⟨fun w1 hC => by
    have z := hrd 1 (by decide) w1 hC
    obtain ⟨w0, B0, ho, hq0, e0⟩ := hC
    have hgb : L.gb ≠ q := ne_of_type B0.mem.bufs hq0 (by decide)
    have fz : w1.frozen? ⟨L.gb, k * 2 + 1, none⟩ = false := by
      rw [e0, World.frozen?_of_block (w := w0) (setRow_other _ _ _ _ hgb)]
      exact frozen_of_row _ _ _ _ _ B0.mem.bufs
    have T := B0.mem.holdB hu (w2 := w1) (q := q) (cap := cap) (n := rest.length) (l := rest) (by rw [e0]; exact own_moved w0 q cap cur rest hq0 hc1 hc2 hcs) (by
      rw [e0, e]
      exact ⟨rfl, rfl, rfl, by simp, fun k _ hk => setRow_other _ _ _ _ (fun e => hk (by rw [e]; rfl))⟩) (.inl (by rw [e]; rfl))
    exact chn_store 52 _ _ rfl L.gb (k * 2 + 1) rfl _ rfl (run_cell w1 52 L.gb (k * 2 + 1) _ _ info52 rfl rfl z fz) ⟨w0, B0, ho, T⟩, ?_⟩
  simp only [Act.put]
  intro w5 hC
  obtain ⟨w0, B0, ho, T⟩ := hC
  obtain ⟨e1, e2⟩ := B0.then T hf
  have e3 : w5.heap[b + 2]? = some (.cells s0.cells 59) := by
    rw [T.other (lt_of_some ho) (fun h => by have := hf _ h; omega)]; exact ho
  have hE := B0.end T hf s0
  have z0 : w5.cell? ⟨b + 2, 0, none⟩ = some (vU s0.a) := by rw [cell_of_row _ _ _ _ _ _ e3]; rfl
  have z1 : w5.cell? ⟨b + 2, 1, none⟩ = some (vU s0.v) := by rw [cell_of_row _ _ _ _ _ _ e3]; rfl
  have z2 : w5.cell? ⟨b + 2, 2, none⟩ = some (vI s0.t) := by rw [cell_of_row _ _ _ _ _ _ e3]; rfl
  go_wp2_with ((with_reducible refine wpList_put59 e2 rfl _ _ rfl rfl _ _ _ rfl ?_); simp only [Act.put])
  all_goals exact bodyPost_ret (back_le rfl _ _ _ _ _ _ rfl (setRow_heap _ _ _ _ _ _ e2)) rfl ⟨rfl, hE⟩
end Go.Proofs.Ytjkjbcnafpljoaa
