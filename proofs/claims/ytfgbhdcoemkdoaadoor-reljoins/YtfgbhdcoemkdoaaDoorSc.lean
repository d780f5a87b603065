/- The queue: Push; container/heap's up, Push. -/
import Derived.Test.YtfgbhdcoemkdoaaDoorSb
namespace Go.Proofs.YtfgbhdcoemkdoaaDoor
open Go.RowKit
set_option linter.unusedVariables false
set_option linter.unusedSimpArgs false
set_option maxRecDepth 8000

open Hq
theorem infI : ∃ i, Tryd.prog.info? 3 = some i ∧ i.zero = some (vI 0) ∧ i.size = 1 ∧ i.bytes = 8 := by
  have h : (Tryd.prog.info? 3).map (fun i => (i.zero, i.size, i.bytes)) = some (some (vI 0), 1, 8) := by kernel_rfl
  cases hq : Tryd.prog.info? 3 with
  | none => rw [hq] at h; cases h
  | some i =>
    rw [hq] at h
    simp only [Option.map_some, Option.some.injEq, Prod.mk.injEq] at h
    exact ⟨i, rfl, h.1, h.2.1, h.2.2⟩
theorem flN_append (l m : List Nat) : flN (l ++ m) = flN l ++ flN m := by simp [flN]
theorem one_flN (l : List Nat) : ∀ u ∈ flN l, u.oneCell' = true := fun u hu => by
  obtain ⟨a, _, rfl⟩ := List.mem_map.1 hu; rfl
theorem chn_app {o : Oper} {a : Act} {w : World} {F : Value → World → Prop} (T : TypeId) (hT : Tryd.prog.underlying T = some (.slice 3)) (s x : Operand) (ho : o.op = .call { callee := .builtin .append, args := #[s, x], argTypes := #[T, T] }) (base : Nat) (v : Value) (l : List Nat) (hs : a.eval s = v) (hown : w.ownsRow base 3 1 v l.length (flN l)) (hbase : base ≤ w.heap.size)
    (b c z : Nat) (hx : a.eval x = .slice (some ⟨b, 0, none⟩) 1 c) (hc : w.heap[b]? = some (.cells #[vI z] 3)) (hl : l.length < 1000000000)
    (h : ∀ g cap w', w'.ownsRow base 3 1 (.slice (some ⟨g, 0, none⟩) (l.length + 1) cap) (l ++ [z]).length (flN (l ++ [z])) → w.grownBy w' v.ownBlock → (v.ownBlock = some g ∨ g = w.heap.size) → F (.slice (some ⟨g, 0, none⟩) (l.length + 1) cap) w') :
    Chn.upon Tryd.prog F w ((execOp a.eval o).run Tryd.prog w) := by
  obtain ⟨i, h1, h2, h3, h4⟩ := infI
  obtain ⟨g, cap, w', hr, q1, q2, q3, q4⟩ := run_append_lies (P := Tryd.prog) w T o.type base 3 i (vI 0) 1 8 hT h1 h2 h3 h4 rfl (by decide) v l.length (flN l) hown ⟨b, 0, none⟩ 1 c (flN [z]) rfl (by
    intro j u hj
    have e : (⟨b, 0, none⟩ : Addr).add j = ⟨b, j, none⟩ := by rw [Addr.add_mid, Nat.zero_add]
    rw [e, cell_of_row _ _ _ _ _ _ hc]
    simpa using hj) (one_flN _) (by decide) (by simp only [maxLen]; omega) (by omega) hbase w.heap.size rfl
  unfold execOp
  simp only [ho, resolve, invoke, builtin, Sem.run_bind, Sem.run_pure, Result.andThen_ok, List.map_toArray, List.map_cons, List.map_nil, hs, hx, hr]
  refine h g cap w' ?_ q2 q3
  rw [List.length_append, flN_append]
  exact q1
theorem chn_build {o : Oper} {a : Act} {w : World} {C : World → Prop} {N : Nat} (T : TypeId) (hT : Tryd.prog.underlying T = some (.slice 3)) (hN : w.heap.size = N) (x : Operand) (ho : o.op = .buildSlice T 1 #[(0, x)]) (s : Nat) (hx : a.eval x = vI s) (hC : C (w.alloc (.cells #[vI s] 3))) :
    Chn.upon Tryd.prog (fun v w' => v = .slice (some ⟨N, 0, none⟩) 1 1 ∧ C w') w ((execOp a.eval o).run Tryd.prog w) := by
  obtain ⟨i, h1, h2, h3, h4⟩ := infI
  have hf : Instr.fill (fun j => some (j * i.size, i.size)) ((Array.range (1 * i.size)).map ((vI 0).cells[· % (vI 0).cells.size]!)) (#[(0, vI s)] : Array (Nat × Value)).toList = some #[vI s] := by
    rw [h3]; kernel_rfl
  have hr := run_buildSlice (P := Tryd.prog) w T 3 1 #[(0, vI s)] #[vI s] i (vI 0) hT h1 h2 (by rw [h3]; decide) (by rw [h3]; decide) hf
  unfold execOp
  simp only [ho, Sem.run_bind, List.map_toArray, List.map_cons, List.map_nil, hx, hr, Result.andThen_ok]
  exact ⟨by rw [hN], hC⟩
/-- What the queue's calls touch. -/
def QF (q : Nat) (v : Value) (k : Nat) : Prop := k = q ∨ v.ownBlock = some k
def PuC (base q : Nat) (v : Value) (l : List Nat) (t : Nat) (w : World) (N : Nat) : Nat → Option Value → World → Prop
  | 0, none, w' => QAt base q v l w' ∧ Goes (QF q v) w w' ∧ w'.heap.size = N
  | 1, none, w' => QAt base q v l w' ∧ Goes (QF q v) w w' ∧ w'.heap[N]? = some (.cells #[vI t] 3)
  | 2, some u, w' => ∃ w0 g cap, u = .slice (some ⟨g, 0, none⟩) (l.length + 1) cap ∧ QAt base q v l w0 ∧ Goes (QF q v) w w0 ∧ w'.ownsRow base 3 1 u (l ++ [t]).length (flN (l ++ [t])) ∧ w0.grownBy w' v.ownBlock ∧ (v.ownBlock = some g ∨ g = w0.heap.size)
  | 3, some u, w' => ∃ g, QAt base q u (l ++ [t]) w' ∧ Goes (QF q v) w w' ∧ u.ownBlock = some g ∧ (v.ownBlock = some g ∨ w.heap.size ≤ g)
  | _, _, _ => False
theorem qpush_c {base q : Nat} {v : Value} {l : List Nat} {w : World} (H : QAt base q v l w) (t : Nat) (hl : l.length < 1000) (hbase : base ≤ w.heap.size) : Calls Tryd.prog 84 #[ptr q 0, .iface 3 (vI t)] w fun e w' => e = .returned (.tuple #[]) ∧ ∃ u g, QAt base q u (l ++ [t]) w' ∧ Goes (QF q v) w w' ∧ u.ownBlock = some g ∧ (v.ownBlock = some g ∨ w.heap.size ≤ g) := by
  have hst : PuC base q v l t w w.heap.size 0 none { w with drawn := w.drawn + 1 } := ⟨H.grow (Rel.below_draws (n := 1) (Below.refl _ _)), goes_of_below (Rel.below_draws (n := 1) (Below.refl _ _)), rfl⟩
  have hrd : ∀ (j : Nat) (ou : Option Value) (hj : j ≤ 1) (w' : World) (h : PuC base q v l t w w.heap.size j ou w'), w'.cell? ⟨q, 0, none⟩ = some v := by
    intro j ou hj w' h
    match j, ou, h with
    | 0, none, h => exact h.1.c0
    | 1, none, h => exact h.1.c0
  go_enter Tryd.func84, Tryd.ntmps84
  refine Chn.wp_region_chainX (PuC base q v l t w w.heap.size) [6, 7, 9] [3, 3, 3, 1, 3, 3, 3, 3, 3, 3] 7 (fun u => [ptr q 0, ptr q 0, ptr q 0, v, .iface 3 (vI t), vI t, .slice (some ⟨w.heap.size, 0, none⟩) 1 1, u, ptr q 0, undef]) (by kernel_rfl) (by kernel_rfl) (by kernel_rfl) (by kernel_rfl) (by kernel_rfl) (by kernel_rfl) (fun v q hq => by match q, hq with | 0, _ => rfl | 1, _ => rfl | 2, _ => rfl | 3, _ => rfl | 4, _ => rfl | 5, _ => rfl | 6, _ => rfl | 8, _ => rfl | 9, _ => rfl | n + 10, _ => rfl) (fun v => rfl) (by decide) hst ?_
  intro u
  iterate 3 (refine ⟨fun j ou w1 hj hn hC => by exact Chn.upon_pure hC (fun F hF => by (go_simp <;> exact hF)), ?_⟩; simp only [Act.put, List.setIfInBounds_toArray, List.set_cons_succ, List.set_cons_zero])
  refine ⟨fun j ou w1 hj hn hC => by have z := hrd j ou hj w1 hC; exact Chn.upon_pure hC (fun F hF => by (go_simp <;> exact hF)), ?_⟩
  simp only [Act.put, List.setIfInBounds_toArray, List.set_cons_succ, List.set_cons_zero]
  iterate 2 (refine ⟨fun j ou w1 hj hn hC => by exact Chn.upon_pure hC (fun F hF => by (go_simp <;> exact hF)), ?_⟩; simp only [Act.put, List.setIfInBounds_toArray, List.set_cons_succ, List.set_cons_zero])
  refine ⟨fun ou w1 hn hC => by
    match ou, hC with
    | none, hC => exact chn_build 74 Tryd.underlying74 hC.2.2 (.tmp 9) rfl t rfl ⟨hC.1.grow (below_alloc _ _), hC.2.1.grow (below_alloc _ _), by rw [← hC.2.2]; exact World.alloc_heap_new _ _⟩, ?_⟩
  simp only [Act.put, List.setIfInBounds_toArray, List.set_cons_succ, List.set_cons_zero]
  refine ⟨fun w1 hC => by
    exact chn_app 74 Tryd.underlying74 _ _ rfl base v l rfl hC.1.row (Nat.le_trans hbase hC.2.1.size) w.heap.size 1 t rfl hC.2.2 (by omega) (fun g cap w2 q1 q2 q3 => ⟨w1, g, cap, rfl, hC.1, hC.2.1, q1, q2, q3⟩), ?_⟩
  simp only [Act.put, List.setIfInBounds_toArray, List.set_cons_succ, List.set_cons_zero]
  refine ⟨fun j ou w1 hj hn hC => by exact Chn.upon_pure hC (fun F hF => by (go_simp <;> exact hF)), ?_⟩
  simp only [Act.put, List.setIfInBounds_toArray, List.set_cons_succ, List.set_cons_zero]
  refine ⟨fun ou w1 hn hC => by
    obtain rfl := hn (by kernel_rfl)
    obtain ⟨w0, g, cap, rfl, Q0, G0, ho, hg, hq⟩ := hC
    have hqv : v.ownBlock ≠ some q := own_ne Q0.hd Q0.row (by decide)
    have hd1 : w1.heap[q]? = some (.cells #[v] 74) := (hg.block _ (lt_of_some Q0.hd) (fun e => hqv e.symm)).trans Q0.hd
    have G1 : Goes (QF q v) w w1 := G0.trans (goes_grown (F := fun k => v.ownBlock = some k) hg fun k hk => hk) fun _ _ e => .inr e
    refine chn_store 74 _ _ rfl q 0 rfl _ rfl (run_cell w1 74 q 0 _ v inf74 rfl rfl (by rw [cell_of_row _ _ _ _ _ _ hd1]; rfl) (frozen_of_row _ _ _ _ _ hd1)) ⟨g, ⟨?_, ?_, Q0.hq⟩, G1.trans (goes_setCell w1 (F := QF q v) (.inl rfl) _ _) (fun _ _ e => e), rfl, ?_⟩
    · exact heap_setCell_same w1 q 0 _ 74 _ hd1
    · exact own_of_block ho fun k hk => Below.heap_setCell _ _ _ _ (by rintro rfl; exact own_ne hd1 ho (by decide) hk)
    · rcases hq with e | e
      · exact .inl e
      · exact .inr (by rw [e]; exact G0.size), ?_⟩
  simp only [Act.put]
  intro w5 hC
  obtain ⟨g, hC⟩ := hC
  refine bodyPost_end (results_none rfl _ _ _) rfl ⟨rfl, u, g, hC⟩
theorem run_wrap (q : Nat) (n : String) (w : World) : (Builtin.ssaWrapNilChk_ #[73] 73 #[ptr q 0, strVal "", strVal n]).run Tryd.prog w = .ok (ptr q 0) w := rfl
theorem run_method (name : String) (f : FuncId) (pb : Bool) (h : ((Tryd.prog.info? 73).bind fun i => (i.methods.find? (·.name == name)).map fun m => (m.path.isEmpty, m.func)) = some (true, some (f, pb))) (q : Nat) (v : Value) (w : World) (hc : (loadVar 74 ⟨q, 0, none⟩).run Tryd.prog w = .ok v w) : Sem.run Tryd.prog (method 206 73 (ptr q 0) name) w = .ok (f, if pb then ptr q 0 else v) w := by
  cases hq : Tryd.prog.info? 73 with
  | none => rw [hq] at h; cases h
  | some i =>
    rw [hq] at h
    simp only [Option.bind_some, Option.map_eq_some_iff] at h
    obtain ⟨m, hm, he⟩ := h
    simp only [Prod.mk.injEq] at he
    obtain ⟨h1, h2⟩ := he
    have h3 : m.path.toList = [] := by simpa using h1
    have h4 : m.path = #[] := by simpa using h1
    unfold method
    cases pb
    · simp [typeInfo, hq, hm, h4, h2, h3, follow, receiverAt, run_underlying Tryd.underlying73, Place.get, run_wrap, asAddr, hc]
    · simp [typeInfo, hq, hm, h4, h2, h3, follow, receiverAt, run_underlying Tryd.underlying73, Place.get, run_wrap, asAddr, hc]
theorem run_ldQ (q : Nat) (v : Value) (w : World) (h : w.cell? ⟨q, 0, none⟩ = some v) : (loadVar 74 ⟨q, 0, none⟩).run Tryd.prog w = .ok v w := by
  simp [loadVar, isAgg, run_underlying Tryd.underlying74, h]
theorem meth_less {q : Nat} {v : Value} {w : World} (h : w.cell? ⟨q, 0, none⟩ = some v) : Sem.run Tryd.prog (method 206 73 (ptr q 0) "Less") w = .ok (82, v) w := run_method "Less" 82 false (by kernel_rfl) q v w (run_ldQ q v w h)
theorem meth_swap {q : Nat} {v : Value} {w : World} (h : w.cell? ⟨q, 0, none⟩ = some v) : Sem.run Tryd.prog (method 206 73 (ptr q 0) "Swap") w = .ok (85, v) w := run_method "Swap" 85 false (by kernel_rfl) q v w (run_ldQ q v w h)
theorem meth_len {q : Nat} {v : Value} {w : World} (h : w.cell? ⟨q, 0, none⟩ = some v) : Sem.run Tryd.prog (method 206 73 (ptr q 0) "Len") w = .ok (49, v) w := run_method "Len" 49 false (by kernel_rfl) q v w (run_ldQ q v w h)
theorem meth_push {q : Nat} {v : Value} {w : World} (h : w.cell? ⟨q, 0, none⟩ = some v) : Sem.run Tryd.prog (method 206 73 (ptr q 0) "Push") w = .ok (84, ptr q 0) w := run_method "Push" 84 true (by kernel_rfl) q v w (run_ldQ q v w h)
theorem meth_pop {q : Nat} {v : Value} {w : World} (h : w.cell? ⟨q, 0, none⟩ = some v) : Sem.run Tryd.prog (method 206 73 (ptr q 0) "Pop") w = .ok (83, ptr q 0) w := run_method "Pop" 83 true (by kernel_rfl) q v w (run_ldQ q v w h)
theorem QAt.swapped {base q : Nat} {v : Value} {l m : List Nat} {w w' : World} (H : QAt base q v l w) (hl : m.length = l.length) (R : w'.ownsRow base 3 1 v l.length (flN m)) (G : Goes (fun k => v.ownBlock = some k) w w') : QAt base q v m w' :=
  ⟨by rw [G.block q (lt_of_some H.hd) (own_ne H.hd H.row (by decide))]; exact H.hd, by rw [hl]; exact R, H.hq⟩
theorem up_c {base q : Nat} {v : Value} {l : List Nat} {w : World} (H : QAt base q v l w) {j : Nat} (hj : j < l.length) (hl : l.length < 1000) (X : HeapX l l.length j) (hI : Inj l) : Calls Tryd.prog 61 #[.iface 73 (ptr q 0), vI j] w fun e w' => e = .returned (.tuple #[]) ∧ ∃ m, QAt base q v m w' ∧ Heap m m.length ∧ m.length = l.length ∧ (∀ x, x ∈ m ↔ x ∈ l) ∧ Inj m ∧ Goes (QF q v) w w' := by
  go_enter Tryd.func61, Tryd.ntmps61
  go_wp2
  go_loopw [1] (fun s1 wr => ∃ (j : Nat) (m : List Nat), s1 = .int .i64 j ∧ j < m.length ∧ m.length = l.length ∧ Hid (QAt base q v m wr ∧ HeapX m m.length j ∧ (∀ x, x ∈ m ↔ x ∈ l) ∧ Inj m ∧ Goes (QF q v) w wr)) (fun s1 _ => (intOf s1).toNat)
  case atStart => exact ⟨j, l, rfl, hj, rfl, H, X, fun _ => Iff.rfl, hI, Goes.refl _ _⟩
  case round =>
    obtain ⟨j, m, rfl, hjm, hml, hH⟩ := hrel
    obtain ⟨H1, X1, M1, I1, G1⟩ := hH.out
    clear hH
    have c0 := H1.c0
    have ml := meth_less c0
    by_cases h0 : j = 0
    · subst h0
      clear ml
      go_wp2
      exact bodyPost_end (results_none rfl _ _ _) rfl ⟨rfl, m, H1, up_stop0 X1, hml, M1, I1, G1⟩
    · obtain ⟨k, rfl⟩ : ∃ k, j = k + 1 := ⟨j - 1, by omega⟩
      have hs := getT hjm
      have ht : m[k / 2]? = some m[k / 2] := getT (by omega)
      generalize m[k + 1] = s at hs
      generalize m[k / 2] = t at ht
      have hle := less_c H1.row hs ht
      have hsw := fun w' (hB : Below wr.heap.size wr w') => swap_c (H1.grow hB).row ht hs
      rw [Int.natCast_add, Int.natCast_one, Int.natCast_ediv] at hle
      simp only [Int.natCast_add, Int.natCast_one, Int.natCast_ediv] at hsw
      by_cases hlt : s < t
      · rw [decide_eq_true hlt] at hle
        go_wp2_with (first | (go_at_call 82; refine hle.mono ?_; rintro e w' ⟨rfl, hB⟩; dsimp only; have ms := meth_swap (H1.grow hB).c0) | (go_at_call 85; refine (hsw _ hB).mono ?_; rintro e w2 ⟨rfl, R2, G2⟩; dsimp only))
        go_roundw
        case rel =>
          have hX := up_step X1 (by omega) hjm hs (by rw [Nat.add_sub_cancel]; exact ht) hlt
          rw [Nat.add_sub_cancel] at hX
          exact ⟨k / 2, swp m (k / 2) (k + 1) t s, by simp, by rw [swp_len]; omega, by rw [swp_len]; exact hml, (H1.grow hB).swapped (swp_len _ _ _ _ _) R2 G2, by rw [swp_len]; exact hX, fun x => (swp_mem ht hs x).trans (M1 x), swp_inj I1 ht hs, (G1.grow hB).trans G2 fun _ _ e => .inr e⟩
        case measure => simp [intOf]; omega
      · rw [decide_eq_false hlt] at hle
        go_wp2_with (first | (go_at_call 82; refine hle.mono ?_; rintro e w' ⟨rfl, hB⟩; dsimp only))
        exact bodyPost_end (results_none rfl _ _ _) rfl ⟨rfl, m, H1.grow hB, up_stop X1 hs (by rw [Nat.add_sub_cancel]; exact ht) (by omega), hml, M1, I1, G1.grow hB⟩
theorem QF_sub {q g : Nat} {v u : Value} {w : World} (hu : u.ownBlock = some g) (h : v.ownBlock = some g ∨ w.heap.size ≤ g) : ∀ k, k < w.heap.size → QF q u k → QF q v k := by
  rintro k hk (e | e)
  · exact .inl e
  · rw [hu] at e
    cases e
    rcases h with h | h
    · exact .inr h
    · omega
theorem push_c {base q : Nat} {v : Value} {l : List Nat} {w : World} (H : QAt base q v l w) (hh : Heap l l.length) (hI : Inj l) (t : Nat) (ht : t ∉ l) (hl : l.length < 900) (hbase : base ≤ w.heap.size) : Calls Tryd.prog 48 #[.iface 73 (ptr q 0), .iface 3 (vI t)] w fun e w' => e = .returned (.tuple #[]) ∧ ∃ u m g, QAt base q u m w' ∧ Heap m m.length ∧ Inj m ∧ m.length = l.length + 1 ∧ (∀ x, x ∈ m ↔ x ∈ l ∨ x = t) ∧ Goes (QF q v) w w' ∧ u.ownBlock = some g ∧ (v.ownBlock = some g ∨ w.heap.size ≤ g) := by
  have mp := meth_push H.c0
  have hp := qpush_c H t (by omega) hbase
  go_enter Tryd.func48, Tryd.ntmps48
  go_upto_region 1 with (go_at_call 84; refine hp.mono ?_; rintro e w1 ⟨rfl, u, g, H1, G1, hu, hg⟩; dsimp only)
  clear mp hp
  obtain ⟨ao, cap, ev, _, _⟩ := own_len H1.row
  have ml := meth_len H1.c0
  have e1 : (l ++ [t]).length = l.length + 1 := by simp
  have hX := up_c H1 (j := l.length) (by simp) (by simp; omega) (by rw [e1]; exact push_heapX hh t) (inj_snoc hI ht)
  rw [ev] at ml
  rw [e1] at ml
  clear ev
  go_wp2_with (first | (go_at_call 49; refine (len_c _ _ _ _).mono ?_; rintro e w' ⟨rfl, rfl⟩; dsimp only) | (go_at_call 61; refine hX.mono ?_; rintro e w2 ⟨rfl, m, H2, h2, l2, M2, I2, G2⟩; dsimp only))
  exact bodyPost_end (results_none rfl _ _ _) rfl ⟨rfl, u, m, g, H2, h2, I2, by rw [l2, e1], fun x => (M2 x).trans (by simp), G1.trans G2 (QF_sub hu hg), hu, hg⟩
end Go.Proofs.YtfgbhdcoemkdoaaDoor
