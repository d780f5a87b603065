/- Order. -/
import Derived.Test.YtfgbhdcoemkdoaaDoorSf
namespace Go.Proofs.YtfgbhdcoemkdoaaDoor
open Go.RowKit
set_option linter.unusedVariables false
set_option linter.unusedSimpArgs false
set_option maxRecDepth 8000

open Hq Rlw Go.Shelf
attribute [local go_sem] Oper.semAt_some
theorem els_mem' {v : Nat} {x : Int} (h : x ∈ els v) : ∃ k : Nat, x = k ∧ k < 64 ∧ v.testBit k = true := by
  unfold els elsN at h
  simp only [List.mem_map, List.mem_filter, List.mem_range] at h
  obtain ⟨k, ⟨h1, h2⟩, h3⟩ := h
  exact ⟨k, h3.symm, h1, h2⟩
/-- The order, or nothing. -/
def ordV (n : Nat) (R : Nat → Nat → Bool) : List Nat := if ordB n R then ordL n R n else []
set_option maxHeartbeats 8000000 in
theorem order_c {r n : Nat} {R : Nat → Nat → Bool} {w : World} (H : RelAt r n R w) (hT : Tab w) : Calls Tryd.prog 19 #[ptr r 0] w fun e w' => ∃ v, e = .returned (.tuple #[v, .bool (ordB n R)]) ∧ w'.ownsRow w.heap.size 3 1 v (ordV n R).length (flN (ordV n R)) ∧ Below w.heap.size w w' := by
  have hrl := H.lt
  have h0 := (hT 0 (by decide)).2
  have hle := H.le
  have htu := turned_r H hT
  refine Rg.calls_marks Tryd.func19 rfl ?_
  simp only [Tryd.ntmps19, List.size_toArray, List.length_cons, List.length_nil, Nat.reduceAdd, Nat.reduceSub, Array.replicate_succ, Array.replicate_zero, List.push_toArray, List.append_toArray, List.nil_append, List.cons_append]
  go_upto_region 3 with (first | (go_at_call 13; with_reducible refine htu.mono ?_; rintro e w1 ⟨q, rfl, HQ, hq, hB1⟩; have H4 := HQ.row; dsimp only) | (with_reducible refine wpList_load68 rfl _ rfl rfl H4 ?_; simp only [Act.put, List.setIfInBounds_toArray, List.set_cons_succ, List.set_cons_zero]) | (with_reducible refine wpList_new68 rfl rfl ?_; intro w2 hA2 hB2 hsz2; simp only [Act.put, List.setIfInBounds_toArray, List.set_cons_succ, List.set_cons_zero]) | (with_reducible refine wpList_store68 rfl _ _ rfl rfl hA2 _ rfl ?_; intro w3 hA3 hG3 hsz3; simp only [Act.put, List.setIfInBounds_toArray, List.set_cons_succ, List.set_cons_zero]))
  have hI0 : OrI r n R w w1.heap.size (w1.heap.size + 1 + 1 + 1) (w1.heap.size + 1 + 1) [] [] 0 [] [] (.slice (some ⟨w1.heap.size + 1, 0, none⟩) 0 0) (.slice none 0 0) [] (((w3.alloc (Obj.cells #[] 3)).alloc (Obj.cells #[Value.slice (some { block := w1.heap.size + 1, off := 0 }) 0 0] 74)).alloc (Obj.cells #[Value.pointer (some { block := w1.heap.size + 1 + 1, off := 0 })] 73)) := by
    have hsz : w3.heap.size = w1.heap.size + 1 := by omega
    have B3 : Below w.heap.size w w3 := (hB1.trans (hB2.mono hB1.size)).trans (hG3.below (by have := hB1.size; omega) fun k hk => by have := hB1.size; omega)
    have B4 : Below w3.heap.size w3 (((w3.alloc (Obj.cells #[] 3)).alloc (Obj.cells #[Value.slice (some { block := w1.heap.size + 1, off := 0 }) 0 0] 74)).alloc (Obj.cells #[Value.pointer (some { block := w1.heap.size + 1 + 1, off := 0 })] 73)) := (((Below.refl _ w3).alloc (Nat.le_refl _) _).alloc (by simp) _).alloc (by simp; omega) _
    have g1 : (((w3.alloc (Obj.cells #[] 3)).alloc (Obj.cells #[Value.slice (some { block := w1.heap.size + 1, off := 0 }) 0 0] 74)).alloc (Obj.cells #[Value.pointer (some { block := w1.heap.size + 1 + 1, off := 0 })] 73)).heap[w1.heap.size + 1]? = some (.cells #[] 3) := by
      rw [Below.heap_alloc _ _ _ (by simp; omega), Below.heap_alloc _ _ _ (by simp; omega), ← hsz]; exact World.alloc_heap_new _ _
    have g2 : (((w3.alloc (Obj.cells #[] 3)).alloc (Obj.cells #[Value.slice (some { block := w1.heap.size + 1, off := 0 }) 0 0] 74)).alloc (Obj.cells #[Value.pointer (some { block := w1.heap.size + 1 + 1, off := 0 })] 73)).heap[w1.heap.size + 1 + 1]? = some (.cells #[Value.slice (some { block := w1.heap.size + 1, off := 0 }) 0 0] 74) := by
      rw [Below.heap_alloc _ _ _ (by simp; omega)]
      have := World.alloc_heap_new (w3.alloc (Obj.cells #[] 3)) (Obj.cells #[Value.slice (some { block := w1.heap.size + 1, off := 0 }) 0 0] 74)
      rwa [World.size_alloc, hsz] at this
    have g3 : (((w3.alloc (Obj.cells #[] 3)).alloc (Obj.cells #[Value.slice (some { block := w1.heap.size + 1, off := 0 }) 0 0] 74)).alloc (Obj.cells #[Value.pointer (some { block := w1.heap.size + 1 + 1, off := 0 })] 73)).heap[w1.heap.size + 1 + 1 + 1]? = some (.cells #[ptr (w1.heap.size + 1 + 1) 0] 73) := by
      have := World.alloc_heap_new ((w3.alloc (Obj.cells #[] 3)).alloc (Obj.cells #[Value.slice (some { block := w1.heap.size + 1, off := 0 }) 0 0] 74)) (Obj.cells #[ptr (w1.heap.size + 1 + 1) 0] 73)
      rwa [World.size_alloc, World.size_alloc, hsz] at this
    have hw1 := hB1.size
    generalize (((w3.alloc (Obj.cells #[] 3)).alloc (Obj.cells #[Value.slice (some { block := w1.heap.size + 1, off := 0 }) 0 0] 74)).alloc (Obj.cells #[Value.pointer (some { block := w1.heap.size + 1 + 1, off := 0 })] 73)) = W4 at *
    have B5 : Below w.heap.size w W4 := B3.trans (B4.mono B3.size)
    refine ⟨?_, g3, ⟨g2, ⟨rfl, .inr ⟨_, 0, #[], rfl, by omega, g1, Nat.le_refl _, by decide, rfl, rfl⟩⟩, by omega⟩, (fun k _ _ _ h => absurd h (by simp)), (fun i j a h => by simp at h), World.ownsRow_nil _ _ _ _, (fun k h => by simp [Value.ownBlock] at h), H.grow B5, B5, hT.grow B5, Rg.Marks.nil _, (fun _ h => by cases h), by omega, by omega⟩
    have := hA3.grow B4
    unfold ArrAt at *
    rw [this, rl_congr (f := rwd (tuR R)) (g := ahW R [] 0 []) fun b _ => by unfold rwd ahW tuR; congr 1; funext a; simp]
  generalize (((w3.alloc (Obj.cells #[] 3)).alloc (Obj.cells #[Value.slice (some { block := w1.heap.size + 1, off := 0 }) 0 0] 74)).alloc (Obj.cells #[Value.pointer (some { block := w1.heap.size + 1 + 1, off := 0 })] 73)) = W4 at *
  clear hA2 hB2 hA3 hG3 hsz2 hsz3 w2 w3 htu HQ H4 hq
  generalize w1.heap.size + 1 + 1 + 1 = qb at *
  generalize w1.heap.size + 1 + 1 = qq at *
  generalize Value.slice (some { block := w1.heap.size + 1, off := 0 }) 0 0 = u15 at *
  generalize w1.heap.size = A at *
  clear hB1
  have c0 := hI0.src.row.c0
  go_wp2
  clear c0
  go_loopw [21] (fun s21 wr => ∃ (k : Nat) (lq : List Nat) (u : Value), k ≤ n ∧ s21 = vI k ∧ Hid (OrI r n R w A qb qq [] [] 0 [] lq u (.slice none 0 0) [] wr ∧ ∀ b, b ∈ lq ↔ b < k ∧ rdy n R [] b = true)) (fun s21 _ => 64 - (intOf s21).toNat)
  case atStart => exact ⟨0, [], _, Nat.zero_le _, rfl, hI0, fun b => by simp⟩
  case round =>
    clear hI0
    obtain ⟨k, lq, u, hk, rfl, hH⟩ := hrel
    obtain ⟨hI, hM⟩ := hH.out
    clear hH
    by_cases hlt : (k : Int) < n
    · have hk64 : (k : Int) < 64 := by omega
      have ca := hI.arr.cell (a := k) (by omega)
      have cb := hI.box.cell
      have hlen := queue_len hI.inj (fun b hb => by have := ((hM b).1 hb).1; omega : ∀ b ∈ lq, b < n)
      have hnew : k ∉ lq := fun h => by have := ((hM k).1 h).1; omega
      have hz := ahW_none H.fit hle (t := 0) (b := k)
      by_cases hr : rdy n R [] k = true
      · have e0 := hz.2 hr
        rw [e0] at ca
        have hp := push_c hI.que hI.heap hI.inj k hnew (by omega) hI.low.size
        go_wp2_with (first | (go_at_call 48; with_reducible refine hp.mono ?_; rintro e w2 ⟨rfl, u', m, g, Q2, h2, I2, l2, M2, G2, hg, hu⟩; dsimp only))
        have hI2 := (hI.queue hrl h0 G2 Q2 h2 I2 hg hu).1
        go_roundw
        case rel => exact ⟨k + 1, m, u', by omega, by go_num, hI2, fun b => by
          rw [M2, hM]
          constructor
          · rintro (⟨h1, h2⟩ | rfl)
            · exact ⟨by omega, h2⟩
            · exact ⟨by omega, hr⟩
          · rintro ⟨h1, h2⟩
            by_cases e : b = k
            · exact .inr e
            · exact .inl ⟨by omega, h2⟩⟩
        case measure => simp [intOf]; omega
      · have e0 : ((ahW R [] 0 [] k : Int) == 0) = false := by
          have h1 : ahW R [] 0 [] k ≠ 0 := fun e => hr (hz.1 e)
          simpa using h1
        go_wp2
        go_roundw
        case rel => exact ⟨k + 1, lq, u, by omega, by go_num, hI, fun b => by
          rw [hM]
          constructor
          · rintro ⟨h1, h2⟩; exact ⟨by omega, h2⟩
          · rintro ⟨h1, h2⟩
            by_cases e : b = k
            · subst e; exact absurd h2 hr
            · exact ⟨by omega, h2⟩⟩
        case measure => simp [intOf]; omega
    · have e : n = k := by omega
      subst e
      go_wp2
      refine Rg.wp_loop_by (fun m a W => ∃ (jn : Nat) (lq : List Nat) (u vo : Value) (Ds : List Nat) (u8 u9 u34 u35 u36 u37 u38 u39 u40 u41 u42 u43 u44 u45 u46 u47 u48 u49 u50 u51 u52 u53 u54 u55 u56 u57 u58 u59 u60 u61 u62 u63 u64 u65 u66 u67 u68 : Value), m = 65 - jn ∧ (ordL n R jn).length = jn ∧ jn ≤ n ∧ OrI r n R w A qb qq (ordL n R jn) (ordL n R jn) 0 [] lq u vo Ds W ∧ (∀ b, b ∈ lq ↔ rdy n R (ordL n R jn) b = true ∧ b < n) ∧ a = { tmps := #[ptr r 0, undef, Value.slice none 0 0, Value.bool false, ptr A 0, ptr qb 0, u6, vo, u8, u9, ptr r 0, ptr q 0, ptr q 0, ptr q 1, Value.agg (rl (rwd (tuR R))).toArray, u15, ptr qq 0, ptr r 0, ptr r 0, ptr r 0, vI n, vI n, Value.bool false, u23, u24, u25, u26, u27, u28, u29, u30, u31, u32, u33, u34, u35, u36, u37, u38, u39, u40, u41, u42, u43, u44, u45, u46, u47, u48, u49, u50, u51, u52, u53, u54, u55, u56, u57, u58, u59, u60, u61, u62, u63, u64, u65, u66, u67, u68, undef, undef, undef, undef, undef, undef, undef, undef], defers := Ds.map Rg.mark }) 65 ?_ ?_
      · exact ⟨0, lq, u, _, [], undef, undef, undef, undef, undef, undef, undef, undef, undef, undef, undef, undef, undef, undef, undef, undef, undef, undef, undef, undef, undef, undef, undef, undef, undef, undef, undef, undef, undef, undef, undef, undef, undef, undef, undef, undef, undef, rfl, rfl, Nat.zero_le _, hI, fun b => by rw [hM]; exact And.comm, rfl⟩
      clear hI hM
      clear lq u
      rintro m a W ⟨jn, lq, u, vo, Ds, u8, u9, u34, u35, u36, u37, u38, u39, u40, u41, u42, u43, u44, u45, u46, u47, u48, u49, u50, u51, u52, u53, u54, u55, u56, u57, u58, u59, u60, u61, u62, u63, u64, u65, u66, u67, u68, rfl, hj, hjn, hI, hM, rfl⟩
      try dsimp only
      have cb := hI.box.cell
      have cq := hI.que.c0
      obtain ⟨ao, cap, eu, _, _⟩ := own_len hI.que.row
      obtain ⟨ao2, cap2, evo, _, _⟩ := own_len hI.out
      have hO := ordL_ordd H.fit jn
      cases lq with
      | nil =>
        have hnx : nxt n R (ordL n R jn) = none := find_none.2 fun a ha => by
          cases e : rdy n R (ordL n R jn) a with
          | false => rfl
          | true => exact absurd ((hM a).2 ⟨e, ha⟩) (by simp)
        have hend : ordL n R n = ordL n R jn := by
          have := ordL_none hnx (n - jn)
          rwa [Nat.add_sub_cancel' hjn] at this
        rw [eu] at cq
        rw [hj] at evo
        have c0 := hI.src.row.c0
        by_cases hjl : (jn : Int) < n
        · have hB : ordB n R = false := by unfold ordB; rw [hend, hj]; exact decide_eq_false (by omega)
          have hV : ordV n R = [] := by unfold ordV; rw [hB]; rfl
          rw [evo]
          go_wp2_with (first | (go_at_call 49; refine (len_c _ _ _ _).mono ?_; rintro e W ⟨rfl, rfl⟩; dsimp only))
          exact Rg.ret_marks w.heap.size hI.mks hI.big (fun w' => results_tmp2 rfl _ _ _) fun w' ht => ⟨_, by first | rfl | (rw [hB]; rfl), by first | exact World.ownsRow_nil _ _ _ _ | (rw [hV]; exact World.ownsRow_nil _ _ _ _), hI.low.trans (ht.below (Nat.le_refl _) hI.low.size)⟩
        · have hB : ordB n R = true := by unfold ordB; rw [hend, hj]; exact decide_eq_true (by omega)
          have hjl2 : ¬ jn < n := by omega
          have hV : ordV n R = ordL n R jn := by unfold ordV; rw [hB, if_pos rfl, hend]
          have hrow := hI.out
          rw [evo] at hrow ⊢
          go_wp2_with (first | (go_at_call 49; refine (len_c _ _ _ _).mono ?_; rintro e W ⟨rfl, rfl⟩; dsimp only))
          exact Rg.ret_marks w.heap.size hI.mks hI.big (fun w' => results_tmp2 rfl _ _ _) fun w' ht => ⟨_, by first | rfl | (rw [hB]; rfl), by have h := ht.own hrow; first | (rw [hV]; exact h) | (rw [hj] at h; exact h), hI.low.trans (ht.below (Nat.le_refl _) hI.low.size)⟩
      | cons t rest =>
        have hrt := (hM t).1 (by simp)
        have hnx := least_min hI.heap hM
        have hl1 := ordL_some hnx
        have hO1 := ordL_ordd H.fit (jn + 1)
        have hjn2 : jn + 1 ≤ n := by
          have h1 := nodup_len hO1.lt hO1.one
          rw [hl1, List.length_append, hj] at h1
          exact h1
        have hq64 := queue_len hI.inj (fun b hb => ((hM b).1 hb).2 : ∀ b ∈ t :: rest, b < n)
        rw [List.length_cons] at hq64
        have hnx2 := next_c hI.que hI.heap hI.inj (n := rest.length) rfl (by omega) (t := t) rfl
        rw [eu] at cq
        clear eu evo hO1 hnx
        generalize ordL n R jn = l at *
        go_upto_region 12 with (first | (go_at_call 49; refine (len_c _ _ _ _).mono ?_; rintro e W ⟨rfl, rfl⟩; dsimp only) | (go_at_call 50; with_reducible refine hnx2.mono ?_; rintro e w2 ⟨rfl, u1, m1, g1, Q1, h1, I1, L1, M1, G1, hu1, hv1⟩; dsimp only))
        clear hnx2 cb cq
        have hI1 := (hI.queue hrl h0 G1 Q1 h1 I1 hu1 (.inl hv1)).1
        have hlo : vo.ownBlock ≠ some w2.heap.size := fun e => by have := (hI1.out.lt _ e).2; omega
        have hlu : u1.ownBlock ≠ some w2.heap.size := fun e => by have := (hI1.que.row.lt _ e).2; omega
        have hQM := QM_start hM M1
        clear hI hM M1 Q1 h1 I1 G1 hu1 hv1 L1
        have hI2 := hI1.grow (below_alloc w2 (Obj.cells #[vI t] 3))
        have bq : Boxed (w2.alloc (Obj.cells #[vI t] 3)) w2.heap.size 3 (vI t) := Boxed.new w2 3 (vI t)
        have hsz2 : (w2.alloc (Obj.cells #[vI t] 3)).heap.size = w2.heap.size + 1 := World.size_alloc _ _
        have hwlo : w.heap.size ≤ w2.heap.size := hI1.low.size
        clear hI1
        generalize (w2.alloc (Obj.cells #[vI t] 3)) = W2 at *
        generalize w2.heap.size = qa at *
        clear hsz2
        have cqa := bq.cell
        have hI3 := hI2.grow (below_alloc W2 (Obj.cells #[vI t] 3))
        have bq3 : Boxed (W2.alloc (Obj.cells #[vI t] 3)) qa 3 (vI t) := bq.alloc _
        have hnb : (W2.alloc (Obj.cells #[vI t] 3)).heap[W2.heap.size]? = some (.cells #[vI t] 3) := World.alloc_heap_new _ _
        go_upto_region 13 with (first | (at_builtin; refine wpList_appN (by rfl) 43 Tryd.underlying43 _ _ (by rfl) w.heap.size vo l (by rfl) hI3.out hI3.low.size W2.heap.size 1 t (by rfl) hnb (by omega) ?_; intro g4 cap4 W4 hown4 hgr4 hvo4; simp only [Act.put, List.setIfInBounds_toArray, List.set_cons_succ, List.set_cons_zero]))
        clear cqa hI2 hnb
        obtain ⟨hI4, hkp4⟩ := hI3.app hrl h0 hgr4 hown4 rfl hvo4
        have bq4 : Boxed W4 qa 3 (vI t) := hkp4 _ _ _ bq3 hlo
        rw [hj] at hI4
        clear hkp4 hgr4 hown4 hvo4 hI3 bq3
        have ht64 : (t : Int) < 64 := by omega
        have hst : (StC W4 (fun _ => False)) 0 { W4 with drawn := W4.drawn + 1 } := Rel.below_draws (n := 1) (Below.refl _ _)
        refine Chn.wp_region_chainL (StC W4 (fun _ => False)) [] [0, 0, 0, 0, 0, 0, 0] [ptr r 0, vI t, ptr r 0, ptr r 1, ptr r (1 + t), vU (rwd R t), .func (.func 45) #[vU (rwd R t)] #[]] (by kernel_rfl) (by kernel_rfl) (by kernel_rfl) (by kernel_rfl) (by kernel_rfl) hst ?_
        clear hst
        refine ⟨fun j w1 hj hC => by exact Chn.upon_pure hC (fun F hF => by (go_simp <;> exact hF)), ?_⟩
        simp only [Act.put, List.setIfInBounds_toArray, List.set_cons_succ, List.set_cons_zero]
        refine ⟨fun j w1 hj hC => by
          have z := (boxed_grow bq4 (stC_low hj hC)).cell
          exact Chn.upon_pure hC (fun F hF => by (go_simp <;> exact hF)), ?_⟩
        simp only [Act.put, List.setIfInBounds_toArray, List.set_cons_succ, List.set_cons_zero]
        refine ⟨fun j w1 hj hC => by exact Chn.upon_pure hC (fun F hF => by (go_simp <;> exact hF)), ?_⟩
        simp only [Act.put, List.setIfInBounds_toArray, List.set_cons_succ, List.set_cons_zero]
        refine ⟨fun j w1 hj hC => by exact Chn.upon_pure hC (fun F hF => by (go_simp <;> exact hF)), ?_⟩
        simp only [Act.put, List.setIfInBounds_toArray, List.set_cons_succ, List.set_cons_zero]
        refine ⟨fun j w1 hj hC => by exact Chn.upon_pure hC (fun F hF => by (go_simp <;> exact hF)), ?_⟩
        simp only [Act.put, List.setIfInBounds_toArray, List.set_cons_succ, List.set_cons_zero]
        refine ⟨fun j w1 hj hC => by
          have z := (hI4.src.row.grow (stC_low hj hC)).cell (a := t) (by omega)
          exact Chn.upon_pure hC (fun F hF => by (go_simp <;> exact hF)), ?_⟩
        simp only [Act.put, List.setIfInBounds_toArray, List.set_cons_succ, List.set_cons_zero]
        refine ⟨fun j w1 hj hC => by exact Chn.upon_pure hC (fun F hF => by (go_simp <;> exact hF)), ?_⟩
        simp only [Act.put, List.setIfInBounds_toArray, List.set_cons_succ, List.set_cons_zero]
        intro w5 hC

        have hI5 := hI4.grow hC
        have bq5 := boxed_grow bq4 hC
        clear hC hI4 bq4
        go_wp2
        refine wp_each (rwd R t) (rwd_lt R t) rfl (fun pre W' => ∃ lq u, OrI r n R w A qb qq l (l ++ [t]) t pre lq u (.slice (some ⟨g4, 0, none⟩) (jn + 1) cap4) Ds W' ∧ (∀ b, b ∈ lq ↔ QM n R l t pre b) ∧ Boxed W' qa 3 (vI t) ∧ u.ownBlock ≠ some qa) ?_ (fun pre W' ⟨lq, u, h, _⟩ => h.tab) ⟨m1, u1, ?_, hQM, bq5, hlu⟩ (fun x => { tmps := #[ptr r 0, undef, Value.slice none 0 0, Value.bool false, ptr A 0, ptr qb 0, u6, Value.slice (some ⟨g4, 0, none⟩) (jn + 1) cap4, ptr qa 0, vI x, ptr r 0, ptr q 0, ptr q 0, ptr q 1, Value.agg (rl (rwd (tuR R))).toArray, u15, ptr qq 0, ptr r 0, ptr r 0, ptr r 0, vI n, vI n, Value.bool false, u23, u24, u25, u26, u27, u28, u29, u30, u31, u32, u33, ptr qq 0, ptr qq 0, Value.slice ao (rest.length + 1) cap, vI ((rest.length : Int) + 1), Value.bool true, ptr qq 0, vI t, vo, vI t, Value.slice (some ⟨W2.heap.size, 0, none⟩) 1 1, Value.slice (some ⟨g4, 0, none⟩) (jn + 1) cap4, ptr r 0, vI t, ptr r 0, ptr r 1, ptr r (1 + t), vU (rwd R t), Value.func (Fn.func 45) #[vU (rwd R t)] #[], vI x, u53, u54, u55, u56, u57, u58, u59, u60, u61, u62, u63, u64, u65, u66, u67, u68, undef, undef, undef, undef, undef, undef, undef, undef], defers := [] }) ?assign ?body ?done
        case assign =>
          intro l x A K hK
          gi_wp2
          exact hK
        · rintro pre W1 W2 ⟨lq, u, h1, h2, h3, h4⟩ k
          exact ⟨lq, u, h1.turn k hI5.low.size (by have := hI5.low.size; omega) (fun D hD => hI5.mks.lt hD), h2, boxed_turn h3 k, h4⟩
        · have ha : ArrAt A (ahW R l t []) w5 := by
            have := hI5.arr
            unfold ArrAt at *
            rw [this, rl_congr fun b _ => ahW_start R l 0 t b]
          exact ⟨ha, hI5.box, hI5.que, hI5.heap, hI5.inj, hI5.out, hI5.ap, hI5.src, hI5.low, hI5.tab, hI5.mks, hI5.big, hI5.hA, hI5.hb⟩
        case body =>
          clear hQM bq5 hlu
          rintro l2 pre b Wb ⟨lq, u, hJ, hMb, bqb, hlu⟩ hb64 hvb hpre
          dsimp only
          have hRb : R t b = true := by rw [H.test] at hvb; exact hvb
          have hb2 : (b : Int) < 64 := by omega
          refine wpIn_block ?_
          refine wpIn_seq ?_
          have hst : (StC Wb (fun w1 => KeepsFrom w5.heap.size Wb w1 ∧ OrI r n R w A qb qq l (l ++ [t]) t (pre ++ [(b : Int)]) lq u (.slice (some ⟨g4, 0, none⟩) (jn + 1) cap4) Ds w1 ∧ Boxed w1 qa 3 (vI t))) 0 { Wb with drawn := Wb.drawn + 1 } := Rel.below_draws (n := 1) (Below.refl _ _)
          refine Rg.region_round (by kernel_rfl) (by kernel_rfl) (by rintro ⟨_, _, h⟩; exact h) ?_
          refine Chn.wpAny_region_chainL (StC Wb (fun w1 => KeepsFrom w5.heap.size Wb w1 ∧ OrI r n R w A qb qq l (l ++ [t]) t (pre ++ [(b : Int)]) lq u (.slice (some ⟨g4, 0, none⟩) (jn + 1) cap4) Ds w1 ∧ Boxed w1 qa 3 (vI t))) [7] [1, 1, 1, 0, 0, 1, 1, 1] [vI b, vI b, ptr A b, vU (ahW R l t pre b), vI t, vU ((Bit.less (ahW R l t pre b) (2 ^ t) : Nat) : Int), ptr A b, undef] (by kernel_rfl) (by kernel_rfl) (by kernel_rfl) (by kernel_rfl) hst ?_
          clear hst
          refine ⟨fun j w1 hj hC => by exact Chn.upon_pure hC (fun F hF => by (go_simp <;> exact hF)), ?_⟩
          simp only [Act.put, List.setIfInBounds_toArray, List.set_cons_succ, List.set_cons_zero]
          refine ⟨fun j w1 hj hC => by exact Chn.upon_pure hC (fun F hF => by (go_simp <;> exact hF)), ?_⟩
          simp only [Act.put, List.setIfInBounds_toArray, List.set_cons_succ, List.set_cons_zero]
          refine ⟨fun j w1 hj hC => by exact Chn.upon_pure hC (fun F hF => by (go_simp <;> exact hF)), ?_⟩
          simp only [Act.put, List.setIfInBounds_toArray, List.set_cons_succ, List.set_cons_zero]
          refine ⟨fun j w1 hj hC => by
            have z := (hJ.arr.grow (stC_low hj hC)).cell hb64
            exact Chn.upon_pure hC (fun F hF => by (go_simp <;> exact hF)), ?_⟩
          simp only [Act.put, List.setIfInBounds_toArray, List.set_cons_succ, List.set_cons_zero]
          refine ⟨fun j w1 hj hC => by
            have z := (boxed_grow bqb (stC_low hj hC)).cell
            exact Chn.upon_pure hC (fun F hF => by (go_simp <;> exact hF)), ?_⟩
          simp only [Act.put, List.setIfInBounds_toArray, List.set_cons_succ, List.set_cons_zero]
          refine ⟨fun j w1 hj hC => by
            exact Chn.upon_call (C := (StC Wb (fun w1 => KeepsFrom w5.heap.size Wb w1 ∧ OrI r n R w A qb qq l (l ++ [t]) t (pre ++ [(b : Int)]) lq u (.slice (some ⟨g4, 0, none⟩) (jn + 1) cap4) Ds w1 ∧ Boxed w1 qa 3 (vI t))) j) (without_c (ahW R l t pre b) t (ahW_lt R l t pre b) (by omega) w1) (fun e2 w2 hh => ⟨hh.1, by rw [hh.2]; exact hC⟩) (fun F hF => by (go_simp <;> exact hF)), ?_⟩
          simp only [Act.put, List.setIfInBounds_toArray, List.set_cons_succ, List.set_cons_zero]
          refine ⟨fun j w1 hj hC => by exact Chn.upon_pure hC (fun F hF => by (go_simp <;> exact hF)), ?_⟩
          simp only [Act.put, List.setIfInBounds_toArray, List.set_cons_succ, List.set_cons_zero]
          refine ⟨fun w1 hC => by
            exact chn_store (C := (StC Wb (fun w1 => KeepsFrom w5.heap.size Wb w1 ∧ OrI r n R w A qb qq l (l ++ [t]) t (pre ++ [(b : Int)]) lq u (.slice (some ⟨g4, 0, none⟩) (jn + 1) cap4) Ds w1 ∧ Boxed w1 qa 3 (vI t))) 1) 67 _ _ rfl A (b) rfl (vU ((Bit.less (ahW R l t pre b) (2 ^ t) : Nat) : Int)) rfl (run_cell w1 67 A b _ _ inf67 rfl rfl ((hJ.arr.grow hC).cell hb64) ((hJ.arr.grow hC).frz _)) (⟨(keeps_below hC).trans ((KeepsOthers.setCell _ _ _).from _), (hJ.grow hC).put hrl h0 (by omega) hb64, by have h := boxed_grow bqb hC; unfold Boxed; rw [Below.heap_setCell _ _ _ _ (show qa ≠ A from ne_of_type h (hJ.arr.grow hC) (by decide))]; exact h⟩), ?_⟩
          simp only [Act.put, List.setIfInBounds_toArray, List.set_cons_succ, List.set_cons_zero]
          intro w6 hC

          obtain ⟨kp6, hJ6, bq6⟩ := hC
          have hnew := succ_new H.fit hO hrt.1 hRb
          have hz := ahW_zero H.fit hle (l := l) (t := t) (pre := pre ++ [(b : Int)]) (b := b) (by simp)
          have ca := hJ6.arr.cell hb64
          have cb := hJ6.box.cell
          clear hJ bqb
          by_cases hr : rdy n R (l ++ [t]) b = true
          · have e0 := hz.2 ((rdy_iff H.fit).1 hr).2
            rw [e0] at ca
            have hbq : b ∉ lq := fun h => by
              rcases (hMb b).1 h with ⟨h1, _⟩ | ⟨h1, _⟩
              · rw [hnew.2] at h1; cases h1
              · exact pre_fresh hpre h1
            have hq64 := queue_len hJ6.inj (fun c hc => by
              rcases (hMb c).1 hc with ⟨_, h1, _⟩ | ⟨h2, _⟩
              · exact h1
              · exact (H.fit t c (by
                  obtain ⟨tl, htl⟩ := hpre
                  obtain ⟨kc, e1, _, e2⟩ := els_mem' (v := rwd R t) (x := (c : Int)) (by rw [← htl]; simp [h2])
                  obtain rfl : kc = c := by omega
                  rw [H.test] at e2; exact e2)).2 : ∀ c ∈ lq, c < n)
            have hp := push_c hJ6.que hJ6.heap hJ6.inj b hbq (by omega) hJ6.low.size
            gi_wp2_with (first | (refine ⟨trivial, ?_⟩; gi_at_call 48; refine (Rg.calls_round l2 _ hp).mono ?_; rintro e w7 ⟨rfl, u', m, g, Q2, h2, I2, L2, M2, G2, hg, hu⟩; dsimp only))
            obtain ⟨hJ7, hkp7⟩ := hJ6.queue hrl h0 G2 Q2 h2 I2 hg hu
            obtain ⟨bq7, hlu7⟩ := hkp7 _ _ _ bq6 (ne_of_type bq6 hJ6.que.hd (by decide)) hlu
            refine ⟨kp6.trans (Rg.keeps_goes G2 ?_), m, u', hJ7, QM_push hMb M2 hr, bq7, hlu7⟩
            rintro k (e | e) _
            · subst e; exact ⟨_, _, _, hJ6.que.hd⟩
            · obtain ⟨C, _, hC⟩ := own_kind hJ6.que.row e
              exact ⟨_, _, _, hC⟩
          · have e0 : ((ahW R l t (pre ++ [(b : Int)]) b : Int) == 0) = false := by
              have h1 : ahW R l t (pre ++ [(b : Int)]) b ≠ 0 := fun e => hr ((rdy_iff H.fit).2 ⟨hnew.1, hz.1 e⟩)
              simpa using h1
            gi_wp2
            exact ⟨kp6, lq, u, hJ6, QM_skip hMb hr, bq6, hlu⟩
        case done =>
          intro D Wd hD hId hK
          obtain ⟨lq, u, hJ, hMd, _, _⟩ := hId
          clear hQM bq5 hlu
          go_wp2
          have hl2 : (l ++ [t]).length = jn + 1 := by rw [List.length_append, hj]; rfl
          refine ⟨65 - (jn + 1), by omega, jn + 1, lq, u, _, D :: Ds, _, _, _, _, _, _, _, _, _, _, _, _, _, _, _, _, _, _, _, _, _, _, _, _, _, _, _, _, _, _, _, _, _, _, _, _, _, rfl, by rw [hl1]; exact hl2, hjn2, ?_, fun b => by rw [hl1, hMd]; exact QM_end H.fit hle hrt.1, rfl⟩
          rw [hl1]
          have ha : ArrAt A (ahW R (l ++ [t]) 0 []) Wd := by
            have := hJ.arr
            unfold ArrAt at *
            rw [this, rl_congr fun b _ => ahW_next H.fit hle b]
          refine ⟨ha, hJ.box, hJ.que, hJ.heap, hJ.inj, by have h := hJ.out; rw [← hj] at h; exact h, hJ.ap, hJ.src, hJ.low, hJ.tab, hJ.mks.cons hK (fun h => by have := hI5.mks.lt h; omega), fun E hE => ?_, hJ.hA, hJ.hb⟩
          rcases List.mem_cons.1 hE with rfl | hE
          · have := hI5.low.size; omega
          · exact hJ.big E hE
end Go.Proofs.YtfgbhdcoemkdoaaDoor
