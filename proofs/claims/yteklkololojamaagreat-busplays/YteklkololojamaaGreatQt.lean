/- slices.Delete, slices.IndexFunc over a row of works; Eoi. -/
import Derived.Test.YteklkololojamaaGreatQs
namespace Go.Proofs.YteklkololojamaaGreat
open Go.RowKit
set_option linter.unusedVariables false
set_option linter.unusedSimpArgs false
set_option maxRecDepth 8000

theorem chn_room {o : Oper} {a : Act} {w : World} {C : World → Prop} (s x : Operand) (ho : o.op = .call { callee := .builtin .append, args := #[s, x], argTypes := #[117, 117] }) (b k cap : Nat) (hs : a.eval s = .slice (some ⟨b, 0, none⟩) k cap) (A : Addr) (n c : Nat) (l : List Trn) (hx : a.eval x = .slice (some A) n c) (hn : l.length = n) (hnews : ∀ j u, (flatT l)[j]? = some u → w.cell? (A.add j) = some u) (hroom : k + n ≤ cap) (hc : ∀ j, j < n * 2 → (w.cell? ⟨b, k * 2 + j, none⟩).isSome = true) (hf : ∀ j, w.frozen? ⟨b, j, none⟩ = false) (hC : C (w.setCells b (k * 2) (flatT l))) :
    Chn.upon Tryz.prog (fun v w' => v = .slice (some ⟨b, 0, none⟩) (k + n) cap ∧ C w') w ((execOp a.eval o).run Tryz.prog w) := by
  obtain ⟨i, h1, h2, h3, h4⟩ := infT
  have hsrc : Go.Src Tryz.prog i.size 117 (.slice (some A) n c) n (flatT l) w := Go.Src.ofSlice w Tryz.underlying117 A n c (flatT l) (by rw [len_flatT, h3, hn]) hnews (one_flatT l)
  have hr := run_append_room_src (P := Tryz.prog) w 117 117 o.type 106 i Tryz.underlying117 h1 b 0 k cap (.slice (some A) n c) n (flatT l) hsrc hroom (fun j hj => by rw [h3, Nat.zero_add]; exact hc j (by rw [len_flatT, hn] at hj; exact hj)) (fun j hj => hf _)
  unfold execOp
  simp only [ho, resolve, invoke, builtin, Sem.run_bind, Sem.run_pure, Result.andThen_ok, List.map_toArray, List.map_cons, List.map_nil, hs, hx, hr]
  rw [h3, Nat.zero_add]
  exact ⟨rfl, hC⟩
def DlC (v : Value) (l : List Trn) (b k : Nat) (w : World) : Nat → World → Prop
  | 0, w' => w'.ownsRow 0 106 2 v l.length (flatT l) ∧ Goes (fun j => v.ownBlock = some j) w w'
  | 1, w' => ∃ w0, w0.ownsRow 0 106 2 v l.length (flatT l) ∧ Goes (fun j => v.ownBlock = some j) w w0 ∧ w' = w0.setCells b (k * 2) (flatT (l.drop (k + 1)))
  | _, _ => False
set_option maxHeartbeats 1000000 in
theorem del_c {w : World} {v : Value} {l : List Trn} {k : Nat} (R : w.ownsRow 0 106 2 v l.length (flatT l)) (hk : k < l.length) (hl : l.length < 1000000) : Calls Tryz.prog 137 #[v, vI k, vI ((k : Int) + 1)] w fun e w' => ∃ v', e = .returned v' ∧ v'.ownBlock = v.ownBlock ∧ w'.ownsRow 0 106 2 v' (l.eraseIdx k).length (flatT (l.eraseIdx k)) ∧ Goes (fun j => v.ownBlock = some j) w w' := by
  obtain ⟨b, cap, ev, h1, h2, _, _, hfz⟩ := own_addr R (by omega)
  subst ev
  have k1 : (k : Int) + 1 ≤ l.length := by omega
  have k2 : k + 1 ≤ l.length := by omega
  have k3 : k ≤ cap := by omega
  have hm : maxLen = 9223372036854775807 := rfl
  have hcap2 : cap ≤ 9223372036854775807 := by rw [← hm]; exact h2
  go_enter Tryz.func137, Tryz.ntmps137
  go_upto_region 5 with fail
  have hst : DlC (.slice (some ⟨b, 0, none⟩) l.length cap) l b k w 0 { w with drawn := w.drawn + 1 } := ⟨own_of_block R fun _ _ => rfl, goes_of_below (Rel.below_draws (n := 1) (Below.refl _ _))⟩
  obtain ⟨A, hA, hA2⟩ : ∃ A : Addr, (if cap = k + 1 then some (⟨b, 0, none⟩ : Addr) else some ⟨b, (k + 1) * 2, none⟩) = some A ∧ Hid (∀ w1 : World, w1.ownsRow 0 106 2 (.slice (some ⟨b, 0, none⟩) l.length cap) l.length (flatT l) → ∀ j u, (flatT (l.drop (k + 1)))[j]? = some u → w1.cell? (A.add j) = some u) := by
    by_cases h : cap = k + 1
    · refine ⟨⟨b, 0, none⟩, if_pos h, fun w1 R1 j u hu => ?_⟩
      have : l.drop (k + 1) = [] := List.drop_eq_nil_of_le (by omega)
      rw [this] at hu
      simp [flatT] at hu
    · refine ⟨⟨b, (k + 1) * 2, none⟩, if_neg h, fun w1 R1 j u hu => ?_⟩
      have hj := (List.getElem?_eq_some_iff.1 hu).1
      rw [len_flatT, List.length_drop] at hj
      have htl : (flatT (l.take (k + 1))).length = (k + 1) * 2 := by rw [len_flatT, List.length_take, Nat.min_eq_left (by omega)]
      have hfl : flatT l = flatT (l.take (k + 1)) ++ flatT (l.drop (k + 1)) := by rw [← flatT_append, List.take_append_drop]
      rw [Addr.add_mid, R1.cellAt _ (by omega), hfl, List.getElem?_append_right (by omega), htl, Nat.add_sub_cancel_left]
      exact hu
  refine Chn.wp_region_chainL (DlC (.slice (some ⟨b, 0, none⟩) l.length cap) l b k w) [6] [1, 1, 1, 1, 1, 1, 1, 1] [.slice (some ⟨b, 0, none⟩) l.length cap, vI k, .slice (some ⟨b, 0, none⟩) k cap, .slice (some ⟨b, 0, none⟩) l.length cap, vI ((k : Int) + 1), .slice (some A) (l.length - (k + 1)) (cap - (k + 1)), .slice (some ⟨b, 0, none⟩) (k + (l.length - (k + 1))) cap, .slice (some ⟨b, 0, none⟩) (k + (l.length - (k + 1))) cap] (by kernel_rfl) (by kernel_rfl) (by kernel_rfl) (by kernel_rfl) (by kernel_rfl) hst ?_
  clear hst
  iterate 6 (refine ⟨fun j w1 hj hC => by exact Chn.upon_pure hC (fun F hF => by (go_simp <;> exact hF)), ?_⟩; simp only [Act.put, List.setIfInBounds_toArray, List.set_cons_succ, List.set_cons_zero])
  refine ⟨fun w1 hC => by
    exact chn_room _ _ rfl b k cap rfl A _ _ (l.drop (k + 1)) rfl (by rw [List.length_drop]) (hA2.out w1 hC.1) (by omega) (fun j hj => by rw [hC.1.cellAt _ (by omega), List.getElem?_eq_getElem (by rw [len_flatT]; omega)]; rfl) (fun j => hC.1.frozenAt j) ⟨w1, hC.1, hC.2, rfl⟩, ?_⟩
  simp only [Act.put, List.setIfInBounds_toArray, List.set_cons_succ, List.set_cons_zero]
  (refine ⟨fun j w1 hj hC => by exact Chn.upon_pure hC (fun F hF => by (go_simp <;> exact hF)), ?_⟩; simp only [Act.put, List.setIfInBounds_toArray, List.set_cons_succ, List.set_cons_zero])
  intro w5 hC
  obtain ⟨w0, R0, G0, rfl⟩ := hC
  have hE := own_erase R0 hk
  have e1 : k + (l.length - (k + 1)) = l.length - 1 := by omega
  rw [e1]
  have hcell : ∀ j, j < 2 → ((w0.setCells b (k * 2) (flatT (l.drop (k + 1)))).cell? ⟨b, (l.length - 1) * 2 + j, none⟩).isSome = true ∧ (w0.setCells b (k * 2) (flatT (l.drop (k + 1)))).frozen? ⟨b, (l.length - 1) * 2 + j, none⟩ = false := fun j hj => by
    refine ⟨World.isSome_setCells _ _ _ _ _ ?_, ?_⟩
    · rw [R0.cellAt _ (by omega), List.getElem?_eq_getElem (by rw [len_flatT]; omega)]; rfl
    · rw [World.frozen?_setCells]; exact R0.frozenAt _
  have hcl : ∀ ty, (Builtin.clear_ #[117] ty #[.slice (some ⟨b, (l.length - 1) * 2, none⟩) (l.length - (l.length - 1)) (cap - (l.length - 1))]).run Tryz.prog (w0.setCells b (k * 2) (flatT (l.drop (k + 1)))) = .ok (.tuple #[]) ((w0.setCells b (k * 2) (flatT (l.drop (k + 1)))).setCells b ((l.length - 1) * 2) [vI 0, vI 0]) := fun ty => by
    rw [show l.length - (l.length - 1) = 1 by omega]
    exact run_clear1 (w0.setCells b (k * 2) (flatT (l.drop (k + 1)))) ty b ((l.length - 1) * 2) (cap - (l.length - 1)) hcell
  have G1 : Goes (fun j => (Value.slice (some ⟨b, 0, none⟩) l.length cap).ownBlock = some j) w ((w0.setCells b (k * 2) (flatT (l.drop (k + 1)))).setCells b ((l.length - 1) * 2) [vI 0, vI 0]) := (G0.trans (goes_cells (F := fun j => (Value.slice (some ⟨b, 0, none⟩) l.length cap).ownBlock = some j) rfl _ _ _) fun _ _ e => e).trans (goes_cells (F := fun j => (Value.slice (some ⟨b, 0, none⟩) l.length cap).ownBlock = some j) rfl _ _ _) fun _ _ e => e
  clear hcell R0 G0 hA hA2
  generalize w0.setCells b (k * 2) (flatT (l.drop (k + 1))) = w6 at hE hcl G1 ⊢
  generalize w6.setCells b ((l.length - 1) * 2) [vI 0, vI 0] = w7 at hE hcl G1 ⊢
  go_wp2
  go_ret
  exact ⟨_, rfl, rfl, hE, G1⟩
/-- The first of a list that has this number. -/
def idxF : List Trn → Int → Option Nat
  | [], _ => none
  | t :: r, id => if t.id = id then some 0 else (idxF r id).map (· + 1)
theorem idx_none : ∀ {l : List Trn} {id : Int}, (∀ (j : Nat) s, l[j]? = some s → s.id ≠ id) → idxF l id = none
  | [], _, _ => rfl
  | t :: r, id, h => by
    have h0 : ¬ t.id = id := h 0 t rfl
    rw [idxF, if_neg h0, idx_none fun j s hs => h (j + 1) s (by simpa using hs)]
    rfl
theorem idx_some : ∀ {l : List Trn} {id : Int} {k : Nat} {t : Trn}, l[k]? = some t → t.id = id → (∀ j s, j < k → l[j]? = some s → s.id ≠ id) → idxF l id = some k
  | [], _, _, _, hk, _, _ => by simp at hk
  | a :: r, id, 0, t, hk, ht, _ => by
    simp at hk; subst hk
    rw [idxF, if_pos ht]
  | a :: r, id, k + 1, t, hk, ht, h => by
    have h0 : ¬ a.id = id := h 0 a (by omega) rfl
    rw [idxF, if_neg h0, idx_some (k := k) (by simpa using hk) ht fun j s hj hs => h (j + 1) s (by omega) (by simpa using hs)]
    rfl
theorem idx_in : ∀ {l : List Trn} {id : Int} {k : Nat}, idxF l id = some k → ∃ t, l[k]? = some t ∧ t.id = id
  | [], _, _, h => by cases h
  | a :: r, id, k, h => by
    rw [idxF] at h
    split at h
    · rename_i e
      cases h
      exact ⟨a, rfl, e⟩
    · cases hr : idxF r id with
      | none => rw [hr] at h; cases h
      | some j =>
        rw [hr] at h
        cases h
        obtain ⟨t, h1, h2⟩ := idx_in hr
        exact ⟨t, by simpa using h1, h2⟩
theorem idx_out : ∀ {l : List Trn} {id : Int}, idxF l id = none → ∀ t ∈ l, t.id ≠ id
  | [], _, _, t, ht => by cases ht
  | a :: r, id, h, t, ht => by
    rw [idxF] at h
    split at h
    · cases h
    · rename_i e
      cases hr : idxF r id with
      | some j => rw [hr] at h; cases h
      | none =>
        rcases List.mem_cons.1 ht with rfl | ht
        · exact e
        · exact idx_out hr t ht
def idxV (l : List Trn) (id : Int) : Int := match idxF l id with | none => -1 | some k => k
theorem eoi1_c {d : Nat} {id : Int} (t : Trn) {w : World} (hd : w.cell? ⟨d, 0, none⟩ = some (vI id)) : Calls Tryz.prog 136 #[t.val, ptr d 0] w fun e w' => e = .returned (.bool (t.id == id)) ∧ Below w.heap.size w w' := by
  obtain ⟨r, x⟩ := t
  have hlt : d < w.heap.size := by
    rcases Nat.lt_or_ge d w.heap.size with h | h
    · exact h
    · simp [World.cell?, Array.getElem?_eq_none h] at hd
  go_enter Tryz.func136, Tryz.ntmps136
  go_upto_region 1 with fail
  generalize hw1 : World.alloc _ _ = w1
  have B : Below w.heap.size w w1 := by rw [← hw1]; exact below_alloc _ _
  have hc : w1.cell? ⟨d, 0, none⟩ = some (vI id) := by rw [World.cell?_of_block (w := w) (a := ⟨d, 0, none⟩) (B.block d hlt)]; exact hd
  have z : w1.cell? ⟨w.heap.size, 1, none⟩ = some (vI x) := by rw [← hw1, cell_of_row _ _ _ _ _ _ (heap_alloc_new _ _)]; rfl
  clear hw1 hd
  go_wp2
  go_ret
  exact ⟨rfl, B⟩
theorem index_c {w : World} {v : Value} {l : List Trn} (R : w.ownsRow 0 106 2 v l.length (flatT l)) {d : Nat} {id : Int} (hd : w.cell? ⟨d, 0, none⟩ = some (vI id)) (hl : l.length < 1000000) : Calls Tryz.prog 135 #[v, .func (.func 136) #[] #[ptr d 0]] w fun e w' => e = .returned (vI (idxV l id)) ∧ Below w.heap.size w w' := by
  have hlt : d < w.heap.size := by
    rcases Nat.lt_or_ge d w.heap.size with h | h
    · exact h
    · simp [World.cell?, Array.getElem?_eq_none h] at hd
  obtain ⟨ao, cap, ev, _, _⟩ := own_len R
  have hev := show Hid _ from ev
  subst ev
  go_enter Tryz.func135, Tryz.ntmps135
  go_wp2
  go_loopw [8] (fun s8 wr => ∃ i : Nat, s8 = .int .i64 i ∧ i ≤ l.length ∧ Hid (Below w.heap.size w wr ∧ ∀ (j : Nat) s, j < i → l[j]? = some s → s.id ≠ id)) (fun s8 _ => l.length - (intOf s8).toNat)
  case atStart => exact ⟨0, rfl, Nat.zero_le _, Below.refl _ _, fun j s hj => by omega⟩
  case round =>
    obtain ⟨i, rfl, hi, hH⟩ := hrel
    by_cases hlt2 : (i : Int) < l.length
    · have hs := getT (l := l) (k := i) (by omega)
      generalize l[i] = t at hs
      obtain ⟨b, cap', ev, _, _, _, _, _⟩ := own_addr R (by omega)
      cases ev
      have R1 := own_of_block R (fun k hk => hH.out.1.block k (R.lt k hk).2)
      obtain ⟨a0, a1⟩ := own_cells R1 rfl rfl hs
      have hr : ∀ j, j < 2 → wr.cell? ⟨b, i * 2 + j, none⟩ = t.row[j]? := fun j hj => by
        match j, hj with
        | 0, _ => exact a0
        | 1, _ => exact a1
      have hd1 : wr.cell? ⟨d, 0, none⟩ = some (vI id) := by rw [World.cell?_of_block (w := w) (a := ⟨d, 0, none⟩) (hH.out.1.block d hlt)]; exact hd
      have he := eoi1_c t hd1
      clear a0 a1 hd1
      cases hq : (t.id == id) with
      | true =>
        go_wp2_with (first | (go_at_call 136; refine he.mono ?_; rintro e w2 ⟨rfl, hB⟩; dsimp only; rw [hq]) | (refine wpList_ldT rfl _ rfl b (i * 2) rfl t hr ?_; simp only [Act.put]))
        go_ret
        refine ⟨?_, below_then hH.out.1 (Nat.le_refl _) hB⟩
        rw [idxV, idx_some hs (by simpa using hq) hH.out.2]
        rfl
      | false =>
        go_wp2_with (first | (go_at_call 136; refine he.mono ?_; rintro e w2 ⟨rfl, hB⟩; dsimp only; rw [hq]) | (refine wpList_ldT rfl _ rfl b (i * 2) rfl t hr ?_; simp only [Act.put]))
        go_roundw
        case rel =>
          refine ⟨i + 1, by go_num, by omega, below_then hH.out.1 (Nat.le_refl _) hB, fun j s hj hjs => ?_⟩
          rcases Nat.lt_or_ge j i with h | h
          · exact hH.out.2 j s h hjs
          · obtain rfl : j = i := by omega
            rw [hs] at hjs
            cases hjs
            simpa using hq
        case measure => simp [intOf]; omega
    · go_wp2
      go_ret
      refine ⟨?_, hH.out.1⟩
      rw [idxV, idx_none fun j s hjs => hH.out.2 j s (by have := (List.getElem?_eq_some_iff.1 hjs).1; omega) hjs]
      rfl
end Go.Proofs.YteklkololojamaaGreat
