/- Le, Lf, Lg of the seat, joined. -/
import Derived.Test.YtejlmggfeejgpaaDoorLd
import Derived.Test.YtejlmggfeejgpaaDoorGa
import Derived.Test.YtejlmggfeejgpaaDoorKb
/- Seen; a clone. -/
namespace Go.Proofs.YtejlmggfeejgpaaDoor
open Go.RowKit
set_option linter.unusedVariables false
set_option linter.unusedSimpArgs false
set_option maxRecDepth 8000

theorem keepRow {w x : World} {b : Nat} {cs : Array Value} {t : TypeId} (h : w.heap[b]? = some (.cells cs t)) (hb : Below w.heap.size w x) : x.heap[b]? = some (.cells cs t) := by rw [hb.block b (lt_of_some h)]; exact h
theorem made_zeroB (n : Nat) : madeCells #[.bool false] n = boC (List.replicate n false) [] := by
  apply Array.ext
  · simp [madeCells, boC]
  · intro i h1 h2
    simp [madeCells, boC]
    rw [Nat.mod_one]
    rfl
theorem info4q : (Tryd.prog.info? 4).map (fun i => (i.zero, i.size, i.bytes)) = some (some (.bool false), 1, 1) := by kernel_rfl
theorem run_mkB (w : World) (n : Nat) (hn : n ≤ 512) : (Instr.makeSlice 34 (vI n) (vI n)).run Tryd.prog w = .ok (.slice (some ⟨w.heap.size, 0, none⟩) n n) (w.alloc (.cells (boC (List.replicate n false) []) 4)) := by
  obtain ⟨i, h1, h2, h3, h4⟩ := info_parts info4q
  have hr := run_makeSlice (P := Tryd.prog) w 34 4 i (.bool false) Tryd.underlying34 h1 h2 .i64 .i64 n n (by omega) (by omega) (by rw [h3, Int.toNat_natCast]; omega) (by rw [h4]; omega) (by omega)
  rw [Int.toNat_natCast, h3, Nat.mul_one] at hr
  rw [← made_zeroB]
  exact hr
theorem wpList_mkB {ops : Array Oper} {rest : List Oper} {o : Oper} {a : Act} {w : World} {Q : Exit → Act → World → Prop} (hg : o.guard = none) (x : Operand) (ho : o.op = .makeSlice 34 x x) {n : Nat} (hn : n ≤ 512) (hx : a.eval x = vI n)
    (h : wpList Tryd.prog ops Q rest (a.put o.dst (.slice (some ⟨w.heap.size, 0, none⟩) n n)) (w.alloc (.cells (boC (List.replicate n false) []) 4))) : wpList Tryd.prog ops Q (o :: rest) a w :=
  wpList_plain hg fun _ hK => by
    unfold Oper.wp execOp
    simp only [ho, hx, Sem.run_bind, Sem.run_pure, run_mkB w n hn, Result.andThen_ok]
    exact hK _ _ h
theorem ops_far {w : World} {v : Value} {l : List Opr} (O : Ops w v l) (h0 : 0 < l.length) : ∀ ra n cap, v = .slice (some ra) n cap → ra.block < w.heap.size := by
  intro ra n cap e
  obtain ⟨ra', c', e', hc⟩ := O.cell h0
  cases e.symm.trans e'
  have := (hc 0 _ (opAt_some h0)).lt
  have e6 : (ra.add (0 * 6)).block = ra.block := by unfold Addr.add; split <;> rfl
  rwa [e6] at this
section
variable {w : World} {pc words el : Int} {v : Value} {l : List Opr}
set_option maxHeartbeats 4000000 in
theorem seen_c (hpc : 0 ≤ pc) (O : Ops w v l) (himm : ∀ k, 0 ≤ (opAt l k).imm) (hcap : ∀ ao n cap, v = .slice ao n cap → n ≤ cap) : Calls Tryd.prog 8 #[blV pc words el v] w fun e w' => Below w.heap.size w w' ∧
    ((rightB pc words el l = false ∧ e = .returned (.tuple #[.slice none 0 0, vI 4])) ∨
     (rightB pc words el l = true ∧ ∃ g, w.heap.size ≤ g ∧ e = .returned (.tuple #[.slice (some ⟨g, 0, none⟩) l.length l.length, vI 0]) ∧ w'.heap[g]? = some (.cells (boC (seenL l) []) 4))) := by
  have hb := below_alloc w (.cells (blA pc words el v) 25)
  have r1 : (w.alloc (.cells (blA pc words el v) 25)).heap[w.heap.size]? = some (.cells (blA pc words el v) 25) := heap_alloc_new _ _
  have O1 := O.grow hb
  have kr := right_c (words := words) (el := el) hpc O1 himm hcap
  go_enter Tryd.func8, Tryd.ntmps8
  go_upto_region 1 with fail
  generalize w.alloc (.cells (blA pc words el v) 25) = w1 at *
  cases hR : rightB pc words el l with
  | false =>
    rw [hR] at kr
    go_wp2_with (first | ((with_reducible refine wpList_load_if rfl 25 _ rfl _ rfl 25 _ (0, 0) _ r1 Tryd.underlying25 rfl (bl_inf _ _ _ _) ?_); simp only [Act.put, List.setIfInBounds_toArray, List.set_cons_succ, List.set_cons_zero]) | (go_at_call 6; (with_reducible refine kr.mono ?_); clear kr; rintro e w2 ⟨rfl, B⟩; dsimp only))
    go_ret2
    exact ⟨below_then hb (Nat.le_refl _) B, .inl ⟨by first | rfl | exact hR, rfl⟩⟩
  | true =>
    rw [hR] at kr
    obtain ⟨h0, h512, -⟩ := right_lens hR
    go_upto_region 3 with (first | ((with_reducible refine wpList_load_if rfl 25 _ rfl _ rfl 25 _ (0, 0) _ r1 Tryd.underlying25 rfl (bl_inf _ _ _ _) ?_); simp only [Act.put, List.setIfInBounds_toArray, List.set_cons_succ, List.set_cons_zero]) | (go_at_call 6; (with_reducible refine kr.mono ?_); clear kr; rintro e w2 ⟨rfl, B⟩; dsimp only))
    replace r1 := keepRow r1 B
    replace O1 := O1.grow B
    replace hb := below_then hb (Nat.le_refl _) B
    clear B
    obtain ⟨ao, cap, rfl⟩ := O.len
    have z3 : w2.cell? ⟨w.heap.size, 3, none⟩ = some (.slice ao l.length cap) := by rw [cell_of_row _ _ _ _ _ _ r1]; rfl
    go_upto_region 4 with (first | ((with_reducible refine wpList_mkB rfl _ rfl h512 rfl ?_); simp only [Act.put, List.setIfInBounds_toArray, List.set_cons_succ, List.set_cons_zero]))
    have hb2 := below_alloc w2 (.cells (boC (List.replicate l.length false) []) 4)
    have r2 : (w2.alloc (.cells (boC (List.replicate l.length false) []) 4)).heap[w2.heap.size]? = some (.cells (boC (List.replicate l.length false) []) 4) := heap_alloc_new _ _
    have far := ops_far O h0
    have hsz := hb.size
    have km := mark_c (cap := l.length) hR (O1.grow hb2) (fun ra n c e => by have := far ra n c e; omega) r2 (List.length_replicate ..)
    replace z3 : (w2.alloc (.cells (boC (List.replicate l.length false) []) 4)).cell? ⟨w.heap.size, 3, none⟩ = some (.slice ao l.length cap) := by rw [cell_of_row _ _ _ _ _ _ (keepRow r1 hb2)]; rfl
    replace hb := below_then hb (Nat.le_refl _) hb2
    generalize w2.alloc (.cells (boC (List.replicate l.length false) []) 4) = w3 at *
    generalize w2.heap.size = g at *
    clear r1 O1 hb2 r2 O far
    go_wp2_with (first | (go_at_call 18; (with_reducible refine km.mono ?_); clear km; rintro e w4 ⟨⟨u, rfl⟩, r4, G⟩; dsimp only))
    go_ret2
    exact ⟨hb.trans (G.below hb.size (fun k hk => by omega)), .inr ⟨by first | rfl | exact hR, g, hsz, rfl, r4⟩⟩
set_option maxHeartbeats 4000000 in
theorem clone_c (O : Ops w v l) (h0 : 0 < l.length) (h512 : l.length ≤ 512) : Calls Tryd.prog 23 #[v] w fun e w' => ∃ u, e = .returned u ∧ w'.ownsRow w.heap.size 33 6 u l.length (opF l) ∧ Below w.heap.size w w' := by
  obtain ⟨ra, cap, rfl, hc⟩ := O.cell h0
  have hb := below_alloc w (.cells #[] 33)
  have r1 : (w.alloc (.cells #[] 33)).heap[w.heap.size]? = some (.cells #[] 33) := heap_alloc_new _ _
  have O1 := O.grow hb
  clear hc
  have hrun : ∀ w, Sem.run Tryd.prog (binOp BinOp.eql 23 (Value.slice (some ra) l.length cap) (Value.slice none 0 0)) w = .ok (.bool false) w := fun _ => by kernel_rfl
  go_enter Tryd.func23, Tryd.ntmps23
  go_upto_region 3 with fail
  refine wp_region_lit ?_
  with_reducible refine wpList_none23 rfl rfl ?_
  simp only [Act.put, List.setIfInBounds_toArray, List.set_cons_succ, List.set_cons_zero]
  generalize w.alloc (.cells #[] 33) = w1 at *
  go_wp2_with (first | (at_builtin; (refine wpList_clone rfl _ _ rfl rfl rfl O1 h0 h512 r1 (Nat.le_refl w.heap.size) ?_); intro u w2 hown G; simp only [Act.put, List.setIfInBounds_toArray, List.set_cons_succ, List.set_cons_zero]))
  go_ret
  exact ⟨_, rfl, hown, hb.trans (G.below hb.size (fun k hk => by omega))⟩
end
end Go.Proofs.YtejlmggfeejgpaaDoor
/- Contains; toldAnew. -/
namespace Go.Proofs.YtejlmggfeejgpaaDoor
open Go.RowKit
set_option linter.unusedVariables false
set_option linter.unusedSimpArgs false
set_option maxRecDepth 8000

theorem bo_cell {w : World} {sb k : Nat} {L : List Bool} {R : List Value} (h : w.heap[sb]? = some (.cells (boC L R) 4)) (hk : k < L.length) : w.cell? ⟨sb, k, none⟩ = some (.bool (L.getD k false)) := by
  rw [cell_of_row _ _ _ _ _ _ h]; exact boC_get hk
def IxR (L : List Bool) (r : Int) : Prop := decide (0 ≤ r) = !(L.all id)
set_option maxHeartbeats 4000000 in
theorem index_c {w : World} {sb cap : Nat} {L : List Bool} {R : List Value} (h : w.heap[sb]? = some (.cells (boC L R) 4)) (hl : L.length ≤ 512) : Calls Tryd.prog 39 #[.slice (some ⟨sb, 0, none⟩) L.length cap, .bool false] w fun e w' => (∃ r : Int, e = .returned (vI r) ∧ IxR L r) ∧ w' = w := by
  go_enter Tryd.func39, Tryd.ntmps39
  go_upto_region 2 with fail
  go_loopw [8] (fun s8 wr => ∃ k : Nat, s8 = vI k ∧ k ≤ L.length ∧ wr = w ∧ ∀ j, j < k → L.getD j false = true) (fun s8 _ => ((L.length : Int) - intOf s8).toNat)
  case atStart => exact ⟨0, rfl, Nat.zero_le _, by first | rfl | trivial, fun j hj => absurd hj (by omega)⟩
  case round =>
    obtain ⟨k, rfl, hk, rfl, hall⟩ := hrel
    by_cases hlt : (k : Int) < L.length
    · have hkl : k < L.length := by omega
      have z := bo_cell h hkl
      cases hb : L.getD k false with
      | true =>
        rw [hb] at z
        go_wp2
        go_roundw
        case rel =>
          refine ⟨k + 1, by go_num, by omega, by first | rfl | trivial, fun j hj => ?_⟩
          rcases Nat.lt_or_ge j k with q | q
          · exact hall j q
          · obtain rfl : j = k := by omega
            exact hb
        case measure => simp [intOf]; omega
      | false =>
        rw [hb] at z
        go_wp2
        go_ret
        refine ⟨⟨k, rfl, ?_⟩, rfl⟩
        unfold IxR
        have : L.all id = false := by
          rw [List.all_eq_false]
          refine ⟨L[k], List.getElem_mem hkl, ?_⟩
          have e : L.getD k false = L[k] := by simp [List.getD, hkl]
          rw [← e, hb]; decide
        rw [this]
        exact decide_eq_true (by omega)
    · have : L.all id = true := by
        rw [List.all_eq_true]
        intro x hx
        obtain ⟨j, hj, rfl⟩ := List.getElem_of_mem hx
        have := hall j (by omega)
        have e : L.getD j false = L[j] := by simp [List.getD, hj]
        rw [e] at this
        exact this
      go_wp2
      go_ret
      refine ⟨⟨-1, rfl, ?_⟩, rfl⟩
      unfold IxR
      rw [this]; rfl
theorem contains_c {w : World} {sb cap : Nat} {L : List Bool} {R : List Value} (h : w.heap[sb]? = some (.cells (boC L R) 4)) (hl : L.length ≤ 512) : Calls Tryd.prog 24 #[.slice (some ⟨sb, 0, none⟩) L.length cap, .bool false] w fun e w' => e = .returned (.bool (!(L.all id))) ∧ w' = w := by
  have ki := index_c (cap := cap) h hl
  go_enter Tryd.func24, Tryd.ntmps24
  go_wp2_with (first | (go_at_call 39; (with_reducible refine ki.mono ?_); clear ki; rintro e w2 ⟨⟨r, rfl, hr⟩, rfl⟩; dsimp only))
  go_ret
  exact ⟨by unfold IxR at hr; rw [← hr]; rfl, rfl⟩
/-- Places told anew: a row of numbers. -/
def plR (s : Nat → Bool) (k n : Nat) : Array Value := ((List.range n).map fun i => vI (if i < k then (plS s i : Int) else 0)).toArray
theorem plR_get {s : Nat → Bool} {k n i : Nat} (h : i < n) : (plR s k n)[i]? = some (vI (if i < k then (plS s i : Int) else 0)) := by
  unfold plR
  simp [h]
theorem plR_zero (s : Nat → Bool) (n : Nat) : madeCells #[vI 0] n = plR s 0 n := by
  apply Array.ext
  · simp [madeCells, plR]
  · intro i h1 h2
    simp [madeCells, plR]
    rw [Nat.mod_one]
    rfl
theorem plR_set {s : Nat → Bool} {k n : Nat} (hk : k < n) (h : s k = true) : (plR s k n).setIfInBounds k (vI (cntS s k : Nat)) = plR s (k + 1) n := by
  apply Array.ext_getElem?
  intro i
  rw [Array.getElem?_setIfInBounds]
  rcases Nat.lt_or_ge i n with q | q
  · rw [plR_get q, plR_get q]
    by_cases e : k = i
    · subst e
      rw [if_pos rfl, if_pos (by simp [plR]; omega), if_pos (by omega), plS_on h]
    · rw [if_neg e]
      by_cases e2 : i < k
      · rw [if_pos e2, if_pos (by omega)]
      · rw [if_neg e2, if_neg (by omega)]
  · have h1 : (plR s k n)[i]? = none := Array.getElem?_eq_none (by simp [plR]; omega)
    have h2 : (plR s (k + 1) n)[i]? = none := Array.getElem?_eq_none (by simp [plR]; omega)
    rw [h1, h2]
    rw [if_neg (by omega)]
theorem plR_skip {s : Nat → Bool} {k n : Nat} (h : s k = false) : plR s k n = plR s (k + 1) n := by
  unfold plR
  congr 1
  apply List.map_congr_left
  intro i _
  by_cases e : i = k
  · subst e
    rw [if_neg (by omega), if_pos (by omega)]
    unfold plS; rw [h]; rfl
  · by_cases e2 : i < k
    · rw [if_pos e2, if_pos (by omega)]
    · rw [if_neg e2, if_neg (by omega)]
/-- While an operation's places are told anew. -/
def TdC (w : World) (ob rb : Nat) (pb : Nat) (P : Array Value) (o : Opr) (a' b' : Int) : Nat → World → Prop
  | 0, x => x.heap[ob]? = some (.cells (opA o) 33) ∧ x.heap[rb]? = some (.cells (opA nilO) 33) ∧ x.heap[pb]? = some (.cells P 3) ∧ Below w.heap.size w x
  | 1, x => x.heap[ob]? = some (.cells (opA { o with a := a' }) 33) ∧ x.heap[rb]? = some (.cells (opA nilO) 33) ∧ x.heap[pb]? = some (.cells P 3) ∧ Below w.heap.size w x
  | 2, x => x.heap[ob]? = some (.cells (opA { o with a := a', b := b' }) 33) ∧ x.heap[rb]? = some (.cells (opA nilO) 33) ∧ x.heap[pb]? = some (.cells P 3) ∧ Below w.heap.size w x
  | _, _ => False
theorem tdC_pb {w x : World} {ob rb pb : Nat} {P : Array Value} {o : Opr} {a' b' : Int} {j : Nat} (h : TdC w ob rb pb P o a' b' j x) : x.heap[pb]? = some (.cells P 3) := by
  match j, h with
  | 0, h => exact h.2.2.1
  | 1, h => exact h.2.2.1
  | 2, h => exact h.2.2.1
theorem tdC_b {w x : World} {ob rb pb : Nat} {P : Array Value} {o : Opr} {a' b' : Int} {j : Nat} (hj : j ≤ 1) (h : TdC w ob rb pb P o a' b' j x) : x.cell? ⟨ob, 3, none⟩ = some (vI o.b) := by
  match j, h with
  | 0, h => rw [cell_of_row _ _ _ _ _ _ h.1]; rfl
  | 1, h => rw [cell_of_row _ _ _ _ _ _ h.1]; rfl
theorem back_told {tmps : Array Value} {w : World} {rb : Nat} {o : Opr} (hp : tmps.getD 4 undef = ptr rb 0) (hg : w.heap[rb]? = some (.cells (opA o) 33)) : (results Tryd.f40 tmps).run Tryd.prog w = .ok (opV o) w :=
  results_cell_row rfl tmps w rb 33 (opA o) (0, 0) _ hp hg Tryd.underlying33 rfl (op_inf o)
set_option maxHeartbeats 4000000 in
theorem told_c {w : World} {o : Opr} {pb n ia ib : Nat} {P : Array Value} {a' b' : Int} (hP : w.heap[pb]? = some (.cells P 3)) (ha : o.a = ia) (hb : o.b = ib) (hia : ia < n) (hib : ib < n) (hva : P[ia]? = some (vI a')) (hvb : P[ib]? = some (vI b')) :
    Calls Tryd.prog 40 #[opV o, .slice (some ⟨pb, 0, none⟩) n n] w fun e w' => e = .returned (opV { o with a := a', b := b' }) ∧ Below w.heap.size w w' := by
  have hb1 := below_alloc w (.cells (opA o) 33)
  have hb2 := below_alloc (w.alloc (.cells (opA o) 33)) (.cells #[vI 0, vI 0, vI 0, vI 0, vI 0, vU 0] 33)
  have r1 : ((w.alloc (.cells (opA o) 33)).alloc (.cells #[vI 0, vI 0, vI 0, vI 0, vI 0, vU 0] 33)).heap[w.heap.size]? = some (.cells (opA o) 33) := keepRow (heap_alloc_new _ _) hb2
  have r2 : ((w.alloc (.cells (opA o) 33)).alloc (.cells #[vI 0, vI 0, vI 0, vI 0, vI 0, vU 0] 33)).heap[w.heap.size + 1]? = some (.cells #[vI 0, vI 0, vI 0, vI 0, vI 0, vU 0] 33) := by
    have := heap_alloc_new (w.alloc (.cells (opA o) 33)) (.cells #[vI 0, vI 0, vI 0, vI 0, vI 0, vU 0] 33)
    rw [World.size_alloc] at this; exact this
  have hB := below_then hb1 (Nat.le_refl _) hb2
  have rp := keepRow (keepRow hP hb1) hb2
  have hpw : pb < w.heap.size := lt_of_some hP
  clear hb1 hb2
  go_enter Tryd.func40, Tryd.ntmps40
  go_upto_region 1 with fail
  generalize (w.alloc (.cells (opA o) 33)).alloc (.cells #[vI 0, vI 0, vI 0, vI 0, vI 0, vU 0] 33) = w1 at *
  obtain ⟨rb, hrb⟩ : ∃ rb, rb = w.heap.size + 1 := ⟨_, rfl⟩
  obtain ⟨ob, hob⟩ : ∃ ob, ob = w.heap.size := ⟨_, rfl⟩
  rw [← hrb] at r2 ⊢
  rw [← hob] at r1 ⊢
  have r2 : w1.heap[rb]? = some (.cells (opA nilO) 33) := r2
  have hst : TdC w ob rb pb P o a' b' 0 { w1 with drawn := w1.drawn + 1 } := ⟨r1, r2, rp, below_then hB (Nat.le_refl _) (below_dr w1)⟩
  clear r1 r2 rp hB
  have hlta : (ia : Int) < n := by omega
  have hltb : (ib : Int) < n := by omega
  refine Chn.wp_region_chainL (TdC w ob rb pb P o a' b') [11, 13] [2, 2, 0, 2, 2, 2, 2, 1, 2, 2, 2, 2, 2, 2] [.slice (some ⟨pb, 0, none⟩) n n, ptr ob 2, vI ia, ptr pb ia, vI a', .slice (some ⟨pb, 0, none⟩) n n, ptr ob 3, vI ib, ptr pb ib, vI b', ptr ob 2, undef, ptr ob 3, undef] (by kernel_rfl) (by kernel_rfl) (by kernel_rfl) (by kernel_rfl) (by kernel_rfl) hst ?_
  have hrbw : w.heap.size ≤ rb := by omega
  have hobr : ob ≠ rb := by omega
  have hobw : w.heap.size ≤ ob := by omega
  have hpbr : pb ≠ ob := by omega
  clear hst hob hrb
  iterate 2 (refine ⟨fun j x hj hC => by exact Chn.upon_pure hC (fun F hF => by (go_simp <;> exact hF)), ?_⟩; simp only [Act.put, List.setIfInBounds_toArray, List.set_cons_succ, List.set_cons_zero])
  refine ⟨fun j x hj hC => by
    obtain rfl : j = 0 := Nat.le_zero.1 hj
    have z : x.cell? ⟨ob, 2, none⟩ = some (vI ia) := by rw [cell_of_row _ _ _ _ _ _ hC.1, ← ha]; rfl
    exact Chn.upon_pure hC (fun F hF => by (go_simp <;> exact hF)), ?_⟩
  simp only [Act.put, List.setIfInBounds_toArray, List.set_cons_succ, List.set_cons_zero]
  refine ⟨fun j x hj hC => by exact Chn.upon_pure hC (fun F hF => by (go_simp <;> exact hF)), ?_⟩
  simp only [Act.put, List.setIfInBounds_toArray, List.set_cons_succ, List.set_cons_zero]
  refine ⟨fun j x hj hC => by
    have z : x.cell? ⟨pb, ia, none⟩ = some (vI a') := by rw [cell_of_row _ _ _ _ _ _ (tdC_pb hC)]; exact hva
    exact Chn.upon_pure hC (fun F hF => by (go_simp <;> exact hF)), ?_⟩
  simp only [Act.put, List.setIfInBounds_toArray, List.set_cons_succ, List.set_cons_zero]
  iterate 2 (refine ⟨fun j x hj hC => by exact Chn.upon_pure hC (fun F hF => by (go_simp <;> exact hF)), ?_⟩; simp only [Act.put, List.setIfInBounds_toArray, List.set_cons_succ, List.set_cons_zero])
  refine ⟨fun j x hj hC => by
    have z : x.cell? ⟨ob, 3, none⟩ = some (vI ib) := by rw [tdC_b hj hC, hb]
    exact Chn.upon_pure hC (fun F hF => by (go_simp <;> exact hF)), ?_⟩
  simp only [Act.put, List.setIfInBounds_toArray, List.set_cons_succ, List.set_cons_zero]
  refine ⟨fun j x hj hC => by exact Chn.upon_pure hC (fun F hF => by (go_simp <;> exact hF)), ?_⟩
  simp only [Act.put, List.setIfInBounds_toArray, List.set_cons_succ, List.set_cons_zero]
  refine ⟨fun j x hj hC => by
    have z : x.cell? ⟨pb, ib, none⟩ = some (vI b') := by rw [cell_of_row _ _ _ _ _ _ (tdC_pb hC)]; exact hvb
    exact Chn.upon_pure hC (fun F hF => by (go_simp <;> exact hF)), ?_⟩
  simp only [Act.put, List.setIfInBounds_toArray, List.set_cons_succ, List.set_cons_zero]
  refine ⟨fun j x hj hC => by exact Chn.upon_pure hC (fun F hF => by (go_simp <;> exact hF)), ?_⟩
  simp only [Act.put, List.setIfInBounds_toArray, List.set_cons_succ, List.set_cons_zero]
  refine ⟨fun x hC => by
    have z : x.cell? ⟨ob, 2, none⟩ = some (vI o.a) := by rw [cell_of_row _ _ _ _ _ _ hC.1]; rfl
    have f : x.frozen? ⟨ob, 2, none⟩ = false := frozen_of_row _ _ _ _ _ hC.1
    have hn : TdC w ob rb pb P o a' b' 1 (x.setCell ⟨ob, 2, none⟩ (vI a')) := by
      refine ⟨heap_setCell_same x ob 2 _ 33 _ hC.1, ?_, ?_, ?_⟩
      · rw [Below.heap_setCell _ _ _ _ (fun e => hobr (by have e : rb = ob := e; exact e.symm))]; exact hC.2.1
      · rw [Below.heap_setCell _ _ _ _ (fun e => hpbr e)]; exact hC.2.2.1
      · exact below_cell hC.2.2.2 hobw
    go_simp, ?_⟩
  simp only [Act.put, List.setIfInBounds_toArray, List.set_cons_succ, List.set_cons_zero]
  refine ⟨fun j x hj hC => by exact Chn.upon_pure hC (fun F hF => by (go_simp <;> exact hF)), ?_⟩
  simp only [Act.put, List.setIfInBounds_toArray, List.set_cons_succ, List.set_cons_zero]
  refine ⟨fun x hC => by
    have z : x.cell? ⟨ob, 3, none⟩ = some (vI o.b) := by rw [cell_of_row _ _ _ _ _ _ hC.1]; rfl
    have f : x.frozen? ⟨ob, 3, none⟩ = false := frozen_of_row _ _ _ _ _ hC.1
    have hn : TdC w ob rb pb P o a' b' 2 (x.setCell ⟨ob, 3, none⟩ (vI b')) := by
      refine ⟨heap_setCell_same x ob 3 _ 33 _ hC.1, ?_, ?_, ?_⟩
      · rw [Below.heap_setCell _ _ _ _ (fun e => hobr (by have e : rb = ob := e; exact e.symm))]; exact hC.2.1
      · rw [Below.heap_setCell _ _ _ _ (fun e => hpbr e)]; exact hC.2.2.1
      · exact below_cell hC.2.2.2 hobw
    go_simp, ?_⟩
  simp only [Act.put]
  intro w5 hC
  obtain ⟨h1, h2, h3, h4⟩ := hC
  have L : OpAt w5 ⟨ob, 0, none⟩ { o with a := a', b := b' } := LocO.at_ (o := { o with a := a', b := b' }) h1
  go_wp2_with (first | ((with_reducible refine wpList_load42 rfl _ rfl _ rfl _ L ?_); simp only [Act.put, List.setIfInBounds_toArray, List.set_cons_succ, List.set_cons_zero]) | ((with_reducible refine wpList_store_row rfl 33 _ _ rfl rb (opA { o with a := a', b := b' }) rfl rfl 33 _ h2 (op_inf _) rfl (op_one _) ?_); simp only [Act.put, List.setIfInBounds_toArray, List.set_cons_succ, List.set_cons_zero]))
  refine bodyPost_ret (back_told rfl (setRow_heap _ _ _ _ _ _ h2)) rfl ?_
  exact ⟨rfl, below_setRow h4 hrbw⟩
end Go.Proofs.YtejlmggfeejgpaaDoor
/- onlySeen. -/
namespace Go.Proofs.YtejlmggfeejgpaaDoor
open Go.RowKit
set_option linter.unusedVariables false
set_option linter.unusedSimpArgs false
set_option maxRecDepth 8000

theorem opF_snoc (l : List Opr) (o : Opr) : opF (l ++ [o]) = opF l ++ (opA o).toList := by simp [opF]
theorem run_mkI (w : World) (n : Nat) (hn : n ≤ 512) : (Instr.makeSlice 64 (vI n) (vI n)).run Tryd.prog w = .ok (.slice (some ⟨w.heap.size, 0, none⟩) n n) (w.alloc (.cells (madeCells #[vI 0] n) 3)) := by
  obtain ⟨i, h1, h2, h3, h4⟩ := info_parts info3
  have hr := run_makeSlice (P := Tryd.prog) w 64 3 i (vI 0) Tryd.underlying64 h1 h2 .i64 .i64 n n (by omega) (by omega) (by rw [h3, Int.toNat_natCast]; omega) (by rw [h4]; omega) (by omega)
  rw [Int.toNat_natCast, h3, Nat.mul_one] at hr
  exact hr
theorem wpList_mkI {ops : Array Oper} {rest : List Oper} {o : Oper} {a : Act} {w : World} {Q : Exit → Act → World → Prop} (hg : o.guard = none) (x : Operand) (ho : o.op = .makeSlice 64 x x) {n : Nat} (s : Nat → Bool) (hn : n ≤ 512) (hx : a.eval x = vI n)
    (h : wpList Tryd.prog ops Q rest (a.put o.dst (.slice (some ⟨w.heap.size, 0, none⟩) n n)) (w.alloc (.cells (plR s 0 n) 3))) : wpList Tryd.prog ops Q (o :: rest) a w :=
  wpList_plain hg fun _ hK => by
    unfold Oper.wp execOp
    simp only [ho, hx, Sem.run_bind, Sem.run_pure, run_mkI w n hn, Result.andThen_ok]
    rw [← plR_zero s] at h
    exact hK _ _ h
theorem run_oneO (o : Opr) (w : World) : (Instr.buildSlice 23 1 #[(0, opV o)]).run Tryd.prog w = .ok (.slice (some ⟨w.heap.size, 0, none⟩) 1 1) (w.alloc (.cells (opA o) 33)) := by
  obtain ⟨i, hi, hz, hs, hby⟩ := info_parts info42
  exact run_buildSlice (P := Tryd.prog) w 23 33 1 _ _ i (opV nilO) Tryd.underlying23 hi hz (by rw [hs]; decide) (by rw [hs]; decide) (by rw [hs]; kernel_rfl)
theorem wpList_oneO {ops : Array Oper} {rest : List Oper} {p : Oper} {a : Act} {w : World} {Q : Exit → Act → World → Prop} (hg : p.guard = none) (y : Operand) (ho : p.op = .buildSlice 23 1 #[(0, y)]) (o : Opr) (hy : a.eval y = opV o)
    (h : wpList Tryd.prog ops Q rest (a.put p.dst (.slice (some ⟨w.heap.size, 0, none⟩) 1 1)) (w.alloc (.cells (opA o) 33))) : wpList Tryd.prog ops Q (p :: rest) a w :=
  wpList_plain hg fun _ hK => by
    unfold Oper.wp execOp
    simp only [ho, Sem.run_bind, List.map_toArray, List.map_cons, List.map_nil, hy, run_oneO, Result.andThen_ok]
    exact hK _ _ h
/-- One operation laid behind others, where there is room. -/
def layC (C : Array Value) (n : Nat) (o : Opr) : Array Value := (C.toList.take (n * 6) ++ (opA o).toList ++ C.toList.drop (n * 6 + 6)).toArray
theorem wpList_appR {ops : Array Oper} {rest : List Oper} {p : Oper} {a : Act} {w : World} {Q : Exit → Act → World → Prop} (hg : p.guard = none) (s x : Operand) (ho : p.op = .call { callee := .builtin .append, args := #[s, x], argTypes := #[23, 23] }) {g n cap N : Nat} {C : Array Value} {o : Opr} (hs : a.eval s = .slice (some ⟨g, 0, none⟩) n cap) (hx : a.eval x = .slice (some ⟨N, 0, none⟩) 1 1) (hC : w.heap[g]? = some (.cells C 33)) (hN : w.heap[N]? = some (.cells (opA o) 33)) (hroom : n + 1 ≤ cap) (hfit : n * 6 + 6 ≤ C.size)
    (h : wpList Tryd.prog ops Q rest (a.put p.dst (.slice (some ⟨g, 0, none⟩) (n + 1) cap)) (w.setRow g (layC C n o))) : wpList Tryd.prog ops Q (p :: rest) a w :=
  wpList_plain hg fun _ hK => by
    obtain ⟨i, hi, hz, hsz, hby⟩ := info_parts info42
    have hr := run_append_room (P := Tryd.prog) w 23 p.type 33 i Tryd.underlying23 hi g n cap C hC ⟨N, 0, none⟩ 1 1 (opA o).toList (by rw [hsz]; rfl) (fun j u hj => by
      rw [Addr.add_mid, Nat.zero_add, cell_of_row _ _ _ _ _ _ hN]
      rwa [Array.getElem?_toList] at hj) (by simp [Value.oneCell']) hroom (by rw [hsz]; exact hfit)
    rw [hsz] at hr
    unfold Oper.wp execOp
    simp only [ho, resolve, invoke, builtin, Sem.run_bind, Sem.run_pure, Result.andThen_ok, List.map_toArray, List.map_cons, List.map_nil, hs, hx, hr]
    exact hK _ _ h
/-- Where an operation lies in a row. -/
theorem op_row {w : World} {g : Nat} {C : Array Value} {l : List Opr} {k : Nat} (hg : w.heap[g]? = some (.cells C 33)) (hk : k < l.length) (hC : ∀ j, k * 6 ≤ j → j < l.length * 6 → C[j]? = (opF l)[j]?) : OpAt w ⟨g, k * 6, none⟩ (opAt l k) := by
  have c : ∀ j, j < 6 → w.cell? ⟨g, k * 6 + j, none⟩ = (opA (opAt l k))[j]? := fun j hj => by
    rw [cell_of_row _ _ _ _ _ _ hg, hC _ (by omega) (by omega)]
    exact opF_get (opAt_some hk) j hj
  exact ⟨lt_of_some hg, c 0 (by decide), c 1 (by decide), c 2 (by decide), c 3 (by decide), c 4 (by decide), c 5 (by decide)⟩
theorem place_lt {pc words el : Int} {l : List Opr} {k : Nat} {u m : Int} (hR : rightB pc words el l = true) (hk : k < l.length) (h1 : hasP (opAt l k).kind (m) = true → u ∈ usesL (opAt l k)) (h2 : hasP (opAt l k).kind (m) = false → u = 0) : 0 ≤ u ∧ u.toNat ≤ k := by
  cases q : hasP (opAt l k).kind (m) with
  | true => have := use_lt hR hk (h1 q); exact ⟨this.1, by omega⟩
  | false => rw [h2 q]; exact ⟨by decide, by simp⟩
/-- onlySeen under way. -/
structure OsW (w : World) (l : List Opr) (R : List Value) (g sb pb cap k kp : Nat) (C : Array Value) (x : World) : Prop where
  row : x.heap[g]? = some (.cells C 33)
  sz : C.size = cap * 6
  front : C.toList.take (cntS (seenAt l) k * 6) = opF (keepF l (seenAt l) k)
  back : ∀ j, k * 6 ≤ j → j < l.length * 6 → C[j]? = (opF l)[j]?
  seen : x.heap[sb]? = some (.cells (boC (seenL l) R) 4)
  pl : x.heap[pb]? = some (.cells (plR (seenAt l) kp l.length) 3)
  goes : Goes (fun b => b = g) w x
  pbw : w.heap.size ≤ pb
section
variable {w : World} {l : List Opr} {R : List Value} {g sb pb cap k kp : Nat} {C : Array Value} {x y : World}
theorem OsW.grow (h : OsW w l R g sb pb cap k kp C x) (hb : Below x.heap.size x y) : OsW w l R g sb pb cap k kp C y :=
  ⟨keepRow h.row hb, h.sz, h.front, h.back, keepRow h.seen hb, keepRow h.pl hb, h.goes.grow hb, h.pbw⟩
theorem OsW.skip (h : OsW w l R g sb pb cap k k C x) (hs : seenAt l k = false) : OsW w l R g sb pb cap (k + 1) (k + 1) C x :=
  ⟨h.row, h.sz, by rw [cnt_off hs, keep_off hs]; exact h.front, fun j h1 h2 => h.back j (by omega) h2, h.seen, by rw [← plR_skip hs]; exact h.pl, h.goes, h.pbw⟩
theorem OsW.put (h : OsW w l R g sb pb cap k k C x) (hs : seenAt l k = true) (hk : k < l.length) : OsW w l R g sb pb cap k (k + 1) C (x.setCell ⟨pb, k, none⟩ (vI (cntS (seenAt l) k : Nat))) := by
  have n1 : ∀ {b : Nat} {Z : Array Value} {T : TypeId}, x.heap[b]? = some (.cells Z T) → T ≠ 3 → (x.setCell ⟨pb, k, none⟩ (vI (cntS (seenAt l) k : Nat))).heap[b]? = some (.cells Z T) := fun {b Z T} hb hT => by
    rw [Below.heap_setCell _ _ _ _ (fun e => by have e : b = pb := e; subst e; exact ne_of_type hb h.pl hT rfl)]; exact hb
  exact ⟨n1 h.row (by decide), h.sz, h.front, h.back, n1 h.seen (by decide), by rw [heap_setCell_same x pb k _ 3 _ h.pl, plR_set hk hs], h.goes.trans (goes_setCell (F := fun b => b = pb) x (b := pb) rfl k _) (fun b hb q => absurd q (by have := h.pbw; omega)), h.pbw⟩
theorem layC_size {n : Nat} (o : Opr) (h : n * 6 + 6 ≤ C.size) : (layC C n o).size = C.size := by
  unfold layC; simp; omega
theorem OsW.lay {o : Opr} (h : OsW w l R g sb pb cap k (k + 1) C x) (hs : seenAt l k = true) (hk : k < l.length) (hcap : l.length ≤ cap) (ho : o = tellO (opAt l k) (seenAt l)) : OsW w l R g sb pb cap (k + 1) (k + 1) (layC C (cntS (seenAt l) k) o) (x.setRow g (layC C (cntS (seenAt l) k) o)) := by
  subst ho
  have hp := h.pl
  have hle := cnt_le (seenAt l) k
  have hfit : cntS (seenAt l) k * 6 + 6 ≤ C.size := by rw [h.sz]; omega
  have n1 : ∀ {b : Nat} {Z : Array Value} {T : TypeId}, x.heap[b]? = some (.cells Z T) → T ≠ 33 → b ≠ g := fun hb hT e => by subst e; exact ne_of_type hb h.row hT rfl
  refine ⟨setRow_heap _ _ _ _ _ _ h.row, by rw [layC_size _ hfit]; exact h.sz, ?_, fun j h1 h2 => ?_, by rw [setRow_other _ _ _ _ (n1 h.seen (by decide))]; exact h.seen, by rw [setRow_other _ _ _ _ (n1 hp (by decide))]; exact hp, h.goes.trans (goes_setRow (F := fun b => b = g) x rfl _) (fun _ _ q => q), h.pbw⟩
  · rw [cnt_succ hs, keep_on hs, opF_snoc]
    unfold layC
    have hl : (C.toList.take (cntS (seenAt l) k * 6) ++ (opA (tellO (opAt l k) (seenAt l))).toList).length = (cntS (seenAt l) k + 1) * 6 := by simp; omega
    rw [List.toList_toArray, List.take_append_of_le_length (by omega), List.take_of_length_le (by omega), h.front]
  · have hb := h.back j (by omega) h2
    rw [← hb]
    unfold layC
    rw [List.getElem?_toArray, List.getElem?_append_right (by simp; omega), List.getElem?_drop, ← Array.getElem?_toList]
    congr 1
    simp
    omega
end
set_option maxHeartbeats 8000000 in
theorem only_c {w : World} {l : List Opr} {pc words el : Int} {R : List Value} {g sb cap cs : Nat} {C : Array Value} (hR : rightB pc words el l = true) (hg : w.heap[g]? = some (.cells C 33)) (hsz : C.size = cap * 6) (hcap : l.length ≤ cap) (hC : C.toList.take (l.length * 6) = opF l) (hs : w.heap[sb]? = some (.cells (boC (seenL l) R) 4)) :
    Calls Tryd.prog 25 #[.slice (some ⟨g, 0, none⟩) l.length cap, .slice (some ⟨sb, 0, none⟩) l.length cs] w fun e w' => e = .returned (.slice (some ⟨g, 0, none⟩) (onlyL l).length cap) ∧ (∃ C', w'.heap[g]? = some (.cells C' 33) ∧ C'.size = cap * 6 ∧ C'.toList.take ((onlyL l).length * 6) = opF (onlyL l)) ∧ w'.heap[sb]? = some (.cells (boC (seenL l) R) 4) ∧ Goes (fun b => b = g) w w' := by
  obtain ⟨h0, h512, -⟩ := right_lens hR
  have hback : ∀ j, 0 * 6 ≤ j → j < l.length * 6 → C[j]? = (opF l)[j]? := fun j _ h2 => by
    rw [← hC, ← Array.getElem?_toList, List.getElem?_take, if_pos h2]
  have hb1 := below_alloc w (.cells (plR (seenAt l) 0 l.length) 3)
  have X0 : OsW w l R g sb w.heap.size cap 0 0 C (w.alloc (.cells (plR (seenAt l) 0 l.length) 3)) :=
    ⟨keepRow hg hb1, hsz, by show C.toList.take 0 = _; rw [List.take_zero]; rfl, hback, keepRow hs hb1, heap_alloc_new _ _, goes_of_below hb1, Nat.le_refl _⟩
  have hslen := seenL_len l
  have hz : ∀ j, (cntS (seenAt l) j ≤ j) := cnt_le _
  go_enter Tryd.func25, Tryd.ntmps25
  go_upto_region 2 with (first | ((with_reducible refine wpList_mkI rfl _ rfl (seenAt l) h512 rfl ?_); simp only [Act.put, List.setIfInBounds_toArray, List.set_cons_succ, List.set_cons_zero]))
  generalize w.alloc (.cells (plR (seenAt l) 0 l.length) 3) = w1 at *
  generalize w.heap.size = pb at *
  clear hb1 hg hs
  go_upto_region 4 with fail
  go_loopw [6, 16] (fun s6 s16 wr => ∃ k : Nat, k ≤ l.length ∧ s16 = vI k ∧ s6 = .slice (some ⟨g, 0, none⟩) (cntS (seenAt l) k) cap ∧ ∃ C, OsW w l R g sb pb cap k k C wr) (fun _ s16 _ => ((l.length : Int) - intOf s16).toNat)
  case atStart => exact ⟨0, Nat.zero_le _, rfl, rfl, C, X0⟩
  case round =>
    clear X0 hback hC hsz
    obtain ⟨k, hk, rfl, rfl, C, X⟩ := hrel
    by_cases hlt : (k : Int) < l.length
    · have hkl : k < l.length := by omega
      have A := op_row X.row hkl X.back
      have Hn := has_none wr
      have hcl := hz k
      go_upto_region 6 with (first | ((with_reducible refine wpList_load42 rfl _ rfl _ rfl _ A ?_); simp only [Act.put, List.setIfInBounds_toArray, List.set_cons_succ, List.set_cons_zero]) | ((with_reducible refine wpList_store_new Hn rfl 33 _ _ rfl (opA (opAt l k)) rfl rfl (op_inf _) rfl (op_one _) ?_); clear Hn; intro w5 Hn; simp only [Act.put, List.setIfInBounds_toArray, List.set_cons_succ, List.set_cons_zero]))
      have L : LocO wr.heap.size (opAt l k) w5 := Hn.get List.mem_cons_self
      replace X := X.grow Hn.below
      have hpo : pb < wr.heap.size ∨ True := .inr trivial
      clear Hn A hpo
      generalize wr.heap.size = t at *
      have z := bo_cell X.seen (k := k) (by omega)
      have hsk : (seenL l).getD k false = seenAt l k := rfl
      rw [hsk] at z
      cases hs : seenAt l k with
      | false =>
        rw [hs] at z
        have X2 := X.skip hs
        have hc2 := cnt_off hs
        clear X L
        go_wp2
        go_roundw
        case rel => exact ⟨k + 1, by omega, by go_num, by rw [hc2], C, X2⟩
        case measure => simp [intOf]; omega
      | true =>
        rw [hs] at z
        go_upto_region 7 with fail
        clear z
        have zp : w5.cell? ⟨pb, k, none⟩ = some (vI 0) := by
          rw [cell_of_row _ _ _ _ _ _ X.pl, plR_get hkl, if_neg (by omega)]
        have fp : w5.frozen? ⟨pb, k, none⟩ = false := frozen_of_row _ _ _ _ _ X.pl
        have hbl : (cntS (seenAt l) k : Int) < 9223372036854775808 := by omega
        go_upto_region 8 with fail
        have hL5 : (w5.setCell ⟨pb, k, none⟩ (vI (cntS (seenAt l) k : Nat))).heap[t]? = some (.cells (opA (opAt l k)) 33) := by
          rw [Below.heap_setCell _ _ _ _ (fun e => by have e : t = pb := e; subst e; exact ne_of_type L X.pl (by decide) rfl)]; exact L
        replace X := X.put hs hkl
        clear L zp fp
        generalize w5.setCell ⟨pb, k, none⟩ (vI (cntS (seenAt l) k : Nat)) = w6 at *
        have hpa := place_lt (u := (opAt l k).a) hR hkl (fun q => uses_a q) (fun q => noA (right_at hR hkl) q)
        have hpb := place_lt (u := (opAt l k).b) hR hkl (fun q => uses_b q) (fun q => noB (right_at hR hkl) q)
        have kt := told_c (o := opAt l k) (n := l.length) X.pl (Int.toNat_of_nonneg hpa.1).symm (Int.toNat_of_nonneg hpb.1).symm (by omega) (by omega) (by rw [plR_get (by omega), if_pos (by omega)]) (by rw [plR_get (by omega), if_pos (by omega)])
        have LL : LocO t (opAt l k) w6 := hL5
        have hfit : cntS (seenAt l) k * 6 + 6 ≤ C.size := by rw [X.sz]; omega
        clear hL5 hpa hpb hR
        go_wp2_with (first | ((with_reducible refine wpList_load42 rfl _ rfl _ rfl _ (LL.at_) ?_); simp only [Act.put, List.setIfInBounds_toArray, List.set_cons_succ, List.set_cons_zero]) | (go_at_call 40; (with_reducible refine kt.mono ?_); clear kt LL; rintro e w7 ⟨rfl, B⟩; dsimp only; replace X := X.grow B; clear B) | ((with_reducible refine wpList_oneO rfl _ rfl (tellO (opAt l k) (seenAt l)) rfl ?_); simp only [Act.put, List.setIfInBounds_toArray, List.set_cons_succ, List.set_cons_zero]; have hN := heap_alloc_new w7 (.cells (opA (tellO (opAt l k) (seenAt l))) 33); replace X := X.grow (below_alloc w7 (.cells (opA (tellO (opAt l k) (seenAt l))) 33)); generalize w7.alloc (.cells (opA (tellO (opAt l k) (seenAt l))) 33) = w8 at *; generalize w7.heap.size = t8 at *) | (at_builtin; (with_reducible refine wpList_appR rfl _ _ rfl rfl rfl X.row hN (by omega) hfit ?_); simp only [Act.put, List.setIfInBounds_toArray, List.set_cons_succ, List.set_cons_zero]))
        go_roundw
        case rel => exact ⟨k + 1, by omega, by go_num, by rw [cnt_succ hs], _, X.lay hs hkl hcap rfl⟩
        case measure => simp [intOf]; omega
    · have e : k = l.length := by omega
      subst e
      have hlen := only_len l
      go_wp2
      go_ret
      exact ⟨by first | rfl | (rw [hlen]; rfl), ⟨C, X.row, X.sz, by first | exact X.front | (rw [hlen]; exact X.front)⟩, X.seen, X.goes⟩
end Go.Proofs.YtejlmggfeejgpaaDoor
