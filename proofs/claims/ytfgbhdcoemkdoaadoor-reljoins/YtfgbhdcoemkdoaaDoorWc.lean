/- The document's Closed, Loop. -/
import Derived.Test.YtfgbhdcoemkdoaaDoorWb
namespace Go.Proofs.YtfgbhdcoemkdoaaDoor
open Go.RowKit
set_option linter.unusedVariables false
set_option linter.unusedSimpArgs false
set_option maxRecDepth 8000

open Rlw
/-- The table on its way: rows below a, and of row a those below b, have k as a thing between. -/
def cT (R : Nat → Nat → Bool) (k a b : Nat) : Nat → Nat → Bool := fun x y => if x < a ∨ (x = a ∧ y < b) then war R (k + 1) x y else war R k x y
theorem war_col (R : Nat → Nat → Bool) (k a : Nat) : war R (k + 1) a k = war R k a k := by
  show (war R k a k || (war R k a k && war R k k k)) = war R k a k
  cases war R k a k <;> simp
theorem war_row (R : Nat → Nat → Bool) (k b : Nat) : war R (k + 1) k b = war R k k b := by
  show (war R k k b || (war R k k k && war R k k b)) = war R k k b
  cases war R k k b <;> simp
theorem cT_ab (R : Nat → Nat → Bool) (k a b : Nat) : cT R k a b a b = war R k a b := by unfold cT; rw [if_neg (by omega)]
theorem cT_ak (R : Nat → Nat → Bool) (k a b : Nat) : cT R k a b a k = war R k a k := by unfold cT; rw [war_col]; split <;> rfl
theorem cT_kb (R : Nat → Nat → Bool) (k a b : Nat) : cT R k a b k b = war R k k b := by unfold cT; rw [war_row]; split <;> rfl
theorem cT_put (R : Nat → Nat → Bool) (k a b : Nat) : upT (cT R k a b) a b (war R k a b || (war R k a k && war R k k b)) = cT R k a (b + 1) := by
  funext x y
  unfold upT cT
  by_cases e : x = a ∧ y = b
  · obtain ⟨rfl, rfl⟩ := e
    rw [if_pos ⟨rfl, rfl⟩, if_pos (by omega)]; rfl
  · rw [if_neg e]
    by_cases h : x < a ∨ (x = a ∧ y < b)
    · rw [if_pos h, if_pos (by omega)]
    · rw [if_neg h, if_neg (by omega)]
theorem fits_false {n : Nat} {R : Nat → Nat → Bool} (h : Fits n R) {x y : Nat} (hn : ¬ (x < n ∧ y < n)) : R x y = false := by
  cases e : R x y with
  | false => rfl
  | true => exact absurd (h x y e) hn
theorem cT_next {R : Nat → Nat → Bool} {n : Nat} (h : Fits n R) (k a : Nat) : cT R k a n = cT R k (a + 1) 0 := by
  funext x y
  unfold cT
  by_cases e : x < a ∨ (x = a ∧ y < n)
  · rw [if_pos e, if_pos (by omega)]
  · rw [if_neg e]
    by_cases e2 : x < a + 1 ∨ (x = a + 1 ∧ y < 0)
    · rw [if_pos e2, fits_false (h.wa k) (by omega), fits_false (h.wa (k + 1)) (by omega)]
    · rw [if_neg e2]
theorem cT_end {R : Nat → Nat → Bool} {n : Nat} (h : Fits n R) (k : Nat) : cT R k n 0 = cT R (k + 1) 0 0 := by
  funext x y
  unfold cT
  rw [if_neg (show ¬ (x < 0 ∨ (x = 0 ∧ y < 0)) by omega)]
  by_cases e : x < n ∨ (x = n ∧ y < 0)
  · rw [if_pos e]
  · rw [if_neg e, fits_false (h.wa k) (by omega), fits_false (h.wa (k + 1)) (by omega)]
theorem cT_zero (R : Nat → Nat → Bool) (k : Nat) : cT R k 0 0 = war R k := by
  funext x y
  unfold cT
  rw [if_neg (by omega)]
def ClC (w : World) (n : Nat) (T : Nat → Nat → Bool) : Nat → World → Prop
  | 0, w1 => w1.heap = w.heap ∧ Below w.heap.size w w1
  | 1, w1 => DI w w.heap.size n T w1
  | _, _ => False
theorem clC_low {w w1 : World} {n j : Nat} {T : Nat → Nat → Bool} (hC : ClC w n T j w1) : Below w.heap.size w w1 := by
  match j, hC with
  | 0, hC => exact hC.2
  | 1, hC => exact DI.low hC
  | _ + 2, hC => exact False.elim hC
theorem clC_new {w w1 : World} {n : Nat} {T : Nat → Nat → Bool} (hn : n ≤ 64) (hC : ClC w n T 0 w1) : DI w w.heap.size n T (w1.alloc (.cells (vI n :: bl T).toArray 38)) := by
  obtain ⟨h1, h2⟩ := hC
  have e : w1.heap.size = w.heap.size := congrArg Array.size h1
  have hr : RefAt w1.heap.size n T (w1.alloc (.cells (vI n :: bl T).toArray 38)) := ⟨World.alloc_heap_new w1 _, hn⟩
  rw [e] at hr
  exact ⟨hr, h2.trans ((below_alloc _ _).mono h2.size), Nat.le_refl _⟩
theorem chn_load36 {o : Oper} {a : Act} {w : World} {C : World → Prop} (x : Operand) (ho : o.op = .load 36 x) {r n : Nat} {T : Nat → Nat → Bool} (hx : a.eval x = .pointer (some ⟨r, 1, none⟩)) (H : RefAt r n T w) (hC : C w) :
    Chn.upon Tryd.prog (fun v w' => v = .agg (bl T).toArray ∧ C w') w ((execOp a.eval o).run Tryd.prog w) := by
  have hr : w.rangeAt r 1 (bl T) := fun j v hv => by
    have hj : j < 4096 := by have := (List.getElem?_eq_some_iff.1 hv).1; rwa [bl_len] at this
    have hg := bl_get T (a := j / 64) (b := j % 64) (by omega) (by omega)
    rw [show j / 64 * 64 + j % 64 = j by omega, hv] at hg
    have hc := H.cell (a := j / 64) (b := j % 64) (by omega) (by omega)
    rw [show 1 + j / 64 * 64 + j % 64 = 1 + j by omega] at hc
    rw [hc]; exact hg.symm
  unfold execOp
  simp only [ho, hx, Instr.loadAt, Instr.sureAddr, Sem.run_bind, Sem.run_pure, Result.andThen_ok, run_loadVar_mid w r 1 36 (bl T) _ hr Tryd.underlying36 rfl (by rw [bl_len]; kernel_rfl)]
  exact ⟨rfl, hC⟩
theorem fold_put (off : Nat) : ∀ (vs : List Value) (k : Nat) (cs : Array Value), off + k + vs.length ≤ cs.size → ((vs.zipIdx k).foldl (fun (cs : Array Value) (p : Value × Nat) => cs.setIfInBounds (off + p.2) p.1) cs).toList = cs.toList.take (off + k) ++ vs ++ cs.toList.drop (off + k + vs.length)
  | [], k, cs, _ => by simp
  | v :: vs, k, cs, h => by
    rw [List.zipIdx_cons, List.foldl_cons, fold_put off vs (k + 1) _ (by simp at h ⊢; omega)]
    have hlt : off + k < cs.toList.length := by simp at h ⊢; omega
    rw [Array.toList_setIfInBounds]
    apply List.ext_getElem?
    intro i
    simp only [List.getElem?_append, List.length_append, List.length_take, List.length_set, List.length_cons, List.getElem?_take, List.getElem?_drop, List.getElem?_set]
    have hs : cs.toList.length = cs.size := by simp
    simp only [List.length_cons] at h
    rw [Nat.min_eq_left (by omega), Nat.min_eq_left (by omega)]
    by_cases h1 : i < off + k
    · repeat (first | rw [if_pos (by omega)] | rw [if_neg (by omega)])
    · by_cases h2 : i = off + k
      · subst h2
        repeat (first | rw [if_pos (by omega)] | rw [if_neg (by omega)])
        simp
      · by_cases h3 : i < off + k + 1 + vs.length
        · repeat (first | rw [if_pos (by omega)] | rw [if_neg (by omega)])
          rw [show i - (off + k) = (i - (off + (k + 1))) + 1 by omega, List.getElem?_cons_succ]
        · repeat (first | rw [if_pos (by omega)] | rw [if_neg (by omega)])
          congr 1
          omega
theorem fill_cons (place : Nat → Option (Nat × Nat)) (cs : Array Value) (p : Nat × Value) (rest : List (Nat × Value)) {c : Array Value} (h : Instr.fill place cs [p] = some c) : Instr.fill place cs (p :: rest) = Instr.fill place c rest := by
  obtain ⟨i, v⟩ := p
  unfold Instr.fill at h ⊢
  cases hp : place i with
  | none => rw [hp] at h; cases h
  | some q =>
    obtain ⟨off, size⟩ := q
    rw [hp] at h
    simp only at h ⊢
    split at h
    · cases h
    · rename_i hn
      rw [if_neg hn]
      simp only [Instr.fill, Option.some.injEq] at h
      rw [h]
      cases rest <;> rfl
theorem fill_one (place : Nat → Option (Nat × Nat)) (hp : place 1 = some (1, 4096)) {L M : List Value} (hL : L.length = 4096) (x : Value) (hM : M.length = 4096) : Instr.fill place (x :: M).toArray [(1, .agg L.toArray)] = some (x :: L).toArray := by
  have hsz : L.toArray.size = 4096 := by rw [List.size_toArray, hL]
  have hsz2 : (x :: M).toArray.size = 4097 := by rw [List.size_toArray, List.length_cons, hM]
  have hf := fold_put 1 L 0 (x :: M).toArray (by rw [hsz2, hL]; decide)
  unfold Instr.fill
  simp only [hp, Value.cells, hsz, hsz2]
  rw [if_neg (by decide)]
  unfold Instr.fill
  refine congrArg some (Array.ext' ?_)
  rw [← Array.foldl_toList, Array.toList_zipIdx]
  refine Eq.trans hf ?_
  rw [hL, List.drop_eq_nil_of_le (by show (x :: M).length ≤ _; rw [List.length_cons, hM]; decide), List.append_nil]
  show List.take (0 + 1) (x :: M) ++ L = x :: L
  rw [List.take_succ_cons, List.take_zero]
  rfl
theorem built38 (n : Nat) (T : Nat → Nat → Bool) : Tryd.prog.built 38 [(0, vI n), (1, .agg (bl T).toArray)] = some (vI n :: bl T).toArray := by
  have h0 := zero38 n
  have hpl : (Tryd.prog.fieldsOf 38).toList.mapM (fun f => (Tryd.prog.info? f.type).map fun i => (f.offset, i.size)) = some [(0, 1), (1, 4096)] := by kernel_rfl
  have hu : Tryd.prog.underlying 38 = some (.struct (Tryd.prog.fieldsOf 38)) := by rw [Program.fieldsOf, Tryd.underlying38]
  unfold Program.built at h0 ⊢
  rw [hu] at h0 ⊢
  cases hi : Tryd.prog.info? 38 with
  | none => rw [hi] at h0; cases h0
  | some it =>
    rw [hi] at h0
    simp only [hpl] at h0 ⊢
    cases hz : it.zero with
    | none => rw [hz] at h0; cases h0
    | some z =>
      rw [hz] at h0
      simp only at h0 ⊢
      rw [fill_cons _ _ _ _ h0]
      exact fill_one _ rfl (bl_len T) (vI n) (bl_len _)
theorem chn_build38 {o : Oper} {a : Act} {w : World} {C : World → Prop} (x y : Operand) (ho : o.op = .build 38 #[(0, x), (1, y)]) {n : Nat} {T : Nat → Nat → Bool} (hx : a.eval x = vI n) (hy : a.eval y = .agg (bl T).toArray) (hC : C w) :
    Chn.upon Tryd.prog (fun v w' => v = .agg (vI n :: bl T).toArray ∧ C w') w ((execOp a.eval o).run Tryd.prog w) := by
  have hb := run_build (P := Tryd.prog) w 38 #[(0, vI n), (1, .agg (bl T).toArray)] _ (built38 n T)
  unfold execOp
  simp only [ho, Sem.run_bind, List.map_toArray, List.map_cons, List.map_nil, hx, hy, hb, Result.andThen_ok]
  exact ⟨rfl, hC⟩
theorem chn_box38 {o : Oper} {a : Act} {w : World} {C : World → Prop} (x : Operand) (ho : o.op = .box 38 x) {cs : Array Value} (hx : a.eval x = .agg cs) {b : Nat} (hb : w.heap.size = b) (hC : C (w.alloc (.cells cs 38))) :
    Chn.upon Tryd.prog (fun v w' => v = ptr b 0 ∧ C w') w ((execOp a.eval o).run Tryd.prog w) := by
  subst hb
  unfold execOp
  simp only [ho, Sem.run_bind, Instr.box, newVar, newRow, run_newObj_alloc, Sem.run_pure, Result.andThen_ok, hx]
  exact ⟨rfl, hC⟩
set_option maxHeartbeats 8000000 in
theorem docClosed_c {x n : Nat} {T : Nat → Nat → Bool} {w : World} (H : RefAt x n T w) (hf : Fits n T) : Calls Tryd.prog 16 #[ptr x 0] w fun e w' => ∃ t, e = .returned (ptr t 0) ∧ DI w t n (war T n) w' := by
  have hle := H.le
  go_enter Tryd.func16, Tryd.ntmps16
  go_upto_region 1 with fail
  have hst : (ClC w n T) 0 { w with drawn := w.drawn + 1 } := ⟨rfl, Rel.below_draws (n := 1) (Below.refl _ _)⟩
  refine Chn.wp_region_chainL (ClC w n T) [9] [1, 1, 1, 1, 1, 1, 1, 1, 1, 1, 1] [ptr x 0, ptr x 0, ptr x 0, vI n, ptr x 0, ptr x 0, ptr x 1, .agg (bl T).toArray, .agg (vI n :: bl T).toArray, ptr w.heap.size 0, ptr w.heap.size 0] (by kernel_rfl) (by kernel_rfl) (by kernel_rfl) (by kernel_rfl) (by kernel_rfl) hst ?_
  clear hst
  refine ⟨fun j w1 hj hC => by exact Chn.upon_pure hC (fun F hF => by (go_simp <;> exact hF)), ?_⟩
  simp only [Act.put, List.setIfInBounds_toArray, List.set_cons_succ, List.set_cons_zero]
  refine ⟨fun j w1 hj hC => by exact Chn.upon_pure hC (fun F hF => by (go_simp <;> exact hF)), ?_⟩
  simp only [Act.put, List.setIfInBounds_toArray, List.set_cons_succ, List.set_cons_zero]
  refine ⟨fun j w1 hj hC => by exact Chn.upon_pure hC (fun F hF => by (go_simp <;> exact hF)), ?_⟩
  simp only [Act.put, List.setIfInBounds_toArray, List.set_cons_succ, List.set_cons_zero]
  refine ⟨fun j w1 hj hC => by
    have z := (H.grow (clC_low hC)).c0
    exact Chn.upon_pure hC (fun F hF => by (go_simp <;> exact hF)), ?_⟩
  simp only [Act.put, List.setIfInBounds_toArray, List.set_cons_succ, List.set_cons_zero]
  refine ⟨fun j w1 hj hC => by exact Chn.upon_pure hC (fun F hF => by (go_simp <;> exact hF)), ?_⟩
  simp only [Act.put, List.setIfInBounds_toArray, List.set_cons_succ, List.set_cons_zero]
  refine ⟨fun j w1 hj hC => by exact Chn.upon_pure hC (fun F hF => by (go_simp <;> exact hF)), ?_⟩
  simp only [Act.put, List.setIfInBounds_toArray, List.set_cons_succ, List.set_cons_zero]
  refine ⟨fun j w1 hj hC => by exact Chn.upon_pure hC (fun F hF => by (go_simp <;> exact hF)), ?_⟩
  simp only [Act.put, List.setIfInBounds_toArray, List.set_cons_succ, List.set_cons_zero]
  refine ⟨fun j w1 hj hC => by exact chn_load36 _ rfl rfl (H.grow (clC_low hC)) hC, ?_⟩
  simp only [Act.put, List.setIfInBounds_toArray, List.set_cons_succ, List.set_cons_zero]
  refine ⟨fun j w1 hj hC => by exact chn_build38 _ _ rfl rfl rfl hC, ?_⟩
  simp only [Act.put, List.setIfInBounds_toArray, List.set_cons_succ, List.set_cons_zero]
  refine ⟨fun w1 hC => by exact chn_box38 (C := ClC w n T 1) _ rfl rfl (congrArg Array.size hC.1) (clC_new hle hC), ?_⟩
  simp only [Act.put, List.setIfInBounds_toArray, List.set_cons_succ, List.set_cons_zero]
  refine ⟨fun j w1 hj hC => by exact Chn.upon_pure hC (fun F hF => by (go_simp <;> exact hF)), ?_⟩
  simp only [Act.put, List.setIfInBounds_toArray, List.set_cons_succ, List.set_cons_zero]
  intro w5 hC
  have hD0 : DI w w.heap.size n (cT T 0 0 0) w5 := DI.to hC (by rw [cT_zero]; rfl)
  clear hC
  generalize ht : w.heap.size = t at hD0
  have hto : w.heap.size = t := ht
  go_wp2
  go_loopw [4] (fun sk wr => ∃ k : Nat, k ≤ n ∧ sk = vI k ∧ Hid (DI w t n (cT T k 0 0) wr)) (fun sk _ => 64 - (intOf sk).toNat)
  case atStart => exact ⟨0, Nat.zero_le _, rfl, hD0⟩
  case round =>
    obtain ⟨k, hkn, rfl, hH⟩ := hrel
    have hD := hH.out
    clear hH hD0
    have c0 := (H.grow hD.low).c0
    by_cases hlt : (k : Int) < n
    · have hkl : k < n := by omega
      have hk64 : k < 64 := by omega
      have hk64i : (k : Int) < 64 := by omega
      go_wp2
      clear c0
      go_loopw [5] (fun sa wr => ∃ a : Nat, a ≤ n ∧ sa = vI a ∧ Hid (DI w t n (cT T k a 0) wr)) (fun sa _ => 64 - (intOf sa).toNat)
      case atStart => exact ⟨0, Nat.zero_le _, rfl, hD⟩
      case round =>
        obtain ⟨a, han, rfl, hH⟩ := hrel
        clear hD
        have hD := hH.out
        clear hH
        have c0 := (H.grow hD.low).c0
        by_cases hlt2 : (a : Int) < n
        · have hal : a < n := by omega
          have ha64 : a < 64 := by omega
          have ha64i : (a : Int) < 64 := by omega
          go_wp2
          clear c0
          go_loopw [6] (fun sb wr => ∃ b : Nat, b ≤ n ∧ sb = vI b ∧ Hid (DI w t n (cT T k a b) wr)) (fun sb _ => 64 - (intOf sb).toNat)
          case atStart => exact ⟨0, Nat.zero_le _, rfl, hD⟩
          case round =>
            obtain ⟨b, hbn, rfl, hH⟩ := hrel
            clear hD
            have hD := hH.out
            clear hH
            have c0 := (H.grow hD.low).c0
            by_cases hlt3 : (b : Int) < n
            · have hbl : b < n := by omega
              have hb64 : b < 64 := by omega
              have hb64i : (b : Int) < 64 := by omega
              have cab : ∀ w1, Below wr.heap.size wr w1 → w1.cell? ⟨t, 1 + a * 64 + b, none⟩ = some (.bool (war T k a b)) := fun w1 h1 => by rw [← cT_ab T k a b]; exact (hD.grow h1).row.cell ha64 hb64
              have cak : ∀ w1, Below wr.heap.size wr w1 → w1.cell? ⟨t, 1 + a * 64 + k, none⟩ = some (.bool (war T k a k)) := fun w1 h1 => by rw [← cT_ak T k a b]; exact (hD.grow h1).row.cell ha64 hk64
              have ckb : ∀ w1, Below wr.heap.size wr w1 → w1.cell? ⟨t, 1 + k * 64 + b, none⟩ = some (.bool (war T k k b)) := fun w1 h1 => by rw [← cT_kb T k a b]; exact (hD.grow h1).row.cell hk64 hb64
              have hput := cT_put T k a b
              generalize war T k a b = ab at cab hput
              generalize war T k a k = ak at cak hput
              generalize war T k k b = kb at ckb hput
              replace hput := show Hid _ from hput
              cases ab with
              | true =>
                go_upto_region 11 with fail
                have hst : (StC wr (fun w1 => DI w t n (cT T k a (b + 1)) w1)) 0 { wr with drawn := wr.drawn + 1 } := Rel.below_draws (n := 1) (Below.refl _ _)
                refine Chg.wp_region_chainG (StC wr (fun w1 => DI w t n (cT T k a (b + 1)) w1)) [35] [1, 1, 1, 1, 1, 1, 1, 1, 1, 1, 0, 1, 1, 1, 1, 1, 1, 1, 1, 1, 1, 1, 1, 1, 1, 1, 1, 1, 1, 1, 1, 1, 1, 1, 1, 1] [ptr t 0, vI a, vI b, ptr t 0, vI a, vI b, ptr t 0, ptr t 1, ptr t (1 + a * 64), ptr t (1 + a * 64 + b), .bool true, .bool true, undef, undef, undef, undef, undef, undef, undef, undef, undef, undef, undef, undef, undef, undef, undef, undef, undef, undef, .bool true, ptr t 0, ptr t 1, ptr t (1 + a * 64), ptr t (1 + a * 64 + b), undef] (by kernel_rfl) (by kernel_rfl) (by kernel_rfl) (by kernel_rfl) (by kernel_rfl) hst ?_
                clear hst
                refine ⟨fun j w1 hj hC => Chg.uponW_yes (by rfl) (by exact Chn.upon_pure hC (fun F hF => by (go_simp <;> exact hF))), ?_⟩
                simp only [Act.put, List.setIfInBounds_toArray, List.set_cons_succ, List.set_cons_zero]
                refine ⟨fun j w1 hj hC => Chg.uponW_yes (by rfl) (by exact Chn.upon_pure hC (fun F hF => by (go_simp <;> exact hF))), ?_⟩
                simp only [Act.put, List.setIfInBounds_toArray, List.set_cons_succ, List.set_cons_zero]
                refine ⟨fun j w1 hj hC => Chg.uponW_yes (by rfl) (by exact Chn.upon_pure hC (fun F hF => by (go_simp <;> exact hF))), ?_⟩
                simp only [Act.put, List.setIfInBounds_toArray, List.set_cons_succ, List.set_cons_zero]
                refine ⟨fun j w1 hj hC => Chg.uponW_yes (by rfl) (by exact Chn.upon_pure hC (fun F hF => by (go_simp <;> exact hF))), ?_⟩
                simp only [Act.put, List.setIfInBounds_toArray, List.set_cons_succ, List.set_cons_zero]
                refine ⟨fun j w1 hj hC => Chg.uponW_yes (by rfl) (by exact Chn.upon_pure hC (fun F hF => by (go_simp <;> exact hF))), ?_⟩
                simp only [Act.put, List.setIfInBounds_toArray, List.set_cons_succ, List.set_cons_zero]
                refine ⟨fun j w1 hj hC => Chg.uponW_yes (by rfl) (by exact Chn.upon_pure hC (fun F hF => by (go_simp <;> exact hF))), ?_⟩
                simp only [Act.put, List.setIfInBounds_toArray, List.set_cons_succ, List.set_cons_zero]
                refine ⟨fun j w1 hj hC => Chg.uponW_yes (by rfl) (by exact Chn.upon_pure hC (fun F hF => by (go_simp <;> exact hF))), ?_⟩
                simp only [Act.put, List.setIfInBounds_toArray, List.set_cons_succ, List.set_cons_zero]
                refine ⟨fun j w1 hj hC => Chg.uponW_yes (by rfl) (by exact Chn.upon_pure hC (fun F hF => by (go_simp <;> exact hF))), ?_⟩
                simp only [Act.put, List.setIfInBounds_toArray, List.set_cons_succ, List.set_cons_zero]
                refine ⟨fun j w1 hj hC => Chg.uponW_yes (by rfl) (by exact Chn.upon_pure hC (fun F hF => by (go_simp <;> exact hF))), ?_⟩
                simp only [Act.put, List.setIfInBounds_toArray, List.set_cons_succ, List.set_cons_zero]
                refine ⟨fun j w1 hj hC => Chg.uponW_yes (by rfl) (by exact Chn.upon_pure hC (fun F hF => by (go_simp <;> exact hF))), ?_⟩
                simp only [Act.put, List.setIfInBounds_toArray, List.set_cons_succ, List.set_cons_zero]
                refine ⟨fun j w1 hj hC => Chg.uponW_yes (by rfl) (by
                  have z := cab w1 (stC_low hj hC)
                  exact Chn.upon_pure hC (fun F hF => by (go_simp <;> exact hF))), ?_⟩
                simp only [Act.put, List.setIfInBounds_toArray, List.set_cons_succ, List.set_cons_zero]
                refine ⟨fun j w1 hj hC => Chg.uponW_yes (by rfl) (by exact Chn.upon_pure hC (fun F hF => by (go_simp <;> exact hF))), ?_⟩
                simp only [Act.put, List.setIfInBounds_toArray, List.set_cons_succ, List.set_cons_zero]
                refine ⟨fun j w1 hj hC => Chg.uponW_no (by rfl) ⟨rfl, hC⟩, ?_⟩
                simp only [Act.put, List.setIfInBounds_toArray, List.set_cons_succ, List.set_cons_zero]
                refine ⟨fun j w1 hj hC => Chg.uponW_no (by rfl) ⟨rfl, hC⟩, ?_⟩
                simp only [Act.put, List.setIfInBounds_toArray, List.set_cons_succ, List.set_cons_zero]
                refine ⟨fun j w1 hj hC => Chg.uponW_no (by rfl) ⟨rfl, hC⟩, ?_⟩
                simp only [Act.put, List.setIfInBounds_toArray, List.set_cons_succ, List.set_cons_zero]
                refine ⟨fun j w1 hj hC => Chg.uponW_no (by rfl) ⟨rfl, hC⟩, ?_⟩
                simp only [Act.put, List.setIfInBounds_toArray, List.set_cons_succ, List.set_cons_zero]
                refine ⟨fun j w1 hj hC => Chg.uponW_no (by rfl) ⟨rfl, hC⟩, ?_⟩
                simp only [Act.put, List.setIfInBounds_toArray, List.set_cons_succ, List.set_cons_zero]
                refine ⟨fun j w1 hj hC => Chg.uponW_no (by rfl) ⟨rfl, hC⟩, ?_⟩
                simp only [Act.put, List.setIfInBounds_toArray, List.set_cons_succ, List.set_cons_zero]
                refine ⟨fun j w1 hj hC => Chg.uponW_no (by rfl) ⟨rfl, hC⟩, ?_⟩
                simp only [Act.put, List.setIfInBounds_toArray, List.set_cons_succ, List.set_cons_zero]
                refine ⟨fun j w1 hj hC => Chg.uponW_no (by rfl) ⟨rfl, hC⟩, ?_⟩
                simp only [Act.put, List.setIfInBounds_toArray, List.set_cons_succ, List.set_cons_zero]
                refine ⟨fun j w1 hj hC => Chg.uponW_no (by rfl) ⟨rfl, hC⟩, ?_⟩
                simp only [Act.put, List.setIfInBounds_toArray, List.set_cons_succ, List.set_cons_zero]
                refine ⟨fun j w1 hj hC => Chg.uponW_no (by rfl) ⟨rfl, hC⟩, ?_⟩
                simp only [Act.put, List.setIfInBounds_toArray, List.set_cons_succ, List.set_cons_zero]
                refine ⟨fun j w1 hj hC => Chg.uponW_no (by rfl) ⟨rfl, hC⟩, ?_⟩
                simp only [Act.put, List.setIfInBounds_toArray, List.set_cons_succ, List.set_cons_zero]
                refine ⟨fun j w1 hj hC => Chg.uponW_no (by rfl) ⟨rfl, hC⟩, ?_⟩
                simp only [Act.put, List.setIfInBounds_toArray, List.set_cons_succ, List.set_cons_zero]
                refine ⟨fun j w1 hj hC => Chg.uponW_no (by rfl) ⟨rfl, hC⟩, ?_⟩
                simp only [Act.put, List.setIfInBounds_toArray, List.set_cons_succ, List.set_cons_zero]
                refine ⟨fun j w1 hj hC => Chg.uponW_no (by rfl) ⟨rfl, hC⟩, ?_⟩
                simp only [Act.put, List.setIfInBounds_toArray, List.set_cons_succ, List.set_cons_zero]
                refine ⟨fun j w1 hj hC => Chg.uponW_no (by rfl) ⟨rfl, hC⟩, ?_⟩
                simp only [Act.put, List.setIfInBounds_toArray, List.set_cons_succ, List.set_cons_zero]
                refine ⟨fun j w1 hj hC => Chg.uponW_no (by rfl) ⟨rfl, hC⟩, ?_⟩
                simp only [Act.put, List.setIfInBounds_toArray, List.set_cons_succ, List.set_cons_zero]
                refine ⟨fun j w1 hj hC => Chg.uponW_no (by rfl) ⟨rfl, hC⟩, ?_⟩
                simp only [Act.put, List.setIfInBounds_toArray, List.set_cons_succ, List.set_cons_zero]
                refine ⟨fun j w1 hj hC => Chg.uponW_no (by rfl) ⟨rfl, hC⟩, ?_⟩
                simp only [Act.put, List.setIfInBounds_toArray, List.set_cons_succ, List.set_cons_zero]
                refine ⟨fun j w1 hj hC => Chg.uponW_yes (by rfl) (by exact Chn.upon_pure hC (fun F hF => by (go_simp <;> exact hF))), ?_⟩
                simp only [Act.put, List.setIfInBounds_toArray, List.set_cons_succ, List.set_cons_zero]
                refine ⟨fun j w1 hj hC => Chg.uponW_yes (by rfl) (by exact Chn.upon_pure hC (fun F hF => by (go_simp <;> exact hF))), ?_⟩
                simp only [Act.put, List.setIfInBounds_toArray, List.set_cons_succ, List.set_cons_zero]
                refine ⟨fun j w1 hj hC => Chg.uponW_yes (by rfl) (by exact Chn.upon_pure hC (fun F hF => by (go_simp <;> exact hF))), ?_⟩
                simp only [Act.put, List.setIfInBounds_toArray, List.set_cons_succ, List.set_cons_zero]
                refine ⟨fun j w1 hj hC => Chg.uponW_yes (by rfl) (by exact Chn.upon_pure hC (fun F hF => by (go_simp <;> exact hF))), ?_⟩
                simp only [Act.put, List.setIfInBounds_toArray, List.set_cons_succ, List.set_cons_zero]
                refine ⟨fun j w1 hj hC => Chg.uponW_yes (by rfl) (by exact Chn.upon_pure hC (fun F hF => by (go_simp <;> exact hF))), ?_⟩
                simp only [Act.put, List.setIfInBounds_toArray, List.set_cons_succ, List.set_cons_zero]
                refine ⟨fun w1 hC => Chg.uponW_yes (by rfl) (by
                  exact chn_store (C := (StC wr (fun w1 => DI w t n (cT T k a (b + 1)) w1)) 1) 4 _ _ rfl t (1 + a * 64 + b) rfl (.bool true) rfl ((hD.grow hC).run ha64 hb64 _) (((hD.grow hC).put ha64 hb64 true).to hput.out)), ?_⟩
                simp only [Act.put, List.setIfInBounds_toArray, List.set_cons_succ, List.set_cons_zero]
                intro w5 hC
                have hD2 : DI w t n (cT T k a (b + 1)) w5 := hC
                clear hC hD c0
                go_wp2
                go_roundw
                case rel => exact ⟨b + 1, by omega, by go_num, hD2⟩
                case measure => simp [intOf]; omega
              | false =>
                cases ak with
                | false =>
                  go_upto_region 11 with fail
                  have hst : (StC wr (fun w1 => DI w t n (cT T k a (b + 1)) w1)) 0 { wr with drawn := wr.drawn + 1 } := Rel.below_draws (n := 1) (Below.refl _ _)
                  refine Chg.wp_region_chainG (StC wr (fun w1 => DI w t n (cT T k a (b + 1)) w1)) [35] [1, 1, 1, 1, 1, 1, 1, 1, 1, 1, 0, 1, 1, 1, 1, 1, 1, 1, 1, 0, 1, 1, 1, 1, 1, 1, 1, 1, 1, 1, 1, 1, 1, 1, 1, 1] [ptr t 0, vI a, vI b, ptr t 0, vI a, vI b, ptr t 0, ptr t 1, ptr t (1 + a * 64), ptr t (1 + a * 64 + b), .bool false, .bool false, ptr t 0, vI a, vI k, ptr t 0, ptr t 1, ptr t (1 + a * 64), ptr t (1 + a * 64 + k), .bool false, .bool false, undef, undef, undef, undef, undef, undef, undef, undef, .bool false, .bool false, ptr t 0, ptr t 1, ptr t (1 + a * 64), ptr t (1 + a * 64 + b), undef] (by kernel_rfl) (by kernel_rfl) (by kernel_rfl) (by kernel_rfl) (by kernel_rfl) hst ?_
                  clear hst
                  refine ⟨fun j w1 hj hC => Chg.uponW_yes (by rfl) (by exact Chn.upon_pure hC (fun F hF => by (go_simp <;> exact hF))), ?_⟩
                  simp only [Act.put, List.setIfInBounds_toArray, List.set_cons_succ, List.set_cons_zero]
                  refine ⟨fun j w1 hj hC => Chg.uponW_yes (by rfl) (by exact Chn.upon_pure hC (fun F hF => by (go_simp <;> exact hF))), ?_⟩
                  simp only [Act.put, List.setIfInBounds_toArray, List.set_cons_succ, List.set_cons_zero]
                  refine ⟨fun j w1 hj hC => Chg.uponW_yes (by rfl) (by exact Chn.upon_pure hC (fun F hF => by (go_simp <;> exact hF))), ?_⟩
                  simp only [Act.put, List.setIfInBounds_toArray, List.set_cons_succ, List.set_cons_zero]
                  refine ⟨fun j w1 hj hC => Chg.uponW_yes (by rfl) (by exact Chn.upon_pure hC (fun F hF => by (go_simp <;> exact hF))), ?_⟩
                  simp only [Act.put, List.setIfInBounds_toArray, List.set_cons_succ, List.set_cons_zero]
                  refine ⟨fun j w1 hj hC => Chg.uponW_yes (by rfl) (by exact Chn.upon_pure hC (fun F hF => by (go_simp <;> exact hF))), ?_⟩
                  simp only [Act.put, List.setIfInBounds_toArray, List.set_cons_succ, List.set_cons_zero]
                  refine ⟨fun j w1 hj hC => Chg.uponW_yes (by rfl) (by exact Chn.upon_pure hC (fun F hF => by (go_simp <;> exact hF))), ?_⟩
                  simp only [Act.put, List.setIfInBounds_toArray, List.set_cons_succ, List.set_cons_zero]
                  refine ⟨fun j w1 hj hC => Chg.uponW_yes (by rfl) (by exact Chn.upon_pure hC (fun F hF => by (go_simp <;> exact hF))), ?_⟩
                  simp only [Act.put, List.setIfInBounds_toArray, List.set_cons_succ, List.set_cons_zero]
                  refine ⟨fun j w1 hj hC => Chg.uponW_yes (by rfl) (by exact Chn.upon_pure hC (fun F hF => by (go_simp <;> exact hF))), ?_⟩
                  simp only [Act.put, List.setIfInBounds_toArray, List.set_cons_succ, List.set_cons_zero]
                  refine ⟨fun j w1 hj hC => Chg.uponW_yes (by rfl) (by exact Chn.upon_pure hC (fun F hF => by (go_simp <;> exact hF))), ?_⟩
                  simp only [Act.put, List.setIfInBounds_toArray, List.set_cons_succ, List.set_cons_zero]
                  refine ⟨fun j w1 hj hC => Chg.uponW_yes (by rfl) (by exact Chn.upon_pure hC (fun F hF => by (go_simp <;> exact hF))), ?_⟩
                  simp only [Act.put, List.setIfInBounds_toArray, List.set_cons_succ, List.set_cons_zero]
                  refine ⟨fun j w1 hj hC => Chg.uponW_yes (by rfl) (by
                    have z := cab w1 (stC_low hj hC)
                    exact Chn.upon_pure hC (fun F hF => by (go_simp <;> exact hF))), ?_⟩
                  simp only [Act.put, List.setIfInBounds_toArray, List.set_cons_succ, List.set_cons_zero]
                  refine ⟨fun j w1 hj hC => Chg.uponW_yes (by rfl) (by exact Chn.upon_pure hC (fun F hF => by (go_simp <;> exact hF))), ?_⟩
                  simp only [Act.put, List.setIfInBounds_toArray, List.set_cons_succ, List.set_cons_zero]
                  refine ⟨fun j w1 hj hC => Chg.uponW_yes (by rfl) (by exact Chn.upon_pure hC (fun F hF => by (go_simp <;> exact hF))), ?_⟩
                  simp only [Act.put, List.setIfInBounds_toArray, List.set_cons_succ, List.set_cons_zero]
                  refine ⟨fun j w1 hj hC => Chg.uponW_yes (by rfl) (by exact Chn.upon_pure hC (fun F hF => by (go_simp <;> exact hF))), ?_⟩
                  simp only [Act.put, List.setIfInBounds_toArray, List.set_cons_succ, List.set_cons_zero]
                  refine ⟨fun j w1 hj hC => Chg.uponW_yes (by rfl) (by exact Chn.upon_pure hC (fun F hF => by (go_simp <;> exact hF))), ?_⟩
                  simp only [Act.put, List.setIfInBounds_toArray, List.set_cons_succ, List.set_cons_zero]
                  refine ⟨fun j w1 hj hC => Chg.uponW_yes (by rfl) (by exact Chn.upon_pure hC (fun F hF => by (go_simp <;> exact hF))), ?_⟩
                  simp only [Act.put, List.setIfInBounds_toArray, List.set_cons_succ, List.set_cons_zero]
                  refine ⟨fun j w1 hj hC => Chg.uponW_yes (by rfl) (by exact Chn.upon_pure hC (fun F hF => by (go_simp <;> exact hF))), ?_⟩
                  simp only [Act.put, List.setIfInBounds_toArray, List.set_cons_succ, List.set_cons_zero]
                  refine ⟨fun j w1 hj hC => Chg.uponW_yes (by rfl) (by exact Chn.upon_pure hC (fun F hF => by (go_simp <;> exact hF))), ?_⟩
                  simp only [Act.put, List.setIfInBounds_toArray, List.set_cons_succ, List.set_cons_zero]
                  refine ⟨fun j w1 hj hC => Chg.uponW_yes (by rfl) (by exact Chn.upon_pure hC (fun F hF => by (go_simp <;> exact hF))), ?_⟩
                  simp only [Act.put, List.setIfInBounds_toArray, List.set_cons_succ, List.set_cons_zero]
                  refine ⟨fun j w1 hj hC => Chg.uponW_yes (by rfl) (by
                    have z := cak w1 (stC_low hj hC)
                    exact Chn.upon_pure hC (fun F hF => by (go_simp <;> exact hF))), ?_⟩
                  simp only [Act.put, List.setIfInBounds_toArray, List.set_cons_succ, List.set_cons_zero]
                  refine ⟨fun j w1 hj hC => Chg.uponW_yes (by rfl) (by exact Chn.upon_pure hC (fun F hF => by (go_simp <;> exact hF))), ?_⟩
                  simp only [Act.put, List.setIfInBounds_toArray, List.set_cons_succ, List.set_cons_zero]
                  refine ⟨fun j w1 hj hC => Chg.uponW_no (by rfl) ⟨rfl, hC⟩, ?_⟩
                  simp only [Act.put, List.setIfInBounds_toArray, List.set_cons_succ, List.set_cons_zero]
                  refine ⟨fun j w1 hj hC => Chg.uponW_no (by rfl) ⟨rfl, hC⟩, ?_⟩
                  simp only [Act.put, List.setIfInBounds_toArray, List.set_cons_succ, List.set_cons_zero]
                  refine ⟨fun j w1 hj hC => Chg.uponW_no (by rfl) ⟨rfl, hC⟩, ?_⟩
                  simp only [Act.put, List.setIfInBounds_toArray, List.set_cons_succ, List.set_cons_zero]
                  refine ⟨fun j w1 hj hC => Chg.uponW_no (by rfl) ⟨rfl, hC⟩, ?_⟩
                  simp only [Act.put, List.setIfInBounds_toArray, List.set_cons_succ, List.set_cons_zero]
                  refine ⟨fun j w1 hj hC => Chg.uponW_no (by rfl) ⟨rfl, hC⟩, ?_⟩
                  simp only [Act.put, List.setIfInBounds_toArray, List.set_cons_succ, List.set_cons_zero]
                  refine ⟨fun j w1 hj hC => Chg.uponW_no (by rfl) ⟨rfl, hC⟩, ?_⟩
                  simp only [Act.put, List.setIfInBounds_toArray, List.set_cons_succ, List.set_cons_zero]
                  refine ⟨fun j w1 hj hC => Chg.uponW_no (by rfl) ⟨rfl, hC⟩, ?_⟩
                  simp only [Act.put, List.setIfInBounds_toArray, List.set_cons_succ, List.set_cons_zero]
                  refine ⟨fun j w1 hj hC => Chg.uponW_no (by rfl) ⟨rfl, hC⟩, ?_⟩
                  simp only [Act.put, List.setIfInBounds_toArray, List.set_cons_succ, List.set_cons_zero]
                  refine ⟨fun j w1 hj hC => Chg.uponW_yes (by rfl) (by exact Chn.upon_pure hC (fun F hF => by (go_simp <;> exact hF))), ?_⟩
                  simp only [Act.put, List.setIfInBounds_toArray, List.set_cons_succ, List.set_cons_zero]
                  refine ⟨fun j w1 hj hC => Chg.uponW_yes (by rfl) (by exact Chn.upon_pure hC (fun F hF => by (go_simp <;> exact hF))), ?_⟩
                  simp only [Act.put, List.setIfInBounds_toArray, List.set_cons_succ, List.set_cons_zero]
                  refine ⟨fun j w1 hj hC => Chg.uponW_yes (by rfl) (by exact Chn.upon_pure hC (fun F hF => by (go_simp <;> exact hF))), ?_⟩
                  simp only [Act.put, List.setIfInBounds_toArray, List.set_cons_succ, List.set_cons_zero]
                  refine ⟨fun j w1 hj hC => Chg.uponW_yes (by rfl) (by exact Chn.upon_pure hC (fun F hF => by (go_simp <;> exact hF))), ?_⟩
                  simp only [Act.put, List.setIfInBounds_toArray, List.set_cons_succ, List.set_cons_zero]
                  refine ⟨fun j w1 hj hC => Chg.uponW_yes (by rfl) (by exact Chn.upon_pure hC (fun F hF => by (go_simp <;> exact hF))), ?_⟩
                  simp only [Act.put, List.setIfInBounds_toArray, List.set_cons_succ, List.set_cons_zero]
                  refine ⟨fun j w1 hj hC => Chg.uponW_yes (by rfl) (by exact Chn.upon_pure hC (fun F hF => by (go_simp <;> exact hF))), ?_⟩
                  simp only [Act.put, List.setIfInBounds_toArray, List.set_cons_succ, List.set_cons_zero]
                  refine ⟨fun w1 hC => Chg.uponW_yes (by rfl) (by
                    exact chn_store (C := (StC wr (fun w1 => DI w t n (cT T k a (b + 1)) w1)) 1) 4 _ _ rfl t (1 + a * 64 + b) rfl (.bool false) rfl ((hD.grow hC).run ha64 hb64 _) (((hD.grow hC).put ha64 hb64 false).to hput.out)), ?_⟩
                  simp only [Act.put, List.setIfInBounds_toArray, List.set_cons_succ, List.set_cons_zero]
                  intro w5 hC
                  have hD2 : DI w t n (cT T k a (b + 1)) w5 := hC
                  clear hC hD c0
                  go_wp2
                  go_roundw
                  case rel => exact ⟨b + 1, by omega, by go_num, hD2⟩
                  case measure => simp [intOf]; omega
                | true =>
                  go_upto_region 11 with fail
                  have hst : (StC wr (fun w1 => DI w t n (cT T k a (b + 1)) w1)) 0 { wr with drawn := wr.drawn + 1 } := Rel.below_draws (n := 1) (Below.refl _ _)
                  refine Chg.wp_region_chainG (StC wr (fun w1 => DI w t n (cT T k a (b + 1)) w1)) [35] [1, 1, 1, 1, 1, 1, 1, 1, 1, 1, 0, 1, 1, 1, 1, 1, 1, 1, 1, 0, 1, 1, 1, 1, 1, 1, 1, 1, 0, 1, 1, 1, 1, 1, 1, 1] [ptr t 0, vI a, vI b, ptr t 0, vI a, vI b, ptr t 0, ptr t 1, ptr t (1 + a * 64), ptr t (1 + a * 64 + b), .bool false, .bool false, ptr t 0, vI a, vI k, ptr t 0, ptr t 1, ptr t (1 + a * 64), ptr t (1 + a * 64 + k), .bool true, .bool true, ptr t 0, vI k, vI b, ptr t 0, ptr t 1, ptr t (1 + k * 64), ptr t (1 + k * 64 + b), .bool kb, .bool kb, .bool kb, ptr t 0, ptr t 1, ptr t (1 + a * 64), ptr t (1 + a * 64 + b), undef] (by kernel_rfl) (by kernel_rfl) (by kernel_rfl) (by kernel_rfl) (by kernel_rfl) hst ?_
                  clear hst
                  refine ⟨fun j w1 hj hC => Chg.uponW_yes (by rfl) (by exact Chn.upon_pure hC (fun F hF => by (go_simp <;> exact hF))), ?_⟩
                  simp only [Act.put, List.setIfInBounds_toArray, List.set_cons_succ, List.set_cons_zero]
                  refine ⟨fun j w1 hj hC => Chg.uponW_yes (by rfl) (by exact Chn.upon_pure hC (fun F hF => by (go_simp <;> exact hF))), ?_⟩
                  simp only [Act.put, List.setIfInBounds_toArray, List.set_cons_succ, List.set_cons_zero]
                  refine ⟨fun j w1 hj hC => Chg.uponW_yes (by rfl) (by exact Chn.upon_pure hC (fun F hF => by (go_simp <;> exact hF))), ?_⟩
                  simp only [Act.put, List.setIfInBounds_toArray, List.set_cons_succ, List.set_cons_zero]
                  refine ⟨fun j w1 hj hC => Chg.uponW_yes (by rfl) (by exact Chn.upon_pure hC (fun F hF => by (go_simp <;> exact hF))), ?_⟩
                  simp only [Act.put, List.setIfInBounds_toArray, List.set_cons_succ, List.set_cons_zero]
                  refine ⟨fun j w1 hj hC => Chg.uponW_yes (by rfl) (by exact Chn.upon_pure hC (fun F hF => by (go_simp <;> exact hF))), ?_⟩
                  simp only [Act.put, List.setIfInBounds_toArray, List.set_cons_succ, List.set_cons_zero]
                  refine ⟨fun j w1 hj hC => Chg.uponW_yes (by rfl) (by exact Chn.upon_pure hC (fun F hF => by (go_simp <;> exact hF))), ?_⟩
                  simp only [Act.put, List.setIfInBounds_toArray, List.set_cons_succ, List.set_cons_zero]
                  refine ⟨fun j w1 hj hC => Chg.uponW_yes (by rfl) (by exact Chn.upon_pure hC (fun F hF => by (go_simp <;> exact hF))), ?_⟩
                  simp only [Act.put, List.setIfInBounds_toArray, List.set_cons_succ, List.set_cons_zero]
                  refine ⟨fun j w1 hj hC => Chg.uponW_yes (by rfl) (by exact Chn.upon_pure hC (fun F hF => by (go_simp <;> exact hF))), ?_⟩
                  simp only [Act.put, List.setIfInBounds_toArray, List.set_cons_succ, List.set_cons_zero]
                  refine ⟨fun j w1 hj hC => Chg.uponW_yes (by rfl) (by exact Chn.upon_pure hC (fun F hF => by (go_simp <;> exact hF))), ?_⟩
                  simp only [Act.put, List.setIfInBounds_toArray, List.set_cons_succ, List.set_cons_zero]
                  refine ⟨fun j w1 hj hC => Chg.uponW_yes (by rfl) (by exact Chn.upon_pure hC (fun F hF => by (go_simp <;> exact hF))), ?_⟩
                  simp only [Act.put, List.setIfInBounds_toArray, List.set_cons_succ, List.set_cons_zero]
                  refine ⟨fun j w1 hj hC => Chg.uponW_yes (by rfl) (by
                    have z := cab w1 (stC_low hj hC)
                    exact Chn.upon_pure hC (fun F hF => by (go_simp <;> exact hF))), ?_⟩
                  simp only [Act.put, List.setIfInBounds_toArray, List.set_cons_succ, List.set_cons_zero]
                  refine ⟨fun j w1 hj hC => Chg.uponW_yes (by rfl) (by exact Chn.upon_pure hC (fun F hF => by (go_simp <;> exact hF))), ?_⟩
                  simp only [Act.put, List.setIfInBounds_toArray, List.set_cons_succ, List.set_cons_zero]
                  refine ⟨fun j w1 hj hC => Chg.uponW_yes (by rfl) (by exact Chn.upon_pure hC (fun F hF => by (go_simp <;> exact hF))), ?_⟩
                  simp only [Act.put, List.setIfInBounds_toArray, List.set_cons_succ, List.set_cons_zero]
                  refine ⟨fun j w1 hj hC => Chg.uponW_yes (by rfl) (by exact Chn.upon_pure hC (fun F hF => by (go_simp <;> exact hF))), ?_⟩
                  simp only [Act.put, List.setIfInBounds_toArray, List.set_cons_succ, List.set_cons_zero]
                  refine ⟨fun j w1 hj hC => Chg.uponW_yes (by rfl) (by exact Chn.upon_pure hC (fun F hF => by (go_simp <;> exact hF))), ?_⟩
                  simp only [Act.put, List.setIfInBounds_toArray, List.set_cons_succ, List.set_cons_zero]
                  refine ⟨fun j w1 hj hC => Chg.uponW_yes (by rfl) (by exact Chn.upon_pure hC (fun F hF => by (go_simp <;> exact hF))), ?_⟩
                  simp only [Act.put, List.setIfInBounds_toArray, List.set_cons_succ, List.set_cons_zero]
                  refine ⟨fun j w1 hj hC => Chg.uponW_yes (by rfl) (by exact Chn.upon_pure hC (fun F hF => by (go_simp <;> exact hF))), ?_⟩
                  simp only [Act.put, List.setIfInBounds_toArray, List.set_cons_succ, List.set_cons_zero]
                  refine ⟨fun j w1 hj hC => Chg.uponW_yes (by rfl) (by exact Chn.upon_pure hC (fun F hF => by (go_simp <;> exact hF))), ?_⟩
                  simp only [Act.put, List.setIfInBounds_toArray, List.set_cons_succ, List.set_cons_zero]
                  refine ⟨fun j w1 hj hC => Chg.uponW_yes (by rfl) (by exact Chn.upon_pure hC (fun F hF => by (go_simp <;> exact hF))), ?_⟩
                  simp only [Act.put, List.setIfInBounds_toArray, List.set_cons_succ, List.set_cons_zero]
                  refine ⟨fun j w1 hj hC => Chg.uponW_yes (by rfl) (by
                    have z := cak w1 (stC_low hj hC)
                    exact Chn.upon_pure hC (fun F hF => by (go_simp <;> exact hF))), ?_⟩
                  simp only [Act.put, List.setIfInBounds_toArray, List.set_cons_succ, List.set_cons_zero]
                  refine ⟨fun j w1 hj hC => Chg.uponW_yes (by rfl) (by exact Chn.upon_pure hC (fun F hF => by (go_simp <;> exact hF))), ?_⟩
                  simp only [Act.put, List.setIfInBounds_toArray, List.set_cons_succ, List.set_cons_zero]
                  refine ⟨fun j w1 hj hC => Chg.uponW_yes (by rfl) (by exact Chn.upon_pure hC (fun F hF => by (go_simp <;> exact hF))), ?_⟩
                  simp only [Act.put, List.setIfInBounds_toArray, List.set_cons_succ, List.set_cons_zero]
                  refine ⟨fun j w1 hj hC => Chg.uponW_yes (by rfl) (by exact Chn.upon_pure hC (fun F hF => by (go_simp <;> exact hF))), ?_⟩
                  simp only [Act.put, List.setIfInBounds_toArray, List.set_cons_succ, List.set_cons_zero]
                  refine ⟨fun j w1 hj hC => Chg.uponW_yes (by rfl) (by exact Chn.upon_pure hC (fun F hF => by (go_simp <;> exact hF))), ?_⟩
                  simp only [Act.put, List.setIfInBounds_toArray, List.set_cons_succ, List.set_cons_zero]
                  refine ⟨fun j w1 hj hC => Chg.uponW_yes (by rfl) (by exact Chn.upon_pure hC (fun F hF => by (go_simp <;> exact hF))), ?_⟩
                  simp only [Act.put, List.setIfInBounds_toArray, List.set_cons_succ, List.set_cons_zero]
                  refine ⟨fun j w1 hj hC => Chg.uponW_yes (by rfl) (by exact Chn.upon_pure hC (fun F hF => by (go_simp <;> exact hF))), ?_⟩
                  simp only [Act.put, List.setIfInBounds_toArray, List.set_cons_succ, List.set_cons_zero]
                  refine ⟨fun j w1 hj hC => Chg.uponW_yes (by rfl) (by exact Chn.upon_pure hC (fun F hF => by (go_simp <;> exact hF))), ?_⟩
                  simp only [Act.put, List.setIfInBounds_toArray, List.set_cons_succ, List.set_cons_zero]
                  refine ⟨fun j w1 hj hC => Chg.uponW_yes (by rfl) (by exact Chn.upon_pure hC (fun F hF => by (go_simp <;> exact hF))), ?_⟩
                  simp only [Act.put, List.setIfInBounds_toArray, List.set_cons_succ, List.set_cons_zero]
                  refine ⟨fun j w1 hj hC => Chg.uponW_yes (by rfl) (by
                    have z := ckb w1 (stC_low hj hC)
                    exact Chn.upon_pure hC (fun F hF => by (go_simp <;> exact hF))), ?_⟩
                  simp only [Act.put, List.setIfInBounds_toArray, List.set_cons_succ, List.set_cons_zero]
                  refine ⟨fun j w1 hj hC => Chg.uponW_yes (by rfl) (by exact Chn.upon_pure hC (fun F hF => by (go_simp <;> exact hF))), ?_⟩
                  simp only [Act.put, List.setIfInBounds_toArray, List.set_cons_succ, List.set_cons_zero]
                  refine ⟨fun j w1 hj hC => Chg.uponW_yes (by rfl) (by exact Chn.upon_pure hC (fun F hF => by (go_simp <;> exact hF))), ?_⟩
                  simp only [Act.put, List.setIfInBounds_toArray, List.set_cons_succ, List.set_cons_zero]
                  refine ⟨fun j w1 hj hC => Chg.uponW_yes (by rfl) (by exact Chn.upon_pure hC (fun F hF => by (go_simp <;> exact hF))), ?_⟩
                  simp only [Act.put, List.setIfInBounds_toArray, List.set_cons_succ, List.set_cons_zero]
                  refine ⟨fun j w1 hj hC => Chg.uponW_yes (by rfl) (by exact Chn.upon_pure hC (fun F hF => by (go_simp <;> exact hF))), ?_⟩
                  simp only [Act.put, List.setIfInBounds_toArray, List.set_cons_succ, List.set_cons_zero]
                  refine ⟨fun j w1 hj hC => Chg.uponW_yes (by rfl) (by exact Chn.upon_pure hC (fun F hF => by (go_simp <;> exact hF))), ?_⟩
                  simp only [Act.put, List.setIfInBounds_toArray, List.set_cons_succ, List.set_cons_zero]
                  refine ⟨fun j w1 hj hC => Chg.uponW_yes (by rfl) (by exact Chn.upon_pure hC (fun F hF => by (go_simp <;> exact hF))), ?_⟩
                  simp only [Act.put, List.setIfInBounds_toArray, List.set_cons_succ, List.set_cons_zero]
                  refine ⟨fun w1 hC => Chg.uponW_yes (by rfl) (by
                    exact chn_store (C := (StC wr (fun w1 => DI w t n (cT T k a (b + 1)) w1)) 1) 4 _ _ rfl t (1 + a * 64 + b) rfl (.bool kb) rfl ((hD.grow hC).run ha64 hb64 _) (((hD.grow hC).put ha64 hb64 kb).to hput.out)), ?_⟩
                  simp only [Act.put, List.setIfInBounds_toArray, List.set_cons_succ, List.set_cons_zero]
                  intro w5 hC
                  have hD2 : DI w t n (cT T k a (b + 1)) w5 := hC
                  clear hC hD c0
                  go_wp2
                  go_roundw
                  case rel => exact ⟨b + 1, by omega, by go_num, hD2⟩
                  case measure => simp [intOf]; omega
            · obtain rfl : b = n := by omega
              have hD2 : DI w t b (cT T k (a + 1) 0) wr := hD.to (cT_next hf k a)
              go_wp2
              go_roundw
              case rel => exact ⟨a + 1, by omega, by go_num, hD2⟩
              case measure => simp [intOf]; omega
        · obtain rfl : a = n := by omega
          have hD2 : DI w t a (cT T (k + 1) 0 0) wr := hD.to (cT_end hf k)
          go_wp2
          go_roundw
          case rel => exact ⟨k + 1, by omega, by go_num, hD2⟩
          case measure => simp [intOf]; omega
    · obtain rfl : k = n := by omega
      have hD2 : DI w t k (war T k) wr := hD.to (cT_zero T k)
      go_wp2
      go_ret
      exact ⟨t, rfl, hD2⟩
set_option maxHeartbeats 4000000 in
theorem docLoop_c {x n : Nat} {T : Nat → Nat → Bool} {w : World} (H : RefAt x n T w) (hf : Fits n T) : Calls Tryd.prog 18 #[ptr x 0] w fun e w' => e = .returned (.tuple #[vI ((loopF n T).getD 0 : Nat), .bool (loopF n T).isSome]) ∧ Below w.heap.size w w' := by
  have hc := docClosed_c H hf
  have hle := H.le
  go_enter Tryd.func18, Tryd.ntmps18
  go_upto_region 2 with (first | (go_at_call 16; (with_reducible refine hc.mono ?_); rintro e w1 ⟨t, rfl, hD⟩; dsimp only))
  have c0 := (H.grow hD.low).c0
  go_wp2
  go_loop [5] (fun sa => ∃ k : Nat, k ≤ n ∧ sa = vI k ∧ ∀ a, a < k → war T n a a = false) (fun sa => 64 - (intOf sa).toNat)
  case atStart => exact ⟨0, Nat.zero_le _, rfl, fun a h => by omega⟩
  case round =>
    obtain ⟨k, hkn, rfl, hno⟩ := hrel
    replace hno := show Hid _ from hno
    have hlow := hD.low
    by_cases hlt : (k : Int) < n
    · have hkl : k < n := by omega
      have hk64i : (k : Int) < 64 := by omega
      have cc := hD.row.cell (a := k) (b := k) (by omega) (by omega)
      cases hw : war T n k k with
      | true =>
        rw [hw] at cc
        have e1 : loopF n T = some k := find_range.2 ⟨hkl, hw, hno.out⟩
        go_wp2
        go_ret2
        exact ⟨rfl, hlow⟩
      | false =>
        rw [hw] at cc
        go_wp2
        go_round
        case rel => exact ⟨k + 1, by omega, by go_num, fun x hx => by
          by_cases e : x = k
          · rw [e]; exact hw
          · exact hno.out x (by omega)⟩
        case measure => simp [intOf]; omega
    · have e1 : loopF n T = none := find_none.2 fun a ha => hno.out a (by omega)
      go_wp2
      go_ret2
      exact ⟨rfl, hlow⟩
end Go.Proofs.YtfgbhdcoemkdoaaDoor
