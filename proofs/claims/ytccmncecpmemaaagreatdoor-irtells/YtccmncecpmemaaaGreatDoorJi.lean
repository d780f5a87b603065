/- Take, Core, Guest, Faulted. -/
import Derived.Test.YtccmncecpmemaaaGreatDoorJh
namespace Go.Proofs.YtccmncecpmemaaaGreatDoor
open Go.RowKit
set_option linter.unusedVariables false
set_option linter.unusedSimpArgs false
set_option maxRecDepth 8000

section
variable {l : List Opr} {g vb : Nat} {so : Value} {S : Rn} {w w' : World}
/-- Where a run is behind Take. -/
def takeV (n : Nat) (S : Rn) (t : Gt) : Rn :=
  match S.go with
  | 0 => S
  | 1 => ((S.wait nilW 0).define t.value).told n t
  | 2 => (S.wait nilW 0).told n t
  | 3 => ((S.wait nilW 0).define (oneV (!t.ok))).told n t
  | _ => S.wait nilW 0
def takeE (S : Rn) : Int := if S.go = 0 then 1 else 0
set_option maxHeartbeats 2000000 in
theorem take_0 (H : RunAt l g vb so S w) (hg : S.go = 0) (t : Gt) : Calls Tryz.prog 20 #[ptr g 0, gtV t] w fun e w' => e = .returned (vI 1) ∧ RT l g vb so S w w' := by
  have hb := below_alloc w (.cells (gtA t) 54)
  have R : RT l g vb so S w (w.alloc (.cells (gtA t) 54)) := RT.from hb (H.grow hb).here
  have z := R.1.c62
  rw [hg] at z
  rw [show goV g 0 = .nilFunc from rfl] at z
  have hrun : ∀ w, Sem.run Tryz.prog (binOp BinOp.eql 93 Value.nilFunc Value.nilFunc) w = .ok (.bool true) w := fun w => run_nilE g 0 w
  go_enter Tryz.func20, Tryz.ntmps20
  go_upto_region 1 with fail
  generalize w.alloc (.cells (gtA t) 54) = w1 at *
  go_wp2
  go_ret
  exact ⟨rfl, R⟩

set_option maxHeartbeats 2000000 in
theorem take_1 (H : RunAt l g vb so S w) (hg : S.go = 1) (t : Gt) (hv : U64 t.value) (h1 : 1 ≤ S.next) (h2 : S.next ≤ l.length) : Calls Tryz.prog 20 #[ptr g 0, gtV t] w fun e w' => e = .returned (vI 0) ∧ RT l g vb so (((S.wait nilW 0).define t.value).told l.length t) w w' := by
  have hb := below_alloc w (.cells (gtA t) 54)
  have hrow : (w.alloc (.cells (gtA t) 54)).heap[w.heap.size]? = some (.cells (gtA t) 54) := heap_alloc_new _ _
  have R : RT l g vb so S w (w.alloc (.cells (gtA t) 54)) := RT.from hb (H.grow hb).here
  have hn1 : w.heap.size ≠ g := by have := H.lt; omega
  have hn2 : w.heap.size ≠ vb := by have := H.ltv; omega
  have z := R.1.c62
  rw [hg] at z
  rw [show goV g 1 = .func (.func 79) #[ptr g 0] #[] from rfl] at z
  have hrun : ∀ w, Sem.run Tryz.prog (binOp BinOp.eql 93 (Value.func (.func 79) #[ptr g 0] #[]) Value.nilFunc) w = .ok (.bool false) w := fun w => run_nilE g 1 w
  have k := wait_c R.1 ⟨0, 0, 0, 0, false, 0, false, 0, 0, 0⟩ 0
  rw [show goV g 0 = .nilFunc from rfl] at k
  go_enter Tryz.func20, Tryz.ntmps20
  go_upto_region 1 with fail
  generalize w.alloc (.cells (gtA t) 54) = w1 at *
  go_wp2_with (first | (go_at_call 50; (with_reducible refine k.mono ?_); rintro e w2 ⟨rfl, R2⟩; dsimp only; have hrow2 := R2.kept hrow hn1 hn2; have H2 := R2.1; have k2 := loaded_c H2 t hv h1 h2) | ((with_reducible refine wpList_load_if rfl 54 _ rfl _ rfl 54 _ (0, 0) _ hrow2 Tryz.underlying54 rfl (gt_inf _) ?_); simp only [Act.put, List.setIfInBounds_toArray, List.set_cons_succ, List.set_cons_zero]) | (go_at_call 79; (with_reducible refine k2.mono ?_); rintro e w3 ⟨rfl, R3⟩; dsimp only))
  go_ret
  exact ⟨rfl, R.then (R2.then R3)⟩

set_option maxHeartbeats 2000000 in
theorem take_2 (H : RunAt l g vb so S w) (hg : S.go = 2) (t : Gt) (hv : U64 t.value) (h1 : 1 ≤ S.next) (h2 : S.next ≤ l.length) : Calls Tryz.prog 20 #[ptr g 0, gtV t] w fun e w' => e = .returned (vI 0) ∧ RT l g vb so ((S.wait nilW 0).told l.length t) w w' := by
  have hb := below_alloc w (.cells (gtA t) 54)
  have hrow : (w.alloc (.cells (gtA t) 54)).heap[w.heap.size]? = some (.cells (gtA t) 54) := heap_alloc_new _ _
  have R : RT l g vb so S w (w.alloc (.cells (gtA t) 54)) := RT.from hb (H.grow hb).here
  have hn1 : w.heap.size ≠ g := by have := H.lt; omega
  have hn2 : w.heap.size ≠ vb := by have := H.ltv; omega
  have z := R.1.c62
  rw [hg] at z
  rw [show goV g 2 = .func (.func 80) #[ptr g 0] #[] from rfl] at z
  have hrun : ∀ w, Sem.run Tryz.prog (binOp BinOp.eql 93 (Value.func (.func 80) #[ptr g 0] #[]) Value.nilFunc) w = .ok (.bool false) w := fun w => run_nilE g 2 w
  have k := wait_c R.1 ⟨0, 0, 0, 0, false, 0, false, 0, 0, 0⟩ 0
  rw [show goV g 0 = .nilFunc from rfl] at k
  go_enter Tryz.func20, Tryz.ntmps20
  go_upto_region 1 with fail
  generalize w.alloc (.cells (gtA t) 54) = w1 at *
  go_wp2_with (first | (go_at_call 50; (with_reducible refine k.mono ?_); rintro e w2 ⟨rfl, R2⟩; dsimp only; have hrow2 := R2.kept hrow hn1 hn2; have H2 := R2.1; have k2 := stored_c H2 t) | ((with_reducible refine wpList_load_if rfl 54 _ rfl _ rfl 54 _ (0, 0) _ hrow2 Tryz.underlying54 rfl (gt_inf _) ?_); simp only [Act.put, List.setIfInBounds_toArray, List.set_cons_succ, List.set_cons_zero]) | (go_at_call 80; (with_reducible refine k2.mono ?_); rintro e w3 ⟨rfl, R3⟩; dsimp only))
  go_ret
  exact ⟨rfl, R.then (R2.then R3)⟩

set_option maxHeartbeats 2000000 in
theorem take_3 (H : RunAt l g vb so S w) (hg : S.go = 3) (t : Gt) (hv : U64 t.value) (h1 : 1 ≤ S.next) (h2 : S.next ≤ l.length) : Calls Tryz.prog 20 #[ptr g 0, gtV t] w fun e w' => e = .returned (vI 0) ∧ RT l g vb so (((S.wait nilW 0).define (oneV (!t.ok))).told l.length t) w w' := by
  have hb := below_alloc w (.cells (gtA t) 54)
  have hrow : (w.alloc (.cells (gtA t) 54)).heap[w.heap.size]? = some (.cells (gtA t) 54) := heap_alloc_new _ _
  have R : RT l g vb so S w (w.alloc (.cells (gtA t) 54)) := RT.from hb (H.grow hb).here
  have hn1 : w.heap.size ≠ g := by have := H.lt; omega
  have hn2 : w.heap.size ≠ vb := by have := H.ltv; omega
  have z := R.1.c62
  rw [hg] at z
  rw [show goV g 3 = .func (.func 81) #[ptr g 0] #[] from rfl] at z
  have hrun : ∀ w, Sem.run Tryz.prog (binOp BinOp.eql 93 (Value.func (.func 81) #[ptr g 0] #[]) Value.nilFunc) w = .ok (.bool false) w := fun w => run_nilE g 3 w
  have k := wait_c R.1 ⟨0, 0, 0, 0, false, 0, false, 0, 0, 0⟩ 0
  rw [show goV g 0 = .nilFunc from rfl] at k
  go_enter Tryz.func20, Tryz.ntmps20
  go_upto_region 1 with fail
  generalize w.alloc (.cells (gtA t) 54) = w1 at *
  go_wp2_with (first | (go_at_call 50; (with_reducible refine k.mono ?_); rintro e w2 ⟨rfl, R2⟩; dsimp only; have hrow2 := R2.kept hrow hn1 hn2; have H2 := R2.1; have k2 := storedEx_c H2 t h1 h2) | ((with_reducible refine wpList_load_if rfl 54 _ rfl _ rfl 54 _ (0, 0) _ hrow2 Tryz.underlying54 rfl (gt_inf _) ?_); simp only [Act.put, List.setIfInBounds_toArray, List.set_cons_succ, List.set_cons_zero]) | (go_at_call 81; (with_reducible refine k2.mono ?_); rintro e w3 ⟨rfl, R3⟩; dsimp only))
  go_ret
  exact ⟨rfl, R.then (R2.then R3)⟩

set_option maxHeartbeats 2000000 in
theorem take_4 (H : RunAt l g vb so S w) (hg : S.go = 4) (t : Gt) (hv : U64 t.value) (h1 : 1 ≤ S.next) (h2 : S.next ≤ l.length) : Calls Tryz.prog 20 #[ptr g 0, gtV t] w fun e w' => e = .returned (vI 0) ∧ RT l g vb so (S.wait nilW 0) w w' := by
  have hb := below_alloc w (.cells (gtA t) 54)
  have hrow : (w.alloc (.cells (gtA t) 54)).heap[w.heap.size]? = some (.cells (gtA t) 54) := heap_alloc_new _ _
  have R : RT l g vb so S w (w.alloc (.cells (gtA t) 54)) := RT.from hb (H.grow hb).here
  have hn1 : w.heap.size ≠ g := by have := H.lt; omega
  have hn2 : w.heap.size ≠ vb := by have := H.ltv; omega
  have z := R.1.c62
  rw [hg] at z
  rw [show goV g 4 = .func (.func 64) #[ptr g 0] #[] from rfl] at z
  have hrun : ∀ w, Sem.run Tryz.prog (binOp BinOp.eql 93 (Value.func (.func 64) #[ptr g 0] #[]) Value.nilFunc) w = .ok (.bool false) w := fun w => run_nilE g 4 w
  have k := wait_c R.1 ⟨0, 0, 0, 0, false, 0, false, 0, 0, 0⟩ 0
  rw [show goV g 0 = .nilFunc from rfl] at k
  go_enter Tryz.func20, Tryz.ntmps20
  go_upto_region 1 with fail
  generalize w.alloc (.cells (gtA t) 54) = w1 at *
  go_wp2_with (first | (go_at_call 50; (with_reducible refine k.mono ?_); rintro e w2 ⟨rfl, R2⟩; dsimp only; have hrow2 := R2.kept hrow hn1 hn2; have H2 := R2.1; have k2 := fenced_c H2 t) | ((with_reducible refine wpList_load_if rfl 54 _ rfl _ rfl 54 _ (0, 0) _ hrow2 Tryz.underlying54 rfl (gt_inf _) ?_); simp only [Act.put, List.setIfInBounds_toArray, List.set_cons_succ, List.set_cons_zero]) | (go_at_call 64; (with_reducible refine k2.mono ?_); rintro e w3 ⟨rfl, R3⟩; dsimp only))
  go_ret
  exact ⟨rfl, R.then (R2.then R3)⟩

theorem take_c (H : RunAt l g vb so S w) (t : Gt) (hv : U64 t.value) (h0 : S.go ≤ 4) (h1 : S.go ≠ 0 → 1 ≤ S.next) (h2 : S.next ≤ l.length) : Calls Tryz.prog 20 #[ptr g 0, gtV t] w fun e w' => e = .returned (vI (takeE S)) ∧ RT l g vb so (takeV l.length S t) w w' := by
  unfold takeE takeV
  rcases (by omega : S.go = 0 ∨ S.go = 1 ∨ S.go = 2 ∨ S.go = 3 ∨ S.go = 4) with h | h | h | h | h
  · rw [h]; exact take_0 H h t
  · have := take_1 H h t hv (h1 (by omega)) h2; rw [h]; exact this
  · have := take_2 H h t hv (h1 (by omega)) h2; rw [h]; exact this
  · have := take_3 H h t hv (h1 (by omega)) h2; rw [h]; exact this
  · have := take_4 H h t hv (h1 (by omega)) h2; rw [h]; exact this
theorem faulted_c (H : RunAt l g vb so S w) : Calls Tryz.prog 24 #[ptr g 0] w fun e w' => e = .returned (.bool S.flt) ∧ w' = w := by
  have z := H.c65
  go_enter Tryz.func24, Tryz.ntmps24
  go_wp2
  go_ret
  exact ⟨rfl, rfl⟩
set_option maxHeartbeats 2000000 in
theorem guestR_c (H : RunAt l g vb so S w) : Calls Tryz.prog 23 #[ptr g 0] w fun e w' => e = .returned (.tuple #[.int .u32 S.word, .bool S.guest]) ∧ RT l g vb so S w w' := by
  go_enter Tryz.func23, Tryz.ntmps23
  go_upto_region 1 with fail
  have hst : Ph (RT l g vb so S w) (RT l g vb so S w) 0 _ := H.draw
  refine Chn.wp_region_chainL (Ph (RT l g vb so S w) (RT l g vb so S w)) [] [0, 0, 0, 0, 0, 0, 0, 0, 0, 0] [ptr g 0, ptr g 0, ptr g 63, .int .u32 S.word, ptr g 0, ptr g 0, ptr g 64, .bool S.guest, .int .u32 S.word, .bool S.guest] (by kernel_rfl) (by kernel_rfl) (by kernel_rfl) (by kernel_rfl) (by kernel_rfl) hst ?_
  clear hst
  refine ⟨fun j w1 hj hC => by exact Chn.upon_pure hC (fun F hF => by (go_simp <;> exact hF)), ?_⟩
  simp only [Act.put, List.setIfInBounds_toArray, List.set_cons_succ, List.set_cons_zero]
  refine ⟨fun j w1 hj hC => by exact Chn.upon_pure hC (fun F hF => by (go_simp <;> exact hF)), ?_⟩
  simp only [Act.put, List.setIfInBounds_toArray, List.set_cons_succ, List.set_cons_zero]
  refine ⟨fun j w1 hj hC => by exact Chn.upon_pure hC (fun F hF => by (go_simp <;> exact hF)), ?_⟩
  simp only [Act.put, List.setIfInBounds_toArray, List.set_cons_succ, List.set_cons_zero]
  refine ⟨fun j w1 hj hC => by
    obtain rfl : j = 0 := Nat.le_zero.1 hj
    have hA : (RT l g vb so S w) w1 := hC
    have z := hA.1.c63
    exact Chn.upon_pure hC (fun F hF => by (go_simp <;> exact hF)), ?_⟩
  simp only [Act.put, List.setIfInBounds_toArray, List.set_cons_succ, List.set_cons_zero]
  refine ⟨fun j w1 hj hC => by exact Chn.upon_pure hC (fun F hF => by (go_simp <;> exact hF)), ?_⟩
  simp only [Act.put, List.setIfInBounds_toArray, List.set_cons_succ, List.set_cons_zero]
  refine ⟨fun j w1 hj hC => by exact Chn.upon_pure hC (fun F hF => by (go_simp <;> exact hF)), ?_⟩
  simp only [Act.put, List.setIfInBounds_toArray, List.set_cons_succ, List.set_cons_zero]
  refine ⟨fun j w1 hj hC => by exact Chn.upon_pure hC (fun F hF => by (go_simp <;> exact hF)), ?_⟩
  simp only [Act.put, List.setIfInBounds_toArray, List.set_cons_succ, List.set_cons_zero]
  refine ⟨fun j w1 hj hC => by
    obtain rfl : j = 0 := Nat.le_zero.1 hj
    have hA : (RT l g vb so S w) w1 := hC
    have z := hA.1.c64
    exact Chn.upon_pure hC (fun F hF => by (go_simp <;> exact hF)), ?_⟩
  simp only [Act.put, List.setIfInBounds_toArray, List.set_cons_succ, List.set_cons_zero]
  refine ⟨fun j w1 hj hC => by exact Chn.upon_pure hC (fun F hF => by (go_simp <;> exact hF)), ?_⟩
  simp only [Act.put, List.setIfInBounds_toArray, List.set_cons_succ, List.set_cons_zero]
  refine ⟨fun j w1 hj hC => by exact Chn.upon_pure hC (fun F hF => by (go_simp <;> exact hF)), ?_⟩
  simp only [Act.put, List.setIfInBounds_toArray, List.set_cons_succ, List.set_cons_zero]
  intro w5 hC
  have hC : (RT l g vb so S w) w5 := hC
  go_wp2
  go_ret2
  exact ⟨rfl, hC⟩
end
end Go.Proofs.YtccmncecpmemaaaGreatDoor
