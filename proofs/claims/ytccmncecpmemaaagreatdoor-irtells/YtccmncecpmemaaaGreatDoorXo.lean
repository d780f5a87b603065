/- Ma, Mb, Mc of the seat, joined. -/
import Derived.Test.YtccmncecpmemaaaGreatDoorDn
import Derived.Test.YtccmncecpmemaaaGreatDoorIg
/- What the document tells of any operation: may the block be left there. -/
namespace Go.Proofs.YtccmncecpmemaaaGreatDoor
open Go.RowKit
set_option linter.unusedVariables false
set_option linter.unusedSimpArgs false
set_option maxRecDepth 8000

set_option maxHeartbeats 2000000 in
theorem dLeaves_c (o : Opr) (w : World) : Calls Tryz.prog 10 #[opV o] w fun e w' => e = .returned (.bool (leavB o.kind)) ∧ Below w.heap.size w w' := by
  have hb := below_alloc w (.cells (opA o) 27)
  have L : LocO w.heap.size o (w.alloc (.cells (opA o) 27)) := LocO.new w _
  have ks := fun x => dAcc_c o x
  go_enter Tryz.func10, Tryz.ntmps10
  go_upto_region 1 with fail
  generalize w.alloc (.cells (opA o) 27) = w1 at *
  go_wp2_with (first | ((with_reducible refine wpList_load42 rfl _ rfl _ rfl _ (L.at_) ?_); try simp only [Act.put]) | (go_at_call 34; (with_reducible refine (ks _).mono ?_); rintro e w2 ⟨rfl, B⟩; dsimp only; replace hb := below_then hb (Nat.le_refl _) B; replace L := L.grow B; clear B; have z0 := L.c0))
  all_goals (go_ret; refine ⟨ret_bool ?_, hb⟩; unfold leavB; simp_all <;> omega)
theorem has_none64 {k : Int} (h : isK k = false) : hasP k 64 = false := by
  have : k.toNat = 0 ∨ 18 < k.toNat := by
    unfold isK at h
    simp only [Bool.and_eq_false_iff, decide_eq_false_iff_not] at h
    omega
  unfold hasP partsV
  rw [prt_none this]
  decide +kernel
theorem leav_has (k : Int) : leavB k = hasP k 64 := by
  cases h : isK k with
  | true =>
    rcases isK_cases h with rfl | rfl | rfl | rfl | rfl | rfl | rfl | rfl | rfl | rfl | rfl | rfl | rfl | rfl | rfl | rfl | rfl | rfl <;> decide +kernel
  | false =>
    rw [has_none64 h]
    have hn : ∀ j : Int, isK j = true → (k == j) = false := fun j hj => by
      cases hh : k == j with
      | false => rfl
      | true => rw [beq_iff_eq] at hh; rw [hh, hj] at h; cases h
    unfold leavB accB
    rw [hn 9 (by decide), hn 10 (by decide), hn 11 (by decide), hn 12 (by decide)]
    simp only [isK, Bool.and_eq_false_iff, decide_eq_false_iff_not] at h
    simp only [Bool.or_false, Bool.false_or, Bool.and_eq_false_iff, decide_eq_false_iff_not]
    omega
end Go.Proofs.YtccmncecpmemaaaGreatDoor
/- What the program tells of any operation: Defines, Leaves. -/
namespace Go.Proofs.YtccmncecpmemaaaGreatDoor
open Go.RowKit
set_option linter.unusedVariables false
set_option linter.unusedSimpArgs false
set_option maxRecDepth 8000

set_option maxHeartbeats 2000000 in
theorem clo43_c {w : World} {bb : Nat} {o : Opr} (hb : w.heap[bb]? = some (.cells (opA o) 27)) : Calls Tryz.prog 43 #[ptr bb 0] w (RightR w (hasP o.kind 32)) := by
  have z0 := LocO.c0 hb
  cases hk : isK o.kind with
  | true =>
    go_enter Tryz.func43, Tryz.ntmps43
    go_wp2_with (first | (go_at_call 44; (with_reducible refine (shapeOf_c _ hk _).mono ?_); rintro e w1 ⟨rfl, B⟩; dsimp only) | (go_at_call 45; (with_reducible refine (hasK_c _ _ _).mono ?_); rintro e w2 ⟨rfl, B2⟩; dsimp only))
    go_ret
    exact ⟨.inl rfl, below_then B (Nat.le_refl _) B2⟩
  | false =>
    rw [has_none_ hk _ rfl]
    go_enter Tryz.func43, Tryz.ntmps43
    go_wp2_with (first | (go_at_call 44; (with_reducible refine (shapeOf_p _ hk _).mono ?_); rintro e w1 ⟨rfl, B⟩; dsimp only))
    exact ⟨rfl, .inr ⟨rfl, rfl⟩, B⟩

set_option maxHeartbeats 2000000 in
theorem clo46_c {w : World} {bb : Nat} {o : Opr} (hb : w.heap[bb]? = some (.cells (opA o) 27)) : Calls Tryz.prog 46 #[ptr bb 0] w (RightR w (hasP o.kind 64)) := by
  have z0 := LocO.c0 hb
  cases hk : isK o.kind with
  | true =>
    go_enter Tryz.func46, Tryz.ntmps46
    go_wp2_with (first | (go_at_call 44; (with_reducible refine (shapeOf_c _ hk _).mono ?_); rintro e w1 ⟨rfl, B⟩; dsimp only) | (go_at_call 45; (with_reducible refine (hasK_c _ _ _).mono ?_); rintro e w2 ⟨rfl, B2⟩; dsimp only))
    go_ret
    exact ⟨.inl rfl, below_then B (Nat.le_refl _) B2⟩
  | false =>
    rw [has_none64 hk]
    go_enter Tryz.func46, Tryz.ntmps46
    go_wp2_with (first | (go_at_call 44; (with_reducible refine (shapeOf_p _ hk _).mono ?_); rintro e w1 ⟨rfl, B⟩; dsimp only))
    exact ⟨rfl, .inr ⟨rfl, rfl⟩, B⟩
set_option maxHeartbeats 4000000 in
theorem orNothing43_c {w : World} {bb : Nat} {r : Bool} (hc : ∀ w1, Below w.heap.size w w1 → Calls Tryz.prog 43 #[ptr bb 0] w1 (RightR w1 r)) : Calls Tryz.prog 39 #[.func (.func 43) #[] #[ptr bb 0]] w fun e w' => e = .returned (.bool r) ∧ Below w.heap.size w w' := by
  have hmf : ∀ (fn : Fn) (first cap : Array Value) (w : World), (Instr.makeFunc fn first cap).run Tryz.prog w = .ok (.func fn first cap) w := fun _ _ _ _ => rfl
  have hb := below_alloc w (Obj.cells #[.bool false] 4)
  have hcc := hc _ hb
  have hrow : (w.alloc (Obj.cells #[.bool false] 4)).heap[w.heap.size]? = some (.cells #[.bool false] 4) := heap_alloc_new _ _
  go_enter_defers Tryz.func39, Tryz.ntmps39
  go_upto_region 2 with fail
  generalize w.alloc (Obj.cells #[.bool false] 4) = w1 at *
  go_wp2_with (first | (go_at_call 43; (with_reducible refine hcc.mono ?_); clear hcc hc; rintro e w2 ⟨he | ⟨he, hf⟩, B2⟩ <;> subst he <;> dsimp only <;> (replace hrow : w2.heap[w.heap.size]? = some (.cells #[.bool false] 4) := by rw [B2.block _ (lt_of_some hrow)]; exact hrow) <;> (replace hb := below_then hb (Nat.le_refl _) B2) <;> clear B2 <;> (have z : w2.cell? ⟨w.heap.size, 0, none⟩ = some (.bool false) := by rw [cell_of_row _ _ _ _ _ _ hrow]; rfl) <;> (have f : w2.frozen? ⟨w.heap.size, 0, none⟩ = false := frozen_of_row _ _ _ _ _ hrow)))
  · refine leaves_cons (f := 57) (args := #[.pointer (some ⟨w.heap.size, 0, none⟩)]) (by simp) (by simp [go_sem]) ?_
    refine (catch_idle ⟨w.heap.size, 0, none⟩ _).mono ?_
    rintro e u' w'' ⟨rfl, rfl, rfl⟩
    have hr2 := heap_setCell_same w2 w.heap.size 0 #[.bool false] 4 (.bool r) hrow
    have z2 : (w2.setCell ⟨w.heap.size, 0, none⟩ (.bool r)).cell? ⟨w.heap.size, 0, none⟩ = some (.bool r) := by rw [cell_of_row _ _ _ _ _ _ hr2]; rfl
    simp [Leaves, settle, results, Tryz.results39, go_sem, z2]
    exact below_cell hb (Nat.le_refl _)
  · refine leaves_cons (f := 57) (args := #[.pointer (some ⟨w.heap.size, 0, none⟩)]) (by simp) (by simp [go_sem]) ?_
    refine (catch_panicking ⟨w.heap.size, 0, none⟩ false 30 (vI 4) [] _ z f).mono ?_
    rintro e u' w'' ⟨rfl, rfl, rfl⟩
    have hr2 := heap_setCell_same w2 w.heap.size 0 #[.bool false] 4 (.bool false) hrow
    have z2 : (w2.setCell ⟨w.heap.size, 0, none⟩ (.bool false)).cell? ⟨w.heap.size, 0, none⟩ = some (.bool false) := by rw [cell_of_row _ _ _ _ _ _ hr2]; rfl
    simp [Leaves, settle, results, Tryz.results39, go_sem, z2]
    exact ⟨hf, below_cell hb (Nat.le_refl _)⟩
set_option maxHeartbeats 4000000 in
theorem orNothing46_c {w : World} {bb : Nat} {r : Bool} (hc : ∀ w1, Below w.heap.size w w1 → Calls Tryz.prog 46 #[ptr bb 0] w1 (RightR w1 r)) : Calls Tryz.prog 39 #[.func (.func 46) #[] #[ptr bb 0]] w fun e w' => e = .returned (.bool r) ∧ Below w.heap.size w w' := by
  have hmf : ∀ (fn : Fn) (first cap : Array Value) (w : World), (Instr.makeFunc fn first cap).run Tryz.prog w = .ok (.func fn first cap) w := fun _ _ _ _ => rfl
  have hb := below_alloc w (Obj.cells #[.bool false] 4)
  have hcc := hc _ hb
  have hrow : (w.alloc (Obj.cells #[.bool false] 4)).heap[w.heap.size]? = some (.cells #[.bool false] 4) := heap_alloc_new _ _
  go_enter_defers Tryz.func39, Tryz.ntmps39
  go_upto_region 2 with fail
  generalize w.alloc (Obj.cells #[.bool false] 4) = w1 at *
  go_wp2_with (first | (go_at_call 46; (with_reducible refine hcc.mono ?_); clear hcc hc; rintro e w2 ⟨he | ⟨he, hf⟩, B2⟩ <;> subst he <;> dsimp only <;> (replace hrow : w2.heap[w.heap.size]? = some (.cells #[.bool false] 4) := by rw [B2.block _ (lt_of_some hrow)]; exact hrow) <;> (replace hb := below_then hb (Nat.le_refl _) B2) <;> clear B2 <;> (have z : w2.cell? ⟨w.heap.size, 0, none⟩ = some (.bool false) := by rw [cell_of_row _ _ _ _ _ _ hrow]; rfl) <;> (have f : w2.frozen? ⟨w.heap.size, 0, none⟩ = false := frozen_of_row _ _ _ _ _ hrow)))
  · refine leaves_cons (f := 57) (args := #[.pointer (some ⟨w.heap.size, 0, none⟩)]) (by simp) (by simp [go_sem]) ?_
    refine (catch_idle ⟨w.heap.size, 0, none⟩ _).mono ?_
    rintro e u' w'' ⟨rfl, rfl, rfl⟩
    have hr2 := heap_setCell_same w2 w.heap.size 0 #[.bool false] 4 (.bool r) hrow
    have z2 : (w2.setCell ⟨w.heap.size, 0, none⟩ (.bool r)).cell? ⟨w.heap.size, 0, none⟩ = some (.bool r) := by rw [cell_of_row _ _ _ _ _ _ hr2]; rfl
    simp [Leaves, settle, results, Tryz.results39, go_sem, z2]
    exact below_cell hb (Nat.le_refl _)
  · refine leaves_cons (f := 57) (args := #[.pointer (some ⟨w.heap.size, 0, none⟩)]) (by simp) (by simp [go_sem]) ?_
    refine (catch_panicking ⟨w.heap.size, 0, none⟩ false 30 (vI 4) [] _ z f).mono ?_
    rintro e u' w'' ⟨rfl, rfl, rfl⟩
    have hr2 := heap_setCell_same w2 w.heap.size 0 #[.bool false] 4 (.bool false) hrow
    have z2 : (w2.setCell ⟨w.heap.size, 0, none⟩ (.bool false)).cell? ⟨w.heap.size, 0, none⟩ = some (.bool false) := by rw [cell_of_row _ _ _ _ _ _ hr2]; rfl
    simp [Leaves, settle, results, Tryz.results39, go_sem, z2]
    exact ⟨hf, below_cell hb (Nat.le_refl _)⟩

set_option maxHeartbeats 2000000 in
theorem defines_c (o : Opr) (w : World) : Calls Tryz.prog 14 #[opV o] w fun e w' => e = .returned (.bool (hasP o.kind 32)) ∧ Below w.heap.size w w' := by
  have hmf : ∀ (fn : Fn) (first cap : Array Value) (w : World), (Instr.makeFunc fn first cap).run Tryz.prog w = .ok (.func fn first cap) w := fun _ _ _ _ => rfl
  have hb := below_alloc w (.cells (opA o) 27)
  have hrow : (w.alloc (.cells (opA o) 27)).heap[w.heap.size]? = some (.cells (opA o) 27) := heap_alloc_new _ _
  go_enter Tryz.func14, Tryz.ntmps14
  go_upto_region 1 with fail
  generalize w.alloc (.cells (opA o) 27) = w1 at *
  have k1 := orNothing43_c (w := w1) (bb := w.heap.size) (r := hasP o.kind 32) (fun w2 B => clo43_c (by rw [B.block _ (lt_of_some hrow)]; exact hrow))
  clear hrow
  go_wp2_with (first | (go_at_call 39; (with_reducible refine k1.mono ?_); clear k1; rintro e w2 ⟨rfl, B2⟩; dsimp only))
  go_ret
  exact ⟨rfl, below_then hb (Nat.le_refl _) B2⟩

set_option maxHeartbeats 2000000 in
theorem leaves_c (o : Opr) (w : World) : Calls Tryz.prog 15 #[opV o] w fun e w' => e = .returned (.bool (hasP o.kind 64)) ∧ Below w.heap.size w w' := by
  have hmf : ∀ (fn : Fn) (first cap : Array Value) (w : World), (Instr.makeFunc fn first cap).run Tryz.prog w = .ok (.func fn first cap) w := fun _ _ _ _ => rfl
  have hb := below_alloc w (.cells (opA o) 27)
  have hrow : (w.alloc (.cells (opA o) 27)).heap[w.heap.size]? = some (.cells (opA o) 27) := heap_alloc_new _ _
  go_enter Tryz.func15, Tryz.ntmps15
  go_upto_region 1 with fail
  generalize w.alloc (.cells (opA o) 27) = w1 at *
  have k1 := orNothing46_c (w := w1) (bb := w.heap.size) (r := hasP o.kind 64) (fun w2 B => clo46_c (by rw [B.block _ (lt_of_some hrow)]; exact hrow))
  clear hrow
  go_wp2_with (first | (go_at_call 39; (with_reducible refine k1.mono ?_); clear k1; rintro e w2 ⟨rfl, B2⟩; dsimp only))
  go_ret
  exact ⟨rfl, below_then hb (Nat.le_refl _) B2⟩
end Go.Proofs.YtccmncecpmemaaaGreatDoor
/- What the program tells of any operation: Uses. -/
namespace Go.Proofs.YtccmncecpmemaaaGreatDoor
open Go.RowKit
set_option linter.unusedVariables false
set_option linter.unusedSimpArgs false
set_option maxRecDepth 8000

theorem catchI_idle (p : Addr) (w : World) :
    CallsD Tryz.prog 56 #[.pointer (some p)] .returning w fun e u' w' => e = .returned (.tuple #[]) ∧ u' = .returning ∧ w' = w := by
  refine callsD_of_wpS Tryz.func56 rfl fun c₀ cs hu => ?_
  apply wpS_seq
  apply wpS_region
  simp [wpOpsS, go_sem, recoverD, hu, Tryz.ntmps56, Exit.thenS]
  refine wpS_cond (t := false) (by simp [Act.eval, Array.replicate]) ?_
  simp only [Bool.false_eq_true, if_false]
  refine wpS_of_wp (wp_skip ?_)
  cases c₀
  simp_all [bodyPostS, results, Tryz.results56]
theorem catchI_panicking (p : Addr) (x : Value) (u : TypeId) (pv : Value) (older : List PanicEntry) (w : World) (hc : w.cell? p = some x) (hz : w.frozen? p = false) :
    CallsD Tryz.prog 56 #[.pointer (some p)] (.panicking ({ v := .iface u pv, recovered := false } :: older)) w fun e u' w' =>
      e = .returned (.tuple #[]) ∧ u' = .panicking ({ v := .iface u pv, recovered := true } :: older) ∧ w' = w.setCell p (.slice none 0 0) := by
  refine callsD_of_wpS Tryz.func56 rfl fun c₀ cs hu => ?_
  apply wpS_seq
  apply wpS_region
  simp [wpOpsS, go_sem, recoverD, hu, Tryz.ntmps56, Exit.thenS]
  refine wpS_cond (t := true) (by simp [Act.eval, Array.replicate]) ?_
  simp only [if_true]
  apply wpS_seq
  apply wpS_region
  simp [wpOpsS, go_sem, Exit.thenS]
  apply wpS_region
  simp [wpOpsS, go_sem, hc, hz, bodyPostS, results, Tryz.results56]

def UsesR (w : World) (zs : List Int) (e : Ending) (w' : World) : Prop := ((∃ v, e = .returned v ∧ w'.ownsRow w.heap.size 3 1 v zs.length (flI zs)) ∨ (e = .panicked pan ∧ zs = [])) ∧ Below w.heap.size w w'
theorem usesL_none {o : Opr} (h : isK o.kind = false) : usesL o = [] := by
  have h2 : hasP o.kind 2 = false := by
    have : o.kind.toNat = 0 ∨ 18 < o.kind.toNat := by
      unfold isK at h
      simp only [Bool.and_eq_false_iff, decide_eq_false_iff_not] at h
      omega
    unfold hasP partsV
    rw [prt_none this]
    decide +kernel
  have h4 : hasP o.kind 4 = false := by
    have : o.kind.toNat = 0 ∨ 18 < o.kind.toNat := by
      unfold isK at h
      simp only [Bool.and_eq_false_iff, decide_eq_false_iff_not] at h
      omega
    unfold hasP partsV
    rw [prt_none this]
    decide +kernel
  unfold usesL
  rw [h2, h4]
  rfl
set_option maxHeartbeats 2000000 in
theorem uses_p (o : Opr) (hk : isK o.kind = false) (w : World) : Calls Tryz.prog 37 #[opV o] w fun e w' => e = .panicked pan ∧ Below w.heap.size w w' := by
  have hb := below_alloc w (.cells (opA o) 27)
  have L : LocO w.heap.size o (w.alloc (.cells (opA o) 27)) := LocO.new w _
  go_enter Tryz.func37, Tryz.ntmps37
  go_upto_region 1 with fail
  generalize w.alloc (.cells (opA o) 27) = w1 at *
  have z0 := L.c0
  go_wp2_with (first | (go_at_call 44; (with_reducible refine (shapeOf_p _ hk _).mono ?_); rintro e w2 ⟨rfl, B⟩; dsimp only))
  exact ⟨rfl, rfl, below_then hb (Nat.le_refl _) B⟩
set_option maxHeartbeats 2000000 in
theorem clo36_c {w : World} {bb : Nat} {o : Opr} (hb : LocO bb o w) : Calls Tryz.prog 36 #[ptr bb 0] w (UsesR w (usesL o)) := by
  cases hk : isK o.kind with
  | true =>
    have k1 := uses_c o hk w
    go_enter Tryz.func36, Tryz.ntmps36
    go_wp2_with (first | ((with_reducible refine wpList_load42 rfl _ rfl _ rfl _ (hb.at_) ?_); try simp only [Act.put]) | (go_at_call 37; (with_reducible refine k1.mono ?_); clear k1; rintro e w1 ⟨v, rfl, O, B⟩; dsimp only))
    go_ret
    exact ⟨.inl ⟨_, rfl, O⟩, B⟩
  | false =>
    have k1 := uses_p o hk w
    rw [usesL_none hk]
    go_enter Tryz.func36, Tryz.ntmps36
    go_wp2_with (first | ((with_reducible refine wpList_load42 rfl _ rfl _ rfl _ (hb.at_) ?_); try simp only [Act.put]) | (go_at_call 37; (with_reducible refine k1.mono ?_); clear k1; rintro e w1 ⟨rfl, B⟩; dsimp only))
    exact ⟨rfl, .inr ⟨rfl, rfl⟩, B⟩
theorem own_setCell {w : World} {base b : Nat} {v u : Value} {n : Nat} {xs : List Value} (h : w.ownsRow base 3 1 v n xs) (hb : b < base) : (w.setCell ⟨b, 0, none⟩ u).ownsRow base 3 1 v n xs :=
  own_of_block h (fun k hk => Below.heap_setCell _ _ _ _ (by have := (h.lt k hk).1; show k ≠ b; omega))
set_option maxHeartbeats 4000000 in
theorem orNothingI_c {w : World} {bb : Nat} {zs : List Int} (hc : ∀ w1, Below w.heap.size w w1 → Calls Tryz.prog 36 #[ptr bb 0] w1 (UsesR w1 zs)) : Calls Tryz.prog 35 #[.func (.func 36) #[] #[ptr bb 0]] w fun e w' => ∃ v, e = .returned v ∧ RawI w' v zs ∧ Below w.heap.size w w' := by
  have hmf : ∀ (fn : Fn) (first cap : Array Value) (w : World), (Instr.makeFunc fn first cap).run Tryz.prog w = .ok (.func fn first cap) w := fun _ _ _ _ => rfl
  have hb := below_alloc w (Obj.cells #[.slice none 0 0] 36)
  have hcc := hc _ hb
  have hsz : w.heap.size < (w.alloc (Obj.cells #[.slice none 0 0] 36)).heap.size := by simp
  have hrow : (w.alloc (Obj.cells #[.slice none 0 0] 36)).heap[w.heap.size]? = some (.cells #[.slice none 0 0] 36) := heap_alloc_new _ _
  go_enter_defers Tryz.func35, Tryz.ntmps35
  go_upto_region 2 with fail
  generalize w.alloc (Obj.cells #[.slice none 0 0] 36) = w1 at *
  go_wp2_with (first | (go_at_call 36; (with_reducible refine hcc.mono ?_); clear hcc hc; rintro e w2 ⟨⟨v, he, O⟩ | ⟨he, hf⟩, B2⟩ <;> subst he <;> dsimp only <;> (try (obtain ⟨ao, cap, hv⟩ := (raw_own O).len; subst hv)) <;> (replace hrow : w2.heap[w.heap.size]? = some (.cells #[.slice none 0 0] 36) := by rw [B2.block _ (lt_of_some hrow)]; exact hrow) <;> (replace hb := below_then hb (Nat.le_refl _) B2) <;> clear B2 <;> (have z : w2.cell? ⟨w.heap.size, 0, none⟩ = some (.slice none 0 0) := by rw [cell_of_row _ _ _ _ _ _ hrow]; rfl) <;> (have f : w2.frozen? ⟨w.heap.size, 0, none⟩ = false := frozen_of_row _ _ _ _ _ hrow)))
  · refine leaves_cons (f := 56) (args := #[.pointer (some ⟨w.heap.size, 0, none⟩)]) (by simp) (by simp [go_sem]) ?_
    refine (catchI_idle ⟨w.heap.size, 0, none⟩ _).mono ?_
    rintro e u' w'' ⟨rfl, rfl, rfl⟩
    have hr2 := heap_setCell_same w2 w.heap.size 0 #[.slice none 0 0] 36 (.slice ao zs.length cap) hrow
    have z2 : (w2.setCell ⟨w.heap.size, 0, none⟩ (.slice ao zs.length cap)).cell? ⟨w.heap.size, 0, none⟩ = some (.slice ao zs.length cap) := by rw [cell_of_row _ _ _ _ _ _ hr2]; rfl
    simp [Leaves, settle, results, Tryz.results35, go_sem, z2]
    exact ⟨raw_own (own_setCell O hsz), below_cell hb (Nat.le_refl _)⟩
  · refine leaves_cons (f := 56) (args := #[.pointer (some ⟨w.heap.size, 0, none⟩)]) (by simp) (by simp [go_sem]) ?_
    refine (catchI_panicking ⟨w.heap.size, 0, none⟩ _ 30 (vI 4) [] _ z f).mono ?_
    rintro e u' w'' ⟨rfl, rfl, rfl⟩
    have hr2 := heap_setCell_same w2 w.heap.size 0 #[.slice none 0 0] 36 (.slice none 0 0) hrow
    have z2 : (w2.setCell ⟨w.heap.size, 0, none⟩ (.slice none 0 0)).cell? ⟨w.heap.size, 0, none⟩ = some (.slice none 0 0) := by rw [cell_of_row _ _ _ _ _ _ hr2]; rfl
    simp [Leaves, settle, results, Tryz.results35, go_sem, z2]
    subst hf
    exact ⟨RawI.nil _, below_cell hb (Nat.le_refl _)⟩
set_option maxHeartbeats 2000000 in
theorem usesF_c (o : Opr) (w : World) : Calls Tryz.prog 11 #[opV o] w fun e w' => ∃ v, e = .returned v ∧ RawI w' v (usesL o) ∧ Below w.heap.size w w' := by
  have hmf : ∀ (fn : Fn) (first cap : Array Value) (w : World), (Instr.makeFunc fn first cap).run Tryz.prog w = .ok (.func fn first cap) w := fun _ _ _ _ => rfl
  have hb := below_alloc w (.cells (opA o) 27)
  have L : LocO w.heap.size o (w.alloc (.cells (opA o) 27)) := LocO.new w _
  go_enter Tryz.func11, Tryz.ntmps11
  go_upto_region 1 with fail
  generalize w.alloc (.cells (opA o) 27) = w1 at *
  have k1 := orNothingI_c (w := w1) (bb := w.heap.size) (zs := usesL o) (fun w2 B => clo36_c (L.grow B))
  clear L
  go_wp2_with (first | (go_at_call 35; (with_reducible refine k1.mono ?_); clear k1; rintro e w2 ⟨v, rfl, R, B2⟩; dsimp only))
  go_ret
  exact ⟨_, rfl, R, below_then hb (Nat.le_refl _) B2⟩
end Go.Proofs.YtccmncecpmemaaaGreatDoor
