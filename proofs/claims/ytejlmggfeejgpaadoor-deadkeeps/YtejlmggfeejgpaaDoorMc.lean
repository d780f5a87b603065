/- What the program tells of any operation: Uses. -/
import Derived.Test.YtejlmggfeejgpaaDoorIg
import Derived.Test.YtejlmggfeejgpaaDoorKw
namespace Go.Proofs.YtejlmggfeejgpaaDoor
open Go.RowKit
set_option linter.unusedVariables false
set_option linter.unusedSimpArgs false
set_option maxRecDepth 8000

theorem catchI_idle (p : Addr) (w : World) :
    CallsD Tryd.prog 50 #[.pointer (some p)] .returning w fun e u' w' => e = .returned (.tuple #[]) ∧ u' = .returning ∧ w' = w := by
  refine callsD_of_wpS Tryd.func50 rfl fun c₀ cs hu => ?_
  apply wpS_seq
  apply wpS_region
  simp [wpOpsS, go_sem, recoverD, hu, Tryd.ntmps50, Exit.thenS]
  refine wpS_cond (t := false) (by simp [Act.eval, Array.replicate]) ?_
  simp only [Bool.false_eq_true, if_false]
  refine wpS_of_wp (wp_skip ?_)
  cases c₀
  simp_all [bodyPostS, results, Tryd.results50]
theorem catchI_panicking (p : Addr) (x : Value) (u : TypeId) (pv : Value) (older : List PanicEntry) (w : World) (hc : w.cell? p = some x) (hz : w.frozen? p = false) :
    CallsD Tryd.prog 50 #[.pointer (some p)] (.panicking ({ v := .iface u pv, recovered := false } :: older)) w fun e u' w' =>
      e = .returned (.tuple #[]) ∧ u' = .panicking ({ v := .iface u pv, recovered := true } :: older) ∧ w' = w.setCell p (.slice none 0 0) := by
  refine callsD_of_wpS Tryd.func50 rfl fun c₀ cs hu => ?_
  apply wpS_seq
  apply wpS_region
  simp [wpOpsS, go_sem, recoverD, hu, Tryd.ntmps50, Exit.thenS]
  refine wpS_cond (t := true) (by simp [Act.eval, Array.replicate]) ?_
  simp only [if_true]
  apply wpS_seq
  apply wpS_region
  simp [wpOpsS, go_sem, Exit.thenS]
  apply wpS_region
  simp [wpOpsS, go_sem, hc, hz, bodyPostS, results, Tryd.results50]

def UsesR (w : World) (zs : List Int) (e : Ending) (w' : World) : Prop := ((∃ v, e = .returned v ∧ w'.ownsRow w.heap.size 3 1 v zs.length (flI zs)) ∨ (e = .panicked pan ∧ zs = [])) ∧ Below w.heap.size w w'
theorem usesL_none {o : Opr} (h : isK o.kind = false) : usesL o = [] := by
  have h2 : hasP o.kind 2 = false := by
    have : o.kind.toNat = 0 ∨ 18 < o.kind.toNat := by
      unfold isK at h
      simp only [Bool.and_eq_false_iff, decide_eq_false_iff_not] at h
      omega
    unfold hasP partsV
    rw [prt_none this]
    decide +kernel
  have h4 : hasP o.kind 4 = false := by
    have : o.kind.toNat = 0 ∨ 18 < o.kind.toNat := by
      unfold isK at h
      simp only [Bool.and_eq_false_iff, decide_eq_false_iff_not] at h
      omega
    unfold hasP partsV
    rw [prt_none this]
    decide +kernel
  unfold usesL
  rw [h2, h4]
  rfl
set_option maxHeartbeats 2000000 in
theorem uses_p (o : Opr) (hk : isK o.kind = false) (w : World) : Calls Tryd.prog 31 #[opV o] w fun e w' => e = .panicked pan ∧ Below w.heap.size w w' := by
  have hb := below_alloc w (.cells (opA o) 33)
  have L : LocO w.heap.size o (w.alloc (.cells (opA o) 33)) := LocO.new w _
  go_enter Tryd.func31, Tryd.ntmps31
  go_upto_region 1 with fail
  generalize w.alloc (.cells (opA o) 33) = w1 at *
  have z0 := L.c0
  go_wp2_with (first | (go_at_call 27; (with_reducible refine (shapeOf_p _ hk _).mono ?_); rintro e w2 ⟨rfl, B⟩; dsimp only))
  exact ⟨rfl, rfl, below_then hb (Nat.le_refl _) B⟩
set_option maxHeartbeats 2000000 in
theorem clo36_c {w : World} {bb : Nat} {o : Opr} (hb : LocO bb o w) : Calls Tryd.prog 46 #[ptr bb 0] w (UsesR w (usesL o)) := by
  cases hk : isK o.kind with
  | true =>
    have k1 := uses_c o hk w
    go_enter Tryd.func46, Tryd.ntmps46
    go_wp2_with (first | ((with_reducible refine wpList_load42 rfl _ rfl _ rfl _ (hb.at_) ?_); try simp only [Act.put]) | (go_at_call 31; (with_reducible refine k1.mono ?_); clear k1; rintro e w1 ⟨v, rfl, O, B⟩; dsimp only))
    go_ret
    exact ⟨.inl ⟨_, rfl, O⟩, B⟩
  | false =>
    have k1 := uses_p o hk w
    rw [usesL_none hk]
    go_enter Tryd.func46, Tryd.ntmps46
    go_wp2_with (first | ((with_reducible refine wpList_load42 rfl _ rfl _ rfl _ (hb.at_) ?_); try simp only [Act.put]) | (go_at_call 31; (with_reducible refine k1.mono ?_); clear k1; rintro e w1 ⟨rfl, B⟩; dsimp only))
    exact ⟨rfl, .inr ⟨rfl, rfl⟩, B⟩
theorem own_setCell {w : World} {base b : Nat} {v u : Value} {n : Nat} {xs : List Value} (h : w.ownsRow base 3 1 v n xs) (hb : b < base) : (w.setCell ⟨b, 0, none⟩ u).ownsRow base 3 1 v n xs :=
  own_of_block h (fun k hk => Below.heap_setCell _ _ _ _ (by have := (h.lt k hk).1; show k ≠ b; omega))
set_option maxHeartbeats 4000000 in
theorem orNothingI_c {w : World} {bb : Nat} {zs : List Int} (hc : ∀ w1, Below w.heap.size w w1 → Calls Tryd.prog 46 #[ptr bb 0] w1 (UsesR w1 zs)) : Calls Tryd.prog 45 #[.func (.func 46) #[] #[ptr bb 0]] w fun e w' => ∃ v, e = .returned v ∧ RawI w' v zs ∧ Below w.heap.size w w' := by
  have hmf : ∀ (fn : Fn) (first cap : Array Value) (w : World), (Instr.makeFunc fn first cap).run Tryd.prog w = .ok (.func fn first cap) w := fun _ _ _ _ => rfl
  have hb := below_alloc w (Obj.cells #[.slice none 0 0] 64)
  have hcc := hc _ hb
  have hsz : w.heap.size < (w.alloc (Obj.cells #[.slice none 0 0] 64)).heap.size := by simp
  have hrow : (w.alloc (Obj.cells #[.slice none 0 0] 64)).heap[w.heap.size]? = some (.cells #[.slice none 0 0] 64) := heap_alloc_new _ _
  go_enter_defers Tryd.func45, Tryd.ntmps45
  go_upto_region 2 with fail
  generalize w.alloc (Obj.cells #[.slice none 0 0] 64) = w1 at *
  go_wp2_with (first | (go_at_call 46; (with_reducible refine hcc.mono ?_); clear hcc hc; rintro e w2 ⟨⟨v, he, O⟩ | ⟨he, hf⟩, B2⟩ <;> subst he <;> dsimp only <;> (try (obtain ⟨ao, cap, hv⟩ := (raw_own O).len; subst hv)) <;> (replace hrow : w2.heap[w.heap.size]? = some (.cells #[.slice none 0 0] 64) := by rw [B2.block _ (lt_of_some hrow)]; exact hrow) <;> (replace hb := below_then hb (Nat.le_refl _) B2) <;> clear B2 <;> (have z : w2.cell? ⟨w.heap.size, 0, none⟩ = some (.slice none 0 0) := by rw [cell_of_row _ _ _ _ _ _ hrow]; rfl) <;> (have f : w2.frozen? ⟨w.heap.size, 0, none⟩ = false := frozen_of_row _ _ _ _ _ hrow)))
  · refine leaves_cons (f := 50) (args := #[.pointer (some ⟨w.heap.size, 0, none⟩)]) (by simp) (by simp [go_sem]) ?_
    refine (catchI_idle ⟨w.heap.size, 0, none⟩ _).mono ?_
    rintro e u' w'' ⟨rfl, rfl, rfl⟩
    have hr2 := heap_setCell_same w2 w.heap.size 0 #[.slice none 0 0] 64 (.slice ao zs.length cap) hrow
    have z2 : (w2.setCell ⟨w.heap.size, 0, none⟩ (.slice ao zs.length cap)).cell? ⟨w.heap.size, 0, none⟩ = some (.slice ao zs.length cap) := by rw [cell_of_row _ _ _ _ _ _ hr2]; rfl
    simp [Leaves, settle, results, Tryd.results45, go_sem, z2]
    exact ⟨raw_own (own_setCell O hsz), below_cell hb (Nat.le_refl _)⟩
  · refine leaves_cons (f := 50) (args := #[.pointer (some ⟨w.heap.size, 0, none⟩)]) (by simp) (by simp [go_sem]) ?_
    refine (catchI_panicking ⟨w.heap.size, 0, none⟩ _ 27 (vI 4) [] _ z f).mono ?_
    rintro e u' w'' ⟨rfl, rfl, rfl⟩
    have hr2 := heap_setCell_same w2 w.heap.size 0 #[.slice none 0 0] 64 (.slice none 0 0) hrow
    have z2 : (w2.setCell ⟨w.heap.size, 0, none⟩ (.slice none 0 0)).cell? ⟨w.heap.size, 0, none⟩ = some (.slice none 0 0) := by rw [cell_of_row _ _ _ _ _ _ hr2]; rfl
    simp [Leaves, settle, results, Tryd.results45, go_sem, z2]
    subst hf
    exact ⟨RawI.nil _, below_cell hb (Nat.le_refl _)⟩
set_option maxHeartbeats 2000000 in
theorem usesF_c (o : Opr) (w : World) : Calls Tryd.prog 35 #[opV o] w fun e w' => ∃ v, e = .returned v ∧ RawI w' v (usesL o) ∧ Below w.heap.size w w' := by
  have hmf : ∀ (fn : Fn) (first cap : Array Value) (w : World), (Instr.makeFunc fn first cap).run Tryd.prog w = .ok (.func fn first cap) w := fun _ _ _ _ => rfl
  have hb := below_alloc w (.cells (opA o) 33)
  have L : LocO w.heap.size o (w.alloc (.cells (opA o) 33)) := LocO.new w _
  go_enter Tryd.func35, Tryd.ntmps35
  go_upto_region 1 with fail
  generalize w.alloc (.cells (opA o) 33) = w1 at *
  have k1 := orNothingI_c (w := w1) (bb := w.heap.size) (zs := usesL o) (fun w2 B => clo36_c (L.grow B))
  clear L
  go_wp2_with (first | (go_at_call 45; (with_reducible refine k1.mono ?_); clear k1; rintro e w2 ⟨v, rfl, R, B2⟩; dsimp only))
  go_ret
  exact ⟨_, rfl, R, below_then hb (Nat.le_refl _) B2⟩
end Go.Proofs.YtejlmggfeejgpaaDoor
