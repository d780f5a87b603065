/- slices.Backward: the closure that is ranged over. -/
import Derived.Test.YtejlmggfeejgpaaDoorRk
import Derived.Test.YtejlmggfeejgpaaDoorPa
import Derived.Test.YtejlmggfeejgpaaDoorIb
namespace Go.Proofs.YtejlmggfeejgpaaDoor
open Go.RowKit
set_option linter.unusedVariables false
set_option linter.unusedSimpArgs false
set_option maxRecDepth 8000

open Go.Shelf
attribute [local go_sem] Oper.semAt_some
abbrev Boxed (w : World) (b : Nat) (t : TypeId) (v : Value) : Prop := w.heap[b]? = some (.cells #[v] t)
theorem Boxed.cell {w : World} {b : Nat} {t : TypeId} {v : Value} (h : Boxed w b t v) : w.cell? ⟨b, 0, none⟩ = some v := by rw [cell_of_row _ _ _ _ _ _ h]; rfl
theorem Boxed.new (w : World) (t : TypeId) (v : Value) : Boxed (w.alloc (.cells #[v] t)) w.heap.size t v := heap_alloc_new _ _
theorem back_c (ao : Option Addr) (m cap : Nat) (w : World) : Calls Tryd.prog 33 #[.slice ao m cap] w fun e w' => e = .returned (.func (.func 42) #[] #[ptr w.heap.size 0]) ∧ Boxed w' w.heap.size 23 (.slice ao m cap) ∧ Below w.heap.size w w' := by
  have hmf : ∀ (fn : Fn) (first cap : Array Value) (w : World), (Instr.makeFunc fn first cap).run Tryd.prog w = .ok (.func fn first cap) w := fun _ _ _ _ => rfl
  go_enter Tryd.func33, Tryd.ntmps33
  go_wp2
  go_ret
  exact ⟨rfl, Boxed.new w _ _, below_alloc _ _⟩
set_option maxHeartbeats 1000000 in
theorem back_in {l : List Opr} {v : Value} {b : Nat} (I : Nat → World → Prop)
    (hT : ∀ k W, I k W → Boxed W b 23 v ∧ Ops W v l)
    (L : Nat) (X : World → Prop) (W : World)
    (hY : ∀ k W1, k < l.length → I k W1 → X W1 → YieldAt Fence.wide 7 Tryd.prog L #[vI ((l.length - 1 - k : Nat) : Int), opV (opAt l (l.length - 1 - k))] W1 fun e W' => e = .returned (.bool true) ∧ I (k + 1) W' ∧ X W') (h0 : I 0 W) (hx : X W) :
    CallsIn Fence.wide 8 Tryd.prog 42 (#[.func (.yield L) #[] #[]] ++ #[ptr b 0]) W fun e W' => (∃ v, e = .returned v) ∧ I l.length W' ∧ X W' := by
  obtain ⟨ao, cap, ev⟩ := (hT 0 W h0).2.len
  have hmax := (hT 0 W h0).2.max
  simp only [maxLen] at hmax
  have z1 := (hT 0 W h0).1.cell
  refine callsIn_of_wp Tryd.func42 rfl trivial ?_ rfl
  simp only [Tryd.ntmps42, List.size_toArray, List.length_cons, List.length_nil, Nat.reduceAdd, Nat.reduceSub, Array.replicate_succ, Array.replicate_zero, List.push_toArray, List.append_toArray, List.nil_append, List.cons_append]
  rw [ev] at z1
  gi_wp2
  gi_loopw [3] (fun s3 wr => ∃ k i : Nat, k + i = l.length ∧ s3 = vI ((i : Int) - 1) ∧ I k wr ∧ X wr) (fun s3 _ => (intOf s3 + 1).toNat)
  case atStart => exact ⟨0, l.length, by omega, by go_num, h0, hx⟩
  case round =>
    obtain ⟨k, i, hk, rfl, hIk, hXk⟩ := hrel
    clear z1 hx h0
    cases i with
    | succ j =>
      have hkl : k < l.length := by omega
      have hj : l.length - 1 - k = j := by omega
      have hs : (((j + 1 : Nat) : Int) - 1) = (j : Int) := by omega
      rw [hs]
      obtain ⟨ra, cap', ev', hc⟩ := (hT k wr hIk).2.cell (by omega)
      have z2 := (hT k wr hIk).1.cell
      rw [ev'] at z2
      obtain ⟨_, c0, c1, c2, c3, c4, c5⟩ := hc j _ (opAt_some (by omega))
      clear hc
      obtain ⟨fn, tmps, assign, body, hy, hR⟩ := hY k wr hkl hIk hXk
      rw [hj] at hy
      clear hY hT hIk hXk
      have hjl : (j : Int) < l.length := by omega
      have h0j : (0 : Int) ≤ j := by omega
      gi_wp2
      refine hR.mono ?_
      rintro e W3 ⟨rfl, hI3, hX3⟩
      dsimp only
      clear hR hy c0 c1 c2 c3 c4 c5 z2
      gi_wp2
      go_roundw
      case rel => exact ⟨k + 1, j, by omega, by go_num, hI3, hX3⟩
      case measure => simp [intOf]
    | zero =>
      have e : k = l.length := by omega
      subst e
      gi_wp2
      go_end0
      exact ⟨⟨_, rfl⟩, hIk, hXk⟩
end Go.Proofs.YtejlmggfeejgpaaDoor
