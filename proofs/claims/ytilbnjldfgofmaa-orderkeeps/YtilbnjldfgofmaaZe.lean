/- Backward over a row of items. -/
import Derived.Test.YtilbnjldfgofmaaZd
import Derived.Test.YtilbnjldfgofmaaRh
import Derived.Sort.QuietIn
namespace Go.Proofs.Ytilbnjldfgofmaa
open Go.RowKit
set_option linter.unusedVariables false
set_option linter.unusedSimpArgs false
set_option maxRecDepth 8000

open Go.Shelf
abbrev Boxed (w : World) (b : Nat) (t : TypeId) (v : Value) : Prop := w.heap[b]? = some (.cells #[v] t)
theorem Boxed.cell {w : World} {b : Nat} {t : TypeId} {v : Value} (h : Boxed w b t v) : w.cell? ⟨b, 0, none⟩ = some v := by rw [cell_of_row _ _ _ _ _ _ h]; rfl
theorem Boxed.new (w : World) (t : TypeId) (v : Value) : Boxed (w.alloc (.cells #[v] t)) w.heap.size t v := heap_alloc_new _ _
theorem Boxed.grow {w w' : World} {b : Nat} {t : TypeId} {v : Value} (h : Boxed w b t v) (hb : Below w.heap.size w w') : Boxed w' b t v := by unfold Boxed; rw [hb.block b (lt_of_some h)]; exact h
theorem Boxed.frz {w : World} {b : Nat} {t : TypeId} {v : Value} (h : Boxed w b t v) (j : Nat) : w.frozen? ⟨b, j, none⟩ = false := frozen_of_row _ _ _ _ _ h
theorem back_c (ao : Option Addr) (m cap : Nat) (w : World) : Calls Try.prog 71 #[.slice ao m cap] w fun e w' => e = .returned (.func (.func 84) #[] #[ptr w.heap.size 0]) ∧ Boxed w' w.heap.size 63 (.slice ao m cap) ∧ Below w.heap.size w w' := by
  have hmf : ∀ (fn : Fn) (first cap : Array Value) (w : World), (Instr.makeFunc fn first cap).run Try.prog w = .ok (.func fn first cap) w := fun _ _ _ _ => rfl
  go_enter Try.func71, Try.ntmps71
  go_wp2
  go_ret
  exact ⟨rfl, heap_alloc_new _ _, below_alloc _ _⟩
theorem back_in {ids : List Nat} {m : Nat} {b : Nat} {v : Value} (hm : m ≤ 512) (I Ix : Nat → World → Prop)
    (hT : ∀ k W, I k W → Boxed W b 63 v ∧ (0 < m → ∃ g cap, v = .slice (some ⟨g, 0, none⟩) m cap ∧ ∀ j, j < m → W.cell? ⟨g, j, none⟩ = some (ptr (idAt ids j) 0))) (hl : ∃ ao cap, v = .slice ao m cap)
    (L : Nat) (X Y : World → Prop) (W : World)
    (hY : ∀ k W1, k < m → I k W1 → X W1 → YieldAt Fence.wide 7 Try.prog L #[vI ((m - 1 - k : Nat) : Int), ptr (idAt ids (m - 1 - k)) 0] W1 fun e W' => (e = .returned (.bool true) ∧ I (k + 1) W' ∧ X W') ∨ (e = .returned (.bool false) ∧ Ix k W' ∧ Y W')) (h0 : I 0 W) (hx : X W) :
    CallsIn Fence.wide 8 Try.prog 84 (#[.func (.yield L) #[] #[]] ++ #[ptr b 0]) W fun e W' => (∃ v, e = .returned v) ∧ ((I m W' ∧ X W') ∨ ∃ k, Ix k W' ∧ Y W') := by
  obtain ⟨ao, cap, rfl⟩ := hl
  have z1 := (hT 0 W h0).1.cell
  refine callsIn_of_wp Try.func84 rfl trivial ?_ rfl
  simp only [Try.ntmps84, List.size_toArray, List.length_cons, List.length_nil, Nat.reduceAdd, Nat.reduceSub, Array.replicate_succ, Array.replicate_zero, List.push_toArray, List.append_toArray, List.nil_append, List.cons_append]
  gi_wp2
  gi_loopw [3] (fun s3 wr => ∃ k i : Nat, k + i = m ∧ s3 = vI ((i : Int) - 1) ∧ I k wr ∧ X wr) (fun s3 _ => (intOf s3 + 1).toNat)
  case atStart => exact ⟨0, m, by omega, by go_num, h0, hx⟩
  case round =>
    obtain ⟨k, i, hk, rfl, hIk, hXk⟩ := hrel
    clear z1 hx h0
    cases i with
    | succ j =>
      have hkl : k < m := by omega
      have hj : m - 1 - k = j := by omega
      have hs : (((j + 1 : Nat) : Int) - 1) = (j : Int) := by omega
      rw [hs]
      obtain ⟨g, cap', ev', hc⟩ := (hT k wr hIk).2 (by omega)
      have z2 := (hT k wr hIk).1.cell
      rw [ev'] at z2
      have c0 := hc j (by omega)
      clear hc
      obtain ⟨fn, tmps, assign, body, hy, hR⟩ := hY k wr hkl hIk hXk
      rw [hj] at hy
      clear hY hT hIk hXk
      have hjl : (j : Int) < m := by omega
      have h0j : (0 : Int) ≤ j := by omega
      gi_wp2
      refine hR.mono ?_
      rintro e W3 (⟨rfl, hI3, hX3⟩ | ⟨rfl, hI3, hX3⟩)
      · dsimp only
        clear hR hy c0 z2
        gi_wp2
        go_roundw
        case rel => exact ⟨k + 1, j, by omega, by first | go_num | rfl, hI3, hX3⟩
        case measure => simp [intOf]
      · dsimp only
        clear hR hy c0 z2
        gi_wp2
        exact bodyPost_ret (results_none (by rfl) _ _ _) rfl ⟨⟨_, rfl⟩, .inr ⟨k, hI3, hX3⟩⟩
    | zero =>
      obtain rfl : k = m := by omega
      have z2 := (hT k wr hIk).1.cell
      clear hY hT
      gi_wp2
      go_end0
      exact ⟨⟨_, rfl⟩, .inl ⟨hIk, hXk⟩⟩
end Go.Proofs.Ytilbnjldfgofmaa
