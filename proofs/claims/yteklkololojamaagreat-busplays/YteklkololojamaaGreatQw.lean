/- calm. -/
import Derived.Test.YteklkololojamaaGreatQr
namespace Go.Proofs.YteklkololojamaaGreat
open Go.RowKit
set_option linter.unusedVariables false
set_option linter.unusedSimpArgs false
set_option maxRecDepth 8000

/-- A block, with the ranks of i interrupts from o on set. -/
structure Calm (b o : Nat) (ty : TypeId) (C : Array Value) (i : Nat) (w w' : World) : Prop where
  go : Goes (fun k => k = b) w w'
  ar : ∃ D, w'.heap[b]? = some (.cells D ty (0, 0)) ∧ D.size = C.size ∧ (∀ k, k < i → D[o + k * 6 + 4]? = some (vI 160)) ∧ ∀ j, (∀ k, k < i → j ≠ o + k * 6 + 4) → D[j]? = C[j]?
theorem calm_c {b o : Nat} {ty : TypeId} {C : Array Value} {w : World} (h : w.heap[b]? = some (.cells C ty (0, 0))) (hs : o + 192 ≤ C.size) : Calls Tryz.prog 71 #[.slice (some ⟨b, o, none⟩) 32 32] w fun e w' => e = .returned (.tuple #[]) ∧ Calm b o ty C 32 w w' := by
  go_enter Tryz.func71, Tryz.ntmps71
  go_wp2
  go_loopw [5] (fun s5 wr => ∃ i : Nat, i ≤ 32 ∧ s5 = .int .i64 i ∧ Hid (Calm b o ty C i w wr)) (fun s5 _ => 32 - (intOf s5).toNat)
  case atStart => exact ⟨0, Nat.zero_le _, rfl, Goes.refl _ _, C, h, rfl, fun k hk => by omega, fun j _ => rfl⟩
  case round =>
    obtain ⟨i, hi, rfl, hC⟩ := hrel
    by_cases hlt : (i : Int) < 32
    · obtain ⟨G, D, hD, hz, h1, h2⟩ := hC.out
      have hin : o + i * 6 + 4 < D.size := by omega
      have z : wr.cell? ⟨b, o + i * 6 + 4, none⟩ = some D[o + i * 6 + 4] := by rw [cell_of_row _ _ _ _ _ _ hD, Array.getElem?_eq_getElem hin]
      have fz : wr.frozen? ⟨b, o + i * 6 + 4, none⟩ = false := frozen_of_row _ _ _ _ _ hD
      have hnew := heap_setCell_same wr b (o + i * 6 + 4) D ty (vI 160) hD
      have G2 := G.trans (goes_setCell wr (F := fun k => k = b) rfl (o + i * 6 + 4) (vI 160)) fun _ _ e => e
      generalize D[o + i * 6 + 4] = old at z
      clear hin
      go_upto_region 4 with fail
      generalize World.setCell _ _ _ = w2 at hnew G2 ⊢
      clear z fz
      go_wp2
      go_roundw
      case rel =>
        refine ⟨i + 1, by omega, by go_num, G2, _, hnew, by simp [hz], fun k hk => ?_, fun j hj => ?_⟩
        · by_cases e : k = i
          · subst e; rw [Array.getElem?_setIfInBounds_self_of_lt (by omega)]
          · rw [Array.getElem?_setIfInBounds_ne (by omega)]; exact h1 k (by omega)
        · rw [Array.getElem?_setIfInBounds_ne (fun e => hj i (by omega) e.symm)]; exact h2 j fun k hk => hj k (by omega)
      case measure => simp [intOf]; omega
    · obtain rfl : i = 32 := by omega
      go_wp2
      exact bodyPost_end (results_none rfl _ _ _) rfl ⟨rfl, hC.out⟩
end Go.Proofs.YteklkololojamaaGreat
