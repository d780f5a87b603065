/- AxiomAllows. -/
import Derived.Test.YtnedkielehmneaaGreatDoorFa
import Derived.Test.YtnedkielehmneaaGreatDoorPq
namespace Go.Proofs.YtnedkielehmneaaGreatDoor
open Go.RowKit
open Go.Shelf
set_option linter.unusedVariables false
set_option linter.unusedSimpArgs false
set_option maxRecDepth 8000

open Axm
theorem exclusive_c {w : World} {v : Value} {n : Nat} {x : Nat → Ev} (E : Evs w v n x) (h : ∃ a, a < n ∧ (x a).ex = true) : Calls Tryz.prog 21 #[v] w fun e w' => e = .returned (.bool true) ∧ w' = w := by
  obtain ⟨a0, ha0, hx0⟩ := h
  obtain ⟨ra, cap, ev, hc⟩ := E.cell (by omega)
  have hmax := E.max
  subst ev
  simp only [maxLen] at hmax
  go_enter Tryz.func21, Tryz.ntmps21
  go_wp2
  go_loopw [3] (fun s3 wr => ∃ i : Nat, i ≤ a0 ∧ s3 = vI i ∧ wr = w) (fun s3 _ => a0 + 1 - (intOf s3).toNat)
  case atStart => exact ⟨0, Nat.zero_le _, rfl, rfl⟩
  case round =>
    obtain ⟨i, hi, rfl, rfl⟩ := hrel
    obtain ⟨s0, s1, s2, A⟩ := hc i (by omega)
    have c7 := A.c7
    have hin : (i : Int) < n := by omega
    have hix : (x i).ex = false → i < a0 := fun hf => by
      rcases Nat.lt_or_ge i a0 with h | h
      · exact h
      · rw [Nat.le_antisymm hi h, hx0] at hf; cases hf
    generalize (x i).ex = bx at c7 hix
    cases bx with
    | true =>
      go_wp2
      go_ret
      exact ⟨rfl, rfl⟩
    | false =>
      replace hix := hix rfl
      go_wp2
      go_roundw
      case rel => exact ⟨i + 1, hix, by go_num, by first | rfl | trivial⟩
      case measure => simp [intOf]; omega
set_option maxHeartbeats 8000000 in
theorem allows_walk {w : World} {v : Value} (T : Tab w) (hpl : ∀ u, Below w.heap.size w u → Calls Tryz.prog 20 #[v, vI 60] u fun e w' => ∃ v' es, e = .returned v' ∧ EvO w' u.heap.size v' es ∧ (∃ m st va, Kept es.length (xs es) m st va) ∧ es.length ≤ 60 ∧ Below u.heap.size u w') : Calls Tryz.prog 5 #[v] w fun e w' => e = .returned (.bool true) ∧ Below w.heap.size w w' := by
  have G := Below.refl w.heap.size w
  go_enter Tryz.func5, Tryz.ntmps5
  go_upto_region 3 with (first | (go_at_call 9; with_reducible refine (examples_c T).mono ?_; rintro e u1 ⟨rfl, g⟩; replace G := G.trans (g.mono G.size); clear g; dsimp only) | (go_at_call 20; with_reducible refine (hpl _ G).mono ?_; rintro e u2 ⟨v', es, rfl, O, ⟨m, st, va, K⟩, hle, g⟩; replace G := G.trans (g.mono G.size); clear g; dsimp only))
  have S := K.s
  have E := O.evs
  have ck := check_ok E (T.grow G) (S.right (by omega))
  rw [S.int, S.ext] at ck
  have hat : atoV es.length (xs es) = false → ∃ a, a < es.length ∧ (xs es a).ex = true := fun h => by
    apply Classical.byContradiction
    intro hn
    have hf : ∀ a, a < es.length → (xs es a).ex = false := fun a ha => by
      cases hx : (xs es a).ex with
      | false => rfl
      | true => exact absurd ⟨a, ha, hx⟩ hn
    rw [ato_of hf] at h
    cases h
  clear S K O T hpl
  generalize atoV es.length (xs es) = b3 at ck hat
  have ex0 : ∀ u, Below u2.heap.size u2 u → b3 = false → Calls Tryz.prog 21 #[v'] u fun e w' => e = .returned (.bool true) ∧ w' = u := fun u hu h => exclusive_c (E.grow hu) (hat h)
  clear hat E hle
  generalize es.length = len at *
  have H := Below.refl u2.heap.size u2
  go_upto_region 4 with (first | (go_at_call 12; with_reducible refine ck.mono ?_; clear ck; rintro e u3 ⟨rfl, g⟩; replace H := H.trans (g.mono H.size); clear g; dsimp only) | (with_reducible refine wpList_new27 rfl rfl ?_; intro u4 V1 g z; have q := H.size; replace H := H.trans (g.mono H.size); clear g z; simp only [Act.put, List.setIfInBounds_toArray, List.set_cons_succ, List.set_cons_zero]) | (with_reducible refine wpList_store27 (i' := true) (e' := true) (t' := b3) rfl _ _ rfl rfl V1 rfl ?_; intro u5 V1 g z; replace H := H.trans (g.below H.size (fun k hk => by rw [hk]; exact q)); clear g z; simp only [Act.put, List.setIfInBounds_toArray, List.set_cons_succ, List.set_cons_zero]))
  clear q
  generalize u3.heap.size = q1 at V1 ⊢
  have c0 : u5.cell? ⟨q1, 0, none⟩ = some (.bool true) := V1.cell 0
  have c1 : u5.cell? ⟨q1, 1, none⟩ = some (.bool true) := V1.cell 1
  have c2 : u5.cell? ⟨q1, 2, none⟩ = some (.bool b3) := V1.cell 2
  replace ex0 := ex0 u5 H
  replace G := G.trans (H.mono G.size)
  clear V1 H
  cases b3 with
  | true =>
    clear ex0
    go_wp2
    go_ret
    exact ⟨rfl, G⟩
  | false =>
    replace ex0 := ex0 rfl
    go_wp2_with (go_at_call 21; with_reducible refine ex0.mono ?_; clear ex0; rintro e u6 ⟨rfl, rfl⟩; dsimp only)
    go_ret
    exact ⟨rfl, G⟩
end Go.Proofs.YtnedkielehmneaaGreatDoor
