/- The document's own Right: its head. -/
import Derived.Test.YtccmncecpmemaaaGreatDoorDn
import Derived.Test.YtccmncecpmemaaaGreatDoorIg
namespace Go.Proofs.YtccmncecpmemaaaGreatDoor
open Go.RowKit
set_option linter.unusedVariables false
set_option linter.unusedSimpArgs false
set_option maxRecDepth 8000

/-- What is held of the world while a block is looked at. -/
structure RgW (w : World) (pc words el : Int) (v : Value) (l : List Opr) (b : Nat) (x : World) : Prop where
  r1 : x.heap[b]? = some (.cells (blA pc words el v) 25)
  ops : Ops x v l
  below : Below w.heap.size w x
theorem RgW.grow {w x y : World} {pc words el : Int} {v : Value} {l : List Opr} {b : Nat} (h : RgW w pc words el v l b x) (hb : Below x.heap.size x y) : RgW w pc words el v l b y :=
  ⟨by rw [hb.block _ (lt_of_some h.r1)]; exact h.r1, h.ops.grow hb, below_then h.below (Nat.le_refl _) hb⟩
theorem RgW.c0 {w x : World} {pc words el : Int} {v : Value} {l : List Opr} {b : Nat} (h : RgW w pc words el v l b x) : x.cell? ⟨b, 0, none⟩ = some (vU pc) := by rw [cell_of_row _ _ _ _ _ _ h.r1]; rfl
theorem RgW.c1 {w x : World} {pc words el : Int} {v : Value} {l : List Opr} {b : Nat} (h : RgW w pc words el v l b x) : x.cell? ⟨b, 1, none⟩ = some (vI words) := by rw [cell_of_row _ _ _ _ _ _ h.r1]; rfl
theorem RgW.c2 {w x : World} {pc words el : Int} {v : Value} {l : List Opr} {b : Nat} (h : RgW w pc words el v l b x) : x.cell? ⟨b, 2, none⟩ = some (vI el) := by rw [cell_of_row _ _ _ _ _ _ h.r1]; rfl
theorem RgW.c3 {w x : World} {pc words el : Int} {v : Value} {l : List Opr} {b : Nat} (h : RgW w pc words el v l b x) : x.cell? ⟨b, 3, none⟩ = some v := by rw [cell_of_row _ _ _ _ _ _ h.r1]; rfl
theorem okD_no {l : List Opr} {k : Nat} (hk : k < l.length) (h : okD l k = false) : (List.range l.length).all (okD l) = false := by
  rw [List.all_eq_false]; exact ⟨k, List.mem_range.2 hk, by rw [h]; decide⟩
theorem okD_yes {l : List Opr} (h : ∀ k, k < l.length → okD l k = true) : (List.range l.length).all (okD l) = true := List.all_eq_true.2 fun k hk => h k (List.mem_range.1 hk)
theorem add_zero6 (ra : Addr) : ra.add (0 * 6) = ra := by
  obtain ⟨bl, off, e⟩ := ra
  unfold Addr.add
  split <;> simp_all
def rightD (pc words el : Int) (l : List Opr) : Bool := headD pc words el l && (List.range l.length).all (okD l)
theorem in_yes {n a b : Int} (h1 : a ≤ n) (h2 : n ≤ b) : (decide (a ≤ n) && decide (n ≤ b)) = true := by simp [h1, h2]
theorem in_no {n a b : Int} (h : n < a ∨ b < n) : (decide (a ≤ n) && decide (n ≤ b)) = false := by
  rw [Bool.and_eq_false_iff, decide_eq_false_iff_not, decide_eq_false_iff_not]; omega
set_option maxHeartbeats 8000000 in
theorem dRight_head {w : World} {v : Value} {l : List Opr} {pc words el : Int} (hpc : 0 ≤ pc) (O : Ops w v l) (hH : headD pc words el l = false) : Calls Tryz.prog 6 #[blV pc words el v] w fun e w' => e = .returned (.bool false) ∧ Below w.heap.size w w' := by
  have N0 : RgW w pc words el v l w.heap.size (w.alloc (.cells (blA pc words el v) 25)) := ⟨heap_alloc_new _ _, O.grow (below_alloc _ _), below_alloc _ _⟩
  obtain ⟨ao, cap, ev⟩ := O.len
  have hlen : (l.length : Int) ≤ 9223372036854775807 := by have := O.max; simp only [maxLen] at this; omega
  subst ev
  go_enter Tryz.func6, Tryz.ntmps6
  go_upto_region 1 with fail
  generalize w.alloc (.cells (blA pc words el (.slice ao l.length cap)) 25) = w1 at *
  have z3 := N0.c3
  have z0 := N0.c0
  have z1 := N0.c1
  have z2 := N0.c2
  go_upto_region 2 with fail
  have hpt : pc % 4 = pc.tmod 4 := (Int.tmod_eq_emod_of_nonneg hpc).symm
  have k1 := fun x => dIn_c words 1 16 x
  have k2 := fun x => dIn_c el 0 1 x
  have k3 := fun x => dIn_c (l.length : Int) 1 512 x
  have fin : ∀ {e : Ending} {x : World} (n : Nat), x = w1.drewN n → e = .returned (.bool false) → e = .returned (.bool false) ∧ Below w.heap.size w x := fun n hx he => ⟨he, by rw [hx]; exact (N0.grow (below_drewN (Below.refl _ w1) (n := n))).below⟩
  by_cases h1 : pc.tmod 4 = 0
  · have e1 : (pc.tmod 4 != 0) = false := by simp [h1]
    by_cases h2 : 1 ≤ words ∧ words ≤ 16
    · rw [in_yes h2.1 h2.2] at k1
      by_cases h3 : 0 ≤ el ∧ el ≤ 1
      · rw [in_yes h3.1 h3.2] at k2
        by_cases h4 : (1 : Int) ≤ l.length ∧ (l.length : Int) ≤ 512
        · rw [in_yes h4.1 h4.2] at k3
          obtain ⟨ra, cap', ev', hops⟩ := N0.ops.cell (by omega)
          cases ev'
          have A := hops 0 _ (opAt_some (by omega))
          have e00 : ra.add (0 * 6) = ra := add_zero6 ra
          rw [e00] at A
          have y0 := A.c0
          have y5 := A.c5
          clear hops
          have hl1 : (0 : Int) < l.length := by omega
          by_cases h5 : (opAt l 0).kind = 14
          · rw [h5] at y0
            have h6 : ¬ (opAt l 0).imm = pc := fun h6 => by
              unfold headD at hH
              rw [hpt, h1, h5, h6] at hH
              simp [h2, h3] at hH
              omega
            have e6 : ((opAt l 0).imm != pc) = true := by simp [h6]
            clear hH hpt h2 h3 h4 h5 h6
            go_quiet (first | (go_at_call 27; with_reducible exact Calls.quiet_of_same (k1 _)) | (go_at_call 27; with_reducible exact Calls.quiet_of_same (k2 _)) | (go_at_call 27; with_reducible exact Calls.quiet_of_same (k3 _)))
            go_wp2
            go_ret
            exact fin _ rfl rfl
          · have e5 : ((opAt l 0).kind != 14) = true := by simp [h5]
            clear hH hpt h2 h3 h4 h5
            go_quiet (first | (go_at_call 27; with_reducible exact Calls.quiet_of_same (k1 _)) | (go_at_call 27; with_reducible exact Calls.quiet_of_same (k2 _)) | (go_at_call 27; with_reducible exact Calls.quiet_of_same (k3 _)))
            go_wp2
            go_ret
            exact fin _ rfl rfl
        · rw [in_no (by omega)] at k3
          clear hH hpt h2 h3 h4
          go_quiet (first | (go_at_call 27; with_reducible exact Calls.quiet_of_same (k1 _)) | (go_at_call 27; with_reducible exact Calls.quiet_of_same (k2 _)) | (go_at_call 27; with_reducible exact Calls.quiet_of_same (k3 _)))
          go_wp2
          go_ret
          exact fin _ rfl rfl
      · rw [in_no (by omega)] at k2
        clear hH hpt h2 h3
        go_quiet (first | (go_at_call 27; with_reducible exact Calls.quiet_of_same (k1 _)) | (go_at_call 27; with_reducible exact Calls.quiet_of_same (k2 _)) | (go_at_call 27; with_reducible exact Calls.quiet_of_same (k3 _)))
        go_wp2
        go_ret
        exact fin _ rfl rfl
    · rw [in_no (by omega)] at k1
      clear hH hpt h2
      go_quiet (first | (go_at_call 27; with_reducible exact Calls.quiet_of_same (k1 _)) | (go_at_call 27; with_reducible exact Calls.quiet_of_same (k2 _)) | (go_at_call 27; with_reducible exact Calls.quiet_of_same (k3 _)))
      go_wp2
      go_ret
      exact fin _ rfl rfl
  · have e1 : (pc.tmod 4 != 0) = true := by simp [h1]
    clear hH hpt h1
    go_quiet (first | (go_at_call 27; with_reducible exact Calls.quiet_of_same (k1 _)) | (go_at_call 27; with_reducible exact Calls.quiet_of_same (k2 _)) | (go_at_call 27; with_reducible exact Calls.quiet_of_same (k3 _)))
    go_wp2
    go_ret
    exact fin _ rfl rfl
end Go.Proofs.YtccmncecpmemaaaGreatDoor
