/- union, chain, both, without; the first relations. -/
import Derived.Test.YtnedkielehmneaaGreatDoorEc
namespace Go.Proofs.YtnedkielehmneaaGreatDoor
open Go.RowKit
open Go.Shelf
set_option linter.unusedVariables false
set_option linter.unusedSimpArgs false
set_option maxRecDepth 8000

open Axm
/-- A call that gives a relation. -/
abbrev Got (w : World) (n : Nat) (R : Nat → Nat → Bool) (e : Ending) (w' : World) : Prop := ∃ r : Nat, e = .returned (ptr r 0) ∧ RelAt r n R w' ∧ Below w.heap.size w w'
theorem OwnR.got {w w' : World} {n : Nat} {R : Nat → Nat → Bool} {e : Ending} (h : ∃ r, e = .returned (ptr r 0) ∧ OwnR w r n R w') : Got w n R e w' := by
  obtain ⟨r, h1, h2⟩ := h
  exact ⟨r, h1, h2.rel, h2.low⟩
theorem Got.before {w W w' : World} {n : Nat} {R : Nat → Nat → Bool} {e : Ending} (hb : Below w.heap.size w W) (h : Got W n R e w') : Got w n R e w' := by
  obtain ⟨r, h1, h2, h3⟩ := h
  exact ⟨r, h1, h2, hb.trans (h3.mono hb.size)⟩
/-- A list of relations. -/
structure Rels (w : World) (g n k : Nat) (S : Nat → Nat → Nat → Bool) : Prop where
  lt : g < w.heap.size
  cell : ∀ i, i < k → ∃ q : Nat, w.cell? ⟨g, i, none⟩ = some (ptr q 0) ∧ RelAt q n (S i) w
theorem Rels.grow {w w' : World} {g n k : Nat} {S : Nat → Nat → Nat → Bool} (h : Rels w g n k S) (hb : Below w.heap.size w w') : Rels w' g n k S :=
  ⟨Nat.lt_of_lt_of_le h.lt hb.size, fun i hi => by
    obtain ⟨q, h1, h2⟩ := h.cell i hi
    exact ⟨q, by rw [hb.cell (p := ⟨g, i, none⟩) h.lt]; exact h1, h2.grow hb⟩⟩
def foldR (op : (Nat → Nat → Bool) → (Nat → Nat → Bool) → Nat → Nat → Bool) (R : Nat → Nat → Bool) (S : Nat → Nat → Nat → Bool) : Nat → Nat → Nat → Bool
  | 0 => R
  | k + 1 => op (foldR op R S k) (S k)
set_option maxHeartbeats 1000000 in
theorem union_l {w : World} {r g n k : Nat} {R : Nat → Nat → Bool} {S : Nat → Nat → Nat → Bool} (H : RelAt r n R w) (L : Rels w g n k S) (hk : k ≤ 64) (T : Tab w) : Calls Tryz.prog 50 #[ptr r 0, .slice (some ⟨g, 0, none⟩) k k] w fun e w' => Got w n (foldR Rlw.unR R S k) e w' := by
  go_enter Tryz.func50, Tryz.ntmps50
  go_wp2
  go_loopw [0, 6, 9] (fun s0 s6 s9 wr => ∃ (i q : Nat), i ≤ k ∧ s9 = vI i ∧ s0 = ptr q 0 ∧ Hid (RelAt q n (foldR Rlw.unR R S i) wr ∧ Below w.heap.size w wr)) (fun _ _ s9 _ => 64 - (intOf s9).toNat)
  case atStart => exact ⟨0, r, Nat.zero_le _, rfl, rfl, H, Below.refl _ _⟩
  case round =>
    obtain ⟨i, q, hi, rfl, rfl, hH⟩ := hrel
    obtain ⟨H1, hB⟩ := hH.out
    clear hH H
    by_cases hlt : (i : Int) < k
    · obtain ⟨p, hc, K⟩ := (L.grow hB).cell i (by omega)
      have hh := union_r H1 K (T.grow hB)
      go_wp2_with (first | (go_at_call 90; with_reducible refine hh.mono ?_; clear hh; rintro e w2 ⟨q2, rfl, H2, hq2, hB2⟩; dsimp only))
      go_roundw
      case rel => exact ⟨i + 1, q2, by omega, by go_num, rfl, H2, hB.trans (hB2.mono hB.size)⟩
      case measure => simp [intOf]; omega
    · obtain rfl : i = k := by omega
      go_wp2
      go_ret
      exact ⟨q, rfl, H1, hB⟩
set_option maxHeartbeats 1000000 in
theorem chain_l {w : World} {r g n k : Nat} {R : Nat → Nat → Bool} {S : Nat → Nat → Nat → Bool} (H : RelAt r n R w) (L : Rels w g n k S) (hk : k ≤ 64) (T : Tab w) : Calls Tryz.prog 60 #[ptr r 0, .slice (some ⟨g, 0, none⟩) k k] w fun e w' => Got w n (foldR (Rlw.thR n) R S k) e w' := by
  go_enter Tryz.func60, Tryz.ntmps60
  go_wp2
  go_loopw [0, 6, 9] (fun s0 s6 s9 wr => ∃ (i q : Nat), i ≤ k ∧ s9 = vI i ∧ s0 = ptr q 0 ∧ Hid (RelAt q n (foldR (Rlw.thR n) R S i) wr ∧ Below w.heap.size w wr)) (fun _ _ s9 _ => 64 - (intOf s9).toNat)
  case atStart => exact ⟨0, r, Nat.zero_le _, rfl, rfl, H, Below.refl _ _⟩
  case round =>
    obtain ⟨i, q, hi, rfl, rfl, hH⟩ := hrel
    obtain ⟨H1, hB⟩ := hH.out
    clear hH H
    by_cases hlt : (i : Int) < k
    · obtain ⟨p, hc, K⟩ := (L.grow hB).cell i (by omega)
      have hh := then_r H1 K (T.grow hB)
      go_wp2_with (first | (go_at_call 104; with_reducible refine hh.mono ?_; clear hh; rintro e w2 ⟨q2, rfl, H2, hq2, hB2⟩; dsimp only))
      go_roundw
      case rel => exact ⟨i + 1, q2, by omega, by go_num, rfl, H2, hB.trans (hB2.mono hB.size)⟩
      case measure => simp [intOf]; omega
    · obtain rfl : i = k := by omega
      go_wp2
      go_ret
      exact ⟨q, rfl, H1, hB⟩
theorem rels1 {w : World} {n q1 : Nat} {S1 : Nat → Nat → Bool} (H1 : RelAt q1 n S1 w) : Rels (w.alloc (.cells #[ptr q1 0] 73)) w.heap.size n 1 (fun i => match i with  | _ => S1) := by
  have h := World.alloc_heap_new w (.cells #[ptr q1 0] 73)
  have hb := below_alloc w (.cells #[ptr q1 0] 73)
  refine ⟨by simp, fun i hi => ?_⟩
  match i, hi with
  | 0, _ => exact ⟨q1, by rw [cell_of_row _ _ _ _ _ _ h]; rfl, H1.grow hb⟩
theorem union1 {w : World} {r n q1 : Nat} {R S1 : Nat → Nat → Bool} (H : RelAt r n R w) (H1 : RelAt q1 n S1 w) (T : Tab w) : Calls Tryz.prog 50 #[ptr r 0, .slice (some ⟨w.heap.size, 0, none⟩) 1 1] (w.alloc (.cells #[ptr q1 0] 73)) fun e w' => Got w n (Rlw.unR R S1) e w' :=
  (union_l (H.grow (below_alloc w _)) (rels1 H1) (by decide) (T.grow (below_alloc w _))).mono fun e w' h => Got.before (below_alloc w _) h
theorem chain1 {w : World} {r n q1 : Nat} {R S1 : Nat → Nat → Bool} (H : RelAt r n R w) (H1 : RelAt q1 n S1 w) (T : Tab w) : Calls Tryz.prog 60 #[ptr r 0, .slice (some ⟨w.heap.size, 0, none⟩) 1 1] (w.alloc (.cells #[ptr q1 0] 73)) fun e w' => Got w n (Rlw.thR n R S1) e w' :=
  (chain_l (H.grow (below_alloc w _)) (rels1 H1) (by decide) (T.grow (below_alloc w _))).mono fun e w' h => Got.before (below_alloc w _) h
theorem rels2 {w : World} {n q1 q2 : Nat} {S1 S2 : Nat → Nat → Bool} (H1 : RelAt q1 n S1 w) (H2 : RelAt q2 n S2 w) : Rels (w.alloc (.cells #[ptr q1 0, ptr q2 0] 73)) w.heap.size n 2 (fun i => match i with | 0 => S1 | _ => S2) := by
  have h := World.alloc_heap_new w (.cells #[ptr q1 0, ptr q2 0] 73)
  have hb := below_alloc w (.cells #[ptr q1 0, ptr q2 0] 73)
  refine ⟨by simp, fun i hi => ?_⟩
  match i, hi with
  | 0, _ => exact ⟨q1, by rw [cell_of_row _ _ _ _ _ _ h]; rfl, H1.grow hb⟩
  | 1, _ => exact ⟨q2, by rw [cell_of_row _ _ _ _ _ _ h]; rfl, H2.grow hb⟩
theorem union2 {w : World} {r n q1 q2 : Nat} {R S1 S2 : Nat → Nat → Bool} (H : RelAt r n R w) (H1 : RelAt q1 n S1 w) (H2 : RelAt q2 n S2 w) (T : Tab w) : Calls Tryz.prog 50 #[ptr r 0, .slice (some ⟨w.heap.size, 0, none⟩) 2 2] (w.alloc (.cells #[ptr q1 0, ptr q2 0] 73)) fun e w' => Got w n (Rlw.unR (Rlw.unR R S1) S2) e w' :=
  (union_l (H.grow (below_alloc w _)) (rels2 H1 H2) (by decide) (T.grow (below_alloc w _))).mono fun e w' h => Got.before (below_alloc w _) h
theorem chain2 {w : World} {r n q1 q2 : Nat} {R S1 S2 : Nat → Nat → Bool} (H : RelAt r n R w) (H1 : RelAt q1 n S1 w) (H2 : RelAt q2 n S2 w) (T : Tab w) : Calls Tryz.prog 60 #[ptr r 0, .slice (some ⟨w.heap.size, 0, none⟩) 2 2] (w.alloc (.cells #[ptr q1 0, ptr q2 0] 73)) fun e w' => Got w n (Rlw.thR n (Rlw.thR n R S1) S2) e w' :=
  (chain_l (H.grow (below_alloc w _)) (rels2 H1 H2) (by decide) (T.grow (below_alloc w _))).mono fun e w' h => Got.before (below_alloc w _) h
theorem rels3 {w : World} {n q1 q2 q3 : Nat} {S1 S2 S3 : Nat → Nat → Bool} (H1 : RelAt q1 n S1 w) (H2 : RelAt q2 n S2 w) (H3 : RelAt q3 n S3 w) : Rels (w.alloc (.cells #[ptr q1 0, ptr q2 0, ptr q3 0] 73)) w.heap.size n 3 (fun i => match i with | 0 => S1 | 1 => S2 | _ => S3) := by
  have h := World.alloc_heap_new w (.cells #[ptr q1 0, ptr q2 0, ptr q3 0] 73)
  have hb := below_alloc w (.cells #[ptr q1 0, ptr q2 0, ptr q3 0] 73)
  refine ⟨by simp, fun i hi => ?_⟩
  match i, hi with
  | 0, _ => exact ⟨q1, by rw [cell_of_row _ _ _ _ _ _ h]; rfl, H1.grow hb⟩
  | 1, _ => exact ⟨q2, by rw [cell_of_row _ _ _ _ _ _ h]; rfl, H2.grow hb⟩
  | 2, _ => exact ⟨q3, by rw [cell_of_row _ _ _ _ _ _ h]; rfl, H3.grow hb⟩
theorem union3 {w : World} {r n q1 q2 q3 : Nat} {R S1 S2 S3 : Nat → Nat → Bool} (H : RelAt r n R w) (H1 : RelAt q1 n S1 w) (H2 : RelAt q2 n S2 w) (H3 : RelAt q3 n S3 w) (T : Tab w) : Calls Tryz.prog 50 #[ptr r 0, .slice (some ⟨w.heap.size, 0, none⟩) 3 3] (w.alloc (.cells #[ptr q1 0, ptr q2 0, ptr q3 0] 73)) fun e w' => Got w n (Rlw.unR (Rlw.unR (Rlw.unR R S1) S2) S3) e w' :=
  (union_l (H.grow (below_alloc w _)) (rels3 H1 H2 H3) (by decide) (T.grow (below_alloc w _))).mono fun e w' h => Got.before (below_alloc w _) h
theorem chain3 {w : World} {r n q1 q2 q3 : Nat} {R S1 S2 S3 : Nat → Nat → Bool} (H : RelAt r n R w) (H1 : RelAt q1 n S1 w) (H2 : RelAt q2 n S2 w) (H3 : RelAt q3 n S3 w) (T : Tab w) : Calls Tryz.prog 60 #[ptr r 0, .slice (some ⟨w.heap.size, 0, none⟩) 3 3] (w.alloc (.cells #[ptr q1 0, ptr q2 0, ptr q3 0] 73)) fun e w' => Got w n (Rlw.thR n (Rlw.thR n (Rlw.thR n R S1) S2) S3) e w' :=
  (chain_l (H.grow (below_alloc w _)) (rels3 H1 H2 H3) (by decide) (T.grow (below_alloc w _))).mono fun e w' h => Got.before (below_alloc w _) h
theorem rels4 {w : World} {n q1 q2 q3 q4 : Nat} {S1 S2 S3 S4 : Nat → Nat → Bool} (H1 : RelAt q1 n S1 w) (H2 : RelAt q2 n S2 w) (H3 : RelAt q3 n S3 w) (H4 : RelAt q4 n S4 w) : Rels (w.alloc (.cells #[ptr q1 0, ptr q2 0, ptr q3 0, ptr q4 0] 73)) w.heap.size n 4 (fun i => match i with | 0 => S1 | 1 => S2 | 2 => S3 | _ => S4) := by
  have h := World.alloc_heap_new w (.cells #[ptr q1 0, ptr q2 0, ptr q3 0, ptr q4 0] 73)
  have hb := below_alloc w (.cells #[ptr q1 0, ptr q2 0, ptr q3 0, ptr q4 0] 73)
  refine ⟨by simp, fun i hi => ?_⟩
  match i, hi with
  | 0, _ => exact ⟨q1, by rw [cell_of_row _ _ _ _ _ _ h]; rfl, H1.grow hb⟩
  | 1, _ => exact ⟨q2, by rw [cell_of_row _ _ _ _ _ _ h]; rfl, H2.grow hb⟩
  | 2, _ => exact ⟨q3, by rw [cell_of_row _ _ _ _ _ _ h]; rfl, H3.grow hb⟩
  | 3, _ => exact ⟨q4, by rw [cell_of_row _ _ _ _ _ _ h]; rfl, H4.grow hb⟩
theorem union4 {w : World} {r n q1 q2 q3 q4 : Nat} {R S1 S2 S3 S4 : Nat → Nat → Bool} (H : RelAt r n R w) (H1 : RelAt q1 n S1 w) (H2 : RelAt q2 n S2 w) (H3 : RelAt q3 n S3 w) (H4 : RelAt q4 n S4 w) (T : Tab w) : Calls Tryz.prog 50 #[ptr r 0, .slice (some ⟨w.heap.size, 0, none⟩) 4 4] (w.alloc (.cells #[ptr q1 0, ptr q2 0, ptr q3 0, ptr q4 0] 73)) fun e w' => Got w n (Rlw.unR (Rlw.unR (Rlw.unR (Rlw.unR R S1) S2) S3) S4) e w' :=
  (union_l (H.grow (below_alloc w _)) (rels4 H1 H2 H3 H4) (by decide) (T.grow (below_alloc w _))).mono fun e w' h => Got.before (below_alloc w _) h
theorem chain4 {w : World} {r n q1 q2 q3 q4 : Nat} {R S1 S2 S3 S4 : Nat → Nat → Bool} (H : RelAt r n R w) (H1 : RelAt q1 n S1 w) (H2 : RelAt q2 n S2 w) (H3 : RelAt q3 n S3 w) (H4 : RelAt q4 n S4 w) (T : Tab w) : Calls Tryz.prog 60 #[ptr r 0, .slice (some ⟨w.heap.size, 0, none⟩) 4 4] (w.alloc (.cells #[ptr q1 0, ptr q2 0, ptr q3 0, ptr q4 0] 73)) fun e w' => Got w n (Rlw.thR n (Rlw.thR n (Rlw.thR n (Rlw.thR n R S1) S2) S3) S4) e w' :=
  (chain_l (H.grow (below_alloc w _)) (rels4 H1 H2 H3 H4) (by decide) (T.grow (below_alloc w _))).mono fun e w' h => Got.before (below_alloc w _) h
theorem rels5 {w : World} {n q1 q2 q3 q4 q5 : Nat} {S1 S2 S3 S4 S5 : Nat → Nat → Bool} (H1 : RelAt q1 n S1 w) (H2 : RelAt q2 n S2 w) (H3 : RelAt q3 n S3 w) (H4 : RelAt q4 n S4 w) (H5 : RelAt q5 n S5 w) : Rels (w.alloc (.cells #[ptr q1 0, ptr q2 0, ptr q3 0, ptr q4 0, ptr q5 0] 73)) w.heap.size n 5 (fun i => match i with | 0 => S1 | 1 => S2 | 2 => S3 | 3 => S4 | _ => S5) := by
  have h := World.alloc_heap_new w (.cells #[ptr q1 0, ptr q2 0, ptr q3 0, ptr q4 0, ptr q5 0] 73)
  have hb := below_alloc w (.cells #[ptr q1 0, ptr q2 0, ptr q3 0, ptr q4 0, ptr q5 0] 73)
  refine ⟨by simp, fun i hi => ?_⟩
  match i, hi with
  | 0, _ => exact ⟨q1, by rw [cell_of_row _ _ _ _ _ _ h]; rfl, H1.grow hb⟩
  | 1, _ => exact ⟨q2, by rw [cell_of_row _ _ _ _ _ _ h]; rfl, H2.grow hb⟩
  | 2, _ => exact ⟨q3, by rw [cell_of_row _ _ _ _ _ _ h]; rfl, H3.grow hb⟩
  | 3, _ => exact ⟨q4, by rw [cell_of_row _ _ _ _ _ _ h]; rfl, H4.grow hb⟩
  | 4, _ => exact ⟨q5, by rw [cell_of_row _ _ _ _ _ _ h]; rfl, H5.grow hb⟩
theorem union5 {w : World} {r n q1 q2 q3 q4 q5 : Nat} {R S1 S2 S3 S4 S5 : Nat → Nat → Bool} (H : RelAt r n R w) (H1 : RelAt q1 n S1 w) (H2 : RelAt q2 n S2 w) (H3 : RelAt q3 n S3 w) (H4 : RelAt q4 n S4 w) (H5 : RelAt q5 n S5 w) (T : Tab w) : Calls Tryz.prog 50 #[ptr r 0, .slice (some ⟨w.heap.size, 0, none⟩) 5 5] (w.alloc (.cells #[ptr q1 0, ptr q2 0, ptr q3 0, ptr q4 0, ptr q5 0] 73)) fun e w' => Got w n (Rlw.unR (Rlw.unR (Rlw.unR (Rlw.unR (Rlw.unR R S1) S2) S3) S4) S5) e w' :=
  (union_l (H.grow (below_alloc w _)) (rels5 H1 H2 H3 H4 H5) (by decide) (T.grow (below_alloc w _))).mono fun e w' h => Got.before (below_alloc w _) h
theorem chain5 {w : World} {r n q1 q2 q3 q4 q5 : Nat} {R S1 S2 S3 S4 S5 : Nat → Nat → Bool} (H : RelAt r n R w) (H1 : RelAt q1 n S1 w) (H2 : RelAt q2 n S2 w) (H3 : RelAt q3 n S3 w) (H4 : RelAt q4 n S4 w) (H5 : RelAt q5 n S5 w) (T : Tab w) : Calls Tryz.prog 60 #[ptr r 0, .slice (some ⟨w.heap.size, 0, none⟩) 5 5] (w.alloc (.cells #[ptr q1 0, ptr q2 0, ptr q3 0, ptr q4 0, ptr q5 0] 73)) fun e w' => Got w n (Rlw.thR n (Rlw.thR n (Rlw.thR n (Rlw.thR n (Rlw.thR n R S1) S2) S3) S4) S5) e w' :=
  (chain_l (H.grow (below_alloc w _)) (rels5 H1 H2 H3 H4 H5) (by decide) (T.grow (below_alloc w _))).mono fun e w' h => Got.before (below_alloc w _) h
theorem rels6 {w : World} {n q1 q2 q3 q4 q5 q6 : Nat} {S1 S2 S3 S4 S5 S6 : Nat → Nat → Bool} (H1 : RelAt q1 n S1 w) (H2 : RelAt q2 n S2 w) (H3 : RelAt q3 n S3 w) (H4 : RelAt q4 n S4 w) (H5 : RelAt q5 n S5 w) (H6 : RelAt q6 n S6 w) : Rels (w.alloc (.cells #[ptr q1 0, ptr q2 0, ptr q3 0, ptr q4 0, ptr q5 0, ptr q6 0] 73)) w.heap.size n 6 (fun i => match i with | 0 => S1 | 1 => S2 | 2 => S3 | 3 => S4 | 4 => S5 | _ => S6) := by
  have h := World.alloc_heap_new w (.cells #[ptr q1 0, ptr q2 0, ptr q3 0, ptr q4 0, ptr q5 0, ptr q6 0] 73)
  have hb := below_alloc w (.cells #[ptr q1 0, ptr q2 0, ptr q3 0, ptr q4 0, ptr q5 0, ptr q6 0] 73)
  refine ⟨by simp, fun i hi => ?_⟩
  match i, hi with
  | 0, _ => exact ⟨q1, by rw [cell_of_row _ _ _ _ _ _ h]; rfl, H1.grow hb⟩
  | 1, _ => exact ⟨q2, by rw [cell_of_row _ _ _ _ _ _ h]; rfl, H2.grow hb⟩
  | 2, _ => exact ⟨q3, by rw [cell_of_row _ _ _ _ _ _ h]; rfl, H3.grow hb⟩
  | 3, _ => exact ⟨q4, by rw [cell_of_row _ _ _ _ _ _ h]; rfl, H4.grow hb⟩
  | 4, _ => exact ⟨q5, by rw [cell_of_row _ _ _ _ _ _ h]; rfl, H5.grow hb⟩
  | 5, _ => exact ⟨q6, by rw [cell_of_row _ _ _ _ _ _ h]; rfl, H6.grow hb⟩
theorem union6 {w : World} {r n q1 q2 q3 q4 q5 q6 : Nat} {R S1 S2 S3 S4 S5 S6 : Nat → Nat → Bool} (H : RelAt r n R w) (H1 : RelAt q1 n S1 w) (H2 : RelAt q2 n S2 w) (H3 : RelAt q3 n S3 w) (H4 : RelAt q4 n S4 w) (H5 : RelAt q5 n S5 w) (H6 : RelAt q6 n S6 w) (T : Tab w) : Calls Tryz.prog 50 #[ptr r 0, .slice (some ⟨w.heap.size, 0, none⟩) 6 6] (w.alloc (.cells #[ptr q1 0, ptr q2 0, ptr q3 0, ptr q4 0, ptr q5 0, ptr q6 0] 73)) fun e w' => Got w n (Rlw.unR (Rlw.unR (Rlw.unR (Rlw.unR (Rlw.unR (Rlw.unR R S1) S2) S3) S4) S5) S6) e w' :=
  (union_l (H.grow (below_alloc w _)) (rels6 H1 H2 H3 H4 H5 H6) (by decide) (T.grow (below_alloc w _))).mono fun e w' h => Got.before (below_alloc w _) h
theorem chain6 {w : World} {r n q1 q2 q3 q4 q5 q6 : Nat} {R S1 S2 S3 S4 S5 S6 : Nat → Nat → Bool} (H : RelAt r n R w) (H1 : RelAt q1 n S1 w) (H2 : RelAt q2 n S2 w) (H3 : RelAt q3 n S3 w) (H4 : RelAt q4 n S4 w) (H5 : RelAt q5 n S5 w) (H6 : RelAt q6 n S6 w) (T : Tab w) : Calls Tryz.prog 60 #[ptr r 0, .slice (some ⟨w.heap.size, 0, none⟩) 6 6] (w.alloc (.cells #[ptr q1 0, ptr q2 0, ptr q3 0, ptr q4 0, ptr q5 0, ptr q6 0] 73)) fun e w' => Got w n (Rlw.thR n (Rlw.thR n (Rlw.thR n (Rlw.thR n (Rlw.thR n (Rlw.thR n R S1) S2) S3) S4) S5) S6) e w' :=
  (chain_l (H.grow (below_alloc w _)) (rels6 H1 H2 H3 H4 H5 H6) (by decide) (T.grow (below_alloc w _))).mono fun e w' h => Got.before (below_alloc w _) h
theorem both_c {w : World} {r s n : Nat} {R S : Nat → Nat → Bool} (H : RelAt r n R w) (K : RelAt s n S w) (T : Tab w) : Calls Tryz.prog 51 #[ptr r 0, ptr s 0] w fun e w' => Got w n (Rlw.inR R S) e w' := by
  have hh := inter_r H K T
  go_enter Tryz.func51, Tryz.ntmps51
  go_wp2_with (first | (go_at_call 91; with_reducible refine hh.mono ?_; clear hh; rintro e w2 ⟨q2, rfl, H2, hq2, hB2⟩; dsimp only))
  go_ret
  exact ⟨q2, rfl, H2, hB2⟩
theorem withoutR_c {w : World} {r s n : Nat} {R S : Nat → Nat → Bool} (H : RelAt r n R w) (K : RelAt s n S w) (T : Tab w) : Calls Tryz.prog 103 #[ptr r 0, ptr s 0] w fun e w' => Got w n (Rlw.miR R S) e w' := by
  have hh := minus_r H K T
  go_enter Tryz.func103, Tryz.ntmps103
  go_wp2_with (first | (go_at_call 138; with_reducible refine hh.mono ?_; clear hh; rintro e w2 ⟨q2, rfl, H2, hq2, hB2⟩; dsimp only))
  go_ret
  exact ⟨q2, rfl, H2, hB2⟩
theorem turned_g {w : World} {r n : Nat} {R : Nat → Nat → Bool} (H : RelAt r n R w) (T : Tab w) : Calls Tryz.prog 117 #[ptr r 0] w fun e w' => Got w n (Rlw.tuR R) e w' :=
  (turned_r H T).mono fun e w' ⟨q, h1, h2, _, h4⟩ => ⟨q, h1, h2, h4⟩
theorem closed_g {w : World} {r n : Nat} {R : Nat → Nat → Bool} (H : RelAt r n R w) : Calls Tryz.prog 100 #[ptr r 0] w fun e w' => Got w n (Rlw.war R n) e w' :=
  (closed_c H).mono fun e w' ⟨q, h1, h2, _, h4⟩ => ⟨q, h1, h2, h4⟩
theorem only_rd {w : World} {v : Value} {n : Nat} {x : Nat → Ev} (E : Evs w v n x) (hn : n ≤ 64) : Calls Tryz.prog 98 #[v, .func (.func 70) #[v] #[]] w fun e w' => Got w n (onlyR n (rd x)) e w' :=
  (only_A E hn 70 (enters_of Tryz.func70 (by kernel_rfl) rfl) (rd x) (fun a ha W hW => (rd_c (E.grow hW) ha).mono fun e w' h => ⟨h.1, by rw [h.2]; exact Below.refl _ _⟩)).mono fun e w' h => OwnR.got h
theorem only_wt {w : World} {v : Value} {n : Nat} {x : Nat → Ev} (E : Evs w v n x) (hn : n ≤ 64) : Calls Tryz.prog 98 #[v, .func (.func 68) #[v] #[]] w fun e w' => Got w n (onlyR n (wt x)) e w' :=
  (only_A E hn 68 (enters_of Tryz.func68 (by kernel_rfl) rfl) (wt x) (fun a ha W hW => (wt_c (E.grow hW) ha).mono fun e w' h => ⟨h.1, by rw [h.2]; exact Below.refl _ _⟩)).mono fun e w' h => OwnR.got h
theorem only_ib {w : World} {v : Value} {n : Nat} {x : Nat → Ev} (E : Evs w v n x) (hn : n ≤ 64) : Calls Tryz.prog 98 #[v, .func (.func 116) #[v] #[]] w fun e w' => Got w n (onlyR n (ib x)) e w' :=
  (only_A E hn 116 (enters_of Tryz.func116 (by kernel_rfl) rfl) (ib x) (fun a ha W hW => (ib_c (E.grow hW) ha).mono fun e w' h => ⟨h.1, by rw [h.2]; exact Below.refl _ _⟩)).mono fun e w' h => OwnR.got h
theorem only_exc {w : World} {v : Value} {n : Nat} {x : Nat → Ev} (E : Evs w v n x) (hn : n ≤ 64) : Calls Tryz.prog 98 #[v, .func (.func 102) #[v] #[]] w fun e w' => Got w n (onlyR n (exc x)) e w' :=
  (only_A E hn 102 (enters_of Tryz.func102 (by kernel_rfl) rfl) (exc x) (fun a ha W hW => (exc_c (E.grow hW) ha).mono fun e w' h => ⟨h.1, by rw [h.2]; exact Below.refl _ _⟩)).mono fun e w' h => OwnR.got h
theorem only_full {w : World} {v : Value} {n : Nat} {x : Nat → Ev} (E : Evs w v n x) (hn : n ≤ 64) : Calls Tryz.prog 98 #[v, .func (.func 120) #[v] #[]] w fun e w' => Got w n (onlyR n (full x)) e w' :=
  (only_A E hn 120 (enters_of Tryz.func120 (by kernel_rfl) rfl) (full x) (fun a ha W hW => (full_c (E.grow hW) ha).mono fun e w' h => ⟨h.1, by rw [h.2]; exact Below.refl _ _⟩)).mono fun e w' h => OwnR.got h
theorem only_acqs {w : World} {v : Value} {n : Nat} {x : Nat → Ev} (E : Evs w v n x) (hn : n ≤ 64) : Calls Tryz.prog 98 #[v, .func (.func 121) #[v] #[]] w fun e w' => Got w n (onlyR n (acqs x)) e w' :=
  (only_A E hn 121 (enters_of Tryz.func121 (by kernel_rfl) rfl) (acqs x) (fun a ha W hW => (acqs_c (E.grow hW) ha).mono fun e w' h => ⟨h.1, by rw [h.2]; exact Below.refl _ _⟩)).mono fun e w' h => OwnR.got h
theorem only_takes {w : World} {v : Value} {n : Nat} {x : Nat → Ev} (E : Evs w v n x) (hn : n ≤ 64) : Calls Tryz.prog 98 #[v, .func (.func 118) #[v] #[]] w fun e w' => Got w n (onlyR n (takes x)) e w' :=
  (only_A E hn 118 (enters_of Tryz.func118 (by kernel_rfl) rfl) (takes x) (fun a ha W hW => (takes_c (E.grow hW) ha).mono fun e w' h => ⟨h.1, by rw [h.2]; exact Below.refl _ _⟩)).mono fun e w' h => OwnR.got h
theorem only_rels {w : World} {v : Value} {n : Nat} {x : Nat → Ev} (E : Evs w v n x) (hn : n ≤ 64) : Calls Tryz.prog 98 #[v, .func (.func 119) #[v] #[]] w fun e w' => Got w n (onlyR n (rels x)) e w' :=
  (only_A E hn 119 (enters_of Tryz.func119 (by kernel_rfl) rfl) (rels x) (fun a ha W hW => (rels_c (E.grow hW) ha).mono fun e w' h => ⟨h.1, by rw [h.2]; exact Below.refl _ _⟩)).mono fun e w' h => OwnR.got h
theorem only_ld {w : World} {v : Value} {n : Nat} {x : Nat → Ev} (E : Evs w v n x) (hn : n ≤ 64) : Calls Tryz.prog 98 #[v, .func (.func 122) #[v] #[]] w fun e w' => Got w n (onlyR n (ld x)) e w' :=
  (only_A E hn 122 (enters_of Tryz.func122 (by kernel_rfl) rfl) (ld x) (fun a ha W hW => (ld_c (E.grow hW) ha).mono fun e w' h => ⟨h.1, by rw [h.2]; exact Below.refl _ _⟩)).mono fun e w' h => OwnR.got h
theorem only_st {w : World} {v : Value} {n : Nat} {x : Nat → Ev} (E : Evs w v n x) (hn : n ≤ 64) : Calls Tryz.prog 98 #[v, .func (.func 123) #[v] #[]] w fun e w' => Got w n (onlyR n (st x)) e w' :=
  (only_A E hn 123 (enters_of Tryz.func123 (by kernel_rfl) rfl) (st x) (fun a ha W hW => (st_c (E.grow hW) ha).mono fun e w' h => ⟨h.1, by rw [h.2]; exact Below.refl _ _⟩)).mono fun e w' h => OwnR.got h
theorem such_oneAddr {w : World} {v : Value} {n : Nat} {x : Nat → Ev} (E : Evs w v n x) (hn : n ≤ 64) : Calls Tryz.prog 92 #[v, .func (.func 95) #[v] #[]] w fun e w' => Got w n (locR n x) e w' :=
  (such_A E hn 95 (enters_of Tryz.func95 (by kernel_rfl) rfl) (oneAddr x) (fun a b ha hb W hW => oneAddr_c (E.grow hW) ha hb)).mono fun e w' h => OwnR.got h
theorem such_oneCore {w : World} {v : Value} {n : Nat} {x : Nat → Ev} (E : Evs w v n x) (hn : n ≤ 64) : Calls Tryz.prog 92 #[v, .func (.func 94) #[v] #[]] w fun e w' => Got w n (coreR n x) e w' :=
  (such_A E hn 94 (enters_of Tryz.func94 (by kernel_rfl) rfl) (oneCore x) (fun a b ha hb W hW => oneCore_c (E.grow hW) ha hb)).mono fun e w' h => OwnR.got h
theorem loc_c {w : World} {v : Value} {n : Nat} {x : Nat → Ev} (E : Evs w v n x) (hn : n ≤ 64) : Calls Tryz.prog 53 #[v] w fun e w' => Got w n (locR n x) e w' := by
  have hh := such_oneAddr E hn
  go_enter Tryz.func53, Tryz.ntmps53
  go_wp2_with (first | (go_at_call 92; with_reducible refine hh.mono ?_; clear hh; rintro e w2 ⟨q2, rfl, H2, hB2⟩; dsimp only))
  go_ret
  exact ⟨q2, rfl, H2, hB2⟩
theorem po_c {w : World} {v : Value} {n : Nat} {x : Nat → Ev} (E : Evs w v n x) (hn : n ≤ 64) : Calls Tryz.prog 52 #[v] w fun e w' => Got w n (poR n x) e w' := by
  obtain ⟨ao, cap, rfl⟩ := E.len
  have b1 : Boxed (w.alloc (Obj.cells #[.slice ao n cap] 63)) w.heap.size 63 (.slice ao n cap) := Boxed.new w 63 _
  have hB0 := below_alloc w (Obj.cells #[.slice ao n cap] 63)
  have hh := such_B (E.grow hB0) hn 93 (enters_of Tryz.func93 (by kernel_rfl) rfl) (ptr w.heap.size 0) (poB x) (fun a b ha hb W hW => po_k ((E.grow hB0).grow hW) (boxed_grow b1 hW) ha hb)
  clear E b1
  go_enter Tryz.func52, Tryz.ntmps52
  go_wp2_with (first | (go_at_call 92; with_reducible refine hh.mono ?_; clear hh; rintro e w2 ⟨q2, rfl, H2⟩; dsimp only))
  go_ret
  exact ⟨q2, rfl, H2.rel, hB0.trans (H2.low.mono hB0.size)⟩
theorem rf_c {w : World} {v : Value} {n : Nat} {x : Nat → Ev} (E : Evs w v n x) (hn : n ≤ 64) : Calls Tryz.prog 54 #[v] w fun e w' => Got w n (rfR n x) e w' := by
  obtain ⟨ao, cap, rfl⟩ := E.len
  have b1 : Boxed (w.alloc (Obj.cells #[.slice ao n cap] 63)) w.heap.size 63 (.slice ao n cap) := Boxed.new w 63 _
  have hB0 := below_alloc w (Obj.cells #[.slice ao n cap] 63)
  have hh := such_B (E.grow hB0) hn 96 (enters_of Tryz.func96 (by kernel_rfl) rfl) (ptr w.heap.size 0) (rfB x) (fun a b ha hb W hW => rf_k ((E.grow hB0).grow hW) (boxed_grow b1 hW) ha hb)
  clear E b1
  go_enter Tryz.func54, Tryz.ntmps54
  go_wp2_with (first | (go_at_call 92; with_reducible refine hh.mono ?_; clear hh; rintro e w2 ⟨q2, rfl, H2⟩; dsimp only))
  go_ret
  exact ⟨q2, rfl, H2.rel, hB0.trans (H2.low.mono hB0.size)⟩
theorem older_c {w : World} {v : Value} {n : Nat} {x : Nat → Ev} (E : Evs w v n x) (hn : n ≤ 64) : Calls Tryz.prog 99 #[v] w fun e w' => Got w n (olderR n x) e w' := by
  obtain ⟨ao, cap, rfl⟩ := E.len
  have b1 : Boxed (w.alloc (Obj.cells #[.slice ao n cap] 63)) w.heap.size 63 (.slice ao n cap) := Boxed.new w 63 _
  have hB0 := below_alloc w (Obj.cells #[.slice ao n cap] 63)
  have hh := such_B (E.grow hB0) hn 137 (enters_of Tryz.func137 (by kernel_rfl) rfl) (ptr w.heap.size 0) (olderB x) (fun a b ha hb W hW => older_k ((E.grow hB0).grow hW) (boxed_grow b1 hW) ha hb)
  clear E b1
  go_enter Tryz.func99, Tryz.ntmps99
  go_wp2_with (first | (go_at_call 92; with_reducible refine hh.mono ?_; clear hh; rintro e w2 ⟨q2, rfl, H2⟩; dsimp only))
  go_ret
  exact ⟨q2, rfl, H2.rel, hB0.trans (H2.low.mono hB0.size)⟩
end Go.Proofs.YtnedkielehmneaaGreatDoor
