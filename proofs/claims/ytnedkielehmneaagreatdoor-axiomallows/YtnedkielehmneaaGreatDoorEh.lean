/- formed, ownStamp, readRight. -/
import Derived.Test.YtnedkielehmneaaGreatDoorEg
namespace Go.Proofs.YtnedkielehmneaaGreatDoor
open Go.RowKit
open Go.Shelf
set_option linter.unusedVariables false
set_option linter.unusedSimpArgs false
set_option maxRecDepth 8000

open Axm
set_option maxHeartbeats 1000000 in
theorem ownStamp_c {w : World} {v : Value} {n : Nat} {x : Nat → Ev} (E : Evs w v n x) {a : Nat} (ha : a < n) : Calls Tryz.prog 69 #[v, vI a] w fun e w' => e = .returned (.bool (ownStamp n x a)) ∧ Below w.heap.size w w' := by
  obtain ⟨ra, cap, rfl, hc⟩ := E.cell (by omega)
  obtain ⟨s0, s1, s2, A⟩ := hc a ha
  have hai : (a : Int) < n := by omega
  obtain ⟨r, hr⟩ : ∃ r, r = ownStamp n x a := ⟨_, rfl⟩
  rw [← hr]
  replace hr := show Hid _ from hr
  go_enter Tryz.func69, Tryz.ntmps69
  go_upto_region 1 with fail
  have hB2 : Below w.heap.size w ((w.alloc (Obj.cells #[.slice (some ra) n cap] 63)).alloc (Obj.cells #[vI a] 3)) := ((Below.refl _ w).alloc (Nat.le_refl _) _).alloc (by simp) _
  have b1 : Boxed ((w.alloc (Obj.cells #[.slice (some ra) n cap] 63)).alloc (Obj.cells #[vI a] 3)) w.heap.size 63 (.slice (some ra) n cap) := (Boxed.new w 63 (.slice (some ra) n cap)).alloc _
  have b2 : Boxed ((w.alloc (Obj.cells #[.slice (some ra) n cap] 63)).alloc (Obj.cells #[vI a] 3)) (w.heap.size + 1) 3 (vI a) := by
    have := Boxed.new (w.alloc (Obj.cells #[.slice (some ra) n cap] 63)) 3 (vI a)
    rwa [World.size_alloc] at this
  have A2 := A.grow hB2
  have E2 := E.grow hB2
  generalize ((w.alloc (Obj.cells #[.slice (some ra) n cap] 63)).alloc (Obj.cells #[vI a] 3)) = W2 at *
  have d1 := b1.cell
  have d2 := b2.cell
  have c9 := A2.c9
  have hs := some_C E2 107 (enters_of Tryz.func107 (by kernel_rfl) rfl) (ptr (w.heap.size + 1) 0) (ptr w.heap.size 0) (fun b => !decide (a = b) && wt x b && oneStamp x a b) (fun b hb W hW => own_k (E2.grow hW) (boxed_grow b1 hW) (boxed_grow b2 hW) ha hb)
  clear hc A A2 E E2 b1 b2
  by_cases h1 : (x a).stamp ≥ 1
  · have hv : r = !(someB n fun b => !decide (a = b) && wt x b && oneStamp x a b) := by rw [hr.out, ownStamp, decide_eq_true h1]; rfl
    go_wp2_with (first | (go_at_call 63; with_reducible refine hs.mono ?_; clear hs; rintro e w2 ⟨rfl, hB⟩; dsimp only))
    go_ret
    exact ⟨by first | rfl | (rw [hv]; rfl), hB2.trans (hB.mono hB2.size)⟩
  · have hv : r = false := by rw [hr.out, ownStamp, decide_eq_false h1]; rfl
    go_wp2
    go_ret
    exact ⟨by first | rfl | (rw [hv]; rfl), hB2⟩
set_option maxHeartbeats 1000000 in
theorem readRight_c {w : World} {v : Value} {n : Nat} {x : Nat → Ev} (E : Evs w v n x) {a : Nat} (ha : a < n) : Calls Tryz.prog 71 #[v, vI a] w fun e w' => e = .returned (.bool (readRight n x a)) ∧ Below w.heap.size w w' := by
  obtain ⟨ra, cap, rfl, hc⟩ := E.cell (by omega)
  obtain ⟨s0, s1, s2, A⟩ := hc a ha
  have hai : (a : Int) < n := by omega
  obtain ⟨r, hr⟩ : ∃ r, r = readRight n x a := ⟨_, rfl⟩
  rw [← hr]
  replace hr := show Hid _ from hr
  go_enter Tryz.func71, Tryz.ntmps71
  go_upto_region 1 with fail
  have hB2 : Below w.heap.size w ((w.alloc (Obj.cells #[.slice (some ra) n cap] 63)).alloc (Obj.cells #[vI a] 3)) := ((Below.refl _ w).alloc (Nat.le_refl _) _).alloc (by simp) _
  have b1 : Boxed ((w.alloc (Obj.cells #[.slice (some ra) n cap] 63)).alloc (Obj.cells #[vI a] 3)) w.heap.size 63 (.slice (some ra) n cap) := (Boxed.new w 63 (.slice (some ra) n cap)).alloc _
  have b2 : Boxed ((w.alloc (Obj.cells #[.slice (some ra) n cap] 63)).alloc (Obj.cells #[vI a] 3)) (w.heap.size + 1) 3 (vI a) := by
    have := Boxed.new (w.alloc (Obj.cells #[.slice (some ra) n cap] 63)) 3 (vI a)
    rwa [World.size_alloc] at this
  have A2 := A.grow hB2
  have E2 := E.grow hB2
  generalize ((w.alloc (Obj.cells #[.slice (some ra) n cap] 63)).alloc (Obj.cells #[vI a] 3)) = W2 at *
  have d1 := b1.cell
  have d2 := b2.cell
  have c9 := A2.c9
  have hs := some_C E2 108 (enters_of Tryz.func108 (by kernel_rfl) rfl) (ptr w.heap.size 0) (ptr (w.heap.size + 1) 0) (fun b => rd x b && oneStamp x a b && !decide ((x a).value = (x b).value)) (fun b hb W hW => same_k (E2.grow hW) (boxed_grow b1 hW) (boxed_grow b2 hW) ha hb)
  have ht := some_C E2 109 (enters_of Tryz.func109 (by kernel_rfl) rfl) (ptr w.heap.size 0) (ptr (w.heap.size + 1) 0) (fun b => wt x b && oneStamp x a b && decide ((x a).value = (x b).value)) (fun b hb W hW => source_k (E2.grow hW) (boxed_grow b1 hW) (boxed_grow b2 hW) ha hb)
  clear hc A A2 E E2 b1 b2
  by_cases h1 : (x a).stamp = 0
  · go_wp2_with (first | (go_at_call 63; with_reducible refine hs.mono ?_; clear hs; rintro e w2 ⟨rfl, hB⟩; dsimp only))
    go_ret
    exact ⟨by rw [hr.out]; simp [readRight, h1], hB2.trans (hB.mono hB2.size)⟩
  · go_wp2_with (first | (go_at_call 63; with_reducible refine ht.mono ?_; clear ht; rintro e w2 ⟨rfl, hB⟩; dsimp only))
    go_ret
    exact ⟨by rw [hr.out]; simp [readRight, h1], hB2.trans (hB.mono hB2.size)⟩
set_option maxHeartbeats 4000000 in
theorem formed_c {w : World} {v : Value} {n : Nat} {x : Nat → Ev} (E : Evs w v n x) {a : Nat} (ha : a < n) : Calls Tryz.prog 35 #[v, vI a] w fun e w' => e = .returned (.bool (formed n x a)) ∧ Below w.heap.size w w' := by
  obtain ⟨ra, cap, rfl, hc⟩ := E.cell (by omega)
  obtain ⟨s0, s1, s2, A⟩ := hc a ha
  have hai : (a : Int) < n := by omega
  obtain ⟨r, hr⟩ : ∃ r, r = Axm.formed n x a := ⟨_, rfl⟩
  rw [← hr]
  replace hr := show Hid _ from hr
  go_enter Tryz.func35, Tryz.ntmps35
  go_upto_region 1 with fail
  have hB2 : Below w.heap.size w ((w.alloc (Obj.cells #[.slice (some ra) n cap] 63)).alloc (Obj.cells #[vI a] 3)) := ((Below.refl _ w).alloc (Nat.le_refl _) _).alloc (by simp) _
  have b1 : Boxed ((w.alloc (Obj.cells #[.slice (some ra) n cap] 63)).alloc (Obj.cells #[vI a] 3)) w.heap.size 63 (.slice (some ra) n cap) := (Boxed.new w 63 (.slice (some ra) n cap)).alloc _
  have b2 : Boxed ((w.alloc (Obj.cells #[.slice (some ra) n cap] 63)).alloc (Obj.cells #[vI a] 3)) (w.heap.size + 1) 3 (vI a) := by
    have := Boxed.new (w.alloc (Obj.cells #[.slice (some ra) n cap] 63)) 3 (vI a)
    rwa [World.size_alloc] at this
  have A2 := A.grow hB2
  have E2 := E.grow hB2
  generalize ((w.alloc (Obj.cells #[.slice (some ra) n cap] 63)).alloc (Obj.cells #[vI a] 3)) = W2 at *
  have d1 := b1.cell
  have d2 := b2.cell
  have hone := A2.one
  have hai2 : (a : Int) < n := hai
  go_upto_region 2 with (first | (with_reducible refine wpList_load36 rfl _ rfl rfl A2 ?_; simp only [Act.put, List.setIfInBounds_toArray, List.set_cons_succ, List.set_cons_zero]) | (with_reducible refine wpList_new36 rfl rfl ?_; intro w3 L3 hB3 hsz3; simp only [Act.put, List.setIfInBounds_toArray, List.set_cons_succ, List.set_cons_zero]) | (with_reducible refine wpList_store36 rfl _ _ rfl rfl L3 rfl rfl hone ?_; intro w4 L hG4 hsz4; simp only [Act.put, List.setIfInBounds_toArray, List.set_cons_succ, List.set_cons_zero]))
  have hB4 : Below W2.heap.size W2 w4 := hB3.trans (hG4.below hB3.size (fun k hk => by rw [hk]; exact Nat.le_refl _))
  have hB : Below w.heap.size w w4 := hB2.trans (hB4.mono hB2.size)
  have E4 := E2.grow hB4
  have b14 := boxed_grow b1 hB4
  have b24 := boxed_grow b2 hB4
  have hs := some_C E4 64 (enters_of Tryz.func64 (by kernel_rfl) rfl) (ptr (w.heap.size + 1) 0) (ptr w.heap.size 0) (fun b => !decide (a = b) && onePlace x a b) (fun b hb W hW => twin_k (E4.grow hW) (boxed_grow b14 hW) (boxed_grow b24 hW) ha hb)
  change Calls Tryz.prog 63 _ w4 (fun e w' => e = .returned (.bool (twin n x a)) ∧ Below w4.heap.size w4 w') at hs
  generalize W2.heap.size = t at *
  have q1 := b14.cell
  have q2 := b24.cell
  have e0 : w4.cell? ⟨t, 0, none⟩ = some (vI (x a).core) := L.cell 0
  have e1 : w4.cell? ⟨t, 1, none⟩ = some (vI (x a).po) := L.cell 1
  clear hc A A2 E E2 b1 b2 d1 d2 hB2 hB4 hG4 hsz4 hB3 L3 hsz3 E4 b14 b24 hone
  by_cases h1 : (x a).core < 0
  · have hv : r = false := by rw [hr.out, Axm.formed, if_pos h1]
    go_wp2
    go_ret
    exact ⟨by first | rfl | (rw [hv]; rfl), hB⟩
  · by_cases h2 : (x a).core ≥ 8
    · have hv : r = false := by rw [hr.out, Axm.formed, if_neg h1, if_pos h2]
      go_wp2
      go_ret
      exact ⟨by first | rfl | (rw [hv]; rfl), hB⟩
    · by_cases h3 : (x a).po < 0
      · have hv : r = false := by rw [hr.out, Axm.formed, if_neg h1, if_neg h2, if_pos h3]
        go_wp2
        go_ret
        exact ⟨by first | rfl | (rw [hv]; rfl), hB⟩
      · cases h4 : twin n x a with
        | true =>
          have hv : r = false := by rw [hr.out, Axm.formed, if_neg h1, if_neg h2, if_neg h3, h4]; rfl
          rw [h4] at hs
          go_wp2_with (first | (go_at_call 63; with_reducible refine hs.mono ?_; clear hs; rintro e w5 ⟨rfl, hB5⟩; dsimp only))
          go_ret
          exact ⟨by first | rfl | (rw [hv]; rfl), hB.trans (hB5.mono hB.size)⟩
        | false =>
          have hr2 : r = formE (x a) := by rw [hr.out, Axm.formed, if_neg h1, if_neg h2, if_neg h3, h4]; rfl
          rw [h4] at hs
          replace hr2 := show Hid _ from hr2
          go_upto_region 4 with (first | (go_at_call 63; with_reducible refine hs.mono ?_; clear hs; rintro e w5 ⟨rfl, hB5⟩; dsimp only))
          replace hB := hB.trans (hB5.mono hB.size)
          replace L := L.grow hB5
          clear hB5 e0 e1 q1 q2 h1 h2 h3 h4 hr
          have e2 : w5.cell? ⟨t, 2, none⟩ = some (vI (x a).kind) := L.cell 2
          have e5 : w5.cell? ⟨t, 5, none⟩ = some (vI (x a).acq) := L.cell 5
          have e6 : w5.cell? ⟨t, 6, none⟩ = some (.bool (x a).rel) := L.cell 6
          have e8 : w5.cell? ⟨t, 8, none⟩ = some (vI (x a).fence) := L.cell 8
          by_cases k1 : (x a).kind = 1
          · by_cases m1 : 0 ≤ (x a).acq
            · by_cases m2 : (x a).acq ≤ 2
              · cases m3 : (x a).rel with
                | true =>
                  have hv : r = false := by rw [hr2.out, formE, if_pos k1, m3]; simp
                  rw [m3] at e6
                  go_wp2
                  go_ret
                  exact ⟨by first | rfl | (rw [hv]; rfl), hB⟩
                | false =>
                  have hv : r = ((x a).fence == 0) := by rw [hr2.out, formE, if_pos k1, m3, decide_eq_true m1, decide_eq_true m2]; rfl
                  rw [m3] at e6
                  go_wp2
                  go_ret
                  exact ⟨by first | rfl | (rw [hv]; rfl), hB⟩
              · have hv : r = false := by rw [hr2.out, formE, if_pos k1, decide_eq_false m2]; simp
                go_wp2
                go_ret
                exact ⟨by first | rfl | (rw [hv]; rfl), hB⟩
            · have hv : r = false := by rw [hr2.out, formE, if_pos k1, decide_eq_false m1]; simp
              go_wp2
              go_ret
              exact ⟨by first | rfl | (rw [hv]; rfl), hB⟩
          · by_cases k2 : (x a).kind = 2
            · by_cases m1 : (x a).acq = 0
              · have hv : r = ((x a).fence == 0) := by rw [hr2.out, formE, if_neg k1, if_pos k2, decide_eq_true m1]; rfl
                go_wp2
                go_ret
                exact ⟨by first | rfl | (rw [hv]; rfl), hB⟩
              · have hv : r = false := by rw [hr2.out, formE, if_neg k1, if_pos k2, decide_eq_false m1]; rfl
                go_wp2
                go_ret
                exact ⟨by first | rfl | (rw [hv]; rfl), hB⟩
            · by_cases k3 : (x a).kind = 3
              · have hf := isFence_c (x a).fence w5
                have hnt := nothing_c (x a) (s0 := s0) (s1 := s1) (s2 := s2) w5
                cases m1 : isFence (x a).fence with
                | true =>
                  have hv : r = nothing (x a) := by rw [hr2.out, formE, if_neg k1, if_neg k2, if_pos k3, m1]; rfl
                  rw [m1] at hf
                  go_wp2_with (first | (go_at_call 66; with_reducible refine hf.mono ?_; clear hf; rintro e w6 ⟨rfl, rfl⟩; dsimp only) | (go_at_call 67; with_reducible refine hnt.mono ?_; rintro e w7 ⟨rfl, hB7⟩; dsimp only) | (refine wpList_loadLg _ rfl rfl rfl L ?_; simp only [Act.put, List.setIfInBounds_toArray, List.set_cons_succ, List.set_cons_zero]))
                  go_ret
                  exact ⟨by first | rfl | (rw [hv]; rfl), hB.trans (hB7.mono hB.size)⟩
                | false =>
                  have hv : r = false := by rw [hr2.out, formE, if_neg k1, if_neg k2, if_pos k3, m1]; rfl
                  rw [m1] at hf
                  go_wp2_with (first | (go_at_call 66; with_reducible refine hf.mono ?_; clear hf; rintro e w6 ⟨rfl, rfl⟩; dsimp only))
                  go_ret
                  exact ⟨by first | rfl | (rw [hv]; rfl), hB⟩
              · by_cases k4 : (x a).kind = 4
                · have hnt := nothing_c (x a) (s0 := s0) (s1 := s1) (s2 := s2) w5
                  by_cases m1 : (x a).fence = 0
                  · have hv : r = nothing (x a) := by rw [hr2.out, formE, if_neg k1, if_neg k2, if_neg k3, if_pos k4, decide_eq_true m1]; rfl
                    go_wp2_with (first | (go_at_call 67; with_reducible refine hnt.mono ?_; rintro e w7 ⟨rfl, hB7⟩; dsimp only) | (refine wpList_loadLg _ rfl rfl rfl L ?_; simp only [Act.put, List.setIfInBounds_toArray, List.set_cons_succ, List.set_cons_zero]))
                    go_ret
                    exact ⟨by first | rfl | (rw [hv]; rfl), hB.trans (hB7.mono hB.size)⟩
                  · have hv : r = false := by rw [hr2.out, formE, if_neg k1, if_neg k2, if_neg k3, if_pos k4, decide_eq_false m1]; rfl
                    go_wp2
                    go_ret
                    exact ⟨by first | rfl | (rw [hv]; rfl), hB⟩
                · have hv : r = false := by rw [hr2.out, formE, if_neg k1, if_neg k2, if_neg k3, if_neg k4]
                  go_wp2
                  go_ret
                  exact ⟨by first | rfl | (rw [hv]; rfl), hB⟩
end Go.Proofs.YtnedkielehmneaaGreatDoor
